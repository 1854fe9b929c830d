/- Identifiers of layer 5: what identify returns. -/
import Derived.Test.YtapnighankepjaaScIdent2
import Derived.Test.YtapnighankepjaaDatCheck
namespace Go.Proofs.Ytapnighankepjaa.Sc
open Go.ChangeShapes Go.WideShapes Go.ChangeAt Go.RowKit
set_option linter.unusedVariables false
set_option linter.unusedSimpArgs false

/-- The identifier that a datum is. -/
def idn (d : Da.Dt) : Idn := ⟨d.S.data.toList, d.M⟩
def zeroId : Value := idA [] (fun _ => 0)
theorem identify_fin (w WF : World) (b : Nat) (act : Act) (s : Bs) (p : Nat → Int) (z : Bool) (h2 : act.tmps.getD 2 undef = .pointer (some ⟨b, 0, none⟩)) (h3 : act.tmps.getD 3 undef = .bool z) (hd : act.defers = []) (HB : Bk WF b s p) (hbel : Below w.heap.size w WF) :
    bodyPost Try.prog Try.f32 (fun e' w' => e' = .returned (.tuple #[idA s p, .bool z]) ∧ Below w.heap.size w w') Exit.ret act WF := by
  rw [Array.getD_eq_getD_getElem?] at h2 h3
  have e0 : WF.cell? ⟨b, 0, none⟩ = some (.string ⟨s.toArray⟩) := (HB.cell 0).trans rfl
  have e1 : WF.cell? ⟨b, 1, none⟩ = some (.int .i32 (p 0)) := (HB.cell 1).trans rfl
  have e2 : WF.cell? ⟨b, 2, none⟩ = some (.int .i32 (p 1)) := (HB.cell 2).trans rfl
  have e3 : WF.cell? ⟨b, 3, none⟩ = some (.int .i32 (p 2)) := (HB.cell 3).trans rfl
  have e4 : WF.cell? ⟨b, 4, none⟩ = some (.int .i32 (p 3)) := (HB.cell 4).trans rfl
  have e5 : WF.cell? ⟨b, 5, none⟩ = some (.int .i32 (p 4)) := (HB.cell 5).trans rfl
  have e6 : WF.cell? ⟨b, 6, none⟩ = some (.int .i32 (p 5)) := (HB.cell 6).trans rfl
  have e7 : WF.cell? ⟨b, 7, none⟩ = some (.int .i32 (p 6)) := (HB.cell 7).trans rfl
  have e8 : WF.cell? ⟨b, 8, none⟩ = some (.int .i32 (p 7)) := (HB.cell 8).trans rfl
  have e9 : WF.cell? ⟨b, 9, none⟩ = some (.int .i32 (p 8)) := (HB.cell 9).trans rfl
  have e10 : WF.cell? ⟨b, 10, none⟩ = some (.int .i32 (p 9)) := (HB.cell 10).trans rfl
  have e11 : WF.cell? ⟨b, 11, none⟩ = some (.int .i32 (p 10)) := (HB.cell 11).trans rfl
  have e12 : WF.cell? ⟨b, 12, none⟩ = some (.int .i32 (p 11)) := (HB.cell 12).trans rfl
  have e13 : WF.cell? ⟨b, 13, none⟩ = some (.int .i32 (p 12)) := (HB.cell 13).trans rfl
  have e14 : WF.cell? ⟨b, 14, none⟩ = some (.int .i32 (p 13)) := (HB.cell 14).trans rfl
  have e15 : WF.cell? ⟨b, 15, none⟩ = some (.int .i32 (p 14)) := (HB.cell 15).trans rfl
  have e16 : WF.cell? ⟨b, 16, none⟩ = some (.int .i32 (p 15)) := (HB.cell 16).trans rfl
  refine bodyPost_ret (v := .tuple #[idA s p, .bool z]) ?_ hd ⟨rfl, hbel⟩
  simp [results, Try.results32, go_sem, idA, h2, h3, e0, e1, e2, e3, e4, e5, e6, e7, e8, e9, e10, e11, e12, e13, e14, e15, e16]
def six (d : Da.Dt) (am : Option Addr) (cm : Nat) (al : Option Addr) (cl : Nat) (at_ : Option Addr) (ct : Nat) : Array Value := #[.int .i64 d.K, .int .i64 d.N, .string d.S, .slice am d.M.length cm, .slice al d.L.length cl, .slice at_ d.T.length ct]
set_option maxRecDepth 100000 in
set_option maxHeartbeats 8000000 in
theorem identify_bad (d : Da.Dt) (v : Value) (B : Nat) (w : World) (hd : Da.IsDt w (Da.Lo B) d v) (hB : B ≤ w.heap.size) (hb : ¬ (d.K = 5 ∧ Da.chk d = 0)) :
    Calls Try.prog 32 #[v] w fun e w' => e = .returned (.tuple #[zeroId, .bool false]) ∧ Below w.heap.size w w' := by
  have hd' := hd
  obtain ⟨am, cm, al, cl, at_, ct, rfl, _⟩ := hd'.open_
  have HD := Lib.hid hd
  clear hd hd'
  unfold zeroId
  by_cases h5 : d.K = 5
  · have dk : (d.K != 5) = false := by simp [h5]
    have hc : (Da.chk d != 0) = true := by simp; exact fun h => hb ⟨h5, h⟩
    obtain ⟨c, hcc⟩ : ∃ c, Da.chk d = c := ⟨_, rfl⟩
    rw [hcc] at hc
    have HC := Lib.hid hcc
    clear hb h5 hcc
    go_enter Try.func32, Try.ntmps32
    go_wp2_with fail
    refine (Da.check_any d _ B _ (by exact HD.out.below ((bel_two w _ _).mono hB)) (by simp; omega)).mono ?_
    rintro e w2 ⟨rfl, hb⟩
    rw [HC.out]
    obtain ⟨n1, n2⟩ := two_new w (six d am cm al cl at_ ct) (A17 [] (fun _ => 0)) 33 75
    have B2 : Hid (Bk w2 (w.heap.size + 1) [] (fun _ => 0)) := Lib.hid ((hb.block _ (Array.getElem?_eq_some_iff.1 n2).1).trans n2)
    have HB := Lib.hid ((bel_two w _ _).trans (hb.mono (bel_two w _ _).size))
    clear n1 n2 hb
    go_wp2_with (refine wpList_store_row rfl 75 (.tmp 2) (.tmp 15) rfl (w.heap.size + 1) (A17 [] (fun _ => 0)) rfl rfl 75 (A17 [] (fun _ => 0)) B2.out info_id rfl (A17_one _ _) ?_)
    have B5 : Bk (w2.setRow (w.heap.size + 1) (A17 [] (fun _ => 0))) (w.heap.size + 1) [] (fun _ => 0) := B2.out.row
    have HB5 := Lib.hid (bel_row HB.out (w.heap.size + 1) (A17 [] (fun _ => 0)) (by omega))
    exact identify_fin w _ (w.heap.size + 1) _ [] (fun _ => 0) false rfl rfl rfl B5 HB5.out
  · have dk : (d.K != 5) = true := by simp [h5]
    clear hb h5
    obtain ⟨n1, n2⟩ := two_new w (six d am cm al cl at_ ct) (A17 [] (fun _ => 0)) 33 75
    have B2 := Lib.hid n2
    have HB := Lib.hid (bel_two w (.cells (six d am cm al cl at_ ct) 33) (.cells (A17 [] (fun _ => 0)) 75))
    clear n1 n2
    go_enter Try.func32, Try.ntmps32
    go_wp2_with (refine wpList_store_row rfl 75 (.tmp 2) (.tmp 15) rfl (w.heap.size + 1) (A17 [] (fun _ => 0)) rfl rfl 75 (A17 [] (fun _ => 0)) B2.out info_id rfl (A17_one _ _) ?_)
    have B5 := Lib.hid (Bk.row (s' := []) (q := fun _ => 0) B2.out)
    have HB5 := Lib.hid (bel_row HB.out (w.heap.size + 1) (A17 [] (fun _ => 0)) (by omega))
    exact identify_fin w _ (w.heap.size + 1) _ [] (fun _ => 0) false rfl rfl rfl B5.out HB5.out
end Go.Proofs.Ytapnighankepjaa.Sc
