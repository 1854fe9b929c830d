/- Identifiers of layer 5: unmark, where there is one. -/
import Derived.Test.YtapnighankepjaaScIdent2
namespace Go.Proofs.Ytapnighankepjaa.Sc
open Go.ChangeShapes Go.WideShapes Go.ChangeAt Go.RowKit
set_option linter.unusedVariables false
set_option linter.unusedSimpArgs false
set_option maxRecDepth 100000 in
set_option maxHeartbeats 8000000 in
theorem unmark_some (x : Idn) (hx : x.Ok) (h0 : x.m ≠ []) (w : World) : Calls Try.prog 46 #[x.V] w fun e w' => e = .returned (.tuple #[x.less.V, .int .i64 x.last]) ∧ Below w.heap.size w w' := by
  have HX := Lib.hid hx
  have HM := Lib.hid (many_any x hx)
  have hm := hx.m
  clear hx
  obtain ⟨k, hk⟩ : ∃ k, x.m.length = k + 1 := ⟨x.m.length - 1, by have := List.length_pos_iff.2 h0; omega⟩
  have hkk : x.m.length - 1 = k := by omega
  have hn : (x.m.length : Int) = (k : Int) + 1 := by omega
  have hk16 : k < 16 := by omega
  have hpl := pad_last x h0
  have hless := pad_less x h0
  rw [hkk] at hpl hless
  have hin := pad_in HX.out (k := k) (by omega)
  rw [hpl] at hin
  have hw := IntWalk.i64_in x.last (by omega)
  have HN := Lib.hid hn
  have HL := Lib.hid hless
  obtain ⟨q, hq⟩ : ∃ q, pad x.less.m = q := ⟨_, rfl⟩
  rw [hq] at HL
  have hxs : x.less.s = x.s := rfl
  unfold Idn.V idA at HM ⊢
  rw [hq, hxs]
  obtain ⟨l, hl⟩ : ∃ l, x.last = l := ⟨_, rfl⟩
  rw [hl] at hpl hw ⊢
  generalize pad x.m = p at *
  have hkm : IntKind.i64.wrap ((k : Int) + 1 - 1) = (k : Int) := by rw [show (k : Int) + 1 - 1 = (k : Int) by omega]; exact IntWalk.i64_in _ (by omega)
  have hd0 : decide ((k : Int) < 0) = false := by simp
  have i1 : (k : Int) < 16 := by omega
  clear h0 hk hkk hn hin hq hxs hl hless
  go_enter Try.func46, Try.ntmps46
  go_wp2_with fail
  refine (HM.out _).mono ?_
  rintro e w2 ⟨rfl, hb⟩
  rw [HN.out]
  obtain ⟨n1, n2⟩ := two_new w (A17 x.s p) (A17 [] (fun _ => 0)) 75 75
  have B1 : Bk w2 w.heap.size x.s p := (hb.block _ (Array.getElem?_eq_some_iff.1 n1).1).trans n1
  have B2 : Bk w2 (w.heap.size + 1) [] (fun _ => 0) := (hb.block _ (Array.getElem?_eq_some_iff.1 n2).1).trans n2
  have HB := Lib.hid ((bel_two w _ _).trans (hb.mono (bel_two w _ _).size))
  have ek : w2.cell? ⟨w.heap.size, 1 + k, none⟩ = some (.int .i32 l) := by rw [B1.cell, ← hpl]; exact A17_at x.s p k hk16
  have ef : w2.frozen? ⟨w.heap.size, 1 + k, none⟩ = false := B1.frozen _
  have HB1 := Lib.hid B1
  have HB2 := Lib.hid B2
  clear n1 n2 hb B1 B2 hpl HM
  have HB3 : Hid (Bk (w2.setCell ⟨w.heap.size, 1 + k, none⟩ (.int .i32 0)) w.heap.size x.s q) := Lib.hid ((HB1.out.set k hk16 0).to (fun i _ => HL.out i))
  have HB4 : Hid (Bk (w2.setCell ⟨w.heap.size, 1 + k, none⟩ (.int .i32 0)) (w.heap.size + 1) [] (fun _ => 0)) := Lib.hid (by show _[_]? = _; rw [Below.heap_setCell _ _ _ _ (by simp)]; exact HB2.out)
  have HC := HB3.out
  have e0 : (w2.setCell ⟨w.heap.size, 1 + k, none⟩ (.int .i32 0)).cell? ⟨w.heap.size, 0, none⟩ = some (.string ⟨x.s.toArray⟩) := (HC.cell 0).trans rfl
  have e1 : (w2.setCell ⟨w.heap.size, 1 + k, none⟩ (.int .i32 0)).cell? ⟨w.heap.size, 1, none⟩ = some (.int .i32 (q 0)) := (HC.cell 1).trans rfl
  have e2 : (w2.setCell ⟨w.heap.size, 1 + k, none⟩ (.int .i32 0)).cell? ⟨w.heap.size, 2, none⟩ = some (.int .i32 (q 1)) := (HC.cell 2).trans rfl
  have e3 : (w2.setCell ⟨w.heap.size, 1 + k, none⟩ (.int .i32 0)).cell? ⟨w.heap.size, 3, none⟩ = some (.int .i32 (q 2)) := (HC.cell 3).trans rfl
  have e4 : (w2.setCell ⟨w.heap.size, 1 + k, none⟩ (.int .i32 0)).cell? ⟨w.heap.size, 4, none⟩ = some (.int .i32 (q 3)) := (HC.cell 4).trans rfl
  have e5 : (w2.setCell ⟨w.heap.size, 1 + k, none⟩ (.int .i32 0)).cell? ⟨w.heap.size, 5, none⟩ = some (.int .i32 (q 4)) := (HC.cell 5).trans rfl
  have e6 : (w2.setCell ⟨w.heap.size, 1 + k, none⟩ (.int .i32 0)).cell? ⟨w.heap.size, 6, none⟩ = some (.int .i32 (q 5)) := (HC.cell 6).trans rfl
  have e7 : (w2.setCell ⟨w.heap.size, 1 + k, none⟩ (.int .i32 0)).cell? ⟨w.heap.size, 7, none⟩ = some (.int .i32 (q 6)) := (HC.cell 7).trans rfl
  have e8 : (w2.setCell ⟨w.heap.size, 1 + k, none⟩ (.int .i32 0)).cell? ⟨w.heap.size, 8, none⟩ = some (.int .i32 (q 7)) := (HC.cell 8).trans rfl
  have e9 : (w2.setCell ⟨w.heap.size, 1 + k, none⟩ (.int .i32 0)).cell? ⟨w.heap.size, 9, none⟩ = some (.int .i32 (q 8)) := (HC.cell 9).trans rfl
  have e10 : (w2.setCell ⟨w.heap.size, 1 + k, none⟩ (.int .i32 0)).cell? ⟨w.heap.size, 10, none⟩ = some (.int .i32 (q 9)) := (HC.cell 10).trans rfl
  have e11 : (w2.setCell ⟨w.heap.size, 1 + k, none⟩ (.int .i32 0)).cell? ⟨w.heap.size, 11, none⟩ = some (.int .i32 (q 10)) := (HC.cell 11).trans rfl
  have e12 : (w2.setCell ⟨w.heap.size, 1 + k, none⟩ (.int .i32 0)).cell? ⟨w.heap.size, 12, none⟩ = some (.int .i32 (q 11)) := (HC.cell 12).trans rfl
  have e13 : (w2.setCell ⟨w.heap.size, 1 + k, none⟩ (.int .i32 0)).cell? ⟨w.heap.size, 13, none⟩ = some (.int .i32 (q 12)) := (HC.cell 13).trans rfl
  have e14 : (w2.setCell ⟨w.heap.size, 1 + k, none⟩ (.int .i32 0)).cell? ⟨w.heap.size, 14, none⟩ = some (.int .i32 (q 13)) := (HC.cell 14).trans rfl
  have e15 : (w2.setCell ⟨w.heap.size, 1 + k, none⟩ (.int .i32 0)).cell? ⟨w.heap.size, 15, none⟩ = some (.int .i32 (q 14)) := (HC.cell 15).trans rfl
  have e16 : (w2.setCell ⟨w.heap.size, 1 + k, none⟩ (.int .i32 0)).cell? ⟨w.heap.size, 16, none⟩ = some (.int .i32 (q 15)) := (HC.cell 16).trans rfl
  clear HC
  go_wp2_with (refine wpList_store_row rfl 75 (.tmp 2) (.tmp 19) rfl (w.heap.size + 1) (A17 x.s q) rfl rfl 75 (A17 [] (fun _ => 0)) HB4.out info_id rfl (A17_one _ _) ?_)
  have B5 : Bk ((w2.setCell ⟨w.heap.size, 1 + k, none⟩ (.int .i32 0)).setRow (w.heap.size + 1) (A17 x.s q)) (w.heap.size + 1) x.s q := HB4.out.row
  have HB5 := Lib.hid (bel_row (HB.out.setCell (p := ⟨w.heap.size, 1 + k, none⟩) (Nat.le_refl _) (.int .i32 0)) (w.heap.size + 1) (A17 x.s q) (by omega))
  exact unmark_fin w _ (w.heap.size + 1) _ x.s q l rfl rfl rfl B5 HB5.out
end Go.Proofs.Ytapnighankepjaa.Sc
