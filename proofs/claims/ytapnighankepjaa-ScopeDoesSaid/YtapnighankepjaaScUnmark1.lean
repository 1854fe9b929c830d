/- Identifiers of layer 5: unmark, where there is no mark. -/
import Derived.Test.YtapnighankepjaaScIdent2
namespace Go.Proofs.Ytapnighankepjaa.Sc
open Go.ChangeShapes Go.WideShapes Go.ChangeAt Go.RowKit
set_option linter.unusedVariables false
set_option linter.unusedSimpArgs false
set_option maxRecDepth 100000 in
set_option maxHeartbeats 8000000 in
theorem unmark_none (x : Idn) (hx : x.Ok) (h0 : x.m = []) (w : World) : Calls Try.prog 46 #[x.V] w fun e w' => e = .returned (.tuple #[x.less.V, .int .i64 x.last]) ∧ Below w.heap.size w w' := by
  have HX := Lib.hid hx
  have HM := Lib.hid (many_any x hx)
  have hm := hx.m
  clear hx
  have hl : x.less.V = x.V := by unfold Idn.less; rw [h0]; cases x; simp only at h0; subst h0; rfl
  have hz : x.last = 0 := by unfold Idn.last; rw [h0]; rfl
  have hn : (x.m.length : Int) = 0 := by rw [h0]; rfl
  rw [hl, hz]
  have HN := Lib.hid hn
  clear h0 hl hz hn
  unfold Idn.V idA at HM ⊢
  generalize pad x.m = p at *
  go_enter Try.func46, Try.ntmps46
  go_wp2_with fail
  refine (HM.out _).mono ?_
  rintro e w2 ⟨rfl, hb⟩
  rw [HN.out]
  obtain ⟨n1, n2⟩ := two_new w (A17 x.s p) (A17 [] (fun _ => 0)) 75 75
  have B1 : Bk w2 w.heap.size x.s p := (hb.block _ (Array.getElem?_eq_some_iff.1 n1).1).trans n1
  have B2 : Bk w2 (w.heap.size + 1) [] (fun _ => 0) := (hb.block _ (Array.getElem?_eq_some_iff.1 n2).1).trans n2
  have HB := Lib.hid ((bel_two w _ _).trans (hb.mono (bel_two w _ _).size))
  clear n1 n2 hb
  have e0 : w2.cell? ⟨w.heap.size, 0, none⟩ = some (.string ⟨x.s.toArray⟩) := (B1.cell 0).trans rfl
  have e1 : w2.cell? ⟨w.heap.size, 1, none⟩ = some (.int .i32 (p 0)) := (B1.cell 1).trans rfl
  have e2 : w2.cell? ⟨w.heap.size, 2, none⟩ = some (.int .i32 (p 1)) := (B1.cell 2).trans rfl
  have e3 : w2.cell? ⟨w.heap.size, 3, none⟩ = some (.int .i32 (p 2)) := (B1.cell 3).trans rfl
  have e4 : w2.cell? ⟨w.heap.size, 4, none⟩ = some (.int .i32 (p 3)) := (B1.cell 4).trans rfl
  have e5 : w2.cell? ⟨w.heap.size, 5, none⟩ = some (.int .i32 (p 4)) := (B1.cell 5).trans rfl
  have e6 : w2.cell? ⟨w.heap.size, 6, none⟩ = some (.int .i32 (p 5)) := (B1.cell 6).trans rfl
  have e7 : w2.cell? ⟨w.heap.size, 7, none⟩ = some (.int .i32 (p 6)) := (B1.cell 7).trans rfl
  have e8 : w2.cell? ⟨w.heap.size, 8, none⟩ = some (.int .i32 (p 7)) := (B1.cell 8).trans rfl
  have e9 : w2.cell? ⟨w.heap.size, 9, none⟩ = some (.int .i32 (p 8)) := (B1.cell 9).trans rfl
  have e10 : w2.cell? ⟨w.heap.size, 10, none⟩ = some (.int .i32 (p 9)) := (B1.cell 10).trans rfl
  have e11 : w2.cell? ⟨w.heap.size, 11, none⟩ = some (.int .i32 (p 10)) := (B1.cell 11).trans rfl
  have e12 : w2.cell? ⟨w.heap.size, 12, none⟩ = some (.int .i32 (p 11)) := (B1.cell 12).trans rfl
  have e13 : w2.cell? ⟨w.heap.size, 13, none⟩ = some (.int .i32 (p 12)) := (B1.cell 13).trans rfl
  have e14 : w2.cell? ⟨w.heap.size, 14, none⟩ = some (.int .i32 (p 13)) := (B1.cell 14).trans rfl
  have e15 : w2.cell? ⟨w.heap.size, 15, none⟩ = some (.int .i32 (p 14)) := (B1.cell 15).trans rfl
  have e16 : w2.cell? ⟨w.heap.size, 16, none⟩ = some (.int .i32 (p 15)) := (B1.cell 16).trans rfl
  go_wp2_with (refine wpList_store_row rfl 75 (.tmp 2) (.tmp 11) rfl (w.heap.size + 1) (A17 x.s p) rfl rfl 75 (A17 [] (fun _ => 0)) B2 info_id rfl (A17_one _ _) ?_)
  have B3 : Bk (w2.setRow (w.heap.size + 1) (A17 x.s p)) (w.heap.size + 1) x.s p := B2.row
  have HB3 := Lib.hid (bel_row HB.out (w.heap.size + 1) (A17 x.s p) (by omega))
  exact unmark_fin w _ (w.heap.size + 1) _ x.s p 0 rfl rfl rfl B3 HB3.out
end Go.Proofs.Ytapnighankepjaa.Sc
