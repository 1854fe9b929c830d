/- Does a mark look back (layer 5)? The walk. -/
import Derived.Deep.Cut
import Derived.Test.YteolfkkabhileaaMScAwake2
import Derived.Test.YteolfkkabhileaaMScNew
section
namespace Go.Proofs.Yteolfkkabhileaa.Sc
open Go.ChangeShapes Go.WideShapes Go.ChangeAt Go.RowKit
set_option linter.unusedVariables false
set_option linter.unusedSimpArgs false

theorem TabIn.step {w1 w2 : World} {tb B : Nat} {T : Tab} (h : TabIn w2 tb T (fun k => B ≤ k ∨ w1.heap.size ≤ k)) (hB : B ≤ w1.heap.size) : TabIn w2 tb T (fun k => B ≤ k) := h.more (fun k hk => by rcases hk with h | h <;> omega)
theorem row_one {w : World} {Q : Nat → Prop} {g : Nat} (hq : Q g) (hc : w.cell? ⟨g, 0, none⟩ = some (.int .i64 1)) : Da.IntRow w Q (some ⟨g, 0, none⟩) 1 1 [1] :=
  ⟨rfl, Nat.le_refl _, by simp [maxLen], by simp, (fun h => by cases h), (fun z hz => by (obtain rfl : z = 1 := by simpa using hz); decide), fun k hk => ⟨g, 0, rfl, hq, by (obtain rfl : k = 0 := by omega); exact hc⟩⟩
set_option maxRecDepth 100000 in
set_option maxHeartbeats 16000000 in
theorem awake_any (w : World) : Calls Try.prog 11 #[] w fun e w' => e = .returned (.bool true) ∧ Below w.heap.size w w' := by
  go_enter Try.func11, Try.ntmps11
  go_wp2_with fail
  refine (new_any w).mono ?_
  rintro e w1 ⟨rfl, h1, hb1⟩
  obtain ⟨tb, htb⟩ : ∃ tb, w.heap.size + 2 = tb := ⟨_, rfl⟩
  rw [htb] at h1 ⊢
  have H1 := Lib.hid h1
  have HB1 := Lib.hid hb1
  clear h1 hb1 htb
  go_wp2_with fail
  refine (mark_all tb _ _ 0 w1 H1.out).mono ?_
  rintro e w2 ⟨rfl, h2, hc2⟩
  rw [aw1t] at h2
  rw [aw1, show ((markN Tab.new 0 : Nat) : Int) = 1 from rfl]
  have H2 := Lib.hid (h2.step HB1.out.size)
  have HB2 := Lib.hid (HB1.out.trans (hc2.to_below HB1.out.size (fun k hk => hk)))
  clear h2 hc2
  go_wp2_with fail
  refine (sym_any _ none 0 0 w2).mono ?_
  rintro e w3 ⟨rfl, hb3⟩
  have H3 := Lib.hid (H2.out.bel hb3)
  have HB3 := Lib.hid (HB2.out.trans (hb3.mono HB2.out.size))
  clear hb3
  go_wp2_with fail
  refine (ext_all tb aT1 _ 0 7 dX _ w3.heap.size w3 (dt_sym (by decide) (row_nil _ _)) (Nat.le_refl _) H3.out (by decide)).mono ?_
  rintro e w4 ⟨rfl, h4, hc4⟩
  rw [aw2t] at h4
  rw [aw2, show ((extN aT1 0 dX : Nat) : Int) = 1 by unfold extN; rw [aw2]; rfl]
  have H4 := Lib.hid (h4.step HB3.out.size)
  have HB4 := Lib.hid (HB3.out.trans (hc4.to_below HB3.out.size (fun k hk => hk)))
  clear h4 hc4
  go_wp2_with fail
  have hone : Hid ((w4.alloc (.cells #[.int .i64 1] 3)).cell? ⟨w4.heap.size, 0, none⟩ = some (.int .i64 1)) := Lib.hid ((one_new w4 #[.int .i64 1] 3).cell 0)
  have H4a := Lib.hid (H4.out.bel ((Below.refl _ w4).alloc (Nat.le_refl _) (.cells #[.int .i64 1] 3)))
  have HB4a := Lib.hid (HB4.out.alloc HB4.out.size (.cells #[.int .i64 1] 3))
  have hsz4 : w4.heap.size < (w4.alloc (.cells #[.int .i64 1] 3)).heap.size := by simp
  generalize hg4 : w4.heap.size = g4 at hone hsz4 ⊢
  generalize w4.alloc (.cells #[.int .i64 1] 3) = X4 at *
  refine (sym_any _ (some ⟨g4, 0, none⟩) 1 1 X4).mono ?_
  rintro e w5 ⟨rfl, hb5⟩
  have H5 := Lib.hid (H4a.out.bel hb5)
  have HB5 := Lib.hid (HB4a.out.trans (hb5.mono HB4a.out.size))
  have hone5 : Hid (w5.cell? ⟨g4, 0, none⟩ = some (.int .i64 1)) := Lib.hid ((hb5.cell (p := ⟨g4, 0, none⟩) hsz4).trans hone.out)
  have hsz5 : g4 < w5.heap.size := Nat.lt_of_lt_of_le hsz4 hb5.size
  clear hb5 hg4 hsz4
  go_wp2_with fail
  refine (ext_all tb aT2 _ 1 8 dX1 _ w5.heap.size w5 (dt_sym (by decide) (row_one hsz5 hone5.out)) (Nat.le_refl _) H5.out (by decide)).mono ?_
  rintro e w6 ⟨rfl, h6, hc6⟩
  rw [aw3t] at h6
  rw [aw3, show ((extN aT2 1 dX1 : Nat) : Int) = 2 by unfold extN; rw [aw3]; rfl]
  have H6 := Lib.hid (h6.step HB5.out.size)
  have HB6 := Lib.hid (HB5.out.trans (hc6.to_below HB5.out.size (fun k hk => hk)))
  clear h6 hc6
  go_wp2_with fail
  refine (sym_any _ none 0 0 w6).mono ?_
  rintro e w7 ⟨rfl, hb7⟩
  have H7 := Lib.hid (H6.out.bel hb7)
  have HB7 := Lib.hid (HB6.out.trans (hb7.mono HB6.out.size))
  clear hb7
  go_wp2_with fail
  refine (find_all tb aT3 _ 2 dX _ w7.heap.size w7 (dt_sym (by decide) (row_nil _ _)) (Nat.le_refl _) H7.out).mono ?_
  rintro e w8 ⟨rfl, hb8⟩
  rw [aw4, aw4z]
  have H8 := Lib.hid (H7.out.bel hb8)
  have HB8 := Lib.hid (HB7.out.trans (hb8.mono HB7.out.size))
  clear hb8
  go_upto_region 8 with (refine wpList_store_row rfl 49 (.tmp 8) (.tmp 39) rfl w8.heap.size (seenC ⟨1, 7, []⟩) rfl rfl 49 (seenC Seen.zero) (heap_alloc_new w8 _) info_seen rfl (seenC_one _) ?_)
  generalize hX9 : (World.setRow (World.alloc w8 _) w8.heap.size (seenC ⟨1, 7, []⟩)) = W9
  have hb9 : Below w8.heap.size w8 W9 := by rw [← hX9]; exact bel_row ((Below.refl _ _).alloc (Nat.le_refl _) _) _ _ (Nat.le_refl _)
  have hz9 : Da.Blk W9 w8.heap.size 49 (seenC ⟨1, 7, []⟩) := by rw [← hX9]; exact setRow_heap _ _ (seenC Seen.zero) _ _ _ (heap_alloc_new w8 _)
  have H9 := Lib.hid (H8.out.bel hb9)
  have HB9 := Lib.hid (HB8.out.trans (hb9.mono HB8.out.size))
  have HZ9 := Lib.hid hz9
  clear hX9 hb9 hz9
  go_wp2_with fail
  have hone9 : Hid ((W9.alloc (.cells #[.int .i64 1] 3)).cell? ⟨W9.heap.size, 0, none⟩ = some (.int .i64 1)) := Lib.hid ((one_new W9 #[.int .i64 1] 3).cell 0)
  have H9a := Lib.hid (H9.out.bel ((Below.refl _ W9).alloc (Nat.le_refl _) (.cells #[.int .i64 1] 3)))
  have HB9a := Lib.hid (HB9.out.alloc HB9.out.size (.cells #[.int .i64 1] 3))
  have HZ9a := Lib.hid (show Da.Blk (W9.alloc (.cells #[.int .i64 1] 3)) w8.heap.size 49 (seenC ⟨1, 7, []⟩) from (Below.heap_alloc _ _ _ (Array.getElem?_eq_some_iff.1 HZ9.out).1).trans HZ9.out)
  have hsz9 : W9.heap.size < (W9.alloc (.cells #[.int .i64 1] 3)).heap.size := by simp
  generalize hg9 : W9.heap.size = g9 at hone9 hsz9 ⊢
  generalize W9.alloc (.cells #[.int .i64 1] 3) = X9 at *
  refine (sym_any _ (some ⟨g9, 0, none⟩) 1 1 X9).mono ?_
  rintro e w10 ⟨rfl, hb10⟩
  have H10 := Lib.hid (H9a.out.bel hb10)
  have HB10 := Lib.hid (HB9a.out.trans (hb10.mono HB9a.out.size))
  have hone10 : Hid (w10.cell? ⟨g9, 0, none⟩ = some (.int .i64 1)) := Lib.hid ((hb10.cell (p := ⟨g9, 0, none⟩) hsz9).trans hone9.out)
  have hsz10 : g9 < w10.heap.size := Nat.lt_of_lt_of_le hsz9 hb10.size
  have HZ10 := Lib.hid (show Da.Blk w10 w8.heap.size 49 (seenC ⟨1, 7, []⟩) from (hb10.block _ (Array.getElem?_eq_some_iff.1 HZ9a.out).1).trans HZ9a.out)
  clear hb10 hg9 hsz9
  go_wp2_with fail
  refine (find_all tb aT3 _ 1 dX1 _ w10.heap.size w10 (dt_sym (by decide) (row_one hsz10 hone10.out)) (Nat.le_refl _) H10.out).mono ?_
  rintro e w11 ⟨rfl, hb11⟩
  rw [aw5, aw5z]
  have HB11 := Lib.hid (HB10.out.trans (hb11.mono HB10.out.size))
  have HZ11 := Lib.hid (show Da.Blk w11 w8.heap.size 49 (seenC ⟨1, 7, []⟩) from (hb11.block _ (Array.getElem?_eq_some_iff.1 HZ10.out).1).trans HZ10.out)
  have hlt11 : w8.heap.size < w11.heap.size := (Array.getElem?_eq_some_iff.1 HZ11.out).1
  clear hb11
  go_upto_region 9 with (refine wpList_store_row rfl 49 (.tmp 10) (.tmp 47) rfl w11.heap.size (seenC ⟨0, 0, [120]⟩) rfl rfl 49 (seenC Seen.zero) (heap_alloc_new w11 _) info_seen rfl (seenC_one _) ?_)
  generalize hX12 : (World.setRow (World.alloc w11 _) w11.heap.size (seenC ⟨0, 0, [120]⟩)) = W12
  have hb12 : Below w11.heap.size w11 W12 := by rw [← hX12]; exact bel_row ((Below.refl _ _).alloc (Nat.le_refl _) _) _ _ (Nat.le_refl _)
  have hz12 : Da.Blk W12 w11.heap.size 49 (seenC ⟨0, 0, [120]⟩) := by rw [← hX12]; exact setRow_heap _ _ (seenC Seen.zero) _ _ _ (heap_alloc_new w11 _)
  have HB12 := Lib.hid (HB11.out.trans (hb12.mono HB11.out.size))
  have HZ12 := Lib.hid (show Da.Blk W12 w8.heap.size 49 (seenC ⟨1, 7, []⟩) from (hb12.block _ hlt11).trans HZ11.out)
  have HY12 := Lib.hid hz12
  clear hX12 hb12 hz12
  have e1 : ∀ w, (binOp BinOp.eql 49 (.agg #[.int .i64 1, .int .i64 7, .string ⟨#[]⟩]) (.agg #[.int .i64 1, .int .i64 7, .string ⟨#[]⟩])).run Try.prog w = .ok (.bool true) w := fun w => eq_seen ⟨1, 7, []⟩ ⟨1, 7, []⟩ w
  have e2 : ∀ w, (binOp BinOp.eql 49 (.agg #[.int .i64 0, .int .i64 0, .string ⟨#[120]⟩]) (.agg #[.int .i64 0, .int .i64 0, .string ⟨#[120]⟩])).run Try.prog w = .ok (.bool true) w := fun w => eq_seen ⟨0, 0, [120]⟩ ⟨0, 0, [120]⟩ w
  have g1 : ∀ w, (eqGuard BinOp.eql 49 (.tmp 64) (.tmp 65) (.agg #[.int .i64 1, .int .i64 7, .string ⟨#[]⟩]) (.agg #[.int .i64 1, .int .i64 7, .string ⟨#[]⟩])).run Try.prog w = .ok () w := guard_seen _ _ _ ⟨1, 7, []⟩ ⟨1, 7, []⟩
  have g2 : ∀ w, (eqGuard BinOp.eql 49 (.tmp 73) (.tmp 74) (.agg #[.int .i64 0, .int .i64 0, .string ⟨#[120]⟩]) (.agg #[.int .i64 0, .int .i64 0, .string ⟨#[120]⟩])).run Try.prog w = .ok () w := guard_seen _ _ _ ⟨0, 0, [120]⟩ ⟨0, 0, [120]⟩
  have q0 : W12.cell? ⟨w8.heap.size, 0, none⟩ = some (.int .i64 1) := (HZ12.out.cell 0).trans rfl
  have q1 : W12.cell? ⟨w8.heap.size, 1, none⟩ = some (.int .i64 7) := (HZ12.out.cell 1).trans rfl
  have q2 : W12.cell? ⟨w8.heap.size, 2, none⟩ = some (.string ⟨#[]⟩) := (HZ12.out.cell 2).trans rfl
  have q3 : W12.cell? ⟨w11.heap.size, 0, none⟩ = some (.int .i64 0) := (HY12.out.cell 0).trans rfl
  have q4 : W12.cell? ⟨w11.heap.size, 1, none⟩ = some (.int .i64 0) := (HY12.out.cell 1).trans rfl
  have q5 : W12.cell? ⟨w11.heap.size, 2, none⟩ = some (.string ⟨#[120]⟩) := (HY12.out.cell 2).trans rfl
  go_wp2_with fail
  go_ret
  exact ⟨rfl, HB12.out⟩
end Go.Proofs.Yteolfkkabhileaa.Sc
end
