/- A table that no call made (layer 5): its names, its clone. -/
import Derived.Test.YteolfkkabhileaaMScAwake3
import Derived.Test.YteolfkkabhileaaMScSmall
import Derived.Test.YteolfkkabhileaaM0
section
namespace Go.Proofs.Yteolfkkabhileaa.Sc
open Go.ChangeShapes Go.WideShapes Go.ChangeAt Go.RowKit Go.Shelf
set_option linter.unusedVariables false
set_option linter.unusedSimpArgs false

theorem names_none (p : Option Addr) (s k : Int) (w : World) (hk : k ≠ 0)
    (hc : Hid (∀ w2, Below w.heap.size w w2 → Calls Try.prog 35 #[.pointer p, .int .i64 s] w2 fun e w' => e = .returned (.int .i64 k) ∧ w2 = w')) :
    Calls Try.prog 23 #[.pointer p, .int .i64 s] w fun e w' => e = .returned (.func (.func 40) #[] #[]) ∧ Below w.heap.size w w' := by
  have dk : (k != 0) = true := by simpa using hk
  have HB := Lib.hid (show Below w.heap.size w (w.alloc (.cells #[.int .i64 s] 3)) from (Below.refl _ _).alloc (Nat.le_refl _) _)
  clear hk
  go_enter Try.func23, Try.ntmps23
  go_wp2_with fail
  refine (hc.out _ HB.out).mono ?_
  rintro e w2 ⟨rfl, rfl⟩
  go_wp2_with fail
  go_ret
  exact ⟨rfl, HB.out⟩
theorem clone_nil (w : World) : Calls Try.prog 14 #[.pointer none] w fun e w' => e = .returned (.pointer none) ∧ w = w' := by
  go_enter Try.func14, Try.ntmps14
  go_wp2_with fail
  refine (made_nil _).mono ?_
  rintro e w2 ⟨rfl, rfl⟩
  go_wp2_with fail
  go_ret
  exact ⟨rfl, rfl⟩
theorem clone_zero (tb : Nat) (a : Option Addr) (c : Nat) (w : World) (h0 : w.cell? ⟨tb, 0, none⟩ = some (.slice a 0 c)) : Calls Try.prog 14 #[.pointer (some ⟨tb, 0, none⟩)] w fun e w' => e = .returned (.pointer none) ∧ w = w' := by
  have HM := Lib.hid (made_any tb a 0 c w h0)
  go_enter Try.func14, Try.ntmps14
  go_wp2_with fail
  refine HM.out.mono ?_
  rintro e w2 ⟨rfl, rfl⟩
  go_wp2_with fail
  go_ret
  exact ⟨rfl, rfl⟩
theorem sizes_zero (tb : Nat) (a : Option Addr) (c : Nat) (w : World) (h0 : w.cell? ⟨tb, 0, none⟩ = some (.slice a 0 c)) : Calls Try.prog 24 #[.pointer (some ⟨tb, 0, none⟩)] w fun e w' => e = .returned (.tuple #[.int .i64 0, .int .i64 0]) ∧ w = w' := by
  have HM := Lib.hid (made_any tb a 0 c w h0)
  go_enter Try.func24, Try.ntmps24
  go_wp2_with fail
  refine HM.out.mono ?_
  rintro e w2 ⟨rfl, rfl⟩
  go_wp2_with fail
  go_ret2
  exact ⟨rfl, rfl⟩
theorem none_stops (n : Nat) (Kp : World → World → Prop) (w : World) (encs : Empty → Array Value) : SeqStopsK Fence.wide n Try.prog 40 #[] encs Kp (fun ys => ys = []) (fun _ => False) 0 w := fun l J Jx W hW _ _ hY h0 => by
  refine callsIn_of_wp Try.func40 rfl trivial ?_ rfl
  simp only [Try.ntmps40, List.size_toArray, List.length_cons, List.length_nil, Nat.reduceAdd, Nat.reduceSub, Array.replicate_succ, Array.replicate_zero, List.push_toArray, List.append_toArray, List.nil_append, List.cons_append]
  gi_wp2_with fail
  go_end0
  exact ⟨⟨_, rfl⟩, .inl ⟨_, rfl, h0⟩⟩
set_option maxRecDepth 100000 in
set_option maxHeartbeats 4000000 in
theorem told_none (m : Int) (w : World) : Calls Try.prog 22 #[.func (.func 40) #[] #[], .int .i64 m] w fun e w' => e = .returned (.slice none 0 0) ∧ Below w.heap.size w w' := by
  have heq : ∀ w : World, (binOp BinOp.eql 58 (.func (.func 40) #[] #[]) .nilFunc).run Try.prog w = .ok (.bool false) w := fun _ => by kernel_rfl
  refine (callsIn_wide (n := 5)).1 ?_
  refine callsIn_of_wp_marks Try.func22 rfl trivial ?_ rfl
  simp only [Try.ntmps22, List.size_toArray, List.length_cons, List.length_nil, Nat.reduceAdd, Nat.reduceSub, Array.replicate_succ, Array.replicate_zero, List.push_toArray, List.append_toArray, List.nil_append, List.cons_append]
  gi_wp2_with fail
  obtain ⟨n1, n2⟩ := two_new w #[.int .i64 m] #[.slice none 0 0] 3 55
  have hb := bel_two w (.cells #[.int .i64 m] 3) (.cells #[.slice none 0 0] 55)
  have hsz : ((w.alloc (.cells #[.int .i64 m] 3)).alloc (.cells #[.slice none 0 0] 55)).heap.size = w.heap.size + 1 + 1 := by simp
  generalize (w.alloc (.cells #[.int .i64 m] 3)).alloc (.cells #[.slice none 0 0] 55) = X at *
  have HN := Lib.hid n2
  have HB := Lib.hid hb
  have HS := Lib.hid hsz
  clear n1 n2 hb hsz
  refine wpIn_rangeFunc_ownH rfl (by omega) (gf := 40) (lb := #[]) rfl trivial (enters_of Try.func40 (by kernel_rfl) rfl)
    (none_stops (5 - 1) (fun _ _ => True) X (fun x => x.elim)) (fun _ _ => trivial) (fun _ _ _ _ _ _ _ _ => trivial) (Below.refl _ _) (fun x => x.elim)
    (fun _ W => Below X.heap.size X W) (fun _ _ _ => False) (fun s A B row hs hg hr => ownFrom_below (β := Unit) (Nat.le_refl _) (Nat.le_refl _) () A B row hs hg hr) (fun _ _ _ _ _ hs _ _ => hs) (Below.refl _ _)
    (fun x _ _ => x.elim) (fun x => x.elim) (fun _ _ x => x.elim) (fun _ _ x => x.elim) ?done (fun _ _ _ _ _ hs => hs.elim)
  case done =>
    rintro D ys W hD rfl hbel hK
    have nW := (hbel.block _ (by have := HS.out; omega)).trans HN.out
    have c5 : W.cell? ⟨w.heap.size + 1, 0, none⟩ = some (.slice none 0 0) := (Da.Blk.cell (show Da.Blk W (w.heap.size + 1) 55 #[.slice none 0 0] from nW) 0).trans rfl
    have Hbel := Lib.hid hbel
    have hDw : w.heap.size ≤ D := by have := HS.out; omega
    clear hbel nW
    gi_wp2_with fail
    refine ⟨by simp, .inl ⟨_, _, rfl, run_takeDeferred hK, ?_⟩⟩
    exact ⟨_, results_tmp rfl _ _ _, rfl, (HB.out.trans (Hbel.out.mono (by have := HS.out; omega))).trans (belowK_b (w := w) (Nat.le_refl _) W D _ _ hDw hK rfl rfl)⟩
end Go.Proofs.Yteolfkkabhileaa.Sc
end
