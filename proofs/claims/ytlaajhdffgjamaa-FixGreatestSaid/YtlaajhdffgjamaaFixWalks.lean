/- What each function of layer 1 that computes with numbers, and of the document's answer for it, returns: for every two numbers of 64 bits. -/
import Derived.Test.YtlaajhdffgjamaaRows
import Derived.Test.YtlaajhdffgjamaaFixMath
import Derived.Test.YtlaajhdffgjamaaShelf
import Derived.WalkKit
import Derived.ProofKit
import Derived.OpenShut
import Derived.Lib.Hide
import Derived.Outline
namespace Go.Proofs.Ytlaajhdffgjamaa.Fx
open Go.ChangeShapes Go.WideShapes Go.ChangeAt Go.RowKit

theorem in_fix (a : Int) (w : World) :
    Calls Try.prog 20 #[.int .i64 a] w fun e w' => e = .returned (.bool (inB a)) ∧ w = w' := by
  unfold inB
  by_cases h1 : -1152921504606846976 ≤ a
  · have d1 : decide (-1152921504606846976 ≤ a) = true := by simp [h1]
    by_cases h2 : a ≤ 1152921504606846975
    · have d2 : decide (a ≤ 1152921504606846975) = true := by simp [h2]
      rw [d1, d2]
      go_enter Try.func20, Try.ntmps20
      go_wp2
      go_ret
      exact ⟨rfl, rfl⟩
    · have d2 : decide (a ≤ 1152921504606846975) = false := by simp [h2]
      rw [d1, d2]
      go_enter Try.func20, Try.ntmps20
      go_wp2
      go_ret
      exact ⟨rfl, rfl⟩
  · have d1 : decide (-1152921504606846976 ≤ a) = false := by simp [h1]
    rw [d1]
    go_enter Try.func20, Try.ntmps20
    go_wp2
    go_ret
    exact ⟨rfl, rfl⟩

theorem in_ref (a : Int) (w : World) :
    Calls Try.prog 21 #[.int .i64 a] w fun e w' => e = .returned (.bool (inB a)) ∧ w = w' := by
  unfold inB
  by_cases h1 : -1152921504606846976 ≤ a
  · have d1 : decide (-1152921504606846976 ≤ a) = true := by simp [h1]
    by_cases h2 : a ≤ 1152921504606846975
    · have d2 : decide (a ≤ 1152921504606846975) = true := by simp [h2]
      rw [d1, d2]
      go_enter Try.func21, Try.ntmps21
      go_wp2
      go_ret
      exact ⟨rfl, rfl⟩
    · have d2 : decide (a ≤ 1152921504606846975) = false := by simp [h2]
      rw [d1, d2]
      go_enter Try.func21, Try.ntmps21
      go_wp2
      go_ret
      exact ⟨rfl, rfl⟩
  · have d1 : decide (-1152921504606846976 ≤ a) = false := by simp [h1]
    rw [d1]
    go_enter Try.func21, Try.ntmps21
    go_wp2
    go_ret
    exact ⟨rfl, rfl⟩

theorem exact_fix (n : Int) (w : World) :
    Calls Try.prog 45 #[.int .i64 n] w fun e w' => e = .returned (.tuple #[.int .i64 (gotV n), .int .i64 (gotE n)]) ∧ w = w' := by
  unfold gotV gotE
  cases h : inB n
  all_goals
    go_enter Try.func45, Try.ntmps45
    go_wp2_with (go_at_call 20; refine (in_fix _ _).mono ?_; rintro e w' ⟨rfl, rfl⟩)
    go_ret2
    exact ⟨rfl, rfl⟩

theorem add_fix (a b : Int) (w : World) :
    Calls Try.prog 13 #[.int .i64 a, .int .i64 b] w fun e w' => e = .returned (.tuple #[.int .i64 (twoV a b (a + b)), .int .i64 (twoE a b (a + b))]) ∧ w = w' := by
  unfold twoV twoE
  cases ha : inB a
  · go_enter Try.func13, Try.ntmps13
    go_wp2_with (go_at_call 20; refine (in_fix _ _).mono ?_; rintro e w' ⟨rfl, rfl⟩)
    go_ret2
    exact ⟨rfl, rfl⟩
  · cases hb : inB b
    · go_enter Try.func13, Try.ntmps13
      go_wp2_with (go_at_call 20; refine (in_fix _ _).mono ?_; rintro e w' ⟨rfl, rfl⟩)
      go_ret2
      exact ⟨rfl, rfl⟩
    · obtain ⟨a1, a2⟩ := in_yes ha
      obtain ⟨b1, b2⟩ := in_yes hb
      go_enter Try.func13, Try.ntmps13
      go_wp2_with (first | (go_at_call 20; refine (in_fix _ _).mono ?_; rintro e w' ⟨rfl, rfl⟩) | (go_at_call 45; refine (exact_fix _ _).mono ?_; rintro e w' ⟨rfl, rfl⟩))
      go_ret2
      exact ⟨rfl, rfl⟩

theorem sub_fix (a b : Int) (w : World) :
    Calls Try.prog 15 #[.int .i64 a, .int .i64 b] w fun e w' => e = .returned (.tuple #[.int .i64 (twoV a b (a - b)), .int .i64 (twoE a b (a - b))]) ∧ w = w' := by
  unfold twoV twoE
  cases ha : inB a
  · go_enter Try.func15, Try.ntmps15
    go_wp2_with (go_at_call 20; refine (in_fix _ _).mono ?_; rintro e w' ⟨rfl, rfl⟩)
    go_ret2
    exact ⟨rfl, rfl⟩
  · cases hb : inB b
    · go_enter Try.func15, Try.ntmps15
      go_wp2_with (go_at_call 20; refine (in_fix _ _).mono ?_; rintro e w' ⟨rfl, rfl⟩)
      go_ret2
      exact ⟨rfl, rfl⟩
    · obtain ⟨a1, a2⟩ := in_yes ha
      obtain ⟨b1, b2⟩ := in_yes hb
      go_enter Try.func15, Try.ntmps15
      go_wp2_with (first | (go_at_call 20; refine (in_fix _ _).mono ?_; rintro e w' ⟨rfl, rfl⟩) | (go_at_call 45; refine (exact_fix _ _).mono ?_; rintro e w' ⟨rfl, rfl⟩))
      go_ret2
      exact ⟨rfl, rfl⟩

theorem neg_fix (a : Int) (w : World) :
    Calls Try.prog 17 #[.int .i64 a] w fun e w' => e = .returned (.tuple #[.int .i64 (twoV a a (-a)), .int .i64 (twoE a a (-a))]) ∧ w = w' := by
  unfold twoV twoE
  cases ha : inB a
  · go_enter Try.func17, Try.ntmps17
    go_wp2_with (go_at_call 20; refine (in_fix _ _).mono ?_; rintro e w' ⟨rfl, rfl⟩)
    go_ret2
    exact ⟨rfl, rfl⟩
  · obtain ⟨a1, a2⟩ := in_yes ha
    go_enter Try.func17, Try.ntmps17
    go_wp2_with (first | (go_at_call 20; refine (in_fix _ _).mono ?_; rintro e w' ⟨rfl, rfl⟩) | (go_at_call 45; refine (exact_fix _ _).mono ?_; rintro e w' ⟨rfl, rfl⟩))
    go_ret2
    exact ⟨rfl, rfl⟩

theorem got_ref (n : Int) (w : World) :
    Calls Try.prog 46 #[.int .i64 n] w fun e w' => e = .returned (.tuple #[.int .i64 (gotV n), .int .i64 (gotE n)]) ∧ w = w' := by
  unfold gotV gotE
  cases h : inB n
  all_goals
    go_enter Try.func46, Try.ntmps46
    go_wp2_with (go_at_call 21; refine (in_ref _ _).mono ?_; rintro e w' ⟨rfl, rfl⟩)
    go_ret2
    exact ⟨rfl, rfl⟩

theorem add_ref (a b : Int) (w : World) :
    Calls Try.prog 14 #[.int .i64 a, .int .i64 b] w fun e w' => e = .returned (.tuple #[.int .i64 (twoV a b (a + b)), .int .i64 (twoE a b (a + b))]) ∧ w = w' := by
  unfold twoV twoE
  cases ha : inB a
  · go_enter Try.func14, Try.ntmps14
    go_wp2_with (go_at_call 21; refine (in_ref _ _).mono ?_; rintro e w' ⟨rfl, rfl⟩)
    go_ret2
    exact ⟨rfl, rfl⟩
  · cases hb : inB b
    · go_enter Try.func14, Try.ntmps14
      go_wp2_with (go_at_call 21; refine (in_ref _ _).mono ?_; rintro e w' ⟨rfl, rfl⟩)
      go_ret2
      exact ⟨rfl, rfl⟩
    · obtain ⟨a1, a2⟩ := in_yes ha
      obtain ⟨b1, b2⟩ := in_yes hb
      go_enter Try.func14, Try.ntmps14
      go_wp2_with (first | (go_at_call 21; refine (in_ref _ _).mono ?_; rintro e w' ⟨rfl, rfl⟩) | (go_at_call 46; refine (got_ref _ _).mono ?_; rintro e w' ⟨rfl, rfl⟩))
      go_ret2
      exact ⟨rfl, rfl⟩

theorem sub_ref (a b : Int) (w : World) :
    Calls Try.prog 16 #[.int .i64 a, .int .i64 b] w fun e w' => e = .returned (.tuple #[.int .i64 (twoV a b (a - b)), .int .i64 (twoE a b (a - b))]) ∧ w = w' := by
  unfold twoV twoE
  cases ha : inB a
  · go_enter Try.func16, Try.ntmps16
    go_wp2_with (go_at_call 21; refine (in_ref _ _).mono ?_; rintro e w' ⟨rfl, rfl⟩)
    go_ret2
    exact ⟨rfl, rfl⟩
  · cases hb : inB b
    · go_enter Try.func16, Try.ntmps16
      go_wp2_with (go_at_call 21; refine (in_ref _ _).mono ?_; rintro e w' ⟨rfl, rfl⟩)
      go_ret2
      exact ⟨rfl, rfl⟩
    · obtain ⟨a1, a2⟩ := in_yes ha
      obtain ⟨b1, b2⟩ := in_yes hb
      go_enter Try.func16, Try.ntmps16
      go_wp2_with (first | (go_at_call 21; refine (in_ref _ _).mono ?_; rintro e w' ⟨rfl, rfl⟩) | (go_at_call 46; refine (got_ref _ _).mono ?_; rintro e w' ⟨rfl, rfl⟩))
      go_ret2
      exact ⟨rfl, rfl⟩

theorem neg_ref (a : Int) (w : World) :
    Calls Try.prog 18 #[.int .i64 a] w fun e w' => e = .returned (.tuple #[.int .i64 (twoV a a (-a)), .int .i64 (twoE a a (-a))]) ∧ w = w' := by
  unfold twoV twoE
  cases ha : inB a
  · go_enter Try.func18, Try.ntmps18
    go_wp2_with (go_at_call 21; refine (in_ref _ _).mono ?_; rintro e w' ⟨rfl, rfl⟩)
    go_ret2
    exact ⟨rfl, rfl⟩
  · obtain ⟨a1, a2⟩ := in_yes ha
    go_enter Try.func18, Try.ntmps18
    go_wp2_with (first | (go_at_call 21; refine (in_ref _ _).mono ?_; rintro e w' ⟨rfl, rfl⟩) | (go_at_call 46; refine (got_ref _ _).mono ?_; rintro e w' ⟨rfl, rfl⟩))
    go_ret2
    exact ⟨rfl, rfl⟩

theorem same_yes (a b : Int) (w : World) :
    Calls Try.prog 22 #[.int .i64 a, .int .i64 b, .int .i64 a, .int .i64 b] w fun e w' => e = .returned (.bool true) ∧ w = w' := by
  go_enter Try.func22, Try.ntmps22
  go_wp2
  go_ret
  exact ⟨rfl, rfl⟩

end Go.Proofs.Ytlaajhdffgjamaa.Fx
