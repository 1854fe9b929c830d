/- What each function of layer 1 that computes with numbers, and of the document's answer for it, returns: for every two numbers of 64 bits. -/
import Derived.Test.YteddfdhbpgbloaaRows
import Derived.Test.YteddfdhbpgbloaaFixMath
import Derived.Test.YteddfdhbpgbloaaShelf
import Derived.WalkKit
import Derived.ProofKit
import Derived.OpenShut
import Derived.Lib.Hide
import Derived.Outline
namespace Go.Proofs.Yteddfdhbpgbloaa.Fx
open Go.ChangeShapes Go.WideShapes Go.ChangeAt Go.RowKit

theorem in_fix (a : Int) (w : World) :
    Calls Try.prog 96 #[.int .i64 a] w fun e w' => e = .returned (.bool (inB a)) ∧ w = w' := by
  unfold inB
  by_cases h1 : -1152921504606846976 ≤ a
  · have d1 : decide (-1152921504606846976 ≤ a) = true := by simp [h1]
    by_cases h2 : a ≤ 1152921504606846975
    · have d2 : decide (a ≤ 1152921504606846975) = true := by simp [h2]
      rw [d1, d2]
      go_enter Try.func96, Try.ntmps96
      go_wp2
      go_ret
      exact ⟨rfl, rfl⟩
    · have d2 : decide (a ≤ 1152921504606846975) = false := by simp [h2]
      rw [d1, d2]
      go_enter Try.func96, Try.ntmps96
      go_wp2
      go_ret
      exact ⟨rfl, rfl⟩
  · have d1 : decide (-1152921504606846976 ≤ a) = false := by simp [h1]
    rw [d1]
    go_enter Try.func96, Try.ntmps96
    go_wp2
    go_ret
    exact ⟨rfl, rfl⟩

theorem in_ref (a : Int) (w : World) :
    Calls Try.prog 102 #[.int .i64 a] w fun e w' => e = .returned (.bool (inB a)) ∧ w = w' := by
  unfold inB
  by_cases h1 : -1152921504606846976 ≤ a
  · have d1 : decide (-1152921504606846976 ≤ a) = true := by simp [h1]
    by_cases h2 : a ≤ 1152921504606846975
    · have d2 : decide (a ≤ 1152921504606846975) = true := by simp [h2]
      rw [d1, d2]
      go_enter Try.func102, Try.ntmps102
      go_wp2
      go_ret
      exact ⟨rfl, rfl⟩
    · have d2 : decide (a ≤ 1152921504606846975) = false := by simp [h2]
      rw [d1, d2]
      go_enter Try.func102, Try.ntmps102
      go_wp2
      go_ret
      exact ⟨rfl, rfl⟩
  · have d1 : decide (-1152921504606846976 ≤ a) = false := by simp [h1]
    rw [d1]
    go_enter Try.func102, Try.ntmps102
    go_wp2
    go_ret
    exact ⟨rfl, rfl⟩

theorem exact_fix (n : Int) (w : World) :
    Calls Try.prog 143 #[.int .i64 n] w fun e w' => e = .returned (.tuple #[.int .i64 (gotV n), .int .i64 (gotE n)]) ∧ w = w' := by
  unfold gotV gotE
  cases h : inB n
  all_goals
    go_enter Try.func143, Try.ntmps143
    go_wp2_with (go_at_call 96; refine (in_fix _ _).mono ?_; rintro e w' ⟨rfl, rfl⟩)
    go_ret2
    exact ⟨rfl, rfl⟩

theorem got_ref (n : Int) (w : World) :
    Calls Try.prog 136 #[.int .i64 n] w fun e w' => e = .returned (.tuple #[.int .i64 (gotV n), .int .i64 (gotE n)]) ∧ w = w' := by
  unfold gotV gotE
  cases h : inB n
  all_goals
    go_enter Try.func136, Try.ntmps136
    go_wp2_with (go_at_call 102; refine (in_ref _ _).mono ?_; rintro e w' ⟨rfl, rfl⟩)
    go_ret2
    exact ⟨rfl, rfl⟩

end Go.Proofs.Yteddfdhbpgbloaa.Fx
