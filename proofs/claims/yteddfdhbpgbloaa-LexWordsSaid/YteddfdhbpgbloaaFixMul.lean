/- What the products of layer 1, and the document's, are: for every two numbers of 64 bits. -/
import Derived.Test.YteddfdhbpgbloaaFixWalks
namespace Go.Proofs.Yteddfdhbpgbloaa.Fx
open Go.ChangeShapes Go.WideShapes Go.ChangeAt Go.RowKit

theorem size_fix (a : Int) (w : World) (h : inB a = true) :
    Calls Try.prog 97 #[.int .i64 a] w fun e w' => e = .returned (.int .u64 ((a.natAbs : Nat) : Int)) ∧ w = w' := by
  obtain ⟨h1, h2⟩ := in_yes h
  clear h
  by_cases hn : a < 0
  · have e : ((a.natAbs : Nat) : Int) = -a := by omega
    rw [e]; clear e
    go_enter Try.func97, Try.ntmps97
    go_wp2
    go_ret
    exact ⟨rfl, rfl⟩
  · have e : ((a.natAbs : Nat) : Int) = a := by omega
    rw [e]; clear e
    go_enter Try.func97, Try.ntmps97
    go_wp2
    go_ret
    exact ⟨rfl, rfl⟩
theorem signed_over (n : Int) (b : Bool) (w : World) (h : 1152921504606846976 < n) :
    Calls Try.prog 134 #[.int .u64 n, .bool b] w fun e w' => e = .returned (.tuple #[.int .i64 0, .int .i64 10]) ∧ w = w' := by
  go_enter Try.func134, Try.ntmps134
  go_wp2
  go_ret2
  exact ⟨rfl, rfl⟩
theorem signed_neg (n : Int) (w : World) (h0 : 0 ≤ n) (h : n ≤ 1152921504606846976) :
    Calls Try.prog 134 #[.int .u64 n, .bool true] w fun e w' => e = .returned (.tuple #[.int .i64 (-n), .int .i64 0]) ∧ w = w' := by
  go_enter Try.func134, Try.ntmps134
  go_wp2
  go_ret2
  exact ⟨rfl, rfl⟩
theorem signed_pos (n : Int) (w : World) (h0 : 0 ≤ n) (h : n ≤ 1152921504606846976) :
    Calls Try.prog 134 #[.int .u64 n, .bool false] w fun e w' => e = .returned (.tuple #[.int .i64 (gotV n), .int .i64 (gotE n)]) ∧ w = w' := by
  go_enter Try.func134, Try.ntmps134
  go_wp2_with (go_at_call 143; refine (exact_fix _ _).mono ?_; rintro e w' ⟨rfl, rfl⟩)
  go_ret2
  exact ⟨rfl, rfl⟩
theorem quo_lt (A B M : Nat) (hB : 1 ≤ B) (h : M < A * B) : (M : Int) / (B : Int) < (A : Int) := by
  have : M / B < A := (Nat.div_lt_iff_lt_mul (by omega)).2 h
  omega
theorem quo_ge (A B M : Nat) (hB : 1 ≤ B) (h : A * B ≤ M) : (A : Int) ≤ (M : Int) / (B : Int) := by
  have : A ≤ M / B := (Nat.le_div_iff_mul_le (by omega)).2 h
  omega
end Go.Proofs.Yteddfdhbpgbloaa.Fx
