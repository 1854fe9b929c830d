/- Decimal digits, as plain lists of bytes. -/
import GoSem.Claim
namespace Go.Proofs.Yteddfdhbpgbloaa.Fx
/-- How many decimal digits. -/
def nd (n : Nat) : Nat := if n < 10 then 1 else nd (n / 10) + 1
theorem nd_small {n : Nat} (h : n < 10) : nd n = 1 := by rw [nd, if_pos h]
theorem nd_big {n : Nat} (h : ¬ n < 10) : nd n = nd (n / 10) + 1 := by rw [nd, if_neg h]
theorem nd_pos (n : Nat) : 1 ≤ nd n := by rw [nd]; split <;> omega
theorem nd_le (k : Nat) : ∀ n : Nat, n < 10 ^ (k + 1) → nd n ≤ k + 1 := by
  induction k with
  | zero => intro n h; rw [nd_small (by simpa using h)]; omega
  | succ k ih =>
    intro n h
    by_cases c : n < 10
    · rw [nd_small c]; omega
    · rw [nd_big c]
      have := ih (n / 10) (by rw [Nat.pow_succ] at h; omega)
      omega
theorem nd_fix {n : Nat} (h : n ≤ 1152921504606846976) : nd n ≤ 19 := nd_le 18 n (by omega)
def digB (n : Nat) : UInt8 := UInt8.ofNat (48 + n % 10)
theorem digB_toNat (n : Nat) : (digB n).toNat = 48 + n % 10 := by
  unfold digB; simp; omega
/-- The decimal digits. -/
def decL (n : Nat) : List UInt8 := if n < 10 then [digB n] else decL (n / 10) ++ [digB n]
theorem decL_small {n : Nat} (h : n < 10) : decL n = [digB n] := by rw [decL, if_pos h]
theorem decL_big {n : Nat} (h : ¬ n < 10) : decL n = decL (n / 10) ++ [digB n] := by rw [decL, if_neg h]
theorem decL_len (n : Nat) : (decL n).length = nd n := by
  induction n using Nat.strongRecOn with
  | ind n ih =>
    by_cases c : n < 10
    · rw [decL_small c, nd_small c]; rfl
    · rw [decL_big c, nd_big c]; simp [ih (n / 10) (by omega)]
/-- What is left of a number without its last i digits. -/
def cutD (n : Nat) : Nat → Nat
  | 0 => n
  | i + 1 => cutD n i / 10
theorem cutD_le (n i : Nat) : cutD n i ≤ n := by
  induction i with
  | zero => exact Nat.le_refl _
  | succ i ih => exact Nat.le_trans (Nat.div_le_self _ _) ih
theorem cutD_succ (n i : Nat) : cutD n (i + 1) = cutD (n / 10) i := by
  induction i with
  | zero => rfl
  | succ i ih => rw [cutD, ih]; rfl
/-- The last i digits. -/
def lastD (n : Nat) : Nat → List UInt8
  | 0 => []
  | i + 1 => digB (cutD n i) :: lastD n i
theorem lastD_len (n i : Nat) : (lastD n i).length = i := by
  induction i with
  | zero => rfl
  | succ i ih => simp [lastD, ih]
theorem lastD_succ (n i : Nat) : lastD n (i + 1) = lastD (n / 10) i ++ [digB n] := by
  induction i with
  | zero => rfl
  | succ i ih => rw [lastD, ih, cutD_succ]; rfl
theorem lastD_all (n : Nat) : lastD n (nd n) = decL n := by
  induction n using Nat.strongRecOn with
  | ind n ih =>
    by_cases c : n < 10
    · rw [decL_small c, nd_small c]; rfl
    · rw [decL_big c, nd_big c, lastD_succ, ih (n / 10) (by omega)]
/-- The text of a number. -/
def textL (a : Int) : List UInt8 := if a < 0 then 45 :: decL a.natAbs else decL a.natAbs
end Go.Proofs.Yteddfdhbpgbloaa.Fx
