/- What the roots of layer 1, and the document's, are: for every number of 64 bits. -/
import Derived.Test.YteddfdhbpgbloaaFixPow2
namespace Go.Proofs.Yteddfdhbpgbloaa.Fx
open Go.ChangeShapes Go.WideShapes Go.ChangeAt Go.RowKit

/-- r is the greatest whose square is at most a. -/
def IsSq (a r : Int) : Prop := 0 ≤ r ∧ r * r ≤ a ∧ a < (r + 1) * (r + 1)
theorem sq_mono {x y : Int} (h : x ≤ y) (hx : 0 ≤ x) : x * x ≤ y * y := Int.mul_le_mul h h hx (by omega)
theorem sq_le_of {x y a : Int} (hx : x * x ≤ a) (hy : a < y * y) (h0 : 0 ≤ y) : x < y := by
  by_cases h : x < y
  · exact h
  · have := sq_mono (by omega : y ≤ x) h0; omega
theorem sq_unique {a r s : Int} (h : IsSq a r) (k : IsSq a s) : r = s := by
  obtain ⟨h0, h1, h2⟩ := h
  obtain ⟨k0, k1, k2⟩ := k
  have a1 := sq_le_of h1 k2 (by omega)
  have a2 := sq_le_of k1 h2 (by omega)
  omega
theorem sq_exists_nat (n : Nat) : ∃ r : Nat, r * r ≤ n ∧ n < (r + 1) * (r + 1) := by
  induction n with
  | zero => exact ⟨0, by omega, by omega⟩
  | succ n ih =>
    obtain ⟨r, h1, h2⟩ := ih
    by_cases h : n + 1 < (r + 1) * (r + 1)
    · exact ⟨r, by omega, h⟩
    · refine ⟨r + 1, by omega, ?_⟩
      have : (r + 1 + 1) * (r + 1 + 1) = (r + 1) * (r + 1) + 2 * (r + 1) + 1 := by
        rw [Nat.add_mul, Nat.mul_add, Nat.mul_add]; omega
      omega
theorem sq_exists {a : Int} (h : 0 ≤ a) : ∃ r, IsSq a r := by
  obtain ⟨n, rfl⟩ := Int.eq_ofNat_of_zero_le h
  obtain ⟨r, h1, h2⟩ := sq_exists_nat n
  exact ⟨r, by omega, by exact_mod_cast h1, by exact_mod_cast h2⟩
def SqRefAt (a : Int) (l h : Value) : Prop := ∃ x y : Nat, l = .int .i64 (x : Int) ∧ h = .int .i64 (y : Int) ∧ x < y ∧ y ≤ 2147483648 ∧ (x : Int) * (x : Int) ≤ a ∧ a < (y : Int) * (y : Int)
theorem or_i64 (a b : Nat) (ha : a < 2147483648) (hb : b < 2147483648) : bits .or .i64 (a : Int) (b : Int) = ((a ||| b : Nat) : Int) := by
  have hx : a ||| b < 2 ^ 31 := Nat.or_lt_two_pow (by omega) (by omega)
  have h1 : (BitVec.ofInt 64 (a : Int)).toNat = a := by
    rw [BitVec.ofInt_natCast, BitVec.toNat_ofNat]; exact Nat.mod_eq_of_lt (by omega)
  have h2 : (BitVec.ofInt 64 (b : Int)).toNat = b := by
    rw [BitVec.ofInt_natCast, BitVec.toNat_ofNat]; exact Nat.mod_eq_of_lt (by omega)
  show IntKind.i64.wrap ((BitVec.ofInt 64 (a : Int) ||| BitVec.ofInt 64 (b : Int)).toNat : Int) = _
  rw [BitVec.toNat_or, h1, h2]
  exact IntWalk.i64_in _ (by omega)
theorem or_add (R j : Nat) (h : 2 ^ (j + 1) ∣ R) : R ||| 2 ^ j = R + 2 ^ j := by
  obtain ⟨q, rfl⟩ := h
  exact (Nat.two_pow_add_eq_or_of_lt (Nat.pow_lt_pow_right (by omega) (by omega)) q).symm
theorem two_pow_lt (k : Nat) (h : k < 30) : 2 ^ (29 - k) < 1073741824 := by
  have : 2 ^ (29 - k) ≤ 2 ^ 29 := Nat.pow_le_pow_right (by omega) (by omega)
  omega
theorem sq_bound (S : Nat) (h : S ≤ 1073741824) : (S : Int) * (S : Int) ≤ 1152921504606846976 := by
  have : S * S ≤ 1073741824 * 1073741824 := Nat.mul_le_mul h h
  have e : ((S * S : Nat) : Int) = (S : Int) * (S : Int) := Int.natCast_mul S S
  omega
theorem sq_nonneg (S : Nat) : 0 ≤ (S : Int) * (S : Int) := Int.mul_nonneg (Int.natCast_nonneg _) (Int.natCast_nonneg _)
theorem dvd_lt (R P : Nat) (hP : P ∣ 1073741824) (h : P ∣ R) (hR : R < 1073741824) : R + P ≤ 1073741824 := by
  obtain ⟨q, hq⟩ := hP
  obtain ⟨t, rfl⟩ := h
  rw [hq] at hR ⊢
  have : t < q := by
    by_cases c : t < q
    · exact c
    · exact absurd hR (Nat.not_lt.2 (Nat.mul_le_mul_left P (by omega)))
  have e : P * t + P = P * (t + 1) := (Nat.mul_succ P t).symm
  rw [e]
  exact Nat.mul_le_mul_left P this
def SqFixAt (a : Int) (l i : Value) : Prop := ∃ R k : Nat, l = .int .i64 (R : Int) ∧ i = .int .i64 (k : Int) ∧ k ≤ 30 ∧ 2 ^ (30 - k) ∣ R ∧ R < 1073741824 ∧ (R : Int) * (R : Int) ≤ a ∧ a < ((R + 2 ^ (30 - k) : Nat) : Int) * ((R + 2 ^ (30 - k) : Nat) : Int)
end Go.Proofs.Yteddfdhbpgbloaa.Fx
