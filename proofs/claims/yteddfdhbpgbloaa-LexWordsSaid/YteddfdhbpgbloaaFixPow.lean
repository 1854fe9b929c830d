/- What the powers of layer 1, and the document's, are: for every two numbers of 64 bits. -/
import Derived.Test.YteddfdhbpgbloaaFixGcd
namespace Go.Proofs.Yteddfdhbpgbloaa.Fx
open Go.ChangeShapes Go.WideShapes Go.ChangeAt Go.RowKit

/-- The product of k factors a, as long as no product is too great. -/
def pwO (a : Int) : Nat → Option Int
  | 0 => some 1
  | k + 1 => (pwO a k).bind fun x => if inB (x * a) = true then some (x * a) else none
theorem pwO_in (a : Int) (k : Nat) (x : Int) (h : pwO a k = some x) : inB x = true := by
  cases k with
  | zero => simp [pwO] at h; subst h; rfl
  | succ k =>
    simp [pwO, Option.bind_eq_some_iff] at h
    obtain ⟨y, _, h2, h3⟩ := h
    subst h3; exact h2
theorem pwO_next {a x : Int} {k : Nat} (h : pwO a k = some x) (hi : inB (x * a) = true) : pwO a (k + 1) = some (x * a) := by
  simp [pwO, h, hi]
theorem pwO_stop {a x : Int} {k : Nat} (h : pwO a k = some x) (hi : inB (x * a) = false) : pwO a (k + 1) = none := by
  simp [pwO, h, hi]
theorem pwO_none {a : Int} {k n : Nat} (h : pwO a k = none) (hn : k ≤ n) : pwO a n = none := by
  induction n with
  | zero => have : k = 0 := by omega
            subst this; exact h
  | succ n ih =>
    by_cases e : k = n + 1
    · subst e; exact h
    · simp [pwO, ih (by omega)]
theorem pwO_zero (k : Nat) : pwO 0 (k + 1) = some 0 := by
  induction k with
  | zero => rfl
  | succ k ih => rw [pwO, ih]; rfl
theorem pwO_one (k : Nat) : pwO 1 k = some 1 := by
  induction k with
  | zero => rfl
  | succ k ih => rw [pwO, ih]; rfl
theorem pwO_minus (k : Nat) : pwO (-1) k = some (if k % 2 = 0 then 1 else -1) := by
  induction k with
  | zero => rfl
  | succ k ih =>
    rw [pwO, ih]
    by_cases h : k % 2 = 0
    · rw [if_pos h, if_neg (by omega)]; rfl
    · rw [if_neg h, if_pos (by omega)]; rfl
theorem pw_short (a : Int) (n : Nat) (h : a.natAbs ≤ 1) (hn : 2 < n) : pwO a n = pwO a (2 - n % 2) := by
  have hc : a = -1 ∨ a = 0 ∨ a = 1 := by omega
  rcases hc with rfl | rfl | rfl
  · rw [pwO_minus, pwO_minus]
    by_cases h : n % 2 = 0
    · rw [if_pos h, if_pos (by omega)]
    · rw [if_neg h, if_neg (by omega)]
  · obtain ⟨k, rfl⟩ : ∃ k, n = k + 1 := ⟨n - 1, by omega⟩
    obtain ⟨m, hm⟩ : ∃ m, 2 - (k + 1) % 2 = m + 1 := ⟨2 - (k + 1) % 2 - 1, by omega⟩
    rw [hm, pwO_zero, pwO_zero]
  · rw [pwO_one, pwO_one]
theorem pw_parity (a : Int) (n : Nat) (h : a.natAbs ≤ 1) (hz : a = 0 → n = 0) : pwO a n = pwO a (n % 2) := by
  have hc : a = -1 ∨ a = 0 ∨ a = 1 := by omega
  rcases hc with rfl | rfl | rfl
  · rw [pwO_minus, pwO_minus]
    by_cases h : n % 2 = 0
    · rw [if_pos h, if_pos (by omega)]
    · rw [if_neg h, if_neg (by omega)]
  · rw [hz rfl]
  · rw [pwO_one, pwO_one]
def retV (o : Option Int) : Int := o.getD 0
def retE (o : Option Int) : Int := if o.isSome = true then 0 else 10
def powOk (a n : Int) : Bool := inB a && (inB n && decide (0 ≤ n))
def powV (a n : Int) : Int := if powOk a n = true then retV (pwO a n.toNat) else 0
def powE (a n : Int) : Int := if powOk a n = true then retE (pwO a n.toNat) else 1
def PowAt (a : Int) (N : Nat) (p i : Value) : Prop := ∃ (k : Nat) (x : Int), k ≤ N ∧ i = .int .i64 (k : Int) ∧ p = .int .i64 x ∧ pwO a k = some x
end Go.Proofs.Yteddfdhbpgbloaa.Fx
