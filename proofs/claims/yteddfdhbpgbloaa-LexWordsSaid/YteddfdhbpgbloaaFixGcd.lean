/- What the greatest common divisor of layer 1, and the document's, is: for every two numbers of 64 bits. -/
import Derived.Test.YteddfdhbpgbloaaFixParts
import Derived.Below
namespace Go.Proofs.Yteddfdhbpgbloaa.Fx
open Go.ChangeShapes Go.WideShapes Go.ChangeAt Go.RowKit

theorem bel_trans {a b c : World} (h : Below a.heap.size a b) (k : Below b.heap.size b c) : Below a.heap.size a c := h.trans (k.mono h.size)
theorem bel_refl (a : World) : Below a.heap.size a a := Below.refl _ _
theorem bel_drewN {a b : World} (h : Below a.heap.size a b) (n : Nat) : Below a.heap.size a (b.drewN n) := h.trans ⟨rfl, rfl, rfl, Nat.le_refl _, fun _ _ => rfl⟩
/-- The round of Euclid's way. -/
def GcdAt (G : Nat) (w : World) (m n : Value) (wr : World) : Prop :=
  ∃ x y : Nat, m = .int .u64 (x : Int) ∧ n = .int .u64 (y : Int) ∧ Nat.gcd x y = G ∧ x ≤ 1152921504606846976 ∧ y ≤ 1152921504606846976 ∧ Below w.heap.size w wr
theorem gcd_step (x y : Nat) : Nat.gcd y (x % y) = Nat.gcd x y := by
  rw [Nat.gcd_comm y, ← Nat.gcd_rec, Nat.gcd_comm]
theorem gcd_last (x : Nat) : Nat.gcd x 0 = x := Nat.gcd_zero_right x
def GcdRefAt (G : Nat) (m n : Value) : Prop :=
  ∃ x y : Nat, m = .int .i64 (x : Int) ∧ n = .int .i64 (y : Int) ∧ Nat.gcd x y = G ∧ x ≤ 1152921504606846976 ∧ y ≤ 1152921504606846976
def gcdI (a b : Int) : Int := ((Nat.gcd a.natAbs b.natAbs : Nat) : Int)
end Go.Proofs.Yteddfdhbpgbloaa.Fx
