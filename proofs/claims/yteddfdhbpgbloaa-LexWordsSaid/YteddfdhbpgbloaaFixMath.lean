/- Plain answers of layer 1, in the integers: sums, products, parts, powers and roots of fixnums. -/
import GoSem.Claim
namespace Go.Proofs.Yteddfdhbpgbloaa.Fx
/-- Is a number a fixnum? -/
def inB (n : Int) : Bool := decide (-1152921504606846976 ≤ n) && decide (n ≤ 1152921504606846975)
theorem in_yes {n : Int} (h : inB n = true) : -1152921504606846976 ≤ n ∧ n ≤ 1152921504606846975 := by
  unfold inB at h; simpa using h
theorem in_mk {n : Int} (h : -1152921504606846976 ≤ n) (h' : n ≤ 1152921504606846975) : inB n = true := by
  unfold inB; simp [h, h']
theorem in_no {n : Int} (h : inB n = false) : n < -1152921504606846976 ∨ 1152921504606846975 < n := by
  unfold inB at h; simp at h; omega
theorem in_not {n : Int} (h : n < -1152921504606846976 ∨ 1152921504606846975 < n) : inB n = false := by
  unfold inB; simp; omega
/-- A result, if it is a fixnum. -/
def gotV (n : Int) : Int := if inB n = true then n else 0
def gotE (n : Int) : Int := if inB n = true then 0 else 10
def twoV (a b n : Int) : Int := if (inB a && inB b) = true then gotV n else 0
def twoE (a b n : Int) : Int := if (inB a && inB b) = true then gotE n else 1
theorem two_in {a b n : Int} (ha : inB a = true) (hb : inB b = true) : twoV a b n = gotV n ∧ twoE a b n = gotE n := by
  unfold twoV twoE; simp [ha, hb]
theorem got_in {n : Int} (h : inB n = true) : gotV n = n ∧ gotE n = 0 := by unfold gotV gotE; simp [h]
theorem got_out {n : Int} (h : inB n = false) : gotV n = 0 ∧ gotE n = 10 := by unfold gotV gotE; simp [h]
theorem gotV_in (n : Int) : inB (gotV n) = true := by
  cases h : inB n
  · rw [(got_out h).1]; rfl
  · rw [(got_in h).1]; exact h
theorem twoE_ok {a b n : Int} (h : twoE a b n = 0) : inB a = true ∧ inB b = true ∧ inB n = true ∧ twoV a b n = n := by
  unfold twoE at h
  unfold twoV
  cases ha : inB a <;> cases hb : inB b <;> simp [ha, hb] at h ⊢
  unfold gotE at h
  cases hn : inB n <;> simp [hn] at h
  exact ⟨rfl, (got_in hn).1⟩
/-- A product's size. -/
theorem mul_abs (a b : Int) : (a * b).natAbs = a.natAbs * b.natAbs := Int.natAbs_mul a b
theorem abs_in {a : Int} (h : inB a = true) : a.natAbs ≤ 1152921504606846976 := by
  have := in_yes h; omega
theorem mul_neg_abs {a b : Int} (h : (a < 0 ∧ ¬ b < 0) ∨ (¬ a < 0 ∧ b < 0)) : a * b = -((a.natAbs * b.natAbs : Nat) : Int) := by
  have e := mul_abs a b
  have hs : a * b ≤ 0 := by
    rcases h with ⟨h1, h2⟩ | ⟨h1, h2⟩
    · exact Int.mul_nonpos_of_nonpos_of_nonneg (by omega) (by omega)
    · exact Int.mul_nonpos_of_nonneg_of_nonpos (by omega) (by omega)
  rw [← e]; omega
theorem mul_pos_abs {a b : Int} (h : (a < 0 ∧ b < 0) ∨ (¬ a < 0 ∧ ¬ b < 0)) : a * b = ((a.natAbs * b.natAbs : Nat) : Int) := by
  have e := mul_abs a b
  have hs : 0 ≤ a * b := by
    rcases h with ⟨h1, h2⟩ | ⟨h1, h2⟩
    · exact Int.mul_nonneg_of_nonpos_of_nonpos (by omega) (by omega)
    · exact Int.mul_nonneg (by omega) (by omega)
  rw [← e]; omega
theorem abs_mul_le {a b : Int} (ha : inB a = true) (hb : inB b = true) : a.natAbs * b.natAbs ≤ 1329227995784915872903807060280344576 :=
  Nat.le_trans (Nat.mul_le_mul (abs_in ha) (abs_in hb)) (by omega)
end Go.Proofs.Yteddfdhbpgbloaa.Fx
