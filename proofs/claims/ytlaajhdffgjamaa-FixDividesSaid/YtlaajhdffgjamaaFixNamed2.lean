/- The quotients and rests of layer 1 by name. -/
import Derived.Test.YtlaajhdffgjamaaFixNamed
namespace Go.Proofs.Ytlaajhdffgjamaa.Fx
open Go.ChangeShapes Go.WideShapes Go.ChangeAt Go.RowKit
def modV (a b : Int) : Int := if inB b = true then modN (partE a b) (remV a b) b else 0
theorem quo_is (a b v e : Int) (w : World) (hv : quoV a b = v) (he : quoE a b = e) :
    Calls Try.prog 29 #[.int .i64 a, .int .i64 b] w fun x w' => x = .returned (.tuple #[.int .i64 v, .int .i64 e]) ∧ w = w' := by
  subst hv he
  exact quo_fix a b w
theorem rem_is (a b v e : Int) (w : World) (hv : remV a b = v) (he : partE a b = e) :
    Calls Try.prog 31 #[.int .i64 a, .int .i64 b] w fun x w' => x = .returned (.tuple #[.int .i64 v, .int .i64 e]) ∧ w = w' := by
  subst hv he
  exact rem_fix a b w
theorem mod_is (a b v e : Int) (w : World) (hv : modV a b = v) (he : partE a b = e) :
    Calls Try.prog 33 #[.int .i64 a, .int .i64 b] w fun x w' => x = .returned (.tuple #[.int .i64 v, .int .i64 e]) ∧ w = w' := by
  subst hv he
  unfold modV
  cases hb : inB b
  · rw [show partE a b = 1 from by unfold partE; simp [hb]]
    exact mod_fix_out a b w hb
  · exact mod_fix a b w hb
theorem gcd_is (a b v e : Int) (w : World) (hv : twoV a b (gcdI a b) = v) (he : twoE a b (gcdI a b) = e) :
    Calls Try.prog 35 #[.int .i64 a, .int .i64 b] w fun x w' => x = .returned (.tuple #[.int .i64 v, .int .i64 e]) ∧ Below w.heap.size w w' := by
  subst hv he
  exact gcd_fix a b w
theorem pow_is (a b v e : Int) (w : World) (hv : powV a b = v) (he : powE a b = e) :
    Calls Try.prog 25 #[.int .i64 a, .int .i64 b] w fun x w' => x = .returned (.tuple #[.int .i64 v, .int .i64 e]) ∧ w = w' := by
  subst hv he
  exact pow_fix a b w
theorem part_ok {a b : Int} (h : partE a b = 0) : inB a = true ∧ inB b = true ∧ b ≠ 0 := by
  unfold partE at h
  cases ha : inB a <;> cases hb : inB b <;> simp [ha, hb] at h
  by_cases h0 : b = 0
  · simp [h0] at h
  · exact ⟨rfl, rfl, h0⟩
theorem part_no {a b : Int} (h : partE a b ≠ 0) : quoV a b = 0 ∧ quoE a b = partE a b ∧ remV a b = 0 ∧ modV a b = 0 := by
  unfold modV modN quoV quoE remV
  unfold partE at h ⊢
  cases ha : inB a <;> cases hb : inB b <;> simp [ha, hb] at h ⊢
  simp [h]
theorem part_yes {a b : Int} (ha : inB a = true) (hb : inB b = true) (h0 : b ≠ 0) : partE a b = 0 ∧ quoV a b = gotV (a.tdiv b) ∧ quoE a b = gotE (a.tdiv b) ∧ remV a b = a.tmod b ∧ modV a b = modN 0 (a.tmod b) b := by
  have p : partE a b = 0 := by unfold partE; simp [ha, hb, h0]
  unfold modV quoV quoE
  rw [p]
  unfold remV
  simp [ha, hb, h0]
theorem modN_opp {r b : Int} (h : (r < 0 ∧ 0 < b) ∨ (0 < r ∧ b < 0)) : modN 0 r b = r + b := by
  rcases h with ⟨h1, h2⟩ | ⟨h1, h2⟩
  · exact modN_add (by omega) (by rw [decide_eq_true h1, decide_eq_false (by omega)]; rfl)
  · exact modN_add (by omega) (by rw [decide_eq_false (by omega), decide_eq_true h2]; rfl)
theorem tmod_cases {a b : Int} (h0 : b ≠ 0) :
    (a.tmod b = 0 ∧ modN 0 (a.tmod b) b = 0 ∧ (b < 0 ∨ 0 < b)) ∨ (0 < a ∧ 0 < b ∧ 0 < a.tmod b ∧ a.tmod b < b ∧ modN 0 (a.tmod b) b = a.tmod b) ∨ (0 < a ∧ b < 0 ∧ 0 < a.tmod b ∧ a.tmod b < -b ∧ modN 0 (a.tmod b) b = a.tmod b + b) ∨ (a < 0 ∧ 0 < b ∧ -b < a.tmod b ∧ a.tmod b < 0 ∧ modN 0 (a.tmod b) b = a.tmod b + b) ∨ (a < 0 ∧ b < 0 ∧ b < a.tmod b ∧ a.tmod b < 0 ∧ modN 0 (a.tmod b) b = a.tmod b) := by
  have ab : (a.tmod b).natAbs = a.natAbs % b.natAbs := Int.natAbs_tmod a b
  have lt : a.natAbs % b.natAbs < b.natAbs := Nat.mod_lt _ (by omega)
  by_cases hr : a.tmod b = 0
  · left
    rw [hr]
    exact ⟨rfl, modN_z, by omega⟩
  · right
    by_cases sa : 0 ≤ a
    · have s : 0 ≤ a.tmod b := Int.tmod_nonneg b sa
      have ane : a ≠ 0 := by intro e; subst e; simp at hr
      by_cases sb : 0 < b
      · left; exact ⟨by omega, sb, by omega, by omega, modN_same (by rw [decide_eq_decide]; omega)⟩
      · right; left; exact ⟨by omega, by omega, by omega, by omega, modN_opp (by omega)⟩
    · have s : a.tmod b ≤ 0 := by
        have := Int.tmod_nonneg b (show 0 ≤ -a by omega)
        rw [Int.neg_tmod] at this; omega
      right; right
      by_cases sb : 0 < b
      · left; exact ⟨by omega, sb, by omega, by omega, modN_opp (by omega)⟩
      · right; exact ⟨by omega, by omega, by omega, by omega, modN_same (by rw [decide_eq_decide]; omega)⟩
theorem tdiv_out {a b : Int} (ha : inB a = true) (h0 : b ≠ 0) (h : inB (a.tdiv b) = false) : a = -1152921504606846976 ∧ b = -1 := by
  obtain ⟨a1, a2⟩ := in_yes ha
  have e : (a.tdiv b).natAbs = a.natAbs / b.natAbs := Int.natAbs_tdiv a b
  have le : a.natAbs / b.natAbs ≤ a.natAbs := Nat.div_le_self _ _
  have ho := in_no h
  have t : 1152921504606846976 ≤ a.natAbs / b.natAbs := by omega
  have m := Nat.div_mul_le_self a.natAbs b.natAbs
  have b1 : b.natAbs = 1 := by
    by_cases c : 2 ≤ b.natAbs
    · have := Nat.mul_le_mul t c; omega
    · omega
  have hb : b = 1 ∨ b = -1 := by omega
  rcases hb with rfl | rfl
  · rw [Int.tdiv_one] at ho; omega
  · rw [Int.tdiv_neg, Int.tdiv_one] at ho; omega
end Go.Proofs.Ytlaajhdffgjamaa.Fx
