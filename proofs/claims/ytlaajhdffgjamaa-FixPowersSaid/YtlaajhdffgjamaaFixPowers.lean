/- P1.8: for every number of 64 bits and any two exponents a root's square is not above, the next one's is; the power of two exponents' sum is the product of their powers: no condition. -/
import Derived.Test.YtlaajhdffgjamaaFixNamed2
namespace Go.Proofs.Ytlaajhdffgjamaa.fixPowers
open Go.ChangeShapes Go.WideShapes Go.ChangeAt Go.RowKit
open Go.ChangeMaps (open_string shut_string)

set_option linter.unusedVariables false

theorem own : ownKnob Try.prog.godebug = none := by kernel_rfl
set_option maxHeartbeats 800000 in
theorem root_e (a n m X Y Z r : Int) (E F0 G : Int) (w : World) (n0 : 0 ≤ n) (n1 : n ≤ 255) (m0 : 0 ≤ m) (m1 : m ≤ 255) (HX : Hid (Fx.powV a (n % 70) = X)) (HE : Hid (Fx.powE a (n % 70) = E)) (HY : Hid (Fx.powV a (m % 70) = Y)) (HF : Hid (Fx.powE a (m % 70) = F0)) (HZ : Hid (Fx.powV a (n % 70 + m % 70) = Z)) (HG : Hid (Fx.powE a (n % 70 + m % 70) = G)) (p1 : (E != 0) = true) (p2 : (G != 0) = true)
    (ha : Fx.inB a = true) (h0 : 0 ≤ a) (a2 : a ≤ 1152921504606846975) (hr : Hid (Fx.IsSq a r)) (r0 : 0 ≤ r) (r1 : r ≤ 1073741824) (r2 : r * r ≤ a) (r3 : 0 ≤ r * r) (r4 : a < (r + 1) * (r + 1)) (r5 : (r + 1) * (r + 1) ≤ 4611686018427387904) :
    Calls Try.prog 12 #[.int .i64 a, .int .u8 n, .int .u8 m] w fun e w' => e = .returned (.bool true) ∧ Below w.heap.size w w' := by
  go_enter Try.func12, Try.ntmps12
  go_wp2_with fail
  refine (Fx.sqrt_fix_in a r _ ha h0 hr.out).mono ?_; rintro e w' ⟨rfl, rfl⟩
  go_wp2_with fail
  refine (Fx.awake_yes _).mono ?_; rintro e w' ⟨rfl, hb⟩; have Hb := Lib.hid hb; clear hb
  go_wp2_with fail
  refine (Fx.pow_is _ _ X E _ HX.out HE.out).mono ?_; rintro e w' ⟨rfl, rfl⟩
  go_wp2_with fail
  refine (Fx.pow_is _ _ Y F0 _ HY.out HF.out).mono ?_; rintro e w' ⟨rfl, rfl⟩
  go_wp2_with fail
  refine (Fx.pow_is _ _ Z G _ HZ.out HG.out).mono ?_; rintro e w' ⟨rfl, rfl⟩
  go_wp2_with fail
  go_ret
  exact ⟨rfl, Hb.out⟩
set_option maxHeartbeats 800000 in
theorem none_e (a n m X Y Z : Int) (E F0 G : Int) (w : World) (n0 : 0 ≤ n) (n1 : n ≤ 255) (m0 : 0 ≤ m) (m1 : m ≤ 255) (HX : Hid (Fx.powV a (n % 70) = X)) (HE : Hid (Fx.powE a (n % 70) = E)) (HY : Hid (Fx.powV a (m % 70) = Y)) (HF : Hid (Fx.powE a (m % 70) = F0)) (HZ : Hid (Fx.powV a (n % 70 + m % 70) = Z)) (HG : Hid (Fx.powE a (n % 70 + m % 70) = G)) (p1 : (E != 0) = true) (p2 : (G != 0) = true)
    (ha : Fx.inB a = false ∨ a < 0) (h0 : decide (0 ≤ a) = false ∨ (decide (0 ≤ a) = true ∧ decide (a ≤ 1152921504606846975) = false)) :
    Calls Try.prog 12 #[.int .i64 a, .int .u8 n, .int .u8 m] w fun e w' => e = .returned (.bool true) ∧ Below w.heap.size w w' := by
  rcases h0 with h0 | ⟨h0, h1⟩
  · go_enter Try.func12, Try.ntmps12
    go_wp2_with fail
    refine (Fx.sqrt_fix_no a _ ha).mono ?_; rintro e w' ⟨rfl, rfl⟩
    go_wp2_with fail
    refine (Fx.awake_yes _).mono ?_; rintro e w' ⟨rfl, hb⟩; have Hb := Lib.hid hb; clear hb
    go_wp2_with fail
    refine (Fx.pow_is _ _ X E _ HX.out HE.out).mono ?_; rintro e w' ⟨rfl, rfl⟩
    go_wp2_with fail
    refine (Fx.pow_is _ _ Y F0 _ HY.out HF.out).mono ?_; rintro e w' ⟨rfl, rfl⟩
    go_wp2_with fail
    refine (Fx.pow_is _ _ Z G _ HZ.out HG.out).mono ?_; rintro e w' ⟨rfl, rfl⟩
    go_wp2_with fail
    go_ret
    exact ⟨rfl, Hb.out⟩
  · go_enter Try.func12, Try.ntmps12
    go_wp2_with fail
    refine (Fx.sqrt_fix_no a _ ha).mono ?_; rintro e w' ⟨rfl, rfl⟩
    go_wp2_with fail
    refine (Fx.awake_yes _).mono ?_; rintro e w' ⟨rfl, hb⟩; have Hb := Lib.hid hb; clear hb
    go_wp2_with fail
    refine (Fx.pow_is _ _ X E _ HX.out HE.out).mono ?_; rintro e w' ⟨rfl, rfl⟩
    go_wp2_with fail
    refine (Fx.pow_is _ _ Y F0 _ HY.out HF.out).mono ?_; rintro e w' ⟨rfl, rfl⟩
    go_wp2_with fail
    refine (Fx.pow_is _ _ Z G _ HZ.out HG.out).mono ?_; rintro e w' ⟨rfl, rfl⟩
    go_wp2_with fail
    go_ret
    exact ⟨rfl, Hb.out⟩
set_option maxHeartbeats 800000 in
theorem root_f (a n m X Y Z r : Int) (F0 G : Int) (w : World) (n0 : 0 ≤ n) (n1 : n ≤ 255) (m0 : 0 ≤ m) (m1 : m ≤ 255) (HX : Hid (Fx.powV a (n % 70) = X)) (HE : Hid (Fx.powE a (n % 70) = 0)) (HY : Hid (Fx.powV a (m % 70) = Y)) (HF : Hid (Fx.powE a (m % 70) = F0)) (HZ : Hid (Fx.powV a (n % 70 + m % 70) = Z)) (HG : Hid (Fx.powE a (n % 70 + m % 70) = G)) (p1 : (F0 != 0) = true) (p2 : (G != 0) = true)
    (ha : Fx.inB a = true) (h0 : 0 ≤ a) (a2 : a ≤ 1152921504606846975) (hr : Hid (Fx.IsSq a r)) (r0 : 0 ≤ r) (r1 : r ≤ 1073741824) (r2 : r * r ≤ a) (r3 : 0 ≤ r * r) (r4 : a < (r + 1) * (r + 1)) (r5 : (r + 1) * (r + 1) ≤ 4611686018427387904) :
    Calls Try.prog 12 #[.int .i64 a, .int .u8 n, .int .u8 m] w fun e w' => e = .returned (.bool true) ∧ Below w.heap.size w w' := by
  go_enter Try.func12, Try.ntmps12
  go_wp2_with fail
  refine (Fx.sqrt_fix_in a r _ ha h0 hr.out).mono ?_; rintro e w' ⟨rfl, rfl⟩
  go_wp2_with fail
  refine (Fx.awake_yes _).mono ?_; rintro e w' ⟨rfl, hb⟩; have Hb := Lib.hid hb; clear hb
  go_wp2_with fail
  refine (Fx.pow_is _ _ X 0 _ HX.out HE.out).mono ?_; rintro e w' ⟨rfl, rfl⟩
  go_wp2_with fail
  refine (Fx.pow_is _ _ Y F0 _ HY.out HF.out).mono ?_; rintro e w' ⟨rfl, rfl⟩
  go_wp2_with fail
  refine (Fx.pow_is _ _ Z G _ HZ.out HG.out).mono ?_; rintro e w' ⟨rfl, rfl⟩
  go_wp2_with fail
  go_ret
  exact ⟨rfl, Hb.out⟩
set_option maxHeartbeats 800000 in
theorem none_f (a n m X Y Z : Int) (F0 G : Int) (w : World) (n0 : 0 ≤ n) (n1 : n ≤ 255) (m0 : 0 ≤ m) (m1 : m ≤ 255) (HX : Hid (Fx.powV a (n % 70) = X)) (HE : Hid (Fx.powE a (n % 70) = 0)) (HY : Hid (Fx.powV a (m % 70) = Y)) (HF : Hid (Fx.powE a (m % 70) = F0)) (HZ : Hid (Fx.powV a (n % 70 + m % 70) = Z)) (HG : Hid (Fx.powE a (n % 70 + m % 70) = G)) (p1 : (F0 != 0) = true) (p2 : (G != 0) = true)
    (ha : Fx.inB a = false ∨ a < 0) (h0 : decide (0 ≤ a) = false ∨ (decide (0 ≤ a) = true ∧ decide (a ≤ 1152921504606846975) = false)) :
    Calls Try.prog 12 #[.int .i64 a, .int .u8 n, .int .u8 m] w fun e w' => e = .returned (.bool true) ∧ Below w.heap.size w w' := by
  rcases h0 with h0 | ⟨h0, h1⟩
  · go_enter Try.func12, Try.ntmps12
    go_wp2_with fail
    refine (Fx.sqrt_fix_no a _ ha).mono ?_; rintro e w' ⟨rfl, rfl⟩
    go_wp2_with fail
    refine (Fx.awake_yes _).mono ?_; rintro e w' ⟨rfl, hb⟩; have Hb := Lib.hid hb; clear hb
    go_wp2_with fail
    refine (Fx.pow_is _ _ X 0 _ HX.out HE.out).mono ?_; rintro e w' ⟨rfl, rfl⟩
    go_wp2_with fail
    refine (Fx.pow_is _ _ Y F0 _ HY.out HF.out).mono ?_; rintro e w' ⟨rfl, rfl⟩
    go_wp2_with fail
    refine (Fx.pow_is _ _ Z G _ HZ.out HG.out).mono ?_; rintro e w' ⟨rfl, rfl⟩
    go_wp2_with fail
    go_ret
    exact ⟨rfl, Hb.out⟩
  · go_enter Try.func12, Try.ntmps12
    go_wp2_with fail
    refine (Fx.sqrt_fix_no a _ ha).mono ?_; rintro e w' ⟨rfl, rfl⟩
    go_wp2_with fail
    refine (Fx.awake_yes _).mono ?_; rintro e w' ⟨rfl, hb⟩; have Hb := Lib.hid hb; clear hb
    go_wp2_with fail
    refine (Fx.pow_is _ _ X 0 _ HX.out HE.out).mono ?_; rintro e w' ⟨rfl, rfl⟩
    go_wp2_with fail
    refine (Fx.pow_is _ _ Y F0 _ HY.out HF.out).mono ?_; rintro e w' ⟨rfl, rfl⟩
    go_wp2_with fail
    refine (Fx.pow_is _ _ Z G _ HZ.out HG.out).mono ?_; rintro e w' ⟨rfl, rfl⟩
    go_wp2_with fail
    go_ret
    exact ⟨rfl, Hb.out⟩
set_option maxHeartbeats 800000 in
theorem root_o (a n m X Y Z r : Int) (G : Int) (w : World) (n0 : 0 ≤ n) (n1 : n ≤ 255) (m0 : 0 ≤ m) (m1 : m ≤ 255) (HX : Hid (Fx.powV a (n % 70) = X)) (HE : Hid (Fx.powE a (n % 70) = 0)) (HY : Hid (Fx.powV a (m % 70) = Y)) (HF : Hid (Fx.powE a (m % 70) = 0)) (HZ : Hid (Fx.powV a (n % 70 + m % 70) = Z)) (HG : Hid (Fx.powE a (n % 70 + m % 70) = G)) (HM : Hid (Fx.twoV X Y (X * Y) = Z)) (HN : Hid (Fx.twoE X Y (X * Y) = G))
    (ha : Fx.inB a = true) (h0 : 0 ≤ a) (a2 : a ≤ 1152921504606846975) (hr : Hid (Fx.IsSq a r)) (r0 : 0 ≤ r) (r1 : r ≤ 1073741824) (r2 : r * r ≤ a) (r3 : 0 ≤ r * r) (r4 : a < (r + 1) * (r + 1)) (r5 : (r + 1) * (r + 1) ≤ 4611686018427387904) :
    Calls Try.prog 12 #[.int .i64 a, .int .u8 n, .int .u8 m] w fun e w' => e = .returned (.bool true) ∧ Below w.heap.size w w' := by
  go_enter Try.func12, Try.ntmps12
  go_wp2_with fail
  refine (Fx.sqrt_fix_in a r _ ha h0 hr.out).mono ?_; rintro e w' ⟨rfl, rfl⟩
  go_wp2_with fail
  refine (Fx.awake_yes _).mono ?_; rintro e w' ⟨rfl, hb⟩; have Hb := Lib.hid hb; clear hb
  go_wp2_with fail
  refine (Fx.pow_is _ _ X 0 _ HX.out HE.out).mono ?_; rintro e w' ⟨rfl, rfl⟩
  go_wp2_with fail
  refine (Fx.pow_is _ _ Y 0 _ HY.out HF.out).mono ?_; rintro e w' ⟨rfl, rfl⟩
  go_wp2_with fail
  refine (Fx.pow_is _ _ Z G _ HZ.out HG.out).mono ?_; rintro e w' ⟨rfl, rfl⟩
  go_wp2_with fail
  refine (Fx.mul_is _ _ Z G _ HM.out HN.out).mono ?_; rintro e w' ⟨rfl, rfl⟩
  go_wp2_with fail
  refine (Fx.same_yes _ _ _).mono ?_; rintro e w' ⟨rfl, rfl⟩
  go_wp2_with fail
  go_ret
  exact ⟨rfl, Hb.out⟩
set_option maxHeartbeats 800000 in
theorem none_o (a n m X Y Z : Int) (G : Int) (w : World) (n0 : 0 ≤ n) (n1 : n ≤ 255) (m0 : 0 ≤ m) (m1 : m ≤ 255) (HX : Hid (Fx.powV a (n % 70) = X)) (HE : Hid (Fx.powE a (n % 70) = 0)) (HY : Hid (Fx.powV a (m % 70) = Y)) (HF : Hid (Fx.powE a (m % 70) = 0)) (HZ : Hid (Fx.powV a (n % 70 + m % 70) = Z)) (HG : Hid (Fx.powE a (n % 70 + m % 70) = G)) (HM : Hid (Fx.twoV X Y (X * Y) = Z)) (HN : Hid (Fx.twoE X Y (X * Y) = G))
    (ha : Fx.inB a = false ∨ a < 0) (h0 : decide (0 ≤ a) = false ∨ (decide (0 ≤ a) = true ∧ decide (a ≤ 1152921504606846975) = false)) :
    Calls Try.prog 12 #[.int .i64 a, .int .u8 n, .int .u8 m] w fun e w' => e = .returned (.bool true) ∧ Below w.heap.size w w' := by
  rcases h0 with h0 | ⟨h0, h1⟩
  · go_enter Try.func12, Try.ntmps12
    go_wp2_with fail
    refine (Fx.sqrt_fix_no a _ ha).mono ?_; rintro e w' ⟨rfl, rfl⟩
    go_wp2_with fail
    refine (Fx.awake_yes _).mono ?_; rintro e w' ⟨rfl, hb⟩; have Hb := Lib.hid hb; clear hb
    go_wp2_with fail
    refine (Fx.pow_is _ _ X 0 _ HX.out HE.out).mono ?_; rintro e w' ⟨rfl, rfl⟩
    go_wp2_with fail
    refine (Fx.pow_is _ _ Y 0 _ HY.out HF.out).mono ?_; rintro e w' ⟨rfl, rfl⟩
    go_wp2_with fail
    refine (Fx.pow_is _ _ Z G _ HZ.out HG.out).mono ?_; rintro e w' ⟨rfl, rfl⟩
    go_wp2_with fail
    refine (Fx.mul_is _ _ Z G _ HM.out HN.out).mono ?_; rintro e w' ⟨rfl, rfl⟩
    go_wp2_with fail
    refine (Fx.same_yes _ _ _).mono ?_; rintro e w' ⟨rfl, rfl⟩
    go_wp2_with fail
    go_ret
    exact ⟨rfl, Hb.out⟩
  · go_enter Try.func12, Try.ntmps12
    go_wp2_with fail
    refine (Fx.sqrt_fix_no a _ ha).mono ?_; rintro e w' ⟨rfl, rfl⟩
    go_wp2_with fail
    refine (Fx.awake_yes _).mono ?_; rintro e w' ⟨rfl, hb⟩; have Hb := Lib.hid hb; clear hb
    go_wp2_with fail
    refine (Fx.pow_is _ _ X 0 _ HX.out HE.out).mono ?_; rintro e w' ⟨rfl, rfl⟩
    go_wp2_with fail
    refine (Fx.pow_is _ _ Y 0 _ HY.out HF.out).mono ?_; rintro e w' ⟨rfl, rfl⟩
    go_wp2_with fail
    refine (Fx.pow_is _ _ Z G _ HZ.out HG.out).mono ?_; rintro e w' ⟨rfl, rfl⟩
    go_wp2_with fail
    refine (Fx.mul_is _ _ Z G _ HM.out HN.out).mono ?_; rintro e w' ⟨rfl, rfl⟩
    go_wp2_with fail
    refine (Fx.same_yes _ _ _).mono ?_; rintro e w' ⟨rfl, rfl⟩
    go_wp2_with fail
    go_ret
    exact ⟨rfl, Hb.out⟩
theorem abs_pow_small (a : Int) (h : a.natAbs ≤ 1) (k : Nat) : (a ^ k).natAbs ≤ 1 := by
  induction k with
  | zero => simp
  | succ k ih =>
    rw [Int.pow_succ, Int.natAbs_mul]
    have := Nat.mul_le_mul ih h
    omega
theorem pw_eq (a : Int) (k : Nat) : Fx.pwO a k = if Fx.inB (a ^ k) = true then some (a ^ k) else none := by
  induction k with
  | zero => rw [Int.pow_zero]; rfl
  | succ k ih =>
    rw [Fx.pwO, ih, Int.pow_succ]
    cases h : Fx.inB (a ^ k)
    · have hs : ¬ a.natAbs ≤ 1 := by
        intro c
        have := abs_pow_small a c k
        rw [Fx.in_mk (by omega) (by omega)] at h
        cases h
      have big : 1152921504606846976 ≤ (a ^ k).natAbs := by
        have := Fx.in_no h; omega
      have mm : 1152921504606846976 * 2 ≤ (a ^ k * a).natAbs := by
        rw [Int.natAbs_mul]; exact Nat.mul_le_mul big (by omega)
      have out : Fx.inB (a ^ k * a) = false := Fx.in_not (by omega)
      simp [out]
    · simp
theorem ret_eq (z : Int) : Fx.retV (if Fx.inB z = true then some z else none) = Fx.gotV z ∧ Fx.retE (if Fx.inB z = true then some z else none) = Fx.gotE z := by
  unfold Fx.retV Fx.retE Fx.gotV Fx.gotE
  cases Fx.inB z <;> simp
theorem pow_got {a n : Int} (ha : Fx.inB a = true) (h0 : 0 ≤ n) (h1 : n ≤ 1000) : Fx.powV a n = Fx.gotV (a ^ n.toNat) ∧ Fx.powE a n = Fx.gotE (a ^ n.toNat) := by
  have ok : Fx.powOk a n = true := by unfold Fx.powOk; simp [ha, Fx.in_mk (by omega : -1152921504606846976 ≤ n) (by omega), h0]
  rw [Fx.powV_yes ok, Fx.powE_yes ok, pw_eq]
  exact ret_eq _
theorem pow_bad {a n : Int} (ha : Fx.inB a = false) : Fx.powE a n = 1 := Fx.powE_no (by unfold Fx.powOk; simp [ha])
theorem got_ne {z : Int} (h : Fx.gotE z ≠ 0) : Fx.inB z = false := by
  cases c : Fx.inB z
  · rfl
  · exact absurd (Fx.got_in c).2 h
theorem got_zero {z : Int} (h : Fx.gotE z = 0) : Fx.inB z = true := by
  cases c : Fx.inB z
  · rw [(Fx.got_out c).2] at h; omega
  · rfl
/-- Behind a power that is too great there is none. -/
theorem pow_up {a : Int} {k j : Nat} (h : Fx.inB (a ^ k) = false) (hj : k ≤ j) : Fx.inB (a ^ j) = false := by
  have e := Fx.pwO_none (a := a) (k := k) (n := j) (by rw [pw_eq, h]; rfl) hj
  rw [pw_eq] at e
  cases c : Fx.inB (a ^ j)
  · rfl
  · rw [c] at e; simp at e

theorem walk (a0 : Int) (a1 : Int) (a2 : Int) (w0 : (Lit.int .i64 a0).wf = true) (w1 : (Lit.int .u8 a1).wf = true) (w2 : (Lit.int .u8 a2).wf = true) (w : World) :
    Calls Try.prog 12 #[.int .i64 a0, .int .u8 a1, .int .u8 a2] w fun e w' => e = .returned (.bool true) ∧ Below w.heap.size w w' := by
  obtain ⟨n0, n1⟩ : 0 ≤ a1 ∧ a1 ≤ 255 := by have := bounds_u8 w1; omega
  obtain ⟨m0, m1⟩ : 0 ≤ a2 ∧ a2 ≤ 255 := by have := bounds_u8 w2; omega
  have hroot : (Fx.inB a0 = true ∧ 0 ≤ a0) ∨ ((Fx.inB a0 = false ∨ a0 < 0) ∧ (decide (0 ≤ a0) = false ∨ (decide (0 ≤ a0) = true ∧ decide (a0 ≤ 1152921504606846975) = false))) := by
    by_cases h0 : 0 ≤ a0
    · cases ha : Fx.inB a0
      · have := Fx.in_no ha
        exact .inr ⟨.inl rfl, .inr ⟨by simp [h0], by simp; omega⟩⟩
      · exact .inl ⟨rfl, h0⟩
    · exact .inr ⟨.inr (by omega), .inl (by simp; omega)⟩
  have hrt : ∀ (hi : Fx.inB a0 = true) (h0 : 0 ≤ a0), ∃ r, Fx.IsSq a0 r ∧ 0 ≤ r ∧ r ≤ 1073741823 ∧ r * r ≤ a0 ∧ 0 ≤ r * r ∧ a0 < (r + 1) * (r + 1) ∧ (r + 1) * (r + 1) ≤ 4611686018427387904 := by
    intro hi h0
    obtain ⟨r, hr⟩ := Fx.sq_exists h0
    obtain ⟨c1, c2, c3⟩ := id hr
    have lt : r < 1073741824 := Fx.sq_le_of c2 (by have := Fx.in_yes hi; omega) (by omega)
    refine ⟨r, hr, c1, by omega, c2, Int.mul_nonneg c1 c1, c3, ?_⟩
    have := Fx.sq_mono (show r + 1 ≤ 1073741824 by omega) (by omega)
    omega
  have key : (Fx.powE a0 (a1 % 70) ≠ 0 ∧ Fx.powE a0 (a1 % 70 + a2 % 70) ≠ 0) ∨ (Fx.powE a0 (a1 % 70) = 0 ∧ Fx.powE a0 (a2 % 70) ≠ 0 ∧ Fx.powE a0 (a1 % 70 + a2 % 70) ≠ 0) ∨
      (Fx.powE a0 (a1 % 70) = 0 ∧ Fx.powE a0 (a2 % 70) = 0 ∧ Fx.twoV (Fx.powV a0 (a1 % 70)) (Fx.powV a0 (a2 % 70)) (Fx.powV a0 (a1 % 70) * Fx.powV a0 (a2 % 70)) = Fx.powV a0 (a1 % 70 + a2 % 70) ∧ Fx.twoE (Fx.powV a0 (a1 % 70)) (Fx.powV a0 (a2 % 70)) (Fx.powV a0 (a1 % 70) * Fx.powV a0 (a2 % 70)) = Fx.powE a0 (a1 % 70 + a2 % 70)) := by
    cases ha : Fx.inB a0
    · left; rw [pow_bad ha, pow_bad ha]; exact ⟨by omega, by omega⟩
    · obtain ⟨v1, e1⟩ := pow_got ha (show 0 ≤ a1 % 70 by omega) (by omega)
      obtain ⟨v2, e2⟩ := pow_got ha (show 0 ≤ a2 % 70 by omega) (by omega)
      obtain ⟨v3, e3⟩ := pow_got ha (show 0 ≤ a1 % 70 + a2 % 70 by omega) (by omega)
      have hs : (a1 % 70 + a2 % 70).toNat = (a1 % 70).toNat + (a2 % 70).toNat := by omega
      rw [v1, e1, v2, e2, v3, e3, hs]
      by_cases c1 : Fx.gotE (a0 ^ (a1 % 70).toNat) = 0
      · by_cases c2 : Fx.gotE (a0 ^ (a2 % 70).toNat) = 0
        · right; right
          have i1 := got_zero c1
          have i2 := got_zero c2
          rw [(Fx.got_in i1).1, (Fx.got_in i2).1, (Fx.two_in i1 i2).1, (Fx.two_in i1 i2).2, Int.pow_add]
          exact ⟨c1, c2, rfl, rfl⟩
        · right; left
          refine ⟨c1, c2, ?_⟩
          rw [(Fx.got_out (pow_up (got_ne c2) (Nat.le_add_left _ _))).2]; omega
      · left
        refine ⟨c1, ?_⟩
        rw [(Fx.got_out (pow_up (got_ne c1) (Nat.le_add_right _ _))).2]; omega
  rcases hroot with ⟨hi, h0⟩ | ⟨hi, h0⟩
  · obtain ⟨r, hr, r0, r1, r2, r3, r4, r5⟩ := hrt hi h0
    have a2' := (Fx.in_yes hi).2
    rcases key with ⟨k1, k2⟩ | ⟨k1, k2, k3⟩ | ⟨k1, k2, k3, k4⟩
    · exact root_e a0 a1 a2 _ _ _ r _ _ _ w n0 n1 m0 m1 (Lib.hid rfl) (Lib.hid rfl) (Lib.hid rfl) (Lib.hid rfl) (Lib.hid rfl) (Lib.hid rfl) (by rw [bne_iff_ne]; exact k1) (by rw [bne_iff_ne]; exact k2) hi h0 a2' (Lib.hid hr) r0 (by omega) r2 r3 r4 r5
    · exact root_f a0 a1 a2 _ _ _ r _ _ w n0 n1 m0 m1 (Lib.hid rfl) (Lib.hid k1) (Lib.hid rfl) (Lib.hid rfl) (Lib.hid rfl) (Lib.hid rfl) (by rw [bne_iff_ne]; exact k2) (by rw [bne_iff_ne]; exact k3) hi h0 a2' (Lib.hid hr) r0 (by omega) r2 r3 r4 r5
    · exact root_o a0 a1 a2 _ _ _ r _ w n0 n1 m0 m1 (Lib.hid rfl) (Lib.hid k1) (Lib.hid rfl) (Lib.hid k2) (Lib.hid rfl) (Lib.hid rfl) (Lib.hid k3) (Lib.hid k4) hi h0 a2' (Lib.hid hr) r0 (by omega) r2 r3 r4 r5
  · rcases key with ⟨k1, k2⟩ | ⟨k1, k2, k3⟩ | ⟨k1, k2, k3, k4⟩
    · exact none_e a0 a1 a2 _ _ _ _ _ _ w n0 n1 m0 m1 (Lib.hid rfl) (Lib.hid rfl) (Lib.hid rfl) (Lib.hid rfl) (Lib.hid rfl) (Lib.hid rfl) (by rw [bne_iff_ne]; exact k1) (by rw [bne_iff_ne]; exact k2) hi h0
    · exact none_f a0 a1 a2 _ _ _ _ _ w n0 n1 m0 m1 (Lib.hid rfl) (Lib.hid k1) (Lib.hid rfl) (Lib.hid rfl) (Lib.hid rfl) (Lib.hid rfl) (by rw [bne_iff_ne]; exact k2) (by rw [bne_iff_ne]; exact k3) hi h0
    · exact none_o a0 a1 a2 _ _ _ _ w n0 n1 m0 m1 (Lib.hid rfl) (Lib.hid k1) (Lib.hid rfl) (Lib.hid k2) (Lib.hid rfl) (Lib.hid rfl) (Lib.hid k3) (Lib.hid k4) hi h0
set_option maxRecDepth 100000 in
theorem lifted (os : Os) (started : os.Started) (H : Type) (enc : TypeId × Value → H) :
    ReturnsInHanded {} Try.checked os 12 .any (Rows.fixPowersSpec.pre6 enc Try.prog Try.f12 Rows.fixPowersRow.domain false) (Rows.fixPowersSpec.post enc Try.prog Try.f12 false true false false) := by
  refine returnsInHanded_of_change (C := Try.checked) own started (by kernel_rfl) Try.func12
    (ChangeSpec.witness6 (enc := enc) (C := Try.checked) false ⟨#[], #[.int .i64 0, .int .u8 0, .int .u8 0], []⟩ 8 (by kernel_rfl) (by kernel_rfl) (by kernel_rfl) (by kernel_rfl)) ?_
  intro W base args ds gs before hval0 hW hcnd _
  have hval : ∀ (j : Nat) t v, Try.f12.params[j]? = some t → args[j]? = some v → Value.okWide Try.prog W .any base t v := hval0
  have hW' := hW
  obtain ⟨p, q, hA0, hV, rfl, hfz, hnd⟩ := hW
  have hA : DataW.TrodAll enc Try.prog W 0 (fun _ => true) true Try.f12.params.toList args.toList ds p := hA0
  rw [Try.params12] at hA hval
  obtain ⟨v0, vs0, d0, ds0, p0, q0, hargs, rfl, rfl, h0, r0⟩ := trodAll_cons hA
  obtain ⟨v1, vs1, d1, ds1, p1, q1, rfl, rfl, rfl, h1, r1⟩ := trodAll_cons r0
  obtain ⟨v2, vs2, d2, ds2, p2, q2, rfl, rfl, rfl, h2, r2⟩ := trodAll_cons r1
  obtain ⟨rfl, rfl, rfl⟩ := trodAll_nil r2
  obtain rfl : args = #[v0, v1, v2] := by cases args; simp_all
  obtain ⟨rfl, rfl⟩ := trodVars_none hV
  obtain ⟨a0, rfl, rfl, rfl, w0⟩ := open_int Try.underlying2 (hval 0 2 v0 rfl rfl) h0
  obtain ⟨a1, rfl, rfl, rfl, w1⟩ := open_int Try.underlying5 (hval 1 5 v1 rfl rfl) h1
  obtain ⟨a2, rfl, rfl, rfl, w2⟩ := open_int Try.underlying5 (hval 2 5 v2 rfl rfl) h2
  clear hA0 hval0
  refine (walk a0 a1 a2 w0 w1 w2 W).mono fun e W' ⟨he, bel⟩ => ?_
  subst he
  exact ⟨_, rfl, _, _, _, [], _, [], hW', trodAll_mk1 (shut_bool Try.underlying4 _), (trodAll_cons_mk (shut_int Try.underlying2 w0) (trodAll_cons_mk (shut_int Try.underlying5 w1) (trodAll_cons_mk (shut_int Try.underlying5 w2) trodAll_mk0))), rfl, bel.frame _, fun h => by cases h⟩

theorem over : Rows.fixPowersRow.holds Try.pinned (OpenSpec.ofChange Rows.fixPowersSpec) :=
  OpenClaim.holds_of_wide 12 Try.f12 rfl rfl rfl rfl rfl rfl rfl ⟨rfl, rfl, rfl, rfl, rfl⟩ rfl rfl rfl rfl rfl (by kernel_rfl) Try.func12 (by kernel_rfl)
    (of_decide_eq_true (by kernel_rfl)) (by unfold Func.isWrapper; first | (rw [if_pos (by decide +kernel)]; kernel_rfl) | (rw [if_neg (by decide +kernel)]; exact ⟨rfl, rfl⟩))
    (fun os started H enc _ => lifted os started H enc)

theorem proved : Rows.FixPowersSaid := over
#print axioms proved
end Go.Proofs.Ytlaajhdffgjamaa.fixPowers
