/- What the powers of layer 1, and the document's, are: for every two numbers of 64 bits. -/
import Derived.Test.YtlaajhdffgjamaaFixGcd
namespace Go.Proofs.Ytlaajhdffgjamaa.Fx
open Go.ChangeShapes Go.WideShapes Go.ChangeAt Go.RowKit

/-- The product of k factors a, as long as no product is too great. -/
def pwO (a : Int) : Nat → Option Int
  | 0 => some 1
  | k + 1 => (pwO a k).bind fun x => if inB (x * a) = true then some (x * a) else none
theorem pwO_in (a : Int) (k : Nat) (x : Int) (h : pwO a k = some x) : inB x = true := by
  cases k with
  | zero => simp [pwO] at h; subst h; rfl
  | succ k =>
    simp [pwO, Option.bind_eq_some_iff] at h
    obtain ⟨y, _, h2, h3⟩ := h
    subst h3; exact h2
theorem pwO_next {a x : Int} {k : Nat} (h : pwO a k = some x) (hi : inB (x * a) = true) : pwO a (k + 1) = some (x * a) := by
  simp [pwO, h, hi]
theorem pwO_stop {a x : Int} {k : Nat} (h : pwO a k = some x) (hi : inB (x * a) = false) : pwO a (k + 1) = none := by
  simp [pwO, h, hi]
theorem pwO_none {a : Int} {k n : Nat} (h : pwO a k = none) (hn : k ≤ n) : pwO a n = none := by
  induction n with
  | zero => have : k = 0 := by omega
            subst this; exact h
  | succ n ih =>
    by_cases e : k = n + 1
    · subst e; exact h
    · simp [pwO, ih (by omega)]
theorem pwO_zero (k : Nat) : pwO 0 (k + 1) = some 0 := by
  induction k with
  | zero => rfl
  | succ k ih => rw [pwO, ih]; rfl
theorem pwO_one (k : Nat) : pwO 1 k = some 1 := by
  induction k with
  | zero => rfl
  | succ k ih => rw [pwO, ih]; rfl
theorem pwO_minus (k : Nat) : pwO (-1) k = some (if k % 2 = 0 then 1 else -1) := by
  induction k with
  | zero => rfl
  | succ k ih =>
    rw [pwO, ih]
    by_cases h : k % 2 = 0
    · rw [if_pos h, if_neg (by omega)]; rfl
    · rw [if_neg h, if_pos (by omega)]; rfl
theorem pw_short (a : Int) (n : Nat) (h : a.natAbs ≤ 1) (hn : 2 < n) : pwO a n = pwO a (2 - n % 2) := by
  have hc : a = -1 ∨ a = 0 ∨ a = 1 := by omega
  rcases hc with rfl | rfl | rfl
  · rw [pwO_minus, pwO_minus]
    by_cases h : n % 2 = 0
    · rw [if_pos h, if_pos (by omega)]
    · rw [if_neg h, if_neg (by omega)]
  · obtain ⟨k, rfl⟩ : ∃ k, n = k + 1 := ⟨n - 1, by omega⟩
    obtain ⟨m, hm⟩ : ∃ m, 2 - (k + 1) % 2 = m + 1 := ⟨2 - (k + 1) % 2 - 1, by omega⟩
    rw [hm, pwO_zero, pwO_zero]
  · rw [pwO_one, pwO_one]
theorem pw_parity (a : Int) (n : Nat) (h : a.natAbs ≤ 1) (hz : a = 0 → n = 0) : pwO a n = pwO a (n % 2) := by
  have hc : a = -1 ∨ a = 0 ∨ a = 1 := by omega
  rcases hc with rfl | rfl | rfl
  · rw [pwO_minus, pwO_minus]
    by_cases h : n % 2 = 0
    · rw [if_pos h, if_pos (by omega)]
    · rw [if_neg h, if_neg (by omega)]
  · rw [hz rfl]
  · rw [pwO_one, pwO_one]
def retV (o : Option Int) : Int := o.getD 0
def retE (o : Option Int) : Int := if o.isSome = true then 0 else 10
def powOk (a n : Int) : Bool := inB a && (inB n && decide (0 ≤ n))
def powV (a n : Int) : Int := if powOk a n = true then retV (pwO a n.toNat) else 0
def powE (a n : Int) : Int := if powOk a n = true then retE (pwO a n.toNat) else 1
def PowAt (a : Int) (N : Nat) (p i : Value) : Prop := ∃ (k : Nat) (x : Int), k ≤ N ∧ i = .int .i64 (k : Int) ∧ p = .int .i64 x ∧ pwO a k = some x
theorem mul_fix_ok (a b q : Int) (w : World) (ha : inB a = true) (hb : inB b = true) (hq : a * b = q) (hi : inB q = true) :
    Calls Try.prog 23 #[.int .i64 a, .int .i64 b] w fun e w' => e = .returned (.tuple #[.int .i64 q, .int .i64 0]) ∧ w = w' := by
  refine (mul_fix a b w).mono ?_
  rw [(two_in ha hb).1, (two_in ha hb).2, hq, (got_in hi).1, (got_in hi).2]
  exact fun _ _ h => h
theorem mul_fix_over (a b q : Int) (w : World) (ha : inB a = true) (hb : inB b = true) (hq : a * b = q) (hi : inB q = false) :
    Calls Try.prog 23 #[.int .i64 a, .int .i64 b] w fun e w' => e = .returned (.tuple #[.int .i64 0, .int .i64 10]) ∧ w = w' := by
  refine (mul_fix a b w).mono ?_
  rw [(two_in ha hb).1, (two_in ha hb).2, hq, (got_out hi).1, (got_out hi).2]
  exact fun _ _ h => h
theorem mul_ref_ok (a b q : Int) (w : World) (ha : inB a = true) (hb : inB b = true) (hq : a * b = q) (hi : inB q = true) :
    Calls Try.prog 24 #[.int .i64 a, .int .i64 b] w fun e w' => e = .returned (.tuple #[.int .i64 q, .int .i64 0]) ∧ w = w' := by
  refine (mul_ref a b w).mono ?_
  rw [(two_in ha hb).1, (two_in ha hb).2, hq, (got_in hi).1, (got_in hi).2]
  exact fun _ _ h => h
theorem mul_ref_over (a b q : Int) (w : World) (ha : inB a = true) (hb : inB b = true) (hq : a * b = q) (hi : inB q = false) :
    Calls Try.prog 24 #[.int .i64 a, .int .i64 b] w fun e w' => e = .returned (.tuple #[.int .i64 0, .int .i64 10]) ∧ w = w' := by
  refine (mul_ref a b w).mono ?_
  rw [(two_in ha hb).1, (two_in ha hb).2, hq, (got_out hi).1, (got_out hi).2]
  exact fun _ _ h => h
set_option maxHeartbeats 800000 in
theorem pow_fix_plain (a : Int) (N : Nat) (R : Option Int) (w : World) (ha : inB a = true) (hn : inB N = true) (hc : N ≤ 2 ∨ 1 < a.natAbs) (HR : Hid (pwO a N = R)) :
    Calls Try.prog 25 #[.int .i64 a, .int .i64 (N : Int)] w fun e w' => e = .returned (.tuple #[.int .i64 (retV R), .int .i64 (retE R)]) ∧ w = w' := by
  obtain ⟨n1, n2⟩ := in_yes hn
  by_cases h2 : (2 : Int) < (N : Int)
  · have h3 : decide ((a.natAbs : Int) ≤ 1) = false := by simp; omega
    clear hc
    go_enter Try.func25, Try.ntmps25
    go_wp2_with (first | (go_at_call 20; refine (in_fix _ _).mono ?_; rintro e w' ⟨rfl, rfl⟩) | (go_at_call 48; refine (size_fix _ _ (by assumption)).mono ?_; rintro e w' ⟨rfl, rfl⟩))
    go_loop [6, 32] (fun p i => PowAt a N p i) (fun _ i => N - (intOf i).toNat)
    case atStart => exact ⟨0, 1, by omega, rfl, rfl, rfl⟩
    case round =>
      obtain ⟨k, x, hk, rfl, rfl, hx⟩ := hrel
      have hxi := pwO_in a k x hx
      have Hx := Lib.hid hx
      clear hx
      by_cases hlt : k < N
      · have dlt : decide ((k : Int) < (N : Int)) = true := by simp [hlt]
        obtain ⟨q, hq⟩ : ∃ q, x * a = q := ⟨_, rfl⟩
        cases hi : inB q
        · have hr : R = none := by rw [← HR.out]; exact pwO_none (pwO_stop Hx.out (by rw [hq]; exact hi)) (by omega)
          have Hq := Lib.hid hq
          clear hq
          subst hr
          go_wp2_with (go_at_call 23; refine (mul_fix_over _ _ q _ hxi ha Hq.out hi).mono ?_; rintro e w' ⟨rfl, rfl⟩)
          go_ret2
          exact ⟨rfl, rfl⟩
        · have hn : pwO a (k + 1) = some q := by rw [← hq] at hi ⊢; exact pwO_next Hx.out hi
          have Hn := Lib.hid hn
          have Hq := Lib.hid hq
          clear hq hn
          go_wp2_with (go_at_call 23; refine (mul_fix_ok _ _ q _ hxi ha Hq.out hi).mono ?_; rintro e w' ⟨rfl, rfl⟩)
          go_round
          case rel => exact ⟨k + 1, q, by omega, by go_num, rfl, Hn.out⟩
          case measure => simp [intOf]; omega
      · obtain rfl : k = N := by omega
        have hr : R = some x := by rw [← HR.out]; exact Hx.out
        subst hr
        have dlt : decide ((k : Int) < (k : Int)) = false := by simp
        go_wp2
        go_ret2
        exact ⟨rfl, rfl⟩
  · have h3 : decide ((2 : Int) < (N : Int)) = false := by simpa using h2
    clear hc h2
    go_enter Try.func25, Try.ntmps25
    go_wp2_with (first | (go_at_call 20; refine (in_fix _ _).mono ?_; rintro e w' ⟨rfl, rfl⟩) | (go_at_call 48; refine (size_fix _ _ (by assumption)).mono ?_; rintro e w' ⟨rfl, rfl⟩))
    go_loop [6, 32] (fun p i => PowAt a N p i) (fun _ i => N - (intOf i).toNat)
    case atStart => exact ⟨0, 1, by omega, rfl, rfl, rfl⟩
    case round =>
      obtain ⟨k, x, hk, rfl, rfl, hx⟩ := hrel
      have hxi := pwO_in a k x hx
      have Hx := Lib.hid hx
      clear hx
      by_cases hlt : k < N
      · have dlt : decide ((k : Int) < (N : Int)) = true := by simp [hlt]
        obtain ⟨q, hq⟩ : ∃ q, x * a = q := ⟨_, rfl⟩
        cases hi : inB q
        · have hr : R = none := by rw [← HR.out]; exact pwO_none (pwO_stop Hx.out (by rw [hq]; exact hi)) (by omega)
          have Hq := Lib.hid hq
          clear hq
          subst hr
          go_wp2_with (go_at_call 23; refine (mul_fix_over _ _ q _ hxi ha Hq.out hi).mono ?_; rintro e w' ⟨rfl, rfl⟩)
          go_ret2
          exact ⟨rfl, rfl⟩
        · have hn : pwO a (k + 1) = some q := by rw [← hq] at hi ⊢; exact pwO_next Hx.out hi
          have Hn := Lib.hid hn
          have Hq := Lib.hid hq
          clear hq hn
          go_wp2_with (go_at_call 23; refine (mul_fix_ok _ _ q _ hxi ha Hq.out hi).mono ?_; rintro e w' ⟨rfl, rfl⟩)
          go_round
          case rel => exact ⟨k + 1, q, by omega, by go_num, rfl, Hn.out⟩
          case measure => simp [intOf]; omega
      · obtain rfl : k = N := by omega
        have hr : R = some x := by rw [← HR.out]; exact Hx.out
        subst hr
        have dlt : decide ((k : Int) < (k : Int)) = false := by simp
        go_wp2
        go_ret2
        exact ⟨rfl, rfl⟩
set_option maxHeartbeats 800000 in
theorem pow_fix_short (a : Int) (n N : Nat) (R : Option Int) (w : World) (ha : inB a = true) (hn : inB n = true) (h1 : (a.natAbs : Int) ≤ 1) (h2 : (2 : Int) < (n : Int)) (HN : Hid (2 - (n : Int) % 2 = (N : Int))) (hN : N ≤ 2) (HR : Hid (pwO a N = R)) :
    Calls Try.prog 25 #[.int .i64 a, .int .i64 (n : Int)] w fun e w' => e = .returned (.tuple #[.int .i64 (retV R), .int .i64 (retE R)]) ∧ w = w' := by
  obtain ⟨n1, n2⟩ := in_yes hn
  go_enter Try.func25, Try.ntmps25
  go_wp2_with (first | (go_at_call 20; refine (in_fix _ _).mono ?_; rintro e w' ⟨rfl, rfl⟩) | (go_at_call 48; refine (size_fix _ _ (by assumption)).mono ?_; rintro e w' ⟨rfl, rfl⟩))
  rw [HN.out]
  clear HN h1 h2 n1 n2 hn
  go_loop [6, 32] (fun p i => PowAt a N p i) (fun _ i => N - (intOf i).toNat)
  case atStart => exact ⟨0, 1, by omega, rfl, rfl, rfl⟩
  case round =>
    obtain ⟨k, x, hk, rfl, rfl, hx⟩ := hrel
    have hxi := pwO_in a k x hx
    have Hx := Lib.hid hx
    clear hx
    by_cases hlt : k < N
    · have dlt : decide ((k : Int) < (N : Int)) = true := by simp [hlt]
      obtain ⟨q, hq⟩ : ∃ q, x * a = q := ⟨_, rfl⟩
      cases hi : inB q
      · have hr : R = none := by rw [← HR.out]; exact pwO_none (pwO_stop Hx.out (by rw [hq]; exact hi)) (by omega)
        have Hq := Lib.hid hq
        clear hq
        subst hr
        go_wp2_with (go_at_call 23; refine (mul_fix_over _ _ q _ hxi ha Hq.out hi).mono ?_; rintro e w' ⟨rfl, rfl⟩)
        go_ret2
        exact ⟨rfl, rfl⟩
      · have hn : pwO a (k + 1) = some q := by rw [← hq] at hi ⊢; exact pwO_next Hx.out hi
        have Hn := Lib.hid hn
        have Hq := Lib.hid hq
        clear hq hn
        go_wp2_with (go_at_call 23; refine (mul_fix_ok _ _ q _ hxi ha Hq.out hi).mono ?_; rintro e w' ⟨rfl, rfl⟩)
        go_round
        case rel => exact ⟨k + 1, q, by omega, by go_num, rfl, Hn.out⟩
        case measure => simp [intOf]; omega
    · obtain rfl : k = N := by omega
      have hr : R = some x := by rw [← HR.out]; exact Hx.out
      subst hr
      have dlt : decide ((k : Int) < (k : Int)) = false := by simp
      go_wp2
      go_ret2
      exact ⟨rfl, rfl⟩
end Go.Proofs.Ytlaajhdffgjamaa.Fx
