/- What the products of layer 1, and the document's, are: for every two numbers of 64 bits. -/
import Derived.Test.YtlaajhdffgjamaaFixWalks
namespace Go.Proofs.Ytlaajhdffgjamaa.Fx
open Go.ChangeShapes Go.WideShapes Go.ChangeAt Go.RowKit

theorem size_fix (a : Int) (w : World) (h : inB a = true) :
    Calls Try.prog 48 #[.int .i64 a] w fun e w' => e = .returned (.int .u64 ((a.natAbs : Nat) : Int)) ∧ w = w' := by
  obtain ⟨h1, h2⟩ := in_yes h
  clear h
  by_cases hn : a < 0
  · have e : ((a.natAbs : Nat) : Int) = -a := by omega
    rw [e]; clear e
    go_enter Try.func48, Try.ntmps48
    go_wp2
    go_ret
    exact ⟨rfl, rfl⟩
  · have e : ((a.natAbs : Nat) : Int) = a := by omega
    rw [e]; clear e
    go_enter Try.func48, Try.ntmps48
    go_wp2
    go_ret
    exact ⟨rfl, rfl⟩
theorem abs_ref (a : Int) (w : World) (h : inB a = true) :
    Calls Try.prog 50 #[.int .i64 a] w fun e w' => e = .returned (.int .i64 ((a.natAbs : Nat) : Int)) ∧ w = w' := by
  obtain ⟨h1, h2⟩ := in_yes h
  clear h
  by_cases hn : a < 0
  · have e : ((a.natAbs : Nat) : Int) = -a := by omega
    rw [e]; clear e
    go_enter Try.func50, Try.ntmps50
    go_wp2
    go_ret
    exact ⟨rfl, rfl⟩
  · have e : ((a.natAbs : Nat) : Int) = a := by omega
    rw [e]; clear e
    go_enter Try.func50, Try.ntmps50
    go_wp2
    go_ret
    exact ⟨rfl, rfl⟩
theorem signed_over (n : Int) (b : Bool) (w : World) (h : 1152921504606846976 < n) :
    Calls Try.prog 49 #[.int .u64 n, .bool b] w fun e w' => e = .returned (.tuple #[.int .i64 0, .int .i64 10]) ∧ w = w' := by
  go_enter Try.func49, Try.ntmps49
  go_wp2
  go_ret2
  exact ⟨rfl, rfl⟩
theorem signed_neg (n : Int) (w : World) (h0 : 0 ≤ n) (h : n ≤ 1152921504606846976) :
    Calls Try.prog 49 #[.int .u64 n, .bool true] w fun e w' => e = .returned (.tuple #[.int .i64 (-n), .int .i64 0]) ∧ w = w' := by
  go_enter Try.func49, Try.ntmps49
  go_wp2
  go_ret2
  exact ⟨rfl, rfl⟩
theorem signed_pos (n : Int) (w : World) (h0 : 0 ≤ n) (h : n ≤ 1152921504606846976) :
    Calls Try.prog 49 #[.int .u64 n, .bool false] w fun e w' => e = .returned (.tuple #[.int .i64 (gotV n), .int .i64 (gotE n)]) ∧ w = w' := by
  go_enter Try.func49, Try.ntmps49
  go_wp2_with (go_at_call 45; refine (exact_fix _ _).mono ?_; rintro e w' ⟨rfl, rfl⟩)
  go_ret2
  exact ⟨rfl, rfl⟩
theorem mul64_small (x y : Nat) (p : Int) (hx : x < 18446744073709551616) (hy : y < 18446744073709551616) (hp : ((x * y : Nat) : Int) = p) (h : p < 18446744073709551616) (w : World) :
    Calls Try.prog 47 #[.int .u64 (x : Int), .int .u64 (y : Int)] w fun e w' => e = .returned (.tuple #[.int .u64 0, .int .u64 p]) ∧ w = w' := by
  refine (Try.bits_Mul64 x y hx hy w).mono ?_
  rintro e w' ⟨rfl, rfl⟩
  have h' : x * y < 18446744073709551616 := by omega
  rw [Nat.div_eq_of_lt h', Nat.mod_eq_of_lt h', hp]
  exact ⟨rfl, rfl⟩
theorem mul64_big (x y : Nat) (hx : x < 18446744073709551616) (hy : y < 18446744073709551616) (h : 18446744073709551616 ≤ x * y) (w : World) :
    Calls Try.prog 47 #[.int .u64 (x : Int), .int .u64 (y : Int)] w fun e w' => ∃ hi lo : Int, (hi != 0) = true ∧ e = .returned (.tuple #[.int .u64 hi, .int .u64 lo]) ∧ w = w' := by
  refine (Try.bits_Mul64 x y hx hy w).mono ?_
  rintro e w' ⟨rfl, rfl⟩
  refine ⟨_, _, ?_, rfl, rfl⟩
  have : 1 ≤ x * y / 18446744073709551616 := (Nat.le_div_iff_mul_le (by omega)).2 (by omega)
  rw [bne_iff_ne]; omega
set_option maxHeartbeats 800000 in
theorem mul_fix (a b : Int) (w : World) :
    Calls Try.prog 23 #[.int .i64 a, .int .i64 b] w fun e w' => e = .returned (.tuple #[.int .i64 (twoV a b (a * b)), .int .i64 (twoE a b (a * b))]) ∧ w = w' := by
  cases ha : inB a
  · unfold twoV twoE
    rw [ha]
    go_enter Try.func23, Try.ntmps23
    go_wp2_with (go_at_call 20; refine (in_fix _ _).mono ?_; rintro e w' ⟨rfl, rfl⟩)
    go_ret2
    exact ⟨rfl, rfl⟩
  cases hb : inB b
  · unfold twoV twoE
    rw [ha, hb]
    go_enter Try.func23, Try.ntmps23
    go_wp2_with (go_at_call 20; refine (in_fix _ _).mono ?_; rintro e w' ⟨rfl, rfl⟩)
    go_ret2
    exact ⟨rfl, rfl⟩
  rw [(two_in ha hb).1, (two_in ha hb).2]
  have A1 := abs_in ha
  have B1 := abs_in hb
  have AB := abs_mul_le ha hb
  obtain ⟨p, hp⟩ : ∃ p : Int, ((a.natAbs * b.natAbs : Nat) : Int) = p := ⟨_, rfl⟩
  have hs : (((a < 0 ∧ ¬ b < 0) ∨ (¬ a < 0 ∧ b < 0)) ∧ a * b = -p) ∨ (((a < 0 ∧ b < 0) ∨ (¬ a < 0 ∧ ¬ b < 0)) ∧ a * b = p) := by
    by_cases h1 : a < 0 <;> by_cases h2 : b < 0
    · exact .inr ⟨.inl ⟨h1, h2⟩, by rw [mul_pos_abs (.inl ⟨h1, h2⟩), hp]⟩
    · exact .inl ⟨.inl ⟨h1, h2⟩, by rw [mul_neg_abs (.inl ⟨h1, h2⟩), hp]⟩
    · exact .inl ⟨.inr ⟨h1, h2⟩, by rw [mul_neg_abs (.inr ⟨h1, h2⟩), hp]⟩
    · exact .inr ⟨.inr ⟨h1, h2⟩, by rw [mul_pos_abs (.inr ⟨h1, h2⟩), hp]⟩
  have p0 : 0 ≤ p := by omega
  by_cases hbig : 18446744073709551616 ≤ a.natAbs * b.natAbs
  · have ho : inB (a * b) = false := in_not (by omega)
    rw [(got_out ho).1, (got_out ho).2]
    clear hs hp AB ho p0 p
    go_enter Try.func23, Try.ntmps23
    go_wp2_with (first | (go_at_call 20; refine (in_fix _ _).mono ?_; rintro e w' ⟨rfl, rfl⟩) | (go_at_call 48; refine (size_fix _ _ (by assumption)).mono ?_; rintro e w' ⟨rfl, rfl⟩) | (go_at_call 47; refine (mul64_big _ _ (by omega) (by omega) (by assumption) _).mono ?_; rintro e w' ⟨hi, lo, hhi, rfl, rfl⟩))
    go_ret2
    exact ⟨rfl, rfl⟩
  have hsm : p < 18446744073709551616 := by omega
  have HP := Lib.hid hp
  clear hp hbig AB
  by_cases ho : 1152921504606846976 < p
  · have ho' : inB (a * b) = false := in_not (by rcases hs with ⟨_, h⟩ | ⟨_, h⟩ <;> omega)
    rw [(got_out ho').1, (got_out ho').2]
    clear hs ho'
    go_enter Try.func23, Try.ntmps23
    go_wp2_with (first | (go_at_call 20; refine (in_fix _ _).mono ?_; rintro e w' ⟨rfl, rfl⟩) | (go_at_call 48; refine (size_fix _ _ (by assumption)).mono ?_; rintro e w' ⟨rfl, rfl⟩) | (go_at_call 47; refine (mul64_small _ _ p (by omega) (by omega) HP.out hsm _).mono ?_; rintro e w' ⟨rfl, rfl⟩) | (go_at_call 49; refine (signed_over _ _ _ ho).mono ?_; rintro e w' ⟨rfl, rfl⟩))
    go_ret2
    exact ⟨rfl, rfl⟩
  have ho' : p ≤ 1152921504606846976 := by omega
  clear ho
  rcases hs with ⟨hs, he⟩ | ⟨hs, he⟩
  · have hi : inB (a * b) = true := in_mk (by omega) (by omega)
    rw [(got_in hi).1, (got_in hi).2, he]
    clear hi he
    rcases hs with ⟨h1, h2⟩ | ⟨h1, h2⟩
    all_goals
      have d1 : decide (a < 0) = false ∨ a < 0 := by by_cases h : a < 0 <;> simp [h]
      have d2 : decide (b < 0) = false ∨ b < 0 := by by_cases h : b < 0 <;> simp [h]
      rcases d1 with d1 | d1 <;> rcases d2 with d2 | d2 <;> first | (exfalso; (try simp at d1 d2); omega) | skip
      go_enter Try.func23, Try.ntmps23
      go_wp2_with (first | (go_at_call 20; refine (in_fix _ _).mono ?_; rintro e w' ⟨rfl, rfl⟩) | (go_at_call 48; refine (size_fix _ _ (by assumption)).mono ?_; rintro e w' ⟨rfl, rfl⟩) | (go_at_call 47; refine (mul64_small _ _ p (by omega) (by omega) HP.out hsm _).mono ?_; rintro e w' ⟨rfl, rfl⟩) | (go_at_call 49; refine (signed_neg _ _ p0 ho').mono ?_; rintro e w' ⟨rfl, rfl⟩))
      go_ret2
      exact ⟨rfl, rfl⟩
  · rw [he]
    clear he
    rcases hs with ⟨h1, h2⟩ | ⟨h1, h2⟩
    all_goals
      have d1 : decide (a < 0) = false ∨ a < 0 := by by_cases h : a < 0 <;> simp [h]
      have d2 : decide (b < 0) = false ∨ b < 0 := by by_cases h : b < 0 <;> simp [h]
      rcases d1 with d1 | d1 <;> rcases d2 with d2 | d2 <;> first | (exfalso; (try simp at d1 d2); omega) | skip
      go_enter Try.func23, Try.ntmps23
      go_wp2_with (first | (go_at_call 20; refine (in_fix _ _).mono ?_; rintro e w' ⟨rfl, rfl⟩) | (go_at_call 48; refine (size_fix _ _ (by assumption)).mono ?_; rintro e w' ⟨rfl, rfl⟩) | (go_at_call 47; refine (mul64_small _ _ p (by omega) (by omega) HP.out hsm _).mono ?_; rintro e w' ⟨rfl, rfl⟩) | (go_at_call 49; refine (signed_pos _ _ p0 ho').mono ?_; rintro e w' ⟨rfl, rfl⟩))
      go_ret2
      exact ⟨rfl, rfl⟩
theorem quo_lt (A B M : Nat) (hB : 1 ≤ B) (h : M < A * B) : (M : Int) / (B : Int) < (A : Int) := by
  have : M / B < A := (Nat.div_lt_iff_lt_mul (by omega)).2 h
  omega
theorem quo_ge (A B M : Nat) (hB : 1 ≤ B) (h : A * B ≤ M) : (A : Int) ≤ (M : Int) / (B : Int) := by
  have : A ≤ M / B := (Nat.le_div_iff_mul_le (by omega)).2 h
  omega
set_option maxHeartbeats 800000 in
theorem mul_ref (a b : Int) (w : World) :
    Calls Try.prog 24 #[.int .i64 a, .int .i64 b] w fun e w' => e = .returned (.tuple #[.int .i64 (twoV a b (a * b)), .int .i64 (twoE a b (a * b))]) ∧ w = w' := by
  cases ha : inB a
  · unfold twoV twoE
    rw [ha]
    go_enter Try.func24, Try.ntmps24
    go_wp2_with (first | (go_at_call 21; refine (in_ref _ _).mono ?_; rintro e w' ⟨rfl, rfl⟩) | (go_at_call 50; refine (abs_ref _ _ (by assumption)).mono ?_; rintro e w' ⟨rfl, rfl⟩) | (go_at_call 46; refine (got_ref _ _).mono ?_; rintro e w' ⟨rfl, rfl⟩))
    go_ret2
    exact ⟨rfl, rfl⟩
  cases hb : inB b
  · unfold twoV twoE
    rw [ha, hb]
    go_enter Try.func24, Try.ntmps24
    go_wp2_with (first | (go_at_call 21; refine (in_ref _ _).mono ?_; rintro e w' ⟨rfl, rfl⟩) | (go_at_call 50; refine (abs_ref _ _ (by assumption)).mono ?_; rintro e w' ⟨rfl, rfl⟩) | (go_at_call 46; refine (got_ref _ _).mono ?_; rintro e w' ⟨rfl, rfl⟩))
    go_ret2
    exact ⟨rfl, rfl⟩
  rw [(two_in ha hb).1, (two_in ha hb).2]
  have A1 := abs_in ha
  have B1 := abs_in hb
  by_cases ha0 : a = 0
  · subst ha0
    rw [show (0 : Int) * b = 0 from Int.zero_mul b]
    show Calls _ _ _ _ fun e w' => e = .returned (.tuple #[.int .i64 0, .int .i64 0]) ∧ w = w'
    go_enter Try.func24, Try.ntmps24
    go_wp2_with (first | (go_at_call 21; refine (in_ref _ _).mono ?_; rintro e w' ⟨rfl, rfl⟩) | (go_at_call 50; refine (abs_ref _ _ (by assumption)).mono ?_; rintro e w' ⟨rfl, rfl⟩) | (go_at_call 46; refine (got_ref _ _).mono ?_; rintro e w' ⟨rfl, rfl⟩))
    go_ret2
    exact ⟨rfl, rfl⟩
  have na : (a == 0) = false := by simp [ha0]
  by_cases hb0 : b = 0
  · subst hb0
    rw [show a * (0 : Int) = 0 from Int.mul_zero a]
    show Calls _ _ _ _ fun e w' => e = .returned (.tuple #[.int .i64 0, .int .i64 0]) ∧ w = w'
    go_enter Try.func24, Try.ntmps24
    go_wp2_with (first | (go_at_call 21; refine (in_ref _ _).mono ?_; rintro e w' ⟨rfl, rfl⟩) | (go_at_call 50; refine (abs_ref _ _ (by assumption)).mono ?_; rintro e w' ⟨rfl, rfl⟩) | (go_at_call 46; refine (got_ref _ _).mono ?_; rintro e w' ⟨rfl, rfl⟩))
    go_ret2
    exact ⟨rfl, rfl⟩
  have nb : (b == 0) = false := by simp [hb0]
  have B0 : 1 ≤ b.natAbs := by omega
  have sgn : (((a < 0 ∧ ¬ b < 0) ∨ (¬ a < 0 ∧ b < 0)) ∧ a * b = -((a.natAbs * b.natAbs : Nat) : Int)) ∨ (((a < 0 ∧ b < 0) ∨ (¬ a < 0 ∧ ¬ b < 0)) ∧ a * b = ((a.natAbs * b.natAbs : Nat) : Int)) := by
    by_cases h1 : a < 0 <;> by_cases h2 : b < 0
    · exact .inr ⟨.inl ⟨h1, h2⟩, mul_pos_abs (.inl ⟨h1, h2⟩)⟩
    · exact .inl ⟨.inl ⟨h1, h2⟩, mul_neg_abs (.inl ⟨h1, h2⟩)⟩
    · exact .inl ⟨.inr ⟨h1, h2⟩, mul_neg_abs (.inr ⟨h1, h2⟩)⟩
    · exact .inr ⟨.inr ⟨h1, h2⟩, mul_pos_abs (.inr ⟨h1, h2⟩)⟩
  clear ha0 hb0
  rcases sgn with ⟨hs, he⟩ | ⟨hs, he⟩
  · by_cases ho : 1152921504606846976 < a.natAbs * b.natAbs
    · have ho' : inB (a * b) = false := in_not (by omega)
      rw [(got_out ho').1, (got_out ho').2]
      have q : (1152921504606846976 : Int) / (b.natAbs : Int) < (a.natAbs : Int) := quo_lt _ _ 1152921504606846976 B0 ho
      clear he ho ho'
      rcases hs with ⟨h1, h2⟩ | ⟨h1, h2⟩
      · have d2 : decide (b < 0) = false := by simpa using h2
        go_enter Try.func24, Try.ntmps24
        go_wp2_with (first | (go_at_call 21; refine (in_ref _ _).mono ?_; rintro e w' ⟨rfl, rfl⟩) | (go_at_call 50; refine (abs_ref _ _ (by assumption)).mono ?_; rintro e w' ⟨rfl, rfl⟩) | (go_at_call 46; refine (got_ref _ _).mono ?_; rintro e w' ⟨rfl, rfl⟩))
        go_ret2
        exact ⟨rfl, rfl⟩
      · have d1 : decide (a < 0) = false := by simpa using h1
        go_enter Try.func24, Try.ntmps24
        go_wp2_with (first | (go_at_call 21; refine (in_ref _ _).mono ?_; rintro e w' ⟨rfl, rfl⟩) | (go_at_call 50; refine (abs_ref _ _ (by assumption)).mono ?_; rintro e w' ⟨rfl, rfl⟩) | (go_at_call 46; refine (got_ref _ _).mono ?_; rintro e w' ⟨rfl, rfl⟩))
        go_ret2
        exact ⟨rfl, rfl⟩
    · have lo : -1152921504606846976 ≤ a * b := by omega
      have hi : a * b ≤ 1152921504606846975 := by omega
      have q : (a.natAbs : Int) ≤ (1152921504606846976 : Int) / (b.natAbs : Int) := quo_ge _ _ 1152921504606846976 B0 (by omega)
      clear he ho
      rcases hs with ⟨h1, h2⟩ | ⟨h1, h2⟩
      · have d2 : decide (b < 0) = false := by simpa using h2
        go_enter Try.func24, Try.ntmps24
        go_wp2_with (first | (go_at_call 21; refine (in_ref _ _).mono ?_; rintro e w' ⟨rfl, rfl⟩) | (go_at_call 50; refine (abs_ref _ _ (by assumption)).mono ?_; rintro e w' ⟨rfl, rfl⟩) | (go_at_call 46; refine (got_ref _ _).mono ?_; rintro e w' ⟨rfl, rfl⟩))
        go_ret2
        exact ⟨rfl, rfl⟩
      · have d1 : decide (a < 0) = false := by simpa using h1
        go_enter Try.func24, Try.ntmps24
        go_wp2_with (first | (go_at_call 21; refine (in_ref _ _).mono ?_; rintro e w' ⟨rfl, rfl⟩) | (go_at_call 50; refine (abs_ref _ _ (by assumption)).mono ?_; rintro e w' ⟨rfl, rfl⟩) | (go_at_call 46; refine (got_ref _ _).mono ?_; rintro e w' ⟨rfl, rfl⟩))
        go_ret2
        exact ⟨rfl, rfl⟩
  · by_cases ho : 1152921504606846975 < a.natAbs * b.natAbs
    · have ho' : inB (a * b) = false := in_not (by omega)
      rw [(got_out ho').1, (got_out ho').2]
      have q : (1152921504606846975 : Int) / (b.natAbs : Int) < (a.natAbs : Int) := quo_lt _ _ 1152921504606846975 B0 ho
      clear he ho ho'
      rcases hs with ⟨h1, h2⟩ | ⟨h1, h2⟩
      · go_enter Try.func24, Try.ntmps24
        go_wp2_with (first | (go_at_call 21; refine (in_ref _ _).mono ?_; rintro e w' ⟨rfl, rfl⟩) | (go_at_call 50; refine (abs_ref _ _ (by assumption)).mono ?_; rintro e w' ⟨rfl, rfl⟩) | (go_at_call 46; refine (got_ref _ _).mono ?_; rintro e w' ⟨rfl, rfl⟩))
        go_ret2
        exact ⟨rfl, rfl⟩
      · have d1 : decide (a < 0) = false := by simpa using h1
        have d2 : decide (b < 0) = false := by simpa using h2
        go_enter Try.func24, Try.ntmps24
        go_wp2_with (first | (go_at_call 21; refine (in_ref _ _).mono ?_; rintro e w' ⟨rfl, rfl⟩) | (go_at_call 50; refine (abs_ref _ _ (by assumption)).mono ?_; rintro e w' ⟨rfl, rfl⟩) | (go_at_call 46; refine (got_ref _ _).mono ?_; rintro e w' ⟨rfl, rfl⟩))
        go_ret2
        exact ⟨rfl, rfl⟩
    · have lo : -1152921504606846976 ≤ a * b := by omega
      have hi : a * b ≤ 1152921504606846975 := by omega
      have q : (a.natAbs : Int) ≤ (1152921504606846975 : Int) / (b.natAbs : Int) := quo_ge _ _ 1152921504606846975 B0 (by omega)
      clear he ho
      rcases hs with ⟨h1, h2⟩ | ⟨h1, h2⟩
      · go_enter Try.func24, Try.ntmps24
        go_wp2_with (first | (go_at_call 21; refine (in_ref _ _).mono ?_; rintro e w' ⟨rfl, rfl⟩) | (go_at_call 50; refine (abs_ref _ _ (by assumption)).mono ?_; rintro e w' ⟨rfl, rfl⟩) | (go_at_call 46; refine (got_ref _ _).mono ?_; rintro e w' ⟨rfl, rfl⟩))
        go_ret2
        exact ⟨rfl, rfl⟩
      · have d1 : decide (a < 0) = false := by simpa using h1
        have d2 : decide (b < 0) = false := by simpa using h2
        go_enter Try.func24, Try.ntmps24
        go_wp2_with (first | (go_at_call 21; refine (in_ref _ _).mono ?_; rintro e w' ⟨rfl, rfl⟩) | (go_at_call 50; refine (abs_ref _ _ (by assumption)).mono ?_; rintro e w' ⟨rfl, rfl⟩) | (go_at_call 46; refine (got_ref _ _).mono ?_; rintro e w' ⟨rfl, rfl⟩))
        go_ret2
        exact ⟨rfl, rfl⟩
end Go.Proofs.Ytlaajhdffgjamaa.Fx
