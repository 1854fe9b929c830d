/- What the powers of layer 1, and the document's, are: for every two numbers of 64 bits. -/
import Derived.Test.YtlaajhdffgjamaaFixPow
namespace Go.Proofs.Ytlaajhdffgjamaa.Fx
open Go.ChangeShapes Go.WideShapes Go.ChangeAt Go.RowKit

theorem powV_no {a n : Int} (h : powOk a n = false) : powV a n = 0 := by unfold powV; simp [h]
theorem powE_no {a n : Int} (h : powOk a n = false) : powE a n = 1 := by unfold powE; simp [h]
theorem powV_yes {a n : Int} (h : powOk a n = true) : powV a n = retV (pwO a n.toNat) := by unfold powV; simp [h]
theorem powE_yes {a n : Int} (h : powOk a n = true) : powE a n = retE (pwO a n.toNat) := by unfold powE; simp [h]
theorem pow_fix (a n : Int) (w : World) :
    Calls Try.prog 25 #[.int .i64 a, .int .i64 n] w fun e w' => e = .returned (.tuple #[.int .i64 (powV a n), .int .i64 (powE a n)]) ∧ w = w' := by
  cases ha : inB a
  · rw [powV_no (by simp [powOk, ha]), powE_no (by simp [powOk, ha])]
    go_enter Try.func25, Try.ntmps25
    go_wp2_with (go_at_call 20; refine (in_fix _ _).mono ?_; rintro e w' ⟨rfl, rfl⟩)
    go_ret2
    exact ⟨rfl, rfl⟩
  cases hn : inB n
  · rw [powV_no (by simp [powOk, hn]), powE_no (by simp [powOk, hn])]
    go_enter Try.func25, Try.ntmps25
    go_wp2_with (go_at_call 20; refine (in_fix _ _).mono ?_; rintro e w' ⟨rfl, rfl⟩)
    go_ret2
    exact ⟨rfl, rfl⟩
  by_cases h0 : n < 0
  · rw [powV_no (by simp [powOk]; omega), powE_no (by simp [powOk]; omega)]
    go_enter Try.func25, Try.ntmps25
    go_wp2_with (go_at_call 20; refine (in_fix _ _).mono ?_; rintro e w' ⟨rfl, rfl⟩)
    go_ret2
    exact ⟨rfl, rfl⟩
  rw [powV_yes (by simp [powOk, ha, hn]; omega), powE_yes (by simp [powOk, ha, hn]; omega)]
  obtain ⟨N, rfl⟩ := Int.eq_ofNat_of_zero_le (by omega : 0 ≤ n)
  rw [Int.toNat_natCast]
  by_cases hs : 2 < N ∧ a.natAbs ≤ 1
  · rw [pw_short a N hs.2 hs.1]
    exact pow_fix_short a N (2 - N % 2) _ w ha hn (by omega) (by omega) (Lib.hid (by omega)) (by omega) (Lib.hid rfl)
  · exact pow_fix_plain a N _ w ha hn (by omega) (Lib.hid rfl)
set_option maxHeartbeats 800000 in
theorem pow_ref_plain (a : Int) (N : Nat) (R : Option Int) (w : World) (ha : inB a = true) (hn : inB N = true) (hz : (a == 0) = false) (hc : 1 < a.natAbs) (HR : Hid (pwO a N = R)) :
    Calls Try.prog 26 #[.int .i64 a, .int .i64 (N : Int)] w fun e w' => e = .returned (.tuple #[.int .i64 (retV R), .int .i64 (retE R)]) ∧ w = w' := by
  obtain ⟨n1, n2⟩ := in_yes hn
  have h3 : decide ((a.natAbs : Int) ≤ 1) = false := by simp; omega
  clear hc
  go_enter Try.func26, Try.ntmps26
  go_wp2_with (first | (go_at_call 21; refine (in_ref _ _).mono ?_; rintro e w' ⟨rfl, rfl⟩) | (go_at_call 50; refine (abs_ref _ _ (by assumption)).mono ?_; rintro e w' ⟨rfl, rfl⟩))
  go_loop [6, 7] (fun p i => PowAt a N p i) (fun _ i => N - (intOf i).toNat)
  case atStart => exact ⟨0, 1, by omega, rfl, rfl, rfl⟩
  case round =>
    obtain ⟨k, x, hk, rfl, rfl, hx⟩ := hrel
    have hxi := pwO_in a k x hx
    have Hx := Lib.hid hx
    clear hx
    by_cases hlt : k < N
    · have dlt : decide ((k : Int) < (N : Int)) = true := by simp [hlt]
      obtain ⟨q, hq⟩ : ∃ q, x * a = q := ⟨_, rfl⟩
      cases hi : inB q
      · have hr : R = none := by rw [← HR.out]; exact pwO_none (pwO_stop Hx.out (by rw [hq]; exact hi)) (by omega)
        have Hq := Lib.hid hq
        clear hq
        subst hr
        go_wp2_with (go_at_call 24; refine (mul_ref_over _ _ q _ hxi ha Hq.out hi).mono ?_; rintro e w' ⟨rfl, rfl⟩)
        go_ret2
        exact ⟨rfl, rfl⟩
      · have hn : pwO a (k + 1) = some q := by rw [← hq] at hi ⊢; exact pwO_next Hx.out hi
        have Hn := Lib.hid hn
        have Hq := Lib.hid hq
        clear hq hn
        go_wp2_with (go_at_call 24; refine (mul_ref_ok _ _ q _ hxi ha Hq.out hi).mono ?_; rintro e w' ⟨rfl, rfl⟩)
        go_round
        case rel => exact ⟨k + 1, q, by omega, by go_num, rfl, Hn.out⟩
        case measure => simp [intOf]; omega
    · obtain rfl : k = N := by omega
      have hr : R = some x := by rw [← HR.out]; exact Hx.out
      subst hr
      have dlt : decide ((k : Int) < (k : Int)) = false := by simp
      go_wp2
      go_ret2
      exact ⟨rfl, rfl⟩
set_option maxHeartbeats 800000 in
theorem pow_ref_short (a : Int) (n N : Nat) (R : Option Int) (w : World) (ha : inB a = true) (hn : inB n = true) (h1 : (a.natAbs : Int) ≤ 1) (hz : ((a == 0) = false) ∨ (n = 0)) (HN : Hid ((n : Int) % 2 = (N : Int))) (hN : N ≤ 2) (HR : Hid (pwO a N = R)) :
    Calls Try.prog 26 #[.int .i64 a, .int .i64 (n : Int)] w fun e w' => e = .returned (.tuple #[.int .i64 (retV R), .int .i64 (retE R)]) ∧ w = w' := by
  obtain ⟨n1, n2⟩ := in_yes hn
  rcases hz with hz | hz
  · go_enter Try.func26, Try.ntmps26
    go_wp2_with (first | (go_at_call 21; refine (in_ref _ _).mono ?_; rintro e w' ⟨rfl, rfl⟩) | (go_at_call 50; refine (abs_ref _ _ (by assumption)).mono ?_; rintro e w' ⟨rfl, rfl⟩))
    rw [HN.out]
    clear HN h1 n1 n2 hn
    go_loop [6, 7] (fun p i => PowAt a N p i) (fun _ i => N - (intOf i).toNat)
    case atStart => exact ⟨0, 1, by omega, rfl, rfl, rfl⟩
    case round =>
      obtain ⟨k, x, hk, rfl, rfl, hx⟩ := hrel
      have hxi := pwO_in a k x hx
      have Hx := Lib.hid hx
      clear hx
      by_cases hlt : k < N
      · have dlt : decide ((k : Int) < (N : Int)) = true := by simp [hlt]
        obtain ⟨q, hq⟩ : ∃ q, x * a = q := ⟨_, rfl⟩
        cases hi : inB q
        · have hr : R = none := by rw [← HR.out]; exact pwO_none (pwO_stop Hx.out (by rw [hq]; exact hi)) (by omega)
          have Hq := Lib.hid hq
          clear hq
          subst hr
          go_wp2_with (go_at_call 24; refine (mul_ref_over _ _ q _ hxi ha Hq.out hi).mono ?_; rintro e w' ⟨rfl, rfl⟩)
          go_ret2
          exact ⟨rfl, rfl⟩
        · have hn : pwO a (k + 1) = some q := by rw [← hq] at hi ⊢; exact pwO_next Hx.out hi
          have Hn := Lib.hid hn
          have Hq := Lib.hid hq
          clear hq hn
          go_wp2_with (go_at_call 24; refine (mul_ref_ok _ _ q _ hxi ha Hq.out hi).mono ?_; rintro e w' ⟨rfl, rfl⟩)
          go_round
          case rel => exact ⟨k + 1, q, by omega, by go_num, rfl, Hn.out⟩
          case measure => simp [intOf]; omega
      · obtain rfl : k = N := by omega
        have hr : R = some x := by rw [← HR.out]; exact Hx.out
        subst hr
        have dlt : decide ((k : Int) < (k : Int)) = false := by simp
        go_wp2
        go_ret2
        exact ⟨rfl, rfl⟩
  · subst hz
    obtain rfl : N = 0 := by have := HN.out; simp at this; omega
    obtain rfl : R = some 1 := HR.out.symm
    by_cases ha0 : a = 0
    · subst ha0
      go_enter Try.func26, Try.ntmps26
      go_wp2_with (first | (go_at_call 21; refine (in_ref _ _).mono ?_; rintro e w' ⟨rfl, rfl⟩) | (go_at_call 50; refine (abs_ref _ _ (by assumption)).mono ?_; rintro e w' ⟨rfl, rfl⟩))
      go_loop [6, 7] (fun p i => PowAt 0 0 p i) (fun _ _ => 0)
      case atStart => exact ⟨0, 1, by omega, rfl, rfl, rfl⟩
      case round =>
        obtain ⟨k, x, hk, rfl, rfl, hx⟩ := hrel
        obtain rfl : k = 0 := by omega
        obtain rfl : 1 = x := Option.some.inj hx
        clear hx
        go_wp2
        go_ret2
        exact ⟨rfl, rfl⟩
    · have hz : (a == 0) = false := by simp [ha0]
      clear ha0
      go_enter Try.func26, Try.ntmps26
      go_wp2_with (first | (go_at_call 21; refine (in_ref _ _).mono ?_; rintro e w' ⟨rfl, rfl⟩) | (go_at_call 50; refine (abs_ref _ _ (by assumption)).mono ?_; rintro e w' ⟨rfl, rfl⟩))
      go_loop [6, 7] (fun p i => PowAt a 0 p i) (fun _ _ => 0)
      case atStart => exact ⟨0, 1, by omega, rfl, rfl, rfl⟩
      case round =>
        obtain ⟨k, x, hk, rfl, rfl, hx⟩ := hrel
        obtain rfl : k = 0 := by omega
        obtain rfl : 1 = x := Option.some.inj hx
        clear hx
        go_wp2
        go_ret2
        exact ⟨rfl, rfl⟩
theorem pow_ref_zero (N : Nat) (w : World) (hn : inB N = true) (h : (0 : Int) < (N : Int)) :
    Calls Try.prog 26 #[.int .i64 0, .int .i64 (N : Int)] w fun e w' => e = .returned (.tuple #[.int .i64 0, .int .i64 0]) ∧ w = w' := by
  obtain ⟨n1, n2⟩ := in_yes hn
  have ha : inB 0 = true := rfl
  go_enter Try.func26, Try.ntmps26
  go_wp2_with (go_at_call 21; refine (in_ref _ _).mono ?_; rintro e w' ⟨rfl, rfl⟩)
  go_ret2
  exact ⟨rfl, rfl⟩
theorem pow_ref (a n : Int) (w : World) :
    Calls Try.prog 26 #[.int .i64 a, .int .i64 n] w fun e w' => e = .returned (.tuple #[.int .i64 (powV a n), .int .i64 (powE a n)]) ∧ w = w' := by
  cases ha : inB a
  · rw [powV_no (by simp [powOk, ha]), powE_no (by simp [powOk, ha])]
    go_enter Try.func26, Try.ntmps26
    go_wp2_with (go_at_call 21; refine (in_ref _ _).mono ?_; rintro e w' ⟨rfl, rfl⟩)
    go_ret2
    exact ⟨rfl, rfl⟩
  cases hn : inB n
  · rw [powV_no (by simp [powOk, hn]), powE_no (by simp [powOk, hn])]
    go_enter Try.func26, Try.ntmps26
    go_wp2_with (go_at_call 21; refine (in_ref _ _).mono ?_; rintro e w' ⟨rfl, rfl⟩)
    go_ret2
    exact ⟨rfl, rfl⟩
  by_cases h0 : n < 0
  · rw [powV_no (by simp [powOk]; omega), powE_no (by simp [powOk]; omega)]
    go_enter Try.func26, Try.ntmps26
    go_wp2_with (go_at_call 21; refine (in_ref _ _).mono ?_; rintro e w' ⟨rfl, rfl⟩)
    go_ret2
    exact ⟨rfl, rfl⟩
  rw [powV_yes (by simp [powOk, ha, hn]; omega), powE_yes (by simp [powOk, ha, hn]; omega)]
  obtain ⟨N, rfl⟩ := Int.eq_ofNat_of_zero_le (by omega : 0 ≤ n)
  rw [Int.toNat_natCast]
  by_cases hz : a = 0 ∧ 0 < N
  · obtain ⟨rfl, hz⟩ := hz
    obtain ⟨k, rfl⟩ : ∃ k, N = k + 1 := ⟨N - 1, by omega⟩
    rw [pwO_zero]
    exact pow_ref_zero (k + 1) w hn (by omega)
  by_cases hs : a.natAbs ≤ 1
  · rw [pw_parity a N hs (fun h => by subst h; simp at hz; exact hz)]
    refine pow_ref_short a N (N % 2) _ w ha hn (by omega) ?_ (Lib.hid (by omega)) (by omega) (Lib.hid rfl)
    by_cases h : a = 0
    · subst h; simp at hz; exact .inr hz
    · exact .inl (by simp [h])
  · exact pow_ref_plain a N _ w ha hn (by rw [beq_eq_false_iff_ne]; omega) (by omega) (Lib.hid rfl)
end Go.Proofs.Ytlaajhdffgjamaa.Fx
