/- What the roots of layer 1, and the document's, are: for every number of 64 bits. -/
import Derived.Test.YtlaajhdffgjamaaFixPow2
namespace Go.Proofs.Ytlaajhdffgjamaa.Fx
open Go.ChangeShapes Go.WideShapes Go.ChangeAt Go.RowKit

/-- r is the greatest whose square is at most a. -/
def IsSq (a r : Int) : Prop := 0 ≤ r ∧ r * r ≤ a ∧ a < (r + 1) * (r + 1)
theorem sq_mono {x y : Int} (h : x ≤ y) (hx : 0 ≤ x) : x * x ≤ y * y := Int.mul_le_mul h h hx (by omega)
theorem sq_le_of {x y a : Int} (hx : x * x ≤ a) (hy : a < y * y) (h0 : 0 ≤ y) : x < y := by
  by_cases h : x < y
  · exact h
  · have := sq_mono (by omega : y ≤ x) h0; omega
theorem sq_unique {a r s : Int} (h : IsSq a r) (k : IsSq a s) : r = s := by
  obtain ⟨h0, h1, h2⟩ := h
  obtain ⟨k0, k1, k2⟩ := k
  have a1 := sq_le_of h1 k2 (by omega)
  have a2 := sq_le_of k1 h2 (by omega)
  omega
theorem sq_exists_nat (n : Nat) : ∃ r : Nat, r * r ≤ n ∧ n < (r + 1) * (r + 1) := by
  induction n with
  | zero => exact ⟨0, by omega, by omega⟩
  | succ n ih =>
    obtain ⟨r, h1, h2⟩ := ih
    by_cases h : n + 1 < (r + 1) * (r + 1)
    · exact ⟨r, by omega, h⟩
    · refine ⟨r + 1, by omega, ?_⟩
      have : (r + 1 + 1) * (r + 1 + 1) = (r + 1) * (r + 1) + 2 * (r + 1) + 1 := by
        rw [Nat.add_mul, Nat.mul_add, Nat.mul_add]; omega
      omega
theorem sq_exists {a : Int} (h : 0 ≤ a) : ∃ r, IsSq a r := by
  obtain ⟨n, rfl⟩ := Int.eq_ofNat_of_zero_le h
  obtain ⟨r, h1, h2⟩ := sq_exists_nat n
  exact ⟨r, by omega, by exact_mod_cast h1, by exact_mod_cast h2⟩
def SqRefAt (a : Int) (l h : Value) : Prop := ∃ x y : Nat, l = .int .i64 (x : Int) ∧ h = .int .i64 (y : Int) ∧ x < y ∧ y ≤ 2147483648 ∧ (x : Int) * (x : Int) ≤ a ∧ a < (y : Int) * (y : Int)
set_option maxHeartbeats 800000 in
theorem sqrt_ref_in (a r : Int) (w : World) (ha : inB a = true) (h0 : 0 ≤ a) (hr : IsSq a r) :
    Calls Try.prog 28 #[.int .i64 a] w fun e w' => e = .returned (.tuple #[.int .i64 r, .int .i64 0]) ∧ w = w' := by
  obtain ⟨a1, a2⟩ := in_yes ha
  have Hr := Lib.hid hr
  clear hr
  go_enter Try.func28, Try.ntmps28
  go_wp2_with (go_at_call 21; refine (in_ref _ _).mono ?_; rintro e w' ⟨rfl, rfl⟩)
  go_loop [4, 5] (fun l h => SqRefAt a l h) (fun l h => (intOf h - intOf l).toNat)
  case atStart => exact ⟨0, 2147483648, rfl, rfl, by omega, by omega, by omega, by simp; omega⟩
  case round =>
    obtain ⟨x, y, rfl, rfl, hxy, hy, hlo, hhi⟩ := hrel
    have Hlo := Lib.hid hlo
    have Hhi := Lib.hid hhi
    clear hlo hhi
    by_cases h1 : (1 : Int) < (y : Int) - (x : Int)
    · obtain ⟨M, hM⟩ : ∃ M : Nat, ((x : Int) + (y : Int)) / 2 = (M : Int) := ⟨(x + y) / 2, by omega⟩
      have m1 : x < M := by omega
      have m2 : M < y := by omega
      have b2 : (M : Int) * (M : Int) ≤ 4611686018427387904 := sq_mono (y := 2147483648) (by omega) (by omega)
      have b1 : 0 ≤ (M : Int) * (M : Int) := Int.mul_nonneg (by omega) (by omega)
      by_cases hc : (M : Int) * (M : Int) ≤ a
      · go_wp2
        go_round
        case rel => exact ⟨M, y, by rw [hM], rfl, m2, hy, hc, Hhi.out⟩
        case measure => simp [intOf]; omega
      · have dc : decide ((M : Int) * (M : Int) ≤ a) = false := by simpa using hc
        go_wp2
        go_round
        case rel => exact ⟨x, M, rfl, by rw [hM], m1, by omega, Hlo.out, by omega⟩
        case measure => simp [intOf]; omega
    · obtain rfl : y = x + 1 := by omega
      obtain rfl : r = (x : Int) := sq_unique Hr.out ⟨by omega, Hlo.out, Hhi.out⟩
      have d1 : decide ((1 : Int) < ((x + 1 : Nat) : Int) - (x : Int)) = false := by simp; omega
      go_wp2
      go_ret2
      exact ⟨rfl, rfl⟩
theorem or_i64 (a b : Nat) (ha : a < 2147483648) (hb : b < 2147483648) : bits .or .i64 (a : Int) (b : Int) = ((a ||| b : Nat) : Int) := by
  have hx : a ||| b < 2 ^ 31 := Nat.or_lt_two_pow (by omega) (by omega)
  have h1 : (BitVec.ofInt 64 (a : Int)).toNat = a := by
    rw [BitVec.ofInt_natCast, BitVec.toNat_ofNat]; exact Nat.mod_eq_of_lt (by omega)
  have h2 : (BitVec.ofInt 64 (b : Int)).toNat = b := by
    rw [BitVec.ofInt_natCast, BitVec.toNat_ofNat]; exact Nat.mod_eq_of_lt (by omega)
  show IntKind.i64.wrap ((BitVec.ofInt 64 (a : Int) ||| BitVec.ofInt 64 (b : Int)).toNat : Int) = _
  rw [BitVec.toNat_or, h1, h2]
  exact IntWalk.i64_in _ (by omega)
theorem or_add (R j : Nat) (h : 2 ^ (j + 1) ∣ R) : R ||| 2 ^ j = R + 2 ^ j := by
  obtain ⟨q, rfl⟩ := h
  exact (Nat.two_pow_add_eq_or_of_lt (Nat.pow_lt_pow_right (by omega) (by omega)) q).symm
theorem two_pow_lt (k : Nat) (h : k < 30) : 2 ^ (29 - k) < 1073741824 := by
  have : 2 ^ (29 - k) ≤ 2 ^ 29 := Nat.pow_le_pow_right (by omega) (by omega)
  omega
theorem sq_bound (S : Nat) (h : S ≤ 1073741824) : (S : Int) * (S : Int) ≤ 1152921504606846976 := by
  have : S * S ≤ 1073741824 * 1073741824 := Nat.mul_le_mul h h
  have e : ((S * S : Nat) : Int) = (S : Int) * (S : Int) := Int.natCast_mul S S
  omega
theorem sq_nonneg (S : Nat) : 0 ≤ (S : Int) * (S : Int) := Int.mul_nonneg (Int.natCast_nonneg _) (Int.natCast_nonneg _)
theorem dvd_lt (R P : Nat) (hP : P ∣ 1073741824) (h : P ∣ R) (hR : R < 1073741824) : R + P ≤ 1073741824 := by
  obtain ⟨q, hq⟩ := hP
  obtain ⟨t, rfl⟩ := h
  rw [hq] at hR ⊢
  have : t < q := by
    by_cases c : t < q
    · exact c
    · exact absurd hR (Nat.not_lt.2 (Nat.mul_le_mul_left P (by omega)))
  have e : P * t + P = P * (t + 1) := (Nat.mul_succ P t).symm
  rw [e]
  exact Nat.mul_le_mul_left P this
def SqFixAt (a : Int) (l i : Value) : Prop := ∃ R k : Nat, l = .int .i64 (R : Int) ∧ i = .int .i64 (k : Int) ∧ k ≤ 30 ∧ 2 ^ (30 - k) ∣ R ∧ R < 1073741824 ∧ (R : Int) * (R : Int) ≤ a ∧ a < ((R + 2 ^ (30 - k) : Nat) : Int) * ((R + 2 ^ (30 - k) : Nat) : Int)
set_option maxHeartbeats 800000 in
theorem sqrt_fix_in (a r : Int) (w : World) (ha : inB a = true) (h0 : 0 ≤ a) (hr : IsSq a r) :
    Calls Try.prog 27 #[.int .i64 a] w fun e w' => e = .returned (.tuple #[.int .i64 r, .int .i64 0]) ∧ w = w' := by
  obtain ⟨a1, a2⟩ := in_yes ha
  have Hr := Lib.hid hr
  clear hr
  go_enter Try.func27, Try.ntmps27
  go_wp2_with (go_at_call 20; refine (in_fix _ _).mono ?_; rintro e w' ⟨rfl, rfl⟩)
  go_loop [4, 14] (fun l i => SqFixAt a l i) (fun _ i => (30 - intOf i).toNat)
  case atStart => exact ⟨0, 0, rfl, rfl, by omega, by simp, by omega, by omega, by simp; omega⟩
  case round =>
    obtain ⟨R, k, rfl, rfl, hk, hd, hR, hlo, hhi⟩ := hrel
    have Hlo := Lib.hid hlo
    have Hhi := Lib.hid hhi
    have Hd := Lib.hid hd
    clear hlo hhi hd
    by_cases h1 : (k : Int) < 30
    · have e1 : (0 : Int) ≤ 29 - (k : Int) := by omega
      have e2 : (29 : Int) - (k : Int) < 64 := by omega
      have hdv : 2 ^ ((29 - k) + 1) ∣ R := by rw [show (29 - k) + 1 = 30 - k from by omega]; exact Hd.out
      have hor := or_add R (29 - k) hdv
      have hT := two_pow_lt k (by omega)
      have hT0 : 0 < 2 ^ (29 - k) := Nat.pow_pos (by omega)
      have hdd : 2 ^ (29 - k) ∣ R := Nat.dvd_trans (Nat.pow_dvd_pow 2 (by omega)) hdv
      have hRT : R + 2 ^ (29 - k) + 2 ^ (29 - k) ≤ 1073741824 := by
        have := dvd_lt R (2 ^ ((29 - k) + 1)) (Nat.pow_dvd_pow 2 (by omega : (29 - k) + 1 ≤ 30)) hdv hR
        rw [Nat.pow_succ] at this; omega
      have h30 : (2 : Nat) ^ (30 - k) = 2 ^ (29 - k) + 2 ^ (29 - k) := by
        rw [show 30 - k = (29 - k) + 1 from by omega, Nat.pow_succ]; omega
      have hhi2 := Hhi.out
      rw [h30] at hhi2
      have hnext : 30 - (k + 1) = 29 - k := by omega
      have hcast : (2 : Int) ^ (29 - k) = ((2 ^ (29 - k) : Nat) : Int) := by simp
      have hsd : 2 ^ (29 - k) ∣ R + 2 ^ (29 - k) := (Nat.dvd_add_right hdd).2 (Nat.dvd_refl _)
      rw [← hnext] at hsd hdd
      have Hsd := Lib.hid hsd
      have Hdd := Lib.hid hdd
      have Hn := Lib.hid hnext
      obtain ⟨T, hTT⟩ : ∃ T, 2 ^ (29 - k) = T := ⟨_, rfl⟩
      rw [hTT] at hor hT hT0 hRT hhi2 hcast
      have HTT := Lib.hid hTT
      have hw : wrap64 ((2 : Int) ^ (29 - k)) = (T : Int) := by rw [hcast]; exact IntWalk.wrap64_in _ (by omega)
      have hb : bits BinOp.or IntKind.i64 (R : Int) (T : Int) = ((R + T : Nat) : Int) := by rw [or_i64 R T (Nat.lt_trans hR (by decide)) (Nat.lt_trans hT (by decide)), hor]
      have Hhi2 := Lib.hid hhi2
      clear hdv hor hdd hsd h30 hcast hTT hnext hhi2
      obtain ⟨S, hS⟩ : ∃ S, R + T = S := ⟨_, rfl⟩
      rw [hS] at hb hRT
      have HS := Lib.hid hS
      clear hS
      have b2 := sq_bound S (Nat.le_trans (Nat.le_add_right _ _) hRT)
      have b1 := sq_nonneg S
      by_cases hc : (S : Int) * (S : Int) ≤ a
      · go_wp2
        go_round
        case rel =>
          refine ⟨S, k + 1, rfl, by go_num, by omega, ?_, by omega, hc, ?_⟩
          · rw [← HS.out, ← HTT.out, ← Hn.out]; exact Hsd.out
          · rw [Hn.out, HTT.out]
            have := Hhi2.out
            rw [← Nat.add_assoc, HS.out] at this; exact this
        case measure => simp [intOf]; omega
      · have dc : decide ((S : Int) * (S : Int) ≤ a) = false := by simpa using hc
        go_wp2
        go_round
        case rel =>
          refine ⟨R, k + 1, rfl, by go_num, by omega, Hdd.out, by omega, Hlo.out, ?_⟩
          rw [Hn.out, HTT.out, HS.out]; omega
        case measure => simp [intOf]; omega
    · obtain rfl : k = 30 := by omega
      obtain rfl : r = (R : Int) := sq_unique Hr.out ⟨by omega, Hlo.out, by have := Hhi.out; simpa using this⟩
      go_wp2
      go_ret2
      exact ⟨rfl, rfl⟩
theorem sqrt_fix_no (a : Int) (w : World) (h : inB a = false ∨ a < 0) :
    Calls Try.prog 27 #[.int .i64 a] w fun e w' => e = .returned (.tuple #[.int .i64 0, .int .i64 1]) ∧ w = w' := by
  cases ha : inB a
  · go_enter Try.func27, Try.ntmps27
    go_wp2_with (go_at_call 20; refine (in_fix _ _).mono ?_; rintro e w' ⟨rfl, rfl⟩)
    go_ret2
    exact ⟨rfl, rfl⟩
  · have h0 : a < 0 := by rcases h with h | h
                          · rw [ha] at h; cases h
                          · exact h
    go_enter Try.func27, Try.ntmps27
    go_wp2_with (go_at_call 20; refine (in_fix _ _).mono ?_; rintro e w' ⟨rfl, rfl⟩)
    go_ret2
    exact ⟨rfl, rfl⟩
theorem sqrt_ref_no (a : Int) (w : World) (h : inB a = false ∨ a < 0) :
    Calls Try.prog 28 #[.int .i64 a] w fun e w' => e = .returned (.tuple #[.int .i64 0, .int .i64 1]) ∧ w = w' := by
  cases ha : inB a
  · go_enter Try.func28, Try.ntmps28
    go_wp2_with (go_at_call 21; refine (in_ref _ _).mono ?_; rintro e w' ⟨rfl, rfl⟩)
    go_ret2
    exact ⟨rfl, rfl⟩
  · have h0 : a < 0 := by rcases h with h | h
                          · rw [ha] at h; cases h
                          · exact h
    go_enter Try.func28, Try.ntmps28
    go_wp2_with (go_at_call 21; refine (in_ref _ _).mono ?_; rintro e w' ⟨rfl, rfl⟩)
    go_ret2
    exact ⟨rfl, rfl⟩
end Go.Proofs.Ytlaajhdffgjamaa.Fx
