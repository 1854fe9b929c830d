/- What the quotients, the rests and the greatest common divisor of layer 1, and the document's, are: for every two numbers of 64 bits. -/
import Derived.Test.YtlaajhdffgjamaaFixMul
import Derived.BigQuiet
import Derived.Deep.QuietTactic
namespace Go.Proofs.Ytlaajhdffgjamaa.Fx
open Go.ChangeShapes Go.WideShapes Go.ChangeAt Go.RowKit

def partE (a b : Int) : Int := if (inB a && inB b) = true then (if b = 0 then 11 else 0) else 1
def remV (a b : Int) : Int := if (inB a && inB b) = true then (if b = 0 then 0 else a.tmod b) else 0
def quoV (a b : Int) : Int := if (inB a && inB b) = true then (if b = 0 then 0 else gotV (a.tdiv b)) else 0
def quoE (a b : Int) : Int := if (inB a && inB b) = true then (if b = 0 then 11 else gotE (a.tdiv b)) else 1
def modN (e r b : Int) : Int := if (decide (e = 0) && (!decide (r = 0) && (decide (r < 0) != decide (b < 0)))) = true then r + b else r
theorem tdiv_abs (a b : Int) (h : a.natAbs ≤ 1152921504606846976) : -1152921504606846976 ≤ a.tdiv b ∧ a.tdiv b ≤ 1152921504606846976 := by
  have e : (a.tdiv b).natAbs = a.natAbs / b.natAbs := Int.natAbs_tdiv a b
  have : a.natAbs / b.natAbs ≤ a.natAbs := Nat.div_le_self _ _
  omega
theorem tmod_abs (a b : Int) (h : a.natAbs ≤ 1152921504606846976) : -1152921504606846976 ≤ a.tmod b ∧ a.tmod b ≤ 1152921504606846976 := by
  have e : (a.tmod b).natAbs = a.natAbs % b.natAbs := Int.natAbs_tmod a b
  have : a.natAbs % b.natAbs ≤ a.natAbs := Nat.mod_le _ _
  omega
theorem rem_abs (a b : Int) : -1152921504606846976 ≤ remV a b ∧ remV a b ≤ 1152921504606846976 := by
  unfold remV
  cases ha : inB a <;> cases hb : inB b <;> simp
  split
  · simp
  · exact tmod_abs a b (abs_in ha)
theorem modN_ne {e r b : Int} (h : (e == 0) = false) : modN e r b = r := by
  have h : ¬ e = 0 := by simpa using h
  unfold modN; rw [if_neg (by simp [h])]
theorem modN_z {e b : Int} : modN e 0 b = 0 := by
  unfold modN; rw [if_neg (by simp)]
theorem modN_same {e r b : Int} (h : decide (r < 0) = decide (b < 0)) : modN e r b = r := by
  unfold modN; rw [if_neg (by simp [h])]
theorem modN_add {r b : Int} (h0 : ¬ r = 0) (h : decide (r < 0) = !decide (b < 0)) : modN 0 r b = r + b := by
  unfold modN; rw [if_pos (by simp [h0, h])]

theorem divisible_fix (a b : Int) (w : World) :
    Calls Try.prog 51 #[.int .i64 a, .int .i64 b] w fun e w' => e = .returned (.int .i64 (partE a b)) ∧ w = w' := by
  unfold partE
  cases ha : inB a
  · go_enter Try.func51, Try.ntmps51
    go_wp2_with (go_at_call 20; refine (in_fix _ _).mono ?_; rintro e w' ⟨rfl, rfl⟩)
    go_ret
    exact ⟨rfl, rfl⟩
  · cases hb : inB b
    · go_enter Try.func51, Try.ntmps51
      go_wp2_with (go_at_call 20; refine (in_fix _ _).mono ?_; rintro e w' ⟨rfl, rfl⟩)
      go_ret
      exact ⟨rfl, rfl⟩
    · by_cases h0 : b = 0
      · subst h0
        go_enter Try.func51, Try.ntmps51
        go_wp2_with (go_at_call 20; refine (in_fix _ _).mono ?_; rintro e w' ⟨rfl, rfl⟩)
        go_ret
        exact ⟨rfl, rfl⟩
      · rw [if_neg h0]
        have n0 : (b == 0) = false := by simp [h0]
        go_enter Try.func51, Try.ntmps51
        go_wp2_with (go_at_call 20; refine (in_fix _ _).mono ?_; rintro e w' ⟨rfl, rfl⟩)
        go_ret
        exact ⟨rfl, rfl⟩

set_option maxHeartbeats 400000 in
theorem quo_fix (a b : Int) (w : World) :
    Calls Try.prog 29 #[.int .i64 a, .int .i64 b] w fun e w' => e = .returned (.tuple #[.int .i64 (quoV a b), .int .i64 (quoE a b)]) ∧ w = w' := by
  unfold quoV quoE
  cases ha : inB a
  · have pe : partE a b = 1 := by unfold partE; simp [ha]
    go_enter Try.func29, Try.ntmps29
    go_wp2_with (first | (go_at_call 51; refine (divisible_fix _ _ _).mono ?_; rintro e w' ⟨rfl, rfl⟩) | (go_at_call 45; refine (exact_fix _ _).mono ?_; rintro e w' ⟨rfl, rfl⟩))
    go_ret2
    exact ⟨rfl, rfl⟩
  · cases hb : inB b
    · have pe : partE a b = 1 := by unfold partE; simp [hb]
      go_enter Try.func29, Try.ntmps29
      go_wp2_with (first | (go_at_call 51; refine (divisible_fix _ _ _).mono ?_; rintro e w' ⟨rfl, rfl⟩) | (go_at_call 45; refine (exact_fix _ _).mono ?_; rintro e w' ⟨rfl, rfl⟩))
      go_ret2
      exact ⟨rfl, rfl⟩
    · by_cases h0 : b = 0
      · subst h0
        have pe : partE a 0 = 11 := by unfold partE; simp [ha, hb]
        go_enter Try.func29, Try.ntmps29
        go_wp2_with (first | (go_at_call 51; refine (divisible_fix _ _ _).mono ?_; rintro e w' ⟨rfl, rfl⟩) | (go_at_call 45; refine (exact_fix _ _).mono ?_; rintro e w' ⟨rfl, rfl⟩))
        go_ret2
        exact ⟨rfl, rfl⟩
      · rw [if_neg h0]
        have n0 : (b == 0) = false := by simp [h0]
        have pe : partE a b = 0 := by unfold partE; simp [ha, hb, h0]
        obtain ⟨d1, d2⟩ := tdiv_abs a b (abs_in ha)
        go_enter Try.func29, Try.ntmps29
        go_wp2_with (first | (go_at_call 51; refine (divisible_fix _ _ _).mono ?_; rintro e w' ⟨rfl, rfl⟩) | (go_at_call 45; refine (exact_fix _ _).mono ?_; rintro e w' ⟨rfl, rfl⟩))
        go_ret2
        exact ⟨rfl, rfl⟩

set_option maxHeartbeats 400000 in
theorem rem_fix (a b : Int) (w : World) :
    Calls Try.prog 31 #[.int .i64 a, .int .i64 b] w fun e w' => e = .returned (.tuple #[.int .i64 (remV a b), .int .i64 (partE a b)]) ∧ w = w' := by
  cases ha : inB a
  · have pe : partE a b = 1 := by unfold partE; simp [ha]
    have pv : remV a b = 0 := by unfold remV; simp [ha]
    rw [pv]; clear pv
    go_enter Try.func31, Try.ntmps31
    go_wp2_with (go_at_call 51; refine (divisible_fix _ _ _).mono ?_; rintro e w' ⟨rfl, rfl⟩)
    go_ret2
    exact ⟨by rw [pe]; rfl, rfl⟩
  · cases hb : inB b
    · have pe : partE a b = 1 := by unfold partE; simp [hb]
      have pv : remV a b = 0 := by unfold remV; simp [hb]
      rw [pv]; clear pv
      go_enter Try.func31, Try.ntmps31
      go_wp2_with (go_at_call 51; refine (divisible_fix _ _ _).mono ?_; rintro e w' ⟨rfl, rfl⟩)
      go_ret2
      exact ⟨by rw [pe]; rfl, rfl⟩
    · by_cases h0 : b = 0
      · subst h0
        have pe : partE a 0 = 11 := by unfold partE; simp [ha, hb]
        have pv : remV a 0 = 0 := by unfold remV; simp
        rw [pv]; clear pv
        go_enter Try.func31, Try.ntmps31
        go_wp2_with (go_at_call 51; refine (divisible_fix _ _ _).mono ?_; rintro e w' ⟨rfl, rfl⟩)
        go_ret2
        exact ⟨by rw [pe]; rfl, rfl⟩
      · have pe : partE a b = 0 := by unfold partE; simp [ha, hb, h0]
        have pv : remV a b = a.tmod b := by unfold remV; simp [ha, hb, h0]
        have n0 : (b == 0) = false := by simp [h0]
        rw [pv]; clear pv
        go_enter Try.func31, Try.ntmps31
        go_wp2_with (go_at_call 51; refine (divisible_fix _ _ _).mono ?_; rintro e w' ⟨rfl, rfl⟩)
        go_ret2
        exact ⟨by rw [pe]; rfl, rfl⟩

set_option maxHeartbeats 400000 in
theorem mod_fix (a b : Int) (w : World) (hb : inB b = true) :
    Calls Try.prog 33 #[.int .i64 a, .int .i64 b] w fun e w' => e = .returned (.tuple #[.int .i64 (modN (partE a b) (remV a b) b), .int .i64 (partE a b)]) ∧ w = w' := by
  obtain ⟨r1, r2⟩ := rem_abs a b
  obtain ⟨b1, b2⟩ := in_yes hb
  obtain ⟨r, hr⟩ : ∃ r, remV a b = r := ⟨_, rfl⟩
  obtain ⟨x, hx⟩ : ∃ x, partE a b = x := ⟨_, rfl⟩
  rw [hr, hx]
  rw [hr] at r1 r2
  have HR := Lib.hid hr
  have HE := Lib.hid hx
  clear hr hx hb
  by_cases hx0 : x = 0
  · subst hx0
    by_cases hr0 : r = 0
    · subst hr0
      rw [modN_z]
      go_enter Try.func33, Try.ntmps33
      go_wp2_with (go_at_call 31; refine (rem_fix a b _).mono ?_; rintro e w' ⟨rfl, rfl⟩; rw [HR.out, HE.out])
      go_ret2
      exact ⟨rfl, rfl⟩
    · have n0 : (r != 0) = true := by simp [hr0]
      by_cases c1 : r < 0
      · by_cases c2 : b < 0
        · rw [modN_same (by simp [c1, c2])]
          clear hr0
          go_enter Try.func33, Try.ntmps33
          go_wp2_with (go_at_call 31; refine (rem_fix a b _).mono ?_; rintro e w' ⟨rfl, rfl⟩; rw [HR.out, HE.out])
          go_ret2
          exact ⟨rfl, rfl⟩
        · have d2 : decide (b < 0) = false := by simpa using c2
          rw [modN_add hr0 (by simp [c1, c2])]
          clear hr0
          go_enter Try.func33, Try.ntmps33
          go_wp2_with (go_at_call 31; refine (rem_fix a b _).mono ?_; rintro e w' ⟨rfl, rfl⟩; rw [HR.out, HE.out])
          go_ret2
          exact ⟨rfl, rfl⟩
      · have d1 : decide (r < 0) = false := by simpa using c1
        by_cases c2 : b < 0
        · rw [modN_add hr0 (by simp [c1, c2])]
          clear hr0
          go_enter Try.func33, Try.ntmps33
          go_wp2_with (go_at_call 31; refine (rem_fix a b _).mono ?_; rintro e w' ⟨rfl, rfl⟩; rw [HR.out, HE.out])
          go_ret2
          exact ⟨rfl, rfl⟩
        · have d2 : decide (b < 0) = false := by simpa using c2
          rw [modN_same (by simp [c1, c2])]
          clear hr0
          go_enter Try.func33, Try.ntmps33
          go_wp2_with (go_at_call 31; refine (rem_fix a b _).mono ?_; rintro e w' ⟨rfl, rfl⟩; rw [HR.out, HE.out])
          go_ret2
          exact ⟨rfl, rfl⟩
  · have n0 : (x == 0) = false := by simp [hx0]
    rw [modN_ne n0]
    clear hx0
    go_enter Try.func33, Try.ntmps33
    go_wp2_with (go_at_call 31; refine (rem_fix a b _).mono ?_; rintro e w' ⟨rfl, rfl⟩; rw [HR.out, HE.out])
    go_ret2
    exact ⟨rfl, rfl⟩
theorem mod_fix_out (a b : Int) (w : World) (hb : inB b = false) :
    Calls Try.prog 33 #[.int .i64 a, .int .i64 b] w fun e w' => e = .returned (.tuple #[.int .i64 (0), .int .i64 (1)]) ∧ w = w' := by
  have hr : remV a b = 0 := by unfold remV; simp [hb]
  have hx : partE a b = 1 := by unfold partE; simp [hb]
  have HR := Lib.hid hr
  have HE := Lib.hid hx
  clear hr hx hb
  go_enter Try.func33, Try.ntmps33
  go_wp2_with (go_at_call 31; refine (rem_fix a b _).mono ?_; rintro e w' ⟨rfl, rfl⟩; rw [HR.out, HE.out])
  go_ret2
  exact ⟨rfl, rfl⟩

set_option maxHeartbeats 400000 in
theorem quo_ref (a b : Int) (w : World) :
    Calls Try.prog 30 #[.int .i64 a, .int .i64 b] w fun e w' => e = .returned (.tuple #[.int .i64 (quoV a b), .int .i64 (quoE a b)]) ∧ w = w' := by
  unfold quoV quoE
  cases ha : inB a
  · skip
    go_enter Try.func30, Try.ntmps30
    go_wp2_with (first | (go_at_call 21; refine (in_ref _ _).mono ?_; rintro e w' ⟨rfl, rfl⟩) | (go_at_call 46; refine (got_ref _ _).mono ?_; rintro e w' ⟨rfl, rfl⟩))
    go_ret2
    exact ⟨rfl, rfl⟩
  · cases hb : inB b
    · skip
      go_enter Try.func30, Try.ntmps30
      go_wp2_with (first | (go_at_call 21; refine (in_ref _ _).mono ?_; rintro e w' ⟨rfl, rfl⟩) | (go_at_call 46; refine (got_ref _ _).mono ?_; rintro e w' ⟨rfl, rfl⟩))
      go_ret2
      exact ⟨rfl, rfl⟩
    · by_cases h0 : b = 0
      · subst h0
        skip
        go_enter Try.func30, Try.ntmps30
        go_wp2_with (first | (go_at_call 21; refine (in_ref _ _).mono ?_; rintro e w' ⟨rfl, rfl⟩) | (go_at_call 46; refine (got_ref _ _).mono ?_; rintro e w' ⟨rfl, rfl⟩))
        go_ret2
        exact ⟨rfl, rfl⟩
      · rw [if_neg h0]
        have n0 : (b == 0) = false := by simp [h0]
        skip
        obtain ⟨d1, d2⟩ := tdiv_abs a b (abs_in ha)
        go_enter Try.func30, Try.ntmps30
        go_wp2_with (first | (go_at_call 21; refine (in_ref _ _).mono ?_; rintro e w' ⟨rfl, rfl⟩) | (go_at_call 46; refine (got_ref _ _).mono ?_; rintro e w' ⟨rfl, rfl⟩))
        go_ret2
        exact ⟨rfl, rfl⟩

set_option maxHeartbeats 400000 in
theorem rem_ref (a b : Int) (w : World) :
    Calls Try.prog 32 #[.int .i64 a, .int .i64 b] w fun e w' => e = .returned (.tuple #[.int .i64 (remV a b), .int .i64 (partE a b)]) ∧ w = w' := by
  cases ha : inB a
  · have pe : partE a b = 1 := by unfold partE; simp [ha]
    have pv : remV a b = 0 := by unfold remV; simp [ha]
    rw [pv]; clear pv
    go_enter Try.func32, Try.ntmps32
    go_wp2_with (go_at_call 21; refine (in_ref _ _).mono ?_; rintro e w' ⟨rfl, rfl⟩)
    go_ret2
    exact ⟨by rw [pe]; rfl, rfl⟩
  · cases hb : inB b
    · have pe : partE a b = 1 := by unfold partE; simp [hb]
      have pv : remV a b = 0 := by unfold remV; simp [hb]
      rw [pv]; clear pv
      go_enter Try.func32, Try.ntmps32
      go_wp2_with (go_at_call 21; refine (in_ref _ _).mono ?_; rintro e w' ⟨rfl, rfl⟩)
      go_ret2
      exact ⟨by rw [pe]; rfl, rfl⟩
    · by_cases h0 : b = 0
      · subst h0
        have pe : partE a 0 = 11 := by unfold partE; simp [ha, hb]
        have pv : remV a 0 = 0 := by unfold remV; simp
        rw [pv]; clear pv
        go_enter Try.func32, Try.ntmps32
        go_wp2_with (go_at_call 21; refine (in_ref _ _).mono ?_; rintro e w' ⟨rfl, rfl⟩)
        go_ret2
        exact ⟨by rw [pe]; rfl, rfl⟩
      · have pe : partE a b = 0 := by unfold partE; simp [ha, hb, h0]
        have pv : remV a b = a.tmod b := by unfold remV; simp [ha, hb, h0]
        have n0 : (b == 0) = false := by simp [h0]
        rw [pv]; clear pv
        go_enter Try.func32, Try.ntmps32
        go_wp2_with (go_at_call 21; refine (in_ref _ _).mono ?_; rintro e w' ⟨rfl, rfl⟩)
        go_ret2
        exact ⟨by rw [pe]; rfl, rfl⟩

set_option maxHeartbeats 400000 in
theorem mod_ref (a b : Int) (w : World) (hb : inB b = true) :
    Calls Try.prog 34 #[.int .i64 a, .int .i64 b] w fun e w' => e = .returned (.tuple #[.int .i64 (modN (partE a b) (remV a b) b), .int .i64 (partE a b)]) ∧ w = w' := by
  obtain ⟨r1, r2⟩ := rem_abs a b
  obtain ⟨b1, b2⟩ := in_yes hb
  obtain ⟨r, hr⟩ : ∃ r, remV a b = r := ⟨_, rfl⟩
  obtain ⟨x, hx⟩ : ∃ x, partE a b = x := ⟨_, rfl⟩
  rw [hr, hx]
  rw [hr] at r1 r2
  have HR := Lib.hid hr
  have HE := Lib.hid hx
  clear hr hx hb
  by_cases hx0 : x = 0
  · subst hx0
    by_cases hr0 : r = 0
    · subst hr0
      rw [modN_z]
      go_enter Try.func34, Try.ntmps34
      go_wp2_with (go_at_call 32; refine (rem_ref a b _).mono ?_; rintro e w' ⟨rfl, rfl⟩; rw [HR.out, HE.out])
      go_ret2
      exact ⟨rfl, rfl⟩
    · have n0 : (r != 0) = true := by simp [hr0]
      by_cases c1 : r < 0
      · by_cases c2 : b < 0
        · rw [modN_same (by simp [c1, c2])]
          clear hr0
          go_enter Try.func34, Try.ntmps34
          go_wp2_with (go_at_call 32; refine (rem_ref a b _).mono ?_; rintro e w' ⟨rfl, rfl⟩; rw [HR.out, HE.out])
          go_ret2
          exact ⟨rfl, rfl⟩
        · have d2 : decide (b < 0) = false := by simpa using c2
          rw [modN_add hr0 (by simp [c1, c2])]
          clear hr0
          go_enter Try.func34, Try.ntmps34
          go_wp2_with (go_at_call 32; refine (rem_ref a b _).mono ?_; rintro e w' ⟨rfl, rfl⟩; rw [HR.out, HE.out])
          go_ret2
          exact ⟨rfl, rfl⟩
      · have d1 : decide (r < 0) = false := by simpa using c1
        by_cases c2 : b < 0
        · rw [modN_add hr0 (by simp [c1, c2])]
          clear hr0
          go_enter Try.func34, Try.ntmps34
          go_wp2_with (go_at_call 32; refine (rem_ref a b _).mono ?_; rintro e w' ⟨rfl, rfl⟩; rw [HR.out, HE.out])
          go_ret2
          exact ⟨rfl, rfl⟩
        · have d2 : decide (b < 0) = false := by simpa using c2
          rw [modN_same (by simp [c1, c2])]
          clear hr0
          go_enter Try.func34, Try.ntmps34
          go_wp2_with (go_at_call 32; refine (rem_ref a b _).mono ?_; rintro e w' ⟨rfl, rfl⟩; rw [HR.out, HE.out])
          go_ret2
          exact ⟨rfl, rfl⟩
  · have n0 : (x == 0) = false := by simp [hx0]
    rw [modN_ne n0]
    clear hx0
    go_enter Try.func34, Try.ntmps34
    go_wp2_with (go_at_call 32; refine (rem_ref a b _).mono ?_; rintro e w' ⟨rfl, rfl⟩; rw [HR.out, HE.out])
    go_ret2
    exact ⟨rfl, rfl⟩
theorem mod_ref_out (a b : Int) (w : World) (hb : inB b = false) :
    Calls Try.prog 34 #[.int .i64 a, .int .i64 b] w fun e w' => e = .returned (.tuple #[.int .i64 (0), .int .i64 (1)]) ∧ w = w' := by
  have hr : remV a b = 0 := by unfold remV; simp [hb]
  have hx : partE a b = 1 := by unfold partE; simp [hb]
  have HR := Lib.hid hr
  have HE := Lib.hid hx
  clear hr hx hb
  go_enter Try.func34, Try.ntmps34
  go_wp2_with (go_at_call 32; refine (rem_ref a b _).mono ?_; rintro e w' ⟨rfl, rfl⟩; rw [HR.out, HE.out])
  go_ret2
  exact ⟨rfl, rfl⟩

end Go.Proofs.Ytlaajhdffgjamaa.Fx
