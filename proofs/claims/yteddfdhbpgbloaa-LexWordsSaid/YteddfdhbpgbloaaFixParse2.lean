/- What the document reads of a text: for every text. -/
import Derived.Test.YteddfdhbpgbloaaFixForm
namespace Go.Proofs.Yteddfdhbpgbloaa.Fx
open Go.ChangeShapes Go.WideShapes Go.ChangeAt Go.RowKit
set_option linter.unusedVariables false

theorem beqI {x y : Int} (h : x = y) : (x == y) = true := by simp [h]
theorem beqI' {x y : Int} (h : x ≠ y) : (x == y) = false := by simp [h]
theorem u8_48 {c : UInt8} : c.toNat = 48 ↔ c = 48 := ⟨fun h => UInt8.toNat_inj.1 h, fun h => by rw [h]; rfl⟩
theorem form_ref (s : ByteArray) (w : World) (hs : s.size ≤ maxLen) :
    Calls Try.prog 135 #[.string s] w fun e w' => e = .returned (.bool (formB s.data.toList)) ∧ w = w' := by
  by_cases h0 : 0 < s.size
  · have hn := neg_of s h0
    have hb0 := byte_at s 0 h0 (by rw [len_of]; exact h0)
    by_cases c45 : s[0].toNat = 45
    · have hneg : negB s.data.toList = true := by rw [hn]; simp [c45]
      by_cases h1 : s.size = 1
      · rw [form_one hneg (by rw [len_of]; exact h1)]
        exact form_short s w hs h0 (beqI (by omega)) (beqI (by omega))
      · have h2 : 1 < s.size := by omega
        have hl : 1 < s.data.toList.length := by rw [len_of]; exact h2
        have hb1 := byte_at s 1 h2 hl
        by_cases c48 : s[1].toNat = 48
        · rw [form_zero1 hneg hl (by rw [hb1]; exact u8_48.1 c48)]
          exact form_z1 s w hs h2 (beqI (by omega)) (beqI' (by omega)) (beqI (by omega))
        · refine form_1 s _ w hs h2 (beqI (by omega)) (beqI' (by omega)) (beqI' (by omega)) (Lib.hid ?_) (Lib.hid ?_)
          · intro k h1k hk hd
            exact form_bad1 hneg k h1k (by rw [len_of]; exact hk) (by rw [byte_at s k hk]; exact hd)
          · intro hd
            refine form_good1 hneg hl (by rw [hb1]; exact fun e => c48 (u8_48.2 e)) (fun j hj h1j => ?_)
            have hj' : j < s.size := by rw [← len_of]; exact hj
            rw [byte_at s j hj']; exact hd j hj' h1j
    · have hneg : negB s.data.toList = false := by rw [hn]; simp [c45]
      have hl : 0 < s.data.toList.length := by rw [len_of]; exact h0
      have hbad : ∀ k, 0 ≤ k → ∀ hk : k < s.size, dig s[k] = false → formB s.data.toList = false := by
        intro k _ hk hd
        exact form_bad0 hneg k (by rw [len_of]; exact hk) (by rw [byte_at s k hk]; exact hd)
      have hgood : (s[0].toNat ≠ 48 ∨ s.size = 1) → (∀ j (hj : j < s.size), 0 ≤ j → dig s[j] = true) → formB s.data.toList = true := by
        intro hc hd
        refine form_good0 hneg hl ?_ (fun j hj => ?_)
        · rcases hc with hc | hc
          · exact .inl (by rw [hb0]; exact fun e => hc (u8_48.2 e))
          · exact .inr (by rw [len_of]; exact hc)
        · have hj' : j < s.size := by rw [← len_of]; exact hj
          rw [byte_at s j hj']; exact hd j hj' (Nat.zero_le _)
      by_cases c48 : s[0].toNat = 48
      · by_cases h1 : 1 < s.size
        · rw [form_zero0 hneg (by rw [len_of]; exact h1) (by rw [hb0]; exact u8_48.1 c48)]
          exact form_z0 s w hs h1 (beqI' (by omega)) (beqI' (by omega)) (beqI (by omega))
        · exact form_0b s _ w hs h0 (beqI' (by omega)) (beqI' (by omega)) (beqI (by omega)) (decide_eq_false (by omega)) (Lib.hid hbad) (Lib.hid (hgood (.inr (by omega))))
      · exact form_0a s _ w hs h0 (beqI' (by omega)) (beqI' (by omega)) (beqI' (by omega)) (Lib.hid hbad) (Lib.hid (hgood (.inl c48)))
  · have e : s.data.toList = [] := List.length_eq_zero_iff.1 (by rw [len_of]; omega)
    rw [e, form_nil]
    exact form_empty s w hs h0 (decide_eq_false (by omega)) (beqI (by omega))
/-! The document's reading. -/
theorem parse_ref_bad (s : ByteArray) (w : World) (hs : s.size ≤ maxLen) (hf : Hid (formB s.data.toList = false)) :
    Calls Try.prog 127 #[.string s] w fun e w' => e = .returned (.tuple #[.int .i64 0, .int .i64 5]) ∧ w = w' := by
  have Hs := Lib.hid hs
  clear hs
  go_enter Try.func127, Try.ntmps127
  go_wp2_with fail
  refine (form_ref s _ Hs.out).mono ?_; rintro e w' ⟨rfl, rfl⟩
  rw [hf.out]
  go_wp2_with fail
  go_ret2
  exact ⟨rfl, rfl⟩
theorem parse_ref_long (s : ByteArray) (w : World) (hs : s.size ≤ maxLen) (hf : Hid (formB s.data.toList = true)) (hl : 20 < s.size) :
    Calls Try.prog 127 #[.string s] w fun e w' => e = .returned (.tuple #[.int .i64 0, .int .i64 10]) ∧ w = w' := by
  have Hs := Lib.hid hs
  clear hs
  go_enter Try.func127, Try.ntmps127
  go_wp2_with fail
  refine (form_ref s _ Hs.out).mono ?_; rintro e w' ⟨rfl, rfl⟩
  rw [hf.out]
  go_wp2_with fail
  go_ret2
  exact ⟨rfl, rfl⟩
def ParRefAt (s : ByteArray) (l : List UInt8) (a : Nat) (m i : Value) : Prop := ∃ k : Nat, k ≤ s.size ∧ i = .int .i64 (k : Int) ∧ m = .int .i64 (-((numL (l.take (k - a)) : Nat) : Int)) ∧ numL (l.take (k - a)) ≤ 1152921504606846976
set_option maxHeartbeats 1600000 in
theorem parse_ref_0 (s : ByteArray) (l : List UInt8) (R1 R2 : Int) (w : World) (hs : s.size ≤ maxLen) (hf : Hid (formB s.data.toList = true)) (h20 : s.size ≤ 20) (h0 : 0 < s.size) (f0 : ((s[0].toNat : Int) == 45) = false)
    (hL : Hid (l.length = s.size - 0)) (hC : Hid (∀ k (hk : k < s.size) (h : k - 0 < l.length), 0 ≤ k → l[k - 0] = s[k] ∧ 48 ≤ s[k].toNat ∧ s[k].toNat ≤ 57)) (hO : Hid (1152921504606846976 < numL l → R1 = 0 ∧ R2 = 10)) (hR : Hid (R1 = gotV ((numL l : Nat) : Int) ∧ R2 = gotE ((numL l : Nat) : Int))) :
    Calls Try.prog 127 #[.string s] w fun e w' => e = .returned (.tuple #[.int .i64 R1, .int .i64 R2]) ∧ w = w' := by
  have Hs := Lib.hid hs
  clear hs
  go_enter Try.func127, Try.ntmps127
  go_wp2_with fail
  refine (form_ref s _ Hs.out).mono ?_; rintro e w' ⟨rfl, rfl⟩
  rw [hf.out]
  go_wp2_with fail
  go_loop [4, 5] (fun m i => ParRefAt s l 0 m i) (fun _ i => s.size - (intOf i).toNat)
  case atStart => exact ⟨0, Nat.zero_le _, rfl, by simp [numL], by simp [numL]⟩
  case round =>
    obtain ⟨k, hk, rfl, rfl, hn⟩ := hrel
    by_cases hlt : k < s.size
    · have hkl : k - 0 < l.length := by rw [hL.out]; omega
      obtain ⟨q1, q2, q3⟩ := hC.out k hlt hkl (by omega)
      have hnx := numL_take l (k - 0) hkl
      rw [q1] at hnx
      have hmo := numL_mono l (k - 0 + 1)
      have hsub : k + 1 - 0 = k - 0 + 1 := by omega
      have Hq := Lib.hid hsub
      obtain ⟨n, en⟩ : ∃ n, numL (l.take (k - 0)) = n := ⟨_, rfl⟩
      rw [en] at hn hnx ⊢
      have c45 : ((s[k].toNat : Int) == 45) = false := beqI' (by omega)
      clear q1 en hsub
      by_cases ho1 : 115292150460684697 < n
      · obtain ⟨e1, e2⟩ := hO.out (by omega)
        have d1 : decide (-(n : Int) < -115292150460684697) = true := decide_eq_true (by omega)
        subst e1 e2
        clear hnx hmo
        go_wp2
        go_ret2
        exact ⟨rfl, rfl⟩
      · have d1 : decide (-(n : Int) < -115292150460684697) = false := decide_eq_false (by omega)
        by_cases ho2 : 1152921504606846976 < 10 * n + (s[k].toNat - 48)
        · obtain ⟨e1, e2⟩ := hO.out (by omega)
          have d2 : decide (10 * -(n : Int) - ((s[k].toNat : Int) - 48) < -1152921504606846976) = true := decide_eq_true (by omega)
          subst e1 e2
          clear hnx hmo
          go_wp2
          go_ret2
          exact ⟨rfl, rfl⟩
        · have d2 : decide (10 * -(n : Int) - ((s[k].toNat : Int) - 48) < -1152921504606846976) = false := decide_eq_false (by omega)
          have Hnx := Lib.hid hnx
          clear hnx hmo
          go_wp2
          go_round
          case rel => exact ⟨k + 1, by omega, by go_num, congrArg (Value.int .i64) (by rw [Hq.out, Hnx.out]; omega), by rw [Hq.out, Hnx.out]; omega⟩
          case measure => simp [intOf]; omega
    · obtain rfl : k = s.size := by omega
      have hall : l.take (s.size - 0) = l := List.take_of_length_le (by rw [hL.out]; exact Nat.le_refl _)
      have H1 := Lib.hid (hR.out)
      rw [hall] at hn ⊢
      obtain ⟨n, en⟩ : ∃ n, numL l = n := ⟨_, rfl⟩
      rw [en] at hn ⊢
      have E1 := Lib.hid en
      clear en hall
      have e := H1.out
      rw [E1.out] at e
      obtain ⟨e1, e2⟩ := e
      subst e1 e2
      skip
      go_wp2_with (go_at_call 136; refine (got_ref _ _).mono ?_; rintro e w' ⟨rfl, rfl⟩)
      go_ret2
      exact ⟨rfl, rfl⟩
set_option maxHeartbeats 1600000 in
theorem parse_ref_1 (s : ByteArray) (l : List UInt8) (R1 R2 : Int) (w : World) (hs : s.size ≤ maxLen) (hf : Hid (formB s.data.toList = true)) (h20 : s.size ≤ 20) (h0 : 0 < s.size) (f0 : ((s[0].toNat : Int) == 45) = true)
    (hL : Hid (l.length = s.size - 1)) (hC : Hid (∀ k (hk : k < s.size) (h : k - 1 < l.length), 1 ≤ k → l[k - 1] = s[k] ∧ 48 ≤ s[k].toNat ∧ s[k].toNat ≤ 57)) (hO : Hid (1152921504606846976 < numL l → R1 = 0 ∧ R2 = 10)) (hR : Hid (numL l ≤ 1152921504606846976 → R1 = -((numL l : Nat) : Int) ∧ R2 = 0)) :
    Calls Try.prog 127 #[.string s] w fun e w' => e = .returned (.tuple #[.int .i64 R1, .int .i64 R2]) ∧ w = w' := by
  have Hs := Lib.hid hs
  clear hs
  go_enter Try.func127, Try.ntmps127
  go_wp2_with fail
  refine (form_ref s _ Hs.out).mono ?_; rintro e w' ⟨rfl, rfl⟩
  rw [hf.out]
  go_wp2_with fail
  go_loop [4, 5] (fun m i => ParRefAt s l 1 m i) (fun _ i => s.size - (intOf i).toNat)
  case atStart => exact ⟨0, Nat.zero_le _, rfl, by simp [numL], by simp [numL]⟩
  case round =>
    obtain ⟨k, hk, rfl, rfl, hn⟩ := hrel
    by_cases hlt : k < s.size
    · by_cases hk0 : k = 0
      · subst hk0
        have c45 : ((s[0].toNat : Int) == 45) = true := f0
        go_wp2
        go_round
        case rel => exact ⟨1, by omega, rfl, rfl, hn⟩
        case measure => simp [intOf]; omega
      · have hkl : k - 1 < l.length := by rw [hL.out]; omega
        obtain ⟨q1, q2, q3⟩ := hC.out k hlt hkl (by omega)
        have hnx := numL_take l (k - 1) hkl
        rw [q1] at hnx
        have hmo := numL_mono l (k - 1 + 1)
        have hsub : k + 1 - 1 = k - 1 + 1 := by omega
        have Hq := Lib.hid hsub
        obtain ⟨n, en⟩ : ∃ n, numL (l.take (k - 1)) = n := ⟨_, rfl⟩
        rw [en] at hn hnx ⊢
        have c45 : ((s[k].toNat : Int) == 45) = false := beqI' (by omega)
        clear q1 en hsub
        by_cases ho1 : 115292150460684697 < n
        · obtain ⟨e1, e2⟩ := hO.out (by omega)
          have d1 : decide (-(n : Int) < -115292150460684697) = true := decide_eq_true (by omega)
          subst e1 e2
          clear hnx hmo
          go_wp2
          go_ret2
          exact ⟨rfl, rfl⟩
        · have d1 : decide (-(n : Int) < -115292150460684697) = false := decide_eq_false (by omega)
          by_cases ho2 : 1152921504606846976 < 10 * n + (s[k].toNat - 48)
          · obtain ⟨e1, e2⟩ := hO.out (by omega)
            have d2 : decide (10 * -(n : Int) - ((s[k].toNat : Int) - 48) < -1152921504606846976) = true := decide_eq_true (by omega)
            subst e1 e2
            clear hnx hmo
            go_wp2
            go_ret2
            exact ⟨rfl, rfl⟩
          · have d2 : decide (10 * -(n : Int) - ((s[k].toNat : Int) - 48) < -1152921504606846976) = false := decide_eq_false (by omega)
            have Hnx := Lib.hid hnx
            clear hnx hmo
            go_wp2
            go_round
            case rel => exact ⟨k + 1, by omega, by go_num, congrArg (Value.int .i64) (by rw [Hq.out, Hnx.out]; omega), by rw [Hq.out, Hnx.out]; omega⟩
            case measure => simp [intOf]; omega
    · obtain rfl : k = s.size := by omega
      have hall : l.take (s.size - 1) = l := List.take_of_length_le (by rw [hL.out]; exact Nat.le_refl _)
      have H1 := Lib.hid (hR.out)
      rw [hall] at hn ⊢
      obtain ⟨n, en⟩ : ∃ n, numL l = n := ⟨_, rfl⟩
      rw [en] at hn ⊢
      have E1 := Lib.hid en
      clear en hall
      have e := H1.out (by rw [E1.out]; omega)
      rw [E1.out] at e
      obtain ⟨e1, e2⟩ := e
      subst e1 e2
      go_wp2
      go_ret2
      exact ⟨rfl, rfl⟩
theorem parse_ref (s : ByteArray) (w : World) (hs : s.size ≤ maxLen) :
    Calls Try.prog 127 #[.string s] w fun e w' => e = .returned (.tuple #[.int .i64 (parV s.data.toList), .int .i64 (parE s.data.toList)]) ∧ w = w' := by
  cases hf : formB s.data.toList
  · rw [(par_form hf).1, (par_form hf).2]
    exact parse_ref_bad s w hs (Lib.hid hf)
  · by_cases h20 : 20 < s.size
    · have ho := par_over hf (form_over hf (by rw [len_of]; exact h20))
      rw [ho.1, ho.2]
      exact parse_ref_long s w hs (Lib.hid hf) h20
    · have hne := form_len hf
      have hok : okB (body s.data.toList) = true := by
        have := hf
        unfold formB at this
        rw [Bool.and_eq_true] at this
        exact this.1
      have h0 : 0 < s.size := by
        rw [← len_of]
        refine List.length_pos_iff.2 (fun e => hne ?_)
        rw [e]; rfl
      have hn := neg_of s h0
      by_cases c45 : s[0].toNat = 45
      · have hneg : negB s.data.toList = true := by rw [hn]; simp [c45]
        refine parse_ref_1 s (body s.data.toList) _ _ w hs (Lib.hid hf) (by omega) h0 (beqI (by omega)) (Lib.hid ?_) (Lib.hid ?_) (Lib.hid (par_over hf)) (Lib.hid (fun h => par_neg hf h hneg))
        · rw [body_neg hneg, List.length_tail, len_of]
        · intro k hk h h1
          have hkl : k < s.data.toList.length := by rw [len_of]; exact hk
          have e : (body s.data.toList)[k - 1] = s[k] := by
            simp only [body_neg hneg, List.getElem_tail, Nat.sub_add_cancel h1]
            exact byte_at s k hk hkl
          have d := dig_of (okB_dig hok (k - 1) h)
          rw [e] at d
          exact ⟨e, d⟩
      · have hneg : negB s.data.toList = false := by rw [hn]; simp [c45]
        refine parse_ref_0 s (body s.data.toList) _ _ w hs (Lib.hid hf) (by omega) h0 (beqI' (by omega)) (Lib.hid ?_) (Lib.hid ?_) (Lib.hid (par_over hf)) (Lib.hid ?_)
        · rw [body_pos hneg, len_of]; rfl
        · intro k hk h h1
          have hkl : k < s.data.toList.length := by rw [len_of]; exact hk
          have e : (body s.data.toList)[k - 0] = s[k] := by
            simp only [body_pos hneg, Nat.sub_zero]
            exact byte_at s k hk hkl
          have d := dig_of (okB_dig hok (k - 0) h)
          rw [e] at d
          exact ⟨e, d⟩
        · by_cases c : numL (body s.data.toList) ≤ 1152921504606846975
          · rw [(par_pos hf c hneg).1, (par_pos hf c hneg).2]
            have := got_in (n := ((numL (body s.data.toList) : Nat) : Int)) (in_mk (by omega) (by omega))
            exact ⟨this.1.symm, this.2.symm⟩
          · have g := got_out (n := ((numL (body s.data.toList) : Nat) : Int)) (in_not (by omega))
            rw [g.1, g.2]
            by_cases t : numL (body s.data.toList) = 1152921504606846976
            · exact par_top hf t hneg
            · exact par_over hf (by omega)
end Go.Proofs.Yteddfdhbpgbloaa.Fx
