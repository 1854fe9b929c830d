/- A number's text is read as the number, and the other way round: as plain lists of bytes. -/
import Derived.Test.YtpeleifkednmoaaM0
section
namespace Go.Proofs.Ytpeleifkednmoaa.Fx
theorem decL_ne (n : Nat) : decL n ≠ [] := by
  intro e
  have := decL_len n
  rw [e] at this
  have p := nd_pos n
  simp at this; omega
theorem dig_digB (n : Nat) : dig (digB n) = true := dig_mk (by rw [digB_toNat]; omega) (by rw [digB_toNat]; omega)
theorem decL_all (n : Nat) : (decL n).all dig = true := by
  induction n using Nat.strongRecOn with
  | ind n ih =>
    by_cases c : n < 10
    · rw [decL_small c]; simp [dig_digB]
    · rw [decL_big c, List.all_append, ih (n / 10) (by omega)]; simp [dig_digB]
theorem numL_decL (n : Nat) : numL (decL n) = n := by
  induction n using Nat.strongRecOn with
  | ind n ih =>
    by_cases c : n < 10
    · rw [decL_small c]
      have := digB_toNat n
      simp [numL]; omega
    · rw [decL_big c, numL_snoc, ih (n / 10) (by omega), digB_toNat]; omega
theorem decL_head (n : Nat) (h : 0 < n) : (decL n).head? ≠ some 48 := by
  induction n using Nat.strongRecOn with
  | ind n ih =>
    by_cases c : n < 10
    · rw [decL_small c]
      intro e
      have e : digB n = 48 := by simpa using e
      have := digB_toNat n
      rw [e] at this
      have t : (48 : UInt8).toNat = 48 := rfl
      omega
    · rw [decL_big c, List.head?_append]
      have := ih (n / 10) (by omega) (by omega)
      cases h : (decL (n / 10)).head? with
      | none => exact absurd (List.head?_eq_none_iff.1 h) (decL_ne _)
      | some x => rw [h] at this; simpa using this
theorem okB_decL (n : Nat) : okB (decL n) = true := by
  unfold okB
  rw [decL_all]
  by_cases h : n = 0
  · subst h; rw [decL_small (by omega)]; rfl
  · have := decL_head n (by omega)
    have ne := decL_ne n
    simp [this, ne]
theorem head_digit {l : List UInt8} (h : l.all dig = true) : negB l = false := by
  cases l with
  | nil => rfl
  | cons c t =>
    rw [negB_cons]
    simp at h
    have := dig_of h.1
    simp
    intro e; subst e
    have t : (45 : UInt8).toNat = 45 := rfl
    omega
theorem text_neg {a : Int} (h : a < 0) : textL a = 45 :: decL a.natAbs := by unfold textL; rw [if_pos h]
theorem text_pos {a : Int} (h : ¬ a < 0) : textL a = decL a.natAbs := by unfold textL; rw [if_neg h]
theorem par_text {a : Int} (h : inB a = true) : parV (textL a) = a ∧ parE (textL a) = 0 := by
  obtain ⟨a1, a2⟩ := in_yes h
  by_cases h0 : a < 0
  · rw [text_neg h0]
    have n : negB (45 :: decL a.natAbs) = true := rfl
    have b : body (45 :: decL a.natAbs) = decL a.natAbs := body_neg n
    have f : formB (45 :: decL a.natAbs) = true := by
      unfold formB
      rw [b, okB_decL]
      have : decL a.natAbs ≠ [48] := by
        intro e
        have := decL_head a.natAbs (by omega)
        rw [e] at this; simp at this
      simp [this]
    have p := par_neg f (by rw [b, numL_decL]; omega) n
    rw [b, numL_decL] at p
    exact ⟨by rw [p.1]; omega, p.2⟩
  · rw [text_pos h0]
    have n : negB (decL a.natAbs) = false := head_digit (decL_all _)
    have b : body (decL a.natAbs) = decL a.natAbs := body_pos n
    have f : formB (decL a.natAbs) = true := by
      unfold formB
      rw [b, okB_decL]
      have : decL a.natAbs ≠ [45, 48] := by
        intro e
        rw [e] at n; simp [negB] at n
      simp [this]
    have p := par_pos f (by rw [b, numL_decL]; omega) n
    rw [b, numL_decL] at p
    exact ⟨by rw [p.1]; omega, p.2⟩
theorem digB_of {c : UInt8} (h : dig c = true) (m : Nat) : digB (10 * m + (c.toNat - 48)) = c := by
  have d := dig_of h
  apply UInt8.toNat_inj.1
  rw [digB_toNat]; omega
theorem decL_numL_take (l : List UInt8) (hd : ∀ j (hj : j < l.length), dig l[j] = true) (h0 : 0 < l.length) (h49 : 49 ≤ (l[0]).toNat) : ∀ k, k < l.length → decL (numL (l.take (k + 1))) = l.take (k + 1) := by
  intro k
  induction k with
  | zero =>
    intro _
    have d := dig_of (hd 0 h0)
    rw [numL_take l 0 h0, take_snoc l 0 h0]
    simp only [List.take_zero, List.nil_append]
    have e : 10 * numL [] + (l[0].toNat - 48) < 10 := by simp [numL]; omega
    rw [decL_small e, digB_of (hd 0 h0)]
  | succ k ih =>
    intro hk
    have g := numL_ge l h0 h49 k (by omega)
    have p : 0 < 10 ^ k := Nat.pow_pos (by omega)
    have d := dig_of (hd (k + 1) hk)
    rw [numL_take l (k + 1) hk, decL_big (by omega), digB_of (hd (k + 1) hk), show (10 * numL (l.take (k + 1)) + (l[k + 1].toNat - 48)) / 10 = numL (l.take (k + 1)) from by omega, ih (by omega), ← take_snoc l (k + 1) hk]
theorem decL_numL {l : List UInt8} (h : okB l = true) : decL (numL l) = l := by
  have hd := okB_dig h
  have hne := okB_ne h
  have h0 : 0 < l.length := List.length_pos_iff.2 hne
  by_cases c : l = [48]
  · subst c
    rw [show numL [48] = 0 from rfl, decL_small (by omega)]; rfl
  · have hh : l[0] ≠ 48 := by
      intro e
      unfold okB at h
      rw [Bool.and_eq_true, Bool.or_eq_true] at h
      rcases h.2 with x | x
      · exact c (by simpa using x)
      · rw [Bool.and_eq_true] at x
        have x2 := x.2
        rw [List.head?_eq_getElem?, List.getElem?_eq_getElem h0, e] at x2
        simp at x2
    have h49 : 49 ≤ (l[0]).toNat := by
      have d := dig_of (hd 0 h0)
      have : (l[0]).toNat ≠ 48 := fun e => hh (UInt8.toNat_inj.1 e)
      omega
    have := decL_numL_take l hd h0 h49 (l.length - 1) (by omega)
    rw [show l.length - 1 + 1 = l.length from by omega, List.take_length] at this
    exact this
theorem parE_ok {l : List UInt8} (h : parE l = 0) : inB (parV l) = true ∧ textL (parV l) = l := by
  cases hf : formB l
  · rw [(par_form hf).2] at h; omega
  · have ho : okB (body l) = true := by
      have := hf
      unfold formB at this
      rw [Bool.and_eq_true] at this
      exact this.1
    have hz : l ≠ [45, 48] := by
      have := hf
      unfold formB at this
      rw [Bool.and_eq_true] at this
      simpa using this.2
    have e := decL_numL ho
    by_cases hov : 1152921504606846976 < numL (body l)
    · rw [(par_over hf hov).2] at h; omega
    · cases hn : negB l
      · by_cases ht : numL (body l) = 1152921504606846976
        · rw [(par_top hf ht hn).2] at h; omega
        · rw [(par_pos hf (by omega) hn).1]
          refine ⟨in_mk (by omega) (by omega), ?_⟩
          rw [text_pos (by omega), Int.natAbs_natCast, e, body_pos hn]
      · rw [(par_neg hf (by omega) hn).1]
        have hb := body_neg hn
        have h45 : l = 45 :: l.tail := by
          cases l with
          | nil => simp [negB] at hn
          | cons c t =>
            rw [negB_cons] at hn
            have : c = 45 := by simpa using hn
            rw [this]; rfl
        have hpos : 0 < numL (body l) := by
          by_cases c : numL (body l) = 0
          · rw [c, decL_small (by omega)] at e
            have : body l = [48] := by rw [← e]; rfl
            rw [hb] at this
            rw [this] at h45
            exact absurd h45 hz
          · omega
        refine ⟨in_mk (by omega) (by omega), ?_⟩
        rw [text_neg (by omega), Int.natAbs_neg, Int.natAbs_natCast, e, hb]
        exact h45.symm
theorem parV_err {l : List UInt8} (h : parE l ≠ 0) : parV l = 0 := by
  cases hf : formB l
  · exact (par_form hf).1
  · by_cases hov : 1152921504606846976 < numL (body l)
    · exact (par_over hf hov).1
    · cases hn : negB l
      · by_cases ht : numL (body l) = 1152921504606846976
        · exact (par_top hf ht hn).1
        · exact absurd (par_pos hf (by omega) hn).2 h
      · exact absurd (par_neg hf (by omega) hn).2 h
end Go.Proofs.Ytpeleifkednmoaa.Fx
end
