/- Words stand one behind the other; each one's bytes alone are that word. -/
import Derived.Test.YtpeleifkednmoaaMLexApartMath
section
namespace Go.Proofs.Ytpeleifkednmoaa.Lx
open Go.ChangeShapes Go.WideShapes Go.ChangeAt Go.RowKit
set_option linter.unusedVariables false

theorem skipN_stop : ∀ (f : Nat) (l : Bs), l.length ≤ f → gapN (l.drop (skipN l)) = 0
  | 0, l, h => by
    have : l = [] := List.eq_nil_of_length_eq_zero (by omega)
    subst this; rfl
  | f + 1, l, h => by
    by_cases hg : gapN l = 0
    · rw [skipN_zero hg, List.drop_zero]; exact hg
    · rw [skipN_gap hg, ← List.drop_drop]
      refine skipN_stop f _ ?_
      rw [List.length_drop]; omega
theorem skipE_com {l : Bs} (h : skipE l = 0) : isCom (l.drop (skipN l)) = false := by
  unfold skipE at h
  cases hc : isCom (l.drop (skipN l))
  · rfl
  · rw [hc] at h; exact absurd h (by decide)
/-- Words one behind the other, each at a place where nothing is passed over. -/
def Apart (l : Bs) : Nat → List Tk → Prop
  | _, [] => True
  | p, t :: r => ∃ a : Nat, p ≤ a ∧ a < l.length ∧ gapN (l.drop a) = 0 ∧ isCom (l.drop a) = false ∧ (scanR (l.drop a)).e = 0 ∧ t = (scanR (l.drop a)).tk a ∧ Apart l (a + (scanR (l.drop a)).z) r
theorem Apart.up {l : Bs} {p q : Nat} (h : q ≤ p) : ∀ {r : List Tk}, Apart l p r → Apart l q r
  | [], _ => trivial
  | _ :: _, ⟨a, h1, h2⟩ => ⟨a, Nat.le_trans h h1, h2⟩
theorem wordsF_apart : ∀ (f : Nat) (l : Bs) (a : Nat) (e : Int) (acc toks : List Tk) (p : Int), l.length - a < f → gapN (l.drop a) = 0 → (e = 0 → isCom (l.drop a) = false) → wordsF f l a e acc = ⟨toks, p, 0⟩ → ∃ r, toks = acc ++ r ∧ Apart l a r
  | 0, _, _, _, _, _, _, h, _, _, _ => by omega
  | f + 1, l, a, e, acc, toks, p, hf, hg, hc, h => by
    rw [wordsF] at h
    by_cases hcc : a < l.length ∧ e = 0
    · rw [if_pos hcc] at h
      by_cases hfull : acc.length = 4096
      · rw [if_pos hfull] at h; injection h with _ _ h; exact absurd h (by decide)
      · rw [if_neg hfull] at h
        by_cases he : (scanR (l.drop a)).e = 0
        · rw [if_pos he] at h
          have hz := scanR_z (drop_ne hcc.1) he
          rw [List.length_drop] at hz
          obtain ⟨r, hr, ha⟩ := wordsF_apart f l _ _ _ toks p (by omega) (by rw [← List.drop_drop]; exact skipN_stop _ _ (Nat.le_refl _)) (fun h => by rw [← List.drop_drop]; exact skipE_com h) h
          refine ⟨(scanR (l.drop a)).tk a :: r, by rw [hr, List.append_assoc]; rfl, a, Nat.le_refl _, hcc.1, hg, hc hcc.2, he, rfl, ha.up (Nat.le_add_right _ _)⟩
        · rw [if_neg he] at h; injection h with _ _ h; exact absurd h he
    · rw [if_neg hcc, finW] at h
      by_cases he : e = 0
      · rw [if_pos he] at h
        injection h with h _ _
        exact ⟨[], by rw [List.append_nil]; exact h.symm, trivial⟩
      · rw [if_neg he] at h; injection h with _ _ h; exact absurd h he
theorem nightI_all {l : Bs} (h : ¬ 0 ≤ nightI l) : l.all okC = true := by
  unfold nightI at h
  by_cases ha : l.all okC = true
  · exact ha
  · rw [if_neg ha] at h; omega
/-- What a text must be that has words. -/
theorem wordsR_ok {l : Bs} {toks : List Tk} {p : Int} (h : wordsR l = ⟨toks, p, 0⟩) : l.length ≤ 16384 ∧ l.all okC = true ∧ Apart l 0 toks := by
  unfold wordsR at h
  by_cases h1 : (16384 : Int) < (l.length : Int)
  · rw [if_pos h1] at h; injection h with _ _ h; exact absurd h (by decide)
  · rw [if_neg h1] at h
    by_cases h2 : 0 ≤ nightI l
    · rw [if_pos h2] at h; injection h with _ _ h; exact absurd h (by decide)
    · rw [if_neg h2] at h
      obtain ⟨r, hr, ha⟩ := wordsF_apart _ l _ _ _ _ _ (by omega) (skipN_stop _ _ (Nat.le_refl _)) (fun h => skipE_com h) h
      refine ⟨by omega, nightI_all h2, ?_⟩
      rw [hr, List.nil_append]
      exact ha.up (Nat.zero_le _)
theorem words_one {m : Bs} (hlen : m.length ≤ 16384) (hn : m.all okC = true) (hne : m ≠ []) (hg : gapN m = 0) (hc : isCom m = false) (he : (scanR m).e = 0) (hz : (scanR m).z = m.length) : wordsR m = ⟨[(scanR m).tk 0], 0, 0⟩ := by
  have h0 : 0 < m.length := List.length_pos_iff.2 hne
  unfold wordsR
  rw [if_neg (by omega), nightI_no m hn, if_neg (by decide), skipN_zero hg, skipE_zero hg, hc]
  show wordsF (m.length + 1) m 0 0 [] = _
  have hs := wordsF_step (l := m) (a := 0) h0 [] (by decide) (by rw [List.drop_zero]; exact he)
  rw [Nat.sub_zero] at hs
  rw [hs, List.drop_zero, hz]
  have hd : m.drop (0 + m.length) = [] := by rw [Nat.zero_add, List.drop_length]
  rw [hd]
  show wordsF _ m (0 + m.length + 0) 0 _ = _
  rw [wordsF_end (by omega)]
  rfl
theorem gapN_take {l : Bs} {z : Nat} (hz : 1 ≤ z) (h0 : l ≠ []) (hg : gapN l = 0) (hc : isCom l = false) : gapN (l.take z) = 0 ∧ isCom (l.take z) = false := by
  cases l with
  | nil => exact absurd rfl h0
  | cons c r =>
    have hcc : isCom ((c :: r).take z) = false := by
      cases hh : isCom ((c :: r).take z)
      · rfl
      · rw [← prefix_com] at hh hc
        rw [prefix_take hh] at hc
        cases hc
    refine ⟨?_, hcc⟩
    obtain ⟨z, rfl⟩ : ∃ k, z = k + 1 := ⟨z - 1, by omega⟩
    rw [List.take_succ_cons] at hcc ⊢
    cases hb : blankB c
    · by_cases h59 : c = 59
      · rw [gapN_line hb h59] at hg
        have := lineN_pos (c := c) (r := r) (by rw [h59]; decide)
        omega
      · exact gapN_word hb h59 hcc
    · rw [gapN_blank hb] at hg; exact absurd hg (by decide)
/-- One word alone. -/
theorem apart_one {l : Bs} {a : Nat} (hlen : l.length ≤ 16384) (hn : l.all okC = true) (ha : a < l.length) (hg : gapN (l.drop a) = 0) (hc : isCom (l.drop a) = false) (he : (scanR (l.drop a)).e = 0) :
    wordsR ((l.drop a).take (scanR (l.drop a)).z) = ⟨[(scanR (l.drop a)).tk 0], 0, 0⟩ := by
  have h0 := drop_ne ha
  have hz := scanR_z h0 he
  have ht := scanR_take h0 he
  obtain ⟨g1, g2⟩ := gapN_take hz.1 h0 hg hc
  have hlt : ((l.drop a).take (scanR (l.drop a)).z).length = (scanR (l.drop a)).z := by rw [List.length_take]; omega
  have hr := words_one (m := (l.drop a).take (scanR (l.drop a)).z) (by rw [hlt]; rw [List.length_drop] at hz; omega) (by
    rw [List.all_eq_true] at hn ⊢
    intro x hx
    exact hn x (List.mem_of_mem_drop (List.mem_of_mem_take hx))) (by
    intro e
    rw [e] at hlt
    simp at hlt
    omega) g1 g2 (by rw [ht]; exact he) (by rw [ht, hlt])
  rw [hr, ht]
end Go.Proofs.Ytpeleifkednmoaa.Lx
end
