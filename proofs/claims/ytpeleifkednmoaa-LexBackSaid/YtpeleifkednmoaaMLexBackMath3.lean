/- The text of several words is read as the words (layer 3): the mathematics. -/
import Derived.Test.YtpeleifkednmoaaMLexBackMath2
section
namespace Go.Proofs.Ytpeleifkednmoaa.Lx
open Go.ChangeShapes Go.WideShapes Go.ChangeAt Go.RowKit
set_option linter.unusedVariables false
set_option linter.unusedSimpArgs false

def GoodT (t : Tk) : Prop := Good (txt t) t.k t.n t.S
theorem good_gap {x : Bs} {k n : Int} {S : Bs} (h : Good x k n S) (m : Bs) : gapN (x ++ 32 :: m) = 0 ∧ isCom (x ++ 32 :: m) = false := by
  have hc : isCom (x ++ 32 :: m) = false := by rw [isCom_app (by decide)]; exact h.com
  refine ⟨?_, hc⟩
  obtain ⟨c, r, rfl⟩ : ∃ c r, x = c :: r := by
    cases x with
    | nil => exact absurd rfl h.ne
    | cons c r => exact ⟨c, r, rfl⟩
  have hg : (if blankB c = true then 1 else if (c == 59) = true then lineN (c :: r) else if isCom (c :: r) = true then comN (c :: r) else 0) = 0 := h.gap
  by_cases hb : blankB c = true
  · rw [if_pos hb] at hg; exact absurd hg (by decide)
  · rw [if_neg hb] at hg
    by_cases h59 : (c == 59) = true
    · rw [if_pos h59] at hg
      exfalso
      have h5 : c = 59 := beq_iff_eq.1 h59
      subst h5
      unfold lineN at hg
      rw [List.findIdx_cons] at hg
      simp at hg
    · show (if blankB c = true then 1 else if (c == 59) = true then lineN (c :: (r ++ 32 :: m)) else if isCom (c :: (r ++ 32 :: m)) = true then comN (c :: (r ++ 32 :: m)) else 0) = 0
      rw [if_neg hb, if_neg h59, if_neg (by rw [show c :: (r ++ 32 :: m) = (c :: r) ++ 32 :: m from rfl, hc]; decide)]
theorem joinL_two (t u : Tk) (r : List Tk) : joinL (t :: u :: r) = txt t ++ 32 :: joinL (u :: r) := by
  unfold joinL
  rw [List.map_cons, Lib.join_cons, List.map_cons, Lib.join_cons]
  simp [Lib.joinTail]
/-- Where the words' text begins nothing is passed over. -/
theorem join_gap {l : List Tk} (h : ∀ t ∈ l, GoodT t) : gapN (joinL l) = 0 ∧ isCom (joinL l) = false := by
  cases l with
  | nil => exact ⟨rfl, rfl⟩
  | cons t r =>
    have ht : GoodT t := h t (List.mem_cons_self ..)
    cases r with
    | nil => rw [joinL_one]; exact ⟨ht.gap, ht.com⟩
    | cons u r => rw [joinL_two]; exact good_gap ht _
theorem join_ok : ∀ {l : List Tk}, (∀ t ∈ l, GoodT t) → (joinL l).all okC = true
  | [], _ => rfl
  | [t], h => by rw [joinL_one]; exact (h t (List.mem_cons_self ..)).ok
  | t :: u :: r, h => by
    rw [joinL_two, List.all_append, List.all_cons, (h t (List.mem_cons_self ..)).ok, join_ok (fun x hx => h x (List.mem_cons_of_mem _ hx))]
    rfl
theorem words_from : ∀ (r : List Tk) (f : Nat) (L : Bs) (a : Nat) (acc : List Tk), (∀ t ∈ r, GoodT t) → r.length ≤ f → acc.length + r.length ≤ 4096 → L.drop a = joinL r → a ≤ L.length →
    ∃ Y, wordsF f L a 0 acc = ⟨acc ++ Y, 0, 0⟩ ∧ Y.map Tk.bare = r.map Tk.bare
  | [], f, L, a, acc, _, _, _, hd, ha => by
    have hl : L.length ≤ a := by
      have := congrArg List.length hd
      rw [List.length_drop, joinL_nil, List.length_nil] at this
      omega
    refine ⟨[], ?_, rfl⟩
    rw [List.append_nil]
    cases f with
    | zero => rw [wordsF]; exact if_pos rfl
    | succ f => rw [wordsF, if_neg (by omega)]; exact if_pos rfl
  | t :: r, 0, L, a, acc, _, hf, _, _, _ => by simp at hf
  | t :: r, f + 1, L, a, acc, h, hf, hacc, hd, ha => by
    have ht : GoodT t := h t (List.mem_cons_self ..)
    have hr : ∀ x ∈ r, GoodT x := fun x hx => h x (List.mem_cons_of_mem _ hx)
    have hne : 1 ≤ (txt t).length := List.length_pos_iff.2 ht.ne
    simp only [List.length_cons] at hf hacc
    have hscan : scanR (L.drop a) = ⟨t.k, t.n, t.S, (txt t).length, 0⟩ := by
      rw [hd]
      cases r with
      | nil => rw [joinL_one]; exact ht.scan
      | cons u r =>
        rw [joinL_two, scanR_app (by decide) ht.ne (by rw [ht.scan])]
        exact ht.scan
    have hlen := congrArg List.length hd
    rw [List.length_drop] at hlen
    have hpos : a < L.length := by
      have : 1 ≤ (joinL (t :: r)).length := by
        cases r with
        | nil => rw [joinL_one]; exact hne
        | cons u r => rw [joinL_two, List.length_append]; omega
      omega
    have hdz : L.drop (a + (txt t).length) = (joinL (t :: r)).drop (txt t).length := by rw [← hd, List.drop_drop]
    obtain ⟨hs1, hs2, hs3⟩ : a + (txt t).length + skipN (L.drop (a + (txt t).length)) ≤ L.length ∧ L.drop (a + (txt t).length + skipN (L.drop (a + (txt t).length))) = joinL r ∧ skipE (L.drop (a + (txt t).length)) = 0 := by
      cases r with
      | nil =>
        rw [joinL_one] at hlen hdz
        rw [List.drop_length] at hdz
        rw [hdz]
        refine ⟨?_, ?_, rfl⟩
        · show a + (txt t).length + 0 ≤ _; omega
        · show L.drop (a + (txt t).length) = joinL []
          rw [hdz]; rfl
      | cons u r =>
        rw [joinL_two] at hlen hdz
        rw [List.drop_left] at hdz
        obtain ⟨g1, g2⟩ := join_gap hr
        have gap1 : gapN (32 :: joinL (u :: r)) = 1 := by
          show (if blankB 32 = true then 1 else if ((32 : UInt8) == 59) = true then lineN (32 :: joinL (u :: r)) else if isCom (32 :: joinL (u :: r)) = true then comN (32 :: joinL (u :: r)) else 0) = 1
          exact if_pos (by decide)
        have hsk : skipN (32 :: joinL (u :: r)) = 1 := by
          rw [skipN_gap (by rw [gap1]; decide), gap1]
          show 1 + skipN (joinL (u :: r)) = 1
          rw [skipN_zero g1]
        have hse : skipE (32 :: joinL (u :: r)) = 0 := by
          rw [skipE_gap (by rw [gap1]; decide), gap1]
          show skipE (joinL (u :: r)) = 0
          rw [skipE_zero g1, if_neg (by rw [g2]; decide)]
        rw [hdz, hsk, hse]
        rw [List.length_append, List.length_cons] at hlen
        refine ⟨by omega, ?_, rfl⟩
        rw [← List.drop_drop, hdz]; rfl
    rw [wordsF, if_pos ⟨hpos, rfl⟩, if_neg (by omega), hscan, if_pos rfl]
    simp only
    rw [hs3]
    obtain ⟨Y, hY, hb⟩ := words_from r f L _ (acc ++ [(Sc.mk t.k t.n t.S (txt t).length 0).tk a]) hr (by omega) (by rw [List.length_append]; simp only [List.length_cons, List.length_nil]; omega) hs2 hs1
    refine ⟨(Sc.mk t.k t.n t.S (txt t).length 0).tk a :: Y, ?_, ?_⟩
    · rw [hY, List.append_assoc]; rfl
    · rw [List.map_cons, List.map_cons, hb]; rfl
/-- What is joined is read as it was. -/
theorem words_join {l : List Tk} {J : Bs} (h : joinTk l = (J, 0)) : ∃ Y, wordsR J = ⟨Y, 0, 0⟩ ∧ Y.map Tk.bare = l.map Tk.bare := by
  unfold joinTk at h
  by_cases h1 : 4096 < l.length
  · rw [if_pos h1] at h; injection h with _ h; exact absurd h (by decide)
  · rw [if_neg h1] at h
    by_cases h2 : firstE l ≠ 0
    · rw [if_pos h2] at h; injection h with _ h; exact absurd h h2
    · rw [if_neg h2] at h
      by_cases h3 : 16384 < (joinL l).length
      · rw [if_pos h3] at h; injection h with _ h; exact absurd h (by decide)
      · rw [if_neg h3] at h
        injection h with h _
        subst h
        have hg : ∀ t ∈ l, GoodT t := by
          have h0 : firstE l = 0 := by omega
          clear h1 h2 h3
          induction l with
          | nil => intro t ht; cases ht
          | cons x r ih =>
            intro t ht
            rw [firstE] at h0
            by_cases hx : er x = 0
            · rw [if_pos hx] at h0
              rcases List.mem_cons.1 ht with rfl | ht
              · exact txt_good hx
              · exact ih h0 t ht
            · rw [if_neg hx] at h0; exact absurd h0 hx
        obtain ⟨g1, g2⟩ := join_gap hg
        obtain ⟨Y, hY, hb⟩ := words_from l ((joinL l).length + 1) (joinL l) 0 [] hg (by
          have : ∀ {l : List Tk}, (∀ t ∈ l, GoodT t) → l.length ≤ (joinL l).length := by
            intro l
            induction l with
            | nil => intro _; exact Nat.le_refl _
            | cons t r ih =>
              intro h
              have hr := ih (fun x hx => h x (List.mem_cons_of_mem _ hx))
              have ht : 1 ≤ (txt t).length := List.length_pos_iff.2 (h t (List.mem_cons_self ..)).ne
              cases r with
              | nil => rw [joinL_one]; exact ht
              | cons u r => rw [joinL_two, List.length_append]; simp only [List.length_cons] at hr ⊢; omega
          have := this hg
          omega) (by simp only [List.length_nil]; omega) rfl (Nat.zero_le _)
        refine ⟨Y, ?_, hb⟩
        unfold wordsR
        rw [if_neg (by omega), nightI_no _ (join_ok hg), if_neg (by decide), skipN_zero g1, skipE_zero g1, if_neg (by rw [g2]; decide)]
        exact hY
/-- Words that were read have a text, or a too long one. -/
theorem join_read {s : Bs} {Y : List Tk} {p : Int} (h : wordsR s = ⟨Y, p, 0⟩) : ((joinTk Y).2 = 0 ∨ (joinTk Y).2 = 3) ∧ ∀ t ∈ Y, TkW t := by
  obtain ⟨h1, h2, h3⟩ := wordsR_ok h
  have he := apart_er h2 h1 h3
  refine ⟨?_, fun t ht => (he t ht).2⟩
  have h0 := firstE_no (fun t ht => (he t ht).1)
  unfold joinTk
  rw [h0]
  by_cases h4 : 4096 < Y.length
  · rw [if_pos h4]; exact .inr rfl
  · rw [if_neg h4, if_neg (by simp)]
    by_cases h5 : 16384 < (joinL Y).length
    · rw [if_pos h5]; exact .inr rfl
    · rw [if_neg h5]; exact .inl rfl
/-- Where a text has a fault there are no words, and the fault lies within it. -/
theorem words_bad {s : Bs} {Y : List Tk} {p e : Int} (h : wordsR s = ⟨Y, p, e⟩) (he : e ≠ 0) : Y = [] ∧ 0 ≤ p ∧ p ≤ (s.length : Int) := by
  have hF : ∀ (f : Nat) (a : Nat) (e' : Int) (acc : List Tk), a ≤ s.length → wordsF f s a e' acc = ⟨Y, p, e⟩ → Y = [] ∧ 0 ≤ p ∧ p ≤ (s.length : Int) := by
    have hfin : ∀ (a : Nat) (e' : Int) (acc : List Tk), a ≤ s.length → finW a e' acc = ⟨Y, p, e⟩ → Y = [] ∧ 0 ≤ p ∧ p ≤ (s.length : Int) := by
      intro a e' acc ha h
      unfold finW at h
      by_cases h0 : e' = 0
      · rw [if_pos h0] at h; injection h with _ _ h; exact absurd h.symm he
      · rw [if_neg h0] at h
        injection h with h1 h2 h3
        exact ⟨h1.symm, by omega, by omega⟩
    intro f
    induction f with
    | zero => intro a e' acc ha h; rw [wordsF] at h; exact hfin a e' acc ha h
    | succ f ih =>
      intro a e' acc ha h
      rw [wordsF] at h
      by_cases hc : a < s.length ∧ e' = 0
      · rw [if_pos hc] at h
        by_cases h4 : acc.length = 4096
        · rw [if_pos h4] at h; injection h with h1 h2 h3; exact ⟨h1.symm, by omega, by omega⟩
        · rw [if_neg h4] at h
          by_cases hs : (scanR (s.drop a)).e = 0
          · rw [if_pos hs] at h
            refine ih _ _ _ ?_ h
            have hz := scanR_z (drop_ne hc.1) hs
            rw [List.length_drop] at hz
            have := skipF_le (s.drop (a + (scanR (s.drop a)).z)).length (s.drop (a + (scanR (s.drop a)).z))
            unfold skipN
            rw [List.length_drop] at this ⊢
            omega
          · rw [if_neg hs] at h; injection h with h1 h2 h3; exact ⟨h1.symm, by omega, by omega⟩
      · rw [if_neg hc] at h; exact hfin a e' acc ha h
  unfold wordsR at h
  by_cases h1 : (16384 : Int) < (s.length : Int)
  · rw [if_pos h1] at h; injection h with h1 h2 h3; exact ⟨h1.symm, by omega, by omega⟩
  · rw [if_neg h1] at h
    by_cases h2 : 0 ≤ nightI s
    · rw [if_pos h2] at h
      injection h with h3 h4 h5
      refine ⟨h3.symm, by omega, ?_⟩
      rw [← h4]
      unfold nightI
      split
      · omega
      · have := List.findIdx_le_length (xs := s) (p := fun c => !okC c); omega
    · rw [if_neg h2] at h
      exact hF _ _ _ _ (skipF_le _ _) h
theorem wordsF_fewB : ∀ (f : Nat) (l : Bs) (a : Nat) (e : Int) (acc : List Tk), acc.length ≤ 4096 → (wordsF f l a e acc).toks.length ≤ 4096
  | 0, l, a, e, acc, h => by rw [wordsF, finW]; split; exact h; exact Nat.zero_le _
  | f + 1, l, a, e, acc, h => by
    rw [wordsF]
    by_cases hc : a < l.length ∧ e = 0
    · rw [if_pos hc]
      by_cases hf : acc.length = 4096
      · rw [if_pos hf]; exact Nat.zero_le _
      · rw [if_neg hf]
        by_cases he : (scanR (l.drop a)).e = 0
        · rw [if_pos he]; exact wordsF_fewB f l _ _ _ (by rw [List.length_append]; show acc.length + 1 ≤ 4096; omega)
        · rw [if_neg he]; exact Nat.zero_le _
    · rw [if_neg hc, finW]; split; exact h; exact Nat.zero_le _
theorem words_fewB (l : Bs) : (wordsR l).toks.length ≤ 4096 := by
  unfold wordsR
  split
  · exact Nat.zero_le _
  · split
    · exact Nat.zero_le _
    · exact wordsF_fewB _ _ _ _ _ (Nat.zero_le _)
end Go.Proofs.Ytpeleifkednmoaa.Lx
end
