/- Words stand apart: each one's bytes alone are that word. -/
import Derived.Test.YtpeleifkednmoaaMLexWordsMath
section
namespace Go.Proofs.Ytpeleifkednmoaa.Lx
open Go.ChangeShapes Go.WideShapes Go.ChangeAt Go.RowKit
set_option linter.unusedVariables false

theorem hasPrefix_iff (l p : Bs) : Lib.hasPrefix l p = true ↔ ∃ r, l = p ++ r := by
  unfold Lib.hasPrefix
  rw [List.isPrefixOf_iff_prefix]
  exact ⟨fun ⟨r, h⟩ => ⟨r, h.symm⟩, fun ⟨r, h⟩ => ⟨r, h.symm⟩⟩
/-- What the beginning of a text begins with the text begins with; and the other way round, if the beginning is long enough. -/
theorem prefix_take {l p : Bs} {z : Nat} (h : Lib.hasPrefix (l.take z) p = true) : Lib.hasPrefix l p = true := by
  obtain ⟨r, hr⟩ := (hasPrefix_iff _ _).1 h
  refine (hasPrefix_iff _ _).2 ⟨r ++ l.drop z, ?_⟩
  rw [← List.append_assoc, ← hr, List.take_append_drop]
theorem prefix_take' {l p : Bs} {z : Nat} (hz : p.length ≤ z) (h : Lib.hasPrefix l p = true) : Lib.hasPrefix (l.take z) p = true := by
  obtain ⟨r, hr⟩ := (hasPrefix_iff _ _).1 h
  refine (hasPrefix_iff _ _).2 ⟨r.take (z - p.length), ?_⟩
  rw [hr, List.take_append, List.take_of_length_le hz]
theorem markF_take {l : Bs} {z : Nat} : ∀ (r : List Int), (markF r l ≠ 0 → (markS (markF r l)).length ≤ z) → (∀ k ∈ r, k ≠ 0) → markF r (l.take z) = markF r l
  | [], _, _ => rfl
  | k :: r, hz, h0 => by
    rw [markF, markF]
    by_cases hp : Lib.hasPrefix l (markS k) = true
    · have hk : k ≠ 0 := h0 k (List.mem_cons_self ..)
      have hz' : (markS k).length ≤ z := by
        have := hz (by rw [markF, if_pos hp]; exact hk)
        rwa [markF, if_pos hp] at this
      rw [if_pos hp, if_pos (prefix_take' hz' hp)]
    · rw [if_neg hp, if_neg (fun h => hp (prefix_take h))]
      refine markF_take r (fun h => ?_) (fun k' hk' => h0 k' (List.mem_cons_of_mem _ hk'))
      have := hz (by rw [markF, if_neg hp]; exact h)
      rwa [markF, if_neg hp] at this
theorem kinds7_ne : ∀ k ∈ kinds7, k ≠ 0 := by decide
theorem isQuote_take {l : Bs} {z : Nat} (hz : 1 ≤ z) : isQuote (l.take z) = isQuote l := by
  cases l with
  | nil => simp
  | cons c r =>
    obtain ⟨z, rfl⟩ : ∃ k, z = k + 1 := ⟨z - 1, by omega⟩
    rw [List.take_succ_cons]
    unfold isQuote
    by_cases h : c = 34
    · subst h; rfl
    · split
      · next h' => injection h' with a b; exact absurd a h
      · split
        · next h' => injection h' with a b; exact absurd a h
        · rfl
theorem qEnd_take : ∀ (l : Bs) (n m : Nat), qEnd l = some n → n < m → qEnd (l.take m) = some n
  | [], _, _, h, _ => by cases h
  | c :: r, n, m, h, hm => by
    obtain ⟨m, rfl⟩ : ∃ k, m = k + 1 := ⟨m - 1, by omega⟩
    rw [List.take_succ_cons]
    by_cases h1 : c = 34
    · subst h1; rw [qEnd_quote] at h ⊢; exact h
    · by_cases h2 : c = 92
      · subst h2
        cases r with
        | nil => cases h
        | cons d r =>
          rw [qEnd_esc] at h ⊢
          cases e : qEnd r with
          | none => rw [show (d :: r).drop 1 = r from rfl, e] at h; cases h
          | some k =>
            rw [show (d :: r).drop 1 = r from rfl, e] at h
            have h : k + 2 = n := by simpa using h
            obtain ⟨m, rfl⟩ : ∃ k, m = k + 1 := ⟨m - 1, by omega⟩
            rw [List.take_succ_cons, show (d :: r.take m).drop 1 = r.take m from rfl, qEnd_take r k m e (by omega), ← h]
            rfl
      · rw [qEnd_one c r h1 h2] at h
        rw [qEnd_one c _ h1 h2]
        cases e : qEnd r with
        | none => rw [e] at h; cases h
        | some k =>
          rw [e] at h
          have h : k + 1 = n := by simpa using h
          rw [qEnd_take r k m e (by omega), ← h]
          rfl
theorem quotedN_take {l : Bs} (h : quotedN l ≠ 0) : quotedN (l.take (quotedN l)) = quotedN l := by
  have hle := quotedN_le h
  unfold quotedN at *
  cases e : qEnd (l.drop 1) with
  | none => rw [e] at h; exact absurd rfl h
  | some n =>
    simp only
    rw [List.drop_take, qEnd_take (l.drop 1) n _ e (by omega)]
theorem takeWhile_take {p : UInt8 → Bool} : ∀ (l : Bs) (m : Nat), (l.takeWhile p).length ≤ m → (l.take m).takeWhile p = l.takeWhile p
  | [], m, _ => by simp
  | c :: r, m, h => by
    rw [List.takeWhile_cons] at h ⊢
    by_cases hp : p c = true
    · rw [if_pos hp] at h ⊢
      obtain ⟨m, rfl⟩ : ∃ k, m = k + 1 := ⟨m - 1, by simp at h; omega⟩
      rw [List.take_succ_cons, List.takeWhile_cons, if_pos hp, takeWhile_take r m (by simpa using h)]
    · rw [if_neg hp]
      cases m with
      | zero => rfl
      | succ m => rw [List.take_succ_cons, List.takeWhile_cons, if_neg hp]
theorem runN_take (l : Bs) : runN (l.take (runN l)) = runN l := by
  cases l with
  | nil => rfl
  | cons c r =>
    show runN ((c :: r).take (1 + _)) = 1 + _
    rw [Nat.add_comm 1, List.take_succ_cons]
    show 1 + _ = _
    rw [takeWhile_take r _ (Nat.le_refl _), Nat.add_comm]
theorem spellN_take (l : Bs) : spellN (l.take (spellN l)) = spellN l := by
  cases l with
  | nil => rfl
  | cons c r =>
    by_cases h : lowerB c = true
    · have e : spellN (c :: r) = (r.takeWhile (fun x => lowerB x || digitB x)).length + 1 := by
        show (if lowerB c = true then _ else _) = _; rw [if_pos h, Nat.add_comm]
      rw [e, List.take_succ_cons]
      show (if lowerB c = true then _ else _) = _
      rw [if_pos h, takeWhile_take r _ (Nat.le_refl _), Nat.add_comm]
    · have e : spellN (c :: r) = 1 := by show (if lowerB c = true then _ else _) = _; rw [if_neg h]
      rw [e]
      show (if lowerB c = true then _ else _) = _
      rw [if_neg h]
theorem spelledN_take (l : Bs) : spelledN (l.take (spelledN l)) = spelledN l := by
  unfold spelledN
  rw [List.drop_take, show 2 + spellN (l.drop 2) - 2 = spellN (l.drop 2) by omega, spellN_take]
/-- A word's bytes alone begin with that word. -/
theorem scanR_take {l : Bs} (h0 : l ≠ []) (h : (scanR l).e = 0) : scanR (l.take (scanR l).z) = scanR l := by
  have hz := scanR_z h0 h
  obtain ⟨t, rfl⟩ := as_bytes l
  have hl : 0 < t.size := by rw [← len_of]; exact List.length_pos_iff.2 h0
  by_cases h1 : (markF kinds7 t.data.toList != 0) = true
  · have e : scanR t.data.toList = ⟨markF kinds7 t.data.toList, 0, [], (markS (markF kinds7 t.data.toList)).length, 0⟩ := by unfold scanR; rw [if_pos h1]
    rw [e]
    have hm := markF_take (l := t.data.toList) (z := (markS (markF kinds7 t.data.toList)).length) kinds7 (fun _ => Nat.le_refl _) kinds7_ne
    show scanR (t.data.toList.take (markS (markF kinds7 t.data.toList)).length) = _
    unfold scanR
    rw [hm, if_pos h1]
  · have h1' : markF kinds7 t.data.toList = 0 := by simpa using h1
    have hm : ∀ z, markF kinds7 (t.data.toList.take z) = 0 := fun z => by rw [markF_take kinds7 (fun h => absurd h1' h) kinds7_ne]; exact h1'
    have hmn : ∀ z, ¬ (markF kinds7 (t.data.toList.take z) != 0) = true := fun z => by rw [hm z]; decide
    by_cases h2 : isQuote t.data.toList = true
    · have e : scanR t.data.toList = strSc t.data.toList := by unfold scanR; rw [if_neg h1, if_pos h2]
      rw [e] at h hz ⊢
      by_cases h3 : quotedN t.data.toList = 0
      · unfold strSc at h; rw [if_pos h3] at h; exact absurd h (by decide)
      · have e2 : strSc t.data.toList = strU (quotedN t.data.toList) (unqL ((t.data.toList.drop 1).take (quotedN t.data.toList - 2))) := by unfold strSc; rw [if_neg h3]
        have hq := quotedN_le h3
        have e3 : (strSc t.data.toList).z = quotedN t.data.toList := by
          rw [e2] at h ⊢
          unfold strU at h ⊢
          split
          · rfl
          · next hn => rw [if_neg hn] at h; exact absurd h (by decide)
        rw [e3]
        have hqt := quotedN_take h3
        unfold scanR
        rw [if_neg (hmn _), if_pos (by rw [isQuote_take (by omega)]; exact h2), e2]
        unfold strSc
        rw [hqt, if_neg h3]
        congr 2
        rw [List.drop_take, List.take_take, Nat.min_eq_left (by omega)]
    · have hq : ∀ z, 1 ≤ z → ¬ isQuote (t.data.toList.take z) = true := fun z hz => by rw [isQuote_take hz]; exact h2
      by_cases h3 : (t.data.toList == [35, 92]) = true
      · unfold scanR at h; rw [if_neg h1, if_neg h2, if_pos h3] at h; exact absurd h (by decide)
      · by_cases h4 : Lib.hasPrefix t.data.toList [35, 92] = true
        · have e : scanR t.data.toList = charSc t.data.toList := by unfold scanR; rw [if_neg h1, if_neg h2, if_neg h3, if_pos h4]
          rw [e] at h hz ⊢
          have e3 : (charSc t.data.toList).z = spelledN t.data.toList := by
            unfold charSc at h ⊢
            split
            · rfl
            · next hn => rw [if_neg hn] at h; exact absurd h (by decide)
          rw [e3] at hz ⊢
          have h3z : 3 ≤ spelledN t.data.toList := by
            have h5 : 2 < t.size := by
              rcases Nat.lt_or_ge 2 t.size with hh | hh
              · exact hh
              · exfalso
                obtain ⟨r, hr⟩ := (hasPrefix_iff _ _).1 h4
                have hlen : t.data.toList.length = t.size := len_of t
                rw [hr, List.length_append] at hlen
                have hr0 : r = [] := List.eq_nil_of_length_eq_zero (by simp only [List.length_cons, List.length_nil] at hlen; omega)
                rw [hr, hr0] at h3
                exact h3 (by decide)
            exact (spelledN_le h5).1
          have hne : ¬ (t.data.toList.take (spelledN t.data.toList) == [35, 92]) = true := by
            intro hh
            have := congrArg List.length (beq_iff_eq.1 hh)
            rw [List.length_take] at this
            simp only [List.length_cons, List.length_nil] at this
            omega
          unfold scanR
          rw [if_neg (hmn _), if_neg (hq _ (by omega)), if_neg hne, if_pos (prefix_take' (by simp only [List.length_cons, List.length_nil]; omega) h4)]
          unfold charSc
          rw [spelledN_take, List.drop_take, List.take_take, Nat.min_self]
        · have e : scanR t.data.toList = runSc t.data.toList := by unfold scanR; rw [if_neg h1, if_neg h2, if_neg h3, if_neg h4]
          rw [e] at h hz ⊢
          have e3 : (runSc t.data.toList).z = runN t.data.toList := by
            unfold runSc at h ⊢
            split
            · rfl
            · next hn => rw [if_neg hn] at h; exact absurd h hn
          rw [e3] at hz ⊢
          have hnp : ¬ Lib.hasPrefix (t.data.toList.take (runN t.data.toList)) [35, 92] = true := fun hh => h4 (prefix_take hh)
          have hne : ¬ (t.data.toList.take (runN t.data.toList) == [35, 92]) = true := fun hh => hnp (by rw [beq_iff_eq.1 hh]; decide)
          unfold scanR
          rw [if_neg (hmn _), if_neg (hq _ (by omega)), if_neg hne, if_neg hnp]
          unfold runSc
          rw [runN_take, List.take_take, Nat.min_self]
end Go.Proofs.Ytpeleifkednmoaa.Lx
end
