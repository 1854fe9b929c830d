/- What stands behind a word, set apart by a blank, changes nothing of it. -/
import Derived.Test.YtpeleifkednmoaaMLexApartMath2
section
namespace Go.Proofs.Ytpeleifkednmoaa.Lx
open Go.ChangeShapes Go.WideShapes Go.ChangeAt Go.RowKit
set_option linter.unusedVariables false

theorem hasPrefix_app {d : UInt8} {m : Bs} : ∀ (p l : Bs), (∀ y ∈ p, y ≠ d) → Lib.hasPrefix (l ++ d :: m) p = Lib.hasPrefix l p
  | [], l, _ => by simp [Lib.hasPrefix]
  | x :: p, [], h => by
    show ((x == d) && _) = false
    rw [beq_eq_false_iff_ne.2 (h x (List.mem_cons_self ..))]; rfl
  | x :: p, c :: l, h => by
    show ((x == c) && Lib.hasPrefix (l ++ d :: m) p) = ((x == c) && Lib.hasPrefix l p)
    rw [hasPrefix_app p l (fun y hy => h y (List.mem_cons_of_mem _ hy))]
theorem blank_of {d : UInt8} (hd : blankB d = true) : d = 32 ∨ d = 9 ∨ d = 10 ∨ d = 13 := by
  unfold blankB at hd
  simp only [Bool.or_eq_true] at hd
  rcases hd with ((h | h) | h) | h
  · exact .inl (u8_is (n := 32) (by decide) h)
  · exact .inr (.inl (u8_is (n := 9) (by decide) h))
  · exact .inr (.inr (.inl (u8_is (n := 10) (by decide) h)))
  · exact .inr (.inr (.inr (u8_is (n := 13) (by decide) h)))
theorem blank_ne {d y : UInt8} (hd : blankB d = true) (hy : blankB y = false) : y ≠ d := fun e => by rw [e, hd] at hy; cases hy
theorem markS_ne {d : UInt8} (hd : blankB d = true) : ∀ k ∈ kinds7, ∀ y ∈ markS k, y ≠ d := by
  have h : ∀ k ∈ kinds7, ∀ y ∈ markS k, blankB y = false := by decide
  exact fun k hk y hy => blank_ne hd (h k hk y hy)
theorem markF_app {d : UInt8} (hd : blankB d = true) {m l : Bs} : ∀ (r : List Int), (∀ k ∈ r, k ∈ kinds7) → markF r (l ++ d :: m) = markF r l
  | [], _ => rfl
  | k :: r, h => by
    rw [markF, markF, hasPrefix_app _ _ (markS_ne hd k (h k (List.mem_cons_self ..))), markF_app hd r (fun k' hk' => h k' (List.mem_cons_of_mem _ hk'))]
theorem qEnd_app (m : Bs) : ∀ (l : Bs) (n : Nat), qEnd l = some n → qEnd (l ++ m) = some n
  | [], _, h => by cases h
  | c :: r, n, h => by
    by_cases h1 : c = 34
    · subst h1; rw [List.cons_append, qEnd_quote]; rw [qEnd_quote] at h; exact h
    · by_cases h2 : c = 92
      · subst h2
        cases r with
        | nil => cases h
        | cons d r =>
          rw [qEnd_esc] at h
          rw [List.cons_append, List.cons_append, qEnd_esc]
          cases e : qEnd r with
          | none => rw [show (d :: r).drop 1 = r from rfl, e] at h; cases h
          | some k =>
            rw [show (d :: r).drop 1 = r from rfl, e] at h
            rw [show (d :: (r ++ m)).drop 1 = r ++ m from rfl, qEnd_app m r k e]
            exact h
      · rw [qEnd_one c r h1 h2] at h
        rw [List.cons_append, qEnd_one c _ h1 h2]
        cases e : qEnd r with
        | none => rw [e] at h; cases h
        | some k => rw [e] at h; rw [qEnd_app m r k e]; exact h
theorem quotedN_app (m : Bs) {l : Bs} (h : quotedN l ≠ 0) : quotedN (l ++ m) = quotedN l := by
  cases l with
  | nil => exact absurd rfl h
  | cons c r =>
    unfold quotedN at *
    rw [show (c :: r).drop 1 = r from rfl] at *
    rw [show (c :: r ++ m).drop 1 = r ++ m from rfl]
    cases e : qEnd r with
    | none => rw [e] at h; exact absurd rfl h
    | some n => rw [qEnd_app m r n e]
theorem takeWhile_app {p : UInt8 → Bool} {d : UInt8} {m : Bs} (hd : p d = false) : ∀ (l : Bs), (l ++ d :: m).takeWhile p = l.takeWhile p
  | [] => by rw [List.nil_append, List.takeWhile_cons, hd]; rfl
  | c :: r => by rw [List.cons_append, List.takeWhile_cons, List.takeWhile_cons, takeWhile_app hd r]
theorem runN_app {d : UInt8} {m l : Bs} (hd : blankB d = true) (h0 : l ≠ []) : runN (l ++ d :: m) = runN l := by
  cases l with
  | nil => exact absurd rfl h0
  | cons c r =>
    show 1 + (List.takeWhile (fun x => !delimB x) (r ++ d :: m)).length = 1 + (List.takeWhile (fun x => !delimB x) r).length
    rw [takeWhile_app (p := fun x => !delimB x) (by show (!delimB d) = false; unfold delimB; rw [hd]; rfl)]
theorem spellN_app {d : UInt8} {m l : Bs} (hd : blankB d = true) (h0 : l ≠ []) : spellN (l ++ d :: m) = spellN l := by
  have hp : (lowerB d || digitB d) = false := by rcases blank_of hd with rfl | rfl | rfl | rfl <;> decide
  cases l with
  | nil => exact absurd rfl h0
  | cons c r =>
    rw [List.cons_append]
    show (if lowerB c = true then 1 + (List.takeWhile (fun x => lowerB x || digitB x) (r ++ d :: m)).length else 1) = (if lowerB c = true then 1 + (List.takeWhile (fun x => lowerB x || digitB x) r).length else 1)
    rw [takeWhile_app hp]
theorem isQuote_app {l m : Bs} (h0 : l ≠ []) : isQuote (l ++ m) = isQuote l := by
  cases l with
  | nil => exact absurd rfl h0
  | cons c r =>
    unfold isQuote
    by_cases h : c = 34
    · subst h; rfl
    · split
      · next h' => injection h' with a b; exact absurd a h
      · split
        · next h' => injection h' with a b; exact absurd a h
        · rfl
/-- A word is what it is whatever stands behind the next blank. -/
theorem scanR_app {d : UInt8} {m l : Bs} (hd : blankB d = true) (h0 : l ≠ []) (h : (scanR l).e = 0) : scanR (l ++ d :: m) = scanR l := by
  have hz := scanR_z h0 h
  have hmk := markF_app (m := m) (l := l) hd kinds7 (fun k hk => hk)
  have hpre : Lib.hasPrefix (l ++ d :: m) [35, 92] = Lib.hasPrefix l [35, 92] := hasPrefix_app _ _ (fun y hy => blank_ne hd (by revert y; decide))
  by_cases h1 : (markF kinds7 l != 0) = true
  · unfold scanR; rw [hmk, if_pos h1, if_pos h1]
  · by_cases h2 : isQuote l = true
    · have e : scanR l = strSc l := by unfold scanR; rw [if_neg h1, if_pos h2]
      have e' : scanR (l ++ d :: m) = strSc (l ++ d :: m) := by unfold scanR; rw [hmk, if_neg h1, isQuote_app h0, if_pos h2]
      rw [e] at h hz
      rw [e, e']
      by_cases h3 : quotedN l = 0
      · unfold strSc at h; rw [if_pos h3] at h; exact absurd h (by decide)
      · have hq := quotedN_le h3
        unfold strSc
        rw [quotedN_app _ h3, if_neg h3, if_neg h3]
        congr 2
        rw [List.drop_append_of_le_length (by omega), List.take_append_of_le_length (by rw [List.length_drop]; omega)]
    · by_cases h3 : (l == [35, 92]) = true
      · unfold scanR at h; rw [if_neg h1, if_neg h2, if_pos h3] at h; exact absurd h (by decide)
      · by_cases h4 : Lib.hasPrefix l [35, 92] = true
        · have hne : ¬ (l ++ d :: m == [35, 92]) = true := by
            intro hh
            have hl := congrArg List.length (beq_iff_eq.1 hh)
            have h5 := prefix_len _ _ h4
            rw [List.length_append, List.length_cons] at hl
            simp only [List.length_cons, List.length_nil] at hl h5
            omega
          have e : scanR l = charSc l := by unfold scanR; rw [if_neg h1, if_neg h2, if_neg h3, if_pos h4]
          have e' : scanR (l ++ d :: m) = charSc (l ++ d :: m) := by unfold scanR; rw [hmk, if_neg h1, isQuote_app h0, if_neg h2, if_neg hne, hpre, if_pos h4]
          obtain ⟨r, hr⟩ := (hasPrefix_iff _ _).1 h4
          have hr0 : r ≠ [] := by intro e; rw [hr, e] at h3; exact h3 (by decide)
          have hsp : spelledN (l ++ d :: m) = spelledN l := by
            unfold spelledN
            rw [hr, List.append_assoc]
            show 2 + spellN (r ++ d :: m) = 2 + spellN r
            rw [spellN_app hd hr0]
          have hle : spelledN l - 2 ≤ r.length := by
            have : spellN r ≤ r.length := by
              cases r with
              | nil => exact absurd rfl hr0
              | cons c r' =>
                show (if lowerB c = true then 1 + _ else 1) ≤ _
                have := (List.takeWhile_prefix (l := r') (fun x => lowerB x || digitB x)).length_le
                simp only [List.length_cons]
                split <;> omega
            unfold spelledN
            rw [hr]
            show 2 + spellN r - 2 ≤ _
            omega
          have hin : ((l ++ d :: m).drop 2).take (spelledN l - 2) = (l.drop 2).take (spelledN l - 2) := by
            generalize spelledN l = q at *
            rw [hr, List.append_assoc]
            show (r ++ d :: m).take (q - 2) = r.take (q - 2)
            rw [List.take_append_of_le_length hle]
          rw [e, e']
          unfold charSc
          rw [hsp, hin]
        · have hne : ¬ (l ++ d :: m == [35, 92]) = true := fun hh => h4 (by rw [← hpre, beq_iff_eq.1 hh]; decide)
          have e : scanR l = runSc l := by unfold scanR; rw [if_neg h1, if_neg h2, if_neg h3, if_neg h4]
          have e' : scanR (l ++ d :: m) = runSc (l ++ d :: m) := by unfold scanR; rw [hmk, if_neg h1, isQuote_app h0, if_neg h2, if_neg hne, hpre, if_neg h4]
          rw [e, e']
          have hrl : runN l ≤ l.length := by
            cases l with
            | nil => exact absurd rfl h0
            | cons c r =>
              show 1 + _ ≤ _
              have := (List.takeWhile_prefix (l := r) (fun x => !delimB x)).length_le
              simp only [List.length_cons]
              omega
          unfold runSc
          rw [runN_app hd h0, List.take_append_of_le_length hrl]
/- What is passed over. -/
theorem comR_app (m : Bs) : ∀ (l : Bs) (o n : Nat), comR o l = some n → comR o (l ++ m) = some n
  | l, 0, n, h => by rw [show comR 0 (l ++ m) = some 0 by simp [comR]]; rw [← h]; simp [comR]
  | [], _ + 1, n, h => by simp [comR] at h
  | [_], _ + 1, n, h => by simp [comR] at h
  | c :: d :: r, o + 1, n, h => by
    rw [List.cons_append, List.cons_append]
    by_cases h1 : c = 35 ∧ d = 124
    · obtain ⟨rfl, rfl⟩ := h1
      rw [comR_open] at h ⊢
      cases e : comR (o + 2) r with
      | none => rw [e] at h; cases h
      | some k => rw [e] at h; rw [comR_app m r _ _ e]; exact h
    · by_cases h2 : c = 124 ∧ d = 35
      · obtain ⟨rfl, rfl⟩ := h2
        rw [comR_shut] at h ⊢
        cases e : comR o r with
        | none => rw [e] at h; cases h
        | some k => rw [e] at h; rw [comR_app m r _ _ e]; exact h
      · rw [comR_one o c d _ h1 h2] at h ⊢
        cases e : comR (o + 1) (d :: r) with
        | none => rw [e] at h; cases h
        | some k => rw [e] at h; rw [← List.cons_append, comR_app m (d :: r) _ _ e]; exact h
theorem isCom_app {d : UInt8} {m l : Bs} (hd : blankB d = true) : isCom (l ++ d :: m) = isCom l := by
  rw [← prefix_com, ← prefix_com]
  exact hasPrefix_app _ _ (fun y hy => blank_ne hd (by revert y; decide))
theorem comN_app (m : Bs) {l : Bs} (hc : isCom l = true) (h : comN l ≠ 0) : comN (l ++ m) = comN l := by
  obtain ⟨r, rfl⟩ := isCom_iff.1 hc
  unfold comN at *
  rw [show (35 :: 124 :: r).drop 2 = r from rfl] at *
  rw [show ((35 :: 124 :: r) ++ m).drop 2 = r ++ m from rfl]
  cases e : comR 1 r with
  | none => rw [e] at h; exact absurd rfl h
  | some n => rw [comR_app m r 1 n e]
theorem lineN_app (m : Bs) : ∀ l : Bs, lineN (l ++ 10 :: m) = lineN l
  | [] => rfl
  | c :: r => by
    unfold lineN
    rw [List.cons_append, List.findIdx_cons, List.findIdx_cons]
    have := lineN_app m r
    unfold lineN at this
    rw [this]
theorem gapN_app {m l : Bs} (h0 : l ≠ []) (h : gapN l ≠ 0 ∨ isCom l = false) : gapN (l ++ 10 :: m) = gapN l := by
  cases l with
  | nil => exact absurd rfl h0
  | cons c r =>
    have hic := isCom_app (m := m) (l := c :: r) (d := 10) (by decide)
    cases hb : blankB c
    · by_cases h59 : c = 59
      · rw [gapN_line hb h59, List.cons_append, gapN_line hb h59, ← List.cons_append, lineN_app]
      · cases hc : isCom (c :: r)
        · rw [gapN_word hb h59 hc, List.cons_append, gapN_word hb h59 (by rw [← List.cons_append, hic]; exact hc)]
        · rcases h with h | h
          · rw [gapN_com hb h59 hc] at h ⊢
            rw [List.cons_append, gapN_com hb h59 (by rw [← List.cons_append, hic]; exact hc), ← List.cons_append, comN_app _ hc h]
          · rw [hc] at h; cases h
    · rw [gapN_blank hb, List.cons_append, gapN_blank hb]
theorem skipN_app (m : Bs) : ∀ (f : Nat) (l : Bs), l.length ≤ f → skipE l = 0 →
    skipN (l ++ 10 :: m) = skipN l + (if skipN l = l.length then skipN (10 :: m) else 0) ∧ skipE (l ++ 10 :: m) = (if skipN l = l.length then skipE (10 :: m) else 0)
  | f, [], _, _ => ⟨by rw [show skipN [] = 0 from rfl]; simp, by rw [show skipN [] = 0 from rfl]; rfl⟩
  | 0, c :: r, h, _ => by simp at h
  | f + 1, c :: r, h, hE => by
    by_cases hg : gapN (c :: r) = 0
    · have hc : isCom (c :: r) = false := by
        rw [skipE_zero hg] at hE
        cases hc : isCom (c :: r)
        · rfl
        · rw [hc] at hE; exact absurd hE (by decide)
      have hga := gapN_app (m := m) (l := c :: r) (by simp) (.inr hc)
      rw [hg] at hga
      rw [skipN_zero hg, skipN_zero hga, skipE_zero hga, isCom_app (by decide), hc, if_neg (by simp), if_neg (by simp)]
      exact ⟨rfl, rfl⟩
    · have hga := gapN_app (m := m) (l := c :: r) (by simp) (.inl hg)
      have hgl := gapN_le (c :: r)
      have ih := skipN_app m f ((c :: r).drop (gapN (c :: r))) (by rw [List.length_drop]; simp only [List.length_cons] at h hgl ⊢; omega) (by rw [← skipE_gap hg]; exact hE)
      have hdrop : ((c :: r) ++ 10 :: m).drop (gapN (c :: r)) = (c :: r).drop (gapN (c :: r)) ++ 10 :: m := List.drop_append_of_le_length hgl
      rw [skipN_gap (l := (c :: r) ++ 10 :: m) (by rw [hga]; exact hg), skipE_gap (l := (c :: r) ++ 10 :: m) (by rw [hga]; exact hg), hga, hdrop, ih.1, ih.2, skipN_gap hg]
      have hiff : (skipN ((c :: r).drop (gapN (c :: r))) = ((c :: r).drop (gapN (c :: r))).length) ↔ (gapN (c :: r) + skipN ((c :: r).drop (gapN (c :: r))) = (c :: r).length) := by
        rw [List.length_drop]; omega
      constructor
      · by_cases hx : skipN ((c :: r).drop (gapN (c :: r))) = ((c :: r).drop (gapN (c :: r))).length
        · rw [if_pos hx, if_pos (hiff.1 hx), Nat.add_assoc]
        · rw [if_neg hx, if_neg (fun h => hx (hiff.2 h)), Nat.add_assoc]
      · by_cases hx : skipN ((c :: r).drop (gapN (c :: r))) = ((c :: r).drop (gapN (c :: r))).length
        · rw [if_pos hx, if_pos (hiff.1 hx)]
        · rw [if_neg hx, if_neg (fun h => hx (hiff.2 h))]
end Go.Proofs.Ytpeleifkednmoaa.Lx
end
