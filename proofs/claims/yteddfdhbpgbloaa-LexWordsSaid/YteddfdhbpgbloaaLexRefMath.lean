/- The document's escapes are the program's; what the document answers for a character. -/
import Derived.Test.YteddfdhbpgbloaaLexRef5
import Derived.Test.YteddfdhbpgbloaaLexApartMath
namespace Go.Proofs.Yteddfdhbpgbloaa.Lx
open Go.ChangeShapes Go.WideShapes Go.ChangeAt Go.RowKit
set_option linter.unusedVariables false

theorem escF_two (c : UInt8) (r : Bs) : escF escs (92 :: c :: r) = if c = 110 then some 10 else if c = 116 then some 9 else if c = 92 then some 92 else if c = 34 then some 34 else none := by
  have h : ∀ x : UInt8, Lib.hasPrefix (92 :: c :: r) [92, x] = decide (c = x) := fun x => by
    show ((92 : UInt8) == 92 && (x == c && true)) = _
    rw [show ((92 : UInt8) == 92) = true from rfl, Bool.true_and, Bool.and_true]
    by_cases e : c = x
    · rw [e]; simp
    · rw [beq_eq_false_iff_ne.2 (Ne.symm e), decide_eq_false e]
  show (if Lib.hasPrefix (92 :: c :: r) [92, 110] = true then _ else if Lib.hasPrefix (92 :: c :: r) [92, 116] = true then _ else if Lib.hasPrefix (92 :: c :: r) [92, 92] = true then _ else if Lib.hasPrefix (92 :: c :: r) [92, 34] = true then _ else _) = _
  rw [h, h, h, h]
  simp only [decide_eq_true_eq]
  rfl
theorem u8_eqI (c : UInt8) (n : Nat) (hn : n < 256) : (((c.toNat : Int) == (n : Int)) = true) ↔ c = UInt8.ofNat n := by rw [u8_toNat c n hn, beq_iff_eq]
theorem escRV_at (c : UInt8) (r : Bs) : escRV (c :: r) = (if c = 110 then 10 else if c = 116 then 9 else if c = 92 then 92 else if c = 34 then 34 else if c = 120 then hexR r else -1) := by
  rw [escRV]
  by_cases h1 : c = 110
  · subst h1; rfl
  · rw [if_neg h1, if_neg (show ¬ ((c.toNat : Int) == 110) = true from fun h => h1 ((u8_eqI c 110 (by decide)).1 h))]
    by_cases h2 : c = 116
    · subst h2; rfl
    · rw [if_neg h2, if_neg (show ¬ ((c.toNat : Int) == 116) = true from fun h => h2 ((u8_eqI c 116 (by decide)).1 h))]
      by_cases h3 : c = 92
      · subst h3; rfl
      · rw [if_neg h3, if_neg (show ¬ ((c.toNat : Int) == 92) = true from fun h => h3 ((u8_eqI c 92 (by decide)).1 h))]
        by_cases h4 : c = 34
        · subst h4; rfl
        · rw [if_neg h4, if_neg (show ¬ ((c.toNat : Int) == 34) = true from fun h => h4 ((u8_eqI c 34 (by decide)).1 h))]
          by_cases h5 : c = 120
          · subst h5; rfl
          · rw [if_neg h5, if_neg (show ¬ ((c.toNat : Int) == 120) = true from fun h => h5 ((u8_eqI c 120 (by decide)).1 h))]
theorem escRN_at (c : UInt8) (r : Bs) : escRN (c :: r) = (if c = 120 then 3 else 1) := by
  rw [escRN]
  by_cases h5 : c = 120
  · subst h5; rfl
  · rw [if_neg h5, if_neg (show ¬ ((c.toNat : Int) == 120) = true from fun h => h5 ((u8_eqI c 120 (by decide)).1 h))]
    by_cases a1 : ((c.toNat : Int) == 110) = true
    · rw [if_pos a1]
    · rw [if_neg a1]
      by_cases a2 : ((c.toNat : Int) == 116) = true
      · rw [if_pos a2]
      · rw [if_neg a2]
        by_cases a3 : ((c.toNat : Int) == 92) = true
        · rw [if_pos a3]
        · rw [if_neg a3]
          by_cases a4 : ((c.toNat : Int) == 34) = true
          · rw [if_pos a4]
          · rw [if_neg a4]
/-- A code of a character, in a string. -/
theorem decI_code (c : UInt8) (r : Bs) : decI (codeL (92 :: c :: r)) = if c = 120 then hexR r else -1 := by
  show decI ((c :: r).take 3) = _
  match r with
  | [] => show decI [c] = _; by_cases h : c = 120 <;> simp [h, hexR, decI]
  | [a] => show decI [c, a] = _; by_cases h : c = 120 <;> simp [h, hexR, decI]
  | a :: b :: r' =>
    show decI [c, a, b] = _
    by_cases h : c = 120
    · rw [if_pos h, h]; rfl
    · rw [if_neg h]
      show (if c = 120 ∧ _ then _ else _) = _
      rw [if_neg (fun hh => h hh.1)]
/-- What the document's escape is in the program's words. -/
theorem esc_step (c : UInt8) (r : Bs) : stB (92 :: c :: r) = decide (0 ≤ escRV (c :: r)) ∧ (0 ≤ escRV (c :: r) → stV (92 :: c :: r) = escRV (c :: r) ∧ (stN (92 :: c :: r) : Int) = 1 + escRN (c :: r)) := by
  have hE := escF_two c r
  have hV := escRV_at c r
  have hN := escRN_at c r
  have hD := decI_code c r
  have hsB : stB (92 :: c :: r) = unescB (92 :: c :: r) := rfl
  have hsV : stV (92 :: c :: r) = unescV (92 :: c :: r) := rfl
  have hsN : stN (92 :: c :: r) = (match escF escs (92 :: c :: r) with | some _ => 2 | none => min (92 :: c :: r).length 4) := rfl
  rw [hsB, hsV, hsN]
  unfold unescB unescV
  rw [hE, hV, hN]
  by_cases h1 : c = 110
  · subst h1; exact ⟨rfl, fun _ => ⟨rfl, rfl⟩⟩
  · rw [if_neg h1, if_neg h1]
    by_cases h2 : c = 116
    · subst h2; exact ⟨rfl, fun _ => ⟨rfl, rfl⟩⟩
    · rw [if_neg h2, if_neg h2]
      by_cases h3 : c = 92
      · subst h3; exact ⟨rfl, fun _ => ⟨rfl, rfl⟩⟩
      · rw [if_neg h3, if_neg h3]
        by_cases h4 : c = 34
        · subst h4; exact ⟨rfl, fun _ => ⟨rfl, rfl⟩⟩
        · rw [if_neg h4, if_neg h4]
          simp only
          rw [hD]
          refine ⟨rfl, fun h => ?_⟩
          unfold decV
          rw [hD, if_pos h]
          refine ⟨rfl, ?_⟩
          by_cases h5 : c = 120
          · rw [if_pos h5] at h ⊢
            match r with
            | [] => exact absurd h (show ¬ (0 : Int) ≤ -1 by decide)
            | [a] => exact absurd h (show ¬ (0 : Int) ≤ -1 by decide)
            | a :: b :: r' => simp only [List.length_cons]; omega
          · rw [if_neg h5] at h; exact absurd h (by decide)
theorem rchar_any (s : ByteArray) (a : Nat) (w : World) (hs : s.size < 1000000) (ha : a < s.size) (hp : Lib.hasPrefix (s.data.toList.drop a) [35, 92] = true) :
    Calls Try.prog 94 #[.string s, .int .i64 (a : Int)] w (RefP (if (s.data.toList.drop a == [35, 92]) = true then bad 31 else charSc (s.data.toList.drop a)) a w) := by
  obtain ⟨r, hr⟩ := (hasPrefix_iff _ _).1 hp
  have hlen := congrArg List.length hr
  rw [List.length_drop, len_of, List.length_append] at hlen
  simp only [List.length_cons, List.length_nil] at hlen
  by_cases h2 : a + 2 < s.size
  · have hne : (s.data.toList.drop a == [35, 92]) = false := by
      rw [beq_eq_false_iff_ne]
      intro e
      have := congrArg List.length e
      rw [List.length_drop, len_of] at this
      simp only [List.length_cons, List.length_nil] at this
      omega
    rw [hne, if_neg (by decide)]
    cases hl : lowerB s[a + 2]
    · have hsp : spelledN (s.data.toList.drop a) = 3 := by
        unfold spelledN
        rw [List.drop_drop, drop_at s (a + 2) h2]
        show 2 + (if lowerB s[a + 2] = true then _ else 1) = 3
        rw [if_neg (by rw [hl]; decide)]
      have hc : charSc (s.data.toList.drop a) = charSc2 [s[a + 2]] 3 := by
        rw [charSc_eq, hsp, List.drop_drop, drop_at s (a + 2) h2]
        rfl
      rw [hc]
      exact rchar_single s a w hs h2 hl
    · exact rchar_name s a w hs h2 hl
  · have he : (s.data.toList.drop a == [35, 92]) = true := by
      have hr0 : r = [] := List.eq_nil_of_length_eq_zero (by omega)
      rw [hr, hr0]; rfl
    rw [he, if_pos rfl]
    exact rchar_open s a w hs (by omega) ha
end Go.Proofs.Yteddfdhbpgbloaa.Lx
