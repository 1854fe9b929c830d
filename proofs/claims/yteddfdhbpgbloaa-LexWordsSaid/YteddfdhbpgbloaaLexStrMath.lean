/- Through the inside of a string: where it ends, step by step. -/
import Derived.Test.YteddfdhbpgbloaaLexRefMath
import Derived.Test.YteddfdhbpgbloaaLexAppMath
namespace Go.Proofs.Yteddfdhbpgbloaa.Lx
open Go.ChangeShapes Go.WideShapes Go.ChangeAt Go.RowKit
set_option linter.unusedVariables false

theorem hexR_digits {r : Bs} (h : 0 ≤ hexR r) : ∃ x y r', r = x :: y :: r' ∧ 0 ≤ hexV x ∧ 0 ≤ hexV y := by
  match r with
  | [] => exact absurd h (show ¬ (0 : Int) ≤ -1 by decide)
  | [a] => exact absurd h (show ¬ (0 : Int) ≤ -1 by decide)
  | a :: b :: r' =>
    refine ⟨a, b, r', rfl, ?_, ?_⟩
    · rcases Int.lt_or_le (hexV a) 0 with hh | hh
      · rw [hexR_no a _ hh] at h; omega
      · exact hh
    · rcases Int.lt_or_le (hexV b) 0 with hh | hh
      · rw [hexR_no2 a b _ hh] at h; omega
      · exact hh
theorem hexV_ne {x : UInt8} (h : 0 ≤ hexV x) : x ≠ 34 ∧ x ≠ 92 := by
  constructor
  · intro e; subst e; exact absurd h (by decide)
  · intro e; subst e; exact absurd h (by decide)
/-- A backslash ahead of the end: at least one more byte, and the same end behind the escape. -/
theorem esc_end {l : Bs} {c : UInt8} {r : Bs} {n : Nat} (hl : l = 92 :: c :: r) (h : qEnd l = some n) (hv : 0 ≤ escRV (c :: r)) : (stN l) ≤ n ∧ qEnd (l.drop (stN l)) = some (n - stN l) := by
  subst hl
  obtain ⟨_, h2⟩ := esc_step c r
  have hN := (h2 hv).2
  rw [escRN_at] at hN
  rw [qEnd_esc, show (c :: r).drop 1 = r from rfl] at h
  cases e : qEnd r with
  | none => rw [e] at h; cases h
  | some k =>
    rw [e] at h
    have hk : k + 2 = n := by simpa using h
    by_cases h5 : c = 120
    · rw [if_pos h5] at hN
      have hs : stN (92 :: c :: r) = 4 := by omega
      have hx : 0 ≤ hexR r := by
        have := hv
        rw [escRV_at, if_neg (by rw [h5]; decide), if_neg (by rw [h5]; decide), if_neg (by rw [h5]; decide), if_neg (by rw [h5]; decide), if_pos h5] at this
        exact this
      obtain ⟨x, y, r', hr, hx1, hy1⟩ := hexR_digits hx
      rw [hs]
      subst hr
      obtain ⟨x1, x2⟩ := hexV_ne hx1
      obtain ⟨y1, y2⟩ := hexV_ne hy1
      rw [qEnd_one x _ x1 x2, qEnd_one y _ y1 y2] at e
      show 4 ≤ n ∧ qEnd r' = some (n - 4)
      cases e2 : qEnd r' with
      | none => rw [e2] at e; cases e
      | some m =>
        rw [e2] at e
        have hm : m + 1 + 1 = k := by simpa using e
        exact ⟨by omega, by congr 1; omega⟩
    · rw [if_neg h5] at hN
      have hs : stN (92 :: c :: r) = 2 := by omega
      rw [hs]
      show 2 ≤ n ∧ qEnd r = some (n - 2)
      exact ⟨by omega, by rw [e]; congr 1; omega⟩
/-- Any other byte ahead of the end. -/
theorem one_end {c : UInt8} {r : Bs} {n : Nat} (h : qEnd (c :: r) = some n) (hn : 0 < n) (h92 : c ≠ 92) : qEnd r = some (n - 1) := by
  have h34 : c ≠ 34 := by
    intro e; subst e
    rw [qEnd_quote] at h
    injection h with h
    omega
  rw [qEnd_one c r h34 h92] at h
  cases e : qEnd r with
  | none => rw [e] at h; cases h
  | some m => rw [e] at h; have : m + 1 = n := by simpa using h
              congr 1; omega
theorem esc_two {r : Bs} {n : Nat} (h : qEnd (92 :: r) = some n) : 2 ≤ n := by
  rw [qEnd_esc] at h
  cases e : qEnd (r.drop 1) with
  | none => rw [e] at h; cases h
  | some m => rw [e] at h; have : m + 2 = n := by simpa using h
              omega
/-- A byte that is a character, and no blank but a space, is 32 or more. -/
theorem ok_ge {c : UInt8} (h : okC c = true) (hb : blankB c = false ∨ ((c.toNat : Int) == 32) = true) : decide ((c.toNat : Int) ≥ 32) = true := by
  rcases hb with hb | hb
  · unfold okC at h
    rw [hb, Bool.or_false] at h
    unfold printB at h
    simp at h
    simp
    omega
  · rw [u8_is (n := 32) (by decide) hb]; decide
theorem blank_lt {c : UInt8} (hb : blankB c = true) (h : ((c.toNat : Int) == 32) = false) : decide ((c.toNat : Int) ≥ 32) = false := by
  rcases blank_of hb with rfl | rfl | rfl | rfl
  · exact absurd h (by decide)
  · decide
  · decide
  · decide
end Go.Proofs.Yteddfdhbpgbloaa.Lx
