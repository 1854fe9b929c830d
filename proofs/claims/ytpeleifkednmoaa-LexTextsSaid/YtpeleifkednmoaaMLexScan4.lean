/- Codes of characters, escapes, spelled characters of layer 3: what the program's functions return. -/
import Derived.Test.YtpeleifkednmoaaMLexScan3
section
namespace Go.Proofs.Ytpeleifkednmoaa.Lx
open Go.ChangeShapes Go.WideShapes Go.ChangeAt Go.RowKit
set_option linter.unusedVariables false

def digitsL : Bs := [48, 49, 50, 51, 52, 53, 54, 55, 56, 57, 97, 98, 99, 100, 101, 102]
/-- A digit's number, or -1. -/
def hexV (c : UInt8) : Int := Lib.indexByte digitsL c
theorem hexV_all : ∀ n : Fin 256, -1 ≤ hexV (UInt8.ofNat n.val) ∧ hexV (UInt8.ofNat n.val) ≤ 15 := by decide +kernel
theorem hexV_le (c : UInt8) : -1 ≤ hexV c ∧ hexV c ≤ 15 := by
  have h := hexV_all ⟨c.toNat, c.toNat_lt⟩
  simpa using h
theorem hexV_any (c : UInt8) (w : World) :
    Calls Try.prog 62 #[.string ⟨#[48, 49, 50, 51, 52, 53, 54, 55, 56, 57, 97, 98, 99, 100, 101, 102]⟩, .int .u8 (c.toNat : Int)] w fun e w' => e = .returned (.int .i64 (hexV c)) ∧ w' = w := by
  have hx := Try.strings_IndexByte ⟨digitsL.toArray⟩ (c.toNat : Int) w
  rw [show ((c.toNat : Int)).toNat.toUInt8 = c by simp] at hx
  exact hx
/-- The character of a code, or -1. -/
def decI (l : Bs) : Int := match l with
  | [c, a, b] => if c = 120 ∧ 0 ≤ hexV a ∧ hexV a ≤ 7 ∧ 0 ≤ hexV b then 16 * hexV a + hexV b else -1
  | _ => -1
theorem decI_le (l : Bs) : -1 ≤ decI l ∧ decI l ≤ 127 := by
  unfold decI
  split
  · next c a b =>
    have h1 := hexV_le a
    have h2 := hexV_le b
    split <;> omega
  · omega
def decV (l : Bs) : Int := if 0 ≤ decI l then decI l else 0
theorem list_three (s : ByteArray) (h : s.size = 3) : s.data.toList = [s[0], s[1], s[2]] := by
  have h0 := drop_at s 0 (by omega)
  rw [List.drop_zero] at h0
  rw [h0, drop_at s 1 (by omega), drop_at s 2 (by omega), drop_none s 3 (by omega)]
theorem decI_short {s : ByteArray} (h : s.size ≠ 3) : decI s.data.toList = -1 := by
  unfold decI
  split
  · next c a b e =>
    exact absurd (by rw [← len_of, e]; rfl) h
  · rfl
def DecR (v : Int) (b : Bool) : Value := .tuple #[.int .u8 v, .bool b]
set_option maxRecDepth 100000 in
set_option maxHeartbeats 1000000 in
theorem decode_any (s : ByteArray) (w : World) (hs : s.size ≤ maxLen) :
    Calls Try.prog 67 #[.string s] w fun e w' => e = .returned (.tuple #[.int .u8 (decV s.data.toList), .bool (decide (0 ≤ decI s.data.toList))]) ∧ ∃ n, w' = w.drewN n := by
  unfold maxLen at hs
  by_cases h3 : s.size = 3
  · have h3 := Lib.hid h3
    have hl := list_three s h3.out
    have hsz : ((s.size : Int) != 3) = false := by have := h3.out; simp; omega
    have i1 : (1 : Int) < s.size := by have := h3.out; omega
    have i2 : (2 : Int) < s.size := by have := h3.out; omega
    have i0 : 0 < s.size := by have := h3.out; omega
    by_cases hx : s[0] = 120
    · have hd : decI s.data.toList = if (0 : Int) ≤ hexV s[1] ∧ hexV s[1] ≤ (7 : Int) ∧ (0 : Int) ≤ hexV s[2] then (16 : Int) * hexV s[1] + hexV s[2] else (-1 : Int) := by
        rw [hl]; show (if s[0] = 120 ∧ _ then _ else _) = _; simp only [hx, true_and]
      have b1 := hexV_le s[1]
      have b2 := hexV_le s[2]
      have H1 := Lib.hid (hexV_any s[1])
      have H2 := Lib.hid (hexV_any s[2])
      have n0 : ((s[0].toNat : Int) != 120) = false := by rw [hx]; rfl
      generalize hexV s[1] = x at *
      generalize hexV s[2] = y at *
      have hv : decV s.data.toList = if 0 ≤ x ∧ x ≤ 7 ∧ 0 ≤ y then 16 * x + y else 0 := by
        unfold decV; rw [hd]
        by_cases hc : 0 ≤ x ∧ x ≤ 7 ∧ 0 ≤ y
        · rw [if_pos hc, if_pos hc, if_pos (show (0 : Int) ≤ 16 * x + y by omega)]
        · rw [if_neg hc, if_neg hc]; rfl
      rw [hv, hd]
      clear hl hx hd hv
      by_cases c1 : x < 0
      · have d1 : decide (x < 0) = true := by simpa using c1
        have e1 : ¬ (0 ≤ x ∧ x ≤ 7 ∧ 0 ≤ y) := by omega
        rw [if_neg e1, if_neg e1]
        clear e1
        go_enter Try.func67, Try.ntmps67
        go_wp2_with fail
        go_quiet ((go_at_call 62; first | exact Calls.quiet_of_same (H1.out _) | exact Calls.quiet_of_same (H2.out _)))
        go_wp2_with fail
        go_ret2
        exact ⟨rfl, _, rfl⟩
      · have d1 : decide (x < 0) = false := by simpa using c1
        by_cases c2 : x > 7
        · have d2 : decide (x > 7) = true := by simpa using c2
          have e1 : ¬ (0 ≤ x ∧ x ≤ 7 ∧ 0 ≤ y) := by omega
          rw [if_neg e1, if_neg e1]
          clear e1
          go_enter Try.func67, Try.ntmps67
          go_wp2_with fail
          go_quiet ((go_at_call 62; first | exact Calls.quiet_of_same (H1.out _) | exact Calls.quiet_of_same (H2.out _)))
          go_wp2_with fail
          go_ret2
          exact ⟨rfl, _, rfl⟩
        · have d2 : decide (x > 7) = false := by simpa using c2
          by_cases c3 : y < 0
          · have d3 : decide (y < 0) = true := by simpa using c3
            have e1 : ¬ (0 ≤ x ∧ x ≤ 7 ∧ 0 ≤ y) := by omega
            rw [if_neg e1, if_neg e1]
            clear e1
            go_enter Try.func67, Try.ntmps67
            go_wp2_with fail
            go_quiet ((go_at_call 62; first | exact Calls.quiet_of_same (H1.out _) | exact Calls.quiet_of_same (H2.out _)))
            go_wp2_with fail
            go_ret2
            exact ⟨rfl, _, rfl⟩
          · have d3 : decide (y < 0) = false := by simpa using c3
            have e1 : (0 ≤ x ∧ x ≤ 7 ∧ 0 ≤ y) := by omega
            rw [if_pos e1, if_pos e1]
            have e2 : decide (0 ≤ 16 * x + y) = true := by simp; omega
            rw [e2]
            have g1 : 0 ≤ x := by omega
            have g2 : x ≤ 7 := by omega
            have g3 : 0 ≤ y := by omega
            clear e1 c1 c2 c3
            go_enter Try.func67, Try.ntmps67
            go_wp2_with fail
            go_quiet ((go_at_call 62; first | exact Calls.quiet_of_same (H1.out _) | exact Calls.quiet_of_same (H2.out _)))
            go_wp2_with fail
            go_ret2
            exact ⟨rfl, _, rfl⟩
    · have hd : decI s.data.toList = -1 := by rw [hl]; show (if s[0] = 120 ∧ _ then _ else _) = _; rw [if_neg (by intro h; exact hx h.1)]
      have hv : decV s.data.toList = 0 := by unfold decV; rw [hd]; rfl
      rw [hv, hd]
      have n0 : ((s[0].toNat : Int) != 120) = true := by rw [bne, show ((s[0].toNat : Int) == 120) = (s[0] == 120) from u8_toNat _ 120 (by decide)]; simp; exact hx
      clear hl hx hd hv
      go_enter Try.func67, Try.ntmps67
      go_wp2_with fail
      go_ret2
      exact ⟨rfl, 0, rfl⟩
  · have hd := decI_short h3
    have hv : decV s.data.toList = 0 := by unfold decV; rw [hd]; rfl
    rw [hv, hd]
    have hsz : ((s.size : Int) != 3) = true := by simp; omega
    clear hd hv h3
    go_enter Try.func67, Try.ntmps67
    go_wp2_with fail
    go_ret2
    exact ⟨rfl, 0, rfl⟩
end Go.Proofs.Ytpeleifkednmoaa.Lx
end
