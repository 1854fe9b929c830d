/- What the program's small scanning functions of layer 3 return: where a text has a byte that is no character, how long a line, a comment, a string is. -/
import Derived.Test.YtpeleifkednmoaaShelf
import Derived.Test.YtpeleifkednmoaaMLexBytes
section
namespace Go.Proofs.Ytpeleifkednmoaa.Lx
open Go.ChangeShapes Go.WideShapes Go.ChangeAt Go.RowKit
set_option linter.unusedVariables false

theorem all_at (s : ByteArray) (p : UInt8 → Bool) (k : Nat) (h : k < s.size) : (s.data.toList.take (k + 1)).all p = ((s.data.toList.take k).all p && p s[k]) := by
  rw [take_at s k h, List.all_append]; simp
def NightAt (s : ByteArray) (i : Value) : Prop := ∃ k : Nat, k ≤ s.size ∧ i = .int .i64 (k : Int) ∧ (s.data.toList.take k).all okC = true
set_option maxHeartbeats 400000 in
theorem night_any (s : ByteArray) (w : World) (hs : s.size ≤ maxLen) :
    Calls Try.prog 27 #[.string s] w fun e w' => e = .returned (.int .i64 (nightI s.data.toList)) ∧ w = w' := by
  unfold maxLen at hs
  go_enter Try.func27, Try.ntmps27
  go_wp2_with fail
  go_loop [7] (fun i => NightAt s i) (fun i => s.size - (intOf i).toNat)
  case atStart => exact ⟨0, Nat.zero_le _, rfl, rfl⟩
  case round =>
    obtain ⟨k, hk, rfl, ha⟩ := hrel
    have Ha := Lib.hid ha
    clear ha
    by_cases hlt : k < s.size
    · have dl : decide ((k : Int) < (s.size : Int)) = true := by simp [hlt]
      have hn := all_at s okC k hlt
      rw [Ha.out] at hn
      obtain ⟨b, hb⟩ : ∃ b, printB s[k] = b := ⟨_, rfl⟩
      obtain ⟨c, hc⟩ : ∃ c, blankB s[k] = c := ⟨_, rfl⟩
      have hok : okC s[k] = (b || c) := by unfold okC; rw [hb, hc]
      have Hb := Lib.hid hb
      have Hc := Lib.hid hc
      clear hb hc
      cases b
      · cases c
        · have hx := nightI_at s.data.toList k (by rw [len_of]; exact hlt) Ha.out (by rw [Array.getElem_toList]; exact hok)
          have Hx := Lib.hid hx
          clear hx hn hok
          go_wp2_with (first | (go_at_call 35; refine (printed_any s[k] _).mono ?_; rintro e w' ⟨rfl, rfl⟩; rw [Hb.out]) | (go_at_call 45; refine (blank_any s[k] _).mono ?_; rintro e w' ⟨rfl, rfl⟩; rw [Hc.out]))
          go_ret
          exact ⟨by rw [Hx.out]; rfl, rfl⟩
        · rw [hok] at hn
          have Hn := Lib.hid hn
          clear hn hok
          go_wp2_with (first | (go_at_call 35; refine (printed_any s[k] _).mono ?_; rintro e w' ⟨rfl, rfl⟩; rw [Hb.out]) | (go_at_call 45; refine (blank_any s[k] _).mono ?_; rintro e w' ⟨rfl, rfl⟩; rw [Hc.out]))
          go_round
          case rel => exact ⟨k + 1, by omega, by go_num, Hn.out⟩
          case measure => simp [intOf]; omega
      · rw [hok] at hn
        have Hn := Lib.hid hn
        clear hn hok
        go_wp2_with (first | (go_at_call 35; refine (printed_any s[k] _).mono ?_; rintro e w' ⟨rfl, rfl⟩; rw [Hb.out]) | (go_at_call 45; refine (blank_any s[k] _).mono ?_; rintro e w' ⟨rfl, rfl⟩; rw [Hc.out]))
        go_round
        case rel => exact ⟨k + 1, by omega, by go_num, by rw [Hn.out]; rfl⟩
        case measure => simp [intOf]; omega
    · have dl : decide ((k : Int) < (s.size : Int)) = false := by simp [hlt]
      have hx : nightI s.data.toList = -1 := nightI_no _ (by rw [← Ha.out, List.take_of_length_le (by rw [len_of]; omega)])
      have Hx := Lib.hid hx
      clear hx
      go_wp2
      go_ret
      exact ⟨by rw [Hx.out]; rfl, rfl⟩
theorem line_any (s : ByteArray) (w : World) (hs : s.size ≤ maxLen) :
    Calls Try.prog 46 #[.string s] w fun e w' => e = .returned (.int .i64 (lineN s.data.toList)) ∧ w = w' := by
  unfold maxLen at hs
  rw [← lineN_eq]
  have hx : Calls Try.prog 62 #[.string s, .int .u8 10] w fun e w' => e = .returned (.int .i64 (Lib.indexByte s.data.toList 10)) ∧ w = w' := (Try.strings_IndexByte s 10 w).mono fun e w' ⟨h1, h2⟩ => ⟨h1, h2.symm⟩
  have Hx := Lib.hid hx
  clear hx
  rw [len_of]
  obtain ⟨i, hi⟩ : ∃ i, Lib.indexByte s.data.toList 10 = i := ⟨_, rfl⟩
  rw [hi] at Hx
  rw [hi]
  clear hi
  by_cases h : 0 ≤ i
  · have d : decide (i ≥ 0) = true := by simpa using h
    rw [if_pos h]
    go_enter Try.func46, Try.ntmps46
    go_wp2_with (go_at_call 62; refine Hx.out.mono ?_; rintro e w' ⟨rfl, rfl⟩)
    go_ret
    exact ⟨rfl, rfl⟩
  · have d : decide (i ≥ 0) = false := by simpa using h
    rw [if_neg h]
    go_enter Try.func46, Try.ntmps46
    go_wp2_with (go_at_call 62; refine Hx.out.mono ?_; rintro e w' ⟨rfl, rfl⟩)
    go_ret
    exact ⟨rfl, rfl⟩
def quotedN (l : Bs) : Nat := match qEnd (l.drop 1) with | some n => n + 2 | none => 0
def QuotedAt (s : ByteArray) (i : Value) : Prop := ∃ k : Nat, 1 ≤ k ∧ k ≤ s.size + 1 ∧ i = .int .i64 (k : Int) ∧ qEnd (s.data.toList.drop 1) = (qEnd (s.data.toList.drop k)).map (· + (k - 1))
set_option maxHeartbeats 400000 in
theorem quoted_any (s : ByteArray) (w : World) (hs : s.size < maxLen) :
    Calls Try.prog 50 #[.string s] w fun e w' => e = .returned (.int .i64 (quotedN s.data.toList)) ∧ w = w' := by
  unfold maxLen at hs
  go_enter Try.func50, Try.ntmps50
  go_wp2_with fail
  go_loop [3] (fun i => QuotedAt s i) (fun i => s.size + 1 - (intOf i).toNat)
  case atStart => exact ⟨1, Nat.le_refl _, by omega, rfl, by simp⟩
  case round =>
    obtain ⟨k, hk1, hk, rfl, ha⟩ := hrel
    have Ha := Lib.hid ha
    clear ha
    by_cases hlt : k < s.size
    · have dl : decide ((k : Int) < (s.size : Int)) = true := by simp [hlt]
      have hd := drop_at s k hlt
      have Hd := Lib.hid hd
      clear hd
      cases e1 : (s[k].toNat : Int) == 92
      · cases e2 : (s[k].toNat : Int) == 34
        · have hq := qEnd_one s[k] (s.data.toList.drop (k + 1)) (u8_ne (n := 34) (by decide) e2) (u8_ne (n := 92) (by decide) e1)
          have Hq := Lib.hid hq
          clear hq
          go_wp2
          go_round
          case rel => exact ⟨k + 1, by omega, by omega, by go_num, by rw [Ha.out, Hd.out, Hq.out, Option.map_map]; congr 1; funext n; simp only [Function.comp]; omega⟩
          case measure => simp [intOf]; omega
        · have hq : quotedN s.data.toList = k + 1 := by
            unfold quotedN
            rw [Ha.out, Hd.out, u8_is (n := 34) (by decide) e2]
            show (0 + (k - 1)) + 2 = k + 1
            omega
          have Hq := Lib.hid hq
          clear hq
          go_wp2
          go_ret
          exact ⟨by rw [Hq.out]; exact congrArg Ending.returned (by go_num), rfl⟩
      · have hq : qEnd (s.data.toList.drop k) = (qEnd (s.data.toList.drop (k + 2))).map (· + 2) := by
          rw [Hd.out, u8_is (n := 92) (by decide) e1]
          show qEnd (92 :: _) = _
          rw [qEnd_esc, List.drop_drop]
        have Hq := Lib.hid hq
        clear hq
        go_wp2
        go_round
        case rel => exact ⟨k + 2, by omega, by omega, by go_num, by rw [Ha.out, Hq.out, Option.map_map]; congr 1; funext n; simp only [Function.comp]; omega⟩
        case measure => simp [intOf]; omega
    · have dl : decide ((k : Int) < (s.size : Int)) = false := by simp [hlt]
      have hq : quotedN s.data.toList = 0 := by unfold quotedN; rw [Ha.out, drop_none s k (by omega)]; rfl
      have Hq := Lib.hid hq
      clear hq
      go_wp2
      go_ret
      exact ⟨by rw [Hq.out]; rfl, rfl⟩
end Go.Proofs.Ytpeleifkednmoaa.Lx
end
