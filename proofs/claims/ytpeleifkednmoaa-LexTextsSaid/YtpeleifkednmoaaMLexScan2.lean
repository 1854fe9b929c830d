/- What the program's small scanning functions of layer 3 return: how long a run, a character, a comment is; where the next word begins. -/
import Derived.Test.YtpeleifkednmoaaMLexScan1
section
namespace Go.Proofs.Ytpeleifkednmoaa.Lx
open Go.ChangeShapes Go.WideShapes Go.ChangeAt Go.RowKit
set_option linter.unusedVariables false

def RunAt (s : ByteArray) (p : UInt8 → Bool) (T : Nat) (i : Value) : Prop := ∃ k : Nat, k ≤ s.size ∧ i = .int .i64 (k : Int) ∧ T = k + ((s.data.toList.drop k).takeWhile p).length
theorem RunAt.step {s : ByteArray} {p : UInt8 → Bool} {T k : Nat} (h : T = k + ((s.data.toList.drop k).takeWhile p).length) (hk : k < s.size) (hp : p s[k] = true) : T = k + 1 + ((s.data.toList.drop (k + 1)).takeWhile p).length := by
  rw [drop_at s k hk, List.takeWhile_cons, hp] at h
  simp at h; omega
theorem RunAt.stop {s : ByteArray} {p : UInt8 → Bool} {T k : Nat} (h : T = k + ((s.data.toList.drop k).takeWhile p).length) (hk : k < s.size) (hp : p s[k] = false) : T = k := by
  rw [drop_at s k hk, List.takeWhile_cons, hp] at h
  simpa using h
theorem RunAt.end_ {s : ByteArray} {p : UInt8 → Bool} {T k : Nat} (h : T = k + ((s.data.toList.drop k).takeWhile p).length) (hk : s.size ≤ k) : T = k := by
  rw [drop_none s k hk] at h
  simpa using h
theorem runN_at (s : ByteArray) (h : 0 < s.size) : runN s.data.toList = 1 + ((s.data.toList.drop 1).takeWhile (fun x => !delimB x)).length := by
  have := drop_at s 0 h
  rw [List.drop_zero] at this
  rw [this]; rfl
set_option maxHeartbeats 400000 in
theorem run_any (s : ByteArray) (w : World) (hs : s.size ≤ maxLen) (h0 : 0 < s.size) :
    Calls Try.prog 54 #[.string s] w fun e w' => e = .returned (.int .i64 (runN s.data.toList)) ∧ w = w' := by
  unfold maxLen at hs
  have hr := runN_at s h0
  obtain ⟨T, hT⟩ : ∃ T, runN s.data.toList = T := ⟨_, rfl⟩
  rw [hT] at hr ⊢
  have Hr := Lib.hid hr
  clear hr hT
  go_enter Try.func54, Try.ntmps54
  go_wp2_with fail
  go_loop [3] (fun i => RunAt s (fun x => !delimB x) T i) (fun i => s.size - (intOf i).toNat)
  case atStart => exact ⟨1, h0, rfl, Hr.out⟩
  case round =>
    obtain ⟨k, hk, rfl, ha⟩ := hrel
    have Ha := Lib.hid ha
    clear ha
    by_cases hlt : k < s.size
    · have dl : decide ((k : Int) < (s.size : Int)) = true := by simp [hlt]
      obtain ⟨b, hb⟩ : ∃ b, delimB s[k] = b := ⟨_, rfl⟩
      have Hb := Lib.hid hb
      clear hb
      cases b
      · have hn := RunAt.step Ha.out hlt (by show (!delimB s[k]) = true; rw [Hb.out]; rfl)
        have Hn := Lib.hid hn
        clear hn
        go_wp2_with (go_at_call 68; refine (delimits_any s[k] _).mono ?_; rintro e w' ⟨rfl, rfl⟩; rw [Hb.out])
        go_round
        case rel => exact ⟨k + 1, by omega, by go_num, Hn.out⟩
        case measure => simp [intOf]; omega
      · have hn := RunAt.stop Ha.out hlt (by show (!delimB s[k]) = false; rw [Hb.out]; rfl)
        have Hn := Lib.hid hn
        clear hn
        go_wp2_with (go_at_call 68; refine (delimits_any s[k] _).mono ?_; rintro e w' ⟨rfl, rfl⟩; rw [Hb.out])
        go_ret
        exact ⟨by rw [Hn.out]; rfl, rfl⟩
    · have dl : decide ((k : Int) < (s.size : Int)) = false := by simp [hlt]
      have hn := RunAt.end_ Ha.out (by omega)
      have Hn := Lib.hid hn
      clear hn
      go_wp2
      go_ret
      exact ⟨by rw [Hn.out]; rfl, rfl⟩
/-- How long the character is with which a text begins. -/
def spelledN (l : Bs) : Nat := 2 + spellN (l.drop 2)
theorem spelledN_at (s : ByteArray) (h : 2 < s.size) : spelledN s.data.toList = if lowerB s[2] = true then 3 + ((s.data.toList.drop 3).takeWhile (fun x => lowerB x || digitB x)).length else 3 := by
  unfold spelledN
  rw [drop_at s 2 h]
  show 2 + (if lowerB s[2] = true then _ else _) = _
  by_cases hb : lowerB s[2] = true
  · rw [if_pos hb, if_pos hb]; show 2 + (1 + (List.takeWhile (fun x => lowerB x || digitB x) (List.drop 3 s.data.toList)).length) = _; omega
  · rw [if_neg hb, if_neg hb]
set_option maxHeartbeats 400000 in
theorem spelled_any (s : ByteArray) (w : World) (hs : s.size ≤ maxLen) (h0 : 2 < s.size) :
    Calls Try.prog 52 #[.string s] w fun e w' => e = .returned (.int .i64 (spelledN s.data.toList)) ∧ w = w' := by
  unfold maxLen at hs
  have hr := spelledN_at s h0
  obtain ⟨T, hT⟩ : ∃ T, spelledN s.data.toList = T := ⟨_, rfl⟩
  rw [hT] at hr ⊢
  clear hT
  obtain ⟨b, hb⟩ : ∃ b, lowerB s[2] = b := ⟨_, rfl⟩
  rw [hb] at hr
  have Hb := Lib.hid hb
  clear hb
  cases b
  · simp only [Bool.false_eq_true, if_false] at hr
    subst hr
    go_enter Try.func52, Try.ntmps52
    go_wp2_with (go_at_call 65; refine (lower_any s[2] _).mono ?_; rintro e w' ⟨rfl, rfl⟩; rw [Hb.out])
    go_ret
    exact ⟨rfl, rfl⟩
  · simp only [if_true] at hr
    have Hr := Lib.hid hr
    clear hr
    go_enter Try.func52, Try.ntmps52
    go_wp2_with (go_at_call 65; refine (lower_any s[2] _).mono ?_; rintro e w' ⟨rfl, rfl⟩; rw [Hb.out])
    clear Hb
    go_loop [3] (fun i => RunAt s (fun x => lowerB x || digitB x) T i) (fun i => s.size - (intOf i).toNat)
    case atStart => exact ⟨3, h0, rfl, Hr.out⟩
    case round =>
      obtain ⟨k, hk, rfl, ha⟩ := hrel
      have Ha := Lib.hid ha
      clear ha
      by_cases hlt : k < s.size
      · have dl : decide ((k : Int) < (s.size : Int)) = true := by simp [hlt]
        obtain ⟨b, hb⟩ : ∃ b, lowerB s[k] = b := ⟨_, rfl⟩
        have Hb := Lib.hid hb
        clear hb
        obtain ⟨c, hc⟩ : ∃ c, digitB s[k] = c := ⟨_, rfl⟩
        have Hc := Lib.hid hc
        clear hc
        cases b
        · cases c
          · have hn := RunAt.stop Ha.out hlt (by show (lowerB s[k] || digitB s[k]) = false; rw [Hb.out, Hc.out]; rfl)
            have Hn := Lib.hid hn
            clear hn
            go_wp2_with (first | (go_at_call 65; refine (lower_any s[k] _).mono ?_; rintro e w' ⟨rfl, rfl⟩; rw [Hb.out]) | (go_at_call 66; refine (digit_any s[k] _).mono ?_; rintro e w' ⟨rfl, rfl⟩; rw [Hc.out]))
            go_ret
            exact ⟨by rw [Hn.out]; rfl, rfl⟩
          · have hn := RunAt.step Ha.out hlt (by show (lowerB s[k] || digitB s[k]) = true; rw [Hb.out, Hc.out]; rfl)
            have Hn := Lib.hid hn
            clear hn
            go_wp2_with (first | (go_at_call 65; refine (lower_any s[k] _).mono ?_; rintro e w' ⟨rfl, rfl⟩; rw [Hb.out]) | (go_at_call 66; refine (digit_any s[k] _).mono ?_; rintro e w' ⟨rfl, rfl⟩; rw [Hc.out]))
            go_round
            case rel => exact ⟨k + 1, by omega, by go_num, Hn.out⟩
            case measure => simp [intOf]; omega
        · have hn := RunAt.step Ha.out hlt (by show (lowerB s[k] || digitB s[k]) = true; rw [Hb.out]; rfl)
          have Hn := Lib.hid hn
          clear hn
          go_wp2_with (go_at_call 65; refine (lower_any s[k] _).mono ?_; rintro e w' ⟨rfl, rfl⟩; rw [Hb.out])
          go_round
          case rel => exact ⟨k + 1, by omega, by go_num, Hn.out⟩
          case measure => simp [intOf]; omega
      · have dl : decide ((k : Int) < (s.size : Int)) = false := by simp [hlt]
        have hn := RunAt.end_ Ha.out (by omega)
        have Hn := Lib.hid hn
        clear hn
        go_wp2
        go_ret
        exact ⟨by rw [Hn.out]; rfl, rfl⟩
/- A comment. -/
def ComAt (s : ByteArray) (o i : Value) : Prop := ∃ (j k : Nat), i = .int .i64 (k : Int) ∧ o = .int .i64 (j : Int) ∧ ((j = 0 ∧ k = 0) ∨ (1 ≤ j ∧ 2 ≤ k ∧ j ≤ k ∧ k ≤ s.size ∧ comR 1 (s.data.toList.drop 2) = (comR j (s.data.toList.drop k)).map (· + (k - 2))))
theorem ext_two (s : ByteArray) (k : Nat) (h : k + 1 < s.size) : (s.extract k (k + 2)).toList = [s[k], s[k + 1]] := by
  rw [ByteArray.toList_eq, Lib.extract_data, drop_at s k (by omega), drop_at s (k + 1) h]
  show List.take (k + 2 - k) _ = _
  rw [show k + 2 - k = 2 by omega]
  rfl
theorem run_sub (s : ByteArray) (i j : Int) (h0 : 0 ≤ i) (h1 : i ≤ j) (h2 : j ≤ s.size) (w : World) :
    (Instr.slice 9 (.string s) (some (.int .i64 i)) (some (.int .i64 j)) none).run Try.prog w = .ok (.string (s.extract i.toNat j.toNat)) w :=
  run_slice_string (P := Try.prog) w 9 s .i64 .i64 i j Try.underlying9 h0 h1 h2
set_option maxRecDepth 100000 in
set_option maxHeartbeats 1000000 in
theorem comment_any (s : ByteArray) (w : World) (hs : s.size < maxLen) (hc : isCom s.data.toList = true) :
    Calls Try.prog 48 #[.string s] w fun e w' => e = .returned (.int .i64 (comN s.data.toList)) ∧ w = w' := by
  unfold maxLen at hs
  have hN : comN s.data.toList = match comR 1 (s.data.toList.drop 2) with | some n => n + 2 | none => 0 := rfl
  obtain ⟨r0, hr0⟩ := isCom_iff.1 hc
  have hsz : 2 ≤ s.size := by rw [← len_of, hr0]; simp
  have h1 : s[0] = 35 ∧ s[1] = 124 := by
    have a := byte_at s 0 (by omega)
    have b := byte_at s 1 (by omega)
    rw [hr0] at a b
    simp at a b
    exact ⟨a.symm, b.symm⟩
  have H1 := Lib.hid h1
  clear hc hr0 h1
  have HN := Lib.hid hN
  clear hN
  go_enter Try.func48, Try.ntmps48
  go_wp2_with fail
  go_loop [3, 4] (fun o i => ComAt s o i) (fun _ i => s.size - (intOf i).toNat)
  case atStart => exact ⟨0, 0, rfl, rfl, .inl ⟨rfl, rfl⟩⟩
  case round =>
    obtain ⟨j, k, rfl, rfl, h⟩ := hrel
    rcases h with ⟨rfl, rfl⟩ | ⟨hj, hk2, hjk, hk, ha⟩
    · have hx := ext_two s 0 (by omega)
      rw [H1.out.1, show s[0 + 1] = 124 from H1.out.2] at hx
      have c1 : ((s.extract 0 2).toList == [35, 124]) = true := by rw [hx]; rfl
      have dl : decide ((0 : Int) < (s.size : Int) - 1) = true := by simp; omega
      have hr := run_sub s 0 2 (by omega) (by omega) (by omega)
      simp only [Int.toNat_zero, Int.reduceToNat] at hr
      clear hx
      go_wp2
      go_round
      case rel => exact ⟨1, 2, rfl, rfl, .inr ⟨by omega, by omega, by omega, hsz, by simp⟩⟩
      case measure => simp [intOf]; omega
    · obtain ⟨j, rfl⟩ : ∃ i, j = i + 1 := ⟨j - 1, by omega⟩
      have Ha := Lib.hid ha
      clear ha
      by_cases hlt : k + 1 < s.size
      · have hx := ext_two s k hlt
        have hd : s.data.toList.drop k = s[k] :: s[k + 1] :: s.data.toList.drop (k + 2) := by rw [drop_at s k (by omega), drop_at s (k + 1) hlt]
        have dl : decide ((k : Int) < (s.size : Int) - 1) = true := by simp; omega
        have hr := run_sub s k (k + 2 : Nat) (by omega) (by omega) (by omega)
        simp only [Int.toNat_natCast] at hr
        rw [show ((k + 2 : Nat) : Int) = (k : Int) + 2 by omega] at hr
        by_cases c1 : s[k] = 35 ∧ s[k + 1] = 124
        · have e1 : ((s.extract k (k + 2)).toList == [35, 124]) = true := by rw [hx, c1.1, c1.2]; rfl
          have hn : comR 1 (s.data.toList.drop 2) = (comR (j + 1 + 1) (s.data.toList.drop (k + 2))).map (· + (k + 2 - 2)) := by
            rw [Ha.out, hd, c1.1, c1.2, comR_open, Option.map_map]; congr 1; funext n; simp only [Function.comp]; omega
          have Hn := Lib.hid hn
          clear hn hx hd c1
          go_wp2
          go_round
          case rel => exact ⟨j + 1 + 1, k + 2, by go_num, by go_num, .inr ⟨by omega, by omega, by omega, by omega, Hn.out⟩⟩
          case measure => simp [intOf]; omega
        · have e1 : ((s.extract k (k + 2)).toList == [35, 124]) = false := by rw [hx]; simp; exact fun a b => c1 ⟨a, b⟩
          by_cases c2 : s[k] = 124 ∧ s[k + 1] = 35
          · have e2 : ((s.extract k (k + 2)).toList == [124, 35]) = true := by rw [hx, c2.1, c2.2]; rfl
            have hn : comR 1 (s.data.toList.drop 2) = (comR j (s.data.toList.drop (k + 2))).map (· + (k + 2 - 2)) := by
              rw [Ha.out, hd, c2.1, c2.2, comR_shut, Option.map_map]; congr 1; funext n; simp only [Function.comp]; omega
            clear hx hd c1 c2
            by_cases hj0 : j = 0
            · subst hj0
              have hN : comN s.data.toList = k + 2 := by
                rw [HN.out, hn, show comR 0 (s.data.toList.drop (k + 2)) = some 0 by simp [comR]]
                show (0 + (k + 2 - 2)) + 2 = k + 2
                omega
              have HM := Lib.hid hN
              clear hN hn
              have d0 : ((0 : Int) == 0) = true := rfl
              go_wp2
              go_ret
              exact ⟨by rw [HM.out]; exact congrArg Ending.returned (by go_num), rfl⟩
            · have Hn := Lib.hid hn
              clear hn
              have d0 : ((j : Int) == 0) = false := by simp; omega
              go_wp2
              go_round
              case rel => exact ⟨j, k + 2, by go_num, by go_num, .inr ⟨by omega, by omega, by omega, by omega, Hn.out⟩⟩
              case measure => simp [intOf]; omega
          · have e2 : ((s.extract k (k + 2)).toList == [124, 35]) = false := by rw [hx]; simp; exact fun a b => c2 ⟨a, b⟩
            have hn : comR 1 (s.data.toList.drop 2) = (comR (j + 1) (s.data.toList.drop (k + 1))).map (· + (k + 1 - 2)) := by
              rw [Ha.out, hd, comR_one j _ _ _ c1 c2, Option.map_map, drop_at s (k + 1) hlt]; congr 1; funext n; simp only [Function.comp]; omega
            have Hn := Lib.hid hn
            clear hx hd c1 c2 hn
            have d0 : (((j : Int) + 1) == 0) = false := by simp; omega
            go_wp2
            go_round
            case rel => exact ⟨j + 1, k + 1, by go_num, by go_num, .inr ⟨by omega, by omega, by omega, by omega, Hn.out⟩⟩
            case measure => simp [intOf]; omega
      · have dl : decide ((k : Int) < (s.size : Int) - 1) = false := by simp; omega
        have hN : comN s.data.toList = 0 := by
          rw [HN.out, Ha.out]
          by_cases hks : k = s.size
          · rw [drop_none s k (by omega)]; rfl
          · rw [drop_at s k (by omega), drop_none s (k + 1) (by omega)]; rfl
        have HM := Lib.hid hN
        clear hN
        go_wp2
        go_ret
        exact ⟨by rw [HM.out]; rfl, rfl⟩
end Go.Proofs.Ytpeleifkednmoaa.Lx
end
