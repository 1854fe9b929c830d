/- What the program's skip of layer 3 returns: where the next word begins, or a comment that does not end. -/
import Derived.Test.YtpeleifkednmoaaMLexScan2
section
namespace Go.Proofs.Ytpeleifkednmoaa.Lx
open Go.ChangeShapes Go.WideShapes Go.ChangeAt Go.RowKit
set_option linter.unusedVariables false

theorem ext_size (s : ByteArray) (k : Nat) (hk : k ≤ s.size) : (s.extract k s.size).size = s.size - k := by rw [← len_of, Lib.extract_to_end, List.length_drop, len_of]
def SkipAt (s : ByteArray) (T : Nat) (E : Int) (i : Value) : Prop := ∃ k : Nat, k ≤ s.size ∧ i = .int .i64 (k : Int) ∧ T = k + skipN (s.data.toList.drop k) ∧ E = skipE (s.data.toList.drop k)
theorem run_from (s : ByteArray) (i : Nat) (h : i ≤ s.size) (w : World) :
    (Instr.slice 9 (.string s) (some (.int .i64 (i : Int))) none none).run Try.prog w = .ok (.string (s.extract i s.size)) w := by
  rw [run_slice_string_from_if (P := Try.prog) w 9 s .i64 (i : Int) Try.underlying9, if_pos (by omega)]
  simp
theorem hasPrefix_is (s p : ByteArray) (w : World) (b : Bool) (h : Hid (Lib.hasPrefix s.data.toList p.data.toList = b)) :
    Calls Try.prog 47 #[.string s, .string p] w fun e w' => e = .returned (.bool b) ∧ w = w' := by
  have := Try.strings_HasPrefix s p w
  rw [h.out] at this
  exact this.mono fun e w' ⟨h1, h2⟩ => ⟨h1, h2.symm⟩
set_option maxHeartbeats 1000000 in
set_option maxRecDepth 100000 in
theorem skip_any (s : ByteArray) (at_ : Nat) (w : World) (hs : s.size < maxLen) (hat : at_ ≤ s.size) :
    Calls Try.prog 28 #[.string s, .int .i64 (at_ : Int)] w fun e w' => e = .returned (.tuple #[.int .i64 ((at_ + skipN (s.data.toList.drop at_) : Nat) : Int), .int .i64 (skipE (s.data.toList.drop at_))]) ∧ w = w' := by
  have Hs := Lib.hid hs
  unfold maxLen at hs
  obtain ⟨T, hT⟩ : ∃ T, at_ + skipN (s.data.toList.drop at_) = T := ⟨_, rfl⟩
  obtain ⟨E, hE⟩ : ∃ E, skipE (s.data.toList.drop at_) = E := ⟨_, rfl⟩
  rw [hT, hE]
  have HT := Lib.hid hT
  have HE := Lib.hid hE
  clear hT hE
  go_enter Try.func28, Try.ntmps28
  go_wp2_with fail
  go_loop [1] (fun i => SkipAt s T E i) (fun i => s.size - (intOf i).toNat)
  case atStart => exact ⟨at_, hat, rfl, HT.out.symm, HE.out.symm⟩
  case round =>
    clear HT HE
    obtain ⟨k, hk, rfl, ha, hb⟩ := hrel
    have Ha := Lib.hid ha
    have Hb := Lib.hid hb
    clear ha hb
    by_cases hlt : k < s.size
    · have dl : decide ((k : Int) < (s.size : Int)) = true := by simp [hlt]
      have hr := run_from s k hk
      have hz := ext_size s k hk
      have hl : (s.extract k s.size).data.toList = s.data.toList.drop k := Lib.extract_to_end s k
      generalize s.extract k s.size = t at *
      have htz : 0 < t.size := by omega
      have hts : t.size ≤ s.size := by omega
      have hd := drop_at t 0 htz
      rw [List.drop_zero] at hd
      have Hl := Lib.hid hl
      have Hz := Lib.hid hz
      clear hl hz
      have Hd := Lib.hid hd
      clear hd
      obtain ⟨b, hb⟩ : ∃ b, blankB t[0] = b := ⟨_, rfl⟩
      have Hbl := Lib.hid hb
      clear hb
      cases b
      · cases e1 : (t[0].toNat : Int) == 59
        · have hp := prefix_com t.data.toList
          obtain ⟨c, hc⟩ : ∃ c, isCom t.data.toList = c := ⟨_, rfl⟩
          rw [hc] at hp
          have Hp := Lib.hid hp
          have Hc := Lib.hid hc
          clear hp hc
          cases c
          · have hg : gapN (s.data.toList.drop k) = 0 := by
              rw [← Hl.out, Hd.out]
              exact gapN_word Hbl.out (u8_ne (n := 59) (by decide) e1) (by rw [← Hd.out]; exact Hc.out)
            have hT : T = k := by rw [Ha.out, skipN_zero hg]; rfl
            have hE : E = 0 := by rw [Hb.out, skipE_zero hg, ← Hl.out, Hc.out]; rfl
            subst hE
            have HT := Lib.hid hT
            clear hT hg
            go_wp2_with (first | (go_at_call 45; refine (blank_any t[0] _).mono ?_; rintro e w' ⟨rfl, rfl⟩; rw [Hbl.out]) | (go_at_call 47; refine (hasPrefix_is t ⟨#[35, 124]⟩ _ false Hp).mono ?_; rintro e w' ⟨rfl, rfl⟩))
            go_ret2
            exact ⟨by rw [HT.out]; rfl, rfl⟩
          · have hcs := comN_le t.data.toList Hc.out
            rw [len_of] at hcs
            have hgc : gapN (s.data.toList.drop k) = comN t.data.toList := by
              rw [← Hl.out, Hd.out]
              exact gapN_com Hbl.out (u8_ne (n := 59) (by decide) e1) (by rw [← Hd.out]; exact Hc.out)
            obtain ⟨m, hm⟩ : ∃ m, comN t.data.toList = m := ⟨_, rfl⟩
            rw [hm] at hgc hcs
            have Hm := Lib.hid hm
            clear hm
            by_cases h0 : m = 0
            · subst h0
              have hT : T = k := by rw [Ha.out, skipN_zero hgc]; rfl
              have hE : E = 31 := by rw [Hb.out, skipE_zero hgc, ← Hl.out, Hc.out]; rfl
              subst hE
              have HT := Lib.hid hT
              clear hT hgc
              have d0 : ((0 : Int) == 0) = true := rfl
              go_wp2_with (first | (go_at_call 45; refine (blank_any t[0] _).mono ?_; rintro e w' ⟨rfl, rfl⟩; rw [Hbl.out]) | (go_at_call 47; refine (hasPrefix_is t ⟨#[35, 124]⟩ _ true Hp).mono ?_; rintro e w' ⟨rfl, rfl⟩) | (go_at_call 48; refine (comment_any t _ (by have := Hs.out; omega) Hc.out).mono ?_; rintro e w' ⟨rfl, rfl⟩; rw [Hm.out]))
              go_ret2
              exact ⟨by rw [HT.out]; rfl, rfl⟩
            · have hT : T = (k + m) + skipN (s.data.toList.drop (k + m)) := by rw [Ha.out, skipN_gap (by rw [hgc]; exact h0), hgc, List.drop_drop]; omega
              have hE : E = skipE (s.data.toList.drop (k + m)) := by rw [Hb.out, skipE_gap (by rw [hgc]; exact h0), hgc, List.drop_drop]
              have HT := Lib.hid hT
              have HE := Lib.hid hE
              clear hT hE hgc
              have d0 : ((m : Int) == 0) = false := by simp; omega
              have Hz' := Hz.out
              have hkm : k + m ≤ s.size := by omega
              clear Hz'
              go_wp2_with (first | (go_at_call 45; refine (blank_any t[0] _).mono ?_; rintro e w' ⟨rfl, rfl⟩; rw [Hbl.out]) | (go_at_call 47; refine (hasPrefix_is t ⟨#[35, 124]⟩ _ true Hp).mono ?_; rintro e w' ⟨rfl, rfl⟩) | (go_at_call 48; refine (comment_any t _ (by have := Hs.out; omega) Hc.out).mono ?_; rintro e w' ⟨rfl, rfl⟩; rw [Hm.out]))
              go_round
              case rel => exact ⟨k + m, hkm, by go_num, HT.out, HE.out⟩
              case measure => simp [intOf]; omega
        · have hne : t[0] ≠ 10 := by rw [u8_is (n := 59) (by decide) e1]; decide
          have hgc : gapN (s.data.toList.drop k) = lineN t.data.toList := by
            rw [← Hl.out, Hd.out]
            exact gapN_line Hbl.out (u8_is (n := 59) (by decide) e1)
          have hcs := lineN_le t.data.toList
          have hcp : 0 < lineN t.data.toList := by rw [Hd.out]; exact lineN_pos hne
          rw [len_of] at hcs
          obtain ⟨m, hm⟩ : ∃ m, lineN t.data.toList = m := ⟨_, rfl⟩
          rw [hm] at hgc hcs hcp
          have Hm := Lib.hid hm
          clear hm hne
          have hT : T = (k + m) + skipN (s.data.toList.drop (k + m)) := by rw [Ha.out, skipN_gap (by rw [hgc]; omega), hgc, List.drop_drop]; omega
          have hE : E = skipE (s.data.toList.drop (k + m)) := by rw [Hb.out, skipE_gap (by rw [hgc]; omega), hgc, List.drop_drop]
          have HT := Lib.hid hT
          have HE := Lib.hid hE
          clear hT hE hgc
          have Hz' := Hz.out
          have hkm : k + m ≤ s.size := by omega
          clear Hz'
          go_wp2_with (first | (go_at_call 45; refine (blank_any t[0] _).mono ?_; rintro e w' ⟨rfl, rfl⟩; rw [Hbl.out]) | (go_at_call 46; refine (line_any t _ (by have := Hs.out; omega)).mono ?_; rintro e w' ⟨rfl, rfl⟩; rw [Hm.out]))
          go_round
          case rel => exact ⟨k + m, hkm, by go_num, HT.out, HE.out⟩
          case measure => simp [intOf]; omega
      · have hg : gapN (s.data.toList.drop k) = 1 := by rw [← Hl.out, Hd.out]; exact gapN_blank Hbl.out
        have hT : T = (k + 1) + skipN (s.data.toList.drop (k + 1)) := by rw [Ha.out, skipN_gap (by rw [hg]; omega), hg, List.drop_drop]; omega
        have hE : E = skipE (s.data.toList.drop (k + 1)) := by rw [Hb.out, skipE_gap (by rw [hg]; omega), hg, List.drop_drop]
        have HT := Lib.hid hT
        have HE := Lib.hid hE
        clear hT hE hg
        go_wp2_with (go_at_call 45; refine (blank_any t[0] _).mono ?_; rintro e w' ⟨rfl, rfl⟩; rw [Hbl.out])
        go_round
        case rel => exact ⟨k + 1, by omega, by go_num, HT.out, HE.out⟩
        case measure => simp [intOf]; omega
    · have dl : decide ((k : Int) < (s.size : Int)) = false := by simp [hlt]
      have hn : s.data.toList.drop k = [] := drop_none s k (by omega)
      have hT : T = k := by rw [Ha.out, hn]; rfl
      have hE : E = 0 := by rw [Hb.out, hn]; rfl
      subst hE
      have HT := Lib.hid hT
      clear hT hn
      go_wp2
      go_ret2
      exact ⟨by rw [HT.out]; rfl, rfl⟩
end Go.Proofs.Ytpeleifkednmoaa.Lx
end
