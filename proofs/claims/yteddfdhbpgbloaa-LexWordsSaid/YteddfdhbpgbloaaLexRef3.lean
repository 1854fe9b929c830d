/- What the document passes over (layer 3). -/
import Derived.Test.YteddfdhbpgbloaaLexRef2
namespace Go.Proofs.Yteddfdhbpgbloaa.Lx
open Go.ChangeShapes Go.WideShapes Go.ChangeAt Go.RowKit
set_option linter.unusedVariables false

theorem lineN_ten (r : Bs) : lineN (10 :: r) = 0 := rfl
theorem lineN_one (c : UInt8) (r : Bs) (h : c ≠ 10) : lineN (c :: r) = lineN r + 1 := by
  unfold lineN
  rw [List.findIdx_cons, beq_eq_false_iff_ne.2 h]
  rfl
def LineAt (s : ByteArray) (L : Nat) (i : Value) : Prop := ∃ k : Nat, k ≤ s.size ∧ i = .int .i64 (k : Int) ∧ L = k + lineN (s.data.toList.drop k)
def RComAt (s : ByteArray) (b : Nat) (o i : Value) : Prop := ∃ (j k : Nat), j ≤ k ∧ b + 2 ≤ k ∧ k ≤ s.size ∧ i = .int .i64 (k : Int) ∧ o = .int .i64 (j : Int) ∧ comR 1 (s.data.toList.drop (b + 2)) = (comR j (s.data.toList.drop k)).map (· + (k - (b + 2)))
set_option maxHeartbeats 4000000 in
set_option maxRecDepth 100000 in
theorem rskip_any (s : ByteArray) (at_ : Nat) (w : World) (hs : s.size < 1000000) (hat : at_ ≤ s.size) :
    Calls Try.prog 52 #[.string s, .int .i64 (at_ : Int)] w fun e w' => e = .returned (.tuple #[.int .i64 ((at_ + skipN (s.data.toList.drop at_) : Nat) : Int), .int .i64 (skipE (s.data.toList.drop at_))]) ∧ w = w' := by
  obtain ⟨T, hT⟩ : ∃ T, at_ + skipN (s.data.toList.drop at_) = T := ⟨_, rfl⟩
  obtain ⟨E, hE⟩ : ∃ E, skipE (s.data.toList.drop at_) = E := ⟨_, rfl⟩
  rw [hT, hE]
  have HT := Lib.hid hT
  have HE := Lib.hid hE
  clear hT hE
  go_enter Try.func52, Try.ntmps52
  go_wp2_with fail
  go_loop [1] (fun i => SkipAt s T E i) (fun i => s.size - (intOf i).toNat)
  case atStart => exact ⟨at_, hat, rfl, HT.out.symm, HE.out.symm⟩
  case round =>
    clear HT HE
    obtain ⟨k, hk, rfl, ha, hb⟩ := hrel
    have Ha := Lib.hid ha
    have Hb := Lib.hid hb
    clear ha hb
    by_cases hlt : k < s.size
    · have dl : decide ((k : Int) < (s.size : Int)) = true := by simp [hlt]
      have hd := drop_at s k hlt
      have Hd := Lib.hid hd
      clear hd
      obtain ⟨b, hb⟩ : ∃ b, blankB s[k] = b := ⟨_, rfl⟩
      have Hbl := Lib.hid hb
      clear hb
      cases b
      · cases e1 : (s[k].toNat : Int) == 59
        · cases hcm : isCom (s.data.toList.drop k)
          · have hg : gapN (s.data.toList.drop k) = 0 := by
              rw [Hd.out]
              exact gapN_word Hbl.out (u8_ne (n := 59) (by decide) e1) (by rw [← Hd.out]; exact hcm)
            have hT : T = k := by rw [Ha.out, skipN_zero hg]; rfl
            have hE : E = 0 := by rw [Hb.out, skipE_zero hg, hcm]; rfl
            subst hE
            have HT := Lib.hid hT
            clear hT hg
            by_cases hk1 : k + 1 < s.size
            · have dk : decide ((k : Int) + 1 < (s.size : Int)) = true := decide_eq_true (by omega)
              have i1 : (k : Int) + 1 < (s.size : Int) := by omega
              cases e35 : (s[k].toNat : Int) == 35
              · clear hcm
                go_wp2_with (go_at_call 51; refine (rblank_any s[k] _).mono ?_; rintro e w' ⟨rfl, rfl⟩; rw [Hbl.out])
                go_ret2
                exact ⟨by rw [HT.out]; rfl, rfl⟩
              · cases e124 : (s[k + 1].toNat : Int) == 124
                · clear hcm
                  go_wp2_with (go_at_call 51; refine (rblank_any s[k] _).mono ?_; rintro e w' ⟨rfl, rfl⟩; rw [Hbl.out])
                  go_ret2
                  exact ⟨by rw [HT.out]; rfl, rfl⟩
                · exfalso
                  rw [Hd.out, drop_at s (k + 1) hk1, u8_is (n := 35) (by decide) e35, u8_is (n := 124) (by decide) e124] at hcm
                  exact absurd hcm (by show ¬ (true = false); decide)
            · have dk : decide ((k : Int) + 1 < (s.size : Int)) = false := decide_eq_false (by omega)
              have hk2 : ¬ (k : Int) + 1 < (s.size : Int) := by omega
              clear hcm
              go_wp2_with (go_at_call 51; refine (rblank_any s[k] _).mono ?_; rintro e w' ⟨rfl, rfl⟩; rw [Hbl.out])
              go_ret2
              exact ⟨by rw [HT.out]; rfl, rfl⟩
          · obtain ⟨r0, hr0⟩ := isCom_iff.1 hcm
            have hk1 : k + 1 < s.size := by
              have := congrArg List.length hr0
              rw [List.length_drop, len_of] at this
              simp only [List.length_cons] at this
              omega
            have h2 := hr0
            rw [Hd.out, drop_at s (k + 1) hk1] at h2
            obtain ⟨z35, h2⟩ := List.cons.inj h2
            obtain ⟨z124, _⟩ := List.cons.inj h2
            have e35 : ((s[k].toNat : Int) == 35) = true := by rw [z35]; rfl
            have e124 : ((s[k + 1].toNat : Int) == 124) = true := by rw [z124]; rfl
            clear z35 z124
            have hgc : gapN (s.data.toList.drop k) = comN (s.data.toList.drop k) := by
              rw [Hd.out]
              exact gapN_com Hbl.out (u8_ne (n := 59) (by decide) e1) (by rw [← Hd.out]; exact hcm)
            have hN : comN (s.data.toList.drop k) = match comR 1 (s.data.toList.drop (k + 2)) with | some n => n + 2 | none => 0 := by
              unfold comN; rw [List.drop_drop]; rfl
            have HG := Lib.hid (And.intro hgc (And.intro hN hcm))
            have dk : decide ((k : Int) + 1 < (s.size : Int)) = true := decide_eq_true (by omega)
            have i1 : (k : Int) + 1 < (s.size : Int) := by omega
            clear hr0 h2 hgc hN hcm
            go_wp2_with (go_at_call 51; refine (rblank_any s[k] _).mono ?_; rintro e w' ⟨rfl, rfl⟩; rw [Hbl.out])
            clear e35 e124 dk
            go_loop [7, 1] (fun o i => RComAt s k o i) (fun _ i => s.size - (intOf i).toNat)
            case atStart => exact ⟨1, k + 2, by omega, Nat.le_refl _, hk1, by go_num, rfl, by simp⟩
            case round =>
              obtain ⟨j, q, hjq, hkq, hq, rfl, rfl, hc⟩ := hrel
              have HC := Lib.hid hc
              clear hc
              cases j with
              | zero =>
                have hn : comN (s.data.toList.drop k) = q - k := by
                  rw [HG.out.2.1, HC.out, show comR 0 (s.data.toList.drop q) = some 0 by simp [comR]]
                  show 0 + (q - (k + 2)) + 2 = q - k
                  omega
                have hT : T = q + skipN (s.data.toList.drop q) := by rw [Ha.out, skipN_gap (by rw [HG.out.1, hn]; omega), HG.out.1, hn, List.drop_drop, show k + (q - k) = q by omega]; omega
                have hE : E = skipE (s.data.toList.drop q) := by rw [Hb.out, skipE_gap (by rw [HG.out.1, hn]; omega), HG.out.1, hn, List.drop_drop, show k + (q - k) = q by omega]
                have HT := Lib.hid hT
                have HE := Lib.hid hE
                clear hn hT hE
                have d0 : decide (((0 : Nat) : Int) > 0) = false := by decide
                go_wp2_with fail
                go_round
                case rel => exact ⟨q, hq, rfl, HT.out, HE.out⟩
                case measure => simp [intOf]; omega
              | succ j =>
                have d0 : decide (((j + 1 : Nat) : Int) > 0) = true := decide_eq_true (by omega)
                by_cases hq1 : q + 1 < s.size
                · have dq : decide ((q : Int) + 1 ≥ (s.size : Int)) = false := decide_eq_false (by omega)
                  have dq2 : ¬ (s.size : Int) ≤ (q : Int) + 1 := by omega
                  have hx := ext_two s q hq1
                  have hd2 : s.data.toList.drop q = s[q] :: s[q + 1] :: s.data.toList.drop (q + 2) := by rw [drop_at s q (by omega), drop_at s (q + 1) hq1]
                  have hr := run_sub s q (q + 2 : Nat) (by omega) (by omega) (by omega)
                  simp only [Int.toNat_natCast] at hr
                  rw [show ((q + 2 : Nat) : Int) = (q : Int) + 2 by omega] at hr
                  by_cases c1 : s[q] = 35 ∧ s[q + 1] = 124
                  · have g1 : ((s.extract q (q + 2)).toList == [35, 124]) = true := by rw [hx, c1.1, c1.2]; rfl
                    have hn : comR 1 (s.data.toList.drop (k + 2)) = (comR (j + 1 + 1) (s.data.toList.drop (q + 2))).map (· + (q + 2 - (k + 2))) := by
                      rw [HC.out, hd2, c1.1, c1.2, comR_open, Option.map_map]; congr 1; funext n; simp only [Function.comp]; omega
                    have Hn := Lib.hid hn
                    clear hn hx hd2 c1
                    go_wp2_with fail
                    go_round
                    case rel => exact ⟨j + 1 + 1, q + 2, by omega, by omega, by omega, by go_num, by go_num, Hn.out⟩
                    case measure => simp [intOf]; omega
                  · have g1 : ((s.extract q (q + 2)).toList == [35, 124]) = false := by rw [hx]; simp; exact fun a b => c1 ⟨a, b⟩
                    by_cases c2 : s[q] = 124 ∧ s[q + 1] = 35
                    · have g2 : ((s.extract q (q + 2)).toList == [124, 35]) = true := by rw [hx, c2.1, c2.2]; rfl
                      have hn : comR 1 (s.data.toList.drop (k + 2)) = (comR j (s.data.toList.drop (q + 2))).map (· + (q + 2 - (k + 2))) := by
                        rw [HC.out, hd2, c2.1, c2.2, comR_shut, Option.map_map]; congr 1; funext n; simp only [Function.comp]; omega
                      have Hn := Lib.hid hn
                      clear hn hx hd2 c1 c2
                      go_wp2_with fail
                      go_round
                      case rel => exact ⟨j, q + 2, by omega, by omega, by omega, by go_num, by go_num, Hn.out⟩
                      case measure => simp [intOf]; omega
                    · have g2 : ((s.extract q (q + 2)).toList == [124, 35]) = false := by rw [hx]; simp; exact fun a b => c2 ⟨a, b⟩
                      have hn : comR 1 (s.data.toList.drop (k + 2)) = (comR (j + 1) (s.data.toList.drop (q + 1))).map (· + (q + 1 - (k + 2))) := by
                        rw [HC.out, hd2, comR_one j _ _ _ c1 c2, Option.map_map, drop_at s (q + 1) hq1]; congr 1; funext n; simp only [Function.comp]; omega
                      have Hn := Lib.hid hn
                      clear hn hx hd2 c1 c2
                      go_wp2_with fail
                      go_round
                      case rel => exact ⟨j + 1, q + 1, by omega, by omega, by omega, by go_num, by go_num, Hn.out⟩
                      case measure => simp [intOf]; omega
                · have dq : decide ((q : Int) + 1 ≥ (s.size : Int)) = true := decide_eq_true (by omega)
                  have dq2 : (s.size : Int) ≤ (q : Int) + 1 := by omega
                  have hn : comN (s.data.toList.drop k) = 0 := by
                    rw [HG.out.2.1, HC.out]
                    by_cases hqs : q = s.size
                    · rw [drop_none s q (by omega)]; rfl
                    · rw [drop_at s q (by omega), drop_none s (q + 1) (by omega)]; rfl
                  have hg0 : gapN (s.data.toList.drop k) = 0 := by rw [HG.out.1]; exact hn
                  have hT : T = k := by rw [Ha.out, skipN_zero hg0]; rfl
                  have hE : E = 31 := by rw [Hb.out, skipE_zero hg0, HG.out.2.2]; rfl
                  subst hE
                  have HT := Lib.hid hT
                  clear hT hg0 hn
                  go_wp2_with fail
                  go_ret2
                  exact ⟨by rw [HT.out]; rfl, rfl⟩
        · have hne : s[k] ≠ 10 := by rw [u8_is (n := 59) (by decide) e1]; decide
          have hgc : gapN (s.data.toList.drop k) = lineN (s.data.toList.drop k) := by
            rw [Hd.out]
            exact gapN_line Hbl.out (u8_is (n := 59) (by decide) e1)
          have hcp : 0 < lineN (s.data.toList.drop k) := by rw [Hd.out]; exact lineN_pos hne
          have hcs := lineN_le (s.data.toList.drop k)
          rw [List.length_drop, len_of] at hcs
          obtain ⟨m, hm⟩ : ∃ m, k + lineN (s.data.toList.drop k) = m := ⟨_, rfl⟩
          have hT : T = m + skipN (s.data.toList.drop m) := by rw [Ha.out, skipN_gap (by rw [hgc]; omega), hgc, List.drop_drop, ← hm]; omega
          have hE : E = skipE (s.data.toList.drop m) := by rw [Hb.out, skipE_gap (by rw [hgc]; omega), hgc, List.drop_drop, ← hm]
          have HT := Lib.hid hT
          have HE := Lib.hid hE
          have HM := Lib.hid hm
          have hmb : k < m ∧ m ≤ s.size := by omega
          clear hT hE hgc hm hcs hcp hne
          go_wp2_with (go_at_call 51; refine (rblank_any s[k] _).mono ?_; rintro e w' ⟨rfl, rfl⟩; rw [Hbl.out])
          go_loop [1] (fun i => LineAt s m i) (fun i => s.size - (intOf i).toNat)
          case atStart => exact ⟨k, hk, rfl, HM.out.symm⟩
          case round =>
            obtain ⟨q, hq, rfl, hl⟩ := hrel
            by_cases hqt : q < s.size
            · have dq : decide ((q : Int) < (s.size : Int)) = true := by simp [hqt]
              have hdq := drop_at s q hqt
              rw [hdq] at hl
              cases e2 : (s[q].toNat : Int) == 10
              · rw [lineN_one _ _ (u8_ne (n := 10) (by decide) e2)] at hl
                have e3 : ((s[q].toNat : Int) != 10) = true := by simp [bne, e2]
                have HL := Lib.hid hl
                clear hl hdq
                go_wp2_with fail
                go_round
                case rel => exact ⟨q + 1, by omega, by go_num, by rw [HL.out]; omega⟩
                case measure => simp [intOf]; omega
              · rw [u8_is (n := 10) (by decide) e2] at hl
                have e3 : ((s[q].toNat : Int) != 10) = false := by simp [bne, e2]
                have hqm : m = q := by rw [hl]; exact Nat.add_zero _
                subst hqm
                clear hl hdq
                go_wp2_with fail
                go_round
                case rel => exact ⟨m, hmb.2, rfl, HT.out, HE.out⟩
                case measure => simp [intOf]; omega
            · have dq : decide ((q : Int) < (s.size : Int)) = false := by simp [hqt]
              have hqm : m = q := by rw [hl, drop_none s q (by omega)]; exact Nat.add_zero _
              subst hqm
              clear hl
              go_wp2_with fail
              go_round
              case rel => exact ⟨m, hmb.2, rfl, HT.out, HE.out⟩
              case measure => simp [intOf]; omega
      · have hg : gapN (s.data.toList.drop k) = 1 := by rw [Hd.out]; exact gapN_blank Hbl.out
        have hT : T = (k + 1) + skipN (s.data.toList.drop (k + 1)) := by rw [Ha.out, skipN_gap (by rw [hg]; omega), hg, List.drop_drop]; omega
        have hE : E = skipE (s.data.toList.drop (k + 1)) := by rw [Hb.out, skipE_gap (by rw [hg]; omega), hg, List.drop_drop]
        have HT := Lib.hid hT
        have HE := Lib.hid hE
        clear hT hE hg
        go_wp2_with (go_at_call 51; refine (rblank_any s[k] _).mono ?_; rintro e w' ⟨rfl, rfl⟩; rw [Hbl.out])
        go_round
        case rel => exact ⟨k + 1, by omega, by go_num, HT.out, HE.out⟩
        case measure => simp [intOf]; omega
    · have dl : decide ((k : Int) < (s.size : Int)) = false := by simp [hlt]
      have hn : s.data.toList.drop k = [] := drop_none s k (by omega)
      have hT : T = k := by rw [Ha.out, hn]; rfl
      have hE : E = 0 := by rw [Hb.out, hn]; rfl
      subst hE
      have HT := Lib.hid hT
      clear hT hn
      go_wp2
      go_ret2
      exact ⟨by rw [HT.out]; rfl, rfl⟩
end Go.Proofs.Yteddfdhbpgbloaa.Lx
