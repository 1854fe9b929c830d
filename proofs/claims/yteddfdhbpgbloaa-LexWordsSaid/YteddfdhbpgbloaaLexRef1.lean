/- The document's small scanning functions of layer 3. -/
import Derived.Test.YteddfdhbpgbloaaLexWords
import Derived.IntWalk
namespace Go.Proofs.Yteddfdhbpgbloaa.Lx
open Go.ChangeShapes Go.WideShapes Go.ChangeAt Go.RowKit
set_option linter.unusedVariables false

/-- Whether no run goes on here. -/
def endB : Bs → Bool | [] => true | c :: _ => delimB c
set_option maxHeartbeats 4000000 in
theorem rmark_any (s : ByteArray) (a : Nat) (w : World) (hs : s.size ≤ maxLen) :
    Calls Try.prog 126 #[.string s, .int .i64 (a : Int)] w fun e w' => e = .returned (.bool (endB (s.data.toList.drop a))) ∧ w = w' := by
  unfold maxLen at hs
  by_cases h : a < s.size
  · have d1 : decide ((a : Int) ≥ (s.size : Int)) = false := by simp; omega
    have d3 : decide (s.size ≤ a) = false := decide_eq_false (by omega)
    have i1 : (a : Int) < s.size := by omega
    rw [drop_at s a h]
    show Calls _ _ _ _ fun e w' => e = .returned (.bool (delimB s[a])) ∧ w = w'
    unfold delimB
    obtain ⟨b, hb⟩ : ∃ b, blankB s[a] = b := ⟨_, rfl⟩
    rw [hb]
    have Hb := Lib.hid hb
    clear hb
    cases b <;> cases a0 : ((s[a].toNat : Int) == 40) <;> cases a1 : ((s[a].toNat : Int) == 41) <;> cases a2 : ((s[a].toNat : Int) == 34) <;> cases a3 : ((s[a].toNat : Int) == 59)
    all_goals
      go_enter Try.func126, Try.ntmps126
      go_wp2_with (go_at_call 51; refine (rblank_any s[a] _).mono ?_; rintro e w' ⟨rfl, rfl⟩; rw [Hb.out])
      go_ret
      first | exact ⟨rfl, rfl⟩ | exact ⟨by show Ending.returned (.bool (decide (s.size ≤ a))) = _; rw [d3]; rfl, rfl⟩
  · have d1 : decide ((a : Int) ≥ (s.size : Int)) = true := by simp; omega
    have d3 : decide (s.size ≤ a) = true := decide_eq_true (by omega)
    rw [drop_none s a (by omega)]
    go_enter Try.func126, Try.ntmps126
    go_wp2_with fail
    go_ret
    first | exact ⟨rfl, rfl⟩ | exact ⟨by show Ending.returned (.bool (decide (s.size ≤ a))) = _; rw [d3]; rfl, rfl⟩
theorem hexV_three : ∀ n : Fin 256, (digitB (UInt8.ofNat n.val) = true → hexV (UInt8.ofNat n.val) = (UInt8.ofNat n.val).toNat - 48) ∧ (digitB (UInt8.ofNat n.val) = false → (97 ≤ (UInt8.ofNat n.val).toNat ∧ (UInt8.ofNat n.val).toNat ≤ 102 → hexV (UInt8.ofNat n.val) = (UInt8.ofNat n.val).toNat - 87) ∧ (¬ (97 ≤ (UInt8.ofNat n.val).toNat ∧ (UInt8.ofNat n.val).toNat ≤ 102) → hexV (UInt8.ofNat n.val) = -1)) := by decide +kernel
theorem hexV_is (c : UInt8) : (digitB c = true → hexV c = c.toNat - 48) ∧ (digitB c = false → (97 ≤ c.toNat ∧ c.toNat ≤ 102 → hexV c = c.toNat - 87) ∧ (¬ (97 ≤ c.toNat ∧ c.toNat ≤ 102) → hexV c = -1)) := by
  have h := hexV_three ⟨c.toNat, c.toNat_lt⟩
  simpa using h
/-- The number of two digits, or -1. -/
def hexR : Bs → Int | a :: b :: _ => decI [120, a, b] | _ => -1
theorem hexR_no (a : UInt8) (r : Bs) (h : hexV a < 0) : hexR (a :: r) = -1 := by
  cases r with
  | nil => rfl
  | cons b r =>
    show (if _ ∧ _ then _ else _) = _
    rw [if_neg (by omega)]
theorem hexR_no2 (a b : UInt8) (r : Bs) (h : hexV b < 0) : hexR (a :: b :: r) = -1 := by
  show (if _ ∧ _ then _ else _) = _
  rw [if_neg (by omega)]
theorem hexR_yes (a b : UInt8) (r : Bs) (h1 : 0 ≤ hexV a) (h2 : 0 ≤ hexV b) : hexR (a :: b :: r) = if 16 * hexV a + hexV b > 127 then -1 else 16 * hexV a + hexV b := by
  have := hexV_le b
  show (if 120 = 120 ∧ 0 ≤ hexV a ∧ hexV a ≤ 7 ∧ 0 ≤ hexV b then 16 * hexV a + hexV b else -1) = _
  by_cases h : hexV a ≤ 7
  · rw [if_pos ⟨rfl, h1, h, h2⟩, if_neg (by omega)]
  · rw [if_neg (by omega), if_pos (by omega)]
def HexAt (l : Bs) (p : Nat) (n i : Value) : Prop :=
  (n = .int .i64 0 ∧ i = .int .i64 (p : Int)) ∨ (∃ a r, l = a :: r ∧ 0 ≤ hexV a ∧ n = .int .i64 (hexV a) ∧ i = .int .i64 ((p : Int) + 1)) ∨ (∃ a b r, l = a :: b :: r ∧ 0 ≤ hexV a ∧ 0 ≤ hexV b ∧ n = .int .i64 (16 * hexV a + hexV b) ∧ i = .int .i64 ((p : Int) + 2))
set_option maxRecDepth 100000 in
set_option maxHeartbeats 4000000 in
theorem hex_any (s : ByteArray) (p : Nat) (w : World) (hs : s.size < 1000000) (hp : p ≤ s.size + 1) :
    Calls Try.prog 125 #[.string s, .int .i64 (p : Int)] w fun e w' => e = .returned (.int .i64 (hexR (s.data.toList.drop p))) ∧ w = w' := by
  obtain ⟨T, hT⟩ : ∃ T, hexR (s.data.toList.drop p) = T := ⟨_, rfl⟩
  rw [hT]
  have HT := Lib.hid hT
  clear hT
  have hp2 : (p : Int) ≤ 1000000 := by omega
  go_enter Try.func125, Try.ntmps125
  go_wp2_with fail
  go_loop [5, 6] (fun n i => HexAt (s.data.toList.drop p) p n i) (fun _ i => (p : Nat) + 2 - (intOf i).toNat)
  case atStart => exact .inl ⟨rfl, rfl⟩
  case round =>
    rcases hrel with ⟨rfl, rfl⟩ | ⟨a, r, hl, ha, rfl, rfl⟩ | ⟨a, b, r, hl, ha, hb, rfl, rfl⟩
    · by_cases hlt : p < s.size
      · have i1 : (p : Int) < (s.size : Int) := by omega
        have dl : decide ((p : Int) < (p : Int) + 2) = true := decide_eq_true (by omega)
        have dg : decide ((p : Int) ≥ (s.size : Int)) = false := by simp; omega
        have h3 := hexV_is s[p]
        have hle := hexV_le s[p]
        have hN := hexV_le s[p]
        have hl := drop_at s p hlt
        have Hl := Lib.hid hl
        clear hl
        obtain ⟨b0, hb0⟩ : ∃ b, digitB s[p] = b := ⟨_, rfl⟩
        have Hb := Lib.hid hb0
        rw [hb0] at h3
        cases b0
        · by_cases hA : 97 ≤ s[p].toNat ∧ s[p].toNat ≤ 102
          · have hv := (h3.2 rfl).1 hA
            have HV : Hid (0 ≤ hexV s[p] ∧ Value.int .i64 ((s[p].toNat : Int) - 97 + 10) = .int .i64 (hexV s[p])) := ⟨by omega, by congr 1; omega⟩
            have g1 : 97 ≤ (s[p].toNat : Int) := by omega
            have g2 : (s[p].toNat : Int) ≤ 102 := by omega
            have g3 : decide ((s[p].toNat : Int) ≥ 97) = true := by simp; omega
            have g4 : decide ((s[p].toNat : Int) ≤ 102) = true := by simp; omega
            clear h3 hv hb0 HT hA
            go_wp2_with (go_at_call 124; refine (rdigit_any s[p] _).mono ?_; rintro e w' ⟨rfl, rfl⟩; rw [Hb.out])
            go_round
            case rel => exact .inr (.inl ⟨s[p], s.data.toList.drop (p + 1), Hl.out, HV.out.1, HV.out.2, by go_num⟩)
            case measure => first | (simp [intOf]; done) | (simp [intOf]; omega)
          · have hv := (h3.2 rfl).2 hA
            have hT : T = -1 := by rw [← HT.out, Hl.out]; exact hexR_no _ _ (by omega)
            subst hT
            clear h3 hv hb0 HT
            by_cases g : 97 ≤ s[p].toNat
            · have g3 : decide ((s[p].toNat : Int) ≥ 97) = true := by simp; omega
              have g4 : decide ((s[p].toNat : Int) ≤ 102) = false := by simp; omega
              clear hA g
              go_wp2_with (go_at_call 124; refine (rdigit_any s[p] _).mono ?_; rintro e w' ⟨rfl, rfl⟩; rw [Hb.out])
              go_ret
              exact ⟨rfl, rfl⟩
            · have g3 : decide ((s[p].toNat : Int) ≥ 97) = false := by simp; omega
              clear hA g
              go_wp2_with (go_at_call 124; refine (rdigit_any s[p] _).mono ?_; rintro e w' ⟨rfl, rfl⟩; rw [Hb.out])
              go_ret
              exact ⟨rfl, rfl⟩
        · have hv := h3.1 rfl
          have hd : 48 ≤ s[p].toNat ∧ s[p].toNat ≤ 57 := by unfold digitB at hb0; simp at hb0; omega
          have HV : Hid (0 ≤ hexV s[p] ∧ Value.int .i64 ((s[p].toNat : Int) - 48) = .int .i64 (hexV s[p])) := ⟨by omega, by congr 1; omega⟩
          have g1 : 48 ≤ (s[p].toNat : Int) := by omega
          have g2 : (s[p].toNat : Int) ≤ 57 := by omega
          clear h3 hv hb0 HT hd
          go_wp2_with (go_at_call 124; refine (rdigit_any s[p] _).mono ?_; rintro e w' ⟨rfl, rfl⟩; rw [Hb.out])
          go_round
          case rel => exact .inr (.inl ⟨s[p], s.data.toList.drop (p + 1), Hl.out, HV.out.1, HV.out.2, by go_num⟩)
          case measure => first | (simp [intOf]; done) | (simp [intOf]; omega)
      · have dl : decide ((p : Int) < (p : Int) + 2) = true := decide_eq_true (by omega)
        have dg : decide ((p : Int) ≥ (s.size : Int)) = true := by simp; omega
        have hT : T = -1 := by rw [← HT.out, drop_none s p (by omega)]; rfl
        subst hT
        clear HT
        go_wp2_with fail
        go_ret
        exact ⟨rfl, rfl⟩
    · by_cases hlt : p + 1 < s.size
      · have i1 : (p : Int) + 1 < (s.size : Int) := by omega
        have dl : decide ((p : Int) + 1 < (p : Int) + 2) = true := decide_eq_true (by omega)
        have dg : decide ((p : Int) + 1 ≥ (s.size : Int)) = false := by simp; omega
        have h3 := hexV_is s[p + 1]
        have hle := hexV_le s[p + 1]
        have hN := hexV_le a
        have hl2 : s.data.toList.drop p = a :: s[p + 1] :: s.data.toList.drop (p + 2) := by
          have h4 := drop_at s p (by omega)
          rw [hl] at h4
          injection h4 with e1 e2
          rw [hl, e2, drop_at s (p + 1) hlt]
        have Hl := Lib.hid hl2
        clear hl2 hl
        obtain ⟨b0, hb0⟩ : ∃ b, digitB s[p + 1] = b := ⟨_, rfl⟩
        have Hb := Lib.hid hb0
        rw [hb0] at h3
        cases b0
        · by_cases hA : 97 ≤ s[p + 1].toNat ∧ s[p + 1].toNat ≤ 102
          · have hv := (h3.2 rfl).1 hA
            have HV : Hid (0 ≤ hexV s[p + 1] ∧ Value.int .i64 (16 * hexV a + ((s[p + 1].toNat : Int) - 97) + 10) = .int .i64 (16 * hexV a + hexV s[p + 1])) := ⟨by omega, by congr 1; omega⟩
            have g1 : 97 ≤ (s[p + 1].toNat : Int) := by omega
            have g2 : (s[p + 1].toNat : Int) ≤ 102 := by omega
            have g3 : decide ((s[p + 1].toNat : Int) ≥ 97) = true := by simp; omega
            have g4 : decide ((s[p + 1].toNat : Int) ≤ 102) = true := by simp; omega
            clear h3 hv hb0 HT hA
            go_wp2_with (go_at_call 124; refine (rdigit_any s[p + 1] _).mono ?_; rintro e w' ⟨rfl, rfl⟩; rw [Hb.out])
            go_round
            case rel => exact .inr (.inr ⟨a, s[p + 1], _, Hl.out, ha, HV.out.1, HV.out.2, by go_num⟩)
            case measure => first | (simp [intOf]; done) | (simp [intOf]; omega)
          · have hv := (h3.2 rfl).2 hA
            have hT : T = -1 := by rw [← HT.out, Hl.out]; exact hexR_no2 _ _ _ (by omega)
            subst hT
            clear h3 hv hb0 HT
            by_cases g : 97 ≤ s[p + 1].toNat
            · have g3 : decide ((s[p + 1].toNat : Int) ≥ 97) = true := by simp; omega
              have g4 : decide ((s[p + 1].toNat : Int) ≤ 102) = false := by simp; omega
              clear hA g
              go_wp2_with (go_at_call 124; refine (rdigit_any s[p + 1] _).mono ?_; rintro e w' ⟨rfl, rfl⟩; rw [Hb.out])
              go_ret
              exact ⟨rfl, rfl⟩
            · have g3 : decide ((s[p + 1].toNat : Int) ≥ 97) = false := by simp; omega
              clear hA g
              go_wp2_with (go_at_call 124; refine (rdigit_any s[p + 1] _).mono ?_; rintro e w' ⟨rfl, rfl⟩; rw [Hb.out])
              go_ret
              exact ⟨rfl, rfl⟩
        · have hv := h3.1 rfl
          have hd : 48 ≤ s[p + 1].toNat ∧ s[p + 1].toNat ≤ 57 := by unfold digitB at hb0; simp at hb0; omega
          have HV : Hid (0 ≤ hexV s[p + 1] ∧ Value.int .i64 (16 * hexV a + ((s[p + 1].toNat : Int) - 48)) = .int .i64 (16 * hexV a + hexV s[p + 1])) := ⟨by omega, by congr 1; omega⟩
          have g1 : 48 ≤ (s[p + 1].toNat : Int) := by omega
          have g2 : (s[p + 1].toNat : Int) ≤ 57 := by omega
          clear h3 hv hb0 HT hd
          go_wp2_with (go_at_call 124; refine (rdigit_any s[p + 1] _).mono ?_; rintro e w' ⟨rfl, rfl⟩; rw [Hb.out])
          go_round
          case rel => exact .inr (.inr ⟨a, s[p + 1], _, Hl.out, ha, HV.out.1, HV.out.2, by go_num⟩)
          case measure => first | (simp [intOf]; done) | (simp [intOf]; omega)
      · have dl : decide ((p : Int) + 1 < (p : Int) + 2) = true := decide_eq_true (by omega)
        have dg : decide ((p : Int) + 1 ≥ (s.size : Int)) = true := by simp; omega
        have hT : T = -1 := by
          rw [← HT.out, hl]
          have h4 := congrArg List.length hl
          rw [List.length_drop, len_of, List.length_cons] at h4
          have h5 : r = [] := List.eq_nil_of_length_eq_zero (by omega)
          rw [h5]; rfl
        subst hT
        clear HT
        go_wp2_with fail
        go_ret
        exact ⟨rfl, rfl⟩
    · have dl : decide ((p : Int) + 2 < (p : Int) + 2) = false := by simp
      have h1 := hexV_le a
      have h2 := hexV_le b
      have hT := HT.out
      rw [hl, hexR_yes a b r ha hb] at hT
      clear HT hl
      by_cases h : 16 * hexV a + hexV b > 127
      · rw [if_pos h] at hT
        subst hT
        have d1 : decide (16 * hexV a + hexV b > 127) = true := by simpa using h
        go_wp2_with fail
        go_ret
        exact ⟨rfl, rfl⟩
      · rw [if_neg h] at hT
        have d1 : decide (16 * hexV a + hexV b > 127) = false := by simpa using h
        have HT := Lib.hid hT
        clear hT
        go_wp2_with fail
        go_ret
        exact ⟨by rw [← HT.out]; rfl, rfl⟩
end Go.Proofs.Yteddfdhbpgbloaa.Lx
