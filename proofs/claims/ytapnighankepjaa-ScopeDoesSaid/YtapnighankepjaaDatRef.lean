/- The document's answers for texts of layer 2, and that they are the program's. -/
import Derived.Test.YtapnighankepjaaDatText
namespace Go.Proofs.Ytapnighankepjaa.Da
open Go.ChangeShapes Go.WideShapes Go.ChangeAt Go.RowKit

def inSet (set : ByteArray) (c : UInt8) : Bool := !allB (fun x => !(x == c)) set
theorem u8_eq (a b : UInt8) : ((a.toNat : Int) == (b.toNat : Int)) = (a == b) := by
  by_cases h : a = b
  · simp [h]
  · have : a.toNat ≠ b.toNat := fun e => h (UInt8.toNat_inj.1 e)
    rw [beq_eq_false_iff_ne.2 h, beq_eq_false_iff_ne]
    omega
def InAt (set : ByteArray) (c : UInt8) (i : Value) : Prop := ∃ k : Nat, k ≤ set.size ∧ i = .int .i64 (k : Int) ∧ (set.data.toList.take k).all (fun x => !(x == c)) = true
set_option maxHeartbeats 400000 in
theorem isIn_any (c : UInt8) (set : ByteArray) (w : World) (hs : set.size ≤ maxLen) :
    Calls Try.prog 69 #[.int .u8 (c.toNat : Int), .string set] w fun e w' => e = .returned (.bool (inSet set c)) ∧ w = w' := by
  unfold maxLen at hs
  unfold inSet
  go_enter Try.func69, Try.ntmps69
  go_wp2_with fail
  go_loop [5] (fun i => InAt set c i) (fun i => set.size - (intOf i).toNat)
  case atStart => exact ⟨0, Nat.zero_le _, rfl, rfl⟩
  case round =>
    obtain ⟨k, hk, rfl, ha⟩ := hrel
    have Ha := Lib.hid ha
    clear ha
    by_cases hlt : k < set.size
    · have dl : decide ((k : Int) < (set.size : Int)) = true := by simp [hlt]
      have hn := all_snoc set (fun x => !(x == c)) k hlt
      have hno := all_no set (fun x => !(x == c)) k hlt
      have hq := u8_eq set[k] c
      obtain ⟨b, hb⟩ : ∃ b, (set[k] == c) = b := ⟨_, rfl⟩
      simp only [hb] at hn hno hq
      rw [Ha.out] at hn
      cases b
      · have Hn := Lib.hid hn
        clear hn hno hb
        go_wp2_with fail
        go_round
        case rel => exact ⟨k + 1, by omega, by go_num, Hn.out⟩
        case measure => simp [intOf]; omega
      · have Hno := Lib.hid (hno rfl)
        clear hn hno hb
        go_wp2_with fail
        go_ret
        exact ⟨by rw [Hno.out]; rfl, rfl⟩
    · have dl : decide ((k : Int) < (set.size : Int)) = false := by simp [hlt]
      have hf := all_full set (fun x => !(x == c)) k (by omega)
      rw [Ha.out] at hf
      have Hf := Lib.hid hf
      clear hf
      go_wp2
      go_ret
      exact ⟨by rw [← Hf.out]; rfl, rfl⟩
def beginT : ByteArray := ⟨#[33, 36, 37, 38, 42, 47, 58, 60, 61, 62, 63, 94, 95, 126]⟩
def moreT : ByteArray := ⟨#[48, 49, 50, 51, 52, 53, 54, 55, 56, 57, 43, 45, 46, 64]⟩
def letB (c : UInt8) : Bool := (decide ((c.toNat : Int) ≥ 97) && decide ((c.toNat : Int) ≤ 122)) || (decide ((c.toNat : Int) ≥ 65) && decide ((c.toNat : Int) ≤ 90)) || inSet beginT c
theorem letB_all : ∀ n : Fin 256, letB (UInt8.ofNat n.val) = begB (UInt8.ofNat n.val) ∧ (letB (UInt8.ofNat n.val) || inSet moreT (UInt8.ofNat n.val)) = contB (UInt8.ofNat n.val) := by decide +kernel
theorem letB_eq (c : UInt8) : letB c = begB c ∧ (letB c || inSet moreT c) = contB c := by
  have h := letB_all ⟨c.toNat, c.toNat_lt⟩
  simpa using h
theorem letter_any (c : UInt8) (w : World) :
    Calls Try.prog 68 #[.int .u8 (c.toNat : Int)] w fun e w' => e = .returned (.bool (begB c)) ∧ w = w' := by
  have hx := isIn_any c beginT w (by decide)
  have Hx := Lib.hid hx
  clear hx
  rw [← (letB_eq c).1]
  unfold letB
  obtain ⟨i, hi⟩ : ∃ i, inSet beginT c = i := ⟨_, rfl⟩
  rw [hi] at Hx
  rw [hi]
  clear hi
  cases a1 : decide ((c.toNat : Int) ≥ 97) <;> cases a2 : decide ((c.toNat : Int) ≤ 122) <;> cases a3 : decide ((c.toNat : Int) ≥ 65) <;> cases a4 : decide ((c.toNat : Int) ≤ 90)
  all_goals
    go_enter Try.func68, Try.ntmps68
    go_wp2_with (go_at_call 69; refine Hx.out.mono ?_; rintro e w' ⟨rfl, rfl⟩)
    go_ret
    exact ⟨rfl, rfl⟩
set_option maxHeartbeats 400000 in
theorem rsymbol_any (s : ByteArray) (w : World) (hs : s.size ≤ maxLen) :
    Calls Try.prog 65 #[.string s] w fun e w' => e = .returned (.bool (symB s)) ∧ w = w' := by
  unfold maxLen at hs
  unfold symB
  cases b1 : s.toList == [43] <;> cases b2 : s.toList == [45] <;> cases b3 : s.toList == [46, 46, 46]
  case false.false.false =>
    cases b4 : s.toList.isEmpty
    · have hpos := size_pos b4
      have d4 : decide ((s.size : Int) < 1) = false := by simp only [decide_eq_false_iff_not]; omega
      by_cases h5 : (s.size : Int) > 32
      · have d5 : decide ((s.size : Int) > 32) = true := by simpa using h5
        have d5' : decide (32 < (s.size : Int)) = true := d5
        rw [d5']
        go_enter Try.func65, Try.ntmps65
        go_wp2_with fail
        go_ret
        exact ⟨rfl, rfl⟩
      · have d5 : decide ((s.size : Int) > 32) = false := by simpa using h5
        have d5' : decide (32 < (s.size : Int)) = false := d5
        rw [d5', head_pos _ _ hpos]
        obtain ⟨b, hb⟩ : ∃ b, begB s[0] = b := ⟨_, rfl⟩
        have Hb := Lib.hid hb
        rw [hb]
        cases b
        · clear hb
          go_enter Try.func65, Try.ntmps65
          go_wp2_with (go_at_call 68; refine (letter_any s[0] _).mono ?_; rintro e w' ⟨rfl, rfl⟩; rw [Hb.out])
          go_ret
          exact ⟨rfl, rfl⟩
        · have h1 : (s.data.toList.take (0 + 1)).all contB = true := by rw [all_snoc s contB 0 hpos]; simp [contB, hb]
          have H1 := Lib.hid h1
          clear h1 hb
          go_enter Try.func65, Try.ntmps65
          go_wp2_with (go_at_call 68; refine (letter_any s[0] _).mono ?_; rintro e w' ⟨rfl, rfl⟩; rw [Hb.out])
          go_loop [3] (fun i => SymAt s i) (fun i => s.size - (intOf i).toNat)
          case atStart => exact ⟨1, hpos, rfl, H1.out⟩
          case round =>
            obtain ⟨k, hk, rfl, ha⟩ := hrel
            have Ha := Lib.hid ha
            clear ha
            by_cases hlt : k < s.size
            · have dl : decide ((k : Int) < (s.size : Int)) = true := by simp [hlt]
              have hn := all_snoc s contB k hlt
              have hno := all_no s contB k hlt
              have hl := letB_eq s[k]
              obtain ⟨c, hc⟩ : ∃ c, inSet moreT s[k] = c := ⟨_, rfl⟩
              obtain ⟨b, hb⟩ : ∃ b, begB s[k] = b := ⟨_, rfl⟩
              rw [hb, hc] at hl
              rw [hl.1] at hl
              rw [← hl.2, Ha.out] at hn
              rw [← hl.2] at hno
              have Hb2 := Lib.hid hb
              have Hc2 := Lib.hid hc
              clear hb hc hl
              cases b
              · cases c
                · have Hno := Lib.hid (hno rfl)
                  clear hn hno
                  go_wp2_with (first | (go_at_call 68; refine (letter_any s[k] _).mono ?_; rintro e w' ⟨rfl, rfl⟩; rw [Hb2.out]) | (go_at_call 69; refine (isIn_any s[k] moreT _ (by decide)).mono ?_; rintro e w' ⟨rfl, rfl⟩; rw [Hc2.out]))
                  go_ret
                  exact ⟨by rw [Hno.out]; rfl, rfl⟩
                · have Hn := Lib.hid hn
                  clear hn hno
                  go_wp2_with (first | (go_at_call 68; refine (letter_any s[k] _).mono ?_; rintro e w' ⟨rfl, rfl⟩; rw [Hb2.out]) | (go_at_call 69; refine (isIn_any s[k] moreT _ (by decide)).mono ?_; rintro e w' ⟨rfl, rfl⟩; rw [Hc2.out]))
                  go_round
                  case rel => exact ⟨k + 1, by omega, by go_num, Hn.out⟩
                  case measure => simp [intOf]; omega
              · have Hn := Lib.hid hn
                clear hn hno
                go_wp2_with (first | (go_at_call 68; refine (letter_any s[k] _).mono ?_; rintro e w' ⟨rfl, rfl⟩; rw [Hb2.out]) | (go_at_call 69; refine (isIn_any s[k] moreT _ (by decide)).mono ?_; rintro e w' ⟨rfl, rfl⟩; rw [Hc2.out]))
                go_round
                case rel => exact ⟨k + 1, by omega, by go_num, Hn.out⟩
                case measure => simp [intOf]; omega
            · have dl : decide ((k : Int) < (s.size : Int)) = false := by simp [hlt]
              have hf := all_full s contB k (by omega)
              rw [Ha.out] at hf
              have Hf := Lib.hid hf
              clear hf
              go_wp2
              go_ret
              exact ⟨by rw [← Hf.out]; rfl, rfl⟩
    · have d4 : decide ((s.size : Int) < 1) = true := by
        rw [ByteArray.toList_eq] at b4
        have : s.data.toList = [] := by simpa using b4
        have : s.size = 0 := by show s.data.size = 0; rw [← Array.length_toList, this]; rfl
        simp [this]
      go_enter Try.func65, Try.ntmps65
      go_wp2_with fail
      go_ret
      exact ⟨rfl, rfl⟩
  all_goals
    simp only [Bool.true_or, Bool.or_true]
    go_enter Try.func65, Try.ntmps65
    go_wp2_with fail
    go_ret
    exact ⟨rfl, rfl⟩
end Go.Proofs.Ytapnighankepjaa.Da
