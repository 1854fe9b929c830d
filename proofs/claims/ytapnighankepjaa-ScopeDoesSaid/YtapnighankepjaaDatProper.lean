/- Whether a datum may be by itself: what the program's functions return. -/
import Derived.Test.YtapnighankepjaaDatText
namespace Go.Proofs.Ytapnighankepjaa.Da
open Go.ChangeShapes Go.WideShapes Go.ChangeAt Go.RowKit

theorem in_fix (a : Int) (w : World) :
    Calls Try.prog 59 #[.int .i64 a] w fun e w' => e = .returned (.bool (decide (-1152921504606846976 ≤ a) && decide (a ≤ 1152921504606846975))) ∧ w = w' := by
  cases d1 : decide (-1152921504606846976 ≤ a) <;> cases d2 : decide (a ≤ 1152921504606846975)
  all_goals
    go_enter Try.func59, Try.ntmps59
    go_wp2
    go_ret
    exact ⟨rfl, rfl⟩
def lowB (c : UInt8) : Bool := !decide (128 ≤ (c.toNat : Int))
def textB (s : ByteArray) : Bool := !decide (256 < (s.size : Int)) && allB lowB s
def TextAt (s : ByteArray) (i : Value) : Prop := ∃ k : Nat, k ≤ s.size ∧ i = .int .i64 (k : Int) ∧ (s.data.toList.take k).all lowB = true
theorem text_any (s : ByteArray) (w : World) (hs : s.size ≤ maxLen) :
    Calls Try.prog 60 #[.string s] w fun e w' => e = .returned (.bool (textB s)) ∧ w = w' := by
  unfold maxLen at hs
  unfold textB
  cases d5 : decide (256 < (s.size : Int))
  · go_enter Try.func60, Try.ntmps60
    go_wp2
    go_loop [9] (fun i => TextAt s i) (fun i => s.size - (intOf i).toNat)
    case atStart => exact ⟨0, Nat.zero_le _, rfl, rfl⟩
    case round =>
      obtain ⟨k, hk, rfl, ha⟩ := hrel
      have Ha := Lib.hid ha
      clear ha
      by_cases hlt : k < s.size
      · have dl : decide ((k : Int) < (s.size : Int)) = true := by simp [hlt]
        have hn := all_snoc s lowB k hlt
        have hno := all_no s lowB k hlt
        rw [Ha.out] at hn
        unfold lowB at hn hno
        cases d6 : decide (128 ≤ (s[k].toNat : Int))
        · rw [d6] at hn
          have Hn := Lib.hid hn
          clear hn hno
          go_wp2
          go_round
          case rel => exact ⟨k + 1, by omega, by go_num, Hn.out⟩
          case measure => simp [intOf]; omega
        · rw [d6] at hno
          have Hno := Lib.hid (hno rfl)
          clear hn hno
          go_wp2
          go_ret
          exact ⟨by unfold lowB; rw [Hno.out]; rfl, rfl⟩
      · have dl : decide ((k : Int) < (s.size : Int)) = false := by simp [hlt]
        have hf := all_full s lowB k (by omega)
        rw [Ha.out] at hf
        have Hf := Lib.hid hf
        clear hf
        go_wp2
        go_ret
        exact ⟨by rw [← Hf.out]; rfl, rfl⟩
  · go_enter Try.func60, Try.ntmps60
    go_wp2
    go_ret
    exact ⟨rfl, rfl⟩
def markB (x : Int) : Bool := !(decide (x < 1) || decide (1048576 < x))
def allI (p : Int → Bool) (m : List Int) : Bool := m.all p
def marksB (m : List Int) : Bool := !decide (16 < (m.length : Int)) && allI markB m
theorem allI_snoc (m : List Int) (p : Int → Bool) (k : Nat) (h : k < m.length) : (m.take (k + 1)).all p = ((m.take k).all p && p (m.getD k 0)) := by
  rw [List.take_succ_eq_append_getElem h, List.all_append]; simp [h]
theorem allI_full (m : List Int) (p : Int → Bool) (k : Nat) (h : m.length ≤ k) : (m.take k).all p = allI p m := by
  unfold allI; rw [List.take_of_length_le h]
theorem allI_no (m : List Int) (p : Int → Bool) (k : Nat) (h : k < m.length) (hk : p (m.getD k 0) = false) : allI p m = false := by
  unfold allI; rw [List.all_eq_false]
  exact ⟨m[k], by simp, by simpa [h] using hk⟩
def MarksAt (m : List Int) (i : Value) : Prop := ∃ k : Nat, k ≤ m.length ∧ i = .int .i64 (k : Int) ∧ (m.take k).all markB = true
theorem marks_any (a : Option Addr) (len cap : Nat) (m : List Int) (B : Nat) (w : World) (hm : IntRow w (Lo B) a len cap m) :
    Calls Try.prog 62 #[.slice a len cap] w fun e w' => e = .returned (.bool (marksB m)) ∧ w = w' := by
  obtain ⟨rfl, h1, h2, _, _, _, hc⟩ := hm
  have Hc := Lib.hid hc
  clear hc
  unfold maxLen at h2
  unfold marksB
  cases d5 : decide (16 < (m.length : Int))
  · go_enter Try.func62, Try.ntmps62
    go_wp2
    go_loop [10] (fun i => MarksAt m i) (fun i => m.length - (intOf i).toNat)
    case atStart => exact ⟨0, Nat.zero_le _, rfl, rfl⟩
    case round =>
      obtain ⟨k, hk, rfl, ha⟩ := hrel
      have Ha := Lib.hid ha
      clear ha
      by_cases hlt : k < m.length
      · have dl : decide ((k : Int) < (m.length : Int)) = true := by simp [hlt]
        have hn := allI_snoc m markB k hlt
        have hno := allI_no m markB k hlt
        rw [Ha.out] at hn
        obtain ⟨b, off, rfl, _, hcell⟩ := Hc.out k hlt
        obtain ⟨x, hx⟩ : ∃ x, m.getD k 0 = x := ⟨_, rfl⟩
        rw [hx] at hn hno hcell
        clear hx
        unfold markB at hn hno
        cases d6 : decide (x < 1) <;> cases d7 : decide (1048576 < x)
        case false.false =>
          rw [d6, d7] at hn
          have Hn := Lib.hid hn
          clear hn hno
          go_wp2
          go_round
          case rel => exact ⟨k + 1, by omega, by go_num, Hn.out⟩
          case measure => simp [intOf]; omega
        all_goals
          rw [d6, d7] at hno
          have Hno := Lib.hid (hno rfl)
          clear hn hno
          go_wp2
          go_ret
          exact ⟨by unfold markB; rw [Hno.out]; rfl, rfl⟩
      · have dl : decide ((k : Int) < (m.length : Int)) = false := by simp [hlt]
        have hf := allI_full m markB k (by omega)
        rw [Ha.out] at hf
        have Hf := Lib.hid hf
        clear hf
        go_wp2
        go_ret
        exact ⟨by rw [← Hf.out]; rfl, rfl⟩
  · go_enter Try.func62, Try.ntmps62
    go_wp2
    go_ret
    exact ⟨rfl, rfl⟩
end Go.Proofs.Ytapnighankepjaa.Da
