/- The texts of symbols and strings of layer 2: what the program's small functions return. -/
import Derived.Test.YtapnighankepjaaDatBase
import Derived.Test.YtapnighankepjaaRows
import Derived.Test.YtapnighankepjaaShelf
namespace Go.Proofs.Ytapnighankepjaa.Da
open Go.ChangeShapes Go.WideShapes Go.ChangeAt Go.RowKit

def beginSet : List UInt8 := [33, 36, 37, 38, 42, 47, 58, 60, 61, 62, 63, 94, 95, 126]
def moreSet : List UInt8 := [43, 45, 46, 64]
def begB (c : UInt8) : Bool := (decide (97 ≤ (c.toNat : Int)) && decide ((c.toNat : Int) ≤ 122)) || (decide (65 ≤ (c.toNat : Int)) && decide ((c.toNat : Int) ≤ 90)) || decide (0 ≤ Lib.indexByte beginSet c)
def contB (c : UInt8) : Bool := begB c || (decide (48 ≤ (c.toNat : Int)) && decide ((c.toNat : Int) ≤ 57)) || decide (0 ≤ Lib.indexByte moreSet c)
theorem toNat_back (c : UInt8) : ((c.toNat : Int)).toNat.toUInt8 = c := by simp
theorem begins_any (c : UInt8) (w : World) :
    Calls Try.prog 66 #[.int .u8 (c.toNat : Int)] w fun e w' => e = .returned (.bool (begB c)) ∧ w = w' := by
  have hx := Try.strings_IndexByte ⟨beginSet.toArray⟩ (c.toNat : Int) w
  rw [toNat_back] at hx
  have hx' : Calls Try.prog 70 #[.string ⟨#[33, 36, 37, 38, 42, 47, 58, 60, 61, 62, 63, 94, 95, 126]⟩, .int .u8 (c.toNat : Int)] w fun e w' => e = .returned (.int .i64 (Lib.indexByte beginSet c)) ∧ w = w' := hx.mono fun e w' ⟨h1, h2⟩ => ⟨h1, h2.symm⟩
  have Hx := Lib.hid hx'
  clear hx hx'
  unfold begB
  obtain ⟨i, hi⟩ : ∃ i, Lib.indexByte beginSet c = i := ⟨_, rfl⟩
  rw [hi] at Hx
  rw [hi]
  clear hi
  cases a1 : decide (97 ≤ (c.toNat : Int)) <;> cases a2 : decide ((c.toNat : Int) ≤ 122) <;> cases a3 : decide (65 ≤ (c.toNat : Int)) <;> cases a4 : decide ((c.toNat : Int) ≤ 90)
  all_goals
    go_enter Try.func66, Try.ntmps66
    go_wp2_with (go_at_call 70; refine Hx.out.mono ?_; rintro e w' ⟨rfl, rfl⟩)
    go_ret
    exact ⟨rfl, rfl⟩
theorem continues_any (c : UInt8) (w : World) :
    Calls Try.prog 67 #[.int .u8 (c.toNat : Int)] w fun e w' => e = .returned (.bool (contB c)) ∧ w = w' := by
  have hx := Try.strings_IndexByte ⟨moreSet.toArray⟩ (c.toNat : Int) w
  rw [toNat_back] at hx
  have hx' : Calls Try.prog 70 #[.string ⟨#[43, 45, 46, 64]⟩, .int .u8 (c.toNat : Int)] w fun e w' => e = .returned (.int .i64 (Lib.indexByte moreSet c)) ∧ w = w' := hx.mono fun e w' ⟨h1, h2⟩ => ⟨h1, h2.symm⟩
  have Hx := Lib.hid hx'
  clear hx hx'
  have hb := begins_any c w
  have Hb := Lib.hid hb
  clear hb
  unfold contB
  obtain ⟨i, hi⟩ : ∃ i, Lib.indexByte moreSet c = i := ⟨_, rfl⟩
  rw [hi] at Hx
  rw [hi]
  clear hi
  obtain ⟨b, hb⟩ : ∃ b, begB c = b := ⟨_, rfl⟩
  rw [hb] at Hb
  rw [hb]
  clear hb
  cases b <;> cases a3 : decide (48 ≤ (c.toNat : Int)) <;> cases a4 : decide ((c.toNat : Int) ≤ 57)
  all_goals
    go_enter Try.func67, Try.ntmps67
    go_wp2_with (first | (go_at_call 70; refine Hx.out.mono ?_; rintro e w' ⟨rfl, rfl⟩) | (go_at_call 66; refine Hb.out.mono ?_; rintro e w' ⟨rfl, rfl⟩))
    go_ret
    exact ⟨rfl, rfl⟩
def allB (p : UInt8 → Bool) (s : ByteArray) : Bool := s.data.toList.all p
def headB (p : UInt8 → Bool) (s : ByteArray) : Bool := if h : 0 < s.size then p s[0] else false
theorem head_pos (p : UInt8 → Bool) (s : ByteArray) (h : 0 < s.size) : headB p s = p s[0] := by unfold headB; rw [dif_pos h]
theorem all_snoc (s : ByteArray) (p : UInt8 → Bool) (k : Nat) (h : k < s.size) : (s.data.toList.take (k + 1)).all p = ((s.data.toList.take k).all p && p s[k]) := by
  rw [List.take_succ_eq_append_getElem (by simpa using h), List.all_append]; simp; rfl
theorem all_full (s : ByteArray) (p : UInt8 → Bool) (k : Nat) (h : s.size ≤ k) : (s.data.toList.take k).all p = allB p s := by
  unfold allB; rw [List.take_of_length_le (by simpa using h)]
theorem all_no (s : ByteArray) (p : UInt8 → Bool) (k : Nat) (h : k < s.size) (hk : p s[k] = false) : allB p s = false := by
  unfold allB; rw [List.all_eq_false]
  exact ⟨s[k], by simp [ByteArray.getElem_eq_getElem_data], by simp [hk]⟩
def symB (s : ByteArray) : Bool :=
  s.toList == [43] || s.toList == [45] || s.toList == [46, 46, 46] || (!s.toList.isEmpty && !decide (32 < (s.size : Int)) && headB begB s && allB contB s)
theorem size_pos {s : ByteArray} (h : s.toList.isEmpty = false) : 0 < s.size := by
  rcases Nat.eq_zero_or_pos s.size with h0 | h0
  · have : s.toList = [] := by rw [ByteArray.toList_eq]; exact List.eq_nil_of_length_eq_zero (by simpa using h0)
    simp [this] at h
  · exact h0
def SymAt (s : ByteArray) (i : Value) : Prop := ∃ k : Nat, k ≤ s.size ∧ i = .int .i64 (k : Int) ∧ (s.data.toList.take k).all contB = true
set_option maxHeartbeats 400000 in
theorem symbol_any (s : ByteArray) (w : World) (hs : s.size ≤ maxLen) :
    Calls Try.prog 61 #[.string s] w fun e w' => e = .returned (.bool (symB s)) ∧ w = w' := by
  unfold maxLen at hs
  unfold symB
  cases b1 : s.toList == [43] <;> cases b2 : s.toList == [45] <;> cases b3 : s.toList == [46, 46, 46]
  case false.false.false =>
    cases b4 : s.toList.isEmpty
    · have hpos := size_pos b4
      by_cases h5 : 32 < (s.size : Int)
      · have d5 : decide (32 < (s.size : Int)) = true := by simp [h5]
        rw [d5]
        go_enter Try.func61, Try.ntmps61
        go_wp2_with fail
        go_ret
        exact ⟨rfl, rfl⟩
      · have d5 : decide (32 < (s.size : Int)) = false := by simp [h5]
        rw [d5, head_pos _ _ hpos]
        obtain ⟨b, hb⟩ : ∃ b, begB s[0] = b := ⟨_, rfl⟩
        have Hb := Lib.hid hb
        rw [hb]
        clear hb
        cases b
        · go_enter Try.func61, Try.ntmps61
          go_wp2_with (go_at_call 66; refine (begins_any s[0] _).mono ?_; rintro e w' ⟨rfl, rfl⟩; rw [Hb.out])
          go_ret
          exact ⟨rfl, rfl⟩
        · go_enter Try.func61, Try.ntmps61
          go_wp2_with (go_at_call 66; refine (begins_any s[0] _).mono ?_; rintro e w' ⟨rfl, rfl⟩; rw [Hb.out])
          go_loop [29] (fun i => SymAt s i) (fun i => s.size - (intOf i).toNat)
          case atStart => exact ⟨0, Nat.zero_le _, rfl, rfl⟩
          case round =>
            obtain ⟨k, hk, rfl, ha⟩ := hrel
            have Ha := Lib.hid ha
            clear ha
            by_cases hlt : k < s.size
            · have dl : decide ((k : Int) < (s.size : Int)) = true := by simp [hlt]
              have hn := all_snoc s contB k hlt
              have hno := all_no s contB k hlt
              obtain ⟨b, hb⟩ : ∃ b, contB s[k] = b := ⟨_, rfl⟩
              have Hb2 := Lib.hid hb
              rw [hb, Ha.out] at hn
              rw [hb] at hno
              clear hb
              cases b
              · have Hno := Lib.hid (hno rfl)
                clear hn hno
                go_wp2_with (go_at_call 67; refine (continues_any s[k] _).mono ?_; rintro e w' ⟨rfl, rfl⟩; rw [Hb2.out])
                go_ret
                exact ⟨by rw [Hno.out]; rfl, rfl⟩
              · have Hn := Lib.hid hn
                clear hn hno
                go_wp2_with (go_at_call 67; refine (continues_any s[k] _).mono ?_; rintro e w' ⟨rfl, rfl⟩; rw [Hb2.out])
                go_round
                case rel => exact ⟨k + 1, by omega, by go_num, Hn.out⟩
                case measure => simp [intOf]; omega
            · have dl : decide ((k : Int) < (s.size : Int)) = false := by simp [hlt]
              have hf := all_full s contB k (by omega)
              rw [Ha.out] at hf
              have Hf := Lib.hid hf
              clear hf
              go_wp2
              go_ret
              exact ⟨by rw [← Hf.out]; rfl, rfl⟩
    · go_enter Try.func61, Try.ntmps61
      go_wp2_with fail
      go_ret
      exact ⟨rfl, rfl⟩
  all_goals
    simp only [Bool.true_or, Bool.or_true]
    go_enter Try.func61, Try.ntmps61
    go_wp2_with fail
    go_ret
    exact ⟨rfl, rfl⟩
end Go.Proofs.Ytapnighankepjaa.Da
