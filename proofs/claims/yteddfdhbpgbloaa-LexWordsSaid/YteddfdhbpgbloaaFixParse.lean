/- What layer 1, and the document, read of a text: for every text. -/
import Derived.Test.YteddfdhbpgbloaaFixAwake
import Derived.Test.YteddfdhbpgbloaaFixNum
namespace Go.Proofs.Yteddfdhbpgbloaa.Fx
open Go.ChangeShapes Go.WideShapes Go.ChangeAt Go.RowKit

theorem ret_bool {x y : Bool} (h : x = y) : Ending.returned (.bool x) = Ending.returned (.bool y) := by rw [h]
theorem byte_at (t : ByteArray) (k : Nat) (_h : k < t.size) (h' : k < t.data.toList.length) : t.data.toList[k] = t[k] := by
  rw [Array.getElem_toList]; rfl
theorem dig_no {c : UInt8} (h : c.toNat < 48 ∨ 57 < c.toNat) : dig c = false := by
  cases e : dig c
  · rfl
  · have := dig_of e; omega
theorem head_ne (c : UInt8) : (false || (!false && decide (some c ≠ some 48))) = ((c.toNat : Int) != 48) := by
  by_cases h : c = 48
  · subst h; rfl
  · have : c.toNat ≠ 48 := fun e => h (UInt8.toNat_inj.1 e)
    have a : ((c.toNat : Int) != 48) = true := by rw [bne_iff_ne]; omega
    rw [a]; simp [h]
theorem len_of (t : ByteArray) : t.data.toList.length = t.size := by rw [Array.length_toList]; rfl
theorem okB_of_bad (t : ByteArray) (k : Nat) (h : k < t.size) (hd : dig t[k] = false) : okB t.data.toList = false := by
  have h' : k < t.data.toList.length := by rw [len_of]; exact h
  exact okB_bad h' (by rw [byte_at t k h h']; exact hd)
theorem okB_of_all (t : ByteArray) (h : ∀ j (hj : j < t.size), dig t[j] = true) : okB t.data.toList = (decide (t.data.toList = [48]) || (!t.data.toList.isEmpty && decide (t.data.toList.head? ≠ some 48))) := by
  refine okB_all (fun j hj => ?_)
  have hj' : j < t.size := by rw [← len_of]; exact hj
  rw [byte_at t j hj' hj]; exact h j hj'
def ProperAt (t : ByteArray) (i : Value) : Prop := ∃ k : Nat, k ≤ t.size ∧ i = .int .i64 (k : Int) ∧ ∀ j (hj : j < t.size), j < k → dig t[j] = true
set_option maxHeartbeats 800000 in
theorem proper_fix (t : ByteArray) (w : World) (hs : t.size ≤ maxLen) (b : Bool) (hb : Hid (okB t.data.toList = b)) :
    Calls Try.prog 133 #[.string t] w fun e w' => e = .returned (.bool b) ∧ w = w' := by
  unfold maxLen at hs
  go_enter Try.func133, Try.ntmps133
  go_wp2
  go_loop [6] (fun i => ProperAt t i) (fun i => t.size - (intOf i).toNat)
  case atStart => exact ⟨0, Nat.zero_le _, rfl, fun _ _ h => absurd h (Nat.not_lt_zero _)⟩
  case round =>
    obtain ⟨k, hk, rfl, hd⟩ := hrel
    have Hd := Lib.hid hd
    clear hd
    by_cases hlt : k < t.size
    · by_cases c1 : 48 ≤ (t[k].toNat : Int)
      · by_cases c2 : (t[k].toNat : Int) ≤ 57
        · have Hk : Hid (dig t[k] = true) := dig_mk (by omega) (by omega)
          go_wp2
          go_round
          case rel =>
            refine ⟨k + 1, by omega, by go_num, fun j hj hjk => ?_⟩
            by_cases e : j = k
            · subst e; exact Hk.out
            · exact Hd.out j hj (by omega)
          case measure => simp [intOf]; omega
        · have Hk : Hid (dig t[k] = false) := dig_no (by omega)
          have e1 := okB_of_bad t k hlt Hk.out
          rw [hb.out] at e1
          subst e1
          have d2 : decide (57 < (t[k].toNat : Int)) = true := decide_eq_true (by omega)
          have d1 : decide ((t[k].toNat : Int) < 48) = false := decide_eq_false (by omega)
          go_wp2
          go_ret
          exact ⟨rfl, rfl⟩
      · have Hk : Hid (dig t[k] = false) := dig_no (by omega)
        have e1 := okB_of_bad t k hlt Hk.out
        rw [hb.out] at e1
        subst e1
        have d1 : decide ((t[k].toNat : Int) < 48) = true := decide_eq_true (by omega)
        go_wp2
        go_ret
        exact ⟨rfl, rfl⟩
    · obtain rfl : k = t.size := by omega
      have e1 := okB_of_all t (fun j hj => Hd.out j hj hj)
      rw [hb.out] at e1
      have tl : t.toList = t.data.toList := ByteArray.toList_eq t
      have Tl := Lib.hid tl
      have E1 := Lib.hid e1
      clear e1 tl
      by_cases a1 : t.toList = [48]
      · obtain rfl : b = true := by rw [E1.out, ← Tl.out, a1]; rfl
        go_wp2
        go_ret
        exact ⟨rfl, rfl⟩
      · have f1 : (t.toList == [48]) = false := by simp [a1]
        by_cases a2 : t.toList = []
        · obtain rfl : b = false := by rw [E1.out, ← Tl.out, a2]; rfl
          have f2 : t.toList.isEmpty = true := by simp [a2]
          clear a1 a2
          go_wp2
          go_ret
          exact ⟨rfl, rfl⟩
        · have f2 : t.toList.isEmpty = false := by simp [a2]
          have hpos : 0 < t.size := by
            rw [← len_of, ← Tl.out]
            exact List.length_pos_iff.2 a2
          have hh : b = ((t[0].toNat : Int) != 48) := by
            rw [E1.out, ← Tl.out, decide_eq_false a1, f2]
            have h0 : t.toList.head? = some t[0] := by
              rw [Tl.out, List.head?_eq_getElem?, List.getElem?_eq_getElem (by rw [len_of]; exact hpos), byte_at t 0 hpos]
            rw [h0]
            exact head_ne t[0]
          have Hh := Lib.hid hh
          clear a1 a2 hh
          go_wp2
          go_ret
          exact ⟨ret_bool Hh.out.symm, rfl⟩
theorem trim_body (l : List UInt8) : Lib.trimPrefix l [45] = body l ∧ Lib.hasPrefix l [45] = negB l := by
  cases l with
  | nil => exact ⟨rfl, rfl⟩
  | cons c l =>
    by_cases h : c = 45
    · subst h; exact ⟨rfl, rfl⟩
    · have e : Lib.hasPrefix (c :: l) [45] = false := by
        show ((45 : UInt8) == c && _) = false
        rw [beq_eq_false_iff_ne.2 (Ne.symm h)]; rfl
      have n : negB (c :: l) = false := by unfold negB; simp [h]
      refine ⟨?_, e.trans n.symm⟩
      unfold body
      rw [n]
      simp [Lib.trimPrefix, e]
theorem cut_is (s T : ByteArray) (g : Bool) (w : World) (hT : T.data.toList = body s.data.toList) (hg : negB s.data.toList = g) :
    Calls Try.prog 132 #[.string s, .string ⟨#[45]⟩] w fun e w' => e = .returned (.tuple #[.string T, .bool g]) ∧ w = w' := by
  refine (Try.strings_CutPrefix s ⟨#[45]⟩ w).mono ?_
  rintro e w' ⟨rfl, rfl⟩
  refine ⟨?_, rfl⟩
  have e1 := (trim_body s.data.toList).1
  have e2 := (trim_body s.data.toList).2
  rw [show (⟨#[45]⟩ : ByteArray).data.toList = [45] from rfl, e1, e2, hg, ← hT]
def ParAt (T : ByteArray) (m i : Value) : Prop := ∃ k : Nat, k ≤ T.size ∧ i = .int .i64 (k : Int) ∧ m = .int .u64 ((numL (T.data.toList.take k) : Nat) : Int) ∧ numL (T.data.toList.take k) ≤ 1152921504606846976
theorem numL_at (T : ByteArray) (k : Nat) (h : k < T.size) : numL (T.data.toList.take (k + 1)) = 10 * numL (T.data.toList.take k) + (T[k].toNat - 48) := by
  have h' : k < T.data.toList.length := by rw [len_of]; exact h
  rw [numL_take _ _ h', byte_at T k h h']
theorem dig_at (T : ByteArray) (k : Nat) (h : k < T.size) (ho : okB T.data.toList = true) : 48 ≤ T[k].toNat ∧ T[k].toNat ≤ 57 := by
  have h' : k < T.data.toList.length := by rw [len_of]; exact h
  have := okB_dig ho k h'
  rw [byte_at T k h h'] at this
  exact dig_of this
set_option maxHeartbeats 1600000 in
theorem parse_fix_form (s T : ByteArray) (g : Bool) (R1 R2 : Int) (w : World) (ht : T.size ≤ maxLen) (hT : Hid (T.data.toList = body s.data.toList)) (hg : Hid (negB s.data.toList = g)) (hok : Hid (okB T.data.toList = true)) (hz : (s.toList == [45, 48]) = false)
    (hR1 : Hid (parV s.data.toList = R1)) (hR2 : Hid (parE s.data.toList = R2)) (hf : Hid (formB s.data.toList = true)) :
    Calls Try.prog 121 #[.string s] w fun e w' => e = .returned (.tuple #[.int .i64 R1, .int .i64 R2]) ∧ w = w' := by
  have Ht := Lib.hid ht
  unfold maxLen at ht
  go_enter Try.func121, Try.ntmps121
  go_wp2_with fail
  refine (cut_is s T g _ hT.out hg.out).mono ?_; rintro e w' ⟨rfl, rfl⟩
  go_wp2_with fail
  refine (proper_fix T _ Ht.out true hok).mono ?_; rintro e w' ⟨rfl, rfl⟩
  go_wp2_with fail
  go_loop [6, 22] (fun m i => ParAt T m i) (fun _ i => T.size - (intOf i).toNat)
  case atStart => exact ⟨0, Nat.zero_le _, rfl, rfl, by simp [numL]⟩
  case round =>
    obtain ⟨k, hk, rfl, rfl, hn⟩ := hrel
    by_cases hlt : k < T.size
    · obtain ⟨d1, d2⟩ := dig_at T k hlt hok.out
      have hnx := numL_at T k hlt
      have hmo := numL_mono T.data.toList (k + 1)
      obtain ⟨n, en⟩ : ∃ n, numL (T.data.toList.take k) = n := ⟨_, rfl⟩
      rw [en] at hn hnx
      have En := Lib.hid en
      have dl : decide ((k : Int) < (T.size : Int)) = true := by simp [hlt]
      by_cases hov : 1152921504606846976 < 10 * n + (T[k].toNat - 48)
      · have hp := par_over hf.out (by rw [← hT.out]; omega)
        rw [hR1.out, hR2.out] at hp
        obtain ⟨rfl, rfl⟩ := hp
        have d3 : decide ((1152921504606846976 : Int) < 10 * (n : Int) + ((T[k].toNat : Int) - 48)) = true := decide_eq_true (by omega)
        clear hnx hmo
        rw [en]
        clear en
        go_wp2
        go_ret2
        exact ⟨rfl, rfl⟩
      · have Hnx := Lib.hid hnx
        clear hnx hmo
        have d3 : decide ((1152921504606846976 : Int) < 10 * (n : Int) + ((T[k].toNat : Int) - 48)) = false := decide_eq_false (by omega)
        rw [en]
        clear en
        go_wp2
        go_round
        case rel => exact ⟨k + 1, by omega, by go_num, congrArg (Value.int .u64) (by rw [Hnx.out]; omega), by rw [Hnx.out]; omega⟩
        case measure => simp [intOf]; omega
    · obtain rfl : k = T.size := by omega
      have hall : T.data.toList.take T.size = T.data.toList := List.take_of_length_le (by rw [len_of]; exact Nat.le_refl _)
      obtain ⟨n, en⟩ : ∃ n, numL (T.data.toList.take T.size) = n := ⟨_, rfl⟩
      have en2 : numL (body s.data.toList) = n := by rw [← hT.out, ← hall]; exact en
      rw [en] at hn ⊢
      have dl : decide ((T.size : Int) < (T.size : Int)) = false := by simp
      clear hall en
      have h63 : (n : Int) ≤ 1152921504606846976 := by omega
      cases g
      · have hp : gotV (n : Int) = R1 ∧ gotE (n : Int) = R2 := by
          rw [← hR1.out, ← hR2.out]
          by_cases c : n ≤ 1152921504606846975
          · have := par_pos hf.out (by rw [en2]; exact c) hg.out
            rw [this.1, this.2, en2]
            exact got_in (in_mk (by omega) (by omega))
          · have := par_top hf.out (by rw [en2]; omega) hg.out
            rw [this.1, this.2]
            exact got_out (in_not (by omega))
        have Hp := Lib.hid hp
        clear hp en2
        go_wp2_with (go_at_call 134; refine (signed_pos _ _ (by omega) h63).mono ?_; rintro e w' ⟨rfl, rfl⟩; rw [Hp.out.1, Hp.out.2])
        go_ret2
        exact ⟨rfl, rfl⟩
      · have hp := par_neg hf.out (by rw [en2]; exact hn) hg.out
        rw [en2, hR1.out, hR2.out] at hp
        obtain ⟨rfl, rfl⟩ := hp
        clear en2
        go_wp2_with (go_at_call 134; refine (signed_neg _ _ (by omega) h63).mono ?_; rintro e w' ⟨rfl, rfl⟩)
        go_ret2
        exact ⟨rfl, rfl⟩
theorem parse_fix_bad (s T : ByteArray) (g : Bool) (w : World) (ht : T.size ≤ maxLen) (hT : Hid (T.data.toList = body s.data.toList)) (hg : Hid (negB s.data.toList = g)) (hok : Hid (okB T.data.toList = false)) :
    Calls Try.prog 121 #[.string s] w fun e w' => e = .returned (.tuple #[.int .i64 0, .int .i64 5]) ∧ w = w' := by
  have Ht := Lib.hid ht
  clear ht
  go_enter Try.func121, Try.ntmps121
  go_wp2_with fail
  refine (cut_is s T g _ hT.out hg.out).mono ?_; rintro e w' ⟨rfl, rfl⟩
  go_wp2_with fail
  refine (proper_fix T _ Ht.out false hok).mono ?_; rintro e w' ⟨rfl, rfl⟩
  go_wp2_with fail
  go_ret2
  exact ⟨rfl, rfl⟩
theorem parse_fix_zero (s T : ByteArray) (g : Bool) (w : World) (ht : T.size ≤ maxLen) (hT : Hid (T.data.toList = body s.data.toList)) (hg : Hid (negB s.data.toList = g)) (hok : Hid (okB T.data.toList = true)) (hz : (s.toList == [45, 48]) = true) :
    Calls Try.prog 121 #[.string s] w fun e w' => e = .returned (.tuple #[.int .i64 0, .int .i64 5]) ∧ w = w' := by
  have Ht := Lib.hid ht
  clear ht
  go_enter Try.func121, Try.ntmps121
  go_wp2_with fail
  refine (cut_is s T g _ hT.out hg.out).mono ?_; rintro e w' ⟨rfl, rfl⟩
  go_wp2_with fail
  refine (proper_fix T _ Ht.out true hok).mono ?_; rintro e w' ⟨rfl, rfl⟩
  go_wp2_with fail
  go_ret2
  exact ⟨rfl, rfl⟩
theorem body_len (l : List UInt8) : (body l).length ≤ l.length := by
  unfold body; split
  · rw [List.length_tail]; omega
  · exact Nat.le_refl _
theorem parse_fix (s : ByteArray) (w : World) (hs : s.size ≤ maxLen) :
    Calls Try.prog 121 #[.string s] w fun e w' => e = .returned (.tuple #[.int .i64 (parV s.data.toList), .int .i64 (parE s.data.toList)]) ∧ w = w' := by
  have hT : (⟨(body s.data.toList).toArray⟩ : ByteArray).data.toList = body s.data.toList := rfl
  have hl : (⟨(body s.data.toList).toArray⟩ : ByteArray).size ≤ maxLen := by
    rw [← len_of, hT]
    exact Nat.le_trans (body_len _) (by rw [len_of]; exact hs)
  cases ho : okB (body s.data.toList)
  · have := par_form (show formB s.data.toList = false from by unfold formB; rw [ho]; rfl)
    rw [this.1, this.2]
    exact parse_fix_bad s _ _ w hl (Lib.hid hT) (Lib.hid rfl) (Lib.hid (by rw [hT]; exact ho))
  · by_cases hz : s.data.toList = [45, 48]
    · have := par_form (show formB s.data.toList = false from by unfold formB; rw [hz]; simp)
      rw [this.1, this.2]
      exact parse_fix_zero s _ _ w hl (Lib.hid hT) (Lib.hid rfl) (Lib.hid (by rw [hT]; exact ho)) (by rw [ByteArray.toList_eq, hz]; rfl)
    · have hf : formB s.data.toList = true := by unfold formB; rw [ho]; simp [hz]
      exact parse_fix_form s _ _ _ _ w hl (Lib.hid hT) (Lib.hid rfl) (Lib.hid (by rw [hT]; exact ho)) (by rw [ByteArray.toList_eq]; simp [hz]) (Lib.hid rfl) (Lib.hid rfl) (Lib.hid hf)
end Go.Proofs.Yteddfdhbpgbloaa.Fx
