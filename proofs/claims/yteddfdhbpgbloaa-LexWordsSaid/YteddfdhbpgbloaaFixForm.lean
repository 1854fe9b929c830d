/- What the document reads of a text: for every text. -/
import Derived.Test.YteddfdhbpgbloaaFixParse
namespace Go.Proofs.Yteddfdhbpgbloaa.Fx
open Go.ChangeShapes Go.WideShapes Go.ChangeAt Go.RowKit
set_option linter.unusedVariables false

theorem negB_cons (c : UInt8) (l : List UInt8) : negB (c :: l) = decide (c = 45) := by unfold negB; simp
theorem body_neg {l : List UInt8} (h : negB l = true) : body l = l.tail := by unfold body; rw [if_pos h]
theorem body_pos {l : List UInt8} (h : negB l = false) : body l = l := by unfold body; rw [if_neg (by simp [h])]
theorem form_nil : formB [] = false := by decide
theorem form_bad0 {l : List UInt8} (h : negB l = false) (k : Nat) (hk : k < l.length) (hd : dig l[k] = false) : formB l = false := by
  unfold formB; rw [body_pos h, okB_bad hk hd]; rfl
theorem form_bad1 {l : List UInt8} (h : negB l = true) (k : Nat) (h1 : 1 ≤ k) (hk : k < l.length) (hd : dig l[k] = false) : formB l = false := by
  unfold formB
  rw [body_neg h, okB_bad (k := k - 1) (l := l.tail) (by rw [List.length_tail]; omega) (by rw [List.getElem_tail]; simp only [Nat.sub_add_cancel h1]; exact hd)]; rfl
theorem form_zero0 {l : List UInt8} (h : negB l = false) (h1 : 1 < l.length) (hz : l[0] = 48) : formB l = false := by
  unfold formB okB
  rw [body_pos h]
  match l, h1, hz with
  | a :: b :: t, _, hz =>
    simp at hz
    subst hz
    simp
theorem form_zero1 {l : List UInt8} (h : negB l = true) (h1 : 1 < l.length) (hz : l[1] = 48) : formB l = false := by
  unfold formB okB
  rw [body_neg h]
  match l, h1, hz, h with
  | a :: b :: t, _, hz, h =>
    simp at hz
    subst hz
    rw [negB_cons] at h
    have : a = 45 := by simpa using h
    subst this
    cases t <;> simp
theorem form_one {l : List UInt8} (h : negB l = true) (h1 : l.length = 1) : formB l = false := by
  match l, h1 with
  | [a], _ =>
    rw [negB_cons] at h
    have : a = 45 := by simpa using h
    subst this; decide
theorem form_good0 {l : List UInt8} (h : negB l = false) (h0 : 0 < l.length) (hz : l[0] ≠ 48 ∨ l.length = 1) (hd : ∀ j (hj : j < l.length), dig l[j] = true) : formB l = true := by
  unfold formB
  rw [body_pos h, okB_all hd]
  match l, h0, hz, h with
  | a :: t, _, hz, h =>
    rw [negB_cons] at h
    have ha : a ≠ 45 := by simpa using h
    have e : decide (a :: t ≠ [45, 48]) = true := by simp [ha]
    rw [e]
    rcases hz with hz | hz
    · simp at hz; simp [hz]
    · cases t with
      | nil => by_cases c : a = 48 <;> simp [c]
      | cons b t => simp at hz
theorem form_good1 {l : List UInt8} (h : negB l = true) (h0 : 1 < l.length) (hz : l[1] ≠ 48) (hd : ∀ j (hj : j < l.length), 1 ≤ j → dig l[j] = true) : formB l = true := by
  unfold formB
  rw [body_neg h]
  match l, h0, hz, h, hd with
  | a :: b :: t, _, hz, h, hd =>
    have hz : b ≠ 48 := by simpa using hz
    have : okB (b :: t) = true := by
      rw [okB_all (fun j hj => by have := hd (j + 1) (by simpa using hj) (by omega); simpa using this)]
      simp [hz]
    show (okB (b :: t) && _) = true
    rw [this]; simp [hz]
theorem form_len {l : List UInt8} (h : formB l = true) : body l ≠ [] := by
  unfold formB at h
  rw [Bool.and_eq_true] at h
  exact okB_ne h.1
theorem numL_ge (l : List UInt8) (h0 : 0 < l.length) (hd : 49 ≤ (l[0]).toNat) : ∀ k, k < l.length → 10 ^ k ≤ numL (l.take (k + 1)) := by
  intro k
  induction k with
  | zero => intro _; rw [numL_take l 0 h0]; simp [numL]; omega
  | succ k ih =>
    intro hk
    have := ih (by omega)
    rw [numL_take l (k + 1) hk, Nat.pow_succ]
    omega
theorem form_over {l : List UInt8} (h : formB l = true) (hl : 20 < l.length) : 1152921504606846976 < numL (body l) := by
  have hb : 20 ≤ (body l).length := by
    unfold body; split
    · rw [List.length_tail]; omega
    · omega
  have h2 := h
  unfold formB at h2
  rw [Bool.and_eq_true] at h2
  have ho := h2.1
  have hd := dig_of (okB_dig ho 0 (by omega))
  have hne : (body l)[0] ≠ 48 := by
    intro e
    unfold okB at ho
    rw [Bool.and_eq_true, Bool.or_eq_true] at ho
    rcases ho.2 with c | c
    · have : body l = [48] := by simpa using c
      rw [this] at hb; simp at hb
    · rw [Bool.and_eq_true] at c
      have c2 := c.2
      rw [List.head?_eq_getElem?, List.getElem?_eq_getElem (by omega), e] at c2
      simp at c2
  have h49 : 49 ≤ ((body l)[0]).toNat := by
    have : ((body l)[0]).toNat ≠ 48 := fun e => hne (UInt8.toNat_inj.1 e)
    omega
  have g := numL_ge (body l) (by omega) h49 19 (by omega)
  have m := numL_mono (body l) (19 + 1)
  have : (10 : Nat) ^ 19 = 10000000000000000000 := by decide
  omega
/-! The document's form of a number's text. -/
def FormAt (s : ByteArray) (a : Nat) (i : Value) : Prop := ∃ k : Nat, a ≤ k ∧ k ≤ s.size ∧ i = .int .i64 (k : Int) ∧ ∀ j (hj : j < s.size), a ≤ j → j < k → dig s[j] = true
theorem neg_of (s : ByteArray) (h : 0 < s.size) : negB s.data.toList = decide (s[0].toNat = 45) := by
  unfold negB
  rw [List.head?_eq_getElem?, List.getElem?_eq_getElem (by rw [len_of]; exact h), byte_at s 0 h]
  by_cases c : s[0].toNat = 45
  · have : s[0] = 45 := UInt8.toNat_inj.1 c
    rw [this]; rfl
  · have : s[0] ≠ 45 := fun e => c (by rw [e]; rfl)
    simp [c, this]
set_option maxHeartbeats 800000 in
theorem form_0a (s : ByteArray) (b : Bool) (w : World) (hs : s.size ≤ maxLen) (h0 : 0 < s.size) (f0 : ((s[0].toNat : Int) == 45) = false) (f1 : ((s.size : Int) == 0) = false) (f2 : ((s[0].toNat : Int) == 48) = false) (HB : Hid (∀ k, 0 ≤ k → ∀ hk : k < s.size, dig s[k] = false → b = false)) (HG : Hid ((∀ j (hj : j < s.size), 0 ≤ j → dig s[j] = true) → b = true)) :
    Calls Try.prog 135 #[.string s] w fun e w' => e = .returned (.bool b) ∧ w = w' := by
  unfold maxLen at hs
  go_enter Try.func135, Try.ntmps135
  go_wp2
  go_loop [4] (fun i => FormAt s 0 i) (fun i => s.size - (intOf i).toNat)
  case atStart => exact ⟨0, Nat.le_refl _, by omega, rfl, fun _ _ h h' => absurd h' (by omega)⟩
  case round =>
    obtain ⟨k, hka, hk, rfl, hd⟩ := hrel
    have Hd := Lib.hid hd
    clear hd
    by_cases hlt : k < s.size
    · by_cases c1 : 48 ≤ (s[k].toNat : Int)
      · by_cases c2 : (s[k].toNat : Int) ≤ 57
        · have Hk : Hid (dig s[k] = true) := dig_mk (by omega) (by omega)
          go_wp2
          go_round
          case rel =>
            refine ⟨k + 1, by omega, by omega, by go_num, fun j hj hja hjk => ?_⟩
            by_cases e : j = k
            · subst e; exact Hk.out
            · exact Hd.out j hj hja (by omega)
          case measure => simp [intOf]; omega
        · have e1 := HB.out k hka hlt (dig_no (by omega))
          subst e1
          have d2 : decide (57 < (s[k].toNat : Int)) = true := decide_eq_true (by omega)
          have d1 : decide ((s[k].toNat : Int) < 48) = false := decide_eq_false (by omega)
          go_wp2
          go_ret
          exact ⟨rfl, rfl⟩
      · have e1 := HB.out k hka hlt (dig_no (by omega))
        subst e1
        have d1 : decide ((s[k].toNat : Int) < 48) = true := decide_eq_true (by omega)
        go_wp2
        go_ret
        exact ⟨rfl, rfl⟩
    · obtain rfl : k = s.size := by omega
      have e1 := HG.out (fun j hj hja => Hd.out j hj hja hj)
      subst e1
      go_wp2
      go_ret
      exact ⟨rfl, rfl⟩
set_option maxHeartbeats 800000 in
theorem form_0b (s : ByteArray) (b : Bool) (w : World) (hs : s.size ≤ maxLen) (h0 : 0 < s.size) (f0 : ((s[0].toNat : Int) == 45) = false) (f1 : ((s.size : Int) == 0) = false) (f2 : ((s[0].toNat : Int) == 48) = true) (f3 : decide ((1 : Int) < (s.size : Int)) = false) (HB : Hid (∀ k, 0 ≤ k → ∀ hk : k < s.size, dig s[k] = false → b = false)) (HG : Hid ((∀ j (hj : j < s.size), 0 ≤ j → dig s[j] = true) → b = true)) :
    Calls Try.prog 135 #[.string s] w fun e w' => e = .returned (.bool b) ∧ w = w' := by
  unfold maxLen at hs
  go_enter Try.func135, Try.ntmps135
  go_wp2
  go_loop [4] (fun i => FormAt s 0 i) (fun i => s.size - (intOf i).toNat)
  case atStart => exact ⟨0, Nat.le_refl _, by omega, rfl, fun _ _ h h' => absurd h' (by omega)⟩
  case round =>
    obtain ⟨k, hka, hk, rfl, hd⟩ := hrel
    have Hd := Lib.hid hd
    clear hd
    by_cases hlt : k < s.size
    · by_cases c1 : 48 ≤ (s[k].toNat : Int)
      · by_cases c2 : (s[k].toNat : Int) ≤ 57
        · have Hk : Hid (dig s[k] = true) := dig_mk (by omega) (by omega)
          go_wp2
          go_round
          case rel =>
            refine ⟨k + 1, by omega, by omega, by go_num, fun j hj hja hjk => ?_⟩
            by_cases e : j = k
            · subst e; exact Hk.out
            · exact Hd.out j hj hja (by omega)
          case measure => simp [intOf]; omega
        · have e1 := HB.out k hka hlt (dig_no (by omega))
          subst e1
          have d2 : decide (57 < (s[k].toNat : Int)) = true := decide_eq_true (by omega)
          have d1 : decide ((s[k].toNat : Int) < 48) = false := decide_eq_false (by omega)
          go_wp2
          go_ret
          exact ⟨rfl, rfl⟩
      · have e1 := HB.out k hka hlt (dig_no (by omega))
        subst e1
        have d1 : decide ((s[k].toNat : Int) < 48) = true := decide_eq_true (by omega)
        go_wp2
        go_ret
        exact ⟨rfl, rfl⟩
    · obtain rfl : k = s.size := by omega
      have e1 := HG.out (fun j hj hja => Hd.out j hj hja hj)
      subst e1
      go_wp2
      go_ret
      exact ⟨rfl, rfl⟩
set_option maxHeartbeats 800000 in
theorem form_1 (s : ByteArray) (b : Bool) (w : World) (hs : s.size ≤ maxLen) (h0 : 1 < s.size) (f0 : ((s[0].toNat : Int) == 45) = true) (f1 : ((s.size : Int) == 1) = false) (f2 : ((s[1].toNat : Int) == 48) = false) (HB : Hid (∀ k, 1 ≤ k → ∀ hk : k < s.size, dig s[k] = false → b = false)) (HG : Hid ((∀ j (hj : j < s.size), 1 ≤ j → dig s[j] = true) → b = true)) :
    Calls Try.prog 135 #[.string s] w fun e w' => e = .returned (.bool b) ∧ w = w' := by
  unfold maxLen at hs
  go_enter Try.func135, Try.ntmps135
  go_wp2
  go_loop [4] (fun i => FormAt s 1 i) (fun i => s.size - (intOf i).toNat)
  case atStart => exact ⟨1, Nat.le_refl _, by omega, rfl, fun _ _ h h' => absurd h' (by omega)⟩
  case round =>
    obtain ⟨k, hka, hk, rfl, hd⟩ := hrel
    have Hd := Lib.hid hd
    clear hd
    by_cases hlt : k < s.size
    · by_cases c1 : 48 ≤ (s[k].toNat : Int)
      · by_cases c2 : (s[k].toNat : Int) ≤ 57
        · have Hk : Hid (dig s[k] = true) := dig_mk (by omega) (by omega)
          go_wp2
          go_round
          case rel =>
            refine ⟨k + 1, by omega, by omega, by go_num, fun j hj hja hjk => ?_⟩
            by_cases e : j = k
            · subst e; exact Hk.out
            · exact Hd.out j hj hja (by omega)
          case measure => simp [intOf]; omega
        · have e1 := HB.out k hka hlt (dig_no (by omega))
          subst e1
          have d2 : decide (57 < (s[k].toNat : Int)) = true := decide_eq_true (by omega)
          have d1 : decide ((s[k].toNat : Int) < 48) = false := decide_eq_false (by omega)
          go_wp2
          go_ret
          exact ⟨rfl, rfl⟩
      · have e1 := HB.out k hka hlt (dig_no (by omega))
        subst e1
        have d1 : decide ((s[k].toNat : Int) < 48) = true := decide_eq_true (by omega)
        go_wp2
        go_ret
        exact ⟨rfl, rfl⟩
    · obtain rfl : k = s.size := by omega
      have e1 := HG.out (fun j hj hja => Hd.out j hj hja hj)
      subst e1
      go_wp2
      go_ret
      exact ⟨rfl, rfl⟩
set_option maxHeartbeats 800000 in
theorem form_empty (s : ByteArray) (w : World) (hs : s.size ≤ maxLen) (h0 : ¬ 0 < s.size) (d0 : decide ((0 : Int) < (s.size : Int)) = false) (f1 : ((s.size : Int) == 0) = true) :
    Calls Try.prog 135 #[.string s] w fun e w' => e = .returned (.bool false) ∧ w = w' := by
  unfold maxLen at hs
  go_enter Try.func135, Try.ntmps135
  go_wp2
  go_ret
  exact ⟨rfl, rfl⟩
set_option maxHeartbeats 800000 in
theorem form_z0 (s : ByteArray) (w : World) (hs : s.size ≤ maxLen) (h0 : 1 < s.size) (f0 : ((s[0].toNat : Int) == 45) = false) (f1 : ((s.size : Int) == 0) = false) (f2 : ((s[0].toNat : Int) == 48) = true) :
    Calls Try.prog 135 #[.string s] w fun e w' => e = .returned (.bool false) ∧ w = w' := by
  unfold maxLen at hs
  go_enter Try.func135, Try.ntmps135
  go_wp2
  go_ret
  exact ⟨rfl, rfl⟩
set_option maxHeartbeats 800000 in
theorem form_z1 (s : ByteArray) (w : World) (hs : s.size ≤ maxLen) (h0 : 1 < s.size) (f0 : ((s[0].toNat : Int) == 45) = true) (f1 : ((s.size : Int) == 1) = false) (f2 : ((s[1].toNat : Int) == 48) = true) :
    Calls Try.prog 135 #[.string s] w fun e w' => e = .returned (.bool false) ∧ w = w' := by
  unfold maxLen at hs
  go_enter Try.func135, Try.ntmps135
  go_wp2
  go_ret
  exact ⟨rfl, rfl⟩
set_option maxHeartbeats 800000 in
theorem form_short (s : ByteArray) (w : World) (hs : s.size ≤ maxLen) (h0 : 0 < s.size) (f0 : ((s[0].toNat : Int) == 45) = true) (f1 : ((s.size : Int) == 1) = true) :
    Calls Try.prog 135 #[.string s] w fun e w' => e = .returned (.bool false) ∧ w = w' := by
  unfold maxLen at hs
  go_enter Try.func135, Try.ntmps135
  go_wp2
  go_ret
  exact ⟨rfl, rfl⟩
end Go.Proofs.Yteddfdhbpgbloaa.Fx
