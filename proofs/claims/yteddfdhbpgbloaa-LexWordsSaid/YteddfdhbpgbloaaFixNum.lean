/- Numerals, as plain lists of bytes. -/
import Derived.Test.YteddfdhbpgbloaaFixDec
namespace Go.Proofs.Yteddfdhbpgbloaa.Fx
def dig (c : UInt8) : Bool := decide (48 ≤ c.toNat) && decide (c.toNat ≤ 57)
theorem dig_mk {c : UInt8} (h : 48 ≤ c.toNat) (h' : c.toNat ≤ 57) : dig c = true := by unfold dig; simp [h, h']
theorem dig_of {c : UInt8} (h : dig c = true) : 48 ≤ c.toNat ∧ c.toNat ≤ 57 := by unfold dig at h; simpa using h
/-- Is a list a numeral without a sign? -/
def okB (l : List UInt8) : Bool := l.all dig && (decide (l = [48]) || (!l.isEmpty && decide (l.head? ≠ some 48)))
theorem okB_bad {l : List UInt8} {k : Nat} (hk : k < l.length) (h : dig l[k] = false) : okB l = false := by
  have : l.all dig = false := by
    rw [List.all_eq_false]
    exact ⟨l[k], List.getElem_mem hk, by simp [h]⟩
  unfold okB; rw [this]; rfl
theorem okB_all {l : List UInt8} (h : ∀ j (hj : j < l.length), dig l[j] = true) : okB l = (decide (l = [48]) || (!l.isEmpty && decide (l.head? ≠ some 48))) := by
  have : l.all dig = true := by
    rw [List.all_eq_true]
    intro x hx
    obtain ⟨j, hj, rfl⟩ := List.getElem_of_mem hx
    exact h j hj
  unfold okB; rw [this]; rfl
theorem okB_dig {l : List UInt8} (h : okB l = true) (j : Nat) (hj : j < l.length) : dig l[j] = true := by
  unfold okB at h
  rw [Bool.and_eq_true] at h
  exact List.all_eq_true.1 h.1 _ (List.getElem_mem hj)
theorem okB_ne {l : List UInt8} (h : okB l = true) : l ≠ [] := by
  intro e; subst e; exact absurd h (by decide)
/-- A list's number. -/
def numL (l : List UInt8) : Nat := l.foldl (fun n c => 10 * n + (c.toNat - 48)) 0
theorem numL_snoc (l : List UInt8) (c : UInt8) : numL (l ++ [c]) = 10 * numL l + (c.toNat - 48) := by simp [numL]
theorem take_snoc (l : List UInt8) (k : Nat) (h : k < l.length) : l.take (k + 1) = l.take k ++ [l[k]] := List.take_succ_eq_append_getElem h
theorem numL_take (l : List UInt8) (k : Nat) (h : k < l.length) : numL (l.take (k + 1)) = 10 * numL (l.take k) + (l[k].toNat - 48) := by rw [take_snoc l k h, numL_snoc]
theorem numL_mono (l : List UInt8) (k : Nat) : numL (l.take k) ≤ numL l := by
  suffices h : ∀ d k, k + d = l.length → numL (l.take k) ≤ numL l by
    by_cases c : k ≤ l.length
    · exact h (l.length - k) k (by omega)
    · rw [List.take_of_length_le (by omega)]; exact Nat.le_refl _
  intro d
  induction d with
  | zero => intro k hk; rw [List.take_of_length_le (by omega)]; exact Nat.le_refl _
  | succ d ih =>
    intro k hk
    have := ih (k + 1) (by omega)
    have t := numL_take l k (by omega)
    omega
/-- What a text is read as. -/
def negB (l : List UInt8) : Bool := decide (l.head? = some 45)
def body (l : List UInt8) : List UInt8 := if negB l = true then l.tail else l
def formB (l : List UInt8) : Bool := okB (body l) && decide (l ≠ [45, 48])
def parV (l : List UInt8) : Int := if formB l = true then (if numL (body l) ≤ 1152921504606846976 then (if negB l = true then -((numL (body l) : Nat) : Int) else (if numL (body l) ≤ 1152921504606846975 then ((numL (body l) : Nat) : Int) else 0)) else 0) else 0
def parE (l : List UInt8) : Int := if formB l = true then (if numL (body l) ≤ 1152921504606846976 then (if negB l = true then 0 else (if numL (body l) ≤ 1152921504606846975 then 0 else 10)) else 10) else 5
theorem par_form {l : List UInt8} (h : formB l = false) : parV l = 0 ∧ parE l = 5 := by unfold parV parE; simp [h]
theorem par_over {l : List UInt8} (h : formB l = true) (hn : 1152921504606846976 < numL (body l)) : parV l = 0 ∧ parE l = 10 := by
  unfold parV parE; rw [if_pos h, if_pos h, if_neg (by omega), if_neg (by omega)]; exact ⟨rfl, rfl⟩
theorem par_neg {l : List UInt8} (h : formB l = true) (hn : numL (body l) ≤ 1152921504606846976) (hs : negB l = true) : parV l = -((numL (body l) : Nat) : Int) ∧ parE l = 0 := by
  unfold parV parE; rw [if_pos h, if_pos h, if_pos hn, if_pos hn, if_pos hs, if_pos hs]; exact ⟨rfl, rfl⟩
theorem par_top {l : List UInt8} (h : formB l = true) (hn : numL (body l) = 1152921504606846976) (hs : negB l = false) : parV l = 0 ∧ parE l = 10 := by
  have a : numL (body l) ≤ 1152921504606846976 := by omega
  have b : ¬ numL (body l) ≤ 1152921504606846975 := by omega
  have c : ¬ negB l = true := by simp [hs]
  unfold parV parE; rw [if_pos h, if_pos h, if_pos a, if_pos a, if_neg c, if_neg c, if_neg b, if_neg b]; exact ⟨rfl, rfl⟩
theorem par_pos {l : List UInt8} (h : formB l = true) (hn : numL (body l) ≤ 1152921504606846975) (hs : negB l = false) : parV l = ((numL (body l) : Nat) : Int) ∧ parE l = 0 := by
  have a : numL (body l) ≤ 1152921504606846976 := by omega
  have c : ¬ negB l = true := by simp [hs]
  unfold parV parE; rw [if_pos h, if_pos h, if_pos a, if_pos a, if_neg c, if_neg c, if_pos hn, if_pos hn]; exact ⟨rfl, rfl⟩
end Go.Proofs.Yteddfdhbpgbloaa.Fx
