/- What the document reads of a text: for every text. -/
import GoSem.Claim
import Derived.Test.YtpeleifkednmoaaRows
import Derived.Test.YtpeleifkednmoaaShelf
import Derived.WalkKit
import Derived.ProofKit
import Derived.OpenShut
import Derived.Lib.Hide
import Derived.Outline
import Derived.BigQuiet
import Derived.Deep.QuietTactic
import Derived.Below
import Derived.OwnWalk
section
namespace Go.Proofs.Ytpeleifkednmoaa.Fx
/-- How many decimal digits. -/
def nd (n : Nat) : Nat := if n < 10 then 1 else nd (n / 10) + 1
theorem nd_small {n : Nat} (h : n < 10) : nd n = 1 := by rw [nd, if_pos h]
theorem nd_big {n : Nat} (h : ¬ n < 10) : nd n = nd (n / 10) + 1 := by rw [nd, if_neg h]
theorem nd_pos (n : Nat) : 1 ≤ nd n := by rw [nd]; split <;> omega
theorem nd_le (k : Nat) : ∀ n : Nat, n < 10 ^ (k + 1) → nd n ≤ k + 1 := by
  induction k with
  | zero => intro n h; rw [nd_small (by simpa using h)]; omega
  | succ k ih =>
    intro n h
    by_cases c : n < 10
    · rw [nd_small c]; omega
    · rw [nd_big c]
      have := ih (n / 10) (by rw [Nat.pow_succ] at h; omega)
      omega
theorem nd_fix {n : Nat} (h : n ≤ 1152921504606846976) : nd n ≤ 19 := nd_le 18 n (by omega)
def digB (n : Nat) : UInt8 := UInt8.ofNat (48 + n % 10)
theorem digB_toNat (n : Nat) : (digB n).toNat = 48 + n % 10 := by
  unfold digB; simp; omega
/-- The decimal digits. -/
def decL (n : Nat) : List UInt8 := if n < 10 then [digB n] else decL (n / 10) ++ [digB n]
theorem decL_small {n : Nat} (h : n < 10) : decL n = [digB n] := by rw [decL, if_pos h]
theorem decL_big {n : Nat} (h : ¬ n < 10) : decL n = decL (n / 10) ++ [digB n] := by rw [decL, if_neg h]
theorem decL_len (n : Nat) : (decL n).length = nd n := by
  induction n using Nat.strongRecOn with
  | ind n ih =>
    by_cases c : n < 10
    · rw [decL_small c, nd_small c]; rfl
    · rw [decL_big c, nd_big c]; simp [ih (n / 10) (by omega)]
/-- What is left of a number without its last i digits. -/
def cutD (n : Nat) : Nat → Nat
  | 0 => n
  | i + 1 => cutD n i / 10
theorem cutD_le (n i : Nat) : cutD n i ≤ n := by
  induction i with
  | zero => exact Nat.le_refl _
  | succ i ih => exact Nat.le_trans (Nat.div_le_self _ _) ih
theorem cutD_succ (n i : Nat) : cutD n (i + 1) = cutD (n / 10) i := by
  induction i with
  | zero => rfl
  | succ i ih => rw [cutD, ih]; rfl
/-- The last i digits. -/
def lastD (n : Nat) : Nat → List UInt8
  | 0 => []
  | i + 1 => digB (cutD n i) :: lastD n i
theorem lastD_len (n i : Nat) : (lastD n i).length = i := by
  induction i with
  | zero => rfl
  | succ i ih => simp [lastD, ih]
theorem lastD_succ (n i : Nat) : lastD n (i + 1) = lastD (n / 10) i ++ [digB n] := by
  induction i with
  | zero => rfl
  | succ i ih => rw [lastD, ih, cutD_succ]; rfl
theorem lastD_all (n : Nat) : lastD n (nd n) = decL n := by
  induction n using Nat.strongRecOn with
  | ind n ih =>
    by_cases c : n < 10
    · rw [decL_small c, nd_small c]; rfl
    · rw [decL_big c, nd_big c, lastD_succ, ih (n / 10) (by omega)]
/-- The text of a number. -/
def textL (a : Int) : List UInt8 := if a < 0 then 45 :: decL a.natAbs else decL a.natAbs
end Go.Proofs.Ytpeleifkednmoaa.Fx
end
section
namespace Go.Proofs.Ytpeleifkednmoaa.Fx
/-- Is a number a fixnum? -/
def inB (n : Int) : Bool := decide (-1152921504606846976 ≤ n) && decide (n ≤ 1152921504606846975)
theorem in_yes {n : Int} (h : inB n = true) : -1152921504606846976 ≤ n ∧ n ≤ 1152921504606846975 := by
  unfold inB at h; simpa using h
theorem in_mk {n : Int} (h : -1152921504606846976 ≤ n) (h' : n ≤ 1152921504606846975) : inB n = true := by
  unfold inB; simp [h, h']
theorem in_no {n : Int} (h : inB n = false) : n < -1152921504606846976 ∨ 1152921504606846975 < n := by
  unfold inB at h; simp at h; omega
theorem in_not {n : Int} (h : n < -1152921504606846976 ∨ 1152921504606846975 < n) : inB n = false := by
  unfold inB; simp; omega
/-- A result, if it is a fixnum. -/
def gotV (n : Int) : Int := if inB n = true then n else 0
def gotE (n : Int) : Int := if inB n = true then 0 else 10
def twoV (a b n : Int) : Int := if (inB a && inB b) = true then gotV n else 0
def twoE (a b n : Int) : Int := if (inB a && inB b) = true then gotE n else 1
theorem two_in {a b n : Int} (ha : inB a = true) (hb : inB b = true) : twoV a b n = gotV n ∧ twoE a b n = gotE n := by
  unfold twoV twoE; simp [ha, hb]
theorem got_in {n : Int} (h : inB n = true) : gotV n = n ∧ gotE n = 0 := by unfold gotV gotE; simp [h]
theorem got_out {n : Int} (h : inB n = false) : gotV n = 0 ∧ gotE n = 10 := by unfold gotV gotE; simp [h]
theorem gotV_in (n : Int) : inB (gotV n) = true := by
  cases h : inB n
  · rw [(got_out h).1]; rfl
  · rw [(got_in h).1]; exact h
theorem twoE_ok {a b n : Int} (h : twoE a b n = 0) : inB a = true ∧ inB b = true ∧ inB n = true ∧ twoV a b n = n := by
  unfold twoE at h
  unfold twoV
  cases ha : inB a <;> cases hb : inB b <;> simp [ha, hb] at h ⊢
  unfold gotE at h
  cases hn : inB n <;> simp [hn] at h
  exact ⟨rfl, (got_in hn).1⟩
/-- A product's size. -/
theorem mul_abs (a b : Int) : (a * b).natAbs = a.natAbs * b.natAbs := Int.natAbs_mul a b
theorem abs_in {a : Int} (h : inB a = true) : a.natAbs ≤ 1152921504606846976 := by
  have := in_yes h; omega
theorem mul_neg_abs {a b : Int} (h : (a < 0 ∧ ¬ b < 0) ∨ (¬ a < 0 ∧ b < 0)) : a * b = -((a.natAbs * b.natAbs : Nat) : Int) := by
  have e := mul_abs a b
  have hs : a * b ≤ 0 := by
    rcases h with ⟨h1, h2⟩ | ⟨h1, h2⟩
    · exact Int.mul_nonpos_of_nonpos_of_nonneg (by omega) (by omega)
    · exact Int.mul_nonpos_of_nonneg_of_nonpos (by omega) (by omega)
  rw [← e]; omega
theorem mul_pos_abs {a b : Int} (h : (a < 0 ∧ b < 0) ∨ (¬ a < 0 ∧ ¬ b < 0)) : a * b = ((a.natAbs * b.natAbs : Nat) : Int) := by
  have e := mul_abs a b
  have hs : 0 ≤ a * b := by
    rcases h with ⟨h1, h2⟩ | ⟨h1, h2⟩
    · exact Int.mul_nonneg_of_nonpos_of_nonpos (by omega) (by omega)
    · exact Int.mul_nonneg (by omega) (by omega)
  rw [← e]; omega
theorem abs_mul_le {a b : Int} (ha : inB a = true) (hb : inB b = true) : a.natAbs * b.natAbs ≤ 1329227995784915872903807060280344576 :=
  Nat.le_trans (Nat.mul_le_mul (abs_in ha) (abs_in hb)) (by omega)
end Go.Proofs.Ytpeleifkednmoaa.Fx
end
section
namespace Go.Proofs.Ytpeleifkednmoaa.Fx
def dig (c : UInt8) : Bool := decide (48 ≤ c.toNat) && decide (c.toNat ≤ 57)
theorem dig_mk {c : UInt8} (h : 48 ≤ c.toNat) (h' : c.toNat ≤ 57) : dig c = true := by unfold dig; simp [h, h']
theorem dig_of {c : UInt8} (h : dig c = true) : 48 ≤ c.toNat ∧ c.toNat ≤ 57 := by unfold dig at h; simpa using h
/-- Is a list a numeral without a sign? -/
def okB (l : List UInt8) : Bool := l.all dig && (decide (l = [48]) || (!l.isEmpty && decide (l.head? ≠ some 48)))
theorem okB_bad {l : List UInt8} {k : Nat} (hk : k < l.length) (h : dig l[k] = false) : okB l = false := by
  have : l.all dig = false := by
    rw [List.all_eq_false]
    exact ⟨l[k], List.getElem_mem hk, by simp [h]⟩
  unfold okB; rw [this]; rfl
theorem okB_all {l : List UInt8} (h : ∀ j (hj : j < l.length), dig l[j] = true) : okB l = (decide (l = [48]) || (!l.isEmpty && decide (l.head? ≠ some 48))) := by
  have : l.all dig = true := by
    rw [List.all_eq_true]
    intro x hx
    obtain ⟨j, hj, rfl⟩ := List.getElem_of_mem hx
    exact h j hj
  unfold okB; rw [this]; rfl
theorem okB_dig {l : List UInt8} (h : okB l = true) (j : Nat) (hj : j < l.length) : dig l[j] = true := by
  unfold okB at h
  rw [Bool.and_eq_true] at h
  exact List.all_eq_true.1 h.1 _ (List.getElem_mem hj)
theorem okB_ne {l : List UInt8} (h : okB l = true) : l ≠ [] := by
  intro e; subst e; exact absurd h (by decide)
/-- A list's number. -/
def numL (l : List UInt8) : Nat := l.foldl (fun n c => 10 * n + (c.toNat - 48)) 0
theorem numL_snoc (l : List UInt8) (c : UInt8) : numL (l ++ [c]) = 10 * numL l + (c.toNat - 48) := by simp [numL]
theorem take_snoc (l : List UInt8) (k : Nat) (h : k < l.length) : l.take (k + 1) = l.take k ++ [l[k]] := List.take_succ_eq_append_getElem h
theorem numL_take (l : List UInt8) (k : Nat) (h : k < l.length) : numL (l.take (k + 1)) = 10 * numL (l.take k) + (l[k].toNat - 48) := by rw [take_snoc l k h, numL_snoc]
theorem numL_mono (l : List UInt8) (k : Nat) : numL (l.take k) ≤ numL l := by
  suffices h : ∀ d k, k + d = l.length → numL (l.take k) ≤ numL l by
    by_cases c : k ≤ l.length
    · exact h (l.length - k) k (by omega)
    · rw [List.take_of_length_le (by omega)]; exact Nat.le_refl _
  intro d
  induction d with
  | zero => intro k hk; rw [List.take_of_length_le (by omega)]; exact Nat.le_refl _
  | succ d ih =>
    intro k hk
    have := ih (k + 1) (by omega)
    have t := numL_take l k (by omega)
    omega
/-- What a text is read as. -/
def negB (l : List UInt8) : Bool := decide (l.head? = some 45)
def body (l : List UInt8) : List UInt8 := if negB l = true then l.tail else l
def formB (l : List UInt8) : Bool := okB (body l) && decide (l ≠ [45, 48])
def parV (l : List UInt8) : Int := if formB l = true then (if numL (body l) ≤ 1152921504606846976 then (if negB l = true then -((numL (body l) : Nat) : Int) else (if numL (body l) ≤ 1152921504606846975 then ((numL (body l) : Nat) : Int) else 0)) else 0) else 0
def parE (l : List UInt8) : Int := if formB l = true then (if numL (body l) ≤ 1152921504606846976 then (if negB l = true then 0 else (if numL (body l) ≤ 1152921504606846975 then 0 else 10)) else 10) else 5
theorem par_form {l : List UInt8} (h : formB l = false) : parV l = 0 ∧ parE l = 5 := by unfold parV parE; simp [h]
theorem par_over {l : List UInt8} (h : formB l = true) (hn : 1152921504606846976 < numL (body l)) : parV l = 0 ∧ parE l = 10 := by
  unfold parV parE; rw [if_pos h, if_pos h, if_neg (by omega), if_neg (by omega)]; exact ⟨rfl, rfl⟩
theorem par_neg {l : List UInt8} (h : formB l = true) (hn : numL (body l) ≤ 1152921504606846976) (hs : negB l = true) : parV l = -((numL (body l) : Nat) : Int) ∧ parE l = 0 := by
  unfold parV parE; rw [if_pos h, if_pos h, if_pos hn, if_pos hn, if_pos hs, if_pos hs]; exact ⟨rfl, rfl⟩
theorem par_top {l : List UInt8} (h : formB l = true) (hn : numL (body l) = 1152921504606846976) (hs : negB l = false) : parV l = 0 ∧ parE l = 10 := by
  have a : numL (body l) ≤ 1152921504606846976 := by omega
  have b : ¬ numL (body l) ≤ 1152921504606846975 := by omega
  have c : ¬ negB l = true := by simp [hs]
  unfold parV parE; rw [if_pos h, if_pos h, if_pos a, if_pos a, if_neg c, if_neg c, if_neg b, if_neg b]; exact ⟨rfl, rfl⟩
theorem par_pos {l : List UInt8} (h : formB l = true) (hn : numL (body l) ≤ 1152921504606846975) (hs : negB l = false) : parV l = ((numL (body l) : Nat) : Int) ∧ parE l = 0 := by
  have a : numL (body l) ≤ 1152921504606846976 := by omega
  have c : ¬ negB l = true := by simp [hs]
  unfold parV parE; rw [if_pos h, if_pos h, if_pos a, if_pos a, if_neg c, if_neg c, if_pos hn, if_pos hn]; exact ⟨rfl, rfl⟩
end Go.Proofs.Ytpeleifkednmoaa.Fx
end
section
namespace Go.Proofs.Ytpeleifkednmoaa.Fx
open Go.ChangeShapes Go.WideShapes Go.ChangeAt Go.RowKit

theorem in_fix (a : Int) (w : World) :
    Calls Try.prog 31 #[.int .i64 a] w fun e w' => e = .returned (.bool (inB a)) ∧ w = w' := by
  unfold inB
  by_cases h1 : -1152921504606846976 ≤ a
  · have d1 : decide (-1152921504606846976 ≤ a) = true := by simp [h1]
    by_cases h2 : a ≤ 1152921504606846975
    · have d2 : decide (a ≤ 1152921504606846975) = true := by simp [h2]
      rw [d1, d2]
      go_enter Try.func31, Try.ntmps31
      go_wp2
      go_ret
      exact ⟨rfl, rfl⟩
    · have d2 : decide (a ≤ 1152921504606846975) = false := by simp [h2]
      rw [d1, d2]
      go_enter Try.func31, Try.ntmps31
      go_wp2
      go_ret
      exact ⟨rfl, rfl⟩
  · have d1 : decide (-1152921504606846976 ≤ a) = false := by simp [h1]
    rw [d1]
    go_enter Try.func31, Try.ntmps31
    go_wp2
    go_ret
    exact ⟨rfl, rfl⟩

theorem in_ref (a : Int) (w : World) :
    Calls Try.prog 39 #[.int .i64 a] w fun e w' => e = .returned (.bool (inB a)) ∧ w = w' := by
  unfold inB
  by_cases h1 : -1152921504606846976 ≤ a
  · have d1 : decide (-1152921504606846976 ≤ a) = true := by simp [h1]
    by_cases h2 : a ≤ 1152921504606846975
    · have d2 : decide (a ≤ 1152921504606846975) = true := by simp [h2]
      rw [d1, d2]
      go_enter Try.func39, Try.ntmps39
      go_wp2
      go_ret
      exact ⟨rfl, rfl⟩
    · have d2 : decide (a ≤ 1152921504606846975) = false := by simp [h2]
      rw [d1, d2]
      go_enter Try.func39, Try.ntmps39
      go_wp2
      go_ret
      exact ⟨rfl, rfl⟩
  · have d1 : decide (-1152921504606846976 ≤ a) = false := by simp [h1]
    rw [d1]
    go_enter Try.func39, Try.ntmps39
    go_wp2
    go_ret
    exact ⟨rfl, rfl⟩

theorem exact_fix (n : Int) (w : World) :
    Calls Try.prog 88 #[.int .i64 n] w fun e w' => e = .returned (.tuple #[.int .i64 (gotV n), .int .i64 (gotE n)]) ∧ w = w' := by
  unfold gotV gotE
  cases h : inB n
  all_goals
    go_enter Try.func88, Try.ntmps88
    go_wp2_with (go_at_call 31; refine (in_fix _ _).mono ?_; rintro e w' ⟨rfl, rfl⟩)
    go_ret2
    exact ⟨rfl, rfl⟩

end Go.Proofs.Ytpeleifkednmoaa.Fx
end
section
namespace Go.Proofs.Ytpeleifkednmoaa.Fx
open Go.ChangeShapes Go.WideShapes Go.ChangeAt Go.RowKit

theorem size_fix (a : Int) (w : World) (h : inB a = true) :
    Calls Try.prog 32 #[.int .i64 a] w fun e w' => e = .returned (.int .u64 ((a.natAbs : Nat) : Int)) ∧ w = w' := by
  obtain ⟨h1, h2⟩ := in_yes h
  clear h
  by_cases hn : a < 0
  · have e : ((a.natAbs : Nat) : Int) = -a := by omega
    rw [e]; clear e
    go_enter Try.func32, Try.ntmps32
    go_wp2
    go_ret
    exact ⟨rfl, rfl⟩
  · have e : ((a.natAbs : Nat) : Int) = a := by omega
    rw [e]; clear e
    go_enter Try.func32, Try.ntmps32
    go_wp2
    go_ret
    exact ⟨rfl, rfl⟩
theorem signed_over (n : Int) (b : Bool) (w : World) (h : 1152921504606846976 < n) :
    Calls Try.prog 82 #[.int .u64 n, .bool b] w fun e w' => e = .returned (.tuple #[.int .i64 0, .int .i64 10]) ∧ w = w' := by
  go_enter Try.func82, Try.ntmps82
  go_wp2
  go_ret2
  exact ⟨rfl, rfl⟩
theorem signed_neg (n : Int) (w : World) (h0 : 0 ≤ n) (h : n ≤ 1152921504606846976) :
    Calls Try.prog 82 #[.int .u64 n, .bool true] w fun e w' => e = .returned (.tuple #[.int .i64 (-n), .int .i64 0]) ∧ w = w' := by
  go_enter Try.func82, Try.ntmps82
  go_wp2
  go_ret2
  exact ⟨rfl, rfl⟩
theorem signed_pos (n : Int) (w : World) (h0 : 0 ≤ n) (h : n ≤ 1152921504606846976) :
    Calls Try.prog 82 #[.int .u64 n, .bool false] w fun e w' => e = .returned (.tuple #[.int .i64 (gotV n), .int .i64 (gotE n)]) ∧ w = w' := by
  go_enter Try.func82, Try.ntmps82
  go_wp2_with (go_at_call 88; refine (exact_fix _ _).mono ?_; rintro e w' ⟨rfl, rfl⟩)
  go_ret2
  exact ⟨rfl, rfl⟩
theorem quo_lt (A B M : Nat) (hB : 1 ≤ B) (h : M < A * B) : (M : Int) / (B : Int) < (A : Int) := by
  have : M / B < A := (Nat.div_lt_iff_lt_mul (by omega)).2 h
  omega
theorem quo_ge (A B M : Nat) (hB : 1 ≤ B) (h : A * B ≤ M) : (A : Int) ≤ (M : Int) / (B : Int) := by
  have : A ≤ M / B := (Nat.le_div_iff_mul_le (by omega)).2 h
  omega
end Go.Proofs.Ytpeleifkednmoaa.Fx
end
section
namespace Go.Proofs.Ytpeleifkednmoaa.Fx
open Go.ChangeShapes Go.WideShapes Go.ChangeAt Go.RowKit

def partE (a b : Int) : Int := if (inB a && inB b) = true then (if b = 0 then 11 else 0) else 1
def remV (a b : Int) : Int := if (inB a && inB b) = true then (if b = 0 then 0 else a.tmod b) else 0
def quoV (a b : Int) : Int := if (inB a && inB b) = true then (if b = 0 then 0 else gotV (a.tdiv b)) else 0
def quoE (a b : Int) : Int := if (inB a && inB b) = true then (if b = 0 then 11 else gotE (a.tdiv b)) else 1
def modN (e r b : Int) : Int := if (decide (e = 0) && (!decide (r = 0) && (decide (r < 0) != decide (b < 0)))) = true then r + b else r
theorem tdiv_abs (a b : Int) (h : a.natAbs ≤ 1152921504606846976) : -1152921504606846976 ≤ a.tdiv b ∧ a.tdiv b ≤ 1152921504606846976 := by
  have e : (a.tdiv b).natAbs = a.natAbs / b.natAbs := Int.natAbs_tdiv a b
  have : a.natAbs / b.natAbs ≤ a.natAbs := Nat.div_le_self _ _
  omega
theorem tmod_abs (a b : Int) (h : a.natAbs ≤ 1152921504606846976) : -1152921504606846976 ≤ a.tmod b ∧ a.tmod b ≤ 1152921504606846976 := by
  have e : (a.tmod b).natAbs = a.natAbs % b.natAbs := Int.natAbs_tmod a b
  have : a.natAbs % b.natAbs ≤ a.natAbs := Nat.mod_le _ _
  omega
theorem rem_abs (a b : Int) : -1152921504606846976 ≤ remV a b ∧ remV a b ≤ 1152921504606846976 := by
  unfold remV
  cases ha : inB a <;> cases hb : inB b <;> simp
  split
  · simp
  · exact tmod_abs a b (abs_in ha)
theorem modN_ne {e r b : Int} (h : (e == 0) = false) : modN e r b = r := by
  have h : ¬ e = 0 := by simpa using h
  unfold modN; rw [if_neg (by simp [h])]
theorem modN_z {e b : Int} : modN e 0 b = 0 := by
  unfold modN; rw [if_neg (by simp)]
theorem modN_same {e r b : Int} (h : decide (r < 0) = decide (b < 0)) : modN e r b = r := by
  unfold modN; rw [if_neg (by simp [h])]
theorem modN_add {r b : Int} (h0 : ¬ r = 0) (h : decide (r < 0) = !decide (b < 0)) : modN 0 r b = r + b := by
  unfold modN; rw [if_pos (by simp [h0, h])]

end Go.Proofs.Ytpeleifkednmoaa.Fx
end
section
namespace Go.Proofs.Ytpeleifkednmoaa.Fx
open Go.ChangeShapes Go.WideShapes Go.ChangeAt Go.RowKit

theorem bel_trans {a b c : World} (h : Below a.heap.size a b) (k : Below b.heap.size b c) : Below a.heap.size a c := h.trans (k.mono h.size)
theorem bel_refl (a : World) : Below a.heap.size a a := Below.refl _ _
theorem bel_drewN {a b : World} (h : Below a.heap.size a b) (n : Nat) : Below a.heap.size a (b.drewN n) := h.trans ⟨rfl, rfl, rfl, Nat.le_refl _, fun _ _ => rfl⟩
/-- The round of Euclid's way. -/
def GcdAt (G : Nat) (w : World) (m n : Value) (wr : World) : Prop :=
  ∃ x y : Nat, m = .int .u64 (x : Int) ∧ n = .int .u64 (y : Int) ∧ Nat.gcd x y = G ∧ x ≤ 1152921504606846976 ∧ y ≤ 1152921504606846976 ∧ Below w.heap.size w wr
theorem gcd_step (x y : Nat) : Nat.gcd y (x % y) = Nat.gcd x y := by
  rw [Nat.gcd_comm y, ← Nat.gcd_rec, Nat.gcd_comm]
theorem gcd_last (x : Nat) : Nat.gcd x 0 = x := Nat.gcd_zero_right x
def GcdRefAt (G : Nat) (m n : Value) : Prop :=
  ∃ x y : Nat, m = .int .i64 (x : Int) ∧ n = .int .i64 (y : Int) ∧ Nat.gcd x y = G ∧ x ≤ 1152921504606846976 ∧ y ≤ 1152921504606846976
def gcdI (a b : Int) : Int := ((Nat.gcd a.natAbs b.natAbs : Nat) : Int)
end Go.Proofs.Ytpeleifkednmoaa.Fx
end
section
namespace Go.Proofs.Ytpeleifkednmoaa.Fx
open Go.ChangeShapes Go.WideShapes Go.ChangeAt Go.RowKit

/-- The product of k factors a, as long as no product is too great. -/
def pwO (a : Int) : Nat → Option Int
  | 0 => some 1
  | k + 1 => (pwO a k).bind fun x => if inB (x * a) = true then some (x * a) else none
theorem pwO_in (a : Int) (k : Nat) (x : Int) (h : pwO a k = some x) : inB x = true := by
  cases k with
  | zero => simp [pwO] at h; subst h; rfl
  | succ k =>
    simp [pwO, Option.bind_eq_some_iff] at h
    obtain ⟨y, _, h2, h3⟩ := h
    subst h3; exact h2
theorem pwO_next {a x : Int} {k : Nat} (h : pwO a k = some x) (hi : inB (x * a) = true) : pwO a (k + 1) = some (x * a) := by
  simp [pwO, h, hi]
theorem pwO_stop {a x : Int} {k : Nat} (h : pwO a k = some x) (hi : inB (x * a) = false) : pwO a (k + 1) = none := by
  simp [pwO, h, hi]
theorem pwO_none {a : Int} {k n : Nat} (h : pwO a k = none) (hn : k ≤ n) : pwO a n = none := by
  induction n with
  | zero => have : k = 0 := by omega
            subst this; exact h
  | succ n ih =>
    by_cases e : k = n + 1
    · subst e; exact h
    · simp [pwO, ih (by omega)]
theorem pwO_zero (k : Nat) : pwO 0 (k + 1) = some 0 := by
  induction k with
  | zero => rfl
  | succ k ih => rw [pwO, ih]; rfl
theorem pwO_one (k : Nat) : pwO 1 k = some 1 := by
  induction k with
  | zero => rfl
  | succ k ih => rw [pwO, ih]; rfl
theorem pwO_minus (k : Nat) : pwO (-1) k = some (if k % 2 = 0 then 1 else -1) := by
  induction k with
  | zero => rfl
  | succ k ih =>
    rw [pwO, ih]
    by_cases h : k % 2 = 0
    · rw [if_pos h, if_neg (by omega)]; rfl
    · rw [if_neg h, if_pos (by omega)]; rfl
theorem pw_short (a : Int) (n : Nat) (h : a.natAbs ≤ 1) (hn : 2 < n) : pwO a n = pwO a (2 - n % 2) := by
  have hc : a = -1 ∨ a = 0 ∨ a = 1 := by omega
  rcases hc with rfl | rfl | rfl
  · rw [pwO_minus, pwO_minus]
    by_cases h : n % 2 = 0
    · rw [if_pos h, if_pos (by omega)]
    · rw [if_neg h, if_neg (by omega)]
  · obtain ⟨k, rfl⟩ : ∃ k, n = k + 1 := ⟨n - 1, by omega⟩
    obtain ⟨m, hm⟩ : ∃ m, 2 - (k + 1) % 2 = m + 1 := ⟨2 - (k + 1) % 2 - 1, by omega⟩
    rw [hm, pwO_zero, pwO_zero]
  · rw [pwO_one, pwO_one]
theorem pw_parity (a : Int) (n : Nat) (h : a.natAbs ≤ 1) (hz : a = 0 → n = 0) : pwO a n = pwO a (n % 2) := by
  have hc : a = -1 ∨ a = 0 ∨ a = 1 := by omega
  rcases hc with rfl | rfl | rfl
  · rw [pwO_minus, pwO_minus]
    by_cases h : n % 2 = 0
    · rw [if_pos h, if_pos (by omega)]
    · rw [if_neg h, if_neg (by omega)]
  · rw [hz rfl]
  · rw [pwO_one, pwO_one]
def retV (o : Option Int) : Int := o.getD 0
def retE (o : Option Int) : Int := if o.isSome = true then 0 else 10
def powOk (a n : Int) : Bool := inB a && (inB n && decide (0 ≤ n))
def powV (a n : Int) : Int := if powOk a n = true then retV (pwO a n.toNat) else 0
def powE (a n : Int) : Int := if powOk a n = true then retE (pwO a n.toNat) else 1
def PowAt (a : Int) (N : Nat) (p i : Value) : Prop := ∃ (k : Nat) (x : Int), k ≤ N ∧ i = .int .i64 (k : Int) ∧ p = .int .i64 x ∧ pwO a k = some x
end Go.Proofs.Ytpeleifkednmoaa.Fx
end
section
namespace Go.Proofs.Ytpeleifkednmoaa.Fx
open Go.ChangeShapes Go.WideShapes Go.ChangeAt Go.RowKit

theorem powV_no {a n : Int} (h : powOk a n = false) : powV a n = 0 := by unfold powV; simp [h]
theorem powE_no {a n : Int} (h : powOk a n = false) : powE a n = 1 := by unfold powE; simp [h]
theorem powV_yes {a n : Int} (h : powOk a n = true) : powV a n = retV (pwO a n.toNat) := by unfold powV; simp [h]
theorem powE_yes {a n : Int} (h : powOk a n = true) : powE a n = retE (pwO a n.toNat) := by unfold powE; simp [h]
end Go.Proofs.Ytpeleifkednmoaa.Fx
end
section
namespace Go.Proofs.Ytpeleifkednmoaa.Fx
open Go.ChangeShapes Go.WideShapes Go.ChangeAt Go.RowKit

/-- r is the greatest whose square is at most a. -/
def IsSq (a r : Int) : Prop := 0 ≤ r ∧ r * r ≤ a ∧ a < (r + 1) * (r + 1)
theorem sq_mono {x y : Int} (h : x ≤ y) (hx : 0 ≤ x) : x * x ≤ y * y := Int.mul_le_mul h h hx (by omega)
theorem sq_le_of {x y a : Int} (hx : x * x ≤ a) (hy : a < y * y) (h0 : 0 ≤ y) : x < y := by
  by_cases h : x < y
  · exact h
  · have := sq_mono (by omega : y ≤ x) h0; omega
theorem sq_unique {a r s : Int} (h : IsSq a r) (k : IsSq a s) : r = s := by
  obtain ⟨h0, h1, h2⟩ := h
  obtain ⟨k0, k1, k2⟩ := k
  have a1 := sq_le_of h1 k2 (by omega)
  have a2 := sq_le_of k1 h2 (by omega)
  omega
theorem sq_exists_nat (n : Nat) : ∃ r : Nat, r * r ≤ n ∧ n < (r + 1) * (r + 1) := by
  induction n with
  | zero => exact ⟨0, by omega, by omega⟩
  | succ n ih =>
    obtain ⟨r, h1, h2⟩ := ih
    by_cases h : n + 1 < (r + 1) * (r + 1)
    · exact ⟨r, by omega, h⟩
    · refine ⟨r + 1, by omega, ?_⟩
      have : (r + 1 + 1) * (r + 1 + 1) = (r + 1) * (r + 1) + 2 * (r + 1) + 1 := by
        rw [Nat.add_mul, Nat.mul_add, Nat.mul_add]; omega
      omega
theorem sq_exists {a : Int} (h : 0 ≤ a) : ∃ r, IsSq a r := by
  obtain ⟨n, rfl⟩ := Int.eq_ofNat_of_zero_le h
  obtain ⟨r, h1, h2⟩ := sq_exists_nat n
  exact ⟨r, by omega, by exact_mod_cast h1, by exact_mod_cast h2⟩
def SqRefAt (a : Int) (l h : Value) : Prop := ∃ x y : Nat, l = .int .i64 (x : Int) ∧ h = .int .i64 (y : Int) ∧ x < y ∧ y ≤ 2147483648 ∧ (x : Int) * (x : Int) ≤ a ∧ a < (y : Int) * (y : Int)
theorem or_i64 (a b : Nat) (ha : a < 2147483648) (hb : b < 2147483648) : bits .or .i64 (a : Int) (b : Int) = ((a ||| b : Nat) : Int) := by
  have hx : a ||| b < 2 ^ 31 := Nat.or_lt_two_pow (by omega) (by omega)
  have h1 : (BitVec.ofInt 64 (a : Int)).toNat = a := by
    rw [BitVec.ofInt_natCast, BitVec.toNat_ofNat]; exact Nat.mod_eq_of_lt (by omega)
  have h2 : (BitVec.ofInt 64 (b : Int)).toNat = b := by
    rw [BitVec.ofInt_natCast, BitVec.toNat_ofNat]; exact Nat.mod_eq_of_lt (by omega)
  show IntKind.i64.wrap ((BitVec.ofInt 64 (a : Int) ||| BitVec.ofInt 64 (b : Int)).toNat : Int) = _
  rw [BitVec.toNat_or, h1, h2]
  exact IntWalk.i64_in _ (by omega)
theorem or_add (R j : Nat) (h : 2 ^ (j + 1) ∣ R) : R ||| 2 ^ j = R + 2 ^ j := by
  obtain ⟨q, rfl⟩ := h
  exact (Nat.two_pow_add_eq_or_of_lt (Nat.pow_lt_pow_right (by omega) (by omega)) q).symm
theorem two_pow_lt (k : Nat) (h : k < 30) : 2 ^ (29 - k) < 1073741824 := by
  have : 2 ^ (29 - k) ≤ 2 ^ 29 := Nat.pow_le_pow_right (by omega) (by omega)
  omega
theorem sq_bound (S : Nat) (h : S ≤ 1073741824) : (S : Int) * (S : Int) ≤ 1152921504606846976 := by
  have : S * S ≤ 1073741824 * 1073741824 := Nat.mul_le_mul h h
  have e : ((S * S : Nat) : Int) = (S : Int) * (S : Int) := Int.natCast_mul S S
  omega
theorem sq_nonneg (S : Nat) : 0 ≤ (S : Int) * (S : Int) := Int.mul_nonneg (Int.natCast_nonneg _) (Int.natCast_nonneg _)
theorem dvd_lt (R P : Nat) (hP : P ∣ 1073741824) (h : P ∣ R) (hR : R < 1073741824) : R + P ≤ 1073741824 := by
  obtain ⟨q, hq⟩ := hP
  obtain ⟨t, rfl⟩ := h
  rw [hq] at hR ⊢
  have : t < q := by
    by_cases c : t < q
    · exact c
    · exact absurd hR (Nat.not_lt.2 (Nat.mul_le_mul_left P (by omega)))
  have e : P * t + P = P * (t + 1) := (Nat.mul_succ P t).symm
  rw [e]
  exact Nat.mul_le_mul_left P this
def SqFixAt (a : Int) (l i : Value) : Prop := ∃ R k : Nat, l = .int .i64 (R : Int) ∧ i = .int .i64 (k : Int) ∧ k ≤ 30 ∧ 2 ^ (30 - k) ∣ R ∧ R < 1073741824 ∧ (R : Int) * (R : Int) ≤ a ∧ a < ((R + 2 ^ (30 - k) : Nat) : Int) * ((R + 2 ^ (30 - k) : Nat) : Int)
end Go.Proofs.Ytpeleifkednmoaa.Fx
end
section
namespace Go.Proofs.Ytpeleifkednmoaa.Fx
open Go.ChangeShapes Go.WideShapes Go.ChangeAt Go.RowKit

def DigAt (n : Nat) (m c : Value) : Prop := ∃ r k : Nat, m = .int .u64 (r : Int) ∧ c = .int .i64 (k : Int) ∧ k + nd r = nd n + 1 ∧ r ≤ n
theorem digits_fix (n : Nat) (w : World) (hn : n ≤ 1152921504606846976) :
    Calls Try.prog 33 #[.int .u64 (n : Int)] w fun e w' => e = .returned (.int .i64 ((nd n : Nat) : Int)) ∧ w = w' := by
  have hd := nd_fix hn
  go_enter Try.func33, Try.ntmps33
  go_wp2
  go_loop [0, 3] (fun m c => DigAt n m c) (fun m _ => (intOf m).toNat)
  case atStart => exact ⟨n, 1, rfl, rfl, by omega, Nat.le_refl _⟩
  case round =>
    obtain ⟨r, k, rfl, rfl, hk, hr⟩ := hrel
    have p := nd_pos r
    by_cases c : r < 10
    · obtain rfl : k = nd n := by rw [nd_small c] at hk; omega
      have d : decide ((10 : Int) ≤ (r : Int)) = false := by simp; omega
      clear hk
      go_wp2
      go_ret
      exact ⟨rfl, rfl⟩
    · have hs := nd_big c
      have Hk := Lib.hid (show k + 1 + nd (r / 10) = nd n + 1 from by omega)
      have kb : k ≤ 20 := by omega
      clear hk hs p
      go_wp2
      go_round
      case rel => exact ⟨r / 10, k + 1, by go_num, by go_num, Hk.out, by omega⟩
      case measure => simp [intOf]; omega
theorem info_u8 : (Try.prog.info? 5).map (fun i => (i.zero, i.size, i.bytes)) = some (some (.int .u8 0), 1, 1) := by kernel_rfl
/-- The cells of the text as far as it is written: from its end. -/
def rowAt (n i : Nat) : List Value := List.replicate (nd n - i) (.int .u8 0) ++ (lastD n i).map (fun b => Value.int .u8 (b.toNat : Int))
theorem rowAt_len (n i : Nat) (h : i ≤ nd n) : (rowAt n i).length = nd n := by simp [rowAt, lastD_len]; omega
theorem rowAt_step (n i : Nat) (h : i < nd n) : (rowAt n i).set (nd n - 1 - i) (.int .u8 (48 + ((cutD n i : Nat) : Int) % 10)) = rowAt n (i + 1) := by
  unfold rowAt
  have e : nd n - i = (nd n - (i + 1)) + 1 := by omega
  have e2 : nd n - 1 - i = nd n - (i + 1) := by omega
  rw [e, e2, List.replicate_succ', List.append_assoc, List.set_append_right _ _ (by simp)]
  simp [lastD, digB_toNat]
theorem ret_text {s t : ByteArray} {v : Value} (h : s = t) : Ending.returned (.tuple #[.string s, v]) = Ending.returned (.tuple #[.string t, v]) := by rw [h]
def TextAt (n : Nat) (w : World) (m i : Value) (wr : World) : Prop :=
  ∃ k : Nat, k ≤ nd n ∧ m = .int .u64 ((cutD n k : Nat) : Int) ∧ i = .int .i64 (k : Int) ∧ wr.ownsRow w.heap.size 5 1 (.slice (some ⟨w.heap.size, 0, none⟩) (nd n) (nd n)) (nd n) (rowAt n k) ∧ Below w.heap.size w wr
theorem text_conv (n : Nat) (W wr : World) (h : wr.ownsRow W.heap.size 5 1 (.slice (some ⟨W.heap.size, 0, none⟩) (nd n) (nd n)) (nd n) (rowAt n (nd n))) :
    (convert 48 9 (.slice (some ⟨W.heap.size, 0, none⟩) (nd n) (nd n))).run Try.prog wr = .ok (.string ⟨(decL n).toArray⟩) wr := by
  have := run_convert_bytes_back (P := Try.prog) wr 48 9 5 ⟨W.heap.size, 0, none⟩ (nd n) (decL n) Try.underlying48 Try.underlying5 Try.underlying9 (fun j hj => by
    rw [decL_len] at hj
    have hc := h.cellAt j (by omega)
    rw [show (⟨W.heap.size, 0, none⟩ : Addr).add j = ⟨W.heap.size, j, none⟩ from by simp [Addr.add]; exact Eq.symm]
    rw [hc]
    simp [rowAt, lastD_all, List.getElem?_eq_getElem (by rw [decL_len]; exact hj : j < (decL n).length)])
  rw [decL_len] at this
  exact this
set_option maxHeartbeats 800000 in
theorem text_fix_in (a : Int) (w : World) (ha : inB a = true) :
    Calls Try.prog 17 #[.int .i64 a] w fun e w' => e = .returned (.tuple #[.string ⟨(textL a).toArray⟩, .int .i64 0]) ∧ Below w.heap.size w w' := by
  have A1 := abs_in ha
  have hd := nd_fix A1
  have hp := nd_pos a.natAbs
  obtain ⟨a1, a2⟩ := in_yes ha
  obtain ⟨i0, hi, hz0, hz1, hz2⟩ := info_parts info_u8
  obtain ⟨L, hL⟩ : ∃ L, textL a = L := ⟨_, rfl⟩
  rw [hL]
  have HL := Lib.hid hL
  clear hL
  go_enter Try.func17, Try.ntmps17
  go_wp2_with (first | (go_at_call 31; refine (in_fix _ _).mono ?_; rintro e w' ⟨rfl, rfl⟩) | (go_at_call 32; refine (size_fix _ _ ha).mono ?_; rintro e w' ⟨rfl, rfl⟩) | (go_at_call 33; refine (digits_fix _ _ A1).mono ?_; rintro e w' ⟨rfl, rfl⟩) | (at_make; refine wpList_make_full _ rfl _ _ 48 rfl w.heap.size 5 i0 (.int .u8 0) 1 Try.underlying48 hi hz0 hz1 _ _ _ _ (nd a.natAbs) rfl rfl rfl rfl ?b2 ?b3 (Nat.le_refl _) ?_))
  case b2 => rw [hz2]; omega
  case b3 => unfold maxLen; omega
  intro w1 hown hgrow
  have Hown := Lib.hid hown
  have Hgrow := Lib.hid hgrow
  clear hown hgrow
  go_wp2
  go_loopw [4, 18] (fun m i wr => TextAt a.natAbs w m i wr) (fun _ i _ => nd a.natAbs - (intOf i).toNat)
  case atStart => exact ⟨0, Nat.zero_le _, rfl, rfl, by have := Hown.out; simpa [rowAt, lastD, toList_madeCells_one, Value.cells] using this, (Below.refl _ _).grown Hgrow.out (Nat.le_refl _) (fun k h => by cases h)⟩
  case round =>
    obtain ⟨k, hk, rfl, rfl, hown, hb⟩ := hrel
    have Hown2 := Lib.hid hown
    have hsz := hb.size
    have Hb := Lib.hid hb
    have cle := cutD_le a.natAbs k
    clear hown hb Hown Hgrow w1 hi hz0 hz1 hz2 i0
    by_cases hlt : k < nd a.natAbs
    · have cc : wr.cell? ⟨w.heap.size, nd a.natAbs - 1 - k, none⟩ = some (.int .u8 0) := by
        rw [Hown2.out.cellAt _ (by omega), rowAt, List.getElem?_append_left (by rw [List.length_replicate]; omega), List.getElem?_replicate, if_pos (by omega)]
      have cf : wr.frozen? ⟨w.heap.size, nd a.natAbs - 1 - k, none⟩ = false := Hown2.out.frozenAt _
      have dlt : decide ((k : Int) < ((nd a.natAbs : Nat) : Int)) = true := by simp [hlt]
      go_wp2
      go_roundw
      case rel =>
        refine ⟨k + 1, hlt, by show _ = Value.int .u64 (((cutD a.natAbs k) / 10 : Nat) : Int); go_num, by go_num, ?_, Hb.out.setCell (Nat.le_refl _) _⟩
        rw [← rowAt_step _ _ hlt]
        exact (Hown2.out.stored _ _).1
      case measure => simp [intOf]; omega
    · obtain rfl : k = nd a.natAbs := by omega
      have dlt : decide (((nd a.natAbs : Nat) : Int) < ((nd a.natAbs : Nat) : Int)) = false := by simp
      have hcv := text_conv a.natAbs w wr Hown2.out
      have hlen : (decL a.natAbs).length ≤ 19 := by rw [decL_len]; exact hd
      by_cases h0 : a < 0
      · obtain rfl : L = 45 :: decL a.natAbs := by rw [← HL.out, textL, if_pos h0]
        go_wp2
        go_ret2
        exact ⟨ret_text (ByteArray.mk_append_mk [45] (decL a.natAbs)), Hb.out⟩
      · obtain rfl : L = decL a.natAbs := by rw [← HL.out, textL, if_neg h0]
        have d0 : decide (a < 0) = false := by simpa using h0
        go_wp2
        go_ret2
        exact ⟨rfl, Hb.out⟩
end Go.Proofs.Ytpeleifkednmoaa.Fx
end
section
namespace Go.Proofs.Ytpeleifkednmoaa.Fx
open Go.ChangeShapes Go.WideShapes Go.ChangeAt Go.RowKit

theorem ret_str {s t : ByteArray} (h : s = t) : Ending.returned (.string s) = Ending.returned (.string t) := by rw [h]
theorem one_conv (n : Nat) (w : World) :
    (convert 48 9 (.slice (some ⟨w.heap.size, 0, none⟩) 1 1)).run Try.prog (w.alloc (.cells #[.int .u8 (48 + (n : Int) % 10)] 5)) = .ok (.string ⟨[digB n].toArray⟩) (w.alloc (.cells #[.int .u8 (48 + (n : Int) % 10)] 5)) := by
  refine run_convert_bytes_back (P := Try.prog) _ 48 9 5 ⟨w.heap.size, 0, none⟩ 1 [digB n] Try.underlying48 Try.underlying5 Try.underlying9 (fun j hj => ?_)
  obtain rfl : j = 0 := by simpa using hj
  rw [show (⟨w.heap.size, 0, none⟩ : Addr).add 0 = ⟨w.heap.size, 0, none⟩ from rfl, World.cell?_alloc_mark]
  simp [digB_toNat]
theorem bel_alloc (w : World) (o : Obj) : Below w.heap.size w (w.alloc o) := (Below.refl _ _).alloc (Nat.le_refl _) o
theorem digits_ref_small (n : Nat) (w : World) (c : n < 10) :
    Calls Try.prog 40 #[.int .i64 (n : Int)] w fun e w' => e = .returned (.string ⟨(decL n).toArray⟩) ∧ Below w.heap.size w w' := by
  have hc := one_conv n w
  have d : decide ((n : Int) < 10) = true := by simp; omega
  rw [decL_small c]
  go_enter Try.func40, Try.ntmps40
  go_wp2_with fail
  go_ret
  exact ⟨rfl, bel_alloc _ _⟩
theorem digits_ref (k : Nat) : ∀ (n : Nat) (w : World), n ≤ k → n ≤ 1152921504606846976 →
    Calls Try.prog 40 #[.int .i64 (n : Int)] w fun e w' => e = .returned (.string ⟨(decL n).toArray⟩) ∧ Below w.heap.size w w' := by
  induction k with
  | zero => exact fun n w hk _ => digits_ref_small n w (by omega)
  | succ k ih =>
    intro n w hk hn
    by_cases c : n < 10
    · exact digits_ref_small n w c
    · have hc := one_conv n w
      have d : decide ((n : Int) < 10) = false := by simp; omega
      have hl := decL_len (n / 10)
      have hd := nd_fix (n := n / 10) (by omega)
      have e1 : (n : Int) / 10 = ((n / 10 : Nat) : Int) := by omega
      have Ih := Lib.hid ih
      obtain ⟨m, hm⟩ : ∃ m, n / 10 = m := ⟨_, rfl⟩
      have hmk : m ≤ k := by omega
      have hmn : m ≤ 1152921504606846976 := by omega
      rw [decL_big c, hm]
      rw [hm] at e1 hl hd
      have Hl := Lib.hid hl
      have hlen : (decL m).length ≤ 19 := by omega
      clear ih hm hl hk
      go_enter Try.func40, Try.ntmps40
      go_wp2_with (go_at_call 40; refine (Ih.out m _ hmk hmn).mono ?_; rintro e w' ⟨rfl, hb⟩; have Hb := Lib.hid hb; clear hb)
      go_ret
      exact ⟨ret_str (ByteArray.mk_append_mk _ _), bel_trans (bel_alloc _ _) Hb.out⟩
def textR (a : Int) : List UInt8 := if inB a = true then textL a else []
def textE (a : Int) : Int := if inB a = true then 0 else 1
theorem text_fix (a : Int) (w : World) :
    Calls Try.prog 17 #[.int .i64 a] w fun e w' => e = .returned (.tuple #[.string ⟨(textR a).toArray⟩, .int .i64 (textE a)]) ∧ Below w.heap.size w w' := by
  unfold textR textE
  cases ha : inB a
  · go_enter Try.func17, Try.ntmps17
    go_wp2_with (go_at_call 31; refine (in_fix _ _).mono ?_; rintro e w' ⟨rfl, rfl⟩)
    go_ret2
    exact ⟨rfl, bel_refl _⟩
  · exact text_fix_in a w ha
set_option maxHeartbeats 400000 in
theorem text_ref (a : Int) (w : World) :
    Calls Try.prog 23 #[.int .i64 a] w fun e w' => e = .returned (.tuple #[.string ⟨(textR a).toArray⟩, .int .i64 (textE a)]) ∧ Below w.heap.size w w' := by
  unfold textR textE
  cases ha : inB a
  · go_enter Try.func23, Try.ntmps23
    go_wp2_with (go_at_call 39; refine (in_ref _ _).mono ?_; rintro e w' ⟨rfl, rfl⟩)
    go_ret2
    exact ⟨rfl, bel_refl _⟩
  · have A1 := abs_in ha
    obtain ⟨a1, a2⟩ := in_yes ha
    have hl := decL_len a.natAbs
    have hd := nd_fix A1
    have hlen : (decL a.natAbs).length ≤ 19 := by omega
    clear hl hd
    unfold textL
    by_cases h0 : a < 0
    · rw [if_pos h0]
      have e1 : ((a.natAbs : Nat) : Int) = -a := by omega
      have E1 := Lib.hid e1
      clear e1
      go_enter Try.func23, Try.ntmps23
      go_wp2_with (first | (go_at_call 39; refine (in_ref _ _).mono ?_; rintro e w' ⟨rfl, rfl⟩) | (go_at_call 40; rw [← E1.out]; refine (digits_ref _ a.natAbs _ (Nat.le_refl _) A1).mono ?_; rintro e w' ⟨rfl, hb⟩; have Hb := Lib.hid hb; clear hb))
      go_ret2
      exact ⟨ret_text (ByteArray.mk_append_mk [45] _), Hb.out⟩
    · rw [if_neg h0]
      have d0 : decide (a < 0) = false := by simpa using h0
      have e1 : ((a.natAbs : Nat) : Int) = a := by omega
      have E1 := Lib.hid e1
      clear e1
      go_enter Try.func23, Try.ntmps23
      go_wp2_with (first | (go_at_call 39; refine (in_ref _ _).mono ?_; rintro e w' ⟨rfl, rfl⟩) | (go_at_call 40; rw [← E1.out]; refine (digits_ref _ a.natAbs _ (Nat.le_refl _) A1).mono ?_; rintro e w' ⟨rfl, hb⟩; have Hb := Lib.hid hb; clear hb))
      go_ret2
      exact ⟨rfl, Hb.out⟩
end Go.Proofs.Ytpeleifkednmoaa.Fx
end
section
namespace Go.Proofs.Ytpeleifkednmoaa.Fx
open Go.ChangeShapes Go.WideShapes Go.ChangeAt Go.RowKit

theorem ret_bool {x y : Bool} (h : x = y) : Ending.returned (.bool x) = Ending.returned (.bool y) := by rw [h]
theorem byte_at (t : ByteArray) (k : Nat) (_h : k < t.size) (h' : k < t.data.toList.length) : t.data.toList[k] = t[k] := by
  rw [Array.getElem_toList]; rfl
theorem dig_no {c : UInt8} (h : c.toNat < 48 ∨ 57 < c.toNat) : dig c = false := by
  cases e : dig c
  · rfl
  · have := dig_of e; omega
theorem head_ne (c : UInt8) : (false || (!false && decide (some c ≠ some 48))) = ((c.toNat : Int) != 48) := by
  by_cases h : c = 48
  · subst h; rfl
  · have : c.toNat ≠ 48 := fun e => h (UInt8.toNat_inj.1 e)
    have a : ((c.toNat : Int) != 48) = true := by rw [bne_iff_ne]; omega
    rw [a]; simp [h]
theorem len_of (t : ByteArray) : t.data.toList.length = t.size := by rw [Array.length_toList]; rfl
theorem okB_of_bad (t : ByteArray) (k : Nat) (h : k < t.size) (hd : dig t[k] = false) : okB t.data.toList = false := by
  have h' : k < t.data.toList.length := by rw [len_of]; exact h
  exact okB_bad h' (by rw [byte_at t k h h']; exact hd)
theorem okB_of_all (t : ByteArray) (h : ∀ j (hj : j < t.size), dig t[j] = true) : okB t.data.toList = (decide (t.data.toList = [48]) || (!t.data.toList.isEmpty && decide (t.data.toList.head? ≠ some 48))) := by
  refine okB_all (fun j hj => ?_)
  have hj' : j < t.size := by rw [← len_of]; exact hj
  rw [byte_at t j hj' hj]; exact h j hj'
def ProperAt (t : ByteArray) (i : Value) : Prop := ∃ k : Nat, k ≤ t.size ∧ i = .int .i64 (k : Int) ∧ ∀ j (hj : j < t.size), j < k → dig t[j] = true
set_option maxHeartbeats 800000 in
theorem proper_fix (t : ByteArray) (w : World) (hs : t.size ≤ maxLen) (b : Bool) (hb : Hid (okB t.data.toList = b)) :
    Calls Try.prog 81 #[.string t] w fun e w' => e = .returned (.bool b) ∧ w = w' := by
  unfold maxLen at hs
  go_enter Try.func81, Try.ntmps81
  go_wp2
  go_loop [6] (fun i => ProperAt t i) (fun i => t.size - (intOf i).toNat)
  case atStart => exact ⟨0, Nat.zero_le _, rfl, fun _ _ h => absurd h (Nat.not_lt_zero _)⟩
  case round =>
    obtain ⟨k, hk, rfl, hd⟩ := hrel
    have Hd := Lib.hid hd
    clear hd
    by_cases hlt : k < t.size
    · by_cases c1 : 48 ≤ (t[k].toNat : Int)
      · by_cases c2 : (t[k].toNat : Int) ≤ 57
        · have Hk : Hid (dig t[k] = true) := dig_mk (by omega) (by omega)
          go_wp2
          go_round
          case rel =>
            refine ⟨k + 1, by omega, by go_num, fun j hj hjk => ?_⟩
            by_cases e : j = k
            · subst e; exact Hk.out
            · exact Hd.out j hj (by omega)
          case measure => simp [intOf]; omega
        · have Hk : Hid (dig t[k] = false) := dig_no (by omega)
          have e1 := okB_of_bad t k hlt Hk.out
          rw [hb.out] at e1
          subst e1
          have d2 : decide (57 < (t[k].toNat : Int)) = true := decide_eq_true (by omega)
          have d1 : decide ((t[k].toNat : Int) < 48) = false := decide_eq_false (by omega)
          go_wp2
          go_ret
          exact ⟨rfl, rfl⟩
      · have Hk : Hid (dig t[k] = false) := dig_no (by omega)
        have e1 := okB_of_bad t k hlt Hk.out
        rw [hb.out] at e1
        subst e1
        have d1 : decide ((t[k].toNat : Int) < 48) = true := decide_eq_true (by omega)
        go_wp2
        go_ret
        exact ⟨rfl, rfl⟩
    · obtain rfl : k = t.size := by omega
      have e1 := okB_of_all t (fun j hj => Hd.out j hj hj)
      rw [hb.out] at e1
      have tl : t.toList = t.data.toList := ByteArray.toList_eq t
      have Tl := Lib.hid tl
      have E1 := Lib.hid e1
      clear e1 tl
      by_cases a1 : t.toList = [48]
      · obtain rfl : b = true := by rw [E1.out, ← Tl.out, a1]; rfl
        go_wp2
        go_ret
        exact ⟨rfl, rfl⟩
      · have f1 : (t.toList == [48]) = false := by simp [a1]
        by_cases a2 : t.toList = []
        · obtain rfl : b = false := by rw [E1.out, ← Tl.out, a2]; rfl
          have f2 : t.toList.isEmpty = true := by simp [a2]
          clear a1 a2
          go_wp2
          go_ret
          exact ⟨rfl, rfl⟩
        · have f2 : t.toList.isEmpty = false := by simp [a2]
          have hpos : 0 < t.size := by
            rw [← len_of, ← Tl.out]
            exact List.length_pos_iff.2 a2
          have hh : b = ((t[0].toNat : Int) != 48) := by
            rw [E1.out, ← Tl.out, decide_eq_false a1, f2]
            have h0 : t.toList.head? = some t[0] := by
              rw [Tl.out, List.head?_eq_getElem?, List.getElem?_eq_getElem (by rw [len_of]; exact hpos), byte_at t 0 hpos]
            rw [h0]
            exact head_ne t[0]
          have Hh := Lib.hid hh
          clear a1 a2 hh
          go_wp2
          go_ret
          exact ⟨ret_bool Hh.out.symm, rfl⟩
theorem trim_body (l : List UInt8) : Lib.trimPrefix l [45] = body l ∧ Lib.hasPrefix l [45] = negB l := by
  cases l with
  | nil => exact ⟨rfl, rfl⟩
  | cons c l =>
    by_cases h : c = 45
    · subst h; exact ⟨rfl, rfl⟩
    · have e : Lib.hasPrefix (c :: l) [45] = false := by
        show ((45 : UInt8) == c && _) = false
        rw [beq_eq_false_iff_ne.2 (Ne.symm h)]; rfl
      have n : negB (c :: l) = false := by unfold negB; simp [h]
      refine ⟨?_, e.trans n.symm⟩
      unfold body
      rw [n]
      simp [Lib.trimPrefix, e]
theorem cut_is (s T : ByteArray) (g : Bool) (w : World) (hT : T.data.toList = body s.data.toList) (hg : negB s.data.toList = g) :
    Calls Try.prog 80 #[.string s, .string ⟨#[45]⟩] w fun e w' => e = .returned (.tuple #[.string T, .bool g]) ∧ w = w' := by
  refine (Try.strings_CutPrefix s ⟨#[45]⟩ w).mono ?_
  rintro e w' ⟨rfl, rfl⟩
  refine ⟨?_, rfl⟩
  have e1 := (trim_body s.data.toList).1
  have e2 := (trim_body s.data.toList).2
  rw [show (⟨#[45]⟩ : ByteArray).data.toList = [45] from rfl, e1, e2, hg, ← hT]
def ParAt (T : ByteArray) (m i : Value) : Prop := ∃ k : Nat, k ≤ T.size ∧ i = .int .i64 (k : Int) ∧ m = .int .u64 ((numL (T.data.toList.take k) : Nat) : Int) ∧ numL (T.data.toList.take k) ≤ 1152921504606846976
theorem numL_at (T : ByteArray) (k : Nat) (h : k < T.size) : numL (T.data.toList.take (k + 1)) = 10 * numL (T.data.toList.take k) + (T[k].toNat - 48) := by
  have h' : k < T.data.toList.length := by rw [len_of]; exact h
  rw [numL_take _ _ h', byte_at T k h h']
theorem dig_at (T : ByteArray) (k : Nat) (h : k < T.size) (ho : okB T.data.toList = true) : 48 ≤ T[k].toNat ∧ T[k].toNat ≤ 57 := by
  have h' : k < T.data.toList.length := by rw [len_of]; exact h
  have := okB_dig ho k h'
  rw [byte_at T k h h'] at this
  exact dig_of this
set_option maxHeartbeats 1600000 in
theorem parse_fix_form (s T : ByteArray) (g : Bool) (R1 R2 : Int) (w : World) (ht : T.size ≤ maxLen) (hT : Hid (T.data.toList = body s.data.toList)) (hg : Hid (negB s.data.toList = g)) (hok : Hid (okB T.data.toList = true)) (hz : (s.toList == [45, 48]) = false)
    (hR1 : Hid (parV s.data.toList = R1)) (hR2 : Hid (parE s.data.toList = R2)) (hf : Hid (formB s.data.toList = true)) :
    Calls Try.prog 70 #[.string s] w fun e w' => e = .returned (.tuple #[.int .i64 R1, .int .i64 R2]) ∧ w = w' := by
  have Ht := Lib.hid ht
  unfold maxLen at ht
  go_enter Try.func70, Try.ntmps70
  go_wp2_with fail
  refine (cut_is s T g _ hT.out hg.out).mono ?_; rintro e w' ⟨rfl, rfl⟩
  go_wp2_with fail
  refine (proper_fix T _ Ht.out true hok).mono ?_; rintro e w' ⟨rfl, rfl⟩
  go_wp2_with fail
  go_loop [6, 22] (fun m i => ParAt T m i) (fun _ i => T.size - (intOf i).toNat)
  case atStart => exact ⟨0, Nat.zero_le _, rfl, rfl, by simp [numL]⟩
  case round =>
    obtain ⟨k, hk, rfl, rfl, hn⟩ := hrel
    by_cases hlt : k < T.size
    · obtain ⟨d1, d2⟩ := dig_at T k hlt hok.out
      have hnx := numL_at T k hlt
      have hmo := numL_mono T.data.toList (k + 1)
      obtain ⟨n, en⟩ : ∃ n, numL (T.data.toList.take k) = n := ⟨_, rfl⟩
      rw [en] at hn hnx
      have En := Lib.hid en
      have dl : decide ((k : Int) < (T.size : Int)) = true := by simp [hlt]
      by_cases hov : 1152921504606846976 < 10 * n + (T[k].toNat - 48)
      · have hp := par_over hf.out (by rw [← hT.out]; omega)
        rw [hR1.out, hR2.out] at hp
        obtain ⟨rfl, rfl⟩ := hp
        have d3 : decide ((1152921504606846976 : Int) < 10 * (n : Int) + ((T[k].toNat : Int) - 48)) = true := decide_eq_true (by omega)
        clear hnx hmo
        rw [en]
        clear en
        go_wp2
        go_ret2
        exact ⟨rfl, rfl⟩
      · have Hnx := Lib.hid hnx
        clear hnx hmo
        have d3 : decide ((1152921504606846976 : Int) < 10 * (n : Int) + ((T[k].toNat : Int) - 48)) = false := decide_eq_false (by omega)
        rw [en]
        clear en
        go_wp2
        go_round
        case rel => exact ⟨k + 1, by omega, by go_num, congrArg (Value.int .u64) (by rw [Hnx.out]; omega), by rw [Hnx.out]; omega⟩
        case measure => simp [intOf]; omega
    · obtain rfl : k = T.size := by omega
      have hall : T.data.toList.take T.size = T.data.toList := List.take_of_length_le (by rw [len_of]; exact Nat.le_refl _)
      obtain ⟨n, en⟩ : ∃ n, numL (T.data.toList.take T.size) = n := ⟨_, rfl⟩
      have en2 : numL (body s.data.toList) = n := by rw [← hT.out, ← hall]; exact en
      rw [en] at hn ⊢
      have dl : decide ((T.size : Int) < (T.size : Int)) = false := by simp
      clear hall en
      have h63 : (n : Int) ≤ 1152921504606846976 := by omega
      cases g
      · have hp : gotV (n : Int) = R1 ∧ gotE (n : Int) = R2 := by
          rw [← hR1.out, ← hR2.out]
          by_cases c : n ≤ 1152921504606846975
          · have := par_pos hf.out (by rw [en2]; exact c) hg.out
            rw [this.1, this.2, en2]
            exact got_in (in_mk (by omega) (by omega))
          · have := par_top hf.out (by rw [en2]; omega) hg.out
            rw [this.1, this.2]
            exact got_out (in_not (by omega))
        have Hp := Lib.hid hp
        clear hp en2
        go_wp2_with (go_at_call 82; refine (signed_pos _ _ (by omega) h63).mono ?_; rintro e w' ⟨rfl, rfl⟩; rw [Hp.out.1, Hp.out.2])
        go_ret2
        exact ⟨rfl, rfl⟩
      · have hp := par_neg hf.out (by rw [en2]; exact hn) hg.out
        rw [en2, hR1.out, hR2.out] at hp
        obtain ⟨rfl, rfl⟩ := hp
        clear en2
        go_wp2_with (go_at_call 82; refine (signed_neg _ _ (by omega) h63).mono ?_; rintro e w' ⟨rfl, rfl⟩)
        go_ret2
        exact ⟨rfl, rfl⟩
theorem parse_fix_bad (s T : ByteArray) (g : Bool) (w : World) (ht : T.size ≤ maxLen) (hT : Hid (T.data.toList = body s.data.toList)) (hg : Hid (negB s.data.toList = g)) (hok : Hid (okB T.data.toList = false)) :
    Calls Try.prog 70 #[.string s] w fun e w' => e = .returned (.tuple #[.int .i64 0, .int .i64 5]) ∧ w = w' := by
  have Ht := Lib.hid ht
  clear ht
  go_enter Try.func70, Try.ntmps70
  go_wp2_with fail
  refine (cut_is s T g _ hT.out hg.out).mono ?_; rintro e w' ⟨rfl, rfl⟩
  go_wp2_with fail
  refine (proper_fix T _ Ht.out false hok).mono ?_; rintro e w' ⟨rfl, rfl⟩
  go_wp2_with fail
  go_ret2
  exact ⟨rfl, rfl⟩
theorem parse_fix_zero (s T : ByteArray) (g : Bool) (w : World) (ht : T.size ≤ maxLen) (hT : Hid (T.data.toList = body s.data.toList)) (hg : Hid (negB s.data.toList = g)) (hok : Hid (okB T.data.toList = true)) (hz : (s.toList == [45, 48]) = true) :
    Calls Try.prog 70 #[.string s] w fun e w' => e = .returned (.tuple #[.int .i64 0, .int .i64 5]) ∧ w = w' := by
  have Ht := Lib.hid ht
  clear ht
  go_enter Try.func70, Try.ntmps70
  go_wp2_with fail
  refine (cut_is s T g _ hT.out hg.out).mono ?_; rintro e w' ⟨rfl, rfl⟩
  go_wp2_with fail
  refine (proper_fix T _ Ht.out true hok).mono ?_; rintro e w' ⟨rfl, rfl⟩
  go_wp2_with fail
  go_ret2
  exact ⟨rfl, rfl⟩
theorem body_len (l : List UInt8) : (body l).length ≤ l.length := by
  unfold body; split
  · rw [List.length_tail]; omega
  · exact Nat.le_refl _
theorem parse_fix (s : ByteArray) (w : World) (hs : s.size ≤ maxLen) :
    Calls Try.prog 70 #[.string s] w fun e w' => e = .returned (.tuple #[.int .i64 (parV s.data.toList), .int .i64 (parE s.data.toList)]) ∧ w = w' := by
  have hT : (⟨(body s.data.toList).toArray⟩ : ByteArray).data.toList = body s.data.toList := rfl
  have hl : (⟨(body s.data.toList).toArray⟩ : ByteArray).size ≤ maxLen := by
    rw [← len_of, hT]
    exact Nat.le_trans (body_len _) (by rw [len_of]; exact hs)
  cases ho : okB (body s.data.toList)
  · have := par_form (show formB s.data.toList = false from by unfold formB; rw [ho]; rfl)
    rw [this.1, this.2]
    exact parse_fix_bad s _ _ w hl (Lib.hid hT) (Lib.hid rfl) (Lib.hid (by rw [hT]; exact ho))
  · by_cases hz : s.data.toList = [45, 48]
    · have := par_form (show formB s.data.toList = false from by unfold formB; rw [hz]; simp)
      rw [this.1, this.2]
      exact parse_fix_zero s _ _ w hl (Lib.hid hT) (Lib.hid rfl) (Lib.hid (by rw [hT]; exact ho)) (by rw [ByteArray.toList_eq, hz]; rfl)
    · have hf : formB s.data.toList = true := by unfold formB; rw [ho]; simp [hz]
      exact parse_fix_form s _ _ _ _ w hl (Lib.hid hT) (Lib.hid rfl) (Lib.hid (by rw [hT]; exact ho)) (by rw [ByteArray.toList_eq]; simp [hz]) (Lib.hid rfl) (Lib.hid rfl) (Lib.hid hf)
end Go.Proofs.Ytpeleifkednmoaa.Fx
end
section
namespace Go.Proofs.Ytpeleifkednmoaa.Fx
open Go.ChangeShapes Go.WideShapes Go.ChangeAt Go.RowKit
set_option linter.unusedVariables false

theorem negB_cons (c : UInt8) (l : List UInt8) : negB (c :: l) = decide (c = 45) := by unfold negB; simp
theorem body_neg {l : List UInt8} (h : negB l = true) : body l = l.tail := by unfold body; rw [if_pos h]
theorem body_pos {l : List UInt8} (h : negB l = false) : body l = l := by unfold body; rw [if_neg (by simp [h])]
theorem form_nil : formB [] = false := by decide
theorem form_bad0 {l : List UInt8} (h : negB l = false) (k : Nat) (hk : k < l.length) (hd : dig l[k] = false) : formB l = false := by
  unfold formB; rw [body_pos h, okB_bad hk hd]; rfl
theorem form_bad1 {l : List UInt8} (h : negB l = true) (k : Nat) (h1 : 1 ≤ k) (hk : k < l.length) (hd : dig l[k] = false) : formB l = false := by
  unfold formB
  rw [body_neg h, okB_bad (k := k - 1) (l := l.tail) (by rw [List.length_tail]; omega) (by rw [List.getElem_tail]; simp only [Nat.sub_add_cancel h1]; exact hd)]; rfl
theorem form_zero0 {l : List UInt8} (h : negB l = false) (h1 : 1 < l.length) (hz : l[0] = 48) : formB l = false := by
  unfold formB okB
  rw [body_pos h]
  match l, h1, hz with
  | a :: b :: t, _, hz =>
    simp at hz
    subst hz
    simp
theorem form_zero1 {l : List UInt8} (h : negB l = true) (h1 : 1 < l.length) (hz : l[1] = 48) : formB l = false := by
  unfold formB okB
  rw [body_neg h]
  match l, h1, hz, h with
  | a :: b :: t, _, hz, h =>
    simp at hz
    subst hz
    rw [negB_cons] at h
    have : a = 45 := by simpa using h
    subst this
    cases t <;> simp
theorem form_one {l : List UInt8} (h : negB l = true) (h1 : l.length = 1) : formB l = false := by
  match l, h1 with
  | [a], _ =>
    rw [negB_cons] at h
    have : a = 45 := by simpa using h
    subst this; decide
theorem form_good0 {l : List UInt8} (h : negB l = false) (h0 : 0 < l.length) (hz : l[0] ≠ 48 ∨ l.length = 1) (hd : ∀ j (hj : j < l.length), dig l[j] = true) : formB l = true := by
  unfold formB
  rw [body_pos h, okB_all hd]
  match l, h0, hz, h with
  | a :: t, _, hz, h =>
    rw [negB_cons] at h
    have ha : a ≠ 45 := by simpa using h
    have e : decide (a :: t ≠ [45, 48]) = true := by simp [ha]
    rw [e]
    rcases hz with hz | hz
    · simp at hz; simp [hz]
    · cases t with
      | nil => by_cases c : a = 48 <;> simp [c]
      | cons b t => simp at hz
theorem form_good1 {l : List UInt8} (h : negB l = true) (h0 : 1 < l.length) (hz : l[1] ≠ 48) (hd : ∀ j (hj : j < l.length), 1 ≤ j → dig l[j] = true) : formB l = true := by
  unfold formB
  rw [body_neg h]
  match l, h0, hz, h, hd with
  | a :: b :: t, _, hz, h, hd =>
    have hz : b ≠ 48 := by simpa using hz
    have : okB (b :: t) = true := by
      rw [okB_all (fun j hj => by have := hd (j + 1) (by simpa using hj) (by omega); simpa using this)]
      simp [hz]
    show (okB (b :: t) && _) = true
    rw [this]; simp [hz]
theorem form_len {l : List UInt8} (h : formB l = true) : body l ≠ [] := by
  unfold formB at h
  rw [Bool.and_eq_true] at h
  exact okB_ne h.1
theorem numL_ge (l : List UInt8) (h0 : 0 < l.length) (hd : 49 ≤ (l[0]).toNat) : ∀ k, k < l.length → 10 ^ k ≤ numL (l.take (k + 1)) := by
  intro k
  induction k with
  | zero => intro _; rw [numL_take l 0 h0]; simp [numL]; omega
  | succ k ih =>
    intro hk
    have := ih (by omega)
    rw [numL_take l (k + 1) hk, Nat.pow_succ]
    omega
theorem form_over {l : List UInt8} (h : formB l = true) (hl : 20 < l.length) : 1152921504606846976 < numL (body l) := by
  have hb : 20 ≤ (body l).length := by
    unfold body; split
    · rw [List.length_tail]; omega
    · omega
  have h2 := h
  unfold formB at h2
  rw [Bool.and_eq_true] at h2
  have ho := h2.1
  have hd := dig_of (okB_dig ho 0 (by omega))
  have hne : (body l)[0] ≠ 48 := by
    intro e
    unfold okB at ho
    rw [Bool.and_eq_true, Bool.or_eq_true] at ho
    rcases ho.2 with c | c
    · have : body l = [48] := by simpa using c
      rw [this] at hb; simp at hb
    · rw [Bool.and_eq_true] at c
      have c2 := c.2
      rw [List.head?_eq_getElem?, List.getElem?_eq_getElem (by omega), e] at c2
      simp at c2
  have h49 : 49 ≤ ((body l)[0]).toNat := by
    have : ((body l)[0]).toNat ≠ 48 := fun e => hne (UInt8.toNat_inj.1 e)
    omega
  have g := numL_ge (body l) (by omega) h49 19 (by omega)
  have m := numL_mono (body l) (19 + 1)
  have : (10 : Nat) ^ 19 = 10000000000000000000 := by decide
  omega
/-! The document's form of a number's text. -/
def FormAt (s : ByteArray) (a : Nat) (i : Value) : Prop := ∃ k : Nat, a ≤ k ∧ k ≤ s.size ∧ i = .int .i64 (k : Int) ∧ ∀ j (hj : j < s.size), a ≤ j → j < k → dig s[j] = true
theorem neg_of (s : ByteArray) (h : 0 < s.size) : negB s.data.toList = decide (s[0].toNat = 45) := by
  unfold negB
  rw [List.head?_eq_getElem?, List.getElem?_eq_getElem (by rw [len_of]; exact h), byte_at s 0 h]
  by_cases c : s[0].toNat = 45
  · have : s[0] = 45 := UInt8.toNat_inj.1 c
    rw [this]; rfl
  · have : s[0] ≠ 45 := fun e => c (by rw [e]; rfl)
    simp [c, this]
end Go.Proofs.Ytpeleifkednmoaa.Fx
end
section
namespace Go.Proofs.Ytpeleifkednmoaa.Fx
open Go.ChangeShapes Go.WideShapes Go.ChangeAt Go.RowKit
set_option linter.unusedVariables false

theorem beqI {x y : Int} (h : x = y) : (x == y) = true := by simp [h]
theorem beqI' {x y : Int} (h : x ≠ y) : (x == y) = false := by simp [h]
theorem u8_48 {c : UInt8} : c.toNat = 48 ↔ c = 48 := ⟨fun h => UInt8.toNat_inj.1 h, fun h => by rw [h]; rfl⟩
/-! The document's reading. -/
def ParRefAt (s : ByteArray) (l : List UInt8) (a : Nat) (m i : Value) : Prop := ∃ k : Nat, k ≤ s.size ∧ i = .int .i64 (k : Int) ∧ m = .int .i64 (-((numL (l.take (k - a)) : Nat) : Int)) ∧ numL (l.take (k - a)) ≤ 1152921504606846976
end Go.Proofs.Ytpeleifkednmoaa.Fx
end
