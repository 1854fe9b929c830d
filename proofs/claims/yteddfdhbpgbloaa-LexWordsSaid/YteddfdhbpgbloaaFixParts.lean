/- What the quotients, the rests and the greatest common divisor of layer 1, and the document's, are: for every two numbers of 64 bits. -/
import Derived.Test.YteddfdhbpgbloaaFixMul
import Derived.BigQuiet
import Derived.Deep.QuietTactic
namespace Go.Proofs.Yteddfdhbpgbloaa.Fx
open Go.ChangeShapes Go.WideShapes Go.ChangeAt Go.RowKit

def partE (a b : Int) : Int := if (inB a && inB b) = true then (if b = 0 then 11 else 0) else 1
def remV (a b : Int) : Int := if (inB a && inB b) = true then (if b = 0 then 0 else a.tmod b) else 0
def quoV (a b : Int) : Int := if (inB a && inB b) = true then (if b = 0 then 0 else gotV (a.tdiv b)) else 0
def quoE (a b : Int) : Int := if (inB a && inB b) = true then (if b = 0 then 11 else gotE (a.tdiv b)) else 1
def modN (e r b : Int) : Int := if (decide (e = 0) && (!decide (r = 0) && (decide (r < 0) != decide (b < 0)))) = true then r + b else r
theorem tdiv_abs (a b : Int) (h : a.natAbs ≤ 1152921504606846976) : -1152921504606846976 ≤ a.tdiv b ∧ a.tdiv b ≤ 1152921504606846976 := by
  have e : (a.tdiv b).natAbs = a.natAbs / b.natAbs := Int.natAbs_tdiv a b
  have : a.natAbs / b.natAbs ≤ a.natAbs := Nat.div_le_self _ _
  omega
theorem tmod_abs (a b : Int) (h : a.natAbs ≤ 1152921504606846976) : -1152921504606846976 ≤ a.tmod b ∧ a.tmod b ≤ 1152921504606846976 := by
  have e : (a.tmod b).natAbs = a.natAbs % b.natAbs := Int.natAbs_tmod a b
  have : a.natAbs % b.natAbs ≤ a.natAbs := Nat.mod_le _ _
  omega
theorem rem_abs (a b : Int) : -1152921504606846976 ≤ remV a b ∧ remV a b ≤ 1152921504606846976 := by
  unfold remV
  cases ha : inB a <;> cases hb : inB b <;> simp
  split
  · simp
  · exact tmod_abs a b (abs_in ha)
theorem modN_ne {e r b : Int} (h : (e == 0) = false) : modN e r b = r := by
  have h : ¬ e = 0 := by simpa using h
  unfold modN; rw [if_neg (by simp [h])]
theorem modN_z {e b : Int} : modN e 0 b = 0 := by
  unfold modN; rw [if_neg (by simp)]
theorem modN_same {e r b : Int} (h : decide (r < 0) = decide (b < 0)) : modN e r b = r := by
  unfold modN; rw [if_neg (by simp [h])]
theorem modN_add {r b : Int} (h0 : ¬ r = 0) (h : decide (r < 0) = !decide (b < 0)) : modN 0 r b = r + b := by
  unfold modN; rw [if_pos (by simp [h0, h])]

end Go.Proofs.Yteddfdhbpgbloaa.Fx
