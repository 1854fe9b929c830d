/- What the powers of layer 1, and the document's, are: for every two numbers of 64 bits. -/
import Derived.Test.YteddfdhbpgbloaaFixPow
namespace Go.Proofs.Yteddfdhbpgbloaa.Fx
open Go.ChangeShapes Go.WideShapes Go.ChangeAt Go.RowKit

theorem powV_no {a n : Int} (h : powOk a n = false) : powV a n = 0 := by unfold powV; simp [h]
theorem powE_no {a n : Int} (h : powOk a n = false) : powE a n = 1 := by unfold powE; simp [h]
theorem powV_yes {a n : Int} (h : powOk a n = true) : powV a n = retV (pwO a n.toNat) := by unfold powV; simp [h]
theorem powE_yes {a n : Int} (h : powOk a n = true) : powE a n = retE (pwO a n.toNat) := by unfold powE; simp [h]
end Go.Proofs.Yteddfdhbpgbloaa.Fx
