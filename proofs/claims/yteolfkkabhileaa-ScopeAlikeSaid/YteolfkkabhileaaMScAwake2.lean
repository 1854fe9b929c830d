/- Does a mark look back (layer 5)? What is found, reckoned. -/
import Derived.Test.YteolfkkabhileaaMScAwake
section
namespace Go.Proofs.Yteolfkkabhileaa.Sc
open Go.ChangeShapes Go.WideShapes Go.ChangeAt Go.RowKit
set_option linter.unusedVariables false
set_option linter.unusedSimpArgs false

def dX : Da.Dt := .mk 5 0 ⟨#[120]⟩ [] [] []
def dX1 : Da.Dt := .mk 5 0 ⟨#[120]⟩ [1] [] []
theorem sym_dX : IsSym dX := ⟨rfl, by kernel_rfl⟩
theorem sym_dX1 : IsSym dX1 := ⟨rfl, by kernel_rfl⟩
abbrev iX : Idn := ⟨[120], []⟩
abbrev iX1 : Idn := ⟨[120], [1]⟩
def aT1 : Tab := ⟨[default], [0]⟩
def aT2 : Tab := ⟨[default, ⟨0, iX, 7⟩], [0]⟩
def aT3 : Tab := ⟨[default, ⟨0, iX, 7⟩, ⟨1, iX1, 8⟩], [0]⟩
theorem aw1 : markE Tab.new 0 = 0 := rfl
theorem aw1t : markT Tab.new 0 = aT1 := rfl
theorem aw2 : extE aT1 0 dX = 0 := by unfold extE; rw [if_neg (by decide), if_neg (by simpa using sym_dX), if_neg (by decide)]
theorem aw2t : extT aT1 0 dX 7 = aT2 := by unfold extT; rw [aw2, if_pos rfl]; rfl
theorem aw3 : extE aT2 1 dX1 = 0 := by unfold extE; rw [if_neg (by decide), if_neg (by simpa using sym_dX1), if_neg (by decide)]
theorem aw3t : extT aT2 1 dX1 8 = aT3 := by unfold extT; rw [aw3, if_pos rfl]; rfl
theorem aw4 : findE aT3 2 dX = 0 := by unfold findE; rw [if_neg (by decide), if_neg (by simpa using sym_dX), if_pos (by decide)]
theorem aw4z : findZ aT3 2 dX = ⟨1, 7, []⟩ := by unfold findZ; rw [aw4, if_pos rfl]; rfl
theorem aw5 : findE aT3 1 dX1 = 0 := by unfold findE; rw [if_neg (by decide), if_neg (by simpa using sym_dX1), if_pos (by decide)]
theorem aw5z : findZ aT3 1 dX1 = ⟨0, 0, [120]⟩ := by unfold findZ; rw [aw5, if_pos rfl]; rfl
end Go.Proofs.Yteolfkkabhileaa.Sc
end
