/- A datum copied in new memory: what the program returns. -/
import Derived.Test.YtapnighankepjaaDatEach
import Derived.Test.YtapnighankepjaaOrd
import Derived.Test.YtapnighankepjaaDatOwnEnd
import Derived.Deep.RegionHeld3
import Derived.Deep.RegionLaw
import Derived.Deep.RegionWith
import Derived.StillTactics
import Derived.Laws.Pointers
namespace Go.Proofs.Ytapnighankepjaa.Da
open Go.ChangeShapes Go.WideShapes Go.ChangeAt Go.RowKit

/-- A block that is known whole. -/
def Blk (w : World) (g : Nat) (t : TypeId) (cs : Array Value) : Prop := w.heap[g]? = some (.cells cs t (0, 0))
theorem Blk.cell {w : World} {g : Nat} {t : TypeId} {cs : Array Value} (h : Blk w g t cs) (i : Nat) : w.cell? ⟨g, i, none⟩ = cs[i]? := cell_of_row w g i cs t (0, 0) h
theorem Blk.frozen {w : World} {g : Nat} {t : TypeId} {cs : Array Value} (h : Blk w g t cs) (i : Nat) : w.frozen? ⟨g, i, none⟩ = false := by
  unfold Blk at h
  simp [World.frozen?, h]
theorem Blk.fr {S : Nat → Prop} {w w' : World} {g : Nat} {t : TypeId} {cs : Array Value} (h : Blk w g t cs) (hf : Fr S w w') (hs : ¬ S g) (hg : g < w.heap.size) : Blk w' g t cs := (hf.block g hg hs).trans h
theorem cnt_pos (d : Dt) : 0 < cnt d := by rw [cnt_eq]; omega
theorem bel2' (w : World) (o p : Obj) : Below w.heap.size w ((w.alloc o).alloc p) := ((Below.refl _ _).alloc (Nat.le_refl _) _).alloc (by simp) _
end Go.Proofs.Ytapnighankepjaa.Da
