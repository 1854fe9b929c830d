/- Blocks of cells: what is known of one, after stores, and after calls that make memory. -/
import Derived.Laws.IdiomRangeMap
import Derived.Test.YtpeleifkednmoaaMLexScan5
section
namespace Go.Proofs.Ytpeleifkednmoaa.Lx
open Go.ChangeShapes Go.WideShapes Go.ChangeAt Go.RowKit

def Blk (w : World) (g : Nat) (t : TypeId) (cs : Array Value) : Prop := w.heap[g]? = some (.cells cs t (0, 0))
theorem Blk.cell {w : World} {g : Nat} {t : TypeId} {cs : Array Value} (h : Blk w g t cs) (i : Nat) : w.cell? ⟨g, i, none⟩ = cs[i]? := cell_of_row w g i cs t (0, 0) h
theorem Blk.frozen {w : World} {g : Nat} {t : TypeId} {cs : Array Value} (h : Blk w g t cs) (i : Nat) : w.frozen? ⟨g, i, none⟩ = false := by
  have h' : w.heap[g]? = some (.cells cs t (0, 0)) := h
  simp [World.frozen?, h']
theorem Blk.lt {w : World} {b : Nat} {t : TypeId} {c : Array Value} (h : Blk w b t c) : b < w.heap.size := (Array.getElem?_eq_some_iff.1 h).1
theorem Blk.bel {w w' : World} {b : Nat} {t : TypeId} {c : Array Value} (h : Blk w b t c) (hb : Below w.heap.size w w') : Blk w' b t c := (hb.block b h.lt).trans h
theorem Blk.other {w : World} {b g : Nat} {t : TypeId} {c : Array Value} (h : Blk w b t c) (hne : g ≠ b) (o : Nat) (v : Value) : Blk (w.setCell ⟨g, o, none⟩ v) b t c := by
  show (w.setCell _ v).heap[b]? = _
  rw [Below.heap_setCell _ _ _ _ (by simpa using Ne.symm hne)]
  exact h
theorem Blk.set {w : World} {b : Nat} {t : TypeId} {c : Array Value} (h : Blk w b t c) (o : Nat) (v : Value) : Blk (w.setCell ⟨b, o, none⟩ v) b t (c.setIfInBounds o v) := by
  have h' : w.heap[b]? = some (.cells c t (0, 0)) := h
  have hl := h.lt
  show (w.setCell _ v).heap[b]? = _
  unfold World.setCell
  simp [Array.getElem?_modify, h']
def allocs (w : World) (l : List (Array Value × TypeId)) : World := l.foldl (fun w x => w.alloc (.cells x.1 x.2)) w
theorem start_allocs : ∀ (l : List (Array Value × TypeId)) (w : World), Below w.heap.size w (allocs w l) ∧ (allocs w l).heap.size = w.heap.size + l.length ∧ ∀ i x, l[i]? = some x → Blk (allocs w l) (w.heap.size + i) x.2 x.1
  | [], w => ⟨Below.refl _ _, rfl, fun i x h => by simp at h⟩
  | y :: r, w => by
    obtain ⟨h1, h2, h3⟩ := start_allocs r (w.alloc (.cells y.1 y.2))
    have hs : (w.alloc (.cells y.1 y.2)).heap.size = w.heap.size + 1 := by simp
    refine ⟨bel_trans (bel_alloc _ _) h1, by show (allocs _ r).heap.size = _; rw [h2, hs, List.length_cons]; omega, fun i x hx => ?_⟩
    cases i with
    | zero =>
      obtain rfl : y = x := by simpa using hx
      exact (h1.block _ (by rw [hs]; omega)).trans (heap_alloc_new w _)
    | succ i =>
      have := h3 i x (by simpa using hx)
      rw [hs] at this
      rwa [show w.heap.size + 1 + i = w.heap.size + (i + 1) by omega] at this
end Go.Proofs.Ytpeleifkednmoaa.Lx
end
