/- Two slices of data put together in new memory: what slices.Concat returns. -/
import Derived.Test.YtapnighankepjaaDatList
import Derived.Shelf.Spec.SlicesGrow
import Derived.Laws.AppendOwnNone
namespace Go.Proofs.Ytapnighankepjaa.Da
open Go.ChangeShapes Go.WideShapes Go.ChangeAt Go.RowKit

theorem size_zeroCells (z : Array Value) (n : Nat) : (Builtin.zeroCells z n).size = n * z.size := by
  unfold Builtin.zeroCells
  simp
/-- Room for so many. -/
def GrowP (w : World) (e : Ending) (w' : World) : Prop := ∃ cap, e = .returned (.slice (some ⟨w.heap.size, 0, none⟩) 0 cap) ∧ w'.ownsRow w.heap.size 33 6 (.slice (some ⟨w.heap.size, 0, none⟩) 0 cap) 0 [] ∧ Below w.heap.size w w'
theorem block_add (a : Addr) (n : Nat) : (a.add n).block = a.block := by unfold Addr.add; split <;> rfl
theorem own_ge {w : World} {base : Nat} {e : TypeId} {size : Nat} {v : Value} {n : Nat} {xs : List Value} (h : w.ownsRow base e size v n xs) {k : Nat} (hk : v.ownBlock = some k) : base ≤ k := by
  rcases h.2 with ⟨rfl, _⟩ | ⟨g, cap, cur, rfl, hb, _⟩
  · simp [Value.ownBlock] at hk
  · have : g = k := by simpa [Value.ownBlock] using hk
    omega
def CatAt1 (n1 : Nat) (t i : Value) : Prop := (i = .int .i64 0 ∧ t = .int .i64 0) ∨ (i = .int .i64 1 ∧ t = .int .i64 1) ∨ (i = .int .i64 2 ∧ t = .int .i64 (1 + (n1 : Int)))
/-- The two put together in a row of its own. -/
def CatR (w : World) (n1 : Nat) (news0 news1 : List Value) (e : Ending) (w' : World) : Prop :=
  ∃ g cap, e = .returned (.slice (some ⟨g, 0, none⟩) (1 + n1) cap) ∧ w.heap.size ≤ g ∧ g < w'.heap.size ∧ 1 + n1 ≤ cap ∧ cap ≤ maxLen ∧ (∀ j, j < (1 + n1) * 6 → w'.cell? ⟨g, j, none⟩ = (news0 ++ news1)[j]?) ∧ Below w.heap.size w w'
def CatAt2 (w : World) (n1 : Nat) (news0 news1 : List Value) (v i : Value) (wr : World) : Prop :=
  ((i = .int .i64 0 ∧ ∃ g cap, v = .slice (some ⟨g, 0, none⟩) 0 cap ∧ wr.ownsRow w.heap.size 33 6 v 0 []) ∨ (i = .int .i64 1 ∧ ∃ g cap, v = .slice (some ⟨g, 0, none⟩) 1 cap ∧ wr.ownsRow w.heap.size 33 6 v 1 news0) ∨
    (i = .int .i64 2 ∧ ∃ g cap, v = .slice (some ⟨g, 0, none⟩) (1 + n1) cap ∧ wr.ownsRow w.heap.size 33 6 v (1 + n1) (news0 ++ news1))) ∧ Below w.heap.size w wr
end Go.Proofs.Ytapnighankepjaa.Da
