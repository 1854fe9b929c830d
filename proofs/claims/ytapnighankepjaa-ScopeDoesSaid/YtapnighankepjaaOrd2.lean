/- Two stores of a statement whose order is open come last, in either order; stores to two blocks. -/
import Derived.Test.YtapnighankepjaaOrd
namespace Go.Proofs.Ytapnighankepjaa.Od
open Go Go.RowKit

section
variable {P : Program} {ops : Array Oper} {Q : Exit → Act → World → Prop} {md : Region.Mode} {S T : World → Prop} {s : Nat}

theorem Till.two {i j n : Nat} {listed : Array Bool} {a : Act} {w : World} (wi wj wf : World) (hr : Region.ready md ops listed = [i, j]) (hri : Region.ready md ops (listed.setIfInBounds i true) = [j])
    (hrj : Region.ready md ops (listed.setIfInBounds j true) = [i]) (hrd : Region.ready md ops ((listed.setIfInBounds i true).setIfInBounds j true) = []) (hij : i ≠ j)
    (h1 : ∀ K : Act → World → Prop, K a wi → wpOp P ops Q i K a w) (h2 : ∀ K : Act → World → Prop, K a wf → wpOp P ops Q j K a wi)
    (h3 : ∀ K : Act → World → Prop, K a wj → wpOp P ops Q j K a w) (h4 : ∀ K : Act → World → Prop, K a wf → wpOp P ops Q i K a wj)
    (c1 : ((listed.setIfInBounds i true).getD s false = false → S wi) ∧ T wi) (c2 : (((listed.setIfInBounds i true).setIfInBounds j true).getD s false = false → S wf) ∧ T wf)
    (c3 : ((listed.setIfInBounds j true).getD s false = false → S wj) ∧ T wj) (h : Q .normal a wf) : Till P md ops Q S T s (n + 2) listed a w := by
  have hrd' : Region.ready md ops ((listed.setIfInBounds j true).setIfInBounds i true) = [] := by rw [Array.setIfInBounds_comm _ _ (Ne.symm hij)]; exact hrd
  refine ⟨fun h0 => (by rw [hr] at h0; cases h0), fun k hk => ?_⟩
  rw [hr] at hk
  simp only [List.mem_cons, List.not_mem_nil, or_false] at hk
  rcases hk with rfl | rfl
  · refine h1 _ ⟨c1, fun h0 => (by rw [hri] at h0; cases h0), fun k' hk' => ?_⟩
    rw [hri] at hk'
    obtain rfl : k' = j := by simpa using hk'
    exact h2 _ ⟨c2, Till.done hrd h⟩
  · refine h3 _ ⟨c3, fun h0 => (by rw [hrj] at h0; cases h0), fun k' hk' => ?_⟩
    rw [hrj] at hk'
    obtain rfl : k' = i := by simpa using hk'
    refine h4 _ ⟨?_, Till.done hrd' h⟩
    rw [Array.setIfInBounds_comm _ _ (Ne.symm hij)]
    exact c2
end
theorem setCell_comm (w : World) (p q : Addr) (u v : Value) (h : p.block ≠ q.block) : (w.setCell p u).setCell q v = (w.setCell q v).setCell p u := by
  unfold World.setCell
  congr 1
  apply Array.ext (by simp)
  intro i h1 h2
  simp only [Array.size_modify] at h1 h2
  rw [Array.getElem_modify, Array.getElem_modify, Array.getElem_modify, Array.getElem_modify]
  by_cases hp : p.block = i
  · have hq : q.block ≠ i := fun e => h (hp.trans e.symm)
    simp [hp, hq]
  · simp [hp]
end Go.Proofs.Ytapnighankepjaa.Od
