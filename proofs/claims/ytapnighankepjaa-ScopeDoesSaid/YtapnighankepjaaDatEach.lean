/- A slice of data copied in new memory: what the program's closure returns. -/
import Derived.Test.YtapnighankepjaaDatEachStep
import Derived.LoopTactic
namespace Go.Proofs.Ytapnighankepjaa.Da
open Go.ChangeShapes Go.WideShapes Go.ChangeAt Go.RowKit

theorem src_cells {w : World} {Q : Nat → Prop} {ad : Addr} {l : List Dt} (h : IsDts w Q (some ad) 0 l) : ∀ j, j < l.length * 6 → ∃ u, w.cell? (ad.add j) = some u ∧ u.oneCell' = true := by
  intro j hj
  obtain ⟨b, off, am, cm, al, cl, at_, ct, he, _, ⟨h0, h1, h2, h3, h4, h5⟩, _⟩ := h.at6 (j / 6) (l[j / 6]'(by omega)) (by simp)
  injection he with he
  subst he
  rw [add_plain]
  have e : off + j = off + j / 6 * 6 + j % 6 := by omega
  have hr : j % 6 < 6 := Nat.mod_lt _ (by omega)
  rw [e]
  generalize j % 6 = r at hr
  match r, hr with
  | 0, _ => exact ⟨_, h0, rfl⟩
  | 1, _ => exact ⟨_, h1, rfl⟩
  | 2, _ => exact ⟨_, h2, rfl⟩
  | 3, _ => exact ⟨_, h3, rfl⟩
  | 4, _ => exact ⟨_, h4, rfl⟩
  | 5, _ => exact ⟨_, h5, rfl⟩
end Go.Proofs.Ytapnighankepjaa.Da
