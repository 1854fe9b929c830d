/- A node copied in new memory: what lies there at the end, without a walk. -/
import Derived.Test.YtapnighankepjaaDatEachStep
namespace Go.Proofs.Ytapnighankepjaa.Da
open Go.ChangeShapes Go.WideShapes Go.ChangeAt Go.RowKit

theorem own_keep {w w' : World} {lo hi lo' hi' : Nat} {a : Option Addr} {cap : Nat} {l : List Dt} (h1 : lo' ≤ lo) (h2 : hi ≤ hi') (hk : Eqv w w' (Rg lo hi)) (hs : OwnSl w lo hi a l.length cap) (hd : OwnDts w hi a l 0 (nx a)) :
    OwnSl w' lo' hi' a l.length cap ∧ OwnDts w' hi' a l 0 (nx a) := by
  refine ⟨(hs.keep hk).wide h1 h2, ?_⟩
  rcases hs with ⟨rfl, hz, _⟩ | ⟨g, rfl, g1, g2, _⟩
  · obtain rfl := List.eq_nil_of_length_eq_zero hz
    simp only [OwnDts]
  · refine OwnDts.hi l 0 _ hi hi' _ h2 (OwnDts.keep l 0 _ hi _ (hk.mono fun b hb => ?_) hd)
    rcases hb with hb | ⟨hb1, hb2⟩
    · obtain rfl : g = b := by simpa using hb
      exact ⟨g1, g2⟩
    · simp only [nx] at hb1
      exact ⟨by omega, hb2⟩
end Go.Proofs.Ytapnighankepjaa.Da
