/- The halves of what was put together (P2.4): the walk. -/
import Derived.Test.YtapnighankepjaaDatHalvesMath
namespace Go.Proofs.Ytapnighankepjaa.Da
open Go.ChangeShapes Go.WideShapes Go.ChangeAt Go.RowKit

theorem IsDt.up {w w' : World} {d : Dt} {v : Value} (h : IsDt w (Lo w.heap.size) d v) (hb : Below w.heap.size w w') : IsDt w' (Lo w'.heap.size) d v :=
  (h.below hb).more fun b hq => by
    have h1 : b < w.heap.size := hq
    have := hb.size
    show b < w'.heap.size
    omega
end Go.Proofs.Ytapnighankepjaa.Da
