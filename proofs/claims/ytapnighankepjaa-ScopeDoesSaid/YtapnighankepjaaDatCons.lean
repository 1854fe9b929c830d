/- Two data put together: what the program returns. -/
import Derived.Test.YtapnighankepjaaDatConsMath
namespace Go.Proofs.Ytapnighankepjaa.Da
open Go.ChangeShapes Go.WideShapes Go.ChangeAt Go.RowKit

def ConsAt (W1 : World) (a d : Dt) (i : Value) (wr : World) : Prop := ∃ j : Nat, j ≤ 2 ∧ i = .int .i64 (j : Int) ∧ Below W1.heap.size W1 wr ∧ (1 ≤ j → chk a = 0) ∧ (2 ≤ j → chk d = 0)
end Go.Proofs.Ytapnighankepjaa.Da
