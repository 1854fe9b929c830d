/- Identifiers of layer 5: what unmark returns. -/
import Derived.Test.YteolfkkabhileaaMScUnmark1
import Derived.Test.YteolfkkabhileaaMScUnmark2
section
namespace Go.Proofs.Yteolfkkabhileaa.Sc
open Go.ChangeShapes Go.WideShapes Go.ChangeAt Go.RowKit
set_option linter.unusedVariables false
set_option linter.unusedSimpArgs false
theorem unmark_any (x : Idn) (hx : x.Ok) (w : World) : Calls Try.prog 50 #[x.V] w fun e w' => e = .returned (.tuple #[x.less.V, .int .i64 x.last]) ∧ Below w.heap.size w w' := by
  by_cases h0 : x.m = []
  · exact unmark_none x hx h0 w
  · exact unmark_some x hx h0 w
end Go.Proofs.Yteolfkkabhileaa.Sc
end
