/-
  NARROWER THAN 'FOR EVERY INPUT', by the rows' own cells (each row's printed sentence says how): ScopeDoes: loops · ScopeMarks: loops.
  DERIVED. THE GIVEN ROWS OF THIS SEAT. 2 by the template 'for every input the law returns true; each argument reads behind the call as it read before'; 0 by the template 'total and deterministic' (their statements: YtapnighankepjaaTotals.lean).
  GIVEN WITH THE SEED: the statements are not yours to turn. If you find one false, say at which input.
  Laid BY PROGRAM, IN A SANDBOX (cutbox-rows.mjs): the forced cells as the released guide's own fill.sh prints them over the translation 2294488a5d443ba5… (all of the seat's roots in one cut). By AI agents, Wed Nov 11 2026. No macro, syntax, notation, axiom, sorry.
-/
import Derived.Test.YtapnighankepjaaChecked
import GoSem.Claim
import GoSem.ClaimJoined
import GoSem.ClaimMapViews
import Derived.JoinedTies
import Derived.KernelRfl
namespace Go.Proofs.Ytapnighankepjaa
/- THE CELL 'sum', in the pinned program and in every row, IS THE sha256 OF THE DUMP (.gsa) THAT YtapnighankepjaaProg.lean LOADS. Nothing in Lean hashes anything: it is a label: what it is worth is what the hold of that sum in a sandbox is worth. -/
noncomputable def Try.pinned : Pinned := { name := "ytapnighankepjaa", sum := "2294488a5d443ba57b509bceab5c937ee11bf0d0f8f97ec7d9d8d69da2104818", checked := Try.checked }
namespace Rows
def none {H : Type} : Left H := { results := [], args := [] }

/-- 'shuttlelaw05.ScopeDoes': WHATEVER THE INPUT: true; the input reads as it did. -/
def scopeDoesSpec : ChangeSpec := { name := "scopeDoes", fn := fun _ => fun
  | [d] => { results := [.lit (.bool true)], args := [d] }
  | _ => none }
def scopeDoesRow : OpenClaim := { program := "ytapnighankepjaa", sum := "2294488a5d443ba57b509bceab5c937ee11bf0d0f8f97ec7d9d8d69da2104818", func := "shuttle/shuttlelaw05.ScopeDoes", spec := "scopeDoes", inPlace := ["internal/bytealg.IndexByteString", "maps.clone"], unfollowed := true, recurses := true, loops := true, plainKeys := false, apart := false }
def ScopeDoesSaid : Prop := scopeDoesRow.holds Try.pinned (OpenSpec.ofChange scopeDoesSpec)

/-- ITS FALSE NEIGHBOUR: 'it returns false'. Refute it at one input. -/
def scopeDoesWrong : ChangeSpec := { name := "scopeDoes", fn := fun _ => fun
  | [d] => { results := [.lit (.bool false)], args := [d] }
  | _ => none }
def ScopeDoesWrongFalsely : Prop := scopeDoesRow.holds Try.pinned (OpenSpec.ofChange scopeDoesWrong)

/-- 'shuttlelaw05.ScopeMarks': WHATEVER THE INPUT: true; the input reads as it did. -/
def scopeMarksSpec : ChangeSpec := { name := "scopeMarks", fn := fun _ => fun
  | [d1, d2, d3, d4] => { results := [.lit (.bool true)], args := [d1, d2, d3, d4] }
  | _ => none }
def scopeMarksRow : OpenClaim := { program := "ytapnighankepjaa", sum := "2294488a5d443ba57b509bceab5c937ee11bf0d0f8f97ec7d9d8d69da2104818", func := "shuttle/shuttlelaw05.ScopeMarks", spec := "scopeMarks", inPlace := ["internal/bytealg.IndexByteString"], unfollowed := true, recurses := true, loops := true, plainKeys := false, apart := false }
def ScopeMarksSaid : Prop := scopeMarksRow.holds Try.pinned (OpenSpec.ofChange scopeMarksSpec)

/-- ITS FALSE NEIGHBOUR: 'it returns false'. Refute it at one input. -/
def scopeMarksWrong : ChangeSpec := { name := "scopeMarks", fn := fun _ => fun
  | [d1, d2, d3, d4] => { results := [.lit (.bool false)], args := [d1, d2, d3, d4] }
  | _ => none }
def ScopeMarksWrongFalsely : Prop := scopeMarksRow.holds Try.pinned (OpenSpec.ofChange scopeMarksWrong)

/- THE SECOND FORM. 'bulk': how many values and letters a reading holds, each counted each time it is reached (what is shared counts as often as it is met; a slice's spare places count too). A statement '..UptoSaid' is the law's where the arguments, and the package variables that the reading takes, are together of bulk at most 1048576: NARROWER than '..Said'. Prove '..Said' where nothing that the law and all that it calls make is longer than what came in: it says more and counts as full. Else prove '..UptoSaid'. A law counts once. -/
mutual
def uptoBulk {H : Type} : DataW H → Nat
  | .lit (.string bytes) => bytes.length + 1
  | .lit _ => 1
  | .nil => 1
  | .ptr d => uptoBulk d + 1
  | .slice elems spare => uptoBulkAll elems + uptoBulkAll spare + 1
  | .agg parts => uptoBulkAll parts + 1
  | .iface _ d => uptoBulk d + 1
  | .map entries => uptoBulkEntries entries + 1
  | .held _ => 1
def uptoBulkAll {H : Type} : List (DataW H) → Nat
  | [] => 0
  | d :: r => uptoBulk d + uptoBulkAll r
def uptoBulkEntries {H : Type} : List (Lit × DataW H) → Nat
  | [] => 0
  | x :: r => uptoBulkEntry x + uptoBulkEntries r
def uptoBulkEntry {H : Type} : Lit × DataW H → Nat
  | (.string bytes, d) => bytes.length + uptoBulk d + 1
  | (_, d) => uptoBulk d + 1
 end
def uptoSmall : (H : Type) → List (DataW H) → Bool := fun _ ds => decide (uptoBulkAll ds ≤ 1048576)
def OpenSpec.upto (s : _root_.Go.ChangeSpec) : _root_.Go.OpenSpec := { _root_.Go.OpenSpec.ofChange s with cond := some uptoSmall }

/-- 'shuttlelaw05.ScopeDoes', WHERE WHAT IT READS IS OF BULK AT MOST 1048576: true; the input reads as it did. -/
def scopeDoesUptoRow : OpenClaim := { program := "ytapnighankepjaa", sum := "2294488a5d443ba57b509bceab5c937ee11bf0d0f8f97ec7d9d8d69da2104818", func := "shuttle/shuttlelaw05.ScopeDoes", spec := "scopeDoes", inPlace := ["internal/bytealg.IndexByteString", "maps.clone"], unfollowed := true, recurses := true, loops := true, plainKeys := false, apart := false, narrowed := true }
def ScopeDoesUptoSaid : Prop := scopeDoesUptoRow.holds Try.pinned (OpenSpec.upto scopeDoesSpec)

/-- 'shuttlelaw05.ScopeMarks', WHERE WHAT IT READS IS OF BULK AT MOST 1048576: true; the input reads as it did. -/
def scopeMarksUptoRow : OpenClaim := { program := "ytapnighankepjaa", sum := "2294488a5d443ba57b509bceab5c937ee11bf0d0f8f97ec7d9d8d69da2104818", func := "shuttle/shuttlelaw05.ScopeMarks", spec := "scopeMarks", inPlace := ["internal/bytealg.IndexByteString"], unfollowed := true, recurses := true, loops := true, plainKeys := false, apart := false, narrowed := true }
def ScopeMarksUptoSaid : Prop := scopeMarksUptoRow.holds Try.pinned (OpenSpec.upto scopeMarksSpec)

end Rows
end Go.Proofs.Ytapnighankepjaa
