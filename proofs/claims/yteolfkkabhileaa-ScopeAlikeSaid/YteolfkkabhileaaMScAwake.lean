/- A symbol; a mark looks back (layer 5): the statements' own help. -/
import Derived.Test.YteolfkkabhileaaMScSame
section
namespace Go.Proofs.Yteolfkkabhileaa.Sc
open Go.ChangeShapes Go.WideShapes Go.ChangeAt Go.RowKit
set_option linter.unusedVariables false
set_option linter.unusedSimpArgs false

theorem dt_sym {w : World} {Q : Nat → Prop} {s : ByteArray} {m : List Int} {am : Option Addr} {cm : Nat} (hs : s.size ≤ maxLen) (hm : Da.IntRow w Q am m.length cm m) :
    Da.IsDt w Q (.mk 5 0 s m [] []) (.agg #[.int .i64 5, .int .i64 0, .string s, .slice am m.length cm, .slice none 0 0, .slice none 0 0]) := by
  simp only [Da.IsDt]
  exact ⟨by decide, by decide, hs, am, cm, none, 0, none, 0, rfl, hm, ⟨Nat.le_refl _, by simp [maxLen], by simp, fun _ => rfl⟩, by simp only [Da.IsDts], ⟨Nat.le_refl _, by simp [maxLen], by simp, fun _ => rfl⟩, by simp only [Da.IsDts]⟩
theorem row_nil (w : World) (Q : Nat → Prop) : Da.IntRow w Q none 0 0 [] := ⟨rfl, Nat.le_refl _, by simp [maxLen], by simp, fun _ => rfl, by simp, fun k hk => absurd hk (Nat.not_lt_zero _)⟩
set_option maxRecDepth 100000 in
theorem sym_any (s : ByteArray) (am : Option Addr) (n cm : Nat) (w : World) : Calls Try.prog 16 #[.string s, .slice am n cm] w fun e w' =>
    e = .returned (.agg #[.int .i64 5, .int .i64 0, .string s, .slice am n cm, .slice none 0 0, .slice none 0 0]) ∧ Below w.heap.size w w' := by
  go_enter Try.func16, Try.ntmps16
  go_wp2_with fail
  refine bodyPost_ret (v := .agg #[.int .i64 5, .int .i64 0, .string s, .slice am n cm, .slice none 0 0, .slice none 0 0]) (by simp [results, Try.results16, go_sem]) rfl ⟨rfl, (Below.refl _ _).alloc (Nat.le_refl _) _⟩
end Go.Proofs.Yteolfkkabhileaa.Sc
end
