/- What the laws call of their own: a number, what is little, whether a list is put together and taken apart. -/
import Derived.Test.YtapnighankepjaaDatCons
namespace Go.Proofs.Ytapnighankepjaa.Da
open Go.ChangeShapes Go.WideShapes Go.ChangeAt Go.RowKit

def fixD (n : Int) : Dt := .mk 1 n ⟨#[]⟩ [] [] []
def fixV (n : Int) : Value := .agg #[.int .i64 1, .int .i64 n, .string ⟨#[]⟩, .slice none 0 0, .slice none 0 0, .slice none 0 0]
theorem fix_isDt (w : World) (Q : Nat → Prop) (n : Int) (hn : (Lit.int .i64 n).wf = true) : IsDt w Q (fixD n) (fixV n) := by
  unfold fixD fixV
  simp only [IsDt, IsDts]
  exact ⟨rfl, hn, by show (0 : Nat) ≤ _; exact Nat.zero_le _, none, 0, _, 0, _, 0, rfl, ⟨rfl, Nat.le_refl _, by simp [maxLen], by simp, fun _ => rfl, by simp, fun k hk => absurd hk (Nat.not_lt_zero _)⟩, ⟨Nat.le_refl _, by simp [maxLen], by simp, fun _ => rfl⟩, trivial, ⟨Nat.le_refl _, by simp [maxLen], by simp, fun _ => rfl⟩, trivial⟩
def smallB (d : Dt) : Bool := decide ((d.S.size : Int) ≤ 5000) && decide ((d.M.length : Int) ≤ 5000) && decide ((d.L.length : Int) ≤ 5000) && decide ((d.T.length : Int) ≤ 5000)
theorem listD_chk : chk (listD [fixD 2]) = 0 ∧ chk (fixD 1) = 0 ∧ consE (fixD 1) (listD [fixD 2]) = 0 := by decide +kernel
theorem consD_is : consD (fixD 1) (listD [fixD 2]) = .mk 6 0 ⟨#[]⟩ [] [fixD 1, fixD 2] [] := rfl
theorem pairE_is : pairE (.mk 6 0 ⟨#[]⟩ [] [fixD 1, fixD 2] []) = 0 := by decide +kernel
theorem rest_is : restD (.mk 6 0 ⟨#[]⟩ [] [fixD 1, fixD 2] []) = listD [fixD 2] := rfl
theorem size_is : sizeD (.mk 6 0 ⟨#[]⟩ [] [fixD 1, fixD 2] []) = 3 ∧ deepD (.mk 6 0 ⟨#[]⟩ [] [fixD 1, fixD 2] []) = 2 := by decide +kernel
theorem sym_is : symB ⟨#[97, 45, 62, 98]⟩ = true := by decide +kernel
end Go.Proofs.Ytapnighankepjaa.Da
