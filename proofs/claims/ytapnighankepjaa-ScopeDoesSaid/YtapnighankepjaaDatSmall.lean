/- A copy of a datum by the program; what is nothing; marks that are the same. -/
import Derived.Test.YtapnighankepjaaDatHalves
namespace Go.Proofs.Ytapnighankepjaa.Da
open Go.ChangeShapes Go.WideShapes Go.ChangeAt Go.RowKit

def zeroD : Dt := .mk 0 0 ⟨#[]⟩ [] [] []
theorem zero_isDt (w : World) (Q : Nat → Prop) : IsDt w Q zeroD zeroV := by
  unfold zeroD zeroV
  simp only [IsDt, IsDts]
  exact ⟨rfl, rfl, by show (0 : Nat) ≤ _; exact Nat.zero_le _, none, 0, _, 0, _, 0, rfl, ⟨rfl, Nat.le_refl _, by simp [maxLen], by simp, fun _ => rfl, by simp, fun k hk => absurd hk (Nat.not_lt_zero _)⟩, ⟨Nat.le_refl _, by simp [maxLen], by simp, fun _ => rfl⟩, trivial, ⟨Nat.le_refl _, by simp [maxLen], by simp, fun _ => rfl⟩, trivial⟩
theorem zero_own (w : World) (lo hi : Nat) (h : lo ≤ hi) : OwnDt w zeroD lo hi zeroV := by
  unfold zeroD zeroV
  simp only [OwnDt]
  exact ⟨rfl, rfl, by show (0 : Nat) ≤ _; exact Nat.zero_le _, none, 0, none, 0, none, 0, lo, lo, rfl, Nat.le_refl _, Nat.le_refl _, h, ⟨⟨rfl, Nat.le_refl _, by simp [maxLen], by simp, fun _ => rfl, by simp, fun k hk => absurd hk (Nat.not_lt_zero _)⟩, fun ad h => by cases h⟩, .inl ⟨rfl, rfl, rfl⟩, by simp only [OwnDts], .inl ⟨rfl, rfl, rfl⟩, by simp only [OwnDts]⟩
def cloneD (d : Dt) : Dt := if chk d = 0 then d else zeroD
def CopyR (w : World) (d : Dt) (e : Ending) (w' : World) : Prop :=
  ∃ v', e = .returned v' ∧ Below w.heap.size w w' ∧ IsDt w' (Lo w'.heap.size) (cloneD d) v' ∧ OwnDt w' (cloneD d) w.heap.size w'.heap.size v'
theorem copy_end {w w2 Wf : World} {b : Nat} {d : Dt} {v : Value} {lo : Nat} (hb0 : w.heap.size ≤ b) (hb1 : b < lo) (hw2 : Below w.heap.size w w2) (hf : Fr (fun i => i = b) w2 Wf) (hc : chk d = 0) (ho : OwnDt w2 d lo w2.heap.size v) : CopyR w d (.returned v) Wf := by
  have s2 := hw2.size
  have sf := hf.size
  have ho2 : OwnDt Wf d lo w2.heap.size v := OwnDt.keep d _ _ v ((Eqv.of_fr hf).mono fun c hq => ⟨hq.2, by have := hq.1; show ¬ c = b; omega⟩) ho
  refine ⟨v, rfl, hw2.trans (hf.below s2 (fun i hi h => by omega)), ?_, by unfold cloneD; rw [if_pos hc]; exact ho2.wide d (by omega) sf⟩
  unfold cloneD
  rw [if_pos hc]
  exact (ho2.isDt d _ _ _).more fun c hq => by have := hq.2; show c < Wf.heap.size; omega
theorem copy_bad {w w2 Wf : World} {b : Nat} {d : Dt} (hb0 : w.heap.size ≤ b) (hw2 : Below w.heap.size w w2) (hf : Fr (fun i => i = b) w2 Wf) (hc : chk d ≠ 0) : CopyR w d (.returned zeroV) Wf := by
  refine ⟨_, rfl, hw2.trans (hf.below hw2.size (fun i hi h => by omega)), ?_, by unfold cloneD; rw [if_neg hc]; exact zero_own _ _ _ (hw2.trans (hf.below hw2.size (fun i hi h => by omega))).size⟩
  unfold cloneD
  rw [if_neg hc]
  exact zero_isDt _ _
end Go.Proofs.Ytapnighankepjaa.Da
