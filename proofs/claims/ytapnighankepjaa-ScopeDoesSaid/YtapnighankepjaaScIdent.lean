/- Identifiers of layer 5: seventeen cells; how many marks one has. -/
import Derived.Test.YtapnighankepjaaScMath
import Derived.Test.YtapnighankepjaaShelf
import Derived.ProofKit
import Derived.Lib.Hide
namespace Go.Proofs.Ytapnighankepjaa.Sc
open Go.ChangeShapes Go.WideShapes Go.ChangeAt Go.RowKit
set_option linter.unusedVariables false
set_option linter.unusedSimpArgs false

/-- The marks of an identifier, and zeros behind them. -/
def pad (m : List Int) (i : Nat) : Int := m.getD i 0
/-- Sixteen cells. -/
def A16 (p : Nat → Int) : Array Value := #[.int .i32 (p 0), .int .i32 (p 1), .int .i32 (p 2), .int .i32 (p 3), .int .i32 (p 4), .int .i32 (p 5), .int .i32 (p 6), .int .i32 (p 7), .int .i32 (p 8), .int .i32 (p 9), .int .i32 (p 10), .int .i32 (p 11), .int .i32 (p 12), .int .i32 (p 13), .int .i32 (p 14), .int .i32 (p 15)]
def idA (s : Bs) (p : Nat → Int) : Value := .agg #[.string ⟨s.toArray⟩, .int .i32 (p 0), .int .i32 (p 1), .int .i32 (p 2), .int .i32 (p 3), .int .i32 (p 4), .int .i32 (p 5), .int .i32 (p 6), .int .i32 (p 7), .int .i32 (p 8), .int .i32 (p 9), .int .i32 (p 10), .int .i32 (p 11), .int .i32 (p 12), .int .i32 (p 13), .int .i32 (p 14), .int .i32 (p 15)]
structure Idn.Ok (x : Idn) : Prop where
  s : x.s.length ≤ 32
  m : x.m.length ≤ 16
  mark : ∀ k ∈ x.m, 1 ≤ k ∧ k ≤ 1048576
def Idn.V (x : Idn) : Value := idA x.s (pad x.m)
theorem A16_at (p : Nat → Int) (k : Nat) (h : k < 16) : (A16 p)[k]? = some (.int .i32 (p k)) := by
  have : k = 0 ∨ k = 1 ∨ k = 2 ∨ k = 3 ∨ k = 4 ∨ k = 5 ∨ k = 6 ∨ k = 7 ∨ k = 8 ∨ k = 9 ∨ k = 10 ∨ k = 11 ∨ k = 12 ∨ k = 13 ∨ k = 14 ∨ k = 15 := by omega
  rcases this with rfl | rfl | rfl | rfl | rfl | rfl | rfl | rfl | rfl | rfl | rfl | rfl | rfl | rfl | rfl | rfl <;> rfl
theorem pad_in {x : Idn} (h : x.Ok) {k : Nat} (hk : k < x.m.length) : 1 ≤ pad x.m k ∧ pad x.m k ≤ 1048576 := by
  unfold pad
  rw [List.getD_eq_getElem?_getD, List.getElem?_eq_getElem hk]
  exact h.mark _ (List.getElem_mem hk)
theorem pad_out {x : Idn} {k : Nat} (hk : x.m.length ≤ k) : pad x.m k = 0 := by
  unfold pad
  rw [List.getD_eq_getElem?_getD, List.getElem?_eq_none hk]
  rfl
set_option maxRecDepth 100000 in
set_option maxHeartbeats 4000000 in
theorem idx16 (p : Nat → Int) (k : Nat) (h : k < 16) (w : World) : (Instr.index 73 (.agg #[.int .i32 (p 0), .int .i32 (p 1), .int .i32 (p 2), .int .i32 (p 3), .int .i32 (p 4), .int .i32 (p 5), .int .i32 (p 6), .int .i32 (p 7), .int .i32 (p 8), .int .i32 (p 9), .int .i32 (p 10), .int .i32 (p 11), .int .i32 (p 12), .int .i32 (p 13), .int .i32 (p 14), .int .i32 (p 15)]) (.int .i64 (k : Int))).run Try.prog w = .ok (.int .i32 (p k)) w := by
  have : k = 0 ∨ k = 1 ∨ k = 2 ∨ k = 3 ∨ k = 4 ∨ k = 5 ∨ k = 6 ∨ k = 7 ∨ k = 8 ∨ k = 9 ∨ k = 10 ∨ k = 11 ∨ k = 12 ∨ k = 13 ∨ k = 14 ∨ k = 15 := by omega
  rcases this with rfl | rfl | rfl | rfl | rfl | rfl | rfl | rfl | rfl | rfl | rfl | rfl | rfl | rfl | rfl | rfl <;> (first | rfl | (simp [Instr.index, run_underlying Try.underlying73, asIntOf, go_sem]; done))
def ManyAt (n : Nat) (w : World) (i : Value) (wr : World) : Prop := ∃ k : Nat, k ≤ n ∧ i = .int .i64 (k : Int) ∧ Below w.heap.size w wr
set_option maxRecDepth 100000 in
set_option maxHeartbeats 4000000 in
theorem many_any (x : Idn) (hx : x.Ok) (w : World) : Calls Try.prog 48 #[x.V] w fun e w' => e = .returned (.int .i64 (x.m.length : Int)) ∧ Below w.heap.size w w' := by
  have HX := Lib.hid hx
  have hm := hx.m
  clear hx
  unfold Idn.V idA
  obtain ⟨p, hp⟩ : ∃ p, pad x.m = p := ⟨_, rfl⟩
  rw [hp]
  have HP := Lib.hid hp
  clear hp
  have HA := Lib.hid (A16_at p)
  go_enter Try.func48, Try.ntmps48
  go_wp2_with fail
  go_loopw [7] (fun i wr => ManyAt x.m.length w i wr) (fun i _ => 17 - (intOf i).toNat)
  case atStart => exact ⟨0, Nat.zero_le _, rfl, (Below.refl _ _).alloc (Nat.le_refl _) _⟩
  case round =>
    obtain ⟨k, hk, rfl, hbel⟩ := hrel
    have Hbel := Lib.hid hbel
    clear hbel
    by_cases hlt : k < 16
    · have dl : decide ((k : Int) < 16) = true := by simp; omega
      have hix := idx16 p k hlt wr
      by_cases hkm : k < x.m.length
      · have hpk := pad_in HX.out hkm
        rw [HP.out] at hpk
        have dz : (p k == 0) = false := by rw [beq_eq_false_iff_ne]; omega
        clear hpk
        go_wp2_with fail
        go_roundw
        case rel => exact ⟨k + 1, hkm, by go_num, Hbel.out⟩
        case measure => simp [intOf]; omega
      · have hpk := pad_out (x := x) (k := k) (by omega)
        rw [HP.out] at hpk
        have dz : (p k == 0) = true := by rw [hpk]; rfl
        obtain rfl : k = x.m.length := by omega
        clear hpk hkm
        go_wp2_with fail
        go_ret
        exact ⟨rfl, Hbel.out⟩
    · have dl : decide ((k : Int) < 16) = false := by simp; omega
      have hmk : (x.m.length : Int) = 16 := by omega
      have HMK := Lib.hid hmk
      clear hmk
      go_wp2_with fail
      go_ret
      exact ⟨by rw [HMK.out]; rfl, Hbel.out⟩
end Go.Proofs.Ytapnighankepjaa.Sc
