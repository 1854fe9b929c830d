/- What the greatest common divisor of layer 1, and the document's, is: for every two numbers of 64 bits. -/
import Derived.Test.YtlaajhdffgjamaaFixParts
import Derived.Below
namespace Go.Proofs.Ytlaajhdffgjamaa.Fx
open Go.ChangeShapes Go.WideShapes Go.ChangeAt Go.RowKit

theorem bel_trans {a b c : World} (h : Below a.heap.size a b) (k : Below b.heap.size b c) : Below a.heap.size a c := h.trans (k.mono h.size)
theorem bel_refl (a : World) : Below a.heap.size a a := Below.refl _ _
theorem bel_drewN {a b : World} (h : Below a.heap.size a b) (n : Nat) : Below a.heap.size a (b.drewN n) := h.trans ⟨rfl, rfl, rfl, Nat.le_refl _, fun _ _ => rfl⟩
/-- The round of Euclid's way. -/
def GcdAt (G : Nat) (w : World) (m n : Value) (wr : World) : Prop :=
  ∃ x y : Nat, m = .int .u64 (x : Int) ∧ n = .int .u64 (y : Int) ∧ Nat.gcd x y = G ∧ x ≤ 1152921504606846976 ∧ y ≤ 1152921504606846976 ∧ Below w.heap.size w wr
theorem gcd_step (x y : Nat) : Nat.gcd y (x % y) = Nat.gcd x y := by
  rw [Nat.gcd_comm y, ← Nat.gcd_rec, Nat.gcd_comm]
theorem gcd_last (x : Nat) : Nat.gcd x 0 = x := Nat.gcd_zero_right x
set_option maxHeartbeats 400000 in
theorem gcd_fix_in (a b : Int) (w : World) (ha : inB a = true) (hb : inB b = true) :
    Calls Try.prog 35 #[.int .i64 a, .int .i64 b] w fun e w' => e = .returned (.tuple #[.int .i64 (gotV (Nat.gcd a.natAbs b.natAbs : Nat)), .int .i64 (gotE (Nat.gcd a.natAbs b.natAbs : Nat))]) ∧ Below w.heap.size w w' := by
  have A1 := abs_in ha
  have B1 := abs_in hb
  obtain ⟨G, hG⟩ : ∃ G, Nat.gcd a.natAbs b.natAbs = G := ⟨_, rfl⟩
  rw [hG]
  have HG := Lib.hid hG
  clear hG
  go_enter Try.func35, Try.ntmps35
  go_wp2_with (first | (go_at_call 20; refine (in_fix _ _).mono ?_; rintro e w' ⟨rfl, rfl⟩) | (go_at_call 48; refine (size_fix _ _ (by assumption)).mono ?_; rintro e w' ⟨rfl, rfl⟩))
  go_loopw [6, 7] (fun m n wr => GcdAt G w m n wr) (fun _ n _ => (intOf n).toNat)
  case atStart => exact ⟨a.natAbs, b.natAbs, rfl, rfl, HG.out, A1, B1, bel_refl _⟩
  case round =>
    obtain ⟨x, y, rfl, rfl, hg, hx, hy, hw⟩ := hrel
    have Hg := Lib.hid hg
    have Hw := Lib.hid hw
    clear hg hw ha hb A1 B1
    by_cases hy0 : y = 0
    · subst hy0
      have hxG : x = G := (gcd_last x).symm.trans Hg.out
      subst hxG
      go_wp2_with (go_at_call 49; refine (signed_pos _ _ (by omega) (by omega)).mono ?_; rintro e w' ⟨rfl, rfl⟩)
      go_ret2
      exact ⟨rfl, Hw.out⟩
    · have n0 : ((y : Int) != 0) = true := by rw [bne_iff_ne]; omega
      have n1 : ¬ (y : Int) = 0 := by omega
      have n2 : (0 : Int) < (y : Int) := by omega
      have hlt : x % y < y := Nat.mod_lt _ (by omega)
      go_wp2_with fail
      go_quiet (fail)
      go_wp2
      go_roundw
      case rel => exact ⟨y, x % y, rfl, by simp, (gcd_step x y).trans Hg.out, hy, by omega, bel_drewN Hw.out _⟩
      case measure => simp [intOf]; omega
def GcdRefAt (G : Nat) (m n : Value) : Prop :=
  ∃ x y : Nat, m = .int .i64 (x : Int) ∧ n = .int .i64 (y : Int) ∧ Nat.gcd x y = G ∧ x ≤ 1152921504606846976 ∧ y ≤ 1152921504606846976
set_option maxHeartbeats 400000 in
theorem gcd_ref_in (a b : Int) (w : World) (ha : inB a = true) (hb : inB b = true) :
    Calls Try.prog 36 #[.int .i64 a, .int .i64 b] w fun e w' => e = .returned (.tuple #[.int .i64 (gotV (Nat.gcd a.natAbs b.natAbs : Nat)), .int .i64 (gotE (Nat.gcd a.natAbs b.natAbs : Nat))]) ∧ w = w' := by
  have A1 := abs_in ha
  have B1 := abs_in hb
  obtain ⟨G, hG⟩ : ∃ G, Nat.gcd a.natAbs b.natAbs = G := ⟨_, rfl⟩
  rw [hG]
  have HG := Lib.hid hG
  clear hG
  go_enter Try.func36, Try.ntmps36
  go_wp2_with (first | (go_at_call 21; refine (in_ref _ _).mono ?_; rintro e w' ⟨rfl, rfl⟩) | (go_at_call 50; refine (abs_ref _ _ (by assumption)).mono ?_; rintro e w' ⟨rfl, rfl⟩))
  go_loop [6, 7] (fun m n => GcdRefAt G m n) (fun _ n => (intOf n).toNat)
  case atStart => exact ⟨a.natAbs, b.natAbs, rfl, rfl, HG.out, A1, B1⟩
  case round =>
    obtain ⟨x, y, rfl, rfl, hg, hx, hy⟩ := hrel
    have Hg := Lib.hid hg
    clear hg ha hb A1 B1
    by_cases hy0 : y = 0
    · subst hy0
      have hxG : x = G := (gcd_last x).symm.trans Hg.out
      subst hxG
      go_wp2_with (go_at_call 46; refine (got_ref _ _).mono ?_; rintro e w' ⟨rfl, rfl⟩)
      go_ret2
      exact ⟨rfl, rfl⟩
    · have n0 : ((y : Int) != 0) = true := by rw [bne_iff_ne]; omega
      have n1 : ¬ (y : Int) = 0 := by omega
      have n2 : (0 : Int) < (y : Int) := by omega
      have hlt : x % y < y := Nat.mod_lt _ (by omega)
      go_wp2
      go_round
      case rel => exact ⟨y, x % y, rfl, by simp, (gcd_step x y).trans Hg.out, hy, by omega⟩
      case measure => simp [intOf]; omega
def gcdI (a b : Int) : Int := ((Nat.gcd a.natAbs b.natAbs : Nat) : Int)
theorem gcd_fix (a b : Int) (w : World) :
    Calls Try.prog 35 #[.int .i64 a, .int .i64 b] w fun e w' => e = .returned (.tuple #[.int .i64 (twoV a b (gcdI a b)), .int .i64 (twoE a b (gcdI a b))]) ∧ Below w.heap.size w w' := by
  cases ha : inB a
  · unfold twoV twoE
    rw [ha]
    go_enter Try.func35, Try.ntmps35
    go_wp2_with (go_at_call 20; refine (in_fix _ _).mono ?_; rintro e w' ⟨rfl, rfl⟩)
    go_ret2
    exact ⟨rfl, bel_refl _⟩
  cases hb : inB b
  · unfold twoV twoE
    rw [ha, hb]
    go_enter Try.func35, Try.ntmps35
    go_wp2_with (go_at_call 20; refine (in_fix _ _).mono ?_; rintro e w' ⟨rfl, rfl⟩)
    go_ret2
    exact ⟨rfl, bel_refl _⟩
  rw [(two_in ha hb).1, (two_in ha hb).2]
  exact gcd_fix_in a b w ha hb
theorem gcd_ref (a b : Int) (w : World) :
    Calls Try.prog 36 #[.int .i64 a, .int .i64 b] w fun e w' => e = .returned (.tuple #[.int .i64 (twoV a b (gcdI a b)), .int .i64 (twoE a b (gcdI a b))]) ∧ w = w' := by
  cases ha : inB a
  · unfold twoV twoE
    rw [ha]
    go_enter Try.func36, Try.ntmps36
    go_wp2_with (go_at_call 21; refine (in_ref _ _).mono ?_; rintro e w' ⟨rfl, rfl⟩)
    go_ret2
    exact ⟨rfl, rfl⟩
  cases hb : inB b
  · unfold twoV twoE
    rw [ha, hb]
    go_enter Try.func36, Try.ntmps36
    go_wp2_with (go_at_call 21; refine (in_ref _ _).mono ?_; rintro e w' ⟨rfl, rfl⟩)
    go_ret2
    exact ⟨rfl, rfl⟩
  rw [(two_in ha hb).1, (two_in ha hb).2]
  exact gcd_ref_in a b w ha hb
end Go.Proofs.Ytlaajhdffgjamaa.Fx
