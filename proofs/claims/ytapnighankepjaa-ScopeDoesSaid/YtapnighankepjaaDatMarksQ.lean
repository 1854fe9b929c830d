/- Marks that are the same: nothing is made of memory. -/
import Derived.Test.YtapnighankepjaaDatMarks
namespace Go.Proofs.Ytapnighankepjaa.Da
open Go.ChangeShapes Go.WideShapes Go.ChangeAt Go.RowKit

set_option maxHeartbeats 1000000 in
theorem marks_quiet (x y : List Int) (a b : Option Addr) (ca cb : Nat) (Q1 Q2 : Nat → Prop) (w : World) (h1 : IntRow w Q1 a x.length ca x) (h2 : IntRow w Q2 b y.length cb y) :
    Calls Try.prog 39 #[.slice a x.length ca, .slice b y.length cb] w fun e w' => e = .returned (.bool (x == y)) ∧ ∃ m, w' = w.drewN m := by
  have hmix : Try.prog.follows .mixedOrders = true := by kernel_rfl
  have b1 : (x.length : Int) ≤ 17592186044416 := by have a := h1.2.1; have b := h1.2.2.2.1; omega
  have b2 : (y.length : Int) ≤ 17592186044416 := by have a := h2.2.1; have b := h2.2.2.2.1; omega
  have H1 := Lib.hid h1
  have H2 := Lib.hid h2
  clear h1 h2
  by_cases hne : x.length = y.length
  · have dl : ((x.length : Int) != (y.length : Int)) = false := by simp [hne]
    have Hne := Lib.hid hne
    clear hne
    go_enter Try.func39, Try.ntmps39
    go_wp2_with fail
    go_loopw [5] (fun i wr => SmAt x y i ∧ ∃ q, wr = w.drewN q) (fun i _ => x.length - (intOf i).toNat)
    case atStart => exact ⟨⟨0, Nat.zero_le _, rfl, fun j hj => absurd hj (Nat.not_lt_zero _)⟩, 0, rfl⟩
    case round =>
      obtain ⟨⟨k, hk, rfl, hall⟩, dr, rfl⟩ := hrel
      have Ha := Lib.hid hall
      clear hall dl
      by_cases hlt : k < x.length
      · have dk : decide ((k : Int) < (x.length : Int)) = true := by simp [hlt]
        have hy : k < y.length := by have := Hne.out; omega
        obtain ⟨g1, o1, rfl, _, e1⟩ := H1.out.2.2.2.2.2.2 k hlt
        obtain ⟨g2, o2, rfl, _, e2⟩ := H2.out.2.2.2.2.2.2 k hy
        have k0 : (0 : Int) ≤ (k : Int) := Int.natCast_nonneg _
        have k1 : (k : Int) < (x.length : Int) := by omega
        have k2 : (k : Int) < (y.length : Int) := by omega
        obtain ⟨p, hp⟩ : ∃ p, x.getD k 0 = p := ⟨_, rfl⟩
        obtain ⟨q, hq⟩ : ∃ q, y.getD k 0 = q := ⟨_, rfl⟩
        rw [hp] at e1
        rw [hq] at e2
        have Hp := Lib.hid hp
        have Hq := Lib.hid hq
        clear hp hq
        by_cases hpq : p = q
        · subst hpq
          have dpq : (p != p) = false := by simp
          go_wp2_with fail
          go_region_o
          go_wp2_with fail
          refine ⟨⟨⟨k + 1, by omega, by go_num, fun j hj => ?_⟩, dr + 1, rfl⟩, by simp [intOf]; omega⟩
          by_cases hjk : j = k
          · subst hjk; exact Hp.out.trans Hq.out.symm
          · exact Ha.out j (by omega)
        · have dpq : (p != q) = true := by simp [hpq]
          have He := Lib.hid (show (x == y) = false from beq_eq_false_iff_ne.2 (fun h => hpq (by rw [← Hp.out, ← Hq.out, h])))
          clear hpq
          go_wp2_with fail
          go_region_o
          go_wp2_with fail
          go_ret
          exact ⟨by rw [He.out]; rfl, _, rfl⟩
      · have dk : decide ((k : Int) < (x.length : Int)) = false := by simp [hlt]
        have He := Lib.hid (show (x == y) = true from beq_iff_eq.2 (list_getD Hne.out (fun j hj => Ha.out j (by omega))))
        go_wp2
        go_ret
        exact ⟨by rw [He.out]; rfl, _, rfl⟩
  · have dl : ((x.length : Int) != (y.length : Int)) = true := by simp; omega
    have he : (x == y) = false := beq_eq_false_iff_ne.2 (fun h => hne (by rw [h]))
    go_enter Try.func39, Try.ntmps39
    go_wp2_with fail
    go_ret
    exact ⟨by rw [he]; rfl, 0, rfl⟩
end Go.Proofs.Ytapnighankepjaa.Da
