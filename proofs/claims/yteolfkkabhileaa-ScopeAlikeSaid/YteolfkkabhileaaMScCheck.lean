/- Whether a table was made, whether it has a scope (layer 5): what the program's functions return. -/
import Derived.Test.YteolfkkabhileaaShelf
import Derived.ProofKit
import Derived.Lib.Hide
import Derived.Deep.QuietTactic
import Derived.BigQuiet
import Derived.Test.YteolfkkabhileaaMScMath
section
namespace Go.Proofs.Yteolfkkabhileaa.Sc
open Go.ChangeShapes Go.WideShapes Go.ChangeAt Go.RowKit
set_option linter.unusedVariables false
set_option linter.unusedSimpArgs false

theorem bel_drewN (w : World) : ∀ n, Below w.heap.size w (w.drewN n)
  | 0 => Below.refl _ _
  | n + 1 => by
    have h := bel_drewN w n
    exact ⟨h.os, h.tape, h.output, h.size, h.block⟩
theorem made_nil (w : World) : Calls Try.prog 31 #[.pointer none] w fun e w' => e = .returned (.bool false) ∧ w = w' := by
  go_enter Try.func31, Try.ntmps31
  go_wp2_with fail
  go_ret
  exact ⟨rfl, rfl⟩
theorem made_any (tb : Nat) (a : Option Addr) (n c : Nat) (w : World) (h0 : w.cell? ⟨tb, 0, none⟩ = some (.slice a n c)) :
    Calls Try.prog 31 #[.pointer (some ⟨tb, 0, none⟩)] w fun e w' => e = .returned (.bool (decide (0 < n))) ∧ w = w' := by
  go_enter Try.func31, Try.ntmps31
  go_wp2_with fail
  go_ret
  exact ⟨rfl, rfl⟩
theorem check_nil (s : Int) (w : World) : Calls Try.prog 35 #[.pointer none, .int .i64 s] w fun e w' => e = .returned (.int .i64 2) ∧ w = w' := by
  go_enter Try.func35, Try.ntmps35
  go_wp2_with fail
  refine (made_nil _).mono ?_
  rintro e w' ⟨rfl, rfl⟩
  go_wp2_with fail
  go_ret
  exact ⟨rfl, rfl⟩
/-- What is wrong with a scope's number where there are n scopes. -/
def chkE (n : Nat) (s : Int) : Int := if n = 0 then 2 else if s < 0 ∨ (n : Int) ≤ s then 50 else 0
theorem check_any (tb : Nat) (a : Option Addr) (n c : Nat) (s : Int) (w : World) (h0 : w.cell? ⟨tb, 0, none⟩ = some (.slice a n c)) :
    Calls Try.prog 35 #[.pointer (some ⟨tb, 0, none⟩), .int .i64 s] w fun e w' => e = .returned (.int .i64 (chkE n s)) ∧ w = w' := by
  have HM := Lib.hid (made_any tb a n c w h0)
  unfold chkE
  by_cases hn : n = 0
  · have d : decide (0 < n) = false := by simp [hn]
    rw [if_pos hn]
    rw [d] at HM
    clear hn
    go_enter Try.func35, Try.ntmps35
    go_wp2_with fail
    refine HM.out.mono ?_
    rintro e w' ⟨rfl, rfl⟩
    go_wp2_with fail
    go_ret
    exact ⟨rfl, rfl⟩
  · have d : decide (0 < n) = true := by simp; omega
    rw [if_neg hn]
    rw [d] at HM
    clear hn
    by_cases hs : s < 0
    · have d1 : decide (s < 0) = true := by simpa using hs
      rw [if_pos (.inl hs)]
      clear hs
      go_enter Try.func35, Try.ntmps35
      go_wp2_with fail
      refine HM.out.mono ?_
      rintro e w' ⟨rfl, rfl⟩
      go_wp2_with fail
      go_ret
      exact ⟨rfl, rfl⟩
    · have d1 : decide (s < 0) = false := by simpa using hs
      by_cases hl : (n : Int) ≤ s
      · have d2 : decide (s ≥ (n : Int)) = true := by simpa using hl
        rw [if_pos (.inr hl)]
        clear hs hl
        go_enter Try.func35, Try.ntmps35
        go_wp2_with fail
        refine HM.out.mono ?_
        rintro e w' ⟨rfl, rfl⟩
        go_wp2_with fail
        go_ret
        exact ⟨rfl, rfl⟩
      · have d2 : decide (s ≥ (n : Int)) = false := by simpa using hl
        rw [if_neg (by rintro (h | h); exact hs h; exact hl h)]
        clear hs hl
        go_enter Try.func35, Try.ntmps35
        go_wp2_with fail
        refine HM.out.mono ?_
        rintro e w' ⟨rfl, rfl⟩
        go_wp2_with fail
        go_ret
        exact ⟨rfl, rfl⟩
theorem sizes_nil (w : World) : Calls Try.prog 24 #[.pointer none] w fun e w' => e = .returned (.tuple #[.int .i64 0, .int .i64 0]) ∧ w = w' := by
  go_enter Try.func24, Try.ntmps24
  go_wp2_with fail
  refine (made_nil _).mono ?_
  rintro e w' ⟨rfl, rfl⟩
  go_wp2_with fail
  go_ret2
  exact ⟨rfl, rfl⟩
theorem sizes_any (tb : Nat) (a m : Option Addr) (n c k c' : Nat) (w : World) (h0 : w.cell? ⟨tb, 0, none⟩ = some (.slice a n c)) (h1 : w.cell? ⟨tb, 1, none⟩ = some (.slice m k c')) (hn : 0 < n) :
    Calls Try.prog 24 #[.pointer (some ⟨tb, 0, none⟩)] w fun e w' => e = .returned (.tuple #[.int .i64 (n : Int), .int .i64 (k : Int)]) ∧ Below w.heap.size w w' := by
  have HM := Lib.hid (made_any tb a n c w h0)
  have d : decide (0 < n) = true := by simpa using hn
  rw [d] at HM
  clear d hn
  go_enter Try.func24, Try.ntmps24
  go_wp2_with fail
  refine HM.out.mono ?_
  rintro e w' ⟨rfl, rfl⟩
  go_wp2_with fail
  go_quiet (fail)
  go_wp2_with fail
  go_ret2
  exact ⟨rfl, bel_drewN _ _⟩
end Go.Proofs.Yteolfkkabhileaa.Sc
end
