/- Predicates on bytes of layer 3: the program's and the document's. -/
import Derived.Test.YteddfdhbpgbloaaLexSpec
import Derived.Test.YteddfdhbpgbloaaRows
import Derived.ProofKit
import Derived.OpenShut
import Derived.Lib.Hide
import Derived.Outline
namespace Go.Proofs.Yteddfdhbpgbloaa.Lx
open Go.ChangeShapes Go.WideShapes Go.ChangeAt Go.RowKit

theorem blank_any (c : UInt8) (w : World) :
    Calls Try.prog 82 #[.int .u8 (c.toNat : Int)] w fun e w' => e = .returned (.bool (blankB c)) ∧ w = w' := by
  unfold blankB
  cases a0 : ((c.toNat : Int) == 32) <;> cases a1 : ((c.toNat : Int) == 9) <;> cases a2 : ((c.toNat : Int) == 10) <;> cases a3 : ((c.toNat : Int) == 13)
  all_goals
    go_enter Try.func82, Try.ntmps82
    go_wp2_with fail
    go_ret
    exact ⟨rfl, rfl⟩
theorem rblank_any (c : UInt8) (w : World) :
    Calls Try.prog 51 #[.int .u8 (c.toNat : Int)] w fun e w' => e = .returned (.bool (blankB c)) ∧ w = w' := by
  unfold blankB
  cases a0 : ((c.toNat : Int) == 32) <;> cases a1 : ((c.toNat : Int) == 9) <;> cases a2 : ((c.toNat : Int) == 10) <;> cases a3 : ((c.toNat : Int) == 13)
  all_goals
    go_enter Try.func51, Try.ntmps51
    go_wp2_with fail
    go_ret
    exact ⟨rfl, rfl⟩
theorem printed_any (c : UInt8) (w : World) :
    Calls Try.prog 81 #[.int .u8 (c.toNat : Int)] w fun e w' => e = .returned (.bool (printB c)) ∧ w = w' := by
  unfold printB
  cases a0 : decide (32 ≤ (c.toNat : Int)) <;> cases a1 : decide ((c.toNat : Int) ≤ 126)
  all_goals
    go_enter Try.func81, Try.ntmps81
    go_wp2_with fail
    go_ret
    exact ⟨rfl, rfl⟩
theorem digit_any (c : UInt8) (w : World) :
    Calls Try.prog 117 #[.int .u8 (c.toNat : Int)] w fun e w' => e = .returned (.bool (digitB c)) ∧ w = w' := by
  unfold digitB
  cases a0 : decide (48 ≤ (c.toNat : Int)) <;> cases a1 : decide ((c.toNat : Int) ≤ 57)
  all_goals
    go_enter Try.func117, Try.ntmps117
    go_wp2_with fail
    go_ret
    exact ⟨rfl, rfl⟩
theorem rdigit_any (c : UInt8) (w : World) :
    Calls Try.prog 124 #[.int .u8 (c.toNat : Int)] w fun e w' => e = .returned (.bool (digitB c)) ∧ w = w' := by
  unfold digitB
  cases a0 : decide ((c.toNat : Int) ≥ 48) <;> cases a1 : decide ((c.toNat : Int) ≤ 57)
  all_goals
    go_enter Try.func124, Try.ntmps124
    go_wp2_with fail
    go_ret
    exact ⟨rfl, rfl⟩
theorem lower_any (c : UInt8) (w : World) :
    Calls Try.prog 116 #[.int .u8 (c.toNat : Int)] w fun e w' => e = .returned (.bool (lowerB c)) ∧ w = w' := by
  unfold lowerB
  cases a0 : decide (97 ≤ (c.toNat : Int)) <;> cases a1 : decide ((c.toNat : Int) ≤ 122)
  all_goals
    go_enter Try.func116, Try.ntmps116
    go_wp2_with fail
    go_ret
    exact ⟨rfl, rfl⟩
theorem small_any (c : UInt8) (w : World) :
    Calls Try.prog 123 #[.int .u8 (c.toNat : Int)] w fun e w' => e = .returned (.bool (lowerB c)) ∧ w = w' := by
  unfold lowerB
  cases a0 : decide ((c.toNat : Int) ≥ 97) <;> cases a1 : decide ((c.toNat : Int) ≤ 122)
  all_goals
    go_enter Try.func123, Try.ntmps123
    go_wp2_with fail
    go_ret
    exact ⟨rfl, rfl⟩
theorem delimits_any (c : UInt8) (w : World) :
    Calls Try.prog 119 #[.int .u8 (c.toNat : Int)] w fun e w' => e = .returned (.bool (delimB c)) ∧ w = w' := by
  unfold delimB
  obtain ⟨b, hb⟩ : ∃ b, blankB c = b := ⟨_, rfl⟩
  rw [hb]
  have Hb := Lib.hid hb
  clear hb
  cases b <;> cases a0 : ((c.toNat : Int) == 40) <;> cases a1 : ((c.toNat : Int) == 41) <;> cases a2 : ((c.toNat : Int) == 34) <;> cases a3 : ((c.toNat : Int) == 59)
  all_goals
    go_enter Try.func119, Try.ntmps119
    go_wp2_with (go_at_call 82; refine (blank_any c _).mono ?_; rintro e w' ⟨rfl, rfl⟩; rw [Hb.out])
    go_ret
    exact ⟨rfl, rfl⟩
end Go.Proofs.Yteddfdhbpgbloaa.Lx
