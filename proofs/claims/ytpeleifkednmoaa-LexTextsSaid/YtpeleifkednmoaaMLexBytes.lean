/- Predicates on bytes of layer 3: the program's and the document's. -/
import Derived.Test.YtpeleifkednmoaaRows
import Derived.ProofKit
import Derived.OpenShut
import Derived.Lib.Hide
import Derived.Outline
import Derived.Test.YtpeleifkednmoaaMLexSpec
section
namespace Go.Proofs.Ytpeleifkednmoaa.Lx
open Go.ChangeShapes Go.WideShapes Go.ChangeAt Go.RowKit

theorem blank_any (c : UInt8) (w : World) :
    Calls Try.prog 45 #[.int .u8 (c.toNat : Int)] w fun e w' => e = .returned (.bool (blankB c)) ∧ w = w' := by
  unfold blankB
  cases a0 : ((c.toNat : Int) == 32) <;> cases a1 : ((c.toNat : Int) == 9) <;> cases a2 : ((c.toNat : Int) == 10) <;> cases a3 : ((c.toNat : Int) == 13)
  all_goals
    go_enter Try.func45, Try.ntmps45
    go_wp2_with fail
    go_ret
    exact ⟨rfl, rfl⟩
theorem printed_any (c : UInt8) (w : World) :
    Calls Try.prog 35 #[.int .u8 (c.toNat : Int)] w fun e w' => e = .returned (.bool (printB c)) ∧ w = w' := by
  unfold printB
  cases a0 : decide (32 ≤ (c.toNat : Int)) <;> cases a1 : decide ((c.toNat : Int) ≤ 126)
  all_goals
    go_enter Try.func35, Try.ntmps35
    go_wp2_with fail
    go_ret
    exact ⟨rfl, rfl⟩
theorem digit_any (c : UInt8) (w : World) :
    Calls Try.prog 66 #[.int .u8 (c.toNat : Int)] w fun e w' => e = .returned (.bool (digitB c)) ∧ w = w' := by
  unfold digitB
  cases a0 : decide (48 ≤ (c.toNat : Int)) <;> cases a1 : decide ((c.toNat : Int) ≤ 57)
  all_goals
    go_enter Try.func66, Try.ntmps66
    go_wp2_with fail
    go_ret
    exact ⟨rfl, rfl⟩
theorem lower_any (c : UInt8) (w : World) :
    Calls Try.prog 65 #[.int .u8 (c.toNat : Int)] w fun e w' => e = .returned (.bool (lowerB c)) ∧ w = w' := by
  unfold lowerB
  cases a0 : decide (97 ≤ (c.toNat : Int)) <;> cases a1 : decide ((c.toNat : Int) ≤ 122)
  all_goals
    go_enter Try.func65, Try.ntmps65
    go_wp2_with fail
    go_ret
    exact ⟨rfl, rfl⟩
theorem delimits_any (c : UInt8) (w : World) :
    Calls Try.prog 68 #[.int .u8 (c.toNat : Int)] w fun e w' => e = .returned (.bool (delimB c)) ∧ w = w' := by
  unfold delimB
  obtain ⟨b, hb⟩ : ∃ b, blankB c = b := ⟨_, rfl⟩
  rw [hb]
  have Hb := Lib.hid hb
  clear hb
  cases b <;> cases a0 : ((c.toNat : Int) == 40) <;> cases a1 : ((c.toNat : Int) == 41) <;> cases a2 : ((c.toNat : Int) == 34) <;> cases a3 : ((c.toNat : Int) == 59)
  all_goals
    go_enter Try.func68, Try.ntmps68
    go_wp2_with (go_at_call 45; refine (blank_any c _).mono ?_; rintro e w' ⟨rfl, rfl⟩; rw [Hb.out])
    go_ret
    exact ⟨rfl, rfl⟩
end Go.Proofs.Ytpeleifkednmoaa.Lx
end
