/- P1.7: for every two numbers of 64 bits a number is the parting one times its quotient, and the rest: no condition. -/
import Derived.Test.YtlaajhdffgjamaaFixNamed2
namespace Go.Proofs.Ytlaajhdffgjamaa.fixDivides
open Go.ChangeShapes Go.WideShapes Go.ChangeAt Go.RowKit
open Go.ChangeMaps (open_string shut_string)

set_option linter.unusedVariables false

theorem own : ownKnob Try.prog.godebug = none := by kernel_rfl

set_option maxHeartbeats 400000 in
theorem div_err (a b e : Int) (w : World) (HQ : Hid (Fx.quoV a b = 0 )) (HE : Hid (Fx.quoE a b = e )) (HR : Hid (Fx.remV a b = 0 )) (HF : Hid (Fx.partE a b = e )) (HM : Hid (Fx.modV a b = 0 )) (HG : Hid (Fx.partE a b = e )) (h1 : (e != 0) = true) :
    Calls Try.prog 10 #[.int .i64 a, .int .i64 b] w fun e w' => e = .returned (.bool true) ∧ Below w.heap.size w w' := by
  go_enter Try.func10, Try.ntmps10
  go_wp2_with fail
  refine (Fx.quo_is _ _ 0 e _ HQ.out HE.out).mono ?_; rintro e w' ⟨rfl, rfl⟩
  go_wp2_with fail
  refine (Fx.rem_is _ _ 0 e _ HR.out HF.out).mono ?_; rintro e w' ⟨rfl, rfl⟩
  go_wp2_with fail
  refine (Fx.mod_is _ _ 0 e _ HM.out HG.out).mono ?_; rintro e w' ⟨rfl, rfl⟩
  go_wp2_with fail
  refine (Fx.awake_yes _).mono ?_; rintro e w' ⟨rfl, hb⟩; have Hb := Lib.hid hb; clear hb
  go_wp2_with fail
  go_ret
  exact ⟨rfl, Hb.out⟩
theorem beq_decide (x y : Int) (p : Bool) (h : decide (x = y) = p) : (x == y) = p := h
set_option maxHeartbeats 1600000 in
theorem div_ok (a b q r m : Int) (w : World) (HQ : Hid (Fx.quoV a b = q )) (HE : Hid (Fx.quoE a b = 0 )) (HR : Hid (Fx.remV a b = r )) (HF : Hid (Fx.partE a b = 0 )) (HM : Hid (Fx.modV a b = m )) (HG : Hid (Fx.partE a b = 0 ))
    (a1 : -1152921504606846976 ≤ a) (a2 : a ≤ 1152921504606846975) (b1 : -1152921504606846976 ≤ b) (b2 : b ≤ 1152921504606846975)
    (hc : (r = 0 ∧ m = 0 ∧ (b < 0 ∨ 0 < b)) ∨ (0 < a ∧ 0 < b ∧ 0 < r ∧ r < b ∧ m = r) ∨ (0 < a ∧ b < 0 ∧ 0 < r ∧ r < -b ∧ m = r + b) ∨ (a < 0 ∧ 0 < b ∧ -b < r ∧ r < 0 ∧ m = r + b) ∨ (a < 0 ∧ b < 0 ∧ b < r ∧ r < 0 ∧ m = r))
    (q1 : -1152921504606846976 ≤ q * b) (q2 : q * b ≤ 1152921504606846976) (qe : (q * b + r == a) = true) :
    Calls Try.prog 10 #[.int .i64 a, .int .i64 b] w fun e w' => e = .returned (.bool true) ∧ Below w.heap.size w w' := by
  rcases hc with ⟨rfl, rfl, hb | hb⟩ | ⟨x1, x2, x3, x4, rfl⟩ | ⟨x1, x2, x3, x4, rfl⟩ | ⟨x1, x2, x3, x4, rfl⟩ | ⟨x1, x2, x3, x4, rfl⟩
  · rw [Int.add_zero] at qe
    first | (have f2 : (0 + b != 0) = true := by simp; omega) | (have f2 : (0 + b != 0) = false := by simp; omega)
    first | (have f8 : decide (b < 0) = true := by simp; omega) | (have f8 : decide (b < 0) = false := by simp; omega)
    first | (have f9 : decide (0 < b) = true := by simp; omega) | (have f9 : decide (0 < b) = false := by simp; omega)
    first | (have g1 : decide (b ≤ 0) = true := by simp; omega) | (have g1 : decide (b ≤ 0) = false := by simp; omega)
    first | (have g2 : decide (0 ≤ -b) = true := by simp; omega) | (have g2 : decide (0 ≤ -b) = false := by simp; omega)
    first | (have g3 : decide (b ≤ 0) = true := by simp; omega) | (have g3 : decide (b ≤ 0) = false := by simp; omega)
    first | (have g4 : decide (0 ≤ b) = true := by simp; omega) | (have g4 : decide (0 ≤ b) = false := by simp; omega)
    first | (have g5 : decide (-b ≤ 0) = true := by simp; omega) | (have g5 : decide (-b ≤ 0) = false := by simp; omega)
    first | (have g6 : decide (0 ≤ b) = true := by simp; omega) | (have g6 : decide (0 ≤ b) = false := by simp; omega)
    go_enter Try.func10, Try.ntmps10
    go_wp2_with fail
    refine (Fx.quo_is _ _ q 0 _ HQ.out HE.out).mono ?_; rintro e w' ⟨rfl, rfl⟩
    go_wp2_with fail
    refine (Fx.rem_is _ _ 0 0 _ HR.out HF.out).mono ?_; rintro e w' ⟨rfl, rfl⟩
    go_wp2_with fail
    refine (Fx.mod_is _ _ 0 0 _ HM.out HG.out).mono ?_; rintro e w' ⟨rfl, rfl⟩
    go_wp2_with fail
    refine (Fx.awake_yes _).mono ?_; rintro e w' ⟨rfl, hb⟩; have Hb := Lib.hid hb; clear hb
    go_wp2_with fail
    go_ret
    exact ⟨rfl, Hb.out⟩
  · rw [Int.add_zero] at qe
    first | (have f2 : (0 + b != 0) = true := by simp; omega) | (have f2 : (0 + b != 0) = false := by simp; omega)
    first | (have f8 : decide (b < 0) = true := by simp; omega) | (have f8 : decide (b < 0) = false := by simp; omega)
    first | (have f9 : decide (0 < b) = true := by simp; omega) | (have f9 : decide (0 < b) = false := by simp; omega)
    first | (have g1 : decide (b ≤ 0) = true := by simp; omega) | (have g1 : decide (b ≤ 0) = false := by simp; omega)
    first | (have g2 : decide (0 ≤ -b) = true := by simp; omega) | (have g2 : decide (0 ≤ -b) = false := by simp; omega)
    first | (have g3 : decide (b ≤ 0) = true := by simp; omega) | (have g3 : decide (b ≤ 0) = false := by simp; omega)
    first | (have g4 : decide (0 ≤ b) = true := by simp; omega) | (have g4 : decide (0 ≤ b) = false := by simp; omega)
    first | (have g5 : decide (-b ≤ 0) = true := by simp; omega) | (have g5 : decide (-b ≤ 0) = false := by simp; omega)
    first | (have g6 : decide (0 ≤ b) = true := by simp; omega) | (have g6 : decide (0 ≤ b) = false := by simp; omega)
    go_enter Try.func10, Try.ntmps10
    go_wp2_with fail
    refine (Fx.quo_is _ _ q 0 _ HQ.out HE.out).mono ?_; rintro e w' ⟨rfl, rfl⟩
    go_wp2_with fail
    refine (Fx.rem_is _ _ 0 0 _ HR.out HF.out).mono ?_; rintro e w' ⟨rfl, rfl⟩
    go_wp2_with fail
    refine (Fx.mod_is _ _ 0 0 _ HM.out HG.out).mono ?_; rintro e w' ⟨rfl, rfl⟩
    go_wp2_with fail
    refine (Fx.awake_yes _).mono ?_; rintro e w' ⟨rfl, hb⟩; have Hb := Lib.hid hb; clear hb
    go_wp2_with fail
    go_ret
    exact ⟨rfl, Hb.out⟩
  · first | (have f2 : (m + b != m) = true := by simp; omega) | (have f2 : (m + b != m) = false := by simp; omega)
    first | (have f3 : (m != 0) = true := by simp; omega) | (have f3 : (m != 0) = false := by simp; omega)
    first | (have f4 : decide (m < 0) = true := by simp; omega) | (have f4 : decide (m < 0) = false := by simp; omega)
    first | (have f5 : decide (a < 0) = true := by simp; omega) | (have f5 : decide (a < 0) = false := by simp; omega)
    first | (have f6 : (m != 0) = true := by simp; omega) | (have f6 : (m != 0) = false := by simp; omega)
    first | (have f7 : decide (m < 0) = true := by simp; omega) | (have f7 : decide (m < 0) = false := by simp; omega)
    first | (have f8 : decide (b < 0) = true := by simp; omega) | (have f8 : decide (b < 0) = false := by simp; omega)
    first | (have f9 : decide (0 < b) = true := by simp; omega) | (have f9 : decide (0 < b) = false := by simp; omega)
    first | (have g1 : decide (b ≤ m) = true := by simp; omega) | (have g1 : decide (b ≤ m) = false := by simp; omega)
    first | (have g2 : decide (m ≤ -b) = true := by simp; omega) | (have g2 : decide (m ≤ -b) = false := by simp; omega)
    first | (have g3 : decide (b ≤ m) = true := by simp; omega) | (have g3 : decide (b ≤ m) = false := by simp; omega)
    first | (have g4 : decide (m ≤ b) = true := by simp; omega) | (have g4 : decide (m ≤ b) = false := by simp; omega)
    first | (have g5 : decide (-b ≤ m) = true := by simp; omega) | (have g5 : decide (-b ≤ m) = false := by simp; omega)
    first | (have g6 : decide (m ≤ b) = true := by simp; omega) | (have g6 : decide (m ≤ b) = false := by simp; omega)
    go_enter Try.func10, Try.ntmps10
    go_wp2_with fail
    refine (Fx.quo_is _ _ q 0 _ HQ.out HE.out).mono ?_; rintro e w' ⟨rfl, rfl⟩
    go_wp2_with fail
    refine (Fx.rem_is _ _ m 0 _ HR.out HF.out).mono ?_; rintro e w' ⟨rfl, rfl⟩
    go_wp2_with fail
    refine (Fx.mod_is _ _ m 0 _ HM.out HG.out).mono ?_; rintro e w' ⟨rfl, rfl⟩
    go_wp2_with fail
    refine (Fx.awake_yes _).mono ?_; rintro e w' ⟨rfl, hb⟩; have Hb := Lib.hid hb; clear hb
    go_wp2_with fail
    go_ret
    exact ⟨rfl, Hb.out⟩
  · first | (have f1 : (r != (r + b)) = true := by simp; omega) | (have f1 : (r != (r + b)) = false := by simp; omega)
    first | (have f3 : (r != 0) = true := by simp; omega) | (have f3 : (r != 0) = false := by simp; omega)
    first | (have f4 : decide (r < 0) = true := by simp; omega) | (have f4 : decide (r < 0) = false := by simp; omega)
    first | (have f5 : decide (a < 0) = true := by simp; omega) | (have f5 : decide (a < 0) = false := by simp; omega)
    first | (have f6 : ((r + b) != 0) = true := by simp; omega) | (have f6 : ((r + b) != 0) = false := by simp; omega)
    first | (have f7 : decide ((r + b) < 0) = true := by simp; omega) | (have f7 : decide ((r + b) < 0) = false := by simp; omega)
    first | (have f8 : decide (b < 0) = true := by simp; omega) | (have f8 : decide (b < 0) = false := by simp; omega)
    first | (have f9 : decide (0 < b) = true := by simp; omega) | (have f9 : decide (0 < b) = false := by simp; omega)
    first | (have g1 : decide (b ≤ r) = true := by simp; omega) | (have g1 : decide (b ≤ r) = false := by simp; omega)
    first | (have g2 : decide (r ≤ -b) = true := by simp; omega) | (have g2 : decide (r ≤ -b) = false := by simp; omega)
    first | (have g3 : decide (b ≤ (r + b)) = true := by simp; omega) | (have g3 : decide (b ≤ (r + b)) = false := by simp; omega)
    first | (have g4 : decide (r ≤ b) = true := by simp; omega) | (have g4 : decide (r ≤ b) = false := by simp; omega)
    first | (have g5 : decide (-b ≤ r) = true := by simp; omega) | (have g5 : decide (-b ≤ r) = false := by simp; omega)
    first | (have g6 : decide ((r + b) ≤ b) = true := by simp; omega) | (have g6 : decide ((r + b) ≤ b) = false := by simp; omega)
    go_enter Try.func10, Try.ntmps10
    go_wp2_with fail
    refine (Fx.quo_is _ _ q 0 _ HQ.out HE.out).mono ?_; rintro e w' ⟨rfl, rfl⟩
    go_wp2_with fail
    refine (Fx.rem_is _ _ r 0 _ HR.out HF.out).mono ?_; rintro e w' ⟨rfl, rfl⟩
    go_wp2_with fail
    refine (Fx.mod_is _ _ (r + b) 0 _ HM.out HG.out).mono ?_; rintro e w' ⟨rfl, rfl⟩
    go_wp2_with fail
    refine (Fx.awake_yes _).mono ?_; rintro e w' ⟨rfl, hb⟩; have Hb := Lib.hid hb; clear hb
    go_wp2_with fail
    go_ret
    exact ⟨rfl, Hb.out⟩
  · first | (have f1 : (r != (r + b)) = true := by simp; omega) | (have f1 : (r != (r + b)) = false := by simp; omega)
    first | (have f3 : (r != 0) = true := by simp; omega) | (have f3 : (r != 0) = false := by simp; omega)
    first | (have f4 : decide (r < 0) = true := by simp; omega) | (have f4 : decide (r < 0) = false := by simp; omega)
    first | (have f5 : decide (a < 0) = true := by simp; omega) | (have f5 : decide (a < 0) = false := by simp; omega)
    first | (have f6 : ((r + b) != 0) = true := by simp; omega) | (have f6 : ((r + b) != 0) = false := by simp; omega)
    first | (have f7 : decide ((r + b) < 0) = true := by simp; omega) | (have f7 : decide ((r + b) < 0) = false := by simp; omega)
    first | (have f8 : decide (b < 0) = true := by simp; omega) | (have f8 : decide (b < 0) = false := by simp; omega)
    first | (have f9 : decide (0 < b) = true := by simp; omega) | (have f9 : decide (0 < b) = false := by simp; omega)
    first | (have g1 : decide (b ≤ r) = true := by simp; omega) | (have g1 : decide (b ≤ r) = false := by simp; omega)
    first | (have g2 : decide (r ≤ -b) = true := by simp; omega) | (have g2 : decide (r ≤ -b) = false := by simp; omega)
    first | (have g3 : decide (b ≤ (r + b)) = true := by simp; omega) | (have g3 : decide (b ≤ (r + b)) = false := by simp; omega)
    first | (have g4 : decide (r ≤ b) = true := by simp; omega) | (have g4 : decide (r ≤ b) = false := by simp; omega)
    first | (have g5 : decide (-b ≤ r) = true := by simp; omega) | (have g5 : decide (-b ≤ r) = false := by simp; omega)
    first | (have g6 : decide ((r + b) ≤ b) = true := by simp; omega) | (have g6 : decide ((r + b) ≤ b) = false := by simp; omega)
    go_enter Try.func10, Try.ntmps10
    go_wp2_with fail
    refine (Fx.quo_is _ _ q 0 _ HQ.out HE.out).mono ?_; rintro e w' ⟨rfl, rfl⟩
    go_wp2_with fail
    refine (Fx.rem_is _ _ r 0 _ HR.out HF.out).mono ?_; rintro e w' ⟨rfl, rfl⟩
    go_wp2_with fail
    refine (Fx.mod_is _ _ (r + b) 0 _ HM.out HG.out).mono ?_; rintro e w' ⟨rfl, rfl⟩
    go_wp2_with fail
    refine (Fx.awake_yes _).mono ?_; rintro e w' ⟨rfl, hb⟩; have Hb := Lib.hid hb; clear hb
    go_wp2_with fail
    go_ret
    exact ⟨rfl, Hb.out⟩
  · first | (have f2 : (m + b != m) = true := by simp; omega) | (have f2 : (m + b != m) = false := by simp; omega)
    first | (have f3 : (m != 0) = true := by simp; omega) | (have f3 : (m != 0) = false := by simp; omega)
    first | (have f4 : decide (m < 0) = true := by simp; omega) | (have f4 : decide (m < 0) = false := by simp; omega)
    first | (have f5 : decide (a < 0) = true := by simp; omega) | (have f5 : decide (a < 0) = false := by simp; omega)
    first | (have f6 : (m != 0) = true := by simp; omega) | (have f6 : (m != 0) = false := by simp; omega)
    first | (have f7 : decide (m < 0) = true := by simp; omega) | (have f7 : decide (m < 0) = false := by simp; omega)
    first | (have f8 : decide (b < 0) = true := by simp; omega) | (have f8 : decide (b < 0) = false := by simp; omega)
    first | (have f9 : decide (0 < b) = true := by simp; omega) | (have f9 : decide (0 < b) = false := by simp; omega)
    first | (have g1 : decide (b ≤ m) = true := by simp; omega) | (have g1 : decide (b ≤ m) = false := by simp; omega)
    first | (have g2 : decide (m ≤ -b) = true := by simp; omega) | (have g2 : decide (m ≤ -b) = false := by simp; omega)
    first | (have g3 : decide (b ≤ m) = true := by simp; omega) | (have g3 : decide (b ≤ m) = false := by simp; omega)
    first | (have g4 : decide (m ≤ b) = true := by simp; omega) | (have g4 : decide (m ≤ b) = false := by simp; omega)
    first | (have g5 : decide (-b ≤ m) = true := by simp; omega) | (have g5 : decide (-b ≤ m) = false := by simp; omega)
    first | (have g6 : decide (m ≤ b) = true := by simp; omega) | (have g6 : decide (m ≤ b) = false := by simp; omega)
    go_enter Try.func10, Try.ntmps10
    go_wp2_with fail
    refine (Fx.quo_is _ _ q 0 _ HQ.out HE.out).mono ?_; rintro e w' ⟨rfl, rfl⟩
    go_wp2_with fail
    refine (Fx.rem_is _ _ m 0 _ HR.out HF.out).mono ?_; rintro e w' ⟨rfl, rfl⟩
    go_wp2_with fail
    refine (Fx.mod_is _ _ m 0 _ HM.out HG.out).mono ?_; rintro e w' ⟨rfl, rfl⟩
    go_wp2_with fail
    refine (Fx.awake_yes _).mono ?_; rintro e w' ⟨rfl, hb⟩; have Hb := Lib.hid hb; clear hb
    go_wp2_with fail
    go_ret
    exact ⟨rfl, Hb.out⟩
set_option maxHeartbeats 400000 in
theorem div_over (w : World) (q : Int) (HQ : Hid (Fx.quoV (-1152921504606846976) (-1) = q )) (HE : Hid (Fx.quoE (-1152921504606846976) (-1) = 10 )) (HR : Hid (Fx.remV (-1152921504606846976) (-1) = 0 )) (HF : Hid (Fx.partE (-1152921504606846976) (-1) = 0 )) (HM : Hid (Fx.modV (-1152921504606846976) (-1) = 0 )) (HG : Hid (Fx.partE (-1152921504606846976) (-1) = 0 )) :
    Calls Try.prog 10 #[.int .i64 (-1152921504606846976), .int .i64 (-1)] w fun e w' => e = .returned (.bool true) ∧ Below w.heap.size w w' := by
  go_enter Try.func10, Try.ntmps10
  go_wp2_with fail
  refine (Fx.quo_is _ _ q 10 _ HQ.out HE.out).mono ?_; rintro e w' ⟨rfl, rfl⟩
  go_wp2_with fail
  refine (Fx.rem_is _ _ 0 0 _ HR.out HF.out).mono ?_; rintro e w' ⟨rfl, rfl⟩
  go_wp2_with fail
  refine (Fx.mod_is _ _ 0 0 _ HM.out HG.out).mono ?_; rintro e w' ⟨rfl, rfl⟩
  go_wp2_with fail
  refine (Fx.awake_yes _).mono ?_; rintro e w' ⟨rfl, hb⟩; have Hb := Lib.hid hb; clear hb
  go_wp2_with fail
  go_ret
  exact ⟨rfl, Hb.out⟩

theorem walk (a0 : Int) (a1 : Int) (w0 : (Lit.int .i64 a0).wf = true) (w1 : (Lit.int .i64 a1).wf = true) (w : World) :
    Calls Try.prog 10 #[.int .i64 a0, .int .i64 a1] w fun e w' => e = .returned (.bool true) ∧ Below w.heap.size w w' := by
  by_cases hp : Fx.partE a0 a1 = 0
  · obtain ⟨ha, hb, h0⟩ := Fx.part_ok hp
    obtain ⟨p0, p1, p2, p3, p4⟩ := Fx.part_yes ha hb h0
    obtain ⟨x1, x2⟩ := Fx.in_yes ha
    obtain ⟨y1, y2⟩ := Fx.in_yes hb
    cases ho : Fx.inB (a0.tdiv a1)
    · obtain ⟨rfl, rfl⟩ := Fx.tdiv_out ha h0 ho
      exact div_over w _ (Lib.hid rfl) (Lib.hid (by decide)) (Lib.hid (by decide)) (Lib.hid (by decide)) (Lib.hid (by decide)) (Lib.hid (by decide))
    · obtain ⟨g1, g2⟩ := Fx.got_in ho
      have eq : a1 * a0.tdiv a1 + a0.tmod a1 = a0 := Int.mul_tdiv_add_tmod a0 a1
      have cm : a0.tdiv a1 * a1 = a1 * a0.tdiv a1 := Int.mul_comm _ _
      have rb := Fx.tmod_cases (a := a0) h0
      have rl := Fx.tmod_abs a0 a1 (Fx.abs_in ha)
      refine div_ok a0 a1 (a0.tdiv a1) (a0.tmod a1) (Fx.modN 0 (a0.tmod a1) a1) w (Lib.hid (p1.trans g1)) (Lib.hid (p2.trans g2)) (Lib.hid p3) (Lib.hid p0) (Lib.hid p4) (Lib.hid p0) x1 x2 y1 y2 rb ?_ ?_ ?_
      · rcases rb with h | h | h | h | h <;> omega
      · rcases rb with h | h | h | h | h <;> omega
      · rw [beq_iff_eq]; omega
  · obtain ⟨p1, p2, p3, p4⟩ := Fx.part_no hp
    exact div_err a0 a1 _ w (Lib.hid p1) (Lib.hid p2) (Lib.hid p3) (Lib.hid rfl) (Lib.hid p4) (Lib.hid rfl) (by rw [bne_iff_ne]; exact hp)
set_option maxRecDepth 100000 in
theorem lifted (os : Os) (started : os.Started) (H : Type) (enc : TypeId × Value → H) :
    ReturnsInHanded {} Try.checked os 10 .any (Rows.fixDividesSpec.pre6 enc Try.prog Try.f10 Rows.fixDividesRow.domain false) (Rows.fixDividesSpec.post enc Try.prog Try.f10 false true false false) := by
  refine returnsInHanded_of_change (C := Try.checked) own started (by kernel_rfl) Try.func10
    (ChangeSpec.witness6 (enc := enc) (C := Try.checked) false ⟨#[], #[.int .i64 0, .int .i64 0], []⟩ 8 (by kernel_rfl) (by kernel_rfl) (by kernel_rfl) (by kernel_rfl)) ?_
  intro W base args ds gs before hval0 hW hcnd _
  have hval : ∀ (j : Nat) t v, Try.f10.params[j]? = some t → args[j]? = some v → Value.okWide Try.prog W .any base t v := hval0
  have hW' := hW
  obtain ⟨p, q, hA0, hV, rfl, hfz, hnd⟩ := hW
  have hA : DataW.TrodAll enc Try.prog W 0 (fun _ => true) true Try.f10.params.toList args.toList ds p := hA0
  rw [Try.params10] at hA hval
  obtain ⟨v0, vs0, d0, ds0, p0, q0, hargs, rfl, rfl, h0, r0⟩ := trodAll_cons hA
  obtain ⟨v1, vs1, d1, ds1, p1, q1, rfl, rfl, rfl, h1, r1⟩ := trodAll_cons r0
  obtain ⟨rfl, rfl, rfl⟩ := trodAll_nil r1
  obtain rfl : args = #[v0, v1] := by cases args; simp_all
  obtain ⟨rfl, rfl⟩ := trodVars_none hV
  obtain ⟨a0, rfl, rfl, rfl, w0⟩ := open_int Try.underlying2 (hval 0 2 v0 rfl rfl) h0
  obtain ⟨a1, rfl, rfl, rfl, w1⟩ := open_int Try.underlying2 (hval 1 2 v1 rfl rfl) h1
  clear hA0 hval0
  refine (walk a0 a1 w0 w1 W).mono fun e W' ⟨he, bel⟩ => ?_
  subst he
  exact ⟨_, rfl, _, _, _, [], _, [], hW', trodAll_mk1 (shut_bool Try.underlying4 _), (trodAll_cons_mk (shut_int Try.underlying2 w0) (trodAll_cons_mk (shut_int Try.underlying2 w1) trodAll_mk0)), rfl, bel.frame _, fun h => by cases h⟩

theorem over : Rows.fixDividesRow.holds Try.pinned (OpenSpec.ofChange Rows.fixDividesSpec) :=
  OpenClaim.holds_of_wide 10 Try.f10 rfl rfl rfl rfl rfl rfl rfl ⟨rfl, rfl, rfl, rfl, rfl⟩ rfl rfl rfl rfl rfl (by kernel_rfl) Try.func10 (by kernel_rfl)
    (of_decide_eq_true (by kernel_rfl)) (by unfold Func.isWrapper; first | (rw [if_pos (by decide +kernel)]; kernel_rfl) | (rw [if_neg (by decide +kernel)]; exact ⟨rfl, rfl⟩))
    (fun os started H enc _ => lifted os started H enc)

theorem proved : Rows.FixDividesSaid := over
#print axioms proved
end Go.Proofs.Ytlaajhdffgjamaa.fixDivides
