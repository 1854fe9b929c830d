/- P1.6: for every three numbers of 64 bits sums and products go by each other wherever none is too great: no condition. -/
import Derived.Test.YtlaajhdffgjamaaFixNamed
namespace Go.Proofs.Ytlaajhdffgjamaa.fixRing
open Go.ChangeShapes Go.WideShapes Go.ChangeAt Go.RowKit
open Go.ChangeMaps (open_string shut_string)

set_option linter.unusedVariables false

theorem own : ownKnob Try.prog.godebug = none := by kernel_rfl
set_option maxHeartbeats 400000 in
theorem ring_over (a b c V E P G S I X J Y K T L D M : Int) (w : World)
    (HV : Hid (Fx.twoV a b (a + b) = V)) (HE : Hid (Fx.twoE a b (a + b) = E)) (HV2 : Hid (Fx.twoV b a (b + a) = V)) (HE2 : Hid (Fx.twoE b a (b + a) = E))
    (HP : Hid (Fx.twoV a b (a * b) = P)) (HG : Hid (Fx.twoE a b (a * b) = G)) (HP2 : Hid (Fx.twoV b a (b * a) = P)) (HG2 : Hid (Fx.twoE b a (b * a) = G))
    (HS : Hid (Fx.twoV V c (V * c) = S)) (HI : Hid (Fx.twoE V c (V * c) = I)) (HX : Hid (Fx.twoV a c (a * c) = X)) (HJ : Hid (Fx.twoE a c (a * c) = J)) (HY : Hid (Fx.twoV b c (b * c) = Y)) (HK : Hid (Fx.twoE b c (b * c) = K))
    (HT : Hid (Fx.twoV X Y (X + Y) = T)) (HL : Hid (Fx.twoE X Y (X + Y) = L)) (HD : Hid (Fx.twoV V b (V - b) = D)) (HM : Hid (Fx.twoE V b (V - b) = M))
    (h1 : (E == 0) = false) (h2 : (E != 0) = true) :
    Calls Try.prog 9 #[.int .i64 a, .int .i64 b, .int .i64 c] w fun e w' => e = .returned (.bool true) ∧ Below w.heap.size w w' := by
  go_enter Try.func9, Try.ntmps9
  go_wp2_with fail
  refine (Fx.add_is _ _ V E _ HV.out HE.out).mono ?_; rintro e w' ⟨rfl, rfl⟩
  go_wp2_with fail
  refine (Fx.add_is _ _ V E _ HV2.out HE2.out).mono ?_; rintro e w' ⟨rfl, rfl⟩
  go_wp2_with fail
  refine (Fx.mul_is _ _ P G _ HP.out HG.out).mono ?_; rintro e w' ⟨rfl, rfl⟩
  go_wp2_with fail
  refine (Fx.mul_is _ _ P G _ HP2.out HG2.out).mono ?_; rintro e w' ⟨rfl, rfl⟩
  go_wp2_with fail
  refine (Fx.awake_yes _).mono ?_; rintro e w' ⟨rfl, hb⟩; have Hb := Lib.hid hb; clear hb
  go_wp2_with fail
  refine (Fx.same_yes _ _ _).mono ?_; rintro e w' ⟨rfl, rfl⟩
  go_wp2_with fail
  refine (Fx.same_yes _ _ _).mono ?_; rintro e w' ⟨rfl, rfl⟩
  go_wp2_with fail
  refine (Fx.mul_is _ _ S I _ HS.out HI.out).mono ?_; rintro e w' ⟨rfl, rfl⟩
  go_wp2_with fail
  refine (Fx.mul_is _ _ X J _ HX.out HJ.out).mono ?_; rintro e w' ⟨rfl, rfl⟩
  go_wp2_with fail
  refine (Fx.mul_is _ _ Y K _ HY.out HK.out).mono ?_; rintro e w' ⟨rfl, rfl⟩
  go_wp2_with fail
  refine (Fx.add_is _ _ T L _ HT.out HL.out).mono ?_; rintro e w' ⟨rfl, rfl⟩
  go_wp2_with fail
  refine (Fx.sub_is _ _ D M _ HD.out HM.out).mono ?_; rintro e w' ⟨rfl, rfl⟩
  go_wp2_with fail
  go_ret
  exact ⟨rfl, Hb.out⟩
set_option maxHeartbeats 400000 in
theorem ring_i (a b c V P G S I X J Y K T L : Int) (w : World)
    (HV : Hid (Fx.twoV a b (a + b) = V)) (HE : Hid (Fx.twoE a b (a + b) = 0)) (HV2 : Hid (Fx.twoV b a (b + a) = V)) (HE2 : Hid (Fx.twoE b a (b + a) = 0))
    (HP : Hid (Fx.twoV a b (a * b) = P)) (HG : Hid (Fx.twoE a b (a * b) = G)) (HP2 : Hid (Fx.twoV b a (b * a) = P)) (HG2 : Hid (Fx.twoE b a (b * a) = G))
    (HS : Hid (Fx.twoV V c (V * c) = S)) (HI : Hid (Fx.twoE V c (V * c) = I)) (HX : Hid (Fx.twoV a c (a * c) = X)) (HJ : Hid (Fx.twoE a c (a * c) = J)) (HY : Hid (Fx.twoV b c (b * c) = Y)) (HK : Hid (Fx.twoE b c (b * c) = K))
    (HT : Hid (Fx.twoV X Y (X + Y) = T)) (HL : Hid (Fx.twoE X Y (X + Y) = L)) (HD : Hid (Fx.twoV V b (V - b) = a)) (HM : Hid (Fx.twoE V b (V - b) = 0))
    (h1 : (I == 0) = false) :
    Calls Try.prog 9 #[.int .i64 a, .int .i64 b, .int .i64 c] w fun e w' => e = .returned (.bool true) ∧ Below w.heap.size w w' := by
  go_enter Try.func9, Try.ntmps9
  go_wp2_with fail
  refine (Fx.add_is _ _ V 0 _ HV.out HE.out).mono ?_; rintro e w' ⟨rfl, rfl⟩
  go_wp2_with fail
  refine (Fx.add_is _ _ V 0 _ HV2.out HE2.out).mono ?_; rintro e w' ⟨rfl, rfl⟩
  go_wp2_with fail
  refine (Fx.mul_is _ _ P G _ HP.out HG.out).mono ?_; rintro e w' ⟨rfl, rfl⟩
  go_wp2_with fail
  refine (Fx.mul_is _ _ P G _ HP2.out HG2.out).mono ?_; rintro e w' ⟨rfl, rfl⟩
  go_wp2_with fail
  refine (Fx.awake_yes _).mono ?_; rintro e w' ⟨rfl, hb⟩; have Hb := Lib.hid hb; clear hb
  go_wp2_with fail
  refine (Fx.same_yes _ _ _).mono ?_; rintro e w' ⟨rfl, rfl⟩
  go_wp2_with fail
  refine (Fx.same_yes _ _ _).mono ?_; rintro e w' ⟨rfl, rfl⟩
  go_wp2_with fail
  refine (Fx.mul_is _ _ S I _ HS.out HI.out).mono ?_; rintro e w' ⟨rfl, rfl⟩
  go_wp2_with fail
  refine (Fx.mul_is _ _ X J _ HX.out HJ.out).mono ?_; rintro e w' ⟨rfl, rfl⟩
  go_wp2_with fail
  refine (Fx.mul_is _ _ Y K _ HY.out HK.out).mono ?_; rintro e w' ⟨rfl, rfl⟩
  go_wp2_with fail
  refine (Fx.add_is _ _ T L _ HT.out HL.out).mono ?_; rintro e w' ⟨rfl, rfl⟩
  go_wp2_with fail
  refine (Fx.sub_is _ _ a 0 _ HD.out HM.out).mono ?_; rintro e w' ⟨rfl, rfl⟩
  go_wp2_with fail
  go_ret
  exact ⟨rfl, Hb.out⟩
set_option maxHeartbeats 400000 in
theorem ring_j (a b c V P G S X J Y K T L : Int) (w : World)
    (HV : Hid (Fx.twoV a b (a + b) = V)) (HE : Hid (Fx.twoE a b (a + b) = 0)) (HV2 : Hid (Fx.twoV b a (b + a) = V)) (HE2 : Hid (Fx.twoE b a (b + a) = 0))
    (HP : Hid (Fx.twoV a b (a * b) = P)) (HG : Hid (Fx.twoE a b (a * b) = G)) (HP2 : Hid (Fx.twoV b a (b * a) = P)) (HG2 : Hid (Fx.twoE b a (b * a) = G))
    (HS : Hid (Fx.twoV V c (V * c) = S)) (HI : Hid (Fx.twoE V c (V * c) = 0)) (HX : Hid (Fx.twoV a c (a * c) = X)) (HJ : Hid (Fx.twoE a c (a * c) = J)) (HY : Hid (Fx.twoV b c (b * c) = Y)) (HK : Hid (Fx.twoE b c (b * c) = K))
    (HT : Hid (Fx.twoV X Y (X + Y) = T)) (HL : Hid (Fx.twoE X Y (X + Y) = L)) (HD : Hid (Fx.twoV V b (V - b) = a)) (HM : Hid (Fx.twoE V b (V - b) = 0))
    (h1 : (J == 0) = false) :
    Calls Try.prog 9 #[.int .i64 a, .int .i64 b, .int .i64 c] w fun e w' => e = .returned (.bool true) ∧ Below w.heap.size w w' := by
  go_enter Try.func9, Try.ntmps9
  go_wp2_with fail
  refine (Fx.add_is _ _ V 0 _ HV.out HE.out).mono ?_; rintro e w' ⟨rfl, rfl⟩
  go_wp2_with fail
  refine (Fx.add_is _ _ V 0 _ HV2.out HE2.out).mono ?_; rintro e w' ⟨rfl, rfl⟩
  go_wp2_with fail
  refine (Fx.mul_is _ _ P G _ HP.out HG.out).mono ?_; rintro e w' ⟨rfl, rfl⟩
  go_wp2_with fail
  refine (Fx.mul_is _ _ P G _ HP2.out HG2.out).mono ?_; rintro e w' ⟨rfl, rfl⟩
  go_wp2_with fail
  refine (Fx.awake_yes _).mono ?_; rintro e w' ⟨rfl, hb⟩; have Hb := Lib.hid hb; clear hb
  go_wp2_with fail
  refine (Fx.same_yes _ _ _).mono ?_; rintro e w' ⟨rfl, rfl⟩
  go_wp2_with fail
  refine (Fx.same_yes _ _ _).mono ?_; rintro e w' ⟨rfl, rfl⟩
  go_wp2_with fail
  refine (Fx.mul_is _ _ S 0 _ HS.out HI.out).mono ?_; rintro e w' ⟨rfl, rfl⟩
  go_wp2_with fail
  refine (Fx.mul_is _ _ X J _ HX.out HJ.out).mono ?_; rintro e w' ⟨rfl, rfl⟩
  go_wp2_with fail
  refine (Fx.mul_is _ _ Y K _ HY.out HK.out).mono ?_; rintro e w' ⟨rfl, rfl⟩
  go_wp2_with fail
  refine (Fx.add_is _ _ T L _ HT.out HL.out).mono ?_; rintro e w' ⟨rfl, rfl⟩
  go_wp2_with fail
  refine (Fx.sub_is _ _ a 0 _ HD.out HM.out).mono ?_; rintro e w' ⟨rfl, rfl⟩
  go_wp2_with fail
  go_ret
  exact ⟨rfl, Hb.out⟩
set_option maxHeartbeats 400000 in
theorem ring_k (a b c V P G S X Y K T L : Int) (w : World)
    (HV : Hid (Fx.twoV a b (a + b) = V)) (HE : Hid (Fx.twoE a b (a + b) = 0)) (HV2 : Hid (Fx.twoV b a (b + a) = V)) (HE2 : Hid (Fx.twoE b a (b + a) = 0))
    (HP : Hid (Fx.twoV a b (a * b) = P)) (HG : Hid (Fx.twoE a b (a * b) = G)) (HP2 : Hid (Fx.twoV b a (b * a) = P)) (HG2 : Hid (Fx.twoE b a (b * a) = G))
    (HS : Hid (Fx.twoV V c (V * c) = S)) (HI : Hid (Fx.twoE V c (V * c) = 0)) (HX : Hid (Fx.twoV a c (a * c) = X)) (HJ : Hid (Fx.twoE a c (a * c) = 0)) (HY : Hid (Fx.twoV b c (b * c) = Y)) (HK : Hid (Fx.twoE b c (b * c) = K))
    (HT : Hid (Fx.twoV X Y (X + Y) = T)) (HL : Hid (Fx.twoE X Y (X + Y) = L)) (HD : Hid (Fx.twoV V b (V - b) = a)) (HM : Hid (Fx.twoE V b (V - b) = 0))
    (h1 : (K == 0) = false) :
    Calls Try.prog 9 #[.int .i64 a, .int .i64 b, .int .i64 c] w fun e w' => e = .returned (.bool true) ∧ Below w.heap.size w w' := by
  go_enter Try.func9, Try.ntmps9
  go_wp2_with fail
  refine (Fx.add_is _ _ V 0 _ HV.out HE.out).mono ?_; rintro e w' ⟨rfl, rfl⟩
  go_wp2_with fail
  refine (Fx.add_is _ _ V 0 _ HV2.out HE2.out).mono ?_; rintro e w' ⟨rfl, rfl⟩
  go_wp2_with fail
  refine (Fx.mul_is _ _ P G _ HP.out HG.out).mono ?_; rintro e w' ⟨rfl, rfl⟩
  go_wp2_with fail
  refine (Fx.mul_is _ _ P G _ HP2.out HG2.out).mono ?_; rintro e w' ⟨rfl, rfl⟩
  go_wp2_with fail
  refine (Fx.awake_yes _).mono ?_; rintro e w' ⟨rfl, hb⟩; have Hb := Lib.hid hb; clear hb
  go_wp2_with fail
  refine (Fx.same_yes _ _ _).mono ?_; rintro e w' ⟨rfl, rfl⟩
  go_wp2_with fail
  refine (Fx.same_yes _ _ _).mono ?_; rintro e w' ⟨rfl, rfl⟩
  go_wp2_with fail
  refine (Fx.mul_is _ _ S 0 _ HS.out HI.out).mono ?_; rintro e w' ⟨rfl, rfl⟩
  go_wp2_with fail
  refine (Fx.mul_is _ _ X 0 _ HX.out HJ.out).mono ?_; rintro e w' ⟨rfl, rfl⟩
  go_wp2_with fail
  refine (Fx.mul_is _ _ Y K _ HY.out HK.out).mono ?_; rintro e w' ⟨rfl, rfl⟩
  go_wp2_with fail
  refine (Fx.add_is _ _ T L _ HT.out HL.out).mono ?_; rintro e w' ⟨rfl, rfl⟩
  go_wp2_with fail
  refine (Fx.sub_is _ _ a 0 _ HD.out HM.out).mono ?_; rintro e w' ⟨rfl, rfl⟩
  go_wp2_with fail
  go_ret
  exact ⟨rfl, Hb.out⟩
set_option maxHeartbeats 400000 in
theorem ring_all (a b c V P G S X Y : Int) (w : World)
    (HV : Hid (Fx.twoV a b (a + b) = V)) (HE : Hid (Fx.twoE a b (a + b) = 0)) (HV2 : Hid (Fx.twoV b a (b + a) = V)) (HE2 : Hid (Fx.twoE b a (b + a) = 0))
    (HP : Hid (Fx.twoV a b (a * b) = P)) (HG : Hid (Fx.twoE a b (a * b) = G)) (HP2 : Hid (Fx.twoV b a (b * a) = P)) (HG2 : Hid (Fx.twoE b a (b * a) = G))
    (HS : Hid (Fx.twoV V c (V * c) = S)) (HI : Hid (Fx.twoE V c (V * c) = 0)) (HX : Hid (Fx.twoV a c (a * c) = X)) (HJ : Hid (Fx.twoE a c (a * c) = 0)) (HY : Hid (Fx.twoV b c (b * c) = Y)) (HK : Hid (Fx.twoE b c (b * c) = 0))
    (HT : Hid (Fx.twoV X Y (X + Y) = S)) (HL : Hid (Fx.twoE X Y (X + Y) = 0)) (HD : Hid (Fx.twoV V b (V - b) = a)) (HM : Hid (Fx.twoE V b (V - b) = 0))
     :
    Calls Try.prog 9 #[.int .i64 a, .int .i64 b, .int .i64 c] w fun e w' => e = .returned (.bool true) ∧ Below w.heap.size w w' := by
  go_enter Try.func9, Try.ntmps9
  go_wp2_with fail
  refine (Fx.add_is _ _ V 0 _ HV.out HE.out).mono ?_; rintro e w' ⟨rfl, rfl⟩
  go_wp2_with fail
  refine (Fx.add_is _ _ V 0 _ HV2.out HE2.out).mono ?_; rintro e w' ⟨rfl, rfl⟩
  go_wp2_with fail
  refine (Fx.mul_is _ _ P G _ HP.out HG.out).mono ?_; rintro e w' ⟨rfl, rfl⟩
  go_wp2_with fail
  refine (Fx.mul_is _ _ P G _ HP2.out HG2.out).mono ?_; rintro e w' ⟨rfl, rfl⟩
  go_wp2_with fail
  refine (Fx.awake_yes _).mono ?_; rintro e w' ⟨rfl, hb⟩; have Hb := Lib.hid hb; clear hb
  go_wp2_with fail
  refine (Fx.same_yes _ _ _).mono ?_; rintro e w' ⟨rfl, rfl⟩
  go_wp2_with fail
  refine (Fx.same_yes _ _ _).mono ?_; rintro e w' ⟨rfl, rfl⟩
  go_wp2_with fail
  refine (Fx.mul_is _ _ S 0 _ HS.out HI.out).mono ?_; rintro e w' ⟨rfl, rfl⟩
  go_wp2_with fail
  refine (Fx.mul_is _ _ X 0 _ HX.out HJ.out).mono ?_; rintro e w' ⟨rfl, rfl⟩
  go_wp2_with fail
  refine (Fx.mul_is _ _ Y 0 _ HY.out HK.out).mono ?_; rintro e w' ⟨rfl, rfl⟩
  go_wp2_with fail
  refine (Fx.add_is _ _ S 0 _ HT.out HL.out).mono ?_; rintro e w' ⟨rfl, rfl⟩
  go_wp2_with fail
  refine (Fx.sub_is _ _ a 0 _ HD.out HM.out).mono ?_; rintro e w' ⟨rfl, rfl⟩
  go_wp2_with fail
  go_ret
  exact ⟨rfl, Hb.out⟩

theorem walk (a0 : Int) (a1 : Int) (a2 : Int) (w0 : (Lit.int .i64 a0).wf = true) (w1 : (Lit.int .i64 a1).wf = true) (w2 : (Lit.int .i64 a2).wf = true) (w : World) :
    Calls Try.prog 9 #[.int .i64 a0, .int .i64 a1, .int .i64 a2] w fun e w' => e = .returned (.bool true) ∧ Below w.heap.size w w' := by
  have hc := Fx.two_comm a0 a1 (a0 + a1)
  have hm := Fx.two_comm a0 a1 (a0 * a1)
  have e2 : a1 + a0 = a0 + a1 := Int.add_comm _ _
  have m2 : a1 * a0 = a0 * a1 := Int.mul_comm _ _
  have r1 : Fx.twoV a1 a0 (a1 + a0) = Fx.twoV a0 a1 (a0 + a1) := by rw [e2]; exact hc.1
  have r2 : Fx.twoE a1 a0 (a1 + a0) = Fx.twoE a0 a1 (a0 + a1) := by rw [e2]; exact hc.2
  have r3 : Fx.twoV a1 a0 (a1 * a0) = Fx.twoV a0 a1 (a0 * a1) := by rw [m2]; exact hm.1
  have r4 : Fx.twoE a1 a0 (a1 * a0) = Fx.twoE a0 a1 (a0 * a1) := by rw [m2]; exact hm.2
  by_cases hE : Fx.twoE a0 a1 (a0 + a1) = 0
  · obtain ⟨i1, i2, i3, i4⟩ := Fx.twoE_ok hE
    have b1 := Fx.ring_back i1 i2 i3
    rw [← i4] at b1
    by_cases hI : Fx.twoE (Fx.twoV a0 a1 (a0 + a1)) a2 (Fx.twoV a0 a1 (a0 + a1) * a2) = 0
    · by_cases hJ : Fx.twoE a0 a2 (a0 * a2) = 0
      · by_cases hK : Fx.twoE a1 a2 (a1 * a2) = 0
        · have hI' := hI
          rw [i4] at hI'
          have t := Fx.ring_sum hI' hJ hK
          have s1 := (Fx.twoE_ok hI).2.2.2
          rw [i4] at s1
          rw [← (Fx.twoE_ok hJ).2.2.2, ← (Fx.twoE_ok hK).2.2.2, (Fx.twoE_ok hJ).2.2.2, (Fx.twoE_ok hK).2.2.2] at t
          exact ring_all a0 a1 a2 _ _ _ _ _ _ w (Lib.hid rfl) (Lib.hid hE) (Lib.hid r1) (Lib.hid (r2.trans hE)) (Lib.hid rfl) (Lib.hid rfl) (Lib.hid r3) (Lib.hid r4) (Lib.hid rfl) (Lib.hid hI) (Lib.hid rfl) (Lib.hid hJ) (Lib.hid rfl) (Lib.hid hK) (Lib.hid (by rw [(Fx.twoE_ok hJ).2.2.2, (Fx.twoE_ok hK).2.2.2, i4, s1]; exact t.1)) (Lib.hid (by rw [(Fx.twoE_ok hJ).2.2.2, (Fx.twoE_ok hK).2.2.2]; exact t.2)) (Lib.hid b1.1) (Lib.hid b1.2)
        · exact ring_k a0 a1 a2 _ _ _ _ _ _ _ _ _ w (Lib.hid rfl) (Lib.hid hE) (Lib.hid r1) (Lib.hid (r2.trans hE)) (Lib.hid rfl) (Lib.hid rfl) (Lib.hid r3) (Lib.hid r4) (Lib.hid rfl) (Lib.hid hI) (Lib.hid rfl) (Lib.hid hJ) (Lib.hid rfl) (Lib.hid rfl) (Lib.hid rfl) (Lib.hid rfl) (Lib.hid b1.1) (Lib.hid b1.2) (beq_eq_false_iff_ne.2 hK)
      · exact ring_j a0 a1 a2 _ _ _ _ _ _ _ _ _ _ w (Lib.hid rfl) (Lib.hid hE) (Lib.hid r1) (Lib.hid (r2.trans hE)) (Lib.hid rfl) (Lib.hid rfl) (Lib.hid r3) (Lib.hid r4) (Lib.hid rfl) (Lib.hid hI) (Lib.hid rfl) (Lib.hid rfl) (Lib.hid rfl) (Lib.hid rfl) (Lib.hid rfl) (Lib.hid rfl) (Lib.hid b1.1) (Lib.hid b1.2) (beq_eq_false_iff_ne.2 hJ)
    · exact ring_i a0 a1 a2 _ _ _ _ _ _ _ _ _ _ _ w (Lib.hid rfl) (Lib.hid hE) (Lib.hid r1) (Lib.hid (r2.trans hE)) (Lib.hid rfl) (Lib.hid rfl) (Lib.hid r3) (Lib.hid r4) (Lib.hid rfl) (Lib.hid rfl) (Lib.hid rfl) (Lib.hid rfl) (Lib.hid rfl) (Lib.hid rfl) (Lib.hid rfl) (Lib.hid rfl) (Lib.hid b1.1) (Lib.hid b1.2) (beq_eq_false_iff_ne.2 hI)
  · exact ring_over a0 a1 a2 _ _ _ _ _ _ _ _ _ _ _ _ _ _ w (Lib.hid rfl) (Lib.hid rfl) (Lib.hid r1) (Lib.hid r2) (Lib.hid rfl) (Lib.hid rfl) (Lib.hid r3) (Lib.hid r4) (Lib.hid rfl) (Lib.hid rfl) (Lib.hid rfl) (Lib.hid rfl) (Lib.hid rfl) (Lib.hid rfl) (Lib.hid rfl) (Lib.hid rfl) (Lib.hid rfl) (Lib.hid rfl) (beq_eq_false_iff_ne.2 hE) (by rw [bne_iff_ne]; exact hE)
set_option maxRecDepth 100000 in
theorem lifted (os : Os) (started : os.Started) (H : Type) (enc : TypeId × Value → H) :
    ReturnsInHanded {} Try.checked os 9 .any (Rows.fixRingSpec.pre6 enc Try.prog Try.f9 Rows.fixRingRow.domain false) (Rows.fixRingSpec.post enc Try.prog Try.f9 false true false false) := by
  refine returnsInHanded_of_change (C := Try.checked) own started (by kernel_rfl) Try.func9
    (ChangeSpec.witness6 (enc := enc) (C := Try.checked) false ⟨#[], #[.int .i64 0, .int .i64 0, .int .i64 0], []⟩ 8 (by kernel_rfl) (by kernel_rfl) (by kernel_rfl) (by kernel_rfl)) ?_
  intro W base args ds gs before hval0 hW hcnd _
  have hval : ∀ (j : Nat) t v, Try.f9.params[j]? = some t → args[j]? = some v → Value.okWide Try.prog W .any base t v := hval0
  have hW' := hW
  obtain ⟨p, q, hA0, hV, rfl, hfz, hnd⟩ := hW
  have hA : DataW.TrodAll enc Try.prog W 0 (fun _ => true) true Try.f9.params.toList args.toList ds p := hA0
  rw [Try.params9] at hA hval
  obtain ⟨v0, vs0, d0, ds0, p0, q0, hargs, rfl, rfl, h0, r0⟩ := trodAll_cons hA
  obtain ⟨v1, vs1, d1, ds1, p1, q1, rfl, rfl, rfl, h1, r1⟩ := trodAll_cons r0
  obtain ⟨v2, vs2, d2, ds2, p2, q2, rfl, rfl, rfl, h2, r2⟩ := trodAll_cons r1
  obtain ⟨rfl, rfl, rfl⟩ := trodAll_nil r2
  obtain rfl : args = #[v0, v1, v2] := by cases args; simp_all
  obtain ⟨rfl, rfl⟩ := trodVars_none hV
  obtain ⟨a0, rfl, rfl, rfl, w0⟩ := open_int Try.underlying2 (hval 0 2 v0 rfl rfl) h0
  obtain ⟨a1, rfl, rfl, rfl, w1⟩ := open_int Try.underlying2 (hval 1 2 v1 rfl rfl) h1
  obtain ⟨a2, rfl, rfl, rfl, w2⟩ := open_int Try.underlying2 (hval 2 2 v2 rfl rfl) h2
  clear hA0 hval0
  refine (walk a0 a1 a2 w0 w1 w2 W).mono fun e W' ⟨he, bel⟩ => ?_
  subst he
  exact ⟨_, rfl, _, _, _, [], _, [], hW', trodAll_mk1 (shut_bool Try.underlying4 _), (trodAll_cons_mk (shut_int Try.underlying2 w0) (trodAll_cons_mk (shut_int Try.underlying2 w1) (trodAll_cons_mk (shut_int Try.underlying2 w2) trodAll_mk0))), rfl, bel.frame _, fun h => by cases h⟩

theorem over : Rows.fixRingRow.holds Try.pinned (OpenSpec.ofChange Rows.fixRingSpec) :=
  OpenClaim.holds_of_wide 9 Try.f9 rfl rfl rfl rfl rfl rfl rfl ⟨rfl, rfl, rfl, rfl, rfl⟩ rfl rfl rfl rfl rfl (by kernel_rfl) Try.func9 (by kernel_rfl)
    (of_decide_eq_true (by kernel_rfl)) (by unfold Func.isWrapper; first | (rw [if_pos (by decide +kernel)]; kernel_rfl) | (rw [if_neg (by decide +kernel)]; exact ⟨rfl, rfl⟩))
    (fun os started H enc _ => lifted os started H enc)

theorem proved : Rows.FixRingSaid := over
#print axioms proved
end Go.Proofs.Ytlaajhdffgjamaa.fixRing
