/- P1.7: for every three numbers of 64 bits the greatest that parts two parts both, and whatever parts both parts it: no condition. -/
import Derived.Test.YtlaajhdffgjamaaFixNamed2
namespace Go.Proofs.Ytlaajhdffgjamaa.fixGreatest
open Go.ChangeShapes Go.WideShapes Go.ChangeAt Go.RowKit
open Go.ChangeMaps (open_string shut_string)

set_option linter.unusedVariables false

theorem own : ownKnob Try.prog.godebug = none := by kernel_rfl

theorem gr_err (a b c x : Int) (w : World) (HV : Hid (Fx.twoV a b (Fx.gcdI a b) = 0)) (HE : Hid (Fx.twoE a b (Fx.gcdI a b) = x)) (h1 : (x != 0) = true) :
    Calls Try.prog 11 #[.int .i64 a, .int .i64 b, .int .i64 c] w fun e w' => e = .returned (.bool true) ∧ Below w.heap.size w w' := by
  go_enter Try.func11, Try.ntmps11
  go_wp2_with fail
  refine (Fx.gcd_is _ _ 0 x _ HV.out HE.out).mono ?_; rintro e w' ⟨rfl, hb⟩; have Hg := Lib.hid hb; clear hb
  go_wp2_with fail
  refine (Fx.awake_yes _).mono ?_; rintro e w' ⟨rfl, hb⟩; have Hb := Lib.hid hb; clear hb
  go_wp2_with fail
  refine (Fx.awake_yes _).mono ?_; rintro e w' ⟨rfl, hb⟩; have Hc := Lib.hid hb; clear hb
  go_wp2_with fail
  go_ret
  exact ⟨rfl, Fx.bel_trans (Fx.bel_trans Hg.out Hb.out) Hc.out⟩
theorem gr_zero (c : Int) (w : World) (HV : Hid (Fx.twoV 0 0 (Fx.gcdI 0 0) = 0)) (HE : Hid (Fx.twoE 0 0 (Fx.gcdI 0 0) = 0)) :
    Calls Try.prog 11 #[.int .i64 0, .int .i64 0, .int .i64 c] w fun e w' => e = .returned (.bool true) ∧ Below w.heap.size w w' := by
  go_enter Try.func11, Try.ntmps11
  go_wp2_with fail
  refine (Fx.gcd_is _ _ 0 0 _ HV.out HE.out).mono ?_; rintro e w' ⟨rfl, hb⟩; have Hg := Lib.hid hb; clear hb
  go_wp2_with fail
  refine (Fx.awake_yes _).mono ?_; rintro e w' ⟨rfl, hb⟩; have Hb := Lib.hid hb; clear hb
  go_wp2_with fail
  go_ret
  exact ⟨rfl, Fx.bel_trans Hg.out Hb.out⟩
theorem gr_c0 (a b g : Int) (w : World) (HV : Hid (Fx.twoV a b (Fx.gcdI a b) = g)) (HE : Hid (Fx.twoE a b (Fx.gcdI a b) = 0)) (h0 : 0 < g) (h1 : (g == 0) = false) (h4 : ¬ g = 0) (h2 : (a.tmod g != 0) = false) (h3 : (b.tmod g != 0) = false) :
    Calls Try.prog 11 #[.int .i64 a, .int .i64 b, .int .i64 0] w fun e w' => e = .returned (.bool true) ∧ Below w.heap.size w w' := by
  go_enter Try.func11, Try.ntmps11
  go_wp2_with fail
  refine (Fx.gcd_is _ _ g 0 _ HV.out HE.out).mono ?_; rintro e w' ⟨rfl, hb⟩; have Hg := Lib.hid hb; clear hb
  go_wp2_with fail
  refine (Fx.awake_yes _).mono ?_; rintro e w' ⟨rfl, hb⟩; have Hb := Lib.hid hb; clear hb
  go_wp2_with fail
  go_ret
  exact ⟨rfl, Fx.bel_trans Hg.out Hb.out⟩
theorem gr_a (a b c g : Int) (w : World) (HV : Hid (Fx.twoV a b (Fx.gcdI a b) = g)) (HE : Hid (Fx.twoE a b (Fx.gcdI a b) = 0)) (h0 : 0 < g) (h1 : (g == 0) = false) (h4 : ¬ g = 0) (h2 : (a.tmod g != 0) = false) (h3 : (b.tmod g != 0) = false)
    (c1 : (c == 0) = false) (c2 : ¬ c = 0) (c3 : (a.tmod c != 0) = true) :
    Calls Try.prog 11 #[.int .i64 a, .int .i64 b, .int .i64 c] w fun e w' => e = .returned (.bool true) ∧ Below w.heap.size w w' := by
  go_enter Try.func11, Try.ntmps11
  go_wp2_with fail
  refine (Fx.gcd_is _ _ g 0 _ HV.out HE.out).mono ?_; rintro e w' ⟨rfl, hb⟩; have Hg := Lib.hid hb; clear hb
  go_wp2_with fail
  refine (Fx.awake_yes _).mono ?_; rintro e w' ⟨rfl, hb⟩; have Hb := Lib.hid hb; clear hb
  go_wp2_with fail
  go_ret
  exact ⟨rfl, Fx.bel_trans Hg.out Hb.out⟩
theorem gr_b (a b c g : Int) (w : World) (HV : Hid (Fx.twoV a b (Fx.gcdI a b) = g)) (HE : Hid (Fx.twoE a b (Fx.gcdI a b) = 0)) (h0 : 0 < g) (h1 : (g == 0) = false) (h4 : ¬ g = 0) (h2 : (a.tmod g != 0) = false) (h3 : (b.tmod g != 0) = false)
    (c1 : (c == 0) = false) (c2 : ¬ c = 0) (c3 : (a.tmod c != 0) = false) (c4 : (b.tmod c != 0) = true) :
    Calls Try.prog 11 #[.int .i64 a, .int .i64 b, .int .i64 c] w fun e w' => e = .returned (.bool true) ∧ Below w.heap.size w w' := by
  go_enter Try.func11, Try.ntmps11
  go_wp2_with fail
  refine (Fx.gcd_is _ _ g 0 _ HV.out HE.out).mono ?_; rintro e w' ⟨rfl, hb⟩; have Hg := Lib.hid hb; clear hb
  go_wp2_with fail
  refine (Fx.awake_yes _).mono ?_; rintro e w' ⟨rfl, hb⟩; have Hb := Lib.hid hb; clear hb
  go_wp2_with fail
  go_ret
  exact ⟨rfl, Fx.bel_trans Hg.out Hb.out⟩
theorem gr_g (a b c g : Int) (w : World) (HV : Hid (Fx.twoV a b (Fx.gcdI a b) = g)) (HE : Hid (Fx.twoE a b (Fx.gcdI a b) = 0)) (h0 : 0 < g) (h1 : (g == 0) = false) (h4 : ¬ g = 0) (h2 : (a.tmod g != 0) = false) (h3 : (b.tmod g != 0) = false)
    (c1 : (c == 0) = false) (c2 : ¬ c = 0) (c3 : (a.tmod c != 0) = false) (c4 : (b.tmod c != 0) = false) (c5 : (g.tmod c == 0) = true) (c6 : (g % c == 0) = true) :
    Calls Try.prog 11 #[.int .i64 a, .int .i64 b, .int .i64 c] w fun e w' => e = .returned (.bool true) ∧ Below w.heap.size w w' := by
  go_enter Try.func11, Try.ntmps11
  go_wp2_with fail
  refine (Fx.gcd_is _ _ g 0 _ HV.out HE.out).mono ?_; rintro e w' ⟨rfl, hb⟩; have Hg := Lib.hid hb; clear hb
  go_wp2_with fail
  refine (Fx.awake_yes _).mono ?_; rintro e w' ⟨rfl, hb⟩; have Hb := Lib.hid hb; clear hb
  go_wp2_with fail
  go_ret
  exact ⟨rfl, Fx.bel_trans Hg.out Hb.out⟩
theorem gcd_pos' {a b : Int} (h : Fx.gcdI a b ≠ 0) : 0 < Fx.gcdI a b := by unfold Fx.gcdI at h ⊢; omega
theorem gcd_l (a b : Int) : Fx.gcdI a b ∣ a := Int.ofNat_dvd_left.2 (Nat.gcd_dvd_left _ _)
theorem gcd_r (a b : Int) : Fx.gcdI a b ∣ b := Int.ofNat_dvd_left.2 (Nat.gcd_dvd_right _ _)
theorem gcd_all {a b c : Int} (h : c ∣ a) (k : c ∣ b) : c ∣ Fx.gcdI a b :=
  Int.ofNat_dvd_right.2 (Nat.dvd_gcd (Int.natAbs_dvd_natAbs.2 h) (Int.natAbs_dvd_natAbs.2 k))
theorem gcd_0 {a b : Int} (h : Fx.gcdI a b = 0) : a = 0 ∧ b = 0 := by
  have h1 := gcd_l a b
  have h2 := gcd_r a b
  rw [h] at h1 h2
  exact ⟨Int.zero_dvd.1 h1, Int.zero_dvd.1 h2⟩
theorem two_err {a b n : Int} (h : Fx.twoE a b n ≠ 0) : Fx.twoV a b n = 0 := by
  unfold Fx.twoE Fx.twoV at *
  cases ha : Fx.inB a <;> cases hb : Fx.inB b <;> simp [ha, hb] at h ⊢
  unfold Fx.gotE at h
  cases hn : Fx.inB n <;> simp [hn] at h
  exact (Fx.got_out hn).1
theorem ne_f {x : Int} (h : x = 0) : (x != 0) = false := by simp [h]

theorem walk (a0 : Int) (a1 : Int) (a2 : Int) (w0 : (Lit.int .i64 a0).wf = true) (w1 : (Lit.int .i64 a1).wf = true) (w2 : (Lit.int .i64 a2).wf = true) (w : World) :
    Calls Try.prog 11 #[.int .i64 a0, .int .i64 a1, .int .i64 a2] w fun e w' => e = .returned (.bool true) ∧ Below w.heap.size w w' := by
  by_cases he : Fx.twoE a0 a1 (Fx.gcdI a0 a1) = 0
  · have hv := (Fx.twoE_ok he).2.2.2
    by_cases hg : Fx.gcdI a0 a1 = 0
    · obtain ⟨rfl, rfl⟩ := gcd_0 hg
      exact gr_zero a2 w (Lib.hid (by decide)) (Lib.hid he)
    · have h0 := gcd_pos' hg
      have h2 := ne_f (Int.tmod_eq_zero_of_dvd (gcd_l a0 a1))
      have h3 := ne_f (Int.tmod_eq_zero_of_dvd (gcd_r a0 a1))
      have h1 : (Fx.gcdI a0 a1 == 0) = false := beq_eq_false_iff_ne.2 hg
      by_cases c0 : a2 = 0
      · subst c0
        exact gr_c0 a0 a1 _ w (Lib.hid hv) (Lib.hid he) h0 h1 hg h2 h3
      · have c1 : (a2 == 0) = false := beq_eq_false_iff_ne.2 c0
        by_cases ca : a0.tmod a2 = 0
        · by_cases cb : a1.tmod a2 = 0
          · have d := gcd_all (Int.dvd_of_tmod_eq_zero ca) (Int.dvd_of_tmod_eq_zero cb)
            exact gr_g a0 a1 a2 _ w (Lib.hid hv) (Lib.hid he) h0 h1 hg h2 h3 c1 c0 (ne_f ca) (ne_f cb) (by rw [beq_iff_eq]; exact Int.tmod_eq_zero_of_dvd d) (by rw [beq_iff_eq]; exact Int.emod_eq_zero_of_dvd d)
          · exact gr_b a0 a1 a2 _ w (Lib.hid hv) (Lib.hid he) h0 h1 hg h2 h3 c1 c0 (ne_f ca) (by rw [bne_iff_ne]; exact cb)
        · exact gr_a a0 a1 a2 _ w (Lib.hid hv) (Lib.hid he) h0 h1 hg h2 h3 c1 c0 (by rw [bne_iff_ne]; exact ca)
  · exact gr_err a0 a1 a2 _ w (Lib.hid (two_err he)) (Lib.hid rfl) (by rw [bne_iff_ne]; exact he)
set_option maxRecDepth 100000 in
theorem lifted (os : Os) (started : os.Started) (H : Type) (enc : TypeId × Value → H) :
    ReturnsInHanded {} Try.checked os 11 .any (Rows.fixGreatestSpec.pre6 enc Try.prog Try.f11 Rows.fixGreatestRow.domain false) (Rows.fixGreatestSpec.post enc Try.prog Try.f11 false true false false) := by
  refine returnsInHanded_of_change (C := Try.checked) own started (by kernel_rfl) Try.func11
    (ChangeSpec.witness6 (enc := enc) (C := Try.checked) false ⟨#[], #[.int .i64 0, .int .i64 0, .int .i64 0], []⟩ 8 (by kernel_rfl) (by kernel_rfl) (by kernel_rfl) (by kernel_rfl)) ?_
  intro W base args ds gs before hval0 hW hcnd _
  have hval : ∀ (j : Nat) t v, Try.f11.params[j]? = some t → args[j]? = some v → Value.okWide Try.prog W .any base t v := hval0
  have hW' := hW
  obtain ⟨p, q, hA0, hV, rfl, hfz, hnd⟩ := hW
  have hA : DataW.TrodAll enc Try.prog W 0 (fun _ => true) true Try.f11.params.toList args.toList ds p := hA0
  rw [Try.params11] at hA hval
  obtain ⟨v0, vs0, d0, ds0, p0, q0, hargs, rfl, rfl, h0, r0⟩ := trodAll_cons hA
  obtain ⟨v1, vs1, d1, ds1, p1, q1, rfl, rfl, rfl, h1, r1⟩ := trodAll_cons r0
  obtain ⟨v2, vs2, d2, ds2, p2, q2, rfl, rfl, rfl, h2, r2⟩ := trodAll_cons r1
  obtain ⟨rfl, rfl, rfl⟩ := trodAll_nil r2
  obtain rfl : args = #[v0, v1, v2] := by cases args; simp_all
  obtain ⟨rfl, rfl⟩ := trodVars_none hV
  obtain ⟨a0, rfl, rfl, rfl, w0⟩ := open_int Try.underlying2 (hval 0 2 v0 rfl rfl) h0
  obtain ⟨a1, rfl, rfl, rfl, w1⟩ := open_int Try.underlying2 (hval 1 2 v1 rfl rfl) h1
  obtain ⟨a2, rfl, rfl, rfl, w2⟩ := open_int Try.underlying2 (hval 2 2 v2 rfl rfl) h2
  clear hA0 hval0
  refine (walk a0 a1 a2 w0 w1 w2 W).mono fun e W' ⟨he, bel⟩ => ?_
  subst he
  exact ⟨_, rfl, _, _, _, [], _, [], hW', trodAll_mk1 (shut_bool Try.underlying4 _), (trodAll_cons_mk (shut_int Try.underlying2 w0) (trodAll_cons_mk (shut_int Try.underlying2 w1) (trodAll_cons_mk (shut_int Try.underlying2 w2) trodAll_mk0))), rfl, bel.frame _, fun h => by cases h⟩

theorem over : Rows.fixGreatestRow.holds Try.pinned (OpenSpec.ofChange Rows.fixGreatestSpec) :=
  OpenClaim.holds_of_wide 11 Try.f11 rfl rfl rfl rfl rfl rfl rfl ⟨rfl, rfl, rfl, rfl, rfl⟩ rfl rfl rfl rfl rfl (by kernel_rfl) Try.func11 (by kernel_rfl)
    (of_decide_eq_true (by kernel_rfl)) (by unfold Func.isWrapper; first | (rw [if_pos (by decide +kernel)]; kernel_rfl) | (rw [if_neg (by decide +kernel)]; exact ⟨rfl, rfl⟩))
    (fun os started H enc _ => lifted os started H enc)

theorem proved : Rows.FixGreatestSaid := over
#print axioms proved
end Go.Proofs.Ytlaajhdffgjamaa.fixGreatest
