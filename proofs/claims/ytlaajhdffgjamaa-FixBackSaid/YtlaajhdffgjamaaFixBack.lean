/- P1.5: for every number of 64 bits its text is read as the number, and what is read of any text has that text: no condition. -/
import Derived.Test.YtlaajhdffgjamaaFixBackMath
namespace Go.Proofs.Ytlaajhdffgjamaa.fixBack
open Go.ChangeShapes Go.WideShapes Go.ChangeAt Go.RowKit
open Go.ChangeMaps (open_string shut_string)

set_option linter.unusedVariables false

theorem own : ownKnob Try.prog.godebug = none := by kernel_rfl
theorem back_in_ok (a : Int) (n : Int) (s t : ByteArray) (w : World) (HT : Hid (∀ w, Calls Try.prog 41 #[.int .i64 a] w fun e w' => e = .returned (.tuple #[.string t, .int .i64 0]) ∧ Below w.heap.size w w')) (HP : Hid (∀ w, Calls Try.prog 43 #[.string t] w fun e w' => e = .returned (.tuple #[.int .i64 a, .int .i64 0]) ∧ w = w')) (HQ : Hid (∀ w, Calls Try.prog 43 #[.string s] w fun e w' => e = .returned (.tuple #[.int .i64 n, .int .i64 0]) ∧ w = w')) (HU : Hid (∀ w, Calls Try.prog 41 #[.int .i64 n] w fun e w' => e = .returned (.tuple #[.string s, .int .i64 0]) ∧ Below w.heap.size w w')) :
    Calls Try.prog 8 #[.int .i64 a, .string s] w fun e w' => e = .returned (.bool true) ∧ Below w.heap.size w w' := by
  go_enter Try.func8, Try.ntmps8
  go_wp2_with fail
  refine (HT.out _).mono ?_; rintro e w' ⟨rfl, hb⟩; have B1 := Lib.hid hb; clear hb
  go_wp2_with fail
  refine (HP.out _).mono ?_; rintro e w' ⟨rfl, rfl⟩
  go_wp2_with fail
  refine (HQ.out _).mono ?_; rintro e w' ⟨rfl, rfl⟩
  go_wp2_with fail
  refine (HU.out _).mono ?_; rintro e w' ⟨rfl, hb⟩; have B2 := Lib.hid hb; clear hb
  go_wp2_with fail
  refine (Fx.awake_yes _).mono ?_; rintro e w' ⟨rfl, hb⟩; have B3 := Lib.hid hb; clear hb
  go_wp2_with fail
  go_ret
  exact ⟨rfl, Fx.bel_trans (Fx.bel_trans B1.out B2.out) B3.out⟩
theorem back_in_bad (a : Int)  (s t : ByteArray) (w : World) (G : Int) (hG : (G != 0) = true) (HT : Hid (∀ w, Calls Try.prog 41 #[.int .i64 a] w fun e w' => e = .returned (.tuple #[.string t, .int .i64 0]) ∧ Below w.heap.size w w')) (HP : Hid (∀ w, Calls Try.prog 43 #[.string t] w fun e w' => e = .returned (.tuple #[.int .i64 a, .int .i64 0]) ∧ w = w')) (HQ : Hid (∀ w, Calls Try.prog 43 #[.string s] w fun e w' => e = .returned (.tuple #[.int .i64 0, .int .i64 G]) ∧ w = w')) :
    Calls Try.prog 8 #[.int .i64 a, .string s] w fun e w' => e = .returned (.bool true) ∧ Below w.heap.size w w' := by
  go_enter Try.func8, Try.ntmps8
  go_wp2_with fail
  refine (HT.out _).mono ?_; rintro e w' ⟨rfl, hb⟩; have B1 := Lib.hid hb; clear hb
  go_wp2_with fail
  refine (HP.out _).mono ?_; rintro e w' ⟨rfl, rfl⟩
  go_wp2_with fail
  refine (HQ.out _).mono ?_; rintro e w' ⟨rfl, rfl⟩
  go_wp2_with fail
  refine (Fx.awake_yes _).mono ?_; rintro e w' ⟨rfl, hb⟩; have B3 := Lib.hid hb; clear hb
  go_wp2_with fail
  go_ret
  exact ⟨rfl, Fx.bel_trans B1.out B3.out⟩
theorem back_out_ok (a : Int) (n : Int) (s t : ByteArray) (w : World) (E : Int) (hE : (E == 0) = false) (HT : Hid (∀ w, Calls Try.prog 41 #[.int .i64 a] w fun e w' => e = .returned (.tuple #[.string t, .int .i64 E]) ∧ Below w.heap.size w w')) (HQ : Hid (∀ w, Calls Try.prog 43 #[.string s] w fun e w' => e = .returned (.tuple #[.int .i64 n, .int .i64 0]) ∧ w = w')) (HU : Hid (∀ w, Calls Try.prog 41 #[.int .i64 n] w fun e w' => e = .returned (.tuple #[.string s, .int .i64 0]) ∧ Below w.heap.size w w')) :
    Calls Try.prog 8 #[.int .i64 a, .string s] w fun e w' => e = .returned (.bool true) ∧ Below w.heap.size w w' := by
  go_enter Try.func8, Try.ntmps8
  go_wp2_with fail
  refine (HT.out _).mono ?_; rintro e w' ⟨rfl, hb⟩; have B1 := Lib.hid hb; clear hb
  go_wp2_with fail
  refine (HQ.out _).mono ?_; rintro e w' ⟨rfl, rfl⟩
  go_wp2_with fail
  refine (HU.out _).mono ?_; rintro e w' ⟨rfl, hb⟩; have B2 := Lib.hid hb; clear hb
  go_wp2_with fail
  refine (Fx.awake_yes _).mono ?_; rintro e w' ⟨rfl, hb⟩; have B3 := Lib.hid hb; clear hb
  go_wp2_with fail
  go_ret
  exact ⟨rfl, Fx.bel_trans (Fx.bel_trans B1.out B2.out) B3.out⟩
theorem back_out_bad (a : Int)  (s t : ByteArray) (w : World) (E : Int) (hE : (E == 0) = false) (G : Int) (hG : (G != 0) = true) (HT : Hid (∀ w, Calls Try.prog 41 #[.int .i64 a] w fun e w' => e = .returned (.tuple #[.string t, .int .i64 E]) ∧ Below w.heap.size w w')) (HQ : Hid (∀ w, Calls Try.prog 43 #[.string s] w fun e w' => e = .returned (.tuple #[.int .i64 0, .int .i64 G]) ∧ w = w')) :
    Calls Try.prog 8 #[.int .i64 a, .string s] w fun e w' => e = .returned (.bool true) ∧ Below w.heap.size w w' := by
  go_enter Try.func8, Try.ntmps8
  go_wp2_with fail
  refine (HT.out _).mono ?_; rintro e w' ⟨rfl, hb⟩; have B1 := Lib.hid hb; clear hb
  go_wp2_with fail
  refine (HQ.out _).mono ?_; rintro e w' ⟨rfl, rfl⟩
  go_wp2_with fail
  refine (Fx.awake_yes _).mono ?_; rintro e w' ⟨rfl, hb⟩; have B3 := Lib.hid hb; clear hb
  go_wp2_with fail
  go_ret
  exact ⟨rfl, Fx.bel_trans B1.out B3.out⟩
theorem str_eq (s : ByteArray) : (⟨s.data.toList.toArray⟩ : ByteArray) = s := by simp
theorem text_size {a : Int} (h : Fx.inB a = true) : (⟨(Fx.textL a).toArray⟩ : ByteArray).size ≤ maxLen := by
  have l := Fx.decL_len a.natAbs
  have d := Fx.nd_fix (Fx.abs_in h)
  have e : (⟨(Fx.textL a).toArray⟩ : ByteArray).size = (Fx.textL a).length := by rw [← Fx.len_of]
  rw [e]
  unfold maxLen Fx.textL
  split
  · rw [List.length_cons]; omega
  · omega

theorem walk (a0 : Int) (a1 : ByteArray) (w : World) (w0 : (Lit.int .i64 a0).wf = true) (w1 : a1.size ≤ maxLen) :
    Calls Try.prog 8 #[.int .i64 a0, .string a1] w fun e w' => e = .returned (.bool true) ∧ Below w.heap.size w w' := by
  have hT := fun w => Fx.text_fix a0 w
  have hQ := fun w => Fx.parse_fix a1 w w1
  by_cases hg : Fx.parE a1.data.toList = 0
  · obtain ⟨hi, ht⟩ := Fx.parE_ok hg
    have hU := fun w => Fx.text_fix (Fx.parV a1.data.toList) w
    have u1 : Fx.textR (Fx.parV a1.data.toList) = a1.data.toList := by unfold Fx.textR; rw [if_pos hi, ht]
    have u2 : Fx.textE (Fx.parV a1.data.toList) = 0 := by unfold Fx.textE; rw [if_pos hi]
    rw [u1, u2, str_eq] at hU
    rw [hg] at hQ
    cases ha : Fx.inB a0
    · have t2 : Fx.textE a0 = 1 := by unfold Fx.textE; rw [if_neg (by simp [ha])]
      rw [t2] at hT
      exact back_out_ok a0 _ a1 _ w 1 rfl (Lib.hid hT) (Lib.hid hQ) (Lib.hid hU)
    · have t1 : Fx.textR a0 = Fx.textL a0 := by unfold Fx.textR; rw [if_pos ha]
      have t2 : Fx.textE a0 = 0 := by unfold Fx.textE; rw [if_pos ha]
      rw [t1, t2] at hT
      have hP := fun w => Fx.parse_fix ⟨(Fx.textL a0).toArray⟩ w (text_size ha)
      rw [show (⟨(Fx.textL a0).toArray⟩ : ByteArray).data.toList = Fx.textL a0 from rfl, (Fx.par_text ha).1, (Fx.par_text ha).2] at hP
      exact back_in_ok a0 _ a1 _ w (Lib.hid hT) (Lib.hid hP) (Lib.hid hQ) (Lib.hid hU)
  · rw [Fx.parV_err hg] at hQ
    cases ha : Fx.inB a0
    · have t2 : Fx.textE a0 = 1 := by unfold Fx.textE; rw [if_neg (by simp [ha])]
      rw [t2] at hT
      exact back_out_bad a0 a1 _ w 1 rfl _ (by rw [bne_iff_ne]; exact hg) (Lib.hid hT) (Lib.hid hQ)
    · have t1 : Fx.textR a0 = Fx.textL a0 := by unfold Fx.textR; rw [if_pos ha]
      have t2 : Fx.textE a0 = 0 := by unfold Fx.textE; rw [if_pos ha]
      rw [t1, t2] at hT
      have hP := fun w => Fx.parse_fix ⟨(Fx.textL a0).toArray⟩ w (text_size ha)
      rw [show (⟨(Fx.textL a0).toArray⟩ : ByteArray).data.toList = Fx.textL a0 from rfl, (Fx.par_text ha).1, (Fx.par_text ha).2] at hP
      exact back_in_bad a0 a1 _ w _ (by rw [bne_iff_ne]; exact hg) (Lib.hid hT) (Lib.hid hP) (Lib.hid hQ)
set_option maxRecDepth 100000 in
theorem lifted (os : Os) (started : os.Started) (H : Type) (enc : TypeId × Value → H) :
    ReturnsInHanded {} Try.checked os 8 .any (Rows.fixBackSpec.pre6 enc Try.prog Try.f8 Rows.fixBackRow.domain false) (Rows.fixBackSpec.post enc Try.prog Try.f8 false true false false) := by
  refine returnsInHanded_of_change (C := Try.checked) own started (by kernel_rfl) Try.func8
    (ChangeSpec.witness6 (enc := enc) (C := Try.checked) false ⟨#[], #[.int .i64 0, .string ByteArray.empty], []⟩ 8 (by kernel_rfl) (by kernel_rfl) (by kernel_rfl) (by kernel_rfl)) ?_
  intro W base args ds gs before hval0 hW hcnd _
  have hval : ∀ (j : Nat) t v, Try.f8.params[j]? = some t → args[j]? = some v → Value.okWide Try.prog W .any base t v := hval0
  have hW' := hW
  obtain ⟨p, q, hA0, hV, rfl, hfz, hnd⟩ := hW
  have hA : DataW.TrodAll enc Try.prog W 0 (fun _ => true) true Try.f8.params.toList args.toList ds p := hA0
  rw [Try.params8] at hA hval
  obtain ⟨v0, vs0, d0, ds0, p0, q0, hargs, rfl, rfl, h0, r0⟩ := trodAll_cons hA
  obtain ⟨v1, vs1, d1, ds1, p1, q1, rfl, rfl, rfl, h1, r1⟩ := trodAll_cons r0
  obtain ⟨rfl, rfl, rfl⟩ := trodAll_nil r1
  obtain rfl : args = #[v0, v1] := by cases args; simp_all
  obtain ⟨rfl, rfl⟩ := trodVars_none hV
  obtain ⟨a0, rfl, rfl, rfl, w0⟩ := open_int Try.underlying2 (hval 0 2 v0 rfl rfl) h0
  obtain ⟨a1, rfl, rfl, rfl, w1⟩ := open_string Try.underlying9 (hval 1 9 v1 rfl rfl) h1
  clear hA0 hval0
  refine (walk a0 a1 W w0 w1).mono fun e W' ⟨he, bel⟩ => ?_
  subst he
  exact ⟨_, rfl, _, _, _, [], _, [], hW', trodAll_mk1 (shut_bool Try.underlying4 _), (trodAll_cons_mk (shut_int Try.underlying2 w0) (trodAll_cons_mk (shut_string Try.underlying9 w1) trodAll_mk0)), rfl, bel.frame _, fun h => by cases h⟩

theorem over : Rows.fixBackRow.holds Try.pinned (OpenSpec.ofChange Rows.fixBackSpec) :=
  OpenClaim.holds_of_wide 8 Try.f8 rfl rfl rfl rfl rfl rfl rfl ⟨rfl, rfl, rfl, rfl, rfl⟩ rfl rfl rfl rfl rfl (by kernel_rfl) Try.func8 (by kernel_rfl)
    (of_decide_eq_true (by kernel_rfl)) (by unfold Func.isWrapper; first | (rw [if_pos (by decide +kernel)]; kernel_rfl) | (rw [if_neg (by decide +kernel)]; exact ⟨rfl, rfl⟩))
    (fun os started H enc _ => lifted os started H enc)

theorem proved : Rows.FixBackSaid := over
#print axioms proved
end Go.Proofs.Ytlaajhdffgjamaa.fixBack
