/- The run that begins at a place: the document's function (layer 3). -/
import Derived.Test.YteddfdhbpgbloaaLexRef3
namespace Go.Proofs.Yteddfdhbpgbloaa.Lx
open Go.ChangeShapes Go.WideShapes Go.ChangeAt Go.RowKit
set_option linter.unusedVariables false

/-- What the document's functions for one word answer: the word, or what is wrong. -/
def RefP (R : Sc) (a : Nat) (w : World) (e : Ending) (w' : World) : Prop :=
  ∃ (k b z n : Int) (S : Bs), e = .returned (.tuple #[tokV k b z n S, .int .i64 R.e]) ∧ (R.e = 0 → tokV k b z n S = tokV R.k a ((a + R.z : Nat) : Int) R.n R.S) ∧ Below w.heap.size w w'
theorem RefP.good {R : Sc} {a : Nat} {w w' : World} {k z n : Int} {S : Bs} (hb : Below w.heap.size w w') (hk : R.e = 0) (h1 : R.k = k) (h2 : ((a + R.z : Nat) : Int) = z) (h3 : R.n = n) (h4 : R.S = S) : RefP R a w (.returned (.tuple #[tokV k a z n S, .int .i64 0])) w' :=
  ⟨k, a, z, n, S, by rw [hk], fun _ => by rw [h1, h2, h3, h4], hb⟩
theorem RefP.bad {R : Sc} {a : Nat} {w w' : World} {e k b z n : Int} {S : Bs} (hb : Below w.heap.size w w') (hk : R.e = e) (h0 : e ≠ 0) : RefP R a w (.returned (.tuple #[tokV k b z n S, .int .i64 e])) w' :=
  ⟨k, b, z, n, S, by rw [hk], fun h => absurd (hk.symm.trans h) h0, hb⟩
theorem endB_at (s : ByteArray) (k : Nat) (h : k < s.size) : endB (s.data.toList.drop k) = delimB s[k] := by rw [drop_at s k h]; rfl
def RRunAt (s : ByteArray) (T : Nat) (i : Value) : Prop := ∃ k : Nat, k ≤ s.size ∧ i = .int .i64 (k : Int) ∧ T = k + ((s.data.toList.drop k).takeWhile (fun x => !delimB x)).length
theorem runN_all (s : ByteArray) (a : Nat) (h : a < s.size) (hd : delimB s[a] = false) : runN (s.data.toList.drop a) = ((s.data.toList.drop a).takeWhile (fun x => !delimB x)).length := by
  rw [drop_at s a h]
  show 1 + _ = _
  rw [List.takeWhile_cons, if_pos (by rw [hd]; rfl), List.length_cons]
  omega
theorem runSc_eq (l u : Bs) (M : Mean) (hu : l.take (runN l) = u) (hM : meanR u = M) : runSc l = if M.e = 0 then ⟨M.k, M.n, M.S, runN l, 0⟩ else bad M.e := by unfold runSc; rw [hu, hM]
set_option maxRecDepth 100000 in
set_option maxHeartbeats 8000000 in
theorem rrun_any (s : ByteArray) (a : Nat) (w : World) (hs : s.size < 1000000) (ha : a < s.size) (hd : delimB s[a] = false) :
    Calls Try.prog 95 #[.string s, .int .i64 (a : Int)] w (RefP (runSc (s.data.toList.drop a)) a w) := by
  have hrn := runN_all s a ha hd
  obtain ⟨T, hT⟩ : ∃ T, a + ((s.data.toList.drop a).takeWhile (fun x => !delimB x)).length = T := ⟨_, rfl⟩
  have hpos : 1 ≤ runN (s.data.toList.drop a) := by rw [drop_at s a ha]; show 1 ≤ 1 + _; omega
  have hle : runN (s.data.toList.drop a) ≤ s.size - a := by
    rw [hrn]
    have := (List.takeWhile_prefix (l := s.data.toList.drop a) (fun x => !delimB x)).length_le
    rwa [List.length_drop, len_of] at this
  have hTa : a + runN (s.data.toList.drop a) = T := by rw [hrn]; exact hT
  have hTb : a < T ∧ T ≤ s.size := by omega
  have hu : (s.extract a T).data.toList = (s.data.toList.drop a).take (runN (s.data.toList.drop a)) := by rw [Lib.extract_data]; congr 1; omega
  have huz : (s.extract a T).size = T - a := by rw [← len_of, hu, List.length_take, List.length_drop, len_of]; omega
  have hr := run_sub s a T (by omega) (by omega) (by omega)
  simp only [Int.toNat_natCast] at hr
  generalize s.extract a T = u at *
  obtain ⟨M, hM⟩ : ∃ M, meanR u.data.toList = M := ⟨_, rfl⟩
  have hR := runSc_eq _ _ M hu.symm hM
  rw [hR]
  have HTa := Lib.hid (show T = a + runN (s.data.toList.drop a) from hTa.symm)
  generalize runN (s.data.toList.drop a) = z at *
  obtain ⟨RS, hRS⟩ : ∃ RS, (if M.e = 0 then (⟨M.k, M.n, M.S, z, 0⟩ : Sc) else bad M.e) = RS := ⟨_, rfl⟩
  rw [hRS]
  have HRS := Lib.hid hRS
  clear hRS
  have hmr : meanR u.data.toList = if (u.toList == [46]) = true then ⟨8, 0, [], 0⟩ else if (u.toList == [35, 102]) = true then ⟨10, 0, [], 0⟩ else if (u.toList == [35, 116]) = true then ⟨10, 1, [], 0⟩
    else if numB u.data.toList = true then ⟨9, Fx.parV u.data.toList, [], if (Fx.parE u.data.toList == 5) = true then 30 else Fx.parE u.data.toList⟩
    else if Da.symB u = true then ⟨13, 0, u.data.toList, 0⟩ else ⟨0, 0, [], 30⟩ := by rw [ByteArray.toList_eq, symL_eq]; rfl
  rw [hM] at hmr
  have HMR := Lib.hid hmr
  have HT := Lib.hid hT
  have hu0 : 0 < u.size := by omega
  have hum : u.size ≤ maxLen := by simp only [maxLen]; omega
  have HU := Lib.hid (And.intro hu0 hum)
  clear hrn hT hmr hM hR hu hd hpos hle hTa huz hum
  go_enter Try.func95, Try.ntmps95
  go_wp2_with fail
  go_loop [6] (fun i => RRunAt s T i) (fun i => s.size - (intOf i).toNat)
  case atStart => exact ⟨a, Nat.le_of_lt ha, rfl, HT.out.symm⟩
  case round =>
    clear HT
    obtain ⟨k, hk, rfl, hl⟩ := hrel
    have HL := Lib.hid hl
    clear hl
    by_cases hgo : k < s.size ∧ endB (s.data.toList.drop k) = false
    · have hlt := hgo.1
      have he := Lib.hid hgo.2
      clear hgo
      have hn : T = k + 1 + ((s.data.toList.drop (k + 1)).takeWhile (fun x => !delimB x)).length := by
        have h1 := HL.out
        rw [drop_at s k hlt, List.takeWhile_cons, if_pos (by rw [← endB_at s k hlt, he.out]; rfl), List.length_cons] at h1
        omega
      have HN := Lib.hid hn
      clear hn
      go_wp2_with (go_at_call 126; refine (rmark_any s k _ (by simp only [maxLen]; omega)).mono ?_; rintro e w' ⟨rfl, rfl⟩; rw [he.out])
      go_round
      case rel => exact ⟨k + 1, by omega, by go_num, HN.out⟩
      case measure => simp [intOf]; omega
    · have he : Hid (endB (s.data.toList.drop k) = true) := by
        show _ = true
        by_cases hlt : k < s.size
        · cases h : endB (s.data.toList.drop k)
          · exact absurd ⟨hlt, h⟩ hgo
          · rfl
        · rw [drop_none s k (by omega)]; rfl
      have hTk : T = k := by
        rw [HL.out]
        by_cases hlt : k < s.size
        · have := he.out
          rw [endB_at s k hlt] at this
          rw [drop_at s k hlt, List.takeWhile_cons, if_neg (by rw [this]; decide)]
          rfl
        · rw [drop_none s k (by omega)]; rfl
      subst hTk
      clear hgo HL hk
      have hM0 := HMR.out
      clear HMR
      cases a1 : u.toList == [46]
      case true =>
        rw [a1, if_pos rfl] at hM0
        subst hM0
        obtain rfl := (if_pos rfl).symm.trans HRS.out
        clear HRS
        have a2 : (u.toList == [35, 102]) = false := by rw [beq_iff_eq.1 a1]; decide
        have a3 : (u.toList == [35, 116]) = false := by rw [beq_iff_eq.1 a1]; decide
        go_wp2_with (first | (go_at_call 126; refine (rmark_any s T _ (by simp only [maxLen]; omega)).mono ?_; rintro e w' ⟨rfl, rfl⟩; rw [he.out]))
        refine bodyPost_ret (v := .tuple #[tokV 8 a (T : Int) 0 [], .int .i64 0]) ?_ rfl ?_
        · simp [results, Try.results95, go_sem, tokV]
        · exact RefP.good (((Below.refl _ _).alloc (Nat.le_refl _) _).alloc (by simp) _) rfl rfl (by show ((a + z : Nat) : Int) = _; rw [HTa.out]) rfl rfl
      rw [a1, if_neg (by decide)] at hM0
      cases a2 : u.toList == [35, 102]
      case true =>
        rw [a2, if_pos rfl] at hM0
        subst hM0
        obtain rfl := (if_pos rfl).symm.trans HRS.out
        clear HRS
        have a3 : (u.toList == [35, 116]) = false := by rw [beq_iff_eq.1 a2]; decide
        go_wp2_with (first | (go_at_call 126; refine (rmark_any s T _ (by simp only [maxLen]; omega)).mono ?_; rintro e w' ⟨rfl, rfl⟩; rw [he.out]))
        refine bodyPost_ret (v := .tuple #[tokV 10 a (T : Int) 0 [], .int .i64 0]) ?_ rfl ?_
        · simp [results, Try.results95, go_sem, tokV]
        · exact RefP.good (((Below.refl _ _).alloc (Nat.le_refl _) _).alloc (by simp) _) rfl rfl (by show ((a + z : Nat) : Int) = _; rw [HTa.out]) rfl rfl
      rw [a2, if_neg (by decide)] at hM0
      cases a3 : u.toList == [35, 116]
      case true =>
        rw [a3, if_pos rfl] at hM0
        subst hM0
        obtain rfl := (if_pos rfl).symm.trans HRS.out
        clear HRS
        go_wp2_with (first | (go_at_call 126; refine (rmark_any s T _ (by simp only [maxLen]; omega)).mono ?_; rintro e w' ⟨rfl, rfl⟩; rw [he.out]))
        refine bodyPost_ret (v := .tuple #[tokV 10 a (T : Int) 1 [], .int .i64 0]) ?_ rfl ?_
        · simp [results, Try.results95, go_sem, tokV]
        · exact RefP.good (((Below.refl _ _).alloc (Nat.le_refl _) _).alloc (by simp) _) rfl rfl (by show ((a + z : Nat) : Int) = _; rw [HTa.out]) rfl rfl
      rw [a3, if_neg (by decide)] at hM0
      have i0 : 0 < u.size := HU.out.1
      have hd0 := drop_at u 0 i0
      rw [List.drop_zero] at hd0
      obtain ⟨b0, hb0⟩ : ∃ b, digitB u[0] = b := ⟨_, rfl⟩
      have HD0 := Lib.hid hb0
      have HM0 := Lib.hid hM0
      clear hM0
      cases b0
      · by_cases h1 : 1 < u.size
        · have d1 : decide ((u.size : Int) > 1) = true := decide_eq_true (by omega)
          have g1 : (1 : Int) < (u.size : Int) := by omega
          have hd1 := drop_at u 1 h1
          rw [hd1] at hd0
          obtain ⟨b1, hb1⟩ : ∃ b, digitB u[1] = b := ⟨_, rfl⟩
          have HD1 := Lib.hid hb1
          have hn : numB u.data.toList = if ((u[0].toNat : Int) == 45) || ((u[0].toNat : Int) == 43) then digitB u[1] else digitB u[0] := by rw [hd0]; rfl
          rw [hb1, hb0] at hn
          clear hb1 hd1
          cases c1 : (u[0].toNat : Int) == 45
          · cases c2 : (u[0].toNat : Int) == 43
            · have hn2 : numB u.data.toList = false := by rw [hn, c1, c2]; rfl
              clear hn
              have hM1 := HM0.out
              rw [if_neg (by rw [hn2]; decide)] at hM1
              obtain ⟨sb, hsb⟩ : ∃ x, Da.symB u = x := ⟨_, rfl⟩
              rw [hsb] at hM1
              have HS := Lib.hid hsb
              clear hn2 hsb hd0 hb0 HM0
              cases sb
              · rw [if_neg (by decide)] at hM1
                subst hM1
                obtain rfl := (if_neg (show (30 : Int) ≠ 0 by decide)).symm.trans HRS.out
                clear HRS
                go_wp2_with (first | (go_at_call 126; refine (rmark_any s T _ (by simp only [maxLen]; omega)).mono ?_; rintro e w' ⟨rfl, rfl⟩; rw [he.out]) | (go_at_call 124; (with_reducible refine (rdigit_any u[0] _).mono ?_); rintro e w' ⟨rfl, rfl⟩; rw [HD0.out]) | (go_at_call 128; refine (Da.rsymbol_any u _ HU.out.2).mono ?_; rintro e w' ⟨rfl, rfl⟩; rw [HS.out]))
                refine bodyPost_ret (v := .tuple #[tokV 0 a (T : Int) 0 [], .int .i64 30]) ?_ rfl ?_
                · simp [results, Try.results95, go_sem, tokV]
                · exact RefP.bad (((Below.refl _ _).alloc (Nat.le_refl _) _).alloc (by simp) _) rfl (by decide)
              · rw [if_pos rfl] at hM1
                subst hM1
                obtain rfl := (if_pos rfl).symm.trans HRS.out
                clear HRS
                go_wp2_with (first | (go_at_call 126; refine (rmark_any s T _ (by simp only [maxLen]; omega)).mono ?_; rintro e w' ⟨rfl, rfl⟩; rw [he.out]) | (go_at_call 124; (with_reducible refine (rdigit_any u[0] _).mono ?_); rintro e w' ⟨rfl, rfl⟩; rw [HD0.out]) | (go_at_call 128; refine (Da.rsymbol_any u _ HU.out.2).mono ?_; rintro e w' ⟨rfl, rfl⟩; rw [HS.out]))
                refine bodyPost_ret (v := .tuple #[tokV 13 a (T : Int) 0 u.data.toList, .int .i64 0]) ?_ rfl ?_
                · simp [results, Try.results95, go_sem, tokV]
                · exact RefP.good (((Below.refl _ _).alloc (Nat.le_refl _) _).alloc (by simp) _) rfl rfl (by show ((a + z : Nat) : Int) = _; rw [HTa.out]) rfl rfl
            · have hn2 : numB u.data.toList = b1 := by rw [hn, c1, c2]; rfl
              clear hn
              cases b1
              · have hM1 := HM0.out
                rw [if_neg (by rw [hn2]; decide)] at hM1
                obtain ⟨sb, hsb⟩ : ∃ x, Da.symB u = x := ⟨_, rfl⟩
                rw [hsb] at hM1
                have HS := Lib.hid hsb
                clear hn2 hsb hd0 hb0 HM0
                cases sb
                · rw [if_neg (by decide)] at hM1
                  subst hM1
                  obtain rfl := (if_neg (show (30 : Int) ≠ 0 by decide)).symm.trans HRS.out
                  clear HRS
                  go_wp2_with (first | (go_at_call 126; refine (rmark_any s T _ (by simp only [maxLen]; omega)).mono ?_; rintro e w' ⟨rfl, rfl⟩; rw [he.out]) | (go_at_call 124; (with_reducible refine (rdigit_any u[0] _).mono ?_); rintro e w' ⟨rfl, rfl⟩; rw [HD0.out]) | (go_at_call 124; (with_reducible refine (rdigit_any u[1] _).mono ?_); rintro e w' ⟨rfl, rfl⟩; rw [HD1.out]) | (go_at_call 128; refine (Da.rsymbol_any u _ HU.out.2).mono ?_; rintro e w' ⟨rfl, rfl⟩; rw [HS.out]))
                  refine bodyPost_ret (v := .tuple #[tokV 0 a (T : Int) 0 [], .int .i64 30]) ?_ rfl ?_
                  · simp [results, Try.results95, go_sem, tokV]
                  · exact RefP.bad (((Below.refl _ _).alloc (Nat.le_refl _) _).alloc (by simp) _) rfl (by decide)
                · rw [if_pos rfl] at hM1
                  subst hM1
                  obtain rfl := (if_pos rfl).symm.trans HRS.out
                  clear HRS
                  go_wp2_with (first | (go_at_call 126; refine (rmark_any s T _ (by simp only [maxLen]; omega)).mono ?_; rintro e w' ⟨rfl, rfl⟩; rw [he.out]) | (go_at_call 124; (with_reducible refine (rdigit_any u[0] _).mono ?_); rintro e w' ⟨rfl, rfl⟩; rw [HD0.out]) | (go_at_call 124; (with_reducible refine (rdigit_any u[1] _).mono ?_); rintro e w' ⟨rfl, rfl⟩; rw [HD1.out]) | (go_at_call 128; refine (Da.rsymbol_any u _ HU.out.2).mono ?_; rintro e w' ⟨rfl, rfl⟩; rw [HS.out]))
                  refine bodyPost_ret (v := .tuple #[tokV 13 a (T : Int) 0 u.data.toList, .int .i64 0]) ?_ rfl ?_
                  · simp [results, Try.results95, go_sem, tokV]
                  · exact RefP.good (((Below.refl _ _).alloc (Nat.le_refl _) _).alloc (by simp) _) rfl rfl (by show ((a + z : Nat) : Int) = _; rw [HTa.out]) rfl rfl
              · have hM1 := HM0.out
                rw [if_pos hn2] at hM1
                obtain ⟨pv, hpv⟩ : ∃ x, Fx.parV u.data.toList = x := ⟨_, rfl⟩
                obtain ⟨pe, hpe⟩ : ∃ x, Fx.parE u.data.toList = x := ⟨_, rfl⟩
                rw [hpv, hpe] at hM1
                have HPV := Lib.hid hpv
                have HPE := Lib.hid hpe
                clear hn2 hpv hpe hd0 hb0 HM0
                cases d5 : pe == 5
                · rw [d5, if_neg (by decide)] at hM1
                  subst hM1
                  by_cases h0 : pe = 0
                  · subst h0
                    obtain rfl := (if_pos rfl).symm.trans HRS.out
                    clear HRS
                    go_wp2_with (first | (go_at_call 126; refine (rmark_any s T _ (by simp only [maxLen]; omega)).mono ?_; rintro e w' ⟨rfl, rfl⟩; rw [he.out]) | (go_at_call 124; (with_reducible refine (rdigit_any u[0] _).mono ?_); rintro e w' ⟨rfl, rfl⟩; rw [HD0.out]) | (go_at_call 124; (with_reducible refine (rdigit_any u[1] _).mono ?_); rintro e w' ⟨rfl, rfl⟩; rw [HD1.out]) | (go_at_call 127; refine (Fx.parse_ref u _ HU.out.2).mono ?_; rintro e w' ⟨rfl, rfl⟩; rw [HPV.out, HPE.out]))
                    refine bodyPost_ret (v := .tuple #[tokV 9 a (T : Int) pv [], .int .i64 0]) ?_ rfl ?_
                    · simp [results, Try.results95, go_sem, tokV]
                    · exact RefP.good (((Below.refl _ _).alloc (Nat.le_refl _) _).alloc (by simp) _) rfl rfl (by show ((a + z : Nat) : Int) = _; rw [HTa.out]) rfl rfl
                  · obtain rfl := (if_neg h0).symm.trans HRS.out
                    have H0 := Lib.hid h0
                    clear HRS h0
                    go_wp2_with (first | (go_at_call 126; refine (rmark_any s T _ (by simp only [maxLen]; omega)).mono ?_; rintro e w' ⟨rfl, rfl⟩; rw [he.out]) | (go_at_call 124; (with_reducible refine (rdigit_any u[0] _).mono ?_); rintro e w' ⟨rfl, rfl⟩; rw [HD0.out]) | (go_at_call 124; (with_reducible refine (rdigit_any u[1] _).mono ?_); rintro e w' ⟨rfl, rfl⟩; rw [HD1.out]) | (go_at_call 127; refine (Fx.parse_ref u _ HU.out.2).mono ?_; rintro e w' ⟨rfl, rfl⟩; rw [HPV.out, HPE.out]))
                    refine bodyPost_ret (v := .tuple #[tokV 9 a (T : Int) pv [], .int .i64 pe]) ?_ rfl ?_
                    · simp [results, Try.results95, go_sem, tokV]
                    · exact RefP.bad (((Below.refl _ _).alloc (Nat.le_refl _) _).alloc (by simp) _) rfl H0.out
                · rw [d5, if_pos rfl] at hM1
                  subst hM1
                  obtain rfl := (if_neg (show (30 : Int) ≠ 0 by decide)).symm.trans HRS.out
                  clear HRS
                  go_wp2_with (first | (go_at_call 126; refine (rmark_any s T _ (by simp only [maxLen]; omega)).mono ?_; rintro e w' ⟨rfl, rfl⟩; rw [he.out]) | (go_at_call 124; (with_reducible refine (rdigit_any u[0] _).mono ?_); rintro e w' ⟨rfl, rfl⟩; rw [HD0.out]) | (go_at_call 124; (with_reducible refine (rdigit_any u[1] _).mono ?_); rintro e w' ⟨rfl, rfl⟩; rw [HD1.out]) | (go_at_call 127; refine (Fx.parse_ref u _ HU.out.2).mono ?_; rintro e w' ⟨rfl, rfl⟩; rw [HPV.out, HPE.out]))
                  refine bodyPost_ret (v := .tuple #[tokV 9 a (T : Int) pv [], .int .i64 30]) ?_ rfl ?_
                  · simp [results, Try.results95, go_sem, tokV]
                  · exact RefP.bad (((Below.refl _ _).alloc (Nat.le_refl _) _).alloc (by simp) _) rfl (by decide)
          · have hn2 : numB u.data.toList = b1 := by rw [hn, c1]; rfl
            clear hn
            cases b1
            · have hM1 := HM0.out
              rw [if_neg (by rw [hn2]; decide)] at hM1
              obtain ⟨sb, hsb⟩ : ∃ x, Da.symB u = x := ⟨_, rfl⟩
              rw [hsb] at hM1
              have HS := Lib.hid hsb
              clear hn2 hsb hd0 hb0 HM0
              cases sb
              · rw [if_neg (by decide)] at hM1
                subst hM1
                obtain rfl := (if_neg (show (30 : Int) ≠ 0 by decide)).symm.trans HRS.out
                clear HRS
                go_wp2_with (first | (go_at_call 126; refine (rmark_any s T _ (by simp only [maxLen]; omega)).mono ?_; rintro e w' ⟨rfl, rfl⟩; rw [he.out]) | (go_at_call 124; (with_reducible refine (rdigit_any u[0] _).mono ?_); rintro e w' ⟨rfl, rfl⟩; rw [HD0.out]) | (go_at_call 124; (with_reducible refine (rdigit_any u[1] _).mono ?_); rintro e w' ⟨rfl, rfl⟩; rw [HD1.out]) | (go_at_call 128; refine (Da.rsymbol_any u _ HU.out.2).mono ?_; rintro e w' ⟨rfl, rfl⟩; rw [HS.out]))
                refine bodyPost_ret (v := .tuple #[tokV 0 a (T : Int) 0 [], .int .i64 30]) ?_ rfl ?_
                · simp [results, Try.results95, go_sem, tokV]
                · exact RefP.bad (((Below.refl _ _).alloc (Nat.le_refl _) _).alloc (by simp) _) rfl (by decide)
              · rw [if_pos rfl] at hM1
                subst hM1
                obtain rfl := (if_pos rfl).symm.trans HRS.out
                clear HRS
                go_wp2_with (first | (go_at_call 126; refine (rmark_any s T _ (by simp only [maxLen]; omega)).mono ?_; rintro e w' ⟨rfl, rfl⟩; rw [he.out]) | (go_at_call 124; (with_reducible refine (rdigit_any u[0] _).mono ?_); rintro e w' ⟨rfl, rfl⟩; rw [HD0.out]) | (go_at_call 124; (with_reducible refine (rdigit_any u[1] _).mono ?_); rintro e w' ⟨rfl, rfl⟩; rw [HD1.out]) | (go_at_call 128; refine (Da.rsymbol_any u _ HU.out.2).mono ?_; rintro e w' ⟨rfl, rfl⟩; rw [HS.out]))
                refine bodyPost_ret (v := .tuple #[tokV 13 a (T : Int) 0 u.data.toList, .int .i64 0]) ?_ rfl ?_
                · simp [results, Try.results95, go_sem, tokV]
                · exact RefP.good (((Below.refl _ _).alloc (Nat.le_refl _) _).alloc (by simp) _) rfl rfl (by show ((a + z : Nat) : Int) = _; rw [HTa.out]) rfl rfl
            · have hM1 := HM0.out
              rw [if_pos hn2] at hM1
              obtain ⟨pv, hpv⟩ : ∃ x, Fx.parV u.data.toList = x := ⟨_, rfl⟩
              obtain ⟨pe, hpe⟩ : ∃ x, Fx.parE u.data.toList = x := ⟨_, rfl⟩
              rw [hpv, hpe] at hM1
              have HPV := Lib.hid hpv
              have HPE := Lib.hid hpe
              clear hn2 hpv hpe hd0 hb0 HM0
              cases d5 : pe == 5
              · rw [d5, if_neg (by decide)] at hM1
                subst hM1
                by_cases h0 : pe = 0
                · subst h0
                  obtain rfl := (if_pos rfl).symm.trans HRS.out
                  clear HRS
                  go_wp2_with (first | (go_at_call 126; refine (rmark_any s T _ (by simp only [maxLen]; omega)).mono ?_; rintro e w' ⟨rfl, rfl⟩; rw [he.out]) | (go_at_call 124; (with_reducible refine (rdigit_any u[0] _).mono ?_); rintro e w' ⟨rfl, rfl⟩; rw [HD0.out]) | (go_at_call 124; (with_reducible refine (rdigit_any u[1] _).mono ?_); rintro e w' ⟨rfl, rfl⟩; rw [HD1.out]) | (go_at_call 127; refine (Fx.parse_ref u _ HU.out.2).mono ?_; rintro e w' ⟨rfl, rfl⟩; rw [HPV.out, HPE.out]))
                  refine bodyPost_ret (v := .tuple #[tokV 9 a (T : Int) pv [], .int .i64 0]) ?_ rfl ?_
                  · simp [results, Try.results95, go_sem, tokV]
                  · exact RefP.good (((Below.refl _ _).alloc (Nat.le_refl _) _).alloc (by simp) _) rfl rfl (by show ((a + z : Nat) : Int) = _; rw [HTa.out]) rfl rfl
                · obtain rfl := (if_neg h0).symm.trans HRS.out
                  have H0 := Lib.hid h0
                  clear HRS h0
                  go_wp2_with (first | (go_at_call 126; refine (rmark_any s T _ (by simp only [maxLen]; omega)).mono ?_; rintro e w' ⟨rfl, rfl⟩; rw [he.out]) | (go_at_call 124; (with_reducible refine (rdigit_any u[0] _).mono ?_); rintro e w' ⟨rfl, rfl⟩; rw [HD0.out]) | (go_at_call 124; (with_reducible refine (rdigit_any u[1] _).mono ?_); rintro e w' ⟨rfl, rfl⟩; rw [HD1.out]) | (go_at_call 127; refine (Fx.parse_ref u _ HU.out.2).mono ?_; rintro e w' ⟨rfl, rfl⟩; rw [HPV.out, HPE.out]))
                  refine bodyPost_ret (v := .tuple #[tokV 9 a (T : Int) pv [], .int .i64 pe]) ?_ rfl ?_
                  · simp [results, Try.results95, go_sem, tokV]
                  · exact RefP.bad (((Below.refl _ _).alloc (Nat.le_refl _) _).alloc (by simp) _) rfl H0.out
              · rw [d5, if_pos rfl] at hM1
                subst hM1
                obtain rfl := (if_neg (show (30 : Int) ≠ 0 by decide)).symm.trans HRS.out
                clear HRS
                go_wp2_with (first | (go_at_call 126; refine (rmark_any s T _ (by simp only [maxLen]; omega)).mono ?_; rintro e w' ⟨rfl, rfl⟩; rw [he.out]) | (go_at_call 124; (with_reducible refine (rdigit_any u[0] _).mono ?_); rintro e w' ⟨rfl, rfl⟩; rw [HD0.out]) | (go_at_call 124; (with_reducible refine (rdigit_any u[1] _).mono ?_); rintro e w' ⟨rfl, rfl⟩; rw [HD1.out]) | (go_at_call 127; refine (Fx.parse_ref u _ HU.out.2).mono ?_; rintro e w' ⟨rfl, rfl⟩; rw [HPV.out, HPE.out]))
                refine bodyPost_ret (v := .tuple #[tokV 9 a (T : Int) pv [], .int .i64 30]) ?_ rfl ?_
                · simp [results, Try.results95, go_sem, tokV]
                · exact RefP.bad (((Below.refl _ _).alloc (Nat.le_refl _) _).alloc (by simp) _) rfl (by decide)
        · have d1 : decide ((u.size : Int) > 1) = false := decide_eq_false (by omega)
          have g1 : ¬ (u.size : Int) > 1 := by omega
          have hn2 : numB u.data.toList = false := by rw [hd0, drop_none u 1 (by omega)]; exact hb0
          have hM1 := HM0.out
          rw [if_neg (by rw [hn2]; decide)] at hM1
          obtain ⟨sb, hsb⟩ : ∃ x, Da.symB u = x := ⟨_, rfl⟩
          rw [hsb] at hM1
          have HS := Lib.hid hsb
          clear hn2 hsb hd0 hb0 HM0
          cases sb
          · rw [if_neg (by decide)] at hM1
            subst hM1
            obtain rfl := (if_neg (show (30 : Int) ≠ 0 by decide)).symm.trans HRS.out
            clear HRS
            go_wp2_with (first | (go_at_call 126; refine (rmark_any s T _ (by simp only [maxLen]; omega)).mono ?_; rintro e w' ⟨rfl, rfl⟩; rw [he.out]) | (go_at_call 124; (with_reducible refine (rdigit_any u[0] _).mono ?_); rintro e w' ⟨rfl, rfl⟩; rw [HD0.out]) | (go_at_call 128; refine (Da.rsymbol_any u _ HU.out.2).mono ?_; rintro e w' ⟨rfl, rfl⟩; rw [HS.out]))
            refine bodyPost_ret (v := .tuple #[tokV 0 a (T : Int) 0 [], .int .i64 30]) ?_ rfl ?_
            · simp [results, Try.results95, go_sem, tokV]
            · exact RefP.bad (((Below.refl _ _).alloc (Nat.le_refl _) _).alloc (by simp) _) rfl (by decide)
          · rw [if_pos rfl] at hM1
            subst hM1
            obtain rfl := (if_pos rfl).symm.trans HRS.out
            clear HRS
            go_wp2_with (first | (go_at_call 126; refine (rmark_any s T _ (by simp only [maxLen]; omega)).mono ?_; rintro e w' ⟨rfl, rfl⟩; rw [he.out]) | (go_at_call 124; (with_reducible refine (rdigit_any u[0] _).mono ?_); rintro e w' ⟨rfl, rfl⟩; rw [HD0.out]) | (go_at_call 128; refine (Da.rsymbol_any u _ HU.out.2).mono ?_; rintro e w' ⟨rfl, rfl⟩; rw [HS.out]))
            refine bodyPost_ret (v := .tuple #[tokV 13 a (T : Int) 0 u.data.toList, .int .i64 0]) ?_ rfl ?_
            · simp [results, Try.results95, go_sem, tokV]
            · exact RefP.good (((Below.refl _ _).alloc (Nat.le_refl _) _).alloc (by simp) _) rfl rfl (by show ((a + z : Nat) : Int) = _; rw [HTa.out]) rfl rfl
      · have hn2 : numB u.data.toList = true := by
          rw [hd0]
          cases hr : u.data.toList.drop 1 with
          | nil => exact hb0
          | cons c r =>
            have hnd : digitB u[0] = true := hb0
            have hs0 : (((u[0].toNat : Int) == 45) || ((u[0].toNat : Int) == 43)) = false := by
              unfold digitB at hnd
              simp at hnd
              simp
              omega
            show (if _ then _ else _) = true
            rw [if_neg (by rw [hs0]; decide)]
            exact hb0
        have hM1 := HM0.out
        rw [if_pos hn2] at hM1
        obtain ⟨pv, hpv⟩ : ∃ x, Fx.parV u.data.toList = x := ⟨_, rfl⟩
        obtain ⟨pe, hpe⟩ : ∃ x, Fx.parE u.data.toList = x := ⟨_, rfl⟩
        rw [hpv, hpe] at hM1
        have HPV := Lib.hid hpv
        have HPE := Lib.hid hpe
        clear hn2 hpv hpe hd0 hb0 HM0
        cases d5 : pe == 5
        · rw [d5, if_neg (by decide)] at hM1
          subst hM1
          by_cases h0 : pe = 0
          · subst h0
            obtain rfl := (if_pos rfl).symm.trans HRS.out
            clear HRS
            go_wp2_with (first | (go_at_call 126; refine (rmark_any s T _ (by simp only [maxLen]; omega)).mono ?_; rintro e w' ⟨rfl, rfl⟩; rw [he.out]) | (go_at_call 124; (with_reducible refine (rdigit_any u[0] _).mono ?_); rintro e w' ⟨rfl, rfl⟩; rw [HD0.out]) | (go_at_call 127; refine (Fx.parse_ref u _ HU.out.2).mono ?_; rintro e w' ⟨rfl, rfl⟩; rw [HPV.out, HPE.out]))
            refine bodyPost_ret (v := .tuple #[tokV 9 a (T : Int) pv [], .int .i64 0]) ?_ rfl ?_
            · simp [results, Try.results95, go_sem, tokV]
            · exact RefP.good (((Below.refl _ _).alloc (Nat.le_refl _) _).alloc (by simp) _) rfl rfl (by show ((a + z : Nat) : Int) = _; rw [HTa.out]) rfl rfl
          · obtain rfl := (if_neg h0).symm.trans HRS.out
            have H0 := Lib.hid h0
            clear HRS h0
            go_wp2_with (first | (go_at_call 126; refine (rmark_any s T _ (by simp only [maxLen]; omega)).mono ?_; rintro e w' ⟨rfl, rfl⟩; rw [he.out]) | (go_at_call 124; (with_reducible refine (rdigit_any u[0] _).mono ?_); rintro e w' ⟨rfl, rfl⟩; rw [HD0.out]) | (go_at_call 127; refine (Fx.parse_ref u _ HU.out.2).mono ?_; rintro e w' ⟨rfl, rfl⟩; rw [HPV.out, HPE.out]))
            refine bodyPost_ret (v := .tuple #[tokV 9 a (T : Int) pv [], .int .i64 pe]) ?_ rfl ?_
            · simp [results, Try.results95, go_sem, tokV]
            · exact RefP.bad (((Below.refl _ _).alloc (Nat.le_refl _) _).alloc (by simp) _) rfl H0.out
        · rw [d5, if_pos rfl] at hM1
          subst hM1
          obtain rfl := (if_neg (show (30 : Int) ≠ 0 by decide)).symm.trans HRS.out
          clear HRS
          go_wp2_with (first | (go_at_call 126; refine (rmark_any s T _ (by simp only [maxLen]; omega)).mono ?_; rintro e w' ⟨rfl, rfl⟩; rw [he.out]) | (go_at_call 124; (with_reducible refine (rdigit_any u[0] _).mono ?_); rintro e w' ⟨rfl, rfl⟩; rw [HD0.out]) | (go_at_call 127; refine (Fx.parse_ref u _ HU.out.2).mono ?_; rintro e w' ⟨rfl, rfl⟩; rw [HPV.out, HPE.out]))
          refine bodyPost_ret (v := .tuple #[tokV 9 a (T : Int) pv [], .int .i64 30]) ?_ rfl ?_
          · simp [results, Try.results95, go_sem, tokV]
          · exact RefP.bad (((Below.refl _ _).alloc (Nat.le_refl _) _).alloc (by simp) _) rfl (by decide)
end Go.Proofs.Yteddfdhbpgbloaa.Lx
