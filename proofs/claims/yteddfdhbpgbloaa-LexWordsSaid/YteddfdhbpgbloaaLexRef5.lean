/- The character that begins at a place: the document's function (layer 3). -/
import Derived.Test.YteddfdhbpgbloaaLexRef4
namespace Go.Proofs.Yteddfdhbpgbloaa.Lx
open Go.ChangeShapes Go.WideShapes Go.ChangeAt Go.RowKit
set_option linter.unusedVariables false

def charSc2 (c : Bs) (z : Nat) : Sc := if charB c = true then ⟨11, charV c, [], z, 0⟩ else bad 30
theorem charSc_eq (l : Bs) : charSc l = charSc2 ((l.drop 2).take (spelledN l - 2)) (spelledN l) := rfl
theorem nm_none {l : Bs} (h1 : (l == [115, 112, 97, 99, 101]) = false) (h2 : (l == [110, 101, 119, 108, 105, 110, 101]) = false) (h3 : (l == [116, 97, 98]) = false) (h4 : (l == [110, 117, 108]) = false) : nmF names4 l = none := by
  show (if (l == [115, 112, 97, 99, 101]) = true then _ else if (l == [110, 101, 119, 108, 105, 110, 101]) = true then _ else if (l == [116, 97, 98]) = true then _ else if (l == [110, 117, 108]) = true then _ else _) = _
  rw [h1, h2, h3, h4]; rfl
theorem char_one {c : UInt8} : charV [c] = (c.toNat : Int) ∧ charB [c] = !blankB c := by
  have h : nmF names4 [c] = none := nm_none (by simp) (by simp) (by simp) (by simp)
  unfold charV charB
  rw [h]
  exact ⟨rfl, rfl⟩
theorem char_code {l : Bs} (h : nmF names4 l = none) (h1 : l.length ≠ 1) : charV l = decV l ∧ charB l = decide (0 ≤ decI l) := by
  unfold charV charB
  rw [h]
  match l, h1 with
  | [], _ => exact ⟨rfl, rfl⟩
  | [c], h1 => exact absurd rfl h1
  | _ :: _ :: _, _ => exact ⟨rfl, rfl⟩
set_option maxRecDepth 100000 in
set_option maxHeartbeats 8000000 in
theorem rchar_open (s : ByteArray) (a : Nat) (w : World) (hs : s.size < 1000000) (ha : s.size ≤ a + 2) (ha2 : a < s.size) :
    Calls Try.prog 94 #[.string s, .int .i64 (a : Int)] w (RefP (bad 31) a w) := by
  have d1 : decide ((a : Int) + 2 ≥ (s.size : Int)) = true := decide_eq_true (by omega)
  have g1 : (s.size : Int) ≤ (a : Int) + 2 := by omega
  go_enter Try.func94, Try.ntmps94
  go_wp2_with fail
  refine bodyPost_ret (v := .tuple #[tokV 11 a 0 0 [], .int .i64 31]) ?_ rfl ?_
  · simp [results, Try.results94, go_sem, tokV]
  · exact RefP.bad (((Below.refl _ _).alloc (Nat.le_refl _) _).alloc (by simp) _) rfl (by decide)
set_option maxRecDepth 100000 in
set_option maxHeartbeats 8000000 in
theorem rchar_single (s : ByteArray) (a : Nat) (w : World) (hs : s.size < 1000000) (ha : a + 2 < s.size) (hl : lowerB s[a + 2] = false) :
    Calls Try.prog 94 #[.string s, .int .i64 (a : Int)] w (RefP (charSc2 [s[a + 2]] 3) a w) := by
  have d1 : decide ((a : Int) + 2 ≥ (s.size : Int)) = false := decide_eq_false (by omega)
  have g1 : ¬ (s.size : Int) ≤ (a : Int) + 2 := by omega
  have i1 : (a : Int) + 2 < (s.size : Int) := by omega
  have HL := Lib.hid hl
  have hc := s[a + 2].toNat_lt
  have hc1 : (s[a + 2].toNat : Int) ≤ 255 := by omega
  obtain ⟨b, hb⟩ : ∃ b, blankB s[a + 2] = b := ⟨_, rfl⟩
  have Hb := Lib.hid hb
  obtain ⟨RS, hRS⟩ : ∃ RS, charSc2 [s[a + 2]] 3 = RS := ⟨_, rfl⟩
  rw [hRS]
  have hx : RS = if (!b) = true then ⟨11, (s[a + 2].toNat : Int), [], 3, 0⟩ else bad 30 := by rw [← hRS]; unfold charSc2; rw [char_one.1, char_one.2, hb]
  clear hl hb hRS hc
  cases b
  · rw [show (!false) = true from rfl, if_pos rfl] at hx
    subst hx
    go_enter Try.func94, Try.ntmps94
    go_wp2_with (first | (go_at_call 123; refine (small_any s[a + 2] _).mono ?_; rintro e w' ⟨rfl, rfl⟩; rw [HL.out]) | (go_at_call 51; refine (rblank_any s[a + 2] _).mono ?_; rintro e w' ⟨rfl, rfl⟩; rw [Hb.out]))
    refine bodyPost_ret (v := .tuple #[tokV 11 a ((a : Int) + 2 + 1) (s[a + 2].toNat : Int) [], .int .i64 0]) ?_ rfl ?_
    · simp [results, Try.results94, go_sem, tokV]
    · exact RefP.good (((Below.refl _ _).alloc (Nat.le_refl _) _).alloc (by simp) _) rfl rfl (by show ((a + 3 : Nat) : Int) = _; omega) rfl rfl
  · rw [show (!true) = false from rfl, if_neg (by decide)] at hx
    subst hx
    go_enter Try.func94, Try.ntmps94
    go_wp2_with (first | (go_at_call 123; refine (small_any s[a + 2] _).mono ?_; rintro e w' ⟨rfl, rfl⟩; rw [HL.out]) | (go_at_call 51; refine (rblank_any s[a + 2] _).mono ?_; rintro e w' ⟨rfl, rfl⟩; rw [Hb.out]))
    refine bodyPost_ret (v := .tuple #[tokV 11 a ((a : Int) + 2 + 1) (s[a + 2].toNat : Int) [], .int .i64 30]) ?_ rfl ?_
    · simp [results, Try.results94, go_sem, tokV]
    · exact RefP.bad (((Below.refl _ _).alloc (Nat.le_refl _) _).alloc (by simp) _) rfl (by decide)
set_option maxRecDepth 100000 in
set_option maxHeartbeats 16000000 in
theorem rchar_name (s : ByteArray) (a : Nat) (w : World) (hs : s.size < 1000000) (ha : a + 2 < s.size) (hl : lowerB s[a + 2] = true) :
    Calls Try.prog 94 #[.string s, .int .i64 (a : Int)] w (RefP (charSc (s.data.toList.drop a)) a w) := by
  have d1 : decide ((a : Int) + 2 ≥ (s.size : Int)) = false := decide_eq_false (by omega)
  have g1 : ¬ (s.size : Int) ≤ (a : Int) + 2 := by omega
  have i1 : (a : Int) + 2 < (s.size : Int) := by omega
  have HL := Lib.hid hl
  obtain ⟨T, hT⟩ : ∃ T, a + 2 + ((s.data.toList.drop (a + 2)).takeWhile (fun x => lowerB x || digitB x)).length = T := ⟨_, rfl⟩
  have hsp : a + spelledN (s.data.toList.drop a) = T := by
    unfold spelledN
    rw [List.drop_drop, drop_at s (a + 2) ha] at *
    rw [List.takeWhile_cons, if_pos (by rw [hl]; rfl), List.length_cons] at hT
    show a + (2 + (if lowerB s[a + 2] = true then 1 + (List.takeWhile (fun x => lowerB x || digitB x) (s.data.toList.drop (a + 2 + 1))).length else 1)) = T
    rw [if_pos hl]
    omega
  have hlb : 1 ≤ ((s.data.toList.drop (a + 2)).takeWhile (fun x => lowerB x || digitB x)).length := by
    rw [drop_at s (a + 2) ha, List.takeWhile_cons, if_pos (by rw [hl]; rfl), List.length_cons]; omega
  have hub := (List.takeWhile_prefix (l := s.data.toList.drop (a + 2)) (fun x => lowerB x || digitB x)).length_le
  rw [List.length_drop, len_of] at hub
  have hTb : a + 2 < T ∧ T ≤ s.size := by omega
  have hu : (s.extract (a + 2) T).data.toList = ((s.data.toList.drop a).drop 2).take (spelledN (s.data.toList.drop a) - 2) := by rw [Lib.extract_data, List.drop_drop]; congr 1; omega
  have huz : (s.extract (a + 2) T).size = T - (a + 2) := by rw [← len_of, hu, List.length_take, List.length_drop, List.length_drop, len_of]; omega
  have hr := run_sub s ((a : Int) + 2) T (by omega) (by omega) (by omega)
  rw [Int.toNat_natCast, show ((a : Int) + 2).toNat = a + 2 by omega] at hr
  have hu0 : (s.extract (a + 2) T).data.toList = s[a + 2] :: (s.data.toList.drop (a + 3)).take (T - (a + 2) - 1) := by
    rw [Lib.extract_data, drop_at s (a + 2) ha]
    obtain ⟨m, hm⟩ : ∃ m, T - (a + 2) = m + 1 := ⟨T - (a + 2) - 1, by omega⟩
    rw [hm, List.take_succ_cons]; rfl
  generalize s.extract (a + 2) T = u at *
  rw [charSc_eq, ← hu]
  have HTa := Lib.hid (show T = a + spelledN (s.data.toList.drop a) from hsp.symm)
  generalize spelledN (s.data.toList.drop a) = z at *
  obtain ⟨RS, hRS⟩ : ∃ RS, charSc2 u.data.toList z = RS := ⟨_, rfl⟩
  rw [hRS]
  have HRS := Lib.hid hRS
  have HT := Lib.hid hT
  have hu1 : 0 < u.size := by omega
  have HU0 := Lib.hid hu0
  clear hT hsp hlb hub hu huz hRS hl hu0
  go_enter Try.func94, Try.ntmps94
  go_wp2_with (go_at_call 123; (with_reducible refine (small_any s[a + 2] _).mono ?_); rintro e w' ⟨rfl, rfl⟩; rw [HL.out])
  go_loop [8] (fun i => RunAt s (fun x => lowerB x || digitB x) T i) (fun i => s.size - (intOf i).toNat)
  case atStart => exact ⟨a + 2, by omega, rfl, HT.out.symm⟩
  case round =>
    clear HT
    obtain ⟨k, hk, rfl, ha'⟩ := hrel
    have Ha := Lib.hid ha'
    clear ha'
    by_cases hlt : k < s.size
    · have dl : decide ((k : Int) < (s.size : Int)) = true := by simp [hlt]
      have i2 : (k : Int) < (s.size : Int) := by omega
      obtain ⟨b, hb⟩ : ∃ b, lowerB s[k] = b := ⟨_, rfl⟩
      obtain ⟨c, hc⟩ : ∃ c, digitB s[k] = c := ⟨_, rfl⟩
      have Hb := Lib.hid hb
      have Hc := Lib.hid hc
      cases b
      · cases c
        · have hTk := RunAt.stop Ha.out hlt (by show (lowerB s[k] || digitB s[k]) = false; rw [hb, hc]; rfl)
          subst hTk
          clear hb hc
          have hx := HRS.out
          clear HRS Ha hk
          cases a0 : u.toList == [115, 112, 97, 99, 101]
          case true =>
            rw [← ByteArray.toList_eq, beq_iff_eq.1 a0] at hx
            have hx2 : RS = ⟨11, 32, [], z, 0⟩ := hx.symm
            subst hx2
            clear hx
            go_wp2_with (first  | (go_at_call 123; (with_reducible refine (small_any s[T] _).mono ?_); rintro e w' ⟨rfl, rfl⟩; rw [Hb.out]) | (go_at_call 124; (with_reducible refine (rdigit_any s[T] _).mono ?_); rintro e w' ⟨rfl, rfl⟩; rw [Hc.out]))
            refine bodyPost_ret (v := .tuple #[tokV 11 a (T : Int) 32 [], .int .i64 0]) ?_ rfl ?_
            · simp [results, Try.results94, go_sem, tokV]
            · exact RefP.good (((Below.refl _ _).alloc (Nat.le_refl _) _).alloc (by simp) _) rfl rfl (by show ((a + z : Nat) : Int) = _; rw [HTa.out]) rfl rfl
          cases a1 : u.toList == [110, 101, 119, 108, 105, 110, 101]
          case true =>
            rw [← ByteArray.toList_eq, beq_iff_eq.1 a1] at hx
            have hx2 : RS = ⟨11, 10, [], z, 0⟩ := hx.symm
            subst hx2
            have n0 : (u.toList == [115, 112, 97, 99, 101]) = false := a0
            clear hx
            go_wp2_with (first  | (go_at_call 123; (with_reducible refine (small_any s[T] _).mono ?_); rintro e w' ⟨rfl, rfl⟩; rw [Hb.out]) | (go_at_call 124; (with_reducible refine (rdigit_any s[T] _).mono ?_); rintro e w' ⟨rfl, rfl⟩; rw [Hc.out]))
            refine bodyPost_ret (v := .tuple #[tokV 11 a (T : Int) 10 [], .int .i64 0]) ?_ rfl ?_
            · simp [results, Try.results94, go_sem, tokV]
            · exact RefP.good (((Below.refl _ _).alloc (Nat.le_refl _) _).alloc (by simp) _) rfl rfl (by show ((a + z : Nat) : Int) = _; rw [HTa.out]) rfl rfl
          cases a2 : u.toList == [116, 97, 98]
          case true =>
            rw [← ByteArray.toList_eq, beq_iff_eq.1 a2] at hx
            have hx2 : RS = ⟨11, 9, [], z, 0⟩ := hx.symm
            subst hx2
            have n0 : (u.toList == [115, 112, 97, 99, 101]) = false := a0
            have n1 : (u.toList == [110, 101, 119, 108, 105, 110, 101]) = false := a1
            clear hx
            go_wp2_with (first  | (go_at_call 123; (with_reducible refine (small_any s[T] _).mono ?_); rintro e w' ⟨rfl, rfl⟩; rw [Hb.out]) | (go_at_call 124; (with_reducible refine (rdigit_any s[T] _).mono ?_); rintro e w' ⟨rfl, rfl⟩; rw [Hc.out]))
            refine bodyPost_ret (v := .tuple #[tokV 11 a (T : Int) 9 [], .int .i64 0]) ?_ rfl ?_
            · simp [results, Try.results94, go_sem, tokV]
            · exact RefP.good (((Below.refl _ _).alloc (Nat.le_refl _) _).alloc (by simp) _) rfl rfl (by show ((a + z : Nat) : Int) = _; rw [HTa.out]) rfl rfl
          cases a3 : u.toList == [110, 117, 108]
          case true =>
            rw [← ByteArray.toList_eq, beq_iff_eq.1 a3] at hx
            have hx2 : RS = ⟨11, 0, [], z, 0⟩ := hx.symm
            subst hx2
            have n0 : (u.toList == [115, 112, 97, 99, 101]) = false := a0
            have n1 : (u.toList == [110, 101, 119, 108, 105, 110, 101]) = false := a1
            have n2 : (u.toList == [116, 97, 98]) = false := a2
            clear hx
            go_wp2_with (first  | (go_at_call 123; (with_reducible refine (small_any s[T] _).mono ?_); rintro e w' ⟨rfl, rfl⟩; rw [Hb.out]) | (go_at_call 124; (with_reducible refine (rdigit_any s[T] _).mono ?_); rintro e w' ⟨rfl, rfl⟩; rw [Hc.out]))
            refine bodyPost_ret (v := .tuple #[tokV 11 a (T : Int) 0 [], .int .i64 0]) ?_ rfl ?_
            · simp [results, Try.results94, go_sem, tokV]
            · exact RefP.good (((Below.refl _ _).alloc (Nat.le_refl _) _).alloc (by simp) _) rfl rfl (by show ((a + z : Nat) : Int) = _; rw [HTa.out]) rfl rfl
          have hnm := nm_none (l := u.data.toList) (by rw [← ByteArray.toList_eq]; exact a0) (by rw [← ByteArray.toList_eq]; exact a1) (by rw [← ByteArray.toList_eq]; exact a2) (by rw [← ByteArray.toList_eq]; exact a3)
          by_cases h1 : u.size = 1
          · have z1 : ((u.size : Int) == 1) = true := by simp; omega
            have hd0 := drop_at u 0 hu1
            rw [List.drop_zero, drop_none u 1 (by omega)] at hd0
            have hb0 : blankB u[0] = false := by
              have h2 := HU0.out
              rw [hd0] at h2
              have h3 := (List.cons.inj h2).1
              rw [h3]
              have h4 := HL.out
              unfold lowerB at h4
              unfold blankB
              simp at h4
              simp
              omega
            have hx2 : RS = ⟨11, (u[0].toNat : Int), [], z, 0⟩ := by
              rw [← hx, hd0]
              unfold charSc2
              rw [char_one.1, char_one.2, hb0]
              rfl
            subst hx2
            have hc := u[0].toNat_lt
            have hc1 : (u[0].toNat : Int) ≤ 255 := by omega
            have i0 : (0 : Int) < (u.size : Int) := by omega
            have h1' := Lib.hid h1
            clear hx hnm hd0 hb0 hc
            go_wp2_with (first  | (go_at_call 123; (with_reducible refine (small_any s[T] _).mono ?_); rintro e w' ⟨rfl, rfl⟩; rw [Hb.out]) | (go_at_call 124; (with_reducible refine (rdigit_any s[T] _).mono ?_); rintro e w' ⟨rfl, rfl⟩; rw [Hc.out]))
            refine bodyPost_ret (v := .tuple #[tokV 11 a (T : Int) (u[0].toNat : Int) [], .int .i64 0]) ?_ rfl ?_
            · simp [results, Try.results94, go_sem, tokV]
            · exact RefP.good (((Below.refl _ _).alloc (Nat.le_refl _) _).alloc (by simp) _) rfl rfl (by show ((a + z : Nat) : Int) = _; rw [HTa.out]) rfl rfl
          · have z1 : ((u.size : Int) == 1) = false := by simp; omega
            obtain ⟨cv, cb⟩ := char_code hnm (by rw [len_of]; exact h1)
            have hx2 : RS = if decide (0 ≤ decI u.data.toList) = true then ⟨11, decV u.data.toList, [], z, 0⟩ else bad 30 := by rw [← hx]; unfold charSc2; rw [cv, cb]
            clear hx hnm cv cb
            by_cases h3 : u.size = 3
            · have z3 : ((u.size : Int) == 3) = true := by simp; omega
              have i0 : (0 : Int) < (u.size : Int) := by omega
              have h3l := list_three u h3
              have HX : Hid (∀ w : World, Calls Try.prog 125 #[.string u, .int .i64 1] w fun e w' => e = .returned (.int .i64 (hexR (u.data.toList.drop 1))) ∧ w = w') := fun w => hex_any u 1 w (by omega) (by omega)
              have hdv : hexR (u.data.toList.drop 1) = decI [120, u[1], u[2]] := by rw [h3l]; rfl
              rw [hdv] at HX
              have hle := decI_le [120, u[1], u[2]]
              have h3' := Lib.hid h3
              cases c0 : (u[0].toNat : Int) == 120
              · have hd : decI u.data.toList = -1 := by
                  rw [h3l]
                  have hne := u8_ne (n := 120) (by decide) c0
                  show (if u[0] = 120 ∧ _ then _ else _) = _
                  rw [if_neg (fun h => hne h.1)]
                rw [hd, if_neg (by decide)] at hx2
                subst hx2
                clear hd hdv h3l hle HX
                go_wp2_with (first  | (go_at_call 123; (with_reducible refine (small_any s[T] _).mono ?_); rintro e w' ⟨rfl, rfl⟩; rw [Hb.out]) | (go_at_call 124; (with_reducible refine (rdigit_any s[T] _).mono ?_); rintro e w' ⟨rfl, rfl⟩; rw [Hc.out]))
                refine bodyPost_ret (v := .tuple #[tokV 11 a (T : Int) 0 [], .int .i64 30]) ?_ rfl ?_
                · simp [results, Try.results94, go_sem, tokV]
                · exact RefP.bad (((Below.refl _ _).alloc (Nat.le_refl _) _).alloc (by simp) _) rfl (by decide)
              · have hd : decI u.data.toList = decI [120, u[1], u[2]] := by
                  have he := u8_is (n := 120) (by decide) c0
                  rw [h3l, he]; rfl
                have hv : decV u.data.toList = if (0 : Int) ≤ decI [120, u[1], u[2]] then decI [120, u[1], u[2]] else (0 : Int) := by unfold decV; rw [hd]
                rw [hv, hd] at hx2
                clear hv hd hdv h3l
                generalize decI [120, u[1], u[2]] = v at *
                by_cases hv0 : 0 ≤ v
                · have dv : decide (v ≥ 0) = true := by simpa using hv0
                  rw [if_pos (decide_eq_true hv0), if_pos hv0] at hx2
                  subst hx2
                  go_wp2_with (first  | (go_at_call 123; (with_reducible refine (small_any s[T] _).mono ?_); rintro e w' ⟨rfl, rfl⟩; rw [Hb.out]) | (go_at_call 124; (with_reducible refine (rdigit_any s[T] _).mono ?_); rintro e w' ⟨rfl, rfl⟩; rw [Hc.out]) | (go_at_call 125; refine (HX.out _).mono ?_; rintro e w' ⟨rfl, rfl⟩))
                  refine bodyPost_ret (v := .tuple #[tokV 11 a (T : Int) v [], .int .i64 0]) ?_ rfl ?_
                  · simp [results, Try.results94, go_sem, tokV]
                  · exact RefP.good (((Below.refl _ _).alloc (Nat.le_refl _) _).alloc (by simp) _) rfl rfl (by show ((a + z : Nat) : Int) = _; rw [HTa.out]) rfl rfl
                · have dv : decide (v ≥ 0) = false := by simpa using hv0
                  rw [if_neg (by rw [decide_eq_false hv0]; decide)] at hx2
                  subst hx2
                  go_wp2_with (first  | (go_at_call 123; (with_reducible refine (small_any s[T] _).mono ?_); rintro e w' ⟨rfl, rfl⟩; rw [Hb.out]) | (go_at_call 124; (with_reducible refine (rdigit_any s[T] _).mono ?_); rintro e w' ⟨rfl, rfl⟩; rw [Hc.out]) | (go_at_call 125; refine (HX.out _).mono ?_; rintro e w' ⟨rfl, rfl⟩))
                  refine bodyPost_ret (v := .tuple #[tokV 11 a (T : Int) 0 [], .int .i64 30]) ?_ rfl ?_
                  · simp [results, Try.results94, go_sem, tokV]
                  · exact RefP.bad (((Below.refl _ _).alloc (Nat.le_refl _) _).alloc (by simp) _) rfl (by decide)
            · have z3 : ((u.size : Int) == 3) = false := by simp; omega
              have hd : decI u.data.toList = -1 := decI_short h3
              rw [hd, if_neg (by decide)] at hx2
              subst hx2
              clear hd
              go_wp2_with (first  | (go_at_call 123; (with_reducible refine (small_any s[T] _).mono ?_); rintro e w' ⟨rfl, rfl⟩; rw [Hb.out]) | (go_at_call 124; (with_reducible refine (rdigit_any s[T] _).mono ?_); rintro e w' ⟨rfl, rfl⟩; rw [Hc.out]))
              refine bodyPost_ret (v := .tuple #[tokV 11 a (T : Int) 0 [], .int .i64 30]) ?_ rfl ?_
              · simp [results, Try.results94, go_sem, tokV]
              · exact RefP.bad (((Below.refl _ _).alloc (Nat.le_refl _) _).alloc (by simp) _) rfl (by decide)
        · have hn := RunAt.step Ha.out hlt (by show (lowerB s[k] || digitB s[k]) = true; rw [hb, hc]; rfl)
          have Hn := Lib.hid hn
          clear hn hb hc
          go_wp2_with (first | (go_at_call 123; (with_reducible refine (small_any s[k] _).mono ?_); rintro e w' ⟨rfl, rfl⟩; rw [Hb.out]) | (go_at_call 124; (with_reducible refine (rdigit_any s[k] _).mono ?_); rintro e w' ⟨rfl, rfl⟩; rw [Hc.out]))
          go_round
          case rel => exact ⟨k + 1, by omega, by go_num, Hn.out⟩
          case measure => simp [intOf]; omega
      · have hn := RunAt.step Ha.out hlt (by show (lowerB s[k] || digitB s[k]) = true; rw [hb]; rfl)
        have Hn := Lib.hid hn
        clear hn hb hc
        go_wp2_with (go_at_call 123; (with_reducible refine (small_any s[k] _).mono ?_); rintro e w' ⟨rfl, rfl⟩; rw [Hb.out])
        go_round
        case rel => exact ⟨k + 1, by omega, by go_num, Hn.out⟩
        case measure => simp [intOf]; omega
    · have dl : decide ((k : Int) < (s.size : Int)) = false := by simp [hlt]
      have hTk := RunAt.end_ Ha.out (by omega)
      subst hTk
      have hx := HRS.out
      clear HRS Ha hk
      cases a0 : u.toList == [115, 112, 97, 99, 101]
      case true =>
        rw [← ByteArray.toList_eq, beq_iff_eq.1 a0] at hx
        have hx2 : RS = ⟨11, 32, [], z, 0⟩ := hx.symm
        subst hx2
        clear hx
        go_wp2_with (first  | fail)
        refine bodyPost_ret (v := .tuple #[tokV 11 a (T : Int) 32 [], .int .i64 0]) ?_ rfl ?_
        · simp [results, Try.results94, go_sem, tokV]
        · exact RefP.good (((Below.refl _ _).alloc (Nat.le_refl _) _).alloc (by simp) _) rfl rfl (by show ((a + z : Nat) : Int) = _; rw [HTa.out]) rfl rfl
      cases a1 : u.toList == [110, 101, 119, 108, 105, 110, 101]
      case true =>
        rw [← ByteArray.toList_eq, beq_iff_eq.1 a1] at hx
        have hx2 : RS = ⟨11, 10, [], z, 0⟩ := hx.symm
        subst hx2
        have n0 : (u.toList == [115, 112, 97, 99, 101]) = false := a0
        clear hx
        go_wp2_with (first  | fail)
        refine bodyPost_ret (v := .tuple #[tokV 11 a (T : Int) 10 [], .int .i64 0]) ?_ rfl ?_
        · simp [results, Try.results94, go_sem, tokV]
        · exact RefP.good (((Below.refl _ _).alloc (Nat.le_refl _) _).alloc (by simp) _) rfl rfl (by show ((a + z : Nat) : Int) = _; rw [HTa.out]) rfl rfl
      cases a2 : u.toList == [116, 97, 98]
      case true =>
        rw [← ByteArray.toList_eq, beq_iff_eq.1 a2] at hx
        have hx2 : RS = ⟨11, 9, [], z, 0⟩ := hx.symm
        subst hx2
        have n0 : (u.toList == [115, 112, 97, 99, 101]) = false := a0
        have n1 : (u.toList == [110, 101, 119, 108, 105, 110, 101]) = false := a1
        clear hx
        go_wp2_with (first  | fail)
        refine bodyPost_ret (v := .tuple #[tokV 11 a (T : Int) 9 [], .int .i64 0]) ?_ rfl ?_
        · simp [results, Try.results94, go_sem, tokV]
        · exact RefP.good (((Below.refl _ _).alloc (Nat.le_refl _) _).alloc (by simp) _) rfl rfl (by show ((a + z : Nat) : Int) = _; rw [HTa.out]) rfl rfl
      cases a3 : u.toList == [110, 117, 108]
      case true =>
        rw [← ByteArray.toList_eq, beq_iff_eq.1 a3] at hx
        have hx2 : RS = ⟨11, 0, [], z, 0⟩ := hx.symm
        subst hx2
        have n0 : (u.toList == [115, 112, 97, 99, 101]) = false := a0
        have n1 : (u.toList == [110, 101, 119, 108, 105, 110, 101]) = false := a1
        have n2 : (u.toList == [116, 97, 98]) = false := a2
        clear hx
        go_wp2_with (first  | fail)
        refine bodyPost_ret (v := .tuple #[tokV 11 a (T : Int) 0 [], .int .i64 0]) ?_ rfl ?_
        · simp [results, Try.results94, go_sem, tokV]
        · exact RefP.good (((Below.refl _ _).alloc (Nat.le_refl _) _).alloc (by simp) _) rfl rfl (by show ((a + z : Nat) : Int) = _; rw [HTa.out]) rfl rfl
      have hnm := nm_none (l := u.data.toList) (by rw [← ByteArray.toList_eq]; exact a0) (by rw [← ByteArray.toList_eq]; exact a1) (by rw [← ByteArray.toList_eq]; exact a2) (by rw [← ByteArray.toList_eq]; exact a3)
      by_cases h1 : u.size = 1
      · have z1 : ((u.size : Int) == 1) = true := by simp; omega
        have hd0 := drop_at u 0 hu1
        rw [List.drop_zero, drop_none u 1 (by omega)] at hd0
        have hb0 : blankB u[0] = false := by
          have h2 := HU0.out
          rw [hd0] at h2
          have h3 := (List.cons.inj h2).1
          rw [h3]
          have h4 := HL.out
          unfold lowerB at h4
          unfold blankB
          simp at h4
          simp
          omega
        have hx2 : RS = ⟨11, (u[0].toNat : Int), [], z, 0⟩ := by
          rw [← hx, hd0]
          unfold charSc2
          rw [char_one.1, char_one.2, hb0]
          rfl
        subst hx2
        have hc := u[0].toNat_lt
        have hc1 : (u[0].toNat : Int) ≤ 255 := by omega
        have i0 : (0 : Int) < (u.size : Int) := by omega
        have h1' := Lib.hid h1
        clear hx hnm hd0 hb0 hc
        go_wp2_with (first  | fail)
        refine bodyPost_ret (v := .tuple #[tokV 11 a (T : Int) (u[0].toNat : Int) [], .int .i64 0]) ?_ rfl ?_
        · simp [results, Try.results94, go_sem, tokV]
        · exact RefP.good (((Below.refl _ _).alloc (Nat.le_refl _) _).alloc (by simp) _) rfl rfl (by show ((a + z : Nat) : Int) = _; rw [HTa.out]) rfl rfl
      · have z1 : ((u.size : Int) == 1) = false := by simp; omega
        obtain ⟨cv, cb⟩ := char_code hnm (by rw [len_of]; exact h1)
        have hx2 : RS = if decide (0 ≤ decI u.data.toList) = true then ⟨11, decV u.data.toList, [], z, 0⟩ else bad 30 := by rw [← hx]; unfold charSc2; rw [cv, cb]
        clear hx hnm cv cb
        by_cases h3 : u.size = 3
        · have z3 : ((u.size : Int) == 3) = true := by simp; omega
          have i0 : (0 : Int) < (u.size : Int) := by omega
          have h3l := list_three u h3
          have HX : Hid (∀ w : World, Calls Try.prog 125 #[.string u, .int .i64 1] w fun e w' => e = .returned (.int .i64 (hexR (u.data.toList.drop 1))) ∧ w = w') := fun w => hex_any u 1 w (by omega) (by omega)
          have hdv : hexR (u.data.toList.drop 1) = decI [120, u[1], u[2]] := by rw [h3l]; rfl
          rw [hdv] at HX
          have hle := decI_le [120, u[1], u[2]]
          have h3' := Lib.hid h3
          cases c0 : (u[0].toNat : Int) == 120
          · have hd : decI u.data.toList = -1 := by
              rw [h3l]
              have hne := u8_ne (n := 120) (by decide) c0
              show (if u[0] = 120 ∧ _ then _ else _) = _
              rw [if_neg (fun h => hne h.1)]
            rw [hd, if_neg (by decide)] at hx2
            subst hx2
            clear hd hdv h3l hle HX
            go_wp2_with (first  | fail)
            refine bodyPost_ret (v := .tuple #[tokV 11 a (T : Int) 0 [], .int .i64 30]) ?_ rfl ?_
            · simp [results, Try.results94, go_sem, tokV]
            · exact RefP.bad (((Below.refl _ _).alloc (Nat.le_refl _) _).alloc (by simp) _) rfl (by decide)
          · have hd : decI u.data.toList = decI [120, u[1], u[2]] := by
              have he := u8_is (n := 120) (by decide) c0
              rw [h3l, he]; rfl
            have hv : decV u.data.toList = if (0 : Int) ≤ decI [120, u[1], u[2]] then decI [120, u[1], u[2]] else (0 : Int) := by unfold decV; rw [hd]
            rw [hv, hd] at hx2
            clear hv hd hdv h3l
            generalize decI [120, u[1], u[2]] = v at *
            by_cases hv0 : 0 ≤ v
            · have dv : decide (v ≥ 0) = true := by simpa using hv0
              rw [if_pos (decide_eq_true hv0), if_pos hv0] at hx2
              subst hx2
              go_wp2_with (first  | fail | (go_at_call 125; refine (HX.out _).mono ?_; rintro e w' ⟨rfl, rfl⟩))
              refine bodyPost_ret (v := .tuple #[tokV 11 a (T : Int) v [], .int .i64 0]) ?_ rfl ?_
              · simp [results, Try.results94, go_sem, tokV]
              · exact RefP.good (((Below.refl _ _).alloc (Nat.le_refl _) _).alloc (by simp) _) rfl rfl (by show ((a + z : Nat) : Int) = _; rw [HTa.out]) rfl rfl
            · have dv : decide (v ≥ 0) = false := by simpa using hv0
              rw [if_neg (by rw [decide_eq_false hv0]; decide)] at hx2
              subst hx2
              go_wp2_with (first  | fail | (go_at_call 125; refine (HX.out _).mono ?_; rintro e w' ⟨rfl, rfl⟩))
              refine bodyPost_ret (v := .tuple #[tokV 11 a (T : Int) 0 [], .int .i64 30]) ?_ rfl ?_
              · simp [results, Try.results94, go_sem, tokV]
              · exact RefP.bad (((Below.refl _ _).alloc (Nat.le_refl _) _).alloc (by simp) _) rfl (by decide)
        · have z3 : ((u.size : Int) == 3) = false := by simp; omega
          have hd : decI u.data.toList = -1 := decI_short h3
          rw [hd, if_neg (by decide)] at hx2
          subst hx2
          clear hd
          go_wp2_with (first  | fail)
          refine bodyPost_ret (v := .tuple #[tokV 11 a (T : Int) 0 [], .int .i64 30]) ?_ rfl ?_
          · simp [results, Try.results94, go_sem, tokV]
          · exact RefP.bad (((Below.refl _ _).alloc (Nat.le_refl _) _).alloc (by simp) _) rfl (by decide)
end Go.Proofs.Yteddfdhbpgbloaa.Lx
