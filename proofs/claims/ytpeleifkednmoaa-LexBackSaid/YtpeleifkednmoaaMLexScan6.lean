/- Spelled characters of layer 3: what the program's function returns. -/
import Derived.Test.YtpeleifkednmoaaMLexScan5
section
namespace Go.Proofs.Ytpeleifkednmoaa.Lx
open Go.ChangeShapes Go.WideShapes Go.ChangeAt Go.RowKit
set_option linter.unusedVariables false

/-- The first character that is called so. -/
def nmF : List UInt8 → Bs → Option UInt8
  | [], _ => none
  | c :: r, l => if (l == nameS c) = true then some c else nmF r l
def names4 : List UInt8 := [32, 10, 9, 0]
def charV (l : Bs) : Int := match nmF names4 l with | some c => (c.toNat : Int) | none => match l with | [c] => (c.toNat : Int) | _ => decV l
def charB (l : Bs) : Bool := match nmF names4 l with | some _ => true | none => match l with | [c] => !blankB c | _ => decide (0 ≤ decI l)
def NmAt (l : Bs) (E : Option UInt8) (i : Value) : Prop := ∃ k : Nat, k ≤ 4 ∧ i = .int .i64 (k : Int) ∧ E = nmF (names4.drop k) l
theorem name_32 (w : World) : Calls Try.prog 34 #[.int .u8 32] w fun e w' => e = .returned (.string ⟨#[115, 112, 97, 99, 101]⟩) ∧ w = w' := name_any 32 w
theorem name_10 (w : World) : Calls Try.prog 34 #[.int .u8 10] w fun e w' => e = .returned (.string ⟨#[110, 101, 119, 108, 105, 110, 101]⟩) ∧ w = w' := name_any 10 w
theorem name_9 (w : World) : Calls Try.prog 34 #[.int .u8 9] w fun e w' => e = .returned (.string ⟨#[116, 97, 98]⟩) ∧ w = w' := name_any 9 w
theorem name_0 (w : World) : Calls Try.prog 34 #[.int .u8 0] w fun e w' => e = .returned (.string ⟨#[110, 117, 108]⟩) ∧ w = w' := name_any 0 w
set_option maxRecDepth 100000 in
set_option maxHeartbeats 4000000 in
theorem character_any (s : ByteArray) (w : World) (hs : s.size ≤ maxLen) (v : Int) (b : Bool) (hv : Hid (charV s.data.toList = v)) (hb : Hid (charB s.data.toList = b)) :
    Calls Try.prog 53 #[.string s] w fun e w' => e = .returned (.tuple #[.int .i64 v, .bool b]) ∧ Below w.heap.size w w' := by
  have Hs := Lib.hid hs
  unfold maxLen at hs
  unfold charV at hv
  unfold charB at hb
  obtain ⟨E, hE⟩ : ∃ E, nmF names4 s.data.toList = E := ⟨_, rfl⟩
  rw [hE] at hv hb
  have HE := Lib.hid hE
  clear hE
  go_enter Try.func53, Try.ntmps53
  go_wp2_with fail
  go_loop [10] (fun i => NmAt s.data.toList E i) (fun i => 4 - (intOf i).toNat)
  case atStart => exact ⟨0, by omega, rfl, HE.out.symm⟩
  case round =>
    obtain ⟨k, hk, rfl, ha⟩ := hrel
    have Ha := Lib.hid ha
    clear ha HE
    have hk' : k = 0 ∨ k = 1 ∨ k = 2 ∨ k = 3 ∨ k = 4 := by omega
    rcases hk' with rfl | rfl | rfl | rfl | rfl
    · obtain ⟨c, hc⟩ : ∃ c, (s.toList == [115, 112, 97, 99, 101]) = c := ⟨_, rfl⟩
      have hN : nmF (names4.drop 0) s.data.toList = if c = true then some 32 else nmF (names4.drop 1) s.data.toList := by rw [← hc, ByteArray.toList_eq]; rfl
      have Hn := Lib.hid hN
      clear hN
      cases c
      · go_wp2_with (go_at_call 34; refine (name_32 _).mono ?_; rintro e w' ⟨rfl, rfl⟩)
        go_round
        case rel => exact ⟨1, by omega, by go_num, by rw [Ha.out, Hn.out]; rfl⟩
        case measure => simp [intOf]
      · have hT : E = some 32 := by rw [Ha.out, Hn.out]; rfl
        subst hT
        obtain rfl : 32 = v := hv.out
        obtain rfl : true = b := hb.out
        clear hv hb
        go_wp2_with (go_at_call 34; refine (name_32 _).mono ?_; rintro e w' ⟨rfl, rfl⟩)
        go_ret2
        exact ⟨rfl, (Below.refl _ _).alloc (Nat.le_refl _) _⟩
    · obtain ⟨c, hc⟩ : ∃ c, (s.toList == [110, 101, 119, 108, 105, 110, 101]) = c := ⟨_, rfl⟩
      have hN : nmF (names4.drop 1) s.data.toList = if c = true then some 10 else nmF (names4.drop 2) s.data.toList := by rw [← hc, ByteArray.toList_eq]; rfl
      have Hn := Lib.hid hN
      clear hN
      cases c
      · go_wp2_with (go_at_call 34; refine (name_10 _).mono ?_; rintro e w' ⟨rfl, rfl⟩)
        go_round
        case rel => exact ⟨2, by omega, by go_num, by rw [Ha.out, Hn.out]; rfl⟩
        case measure => simp [intOf]
      · have hT : E = some 10 := by rw [Ha.out, Hn.out]; rfl
        subst hT
        obtain rfl : 10 = v := hv.out
        obtain rfl : true = b := hb.out
        clear hv hb
        go_wp2_with (go_at_call 34; refine (name_10 _).mono ?_; rintro e w' ⟨rfl, rfl⟩)
        go_ret2
        exact ⟨rfl, (Below.refl _ _).alloc (Nat.le_refl _) _⟩
    · obtain ⟨c, hc⟩ : ∃ c, (s.toList == [116, 97, 98]) = c := ⟨_, rfl⟩
      have hN : nmF (names4.drop 2) s.data.toList = if c = true then some 9 else nmF (names4.drop 3) s.data.toList := by rw [← hc, ByteArray.toList_eq]; rfl
      have Hn := Lib.hid hN
      clear hN
      cases c
      · go_wp2_with (go_at_call 34; refine (name_9 _).mono ?_; rintro e w' ⟨rfl, rfl⟩)
        go_round
        case rel => exact ⟨3, by omega, by go_num, by rw [Ha.out, Hn.out]; rfl⟩
        case measure => simp [intOf]
      · have hT : E = some 9 := by rw [Ha.out, Hn.out]; rfl
        subst hT
        obtain rfl : 9 = v := hv.out
        obtain rfl : true = b := hb.out
        clear hv hb
        go_wp2_with (go_at_call 34; refine (name_9 _).mono ?_; rintro e w' ⟨rfl, rfl⟩)
        go_ret2
        exact ⟨rfl, (Below.refl _ _).alloc (Nat.le_refl _) _⟩
    · obtain ⟨c, hc⟩ : ∃ c, (s.toList == [110, 117, 108]) = c := ⟨_, rfl⟩
      have hN : nmF (names4.drop 3) s.data.toList = if c = true then some 0 else nmF (names4.drop 4) s.data.toList := by rw [← hc, ByteArray.toList_eq]; rfl
      have Hn := Lib.hid hN
      clear hN
      cases c
      · go_wp2_with (go_at_call 34; refine (name_0 _).mono ?_; rintro e w' ⟨rfl, rfl⟩)
        go_round
        case rel => exact ⟨4, by omega, by go_num, by rw [Ha.out, Hn.out]; rfl⟩
        case measure => simp [intOf]
      · have hT : E = some 0 := by rw [Ha.out, Hn.out]; rfl
        subst hT
        obtain rfl : 0 = v := hv.out
        obtain rfl : true = b := hb.out
        clear hv hb
        go_wp2_with (go_at_call 34; refine (name_0 _).mono ?_; rintro e w' ⟨rfl, rfl⟩)
        go_ret2
        exact ⟨rfl, (Below.refl _ _).alloc (Nat.le_refl _) _⟩
    · have hT : E = none := by rw [Ha.out]; rfl
      subst hT
      clear Ha
      by_cases h1 : s.size = 1
      · have hz : ((s.size : Int) == 1) = true := by simp; omega
        have hl : s.data.toList = [s[0]] := by
          have h0 := drop_at s 0 (by omega)
          rw [List.drop_zero] at h0
          rw [h0, drop_none s 1 (by omega)]
        rw [hl] at hv hb
        obtain rfl : (s[0].toNat : Int) = v := hv.out
        obtain rfl : (!blankB s[0]) = b := hb.out
        have H1 : Hid (∀ w : World, Calls Try.prog 45 #[.int .u8 (s[0].toNat : Int)] w fun e w' => e = .returned (.bool (blankB s[0])) ∧ w' = w) := fun w => (blank_any s[0] w).mono fun e w' ⟨h, h2⟩ => ⟨h, h2.symm⟩
        have i0 : (0 : Int) < s.size := by omega
        have hsz := Lib.hid h1
        clear hl hv hb
        go_wp2_with fail
        go_quiet ((go_at_call 45; exact Calls.quiet_of_same (H1.out _)))
        go_wp2_with fail
        go_ret2
        refine ⟨?_, bel_trans (bel_alloc _ _) (bel_drewN _ _)⟩
        show Ending.returned (.tuple #[.int .i64 (wrap64 (s[0].toNat : Int)), .bool (!blankB s[0])]) = _
        rw [IntWalk.wrap64_in _ (by have := s[0].toNat_lt; omega)]
      · have hz : ((s.size : Int) == 1) = false := by simp; omega
        have hl : charV s.data.toList = charV s.data.toList := rfl
        have hv' : v = decV s.data.toList := by
          have h := hv.out
          revert h
          show (match s.data.toList with | [c] => (c.toNat : Int) | _ => decV s.data.toList) = v → _
          split
          · next c e => exact absurd (by rw [← len_of, e]; rfl) h1
          · exact fun h => h.symm
        have hb' : b = decide (0 ≤ decI s.data.toList) := by
          have h := hb.out
          revert h
          show (match s.data.toList with | [c] => !blankB c | _ => decide (0 ≤ decI s.data.toList)) = b → _
          split
          · next c e => exact absurd (by rw [← len_of, e]; rfl) h1
          · exact fun h => h.symm
        subst hv'
        subst hb'
        have hr1 := decI_le s.data.toList
        have hr2 : 0 ≤ decV s.data.toList ∧ decV s.data.toList ≤ 127 := by unfold decV; split <;> omega
        clear hv hb hl hr1
        have hr3 := hr2.1
        have hr4 := hr2.2
        clear hr2
        go_wp2_with fail
        refine (decode_bel s _ Hs.out).mono ?_; rintro e w2 ⟨rfl, hB⟩; have HB := Lib.hid hB; clear hB
        go_wp2_with fail
        go_ret2
        exact ⟨rfl, bel_trans (bel_alloc _ _) HB.out⟩
end Go.Proofs.Ytpeleifkednmoaa.Lx
end
