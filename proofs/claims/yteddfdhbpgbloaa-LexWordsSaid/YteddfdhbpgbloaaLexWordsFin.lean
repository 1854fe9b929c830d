/- P3.1, P3.2: the words of every text, or its first fault and where it is, are the document's, also as far as one goes through them: no condition. -/
import Derived.Test.YteddfdhbpgbloaaLexRef8
import Derived.Test.YteddfdhbpgbloaaLexTold
import Derived.Test.YteddfdhbpgbloaaOrd2
import Derived.Deep.Cut
import Derived.IntWalk
section
namespace Go.Proofs.Yteddfdhbpgbloaa.Lx
open Go.ChangeShapes Go.WideShapes Go.ChangeAt Go.RowKit
set_option linter.unusedVariables false
set_option linter.unusedSimpArgs false

theorem bel_drew' (w : World) : Below w.heap.size w w.drew := ⟨rfl, rfl, rfl, Nat.le_refl _, fun _ _ => rfl⟩
theorem TkIs.take {w : World} {a : Option Addr} {l : List Tk} (h : TkIs w a l) (m : Nat) : TkIs w a (l.take m) := by
  rcases h with h | ⟨g, o, ha, hc⟩
  · exact .inl (by rw [h]; simp)
  · refine .inr ⟨g, o, ha, fun i hi => ?_⟩
    rw [List.getElem_take]
    exact hc i (by rw [List.length_take] at hi; omega)
theorem own_cap {w : World} {B : Nat} {a : Option Addr} {n c : Nat} {xs : List Value} (h : w.ownsRow B 50 5 (.slice a n c) n xs) (m : Nat) : min m n ≤ c := by
  rcases Nat.eq_zero_or_pos n with h0 | h0
  · rw [h0, Nat.min_zero]; exact Nat.zero_le _
  · obtain ⟨g, _, hc, _⟩ := own_some h h0
    omega
set_option maxRecDepth 100000 in
set_option maxHeartbeats 8000000 in
theorem words_law (s : ByteArray) (m : Nat) (w : World) (hs : s.size ≤ maxLen) (hm : m ≤ 255) :
    Calls Try.prog 5 #[.string s, .int .u8 (m : Int)] w fun e w' => e = .returned (.bool true) ∧ Below w.heap.size w w' := by
  have Hs := Lib.hid hs
  unfold maxLen at hs
  by_cases hz : (s.size : Int) > 100000
  · have dz : decide ((s.size : Int) > 100000) = true := by simpa using hz
    clear hz
    go_enter Try.func5, Try.ntmps5
    go_wp2_with fail
    refine (awake_yes _).mono ?_
    rintro e w1 ⟨rfl, hb⟩
    have HW := Lib.hid hb
    clear hb
    go_wp2_with fail
    refine (awake_yes _).mono ?_
    rintro e w2 ⟨rfl, hb⟩
    replace HW := Lib.hid (bel_trans HW.out hb)
    clear hb
    go_wp2_with fail
    go_ret
    exact ⟨rfl, HW.out⟩
  · have dz : decide ((s.size : Int) > 100000) = false := by simpa using hz
    have HWA := Lib.hid (words_any s · Hs.out)
    have HWB := Lib.hid (rwords_any s · Hs.out)
    have hfew := words_few s.data.toList
    obtain ⟨T, hT⟩ : ∃ T, wordsR s.data.toList = T := ⟨_, rfl⟩
    rw [hT] at HWA HWB hfew
    have HTT : Hid (T.toks = (wordsR s.data.toList).toks) := by rw [hT]; exact rfl
    clear hT
    have hlen : T.toks.length ≤ 140737488351232 := by omega
    obtain ⟨U, hu⟩ : ∃ U, T.toks.take m = U := ⟨_, rfl⟩
    have hul : U.length = min m T.toks.length := by rw [← hu, List.length_take]
    have hU := Lib.hid hu
    clear hu
    have hlk : U.length ≤ 140737488351232 := by omega
    have hmn : min (T.toks.length : Int) (m : Int) = (U.length : Int) := by omega
    have e1 : (T.p == T.p) = true := by simp
    have e2 : (T.e == T.e) = true := by simp
    go_enter Try.func5, Try.ntmps5
    go_wp2_with fail
    refine (awake_yes _).mono ?_
    rintro e w1 ⟨rfl, hb⟩
    have HW := Lib.hid hb
    clear hb
    go_wp2_with fail
    refine (HWA.out _).mono ?_
    rintro e w2 ⟨xa, xc, rfl, hb, hown⟩
    have HX := Lib.hid (TkIs.of_own hown)
    replace HW := Lib.hid (bel_trans HW.out hb)
    clear hb hown
    go_wp2_with fail
    refine (HWB.out _).mono ?_
    rintro e w3 ⟨ya, yc, rfl, hb, hown⟩
    replace HX := Lib.hid (HX.out.bel hb)
    have HY := Lib.hid (TkIs.of_own hown)
    have hyc : U.length ≤ yc := by rw [hul]; exact own_cap hown m
    clear hul
    replace HW := Lib.hid (bel_trans HW.out hb)
    clear hb hown HWA HWB
    go_wp2_with fail
    replace HX := Lib.hid (HX.out.bel (bel_drew' w3))
    replace HY := Lib.hid (HY.out.bel (bel_drew' w3))
    replace HW := Lib.hid (bel_trans HW.out (bel_drew' w3))
    refine Od.till_region 36 (fun _ : World => True) (fun _ : World => True) 36 (by kernel_rfl) rfl ?_
    simp only [Array.replicate_succ, Array.replicate_zero, List.push_toArray, List.nil_append, List.cons_append]
    refine Od.Till.takeT (i := 0) (d := 31) (v := .slice xa T.toks.length xc) rfl rfl (by kernel_rfl) (by kernel_rfl) (by kernel_rfl) (by kernel_rfl) (fun _ _ _ h => h) (.inl ⟨by rfl, ?_⟩) trivial trivial ?_
    · intro wx hSw
      clear hSw
      go_simp
    simp only [Act.put, List.setIfInBounds_toArray, List.set_cons_zero, List.set_cons_succ]
    refine Od.Till.takeT (i := 1) (d := 32) (v := .slice ya T.toks.length yc) rfl rfl (by kernel_rfl) (by kernel_rfl) (by kernel_rfl) (by kernel_rfl) (fun _ _ _ h => h) (.inl ⟨by rfl, ?_⟩) trivial trivial ?_
    · intro wx hSw
      clear hSw
      go_simp
    simp only [Act.put, List.setIfInBounds_toArray, List.set_cons_zero, List.set_cons_succ]
    refine Od.Till.one (i := 2) (by kernel_rfl) rfl (fun K hK => ?_)
    rw [if_pos (by kernel_rfl)]
    go_simp
    refine (same_bel T.toks xa ya xc yc _ HX.out HY.out hlen).mono ?_
    rintro e4 w4 ⟨rfl, hb⟩
    replace HX := Lib.hid (HX.out.bel hb)
    replace HY := Lib.hid (HY.out.bel hb)
    replace HW := Lib.hid (bel_trans HW.out hb)
    clear hb
    refine hK.out _ _ ⟨fun _ => trivial, trivial⟩ ?_
    clear hK K
    simp only [Act.put, List.setIfInBounds_toArray, List.set_cons_zero, List.set_cons_succ]
    refine Od.Till.takeT (i := 3) (d := 34) (v := .bool true) rfl rfl (by kernel_rfl) (by kernel_rfl) (by kernel_rfl) (by kernel_rfl) (fun _ _ _ h => h) (.inl ⟨by rfl, ?_⟩) trivial trivial ?_
    · intro wx hSw
      clear hSw
      go_simp
    simp only [Act.put, List.setIfInBounds_toArray, List.set_cons_zero, List.set_cons_succ]
    refine Od.Till.takeT (i := 4) (d := 35) (v := .int .i64 T.p) rfl rfl (by kernel_rfl) (by kernel_rfl) (by kernel_rfl) (by kernel_rfl) (fun _ _ _ h => h) (.inl ⟨by rfl, ?_⟩) trivial trivial ?_
    · intro wx hSw
      clear hSw
      go_simp
    simp only [Act.put, List.setIfInBounds_toArray, List.set_cons_zero, List.set_cons_succ]
    refine Od.Till.takeT (i := 5) (d := 36) (v := .int .i64 T.p) rfl rfl (by kernel_rfl) (by kernel_rfl) (by kernel_rfl) (by kernel_rfl) (fun _ _ _ h => h) (.inl ⟨by rfl, ?_⟩) trivial trivial ?_
    · intro wx hSw
      clear hSw
      go_simp
    simp only [Act.put, List.setIfInBounds_toArray, List.set_cons_zero, List.set_cons_succ]
    refine Od.Till.takeT (i := 6) (d := 37) (v := .bool true) rfl rfl (by kernel_rfl) (by kernel_rfl) (by kernel_rfl) (by kernel_rfl) (fun _ _ _ h => h) (.inl ⟨by rfl, ?_⟩) trivial trivial ?_
    · intro wx hSw
      clear hSw
      go_simp
    simp only [Act.put, List.setIfInBounds_toArray, List.set_cons_zero, List.set_cons_succ]
    refine Od.Till.takeT (i := 7) (d := 38) (v := .bool true) rfl rfl (by kernel_rfl) (by kernel_rfl) (by kernel_rfl) (by kernel_rfl) (fun _ _ _ h => h) (.inl ⟨by rfl, ?_⟩) trivial trivial ?_
    · intro wx hSw
      clear hSw
      go_simp
    simp only [Act.put, List.setIfInBounds_toArray, List.set_cons_zero, List.set_cons_succ]
    refine Od.Till.takeT (i := 8) (d := 39) (v := .bool true) rfl rfl (by kernel_rfl) (by kernel_rfl) (by kernel_rfl) (by kernel_rfl) (fun _ _ _ h => h) (.inl ⟨by rfl, ?_⟩) trivial trivial ?_
    · intro wx hSw
      clear hSw
      go_simp
    simp only [Act.put, List.setIfInBounds_toArray, List.set_cons_zero, List.set_cons_succ]
    refine Od.Till.takeT (i := 9) (d := 40) (v := .int .i64 T.e) rfl rfl (by kernel_rfl) (by kernel_rfl) (by kernel_rfl) (by kernel_rfl) (fun _ _ _ h => h) (.inl ⟨by rfl, ?_⟩) trivial trivial ?_
    · intro wx hSw
      clear hSw
      go_simp
    simp only [Act.put, List.setIfInBounds_toArray, List.set_cons_zero, List.set_cons_succ]
    refine Od.Till.takeT (i := 10) (d := 41) (v := .int .i64 T.e) rfl rfl (by kernel_rfl) (by kernel_rfl) (by kernel_rfl) (by kernel_rfl) (fun _ _ _ h => h) (.inl ⟨by rfl, ?_⟩) trivial trivial ?_
    · intro wx hSw
      clear hSw
      go_simp
    simp only [Act.put, List.setIfInBounds_toArray, List.set_cons_zero, List.set_cons_succ]
    refine Od.Till.takeT (i := 11) (d := 42) (v := .bool true) rfl rfl (by kernel_rfl) (by kernel_rfl) (by kernel_rfl) (by kernel_rfl) (fun _ _ _ h => h) (.inl ⟨by rfl, ?_⟩) trivial trivial ?_
    · intro wx hSw
      clear hSw
      go_simp
    simp only [Act.put, List.setIfInBounds_toArray, List.set_cons_zero, List.set_cons_succ]
    refine Od.Till.takeT (i := 12) (d := 43) (v := .bool true) rfl rfl (by kernel_rfl) (by kernel_rfl) (by kernel_rfl) (by kernel_rfl) (fun _ _ _ h => h) (.inl ⟨by rfl, ?_⟩) trivial trivial ?_
    · intro wx hSw
      clear hSw
      go_simp
    simp only [Act.put, List.setIfInBounds_toArray, List.set_cons_zero, List.set_cons_succ]
    refine Od.Till.takeT (i := 13) (d := 44) (v := .bool true) rfl rfl (by kernel_rfl) (by kernel_rfl) (by kernel_rfl) (by kernel_rfl) (fun _ _ _ h => h) (.inl ⟨by rfl, ?_⟩) trivial trivial ?_
    · intro wx hSw
      clear hSw
      go_simp
    simp only [Act.put, List.setIfInBounds_toArray, List.set_cons_zero, List.set_cons_succ]
    refine Od.Till.takeT (i := 14) (d := 45) (v := .string s) rfl rfl (by kernel_rfl) (by kernel_rfl) (by kernel_rfl) (by kernel_rfl) (fun _ _ _ h => h) (.inl ⟨by rfl, ?_⟩) trivial trivial ?_
    · intro wx hSw
      clear hSw
      go_simp
    simp only [Act.put, List.setIfInBounds_toArray, List.set_cons_zero, List.set_cons_succ]
    refine Od.Till.takeT (i := 17) (d := 48) (v := .slice ya T.toks.length yc) rfl rfl (by kernel_rfl) (by kernel_rfl) (by kernel_rfl) (by kernel_rfl) (fun _ _ _ h => h) (.inl ⟨by rfl, ?_⟩) trivial trivial ?_
    · intro wx hSw
      clear hSw
      go_simp
    simp only [Act.put, List.setIfInBounds_toArray, List.set_cons_zero, List.set_cons_succ]
    refine Od.Till.one (i := 15) (by kernel_rfl) rfl (fun K hK => ?_)
    rw [if_pos (by kernel_rfl)]
    go_simp
    refine (all_new s _).mono ?_
    rintro e4 w5 ⟨rfl, hbw⟩
    have hb : Below w4.heap.size w4 w5 := by rw [hbw]; exact bel_alloc w4 _
    have hbox : w5.cell? ⟨w4.heap.size, 0, none⟩ = some (.string s) := by rw [hbw]; exact (Boxed.new w4 _ _).cell
    have hlt : w4.heap.size < w5.heap.size := by rw [hbw]; simp
    clear hbw
    replace HX := Lib.hid (HX.out.bel hb)
    replace HY := Lib.hid (HY.out.bel hb)
    replace HW := Lib.hid (bel_trans HW.out hb)
    clear hb
    refine hK.out _ _ ⟨fun _ => trivial, trivial⟩ ?_
    clear hK K
    simp only [Act.put, List.setIfInBounds_toArray, List.set_cons_zero, List.set_cons_succ]
    refine Od.Till.one (i := 16) (by kernel_rfl) rfl (fun K hK => ?_)
    rw [if_pos (by kernel_rfl)]
    go_simp
    refine (told_any s Hs.out 1048576 _ (by decide) _ hlt hbox T.toks HTT).mono ?_
    rintro e4 w6 ⟨ra, rc, rfl, hb, hown⟩
    rw [List.take_of_length_le (show T.toks.length ≤ 1048576 by omega)] at hown ⊢
    have HR := Lib.hid (TkIs.of_own hown)
    replace HX := Lib.hid (HX.out.bel hb)
    replace HY := Lib.hid (HY.out.bel hb)
    replace HW := Lib.hid (bel_trans HW.out hb)
    clear hb hown hbox hlt
    refine hK.out _ _ ⟨fun _ => trivial, trivial⟩ ?_
    clear hK K
    simp only [Act.put, List.setIfInBounds_toArray, List.set_cons_zero, List.set_cons_succ]
    refine Od.Till.one (i := 18) (by kernel_rfl) rfl (fun K hK => ?_)
    rw [if_pos (by kernel_rfl)]
    go_simp
    refine (same_bel T.toks ra ya rc yc _ HR.out HY.out hlen).mono ?_
    rintro e4 w7 ⟨rfl, hb⟩
    replace HX := Lib.hid (HX.out.bel hb)
    replace HY := Lib.hid (HY.out.bel hb)
    replace HW := Lib.hid (bel_trans HW.out hb)
    clear hb
    refine hK.out _ _ ⟨fun _ => trivial, trivial⟩ ?_
    clear hK K
    simp only [Act.put, List.setIfInBounds_toArray, List.set_cons_zero, List.set_cons_succ]
    refine Od.Till.takeT (i := 19) (d := 50) (v := .bool true) rfl rfl (by kernel_rfl) (by kernel_rfl) (by kernel_rfl) (by kernel_rfl) (fun _ _ _ h => h) (.inl ⟨by rfl, ?_⟩) trivial trivial ?_
    · intro wx hSw
      clear hSw
      go_simp
    simp only [Act.put, List.setIfInBounds_toArray, List.set_cons_zero, List.set_cons_succ]
    refine Od.Till.takeT (i := 20) (d := 51) (v := .bool true) rfl rfl (by kernel_rfl) (by kernel_rfl) (by kernel_rfl) (by kernel_rfl) (fun _ _ _ h => h) (.inl ⟨by rfl, ?_⟩) trivial trivial ?_
    · intro wx hSw
      clear hSw
      go_simp
    simp only [Act.put, List.setIfInBounds_toArray, List.set_cons_zero, List.set_cons_succ]
    refine Od.Till.takeT (i := 21) (d := 52) (v := .string s) rfl rfl (by kernel_rfl) (by kernel_rfl) (by kernel_rfl) (by kernel_rfl) (fun _ _ _ h => h) (.inl ⟨by rfl, ?_⟩) trivial trivial ?_
    · intro wx hSw
      clear hSw
      go_simp
    simp only [Act.put, List.setIfInBounds_toArray, List.set_cons_zero, List.set_cons_succ]
    refine Od.Till.takeT (i := 23) (d := 54) (v := .int .u8 (m : Int)) rfl rfl (by kernel_rfl) (by kernel_rfl) (by kernel_rfl) (by kernel_rfl) (fun _ _ _ h => h) (.inl ⟨by rfl, ?_⟩) trivial trivial ?_
    · intro wx hSw
      clear hSw
      go_simp
    simp only [Act.put, List.setIfInBounds_toArray, List.set_cons_zero, List.set_cons_succ]
    refine Od.Till.takeT (i := 24) (d := 55) (v := .int .i64 (m : Int)) rfl rfl (by kernel_rfl) (by kernel_rfl) (by kernel_rfl) (by kernel_rfl) (fun _ _ _ h => h) (.inl ⟨by rfl, ?_⟩) trivial trivial ?_
    · intro wx hSw
      clear hSw
      go_simp; exact IntWalk.i64_in _ (by omega)
    simp only [Act.put, List.setIfInBounds_toArray, List.set_cons_zero, List.set_cons_succ]
    refine Od.Till.takeT (i := 26) (d := 57) (v := .slice ya T.toks.length yc) rfl rfl (by kernel_rfl) (by kernel_rfl) (by kernel_rfl) (by kernel_rfl) (fun _ _ _ h => h) (.inl ⟨by rfl, ?_⟩) trivial trivial ?_
    · intro wx hSw
      clear hSw
      go_simp
    simp only [Act.put, List.setIfInBounds_toArray, List.set_cons_zero, List.set_cons_succ]
    refine Od.Till.takeT (i := 27) (d := 58) (v := .slice ya T.toks.length yc) rfl rfl (by kernel_rfl) (by kernel_rfl) (by kernel_rfl) (by kernel_rfl) (fun _ _ _ h => h) (.inl ⟨by rfl, ?_⟩) trivial trivial ?_
    · intro wx hSw
      clear hSw
      go_simp
    simp only [Act.put, List.setIfInBounds_toArray, List.set_cons_zero, List.set_cons_succ]
    refine Od.Till.takeT (i := 28) (d := 59) (v := .int .i64 (T.toks.length : Int)) rfl rfl (by kernel_rfl) (by kernel_rfl) (by kernel_rfl) (by kernel_rfl) (fun _ _ _ h => h) (.inl ⟨by rfl, ?_⟩) trivial trivial ?_
    · intro wx hSw
      clear hSw
      go_simp
    simp only [Act.put, List.setIfInBounds_toArray, List.set_cons_zero, List.set_cons_succ]
    refine Od.Till.takeT (i := 29) (d := 60) (v := .int .u8 (m : Int)) rfl rfl (by kernel_rfl) (by kernel_rfl) (by kernel_rfl) (by kernel_rfl) (fun _ _ _ h => h) (.inl ⟨by rfl, ?_⟩) trivial trivial ?_
    · intro wx hSw
      clear hSw
      go_simp
    simp only [Act.put, List.setIfInBounds_toArray, List.set_cons_zero, List.set_cons_succ]
    refine Od.Till.takeT (i := 30) (d := 61) (v := .int .i64 (m : Int)) rfl rfl (by kernel_rfl) (by kernel_rfl) (by kernel_rfl) (by kernel_rfl) (fun _ _ _ h => h) (.inl ⟨by rfl, ?_⟩) trivial trivial ?_
    · intro wx hSw
      clear hSw
      go_simp; exact IntWalk.i64_in _ (by omega)
    simp only [Act.put, List.setIfInBounds_toArray, List.set_cons_zero, List.set_cons_succ]
    refine Od.Till.takeT (i := 31) (d := 62) (v := .int .i64 (U.length : Int)) rfl rfl (by kernel_rfl) (by kernel_rfl) (by kernel_rfl) (by kernel_rfl) (fun _ _ _ h => h) (.inl ⟨by rfl, ?_⟩) trivial trivial ?_
    · intro wx hSw
      clear hSw
      go_simp
    simp only [Act.put, List.setIfInBounds_toArray, List.set_cons_zero, List.set_cons_succ]
    refine Od.Till.takeT (i := 32) (d := 63) (v := .slice ya U.length yc) rfl rfl (by kernel_rfl) (by kernel_rfl) (by kernel_rfl) (by kernel_rfl) (fun _ _ _ h => h) (.inl ⟨by rfl, ?_⟩) trivial trivial ?_
    · intro wx hSw
      clear hSw
      go_simp; try rw [if_pos hyc]
    simp only [Act.put, List.setIfInBounds_toArray, List.set_cons_zero, List.set_cons_succ]
    refine Od.Till.one (i := 22) (by kernel_rfl) rfl (fun K hK => ?_)
    rw [if_pos (by kernel_rfl)]
    go_simp
    refine (all_new s _).mono ?_
    rintro e4 w8 ⟨rfl, hbw⟩
    have hb : Below w7.heap.size w7 w8 := by rw [hbw]; exact bel_alloc w7 _
    have hbox : w8.cell? ⟨w7.heap.size, 0, none⟩ = some (.string s) := by rw [hbw]; exact (Boxed.new w7 _ _).cell
    have hlt : w7.heap.size < w8.heap.size := by rw [hbw]; simp
    clear hbw
    replace HX := Lib.hid (HX.out.bel hb)
    replace HY := Lib.hid (HY.out.bel hb)
    replace HW := Lib.hid (bel_trans HW.out hb)
    clear hb
    refine hK.out _ _ ⟨fun _ => trivial, trivial⟩ ?_
    clear hK K
    simp only [Act.put, List.setIfInBounds_toArray, List.set_cons_zero, List.set_cons_succ]
    refine Od.Till.one (i := 25) (by kernel_rfl) rfl (fun K hK => ?_)
    rw [if_pos (by kernel_rfl)]
    go_simp
    refine (told_any s Hs.out m _ (by omega) _ hlt hbox T.toks HTT).mono ?_
    rintro e4 w9 ⟨qa, qc, rfl, hb, hown⟩
    rw [hU.out] at hown ⊢
    have HQ := Lib.hid (TkIs.of_own hown)
    replace HX := Lib.hid (HX.out.bel hb)
    replace HY := Lib.hid (HY.out.bel hb)
    replace HW := Lib.hid (bel_trans HW.out hb)
    clear hb hown hbox hlt
    refine hK.out _ _ ⟨fun _ => trivial, trivial⟩ ?_
    clear hK K
    simp only [Act.put, List.setIfInBounds_toArray, List.set_cons_zero, List.set_cons_succ]
    refine Od.Till.one (i := 33) (by kernel_rfl) rfl (fun K hK => ?_)
    rw [if_pos (by kernel_rfl)]
    go_simp
    have HZ := Lib.hid (hU.out ▸ HY.out.take m)
    refine (same_bel U qa ya qc yc _ HQ.out HZ.out hlk).mono ?_
    rintro e4 w10 ⟨rfl, hb⟩
    replace HX := Lib.hid (HX.out.bel hb)
    replace HY := Lib.hid (HY.out.bel hb)
    replace HW := Lib.hid (bel_trans HW.out hb)
    clear hb
    refine hK.out _ _ ⟨fun _ => trivial, trivial⟩ ?_
    clear hK K
    simp only [Act.put, List.setIfInBounds_toArray, List.set_cons_zero, List.set_cons_succ]
    refine Od.Till.takeT (i := 34) (d := 65) (v := .bool true) rfl rfl (by kernel_rfl) (by kernel_rfl) (by kernel_rfl) (by kernel_rfl) (fun _ _ _ h => h) (.inl ⟨by rfl, ?_⟩) trivial trivial ?_
    · intro wx hSw
      clear hSw
      go_simp
    simp only [Act.put, List.setIfInBounds_toArray, List.set_cons_zero, List.set_cons_succ]
    refine Od.Till.takeT (i := 35) (d := 4) (v := .bool true) rfl rfl (by kernel_rfl) (by kernel_rfl) (by kernel_rfl) (by kernel_rfl) (fun _ _ _ h => h) (.inl ⟨by rfl, ?_⟩) trivial trivial ?_
    · intro wx hSw
      clear hSw
      go_simp
    simp only [Act.put, List.setIfInBounds_toArray, List.set_cons_zero, List.set_cons_succ]
    refine Od.Till.done (by kernel_rfl) ?_
    go_wp2_with fail
    go_ret
    exact ⟨rfl, HW.out⟩
theorem words_walk (s : ByteArray) (m : Int) (w : World) (hs : s.size ≤ maxLen) (hm : (Lit.int .u8 m).wf = true) :
    Calls Try.prog 5 #[.string s, .int .u8 m] w fun e w' => e = .returned (.bool true) ∧ Below w.heap.size w w' := by
  obtain ⟨h0, h1⟩ := bounds_u8 hm
  obtain ⟨k, rfl⟩ := Int.eq_ofNat_of_zero_le h0
  exact words_law s k w hs (by omega)
end Go.Proofs.Yteddfdhbpgbloaa.Lx
end
section
namespace Go.Proofs.Yteddfdhbpgbloaa.lexWords
open Go.ChangeShapes Go.WideShapes Go.ChangeAt Go.RowKit
open Go.ChangeMaps (open_string shut_string)
set_option linter.unusedVariables false

theorem own : ownKnob Try.prog.godebug = none := by kernel_rfl
set_option maxRecDepth 100000 in
theorem lifted (os : Os) (started : os.Started) (H : Type) (enc : TypeId × Value → H) :
    ReturnsInHanded {} Try.checked os 5 .any (Rows.lexWordsSpec.pre6 enc Try.prog Try.f5 Rows.lexWordsRow.domain false) (Rows.lexWordsSpec.post enc Try.prog Try.f5 false true false false) := by
  refine returnsInHanded_of_change (C := Try.checked) own started (by kernel_rfl) Try.func5
    (ChangeSpec.witness6 (enc := enc) (C := Try.checked) false ⟨#[], #[.string ByteArray.empty, .int .u8 0], []⟩ 8 (by kernel_rfl) (by kernel_rfl) (by kernel_rfl) (by kernel_rfl)) ?_
  intro W base args ds gs before hval0 hW hcnd _
  have hval : ∀ (j : Nat) t v, Try.f5.params[j]? = some t → args[j]? = some v → Value.okWide Try.prog W .any base t v := hval0
  have hW' := hW
  obtain ⟨p, q, hA0, hV, rfl, hfz, hnd⟩ := hW
  have hA : DataW.TrodAll enc Try.prog W 0 (fun _ => true) true Try.f5.params.toList args.toList ds p := hA0
  rw [Try.params5] at hA hval
  obtain ⟨v0, vs0, d0, ds0, p0, q0, hargs, rfl, rfl, h0, r0⟩ := trodAll_cons hA
  obtain ⟨v1, vs1, d1, ds1, p1, q1, rfl, rfl, rfl, h1, r1⟩ := trodAll_cons r0
  obtain ⟨rfl, rfl, rfl⟩ := trodAll_nil r1
  obtain rfl : args = #[v0, v1] := by cases args; simp_all
  obtain ⟨rfl, rfl⟩ := trodVars_none hV
  obtain ⟨a0, rfl, rfl, rfl, w0⟩ := open_string Try.underlying9 (hval 0 9 v0 rfl rfl) h0
  obtain ⟨a1, rfl, rfl, rfl, w1⟩ := open_int Try.underlying5 (hval 1 5 v1 rfl rfl) h1
  clear hA0 hval0
  refine (Lx.words_walk a0 a1 W w0 w1).mono fun e W' ⟨he, bel⟩ => ?_
  subst he
  exact ⟨_, rfl, _, _, _, [], _, [], hW', trodAll_mk1 (shut_bool Try.underlying4 _), (trodAll_cons_mk (shut_string Try.underlying9 w0) (trodAll_cons_mk (shut_int Try.underlying5 w1) trodAll_mk0)), rfl, bel.frame _, fun h => by cases h⟩

theorem over : Rows.lexWordsRow.holds Try.pinned (OpenSpec.ofChange Rows.lexWordsSpec) :=
  OpenClaim.holds_of_wide 5 Try.f5 rfl rfl rfl rfl rfl rfl rfl ⟨rfl, rfl, rfl, rfl, rfl⟩ rfl rfl rfl rfl rfl (by kernel_rfl) Try.func5 (by kernel_rfl)
    (of_decide_eq_true (by kernel_rfl)) (by unfold Func.isWrapper; first | (rw [if_pos (by decide +kernel)]; kernel_rfl) | (rw [if_neg (by decide +kernel)]; exact ⟨rfl, rfl⟩))
    (fun os started H enc _ => lifted os started H enc)

theorem proved : Rows.LexWordsSaid := over
#print axioms proved
end Go.Proofs.Yteddfdhbpgbloaa.lexWords
end
