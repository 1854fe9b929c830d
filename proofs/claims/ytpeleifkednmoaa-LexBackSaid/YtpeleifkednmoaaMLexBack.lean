/- P3.4: words that have a text are read of it as they were, but for their places; and what is read of a text has a text of which the same is read: no condition. -/
import Derived.Test.YtpeleifkednmoaaMLexBackMath3
import Derived.Test.YtpeleifkednmoaaMLexOpen
section
section
namespace Go.Proofs.Ytpeleifkednmoaa.Lx
open Go.ChangeShapes Go.WideShapes Go.ChangeAt Go.RowKit
set_option linter.unusedVariables false
set_option linter.unusedSimpArgs false
set_option maxRecDepth 100000 in
set_option maxHeartbeats 2000000 in
theorem bare_nil (a : Option Addr) (ca : Nat) (w : World) :
    Calls Try.prog 13 #[.slice a 0 ca] w (RowR [] w) := by
  obtain ⟨i0, hi, hz0, hz1, hz2⟩ := info_parts tok_info
  cases a with
  | none =>
    go_enter Try.func13, Try.ntmps13
    go_wp2_with fail
    go_loop [9] (fun i => i = .int .i64 0) (fun _ => 0)
    case atStart => rfl
    case round =>
      subst hrel
      go_wp2
      go_ret
      exact ⟨none, 0, rfl, Below.refl _ _, World.ownsRow_nil _ _ _ _⟩
  | some ad =>
    go_enter Try.func13, Try.ntmps13
    go_wp2_with (at_builtin; refine wpList_append_own _ rfl (.const (.slice none 0 0)) (.tmp 5) 22 rfl w.heap.size 26 i0 (.agg #[.int .i64 0, .int .i64 0, .int .i64 0, .int .i64 0, .string ⟨#[]⟩]) 5 48 Try.underlying22 hi hz0 hz1 hz2 rfl (by omega) _ 0 [] rfl (World.ownsRow_nil _ _ _ _) ad 0 ca [] rfl rfl (by simp) (by simp) (by simp only [maxLen]; omega) (by omega) (Nat.le_refl _) ?_; intro v' w1 hown1 hg1 hn; obtain rfl := hn.2 ⟨rfl, rfl⟩)
    have hb1 : Below w.heap.size w w1 := (Below.refl _ _).grown hg1 (Nat.le_refl _) (fun k h => by cases h)
    have HB := Lib.hid hb1
    clear hb1 hg1 hown1 hn
    go_loop [9] (fun i => i = .int .i64 0) (fun _ => 0)
    case atStart => rfl
    case round =>
      subst hrel
      go_wp2
      go_ret
      exact ⟨none, 0, rfl, HB.out, World.ownsRow_nil _ _ _ _⟩
theorem bare_all (l : List Tk) (a : Option Addr) (ca : Nat) (w : World) (ha : TkIs w a l) (hl : l.length ≤ 10000) :
    Calls Try.prog 13 #[.slice a l.length ca] w (RowR (l.map Tk.bare) w) := by
  cases l with
  | nil => exact bare_nil a ca w
  | cons t r => exact bare_any (t :: r) a ca w ha hl (by simp)
theorem bare_at (l Z : List Tk) (a : Option Addr) (ca : Nat) (w : World) (ha : TkIs w a l) (hl : l.length ≤ 10000) (hZ : Hid (l.map Tk.bare = Z)) :
    Calls Try.prog 13 #[.slice a l.length ca] w fun e w' => ∃ b c, e = .returned (.slice b Z.length c) ∧ Below w.heap.size w w' ∧ TkIs w' b Z := by
  rw [← hZ.out]
  exact (bare_all l a ca w ha hl).mono fun e w' ⟨b, c, he, hb, ho⟩ => ⟨b, c, he, hb, TkIs.of_own ho⟩
theorem words_at (s : ByteArray) (Y : List Tk) (p e : Int) (w : World) (h : Hid (wordsR s.data.toList = ⟨Y, p, e⟩)) (hs : s.size ≤ maxLen) :
    Calls Try.prog 11 #[.string s] w fun e' w' => ∃ a c, e' = .returned (.tuple #[.slice a Y.length c, .int .i64 p, .int .i64 e]) ∧ Below w.heap.size w w' ∧ TkIs w' a Y := by
  have := words_any s w hs
  rw [h.out] at this
  exact this.mono fun e' w' ⟨a, c, he, hb, ho⟩ => ⟨a, c, he, hb, TkIs.of_own ho⟩
theorem few_of {s : Bs} {Y : List Tk} {p e : Int} (h : Hid (wordsR s = ⟨Y, p, e⟩)) : Y.length ≤ 4096 := by
  have := words_fewB s
  rw [h.out] at this
  exact this
theorem join_atB (l : List Tk) (a : Option Addr) (c : Nat) (w : World) (ha : TkIs w a l) (ht : ∀ t ∈ l, TkW t) (hl : l.length ≤ 140737488351232) (X : ByteArray) (E : Int) (hX : Hid ((⟨(joinTk l).1.toArray⟩ : ByteArray) = X)) (hE : Hid ((joinTk l).2 = E)) :
    Calls Try.prog 9 #[.slice a l.length c] w fun e w' => e = .returned (.tuple #[.string X, .int .i64 E]) ∧ Below w.heap.size w w' := by
  rw [← hX.out, ← hE.out]
  exact join_any l a c w ha ht hl
theorem join_size {l : List Tk} {J : Bs} (h : joinTk l = (J, 0)) : (⟨J.toArray⟩ : ByteArray).size ≤ maxLen := by
  rw [show (⟨J.toArray⟩ : ByteArray).size = J.length from List.size_toArray]
  unfold joinTk at h
  unfold maxLen
  by_cases h1 : 4096 < l.length
  · rw [if_pos h1] at h; injection h with _ h; exact absurd h (by decide)
  · rw [if_neg h1] at h
    by_cases h2 : firstE l ≠ 0
    · rw [if_pos h2] at h; injection h with _ h; exact absurd h h2
    · rw [if_neg h2] at h
      by_cases h3 : 16384 < (joinL l).length
      · rw [if_pos h3] at h; injection h with _ h; exact absurd h (by decide)
      · rw [if_neg h3] at h
        injection h with h _
        rw [← h]; omega
set_option maxRecDepth 100000 in
set_option maxHeartbeats 8000000 in
theorem back_law (l : List Tk) (a : Option Addr) (c : Nat) (s : ByteArray) (w : World) (ha : TkIs w a l) (hA : ∀ t ∈ l, TkA t) (hl : l.length ≤ 140737488351232) (hs : s.size ≤ maxLen) :
    Calls Try.prog 4 #[.slice a l.length c, .string s] w fun e w' => e = .returned (.bool true) ∧ Below w.heap.size w w' := by
  have HA := Lib.hid ha
  have HAA := Lib.hid hA
  have Hs := Lib.hid hs
  clear ha hA hs
  cases hsb : shortB l
  · have HS := Lib.hid hsb
    clear hsb
    go_enter Try.func4, Try.ntmps4
    go_wp2_with fail
    refine (awake_yes _).mono ?_
    rintro e w1 ⟨rfl, hb⟩
    have HW := Lib.hid hb
    replace HA := Lib.hid (HA.out.bel hb)
    clear hb
    go_wp2_with fail
    refine (short_any l a c _ HA.out hl false HS).mono ?_
    rintro e w2 ⟨rfl, hb⟩
    replace HW := Lib.hid (bel_trans HW.out hb)
    clear hb
    go_wp2_with fail
    refine (awake_yes _).mono ?_
    rintro e w3 ⟨rfl, hb⟩
    replace HW := Lib.hid (bel_trans HW.out hb)
    clear hb
    go_wp2_with fail
    go_ret
    exact ⟨rfl, HW.out⟩
  have HS := Lib.hid hsb
  have HT := Lib.hid (short_w hsb HAA.out)
  have hl4 := (short_len hsb).1
  clear hsb HAA
  by_cases hz : (s.size : Int) > 100000
  · have dz : decide ((s.size : Int) > 100000) = true := by simpa using hz
    clear hz
    go_enter Try.func4, Try.ntmps4
    go_wp2_with fail
    refine (awake_yes _).mono ?_
    rintro e w1 ⟨rfl, hb⟩
    have HW := Lib.hid hb
    replace HA := Lib.hid (HA.out.bel hb)
    clear hb
    go_wp2_with fail
    refine (short_any l a c _ HA.out hl true HS).mono ?_
    rintro e w2 ⟨rfl, hb⟩
    replace HW := Lib.hid (bel_trans HW.out hb)
    clear hb
    go_wp2_with fail
    refine (awake_yes _).mono ?_
    rintro e w3 ⟨rfl, hb⟩
    replace HW := Lib.hid (bel_trans HW.out hb)
    clear hb
    go_wp2_with fail
    go_ret
    exact ⟨rfl, HW.out⟩
  have dz : decide ((s.size : Int) > 100000) = false := by simpa using hz
  clear hz
  obtain ⟨Y2, p2, e2, hR2⟩ : ∃ Y2 p2 e2, wordsR s.data.toList = ⟨Y2, p2, e2⟩ := ⟨_, _, _, rfl⟩
  have HR2 := Lib.hid hR2
  clear hR2
  obtain ⟨J, hJ⟩ : ∃ J, joinTk l = J := ⟨_, rfl⟩
  obtain ⟨X, hX⟩ : ∃ X, (⟨J.1.toArray⟩ : ByteArray) = X := ⟨_, rfl⟩
  obtain ⟨E, hE⟩ : ∃ E, J.2 = E := ⟨_, rfl⟩
  have HX : Hid ((⟨(joinTk l).1.toArray⟩ : ByteArray) = X) := Lib.hid (by rw [hJ, hX])
  have HE : Hid ((joinTk l).2 = E) := Lib.hid (by rw [hJ, hE])
  go_enter Try.func4, Try.ntmps4
  go_wp2_with fail
  refine (awake_yes _).mono ?_
  rintro e w1 ⟨rfl, hb⟩
  have HW := Lib.hid hb
  replace HA := Lib.hid (HA.out.bel hb)
  clear hb
  go_wp2_with fail
  refine (short_any l a c _ HA.out hl true HS).mono ?_
  rintro e w2 ⟨rfl, hb⟩
  replace HW := Lib.hid (bel_trans HW.out hb)
  replace HA := Lib.hid (HA.out.bel hb)
  clear hb
  go_wp2_with fail
  refine (join_atB l a c _ HA.out HT.out hl X E HX HE).mono ?_
  rintro e w3 ⟨rfl, hb⟩
  replace HW := Lib.hid (bel_trans HW.out hb)
  replace HA := Lib.hid (HA.out.bel hb)
  clear hb
  by_cases hE0 : E = 0
  · subst hE0
    have hjk : joinTk l = (J.1, 0) := by rw [hJ, ← hE]
    obtain ⟨Y, hY, hbY⟩ := words_join hjk
    have hxl : X.data.toList = J.1 := by rw [← hX]
    have HR : Hid (wordsR X.data.toList = ⟨Y, 0, 0⟩) := Lib.hid (by rw [hxl, hY])
    have HSX : Hid (X.size ≤ maxLen) := Lib.hid (by rw [← hX]; exact join_size hjk)
    have hfew := few_of HR
    obtain ⟨Z, hZ⟩ : ∃ Z, l.map Tk.bare = Z := ⟨_, rfl⟩
    have HZ := Lib.hid hZ
    have HZY : Hid (Y.map Tk.bare = Z) := Lib.hid (by rw [hbY, hZ])
    have hzl : Z.length ≤ 140737488351232 := by rw [← hZ, List.length_map]; omega
    clear hjk hY hbY hxl hX hJ hE hZ HX HE
    go_wp2_with fail
    refine (words_at X Y 0 0 _ HR HSX.out).mono ?_
    rintro e w4 ⟨qa, qc, rfl, hb, hq⟩
    replace HW := Lib.hid (bel_trans HW.out hb)
    replace HA := Lib.hid (HA.out.bel hb)
    have HQ := Lib.hid hq
    clear hb hq
    go_wp2_with fail
    refine (bare_at Y Z qa qc _ HQ.out (by omega) HZY).mono ?_
    rintro e w11 ⟨ba, bc, rfl, hb, hq⟩
    replace HW := Lib.hid (bel_trans HW.out hb)
    replace HA := Lib.hid (HA.out.bel hb)
    have HBY := Lib.hid hq
    clear hb hq
    go_wp2_with fail
    refine (bare_at l Z a c _ HA.out (by omega) HZ).mono ?_
    rintro e w12 ⟨da, dc, rfl, hb, hq⟩
    replace HW := Lib.hid (bel_trans HW.out hb)
    replace HBY := Lib.hid (HBY.out.bel hb)
    have HBL := Lib.hid hq
    clear hb hq
    go_wp2_with fail
    refine (same_bel Z ba da bc dc _ HBY.out HBL.out hzl).mono ?_
    rintro e w13 ⟨rfl, hb⟩
    replace HW := Lib.hid (bel_trans HW.out hb)
    clear hb hzl hfew HQ HBY HBL HZ HZY HR HSX
    go_wp2_with fail
    refine (words_at s Y2 p2 e2 _ HR2 Hs.out).mono ?_
    rintro e w5 ⟨ya, yc, rfl, hb, hy⟩
    replace HW := Lib.hid (bel_trans HW.out hb)
    have HY2 := Lib.hid hy
    clear hb hy
    by_cases he2 : e2 = 0
    · subst he2
      obtain ⟨hj, htw⟩ := join_read HR2.out
      have hfew2 := few_of HR2
      have HTW2 := Lib.hid htw
      obtain ⟨J2, hJ2⟩ : ∃ J2, joinTk Y2 = J2 := ⟨_, rfl⟩
      obtain ⟨X2, hX2⟩ : ∃ X2, (⟨J2.1.toArray⟩ : ByteArray) = X2 := ⟨_, rfl⟩
      have HX2 : Hid ((⟨(joinTk Y2).1.toArray⟩ : ByteArray) = X2) := Lib.hid (by rw [hJ2, hX2])
      rw [hJ2] at hj
      clear htw
      rcases hj with hj | hj
      · have HE2 : Hid ((joinTk Y2).2 = 0) := Lib.hid (by rw [hJ2, hj])
        have hjk : joinTk Y2 = (J2.1, 0) := by rw [hJ2, ← hj]
        obtain ⟨Y3, hY3, hb3⟩ := words_join hjk
        have hxl : X2.data.toList = J2.1 := by rw [← hX2]
        have HR3 : Hid (wordsR X2.data.toList = ⟨Y3, 0, 0⟩) := Lib.hid (by rw [hxl, hY3])
        have HS3 : Hid (X2.size ≤ maxLen) := Lib.hid (by rw [← hX2]; exact join_size hjk)
        have hfew3 := few_of HR3
        obtain ⟨Z, hZ⟩ : ∃ Z, Y2.map Tk.bare = Z := ⟨_, rfl⟩
        have HZ2 := Lib.hid hZ
        have HZ3 : Hid (Y3.map Tk.bare = Z) := Lib.hid (by rw [hb3, hZ])
        have hzl : Z.length ≤ 140737488351232 := by rw [← hZ, List.length_map]; omega
        clear hj hjk hY3 hb3 hxl hX2 hJ2 hZ
        go_wp2_with fail
        refine (join_atB Y2 ya yc _ HY2.out HTW2.out (by omega) X2 0 HX2 HE2).mono ?_
        rintro e w6 ⟨rfl, hb⟩
        replace HW := Lib.hid (bel_trans HW.out hb)
        replace HY2 := Lib.hid (HY2.out.bel hb)
        clear hb
        go_wp2_with fail
        refine (words_at X2 Y3 0 0 _ HR3 HS3.out).mono ?_
        rintro e w7 ⟨za, zc, rfl, hb, hz⟩
        replace HW := Lib.hid (bel_trans HW.out hb)
        replace HY2 := Lib.hid (HY2.out.bel hb)
        have HY3 := Lib.hid hz
        clear hb hz
        go_wp2_with fail
        refine (bare_at Y3 Z za zc _ HY3.out (by omega) HZ3).mono ?_
        rintro e w8 ⟨ba, bc, rfl, hb, hz⟩
        replace HW := Lib.hid (bel_trans HW.out hb)
        replace HY2 := Lib.hid (HY2.out.bel hb)
        have HB3 := Lib.hid hz
        clear hb hz
        go_wp2_with fail
        refine (bare_at Y2 Z ya yc _ HY2.out (by omega) HZ2).mono ?_
        rintro e w9 ⟨da, dc, rfl, hb, hz⟩
        replace HW := Lib.hid (bel_trans HW.out hb)
        replace HB3 := Lib.hid (HB3.out.bel hb)
        have HB2 := Lib.hid hz
        clear hb hz
        go_wp2_with fail
        refine (same_bel Z ba da bc dc _ HB3.out HB2.out hzl).mono ?_
        rintro e w10 ⟨rfl, hb⟩
        replace HW := Lib.hid (bel_trans HW.out hb)
        clear hb
        go_wp2_with fail
        go_ret
        exact ⟨rfl, HW.out⟩
      · have HE2 : Hid ((joinTk Y2).2 = 3) := Lib.hid (by rw [hJ2, hj])
        clear hj hX2 hJ2
        go_wp2_with fail
        refine (join_atB Y2 ya yc _ HY2.out HTW2.out (by omega) X2 3 HX2 HE2).mono ?_
        rintro e w6 ⟨rfl, hb⟩
        replace HW := Lib.hid (bel_trans HW.out hb)
        clear hb
        go_wp2_with fail
        go_ret
        exact ⟨rfl, HW.out⟩
    · have de : (e2 != 0) = true := by simp [he2]
      obtain ⟨hnil, hp0, hp1⟩ := words_bad HR2.out he2
      subst hnil
      rw [len_of] at hp1
      have d1 : decide (p2 ≥ 0) = true := by simpa using hp0
      have d2 : decide (p2 ≤ (s.size : Int)) = true := by simpa using hp1
      clear hp0 hp1 he2
      go_wp2_with fail
      go_ret
      exact ⟨rfl, HW.out⟩
  · have dE : (E == 0) = false := by simp [hE0]
    clear hE0 hX hJ hE HX HE
    go_wp2_with fail
    refine (words_at s Y2 p2 e2 _ HR2 Hs.out).mono ?_
    rintro e w5 ⟨ya, yc, rfl, hb, hy⟩
    replace HW := Lib.hid (bel_trans HW.out hb)
    have HY2 := Lib.hid hy
    clear hb hy
    by_cases he2 : e2 = 0
    · subst he2
      obtain ⟨hj, htw⟩ := join_read HR2.out
      have hfew2 := few_of HR2
      have HTW2 := Lib.hid htw
      obtain ⟨J2, hJ2⟩ : ∃ J2, joinTk Y2 = J2 := ⟨_, rfl⟩
      obtain ⟨X2, hX2⟩ : ∃ X2, (⟨J2.1.toArray⟩ : ByteArray) = X2 := ⟨_, rfl⟩
      have HX2 : Hid ((⟨(joinTk Y2).1.toArray⟩ : ByteArray) = X2) := Lib.hid (by rw [hJ2, hX2])
      rw [hJ2] at hj
      clear htw
      rcases hj with hj | hj
      · have HE2 : Hid ((joinTk Y2).2 = 0) := Lib.hid (by rw [hJ2, hj])
        have hjk : joinTk Y2 = (J2.1, 0) := by rw [hJ2, ← hj]
        obtain ⟨Y3, hY3, hb3⟩ := words_join hjk
        have hxl : X2.data.toList = J2.1 := by rw [← hX2]
        have HR3 : Hid (wordsR X2.data.toList = ⟨Y3, 0, 0⟩) := Lib.hid (by rw [hxl, hY3])
        have HS3 : Hid (X2.size ≤ maxLen) := Lib.hid (by rw [← hX2]; exact join_size hjk)
        have hfew3 := few_of HR3
        obtain ⟨Z, hZ⟩ : ∃ Z, Y2.map Tk.bare = Z := ⟨_, rfl⟩
        have HZ2 := Lib.hid hZ
        have HZ3 : Hid (Y3.map Tk.bare = Z) := Lib.hid (by rw [hb3, hZ])
        have hzl : Z.length ≤ 140737488351232 := by rw [← hZ, List.length_map]; omega
        clear hj hjk hY3 hb3 hxl hX2 hJ2 hZ
        go_wp2_with fail
        refine (join_atB Y2 ya yc _ HY2.out HTW2.out (by omega) X2 0 HX2 HE2).mono ?_
        rintro e w6 ⟨rfl, hb⟩
        replace HW := Lib.hid (bel_trans HW.out hb)
        replace HY2 := Lib.hid (HY2.out.bel hb)
        clear hb
        go_wp2_with fail
        refine (words_at X2 Y3 0 0 _ HR3 HS3.out).mono ?_
        rintro e w7 ⟨za, zc, rfl, hb, hz⟩
        replace HW := Lib.hid (bel_trans HW.out hb)
        replace HY2 := Lib.hid (HY2.out.bel hb)
        have HY3 := Lib.hid hz
        clear hb hz
        go_wp2_with fail
        refine (bare_at Y3 Z za zc _ HY3.out (by omega) HZ3).mono ?_
        rintro e w8 ⟨ba, bc, rfl, hb, hz⟩
        replace HW := Lib.hid (bel_trans HW.out hb)
        replace HY2 := Lib.hid (HY2.out.bel hb)
        have HB3 := Lib.hid hz
        clear hb hz
        go_wp2_with fail
        refine (bare_at Y2 Z ya yc _ HY2.out (by omega) HZ2).mono ?_
        rintro e w9 ⟨da, dc, rfl, hb, hz⟩
        replace HW := Lib.hid (bel_trans HW.out hb)
        replace HB3 := Lib.hid (HB3.out.bel hb)
        have HB2 := Lib.hid hz
        clear hb hz
        go_wp2_with fail
        refine (same_bel Z ba da bc dc _ HB3.out HB2.out hzl).mono ?_
        rintro e w10 ⟨rfl, hb⟩
        replace HW := Lib.hid (bel_trans HW.out hb)
        clear hb
        go_wp2_with fail
        go_ret
        exact ⟨rfl, HW.out⟩
      · have HE2 : Hid ((joinTk Y2).2 = 3) := Lib.hid (by rw [hJ2, hj])
        clear hj hX2 hJ2
        go_wp2_with fail
        refine (join_atB Y2 ya yc _ HY2.out HTW2.out (by omega) X2 3 HX2 HE2).mono ?_
        rintro e w6 ⟨rfl, hb⟩
        replace HW := Lib.hid (bel_trans HW.out hb)
        clear hb
        go_wp2_with fail
        go_ret
        exact ⟨rfl, HW.out⟩
    · have de : (e2 != 0) = true := by simp [he2]
      obtain ⟨hnil, hp0, hp1⟩ := words_bad HR2.out he2
      subst hnil
      rw [len_of] at hp1
      have d1 : decide (p2 ≥ 0) = true := by simpa using hp0
      have d2 : decide (p2 ≤ (s.size : Int)) = true := by simpa using hp1
      clear hp0 hp1 he2
      go_wp2_with fail
      go_ret
      exact ⟨rfl, HW.out⟩
end Go.Proofs.Ytpeleifkednmoaa.Lx
end
section
namespace Go.Proofs.Ytpeleifkednmoaa.lexBack
open Go.ChangeShapes Go.WideShapes Go.ChangeAt Go.RowKit
open Go.ChangeMaps (open_string shut_string)
set_option linter.unusedVariables false

theorem own : ownKnob Try.prog.godebug = none := by kernel_rfl
theorem laidOut : laidOutB Try.prog = true := by kernel_rfl
set_option maxRecDepth 100000 in
theorem lifted (os : Os) (started : os.Started) (H : Type) (enc : TypeId × Value → H) :
    ReturnsInHanded {} Try.checked os 4 .any (Rows.lexBackSpec.pre6 enc Try.prog Try.f4 Rows.lexBackRow.domain false) (Rows.lexBackSpec.post enc Try.prog Try.f4 false true false false) := by
  refine returnsInHanded_of_change_sized (C := Try.checked) own started (by kernel_rfl) Try.func4
    (ChangeSpec.witness6 (enc := enc) (C := Try.checked) false ⟨#[], #[.slice none 0 0, .string ByteArray.empty], []⟩ 8 (by kernel_rfl) (by kernel_rfl) (by kernel_rfl) (by kernel_rfl)) ?_
  intro W base args ds gs before hval0 hW hcnd hsz0 _
  have hsz : (DataW.weightsEach Try.prog (Try.f4.params.toList ++ Rows.lexBackSpec.plain.varTypes Try.prog) (ds ++ gs)).all (· ≤ reachBytes) = true := hsz0
  have hval : ∀ (j : Nat) t v, Try.f4.params[j]? = some t → args[j]? = some v → Value.okWide Try.prog W .any base t v := hval0
  have hW' := hW
  obtain ⟨p, q, hA0, hV, rfl, hfz, hnd⟩ := hW
  have hA : DataW.TrodAll enc Try.prog W 0 (fun _ => true) true Try.f4.params.toList args.toList ds p := hA0
  rw [Try.params4] at hA hval hsz
  obtain ⟨v0, vs0, d0, ds0, p0, q0, hargs, rfl, rfl, h0, r0⟩ := trodAll_cons hA
  obtain ⟨v1, vs1, d1, ds1, p1, q1, rfl, rfl, rfl, h1, r1⟩ := trodAll_cons r0
  obtain ⟨rfl, rfl, rfl⟩ := trodAll_nil r1
  obtain rfl : args = #[v0, v1] := by cases args; simp_all
  obtain ⟨rfl, rfl⟩ := trodVars_none hV
  have k0 := h0
  have lt0 : ∀ x ∈ p0, x.block < W.heap.size := by obtain ⟨m, hm⟩ := k0; exact DataW.trod_lt m _ _ _ hm
  have sz0 : (d0.weights Try.prog 22).all (· ≤ reachBytes) = true := List.all_eq_true.2 fun x hx => List.all_eq_true.1 hsz x (DataW.weights_mem_each (j := 0) rfl rfl x hx)
  obtain ⟨a0, len0, cap0, rfl⟩ := okWide_slice Try.underlying22 (hval 0 22 v0 rfl rfl)
  obtain ⟨z0, e0, s0, l0, w0, t0⟩ : ∃ z : List Lx.Tk, len0 = List.length z ∧ z.length ≤ cap0 ∧ z.length ≤ 140737488351232 ∧ Lx.TkIs W a0 z ∧ ∀ t ∈ z, Lx.TkA t := by
    obtain ⟨fuel, hf⟩ := h0
    obtain ⟨a', cap', l, hcs, hs, hl, hi, ht⟩ := Lx.open_toks hf sz0
    simp [Value.cells] at hcs
    obtain ⟨rfl, rfl, rfl⟩ := hcs
    exact ⟨l, rfl, hs, hl, hi, ht⟩
  subst e0
  obtain ⟨a1, rfl, rfl, rfl, w1⟩ := open_string Try.underlying9 (hval 1 9 v1 rfl rfl) h1
  clear hA0 hval0 hsz0
  refine (Lx.back_law z0 a0 cap0 a1 W w0 t0 l0 w1).mono fun e W' ⟨he, bel⟩ => ?_
  subst he
  exact ⟨_, rfl, _, _, _, [], _, [], hW', trodAll_mk1 (shut_bool Try.underlying4 _), (trodAll_cons_mk (Below.trod laidOut (by kernel_rfl) (of_decide_eq_true (by kernel_rfl)) k0 bel lt0) (trodAll_cons_mk (shut_string Try.underlying9 w1) trodAll_mk0)), rfl, bel.frame _, fun h => by cases h⟩

theorem over : Rows.lexBackRow.holds Try.pinned (OpenSpec.ofChange Rows.lexBackSpec) :=
  OpenClaim.holds_of_wide 4 Try.f4 rfl rfl rfl rfl rfl rfl rfl ⟨rfl, rfl, rfl, rfl, rfl⟩ rfl rfl rfl rfl rfl (by kernel_rfl) Try.func4 (by kernel_rfl)
    (of_decide_eq_true (by kernel_rfl)) (by unfold Func.isWrapper; first | (rw [if_pos (by decide +kernel)]; kernel_rfl) | (rw [if_neg (by decide +kernel)]; exact ⟨rfl, rfl⟩))
    (fun os started H enc _ => lifted os started H enc)

theorem proved : Rows.LexBackSaid := over
#print axioms proved
end Go.Proofs.Ytpeleifkednmoaa.lexBack
end
end
