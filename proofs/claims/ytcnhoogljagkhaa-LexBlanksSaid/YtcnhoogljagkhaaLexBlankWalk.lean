/- P3.6: a blank or a comment ahead of a text, or behind it, changes nothing but places: the walk. -/
import Derived.Test.YtcnhoogljagkhaaLexBlankMath
import Derived.Test.YtcnhoogljagkhaaLexSame
import Derived.Laws.AppendOwnNone
import Derived.IntWalk
import Derived.Deep.Cut
import Derived.Deep.QuietTactic
import Derived.BigQuiet
namespace Go.Proofs.Ytcnhoogljagkhaa.Lx
open Go.ChangeShapes Go.WideShapes Go.ChangeAt Go.RowKit
set_option linter.unusedVariables false

theorem wordsF_len : ∀ (f : Nat) (l : Bs) (a : Nat) (e : Int) (acc toks : List Tk) (p : Int), acc.length ≤ 4096 → wordsF f l a e acc = ⟨toks, p, 0⟩ → toks.length ≤ 4096
  | 0, l, a, e, acc, toks, p, ha, h => by
    rw [wordsF, finW] at h
    by_cases he : e = 0
    · rw [if_pos he] at h
      have := congrArg WR.toks h
      simp only at this
      rw [← this]; exact ha
    · rw [if_neg he] at h; exact absurd (congrArg WR.e h) he
  | f + 1, l, a, e, acc, toks, p, ha, h => by
    rw [wordsF] at h
    by_cases hcc : a < l.length ∧ e = 0
    · rw [if_pos hcc] at h
      by_cases hfull : acc.length = 4096
      · rw [if_pos hfull] at h; exact absurd (congrArg WR.e h) (show (3 : Int) ≠ 0 by decide)
      · rw [if_neg hfull] at h
        by_cases he : (scanR (l.drop a)).e = 0
        · rw [if_pos he] at h
          exact wordsF_len f l _ _ _ toks p (by rw [List.length_append]; simp only [List.length_cons, List.length_nil]; omega) h
        · rw [if_neg he] at h; exact absurd (congrArg WR.e h) he
    · rw [if_neg hcc, finW] at h
      by_cases he : e = 0
      · rw [if_pos he] at h
        have := congrArg WR.toks h
        simp only at this
        rw [← this]; exact ha
      · rw [if_neg he] at h; exact absurd (congrArg WR.e h) he
theorem wordsR_len {l : Bs} {toks : List Tk} {p : Int} (h : wordsR l = ⟨toks, p, 0⟩) : toks.length ≤ 4096 := by
  unfold wordsR at h
  by_cases h1 : (16384 : Int) < (l.length : Int)
  · rw [if_pos h1] at h; exact absurd (congrArg WR.e h) (show (3 : Int) ≠ 0 by decide)
  · rw [if_neg h1] at h
    by_cases h2 : 0 ≤ nightI l
    · rw [if_pos h2] at h; exact absurd (congrArg WR.e h) (show (32 : Int) ≠ 0 by decide)
    · rw [if_neg h2] at h
      exact wordsF_len _ _ _ _ _ _ _ (Nat.zero_le _) h
theorem apart_bd {l : Bs} : ∀ (toks : List Tk) (p : Nat), Apart l p toks → ∀ i (h : i < toks.length), 0 ≤ toks[i].a ∧ toks[i].a ≤ (l.length : Int) ∧ 0 ≤ toks[i].z ∧ toks[i].z ≤ (l.length : Int)
  | t :: r, p, ⟨a, h1, h2, _, _, he, ht, hr⟩, 0, _ => by
    have hz := scanR_z (drop_ne h2) he
    rw [List.length_drop] at hz
    show 0 ≤ t.a ∧ t.a ≤ _ ∧ 0 ≤ t.z ∧ t.z ≤ _
    rw [ht]
    simp only [Sc.tk]
    omega
  | t :: r, p, ⟨a, h1, h2, _, _, he, ht, hr⟩, i + 1, h => apart_bd r _ hr i (by simpa using h)
set_option maxRecDepth 100000 in
set_option maxHeartbeats 2000000 in
theorem bare_nil (a : Option Addr) (ca : Nat) (w : World) :
    Calls Try.prog 22 #[.slice a 0 ca] w (RowR [] w) := by
  obtain ⟨i0, hi, hz0, hz1, hz2⟩ := info_parts tok_info
  cases a with
  | none =>
    go_enter Try.func22, Try.ntmps22
    go_wp2_with fail
    go_loop [9] (fun i => i = .int .i64 0) (fun _ => 0)
    case atStart => rfl
    case round =>
      subst hrel
      go_wp2
      go_ret
      exact ⟨none, 0, rfl, Below.refl _ _, World.ownsRow_nil _ _ _ _⟩
  | some ad =>
    go_enter Try.func22, Try.ntmps22
    go_wp2_with (at_builtin; refine wpList_append_own _ rfl (.const (.slice none 0 0)) (.tmp 5) 23 rfl w.heap.size 35 i0 (.agg #[.int .i64 0, .int .i64 0, .int .i64 0, .int .i64 0, .string ⟨#[]⟩]) 5 48 Try.underlying23 hi hz0 hz1 hz2 rfl (by omega) _ 0 [] rfl (World.ownsRow_nil _ _ _ _) ad 0 ca [] rfl rfl (by simp) (by simp) (by simp only [maxLen]; omega) (by omega) (Nat.le_refl _) ?_; intro v' w1 hown1 hg1 hn; obtain rfl := hn.2 ⟨rfl, rfl⟩)
    have hb1 : Below w.heap.size w w1 := (Below.refl _ _).grown hg1 (Nat.le_refl _) (fun k h => by cases h)
    have HB := Lib.hid hb1
    clear hb1 hg1 hown1 hn
    go_loop [9] (fun i => i = .int .i64 0) (fun _ => 0)
    case atStart => rfl
    case round =>
      subst hrel
      go_wp2
      go_ret
      exact ⟨none, 0, rfl, HB.out, World.ownsRow_nil _ _ _ _⟩
theorem bare_all (l : List Tk) (a : Option Addr) (ca : Nat) (w : World) (ha : TkIs w a l) (hl : l.length ≤ 10000) :
    Calls Try.prog 22 #[.slice a l.length ca] w (RowR (l.map Tk.bare) w) := by
  cases l with
  | nil => exact bare_nil a ca w
  | cons t r => exact bare_any (t :: r) a ca w ha hl (by simp)
def BlankAt (toks : List Tk) (o : Nat) (xa va : Option Addr) (w : World) (i : Value) (wr : World) : Prop :=
  ∃ j : Nat, j ≤ toks.length ∧ i = .int .i64 (j : Int) ∧ TkIs wr xa (toks.map (Tk.shift o)) ∧ TkIs wr va toks ∧ Below w.heap.size w wr
def strsV : Array Value := #[.string ⟨#[32]⟩, .string ⟨#[10]⟩, .string ⟨#[9, 13]⟩, .string ⟨#[59, 32, 97, 32, 34, 32, 40, 32, 98, 10]⟩, .string ⟨#[32, 35, 124, 32, 120, 32, 35, 124, 32, 40, 32, 124, 35, 32, 34, 32, 124, 35, 32]⟩, .string ⟨#[32, 59]⟩]
theorem strsV_at : ∀ i : Fin 6, strsV[i.val]? = some (.string ⟨(bl i.val).toArray⟩) := by
  intro i
  match i with
  | ⟨0, _⟩ => rfl
  | ⟨1, _⟩ => rfl
  | ⟨2, _⟩ => rfl
  | ⟨3, _⟩ => rfl
  | ⟨4, _⟩ => rfl
  | ⟨5, _⟩ => rfl
set_option maxRecDepth 100000 in
set_option maxHeartbeats 4000000 in
theorem blank_walk (s : ByteArray) (x y : Int) (w : World) (hs : s.size ≤ maxLen) (hx : 0 ≤ x ∧ x ≤ 255) (hy : 0 ≤ y ∧ y ≤ 255) :
    Calls Try.prog 8 #[.string s, .int .u8 x, .int .u8 y] w fun e w' => e = .returned (.bool true) ∧ Below w.heap.size w w' := by
  have Hs := Lib.hid hs
  unfold maxLen at hs
  obtain ⟨R, hR⟩ : ∃ R, wordsR s.data.toList = R := ⟨_, rfl⟩
  have HWA := Lib.hid (words_any s · Hs.out)
  rw [hR] at HWA
  have HR := Lib.hid hR
  clear hR
  obtain ⟨toks, p0, e0⟩ := R
  by_cases h0 : e0 = 0
  · subst h0
    by_cases hz : (s.size : Int) > 16284
    · have dz : decide ((s.size : Int) > 16284) = true := by simpa using hz
      clear hz
      go_enter Try.func8, Try.ntmps8
      go_wp2_with fail
      refine (HWA.out _).mono ?_
      rintro e w1 ⟨va, vc, rfl, hb, hown⟩
      have HB := Lib.hid hb
      clear hb hown
      go_wp2_with fail
      refine (awake_yes _).mono ?_
      rintro e w2 ⟨rfl, hb⟩
      replace HB := Lib.hid (bel_trans HB.out hb)
      clear hb
      go_wp2_with fail
      refine (awake_yes _).mono ?_
      rintro e w3 ⟨rfl, hb⟩
      replace HB := Lib.hid (bel_trans HB.out hb)
      clear hb
      go_wp2_with fail
      go_ret
      exact ⟨rfl, HB.out⟩
    · have dz : decide ((s.size : Int) > 16284) = false := by simpa using hz
      have hlen := wordsR_len HR.out
      have hap := (wordsR_ok HR.out).2.2
      have hbd := apart_bd _ _ hap
      rw [len_of] at hbd
      have HBD := Lib.hid hbd
      clear hap hbd
      have t5 : x.tmod 5 = x % 5 := Int.tmod_eq_emod_of_nonneg hx.1
      have t6 : y.tmod 6 = y % 6 := Int.tmod_eq_emod_of_nonneg hy.1
      obtain ⟨i1, hi1⟩ : ∃ i : Nat, (i : Int) = x.tmod 5 := ⟨(x.tmod 5).toNat, by omega⟩
      obtain ⟨j1, hj1⟩ : ∃ i : Nat, (i : Int) = y.tmod 6 := ⟨(y.tmod 6).toNat, by omega⟩
      have i5 : i1 < 5 := by omega
      have j6 : j1 < 6 := by omega
      have b1 := bl_ok ⟨i1, by omega⟩
      have b2 := bl_ok ⟨j1, j6⟩
      simp only at b1 b2
      have hbw := bl_behind j1 j6
      have hW := blanks_words (a := bl i1) (b := bl j1) HR.out (bl_ahead i1 i5) hbw.1 hbw.2 b1.1 b2.1 (by simp only [List.length_append, List.length_cons, len_of]; omega)
      have HW := Lib.hid hW
      have HI := Lib.hid hi1.symm
      have HJ := Lib.hid hj1.symm
      have s1 := strsV_at ⟨i1, by omega⟩
      have s2 := strsV_at ⟨j1, j6⟩
      simp only at s1 s2
      have HS := Lib.hid (And.intro s1 s2)
      have bl1 := b1.2
      have bl2 := b2.2
      have HI2 : Hid (x % 5 = (i1 : Int)) := by show _ = _; omega
      have HJ2 : Hid (y % 6 = (j1 : Int)) := by show _ = _; omega
      clear hW hbw b1 b2 hi1 hj1 s1 s2 t5 t6
      go_enter Try.func8, Try.ntmps8
      go_wp2_with fail
      refine (HWA.out _).mono ?_
      rintro e w1 ⟨va, vc, rfl, hb, hown⟩
      simp only at hown
      have HT := Lib.hid (TkIs.of_own hown)
      have HB := Lib.hid hb
      clear hb hown
      go_wp2_with fail
      refine (awake_yes _).mono ?_
      rintro e w2 ⟨rfl, hb⟩
      replace HT := Lib.hid (HT.out.bel hb)
      replace HB := Lib.hid (bel_trans HB.out hb)
      clear hb HWA
      go_upto_region 5 with (fail)
      have hb := bel_alloc w2 (.cells strsV 9)
      have BS : Blk (w2.alloc (.cells strsV 9)) w2.heap.size 9 strsV := heap_alloc_new w2 _
      have c1 : (w2.alloc (.cells strsV 9)).cell? ⟨w2.heap.size, i1, none⟩ = some (.string ⟨(bl i1).toArray⟩) := (BS.cell i1).trans HS.out.1
      have c2 : (w2.alloc (.cells strsV 9)).cell? ⟨w2.heap.size, j1, none⟩ = some (.string ⟨(bl j1).toArray⟩) := (BS.cell j1).trans HS.out.2
      unfold strsV at hb c1 c2
      clear BS
      generalize (w2.alloc (.cells #[.string ⟨#[32]⟩, .string ⟨#[10]⟩, .string ⟨#[9, 13]⟩, .string ⟨#[59, 32, 97, 32, 34, 32, 40, 32, 98, 10]⟩, .string ⟨#[32, 35, 124, 32, 120, 32, 35, 124, 32, 40, 32, 124, 35, 32, 34, 32, 124, 35, 32]⟩, .string ⟨#[32, 59]⟩] 9)) = w3 at hb c1 c2 ⊢
      replace HT := Lib.hid (HT.out.bel hb)
      replace HB := Lib.hid (bel_trans HB.out hb)
      have m1 := HI.out
      have m2 := HJ.out
      have m3 := HI2.out
      have m4 := HJ2.out
      have q1 : (i1 : Int) < 6 := by omega
      have q2 : (j1 : Int) < 6 := by omega
      clear hb HS
      go_quiet (fail)
      clear m1 m2 m3 m4 c1 c2 q1 q2
      go_wp2_with fail
      have hu : ((⟨(bl i1).toArray⟩ : ByteArray) ++ s ++ (⟨#[10]⟩ : ByteArray) ++ (⟨(bl j1).toArray⟩ : ByteArray)).data.toList = bl i1 ++ (s.data.toList ++ 10 :: bl j1) := by
        simp [ByteArray.data_append]
      have huz : ((⟨(bl i1).toArray⟩ : ByteArray) ++ s ++ (⟨#[10]⟩ : ByteArray) ++ (⟨(bl j1).toArray⟩ : ByteArray)).size ≤ maxLen := by
        rw [← len_of, hu]
        simp only [List.length_append, List.length_cons, len_of, maxLen]
        omega
      have HU := Lib.hid (words_any _ · huz)
      rw [hu, HW.out] at HU
      clear hu huz
      refine (HU.out _).mono ?_
      rintro e w4 ⟨xa, xc, rfl, hb, hown⟩
      simp only at hown
      have hb' := (bel_drewN w3 nq).trans hb
      replace HT := Lib.hid (HT.out.bel hb')
      replace HB := Lib.hid (bel_trans HB.out hb')
      have HX := Lib.hid (TkIs.of_own hown)
      have hml : (toks.map (Tk.shift (bl i1).length)).length = toks.length := List.length_map _
      simp only [hml]
      clear hb hb' hown HU
      have dne : ((toks.length : Int) != (toks.length : Int)) = false := by simp
      have HML := Lib.hid hml
      clear hml
      go_wp2_with fail
      clear HI HJ HI2 HJ2 HW HR
      go_loopw [67] (fun i wr => BlankAt toks (bl i1).length xa va w i wr) (fun i _ => toks.length - (intOf i).toNat)
      case atStart => exact ⟨0, Nat.zero_le _, rfl, HX.out, HT.out, HB.out⟩
      case round =>
        clear HX HT HB
        obtain ⟨j, hj, rfl, hx1, ht1, hbel⟩ := hrel
        have HB := Lib.hid hbel
        have HT := Lib.hid ht1
        have HX := Lib.hid hx1
        clear hbel
        by_cases hlt : j < toks.length
        · have dl : decide ((j : Int) < (toks.length : Int)) = true := by simp [hlt]
          have i2 : (j : Int) < (toks.length : Int) := by omega
          rcases ht1 with h | ⟨gt, ot, rfl, hc⟩
          · exact absurd hlt (by rw [h]; simp)
          rcases hx1 with h | ⟨gx, ox, rfl, hc'⟩
          · have hz0 : toks.length = 0 := by rw [← HML.out, h]; rfl
            omega
          obtain ⟨_, c1, c2, _, _⟩ := hc j hlt
          obtain ⟨_, d1, d2, _, _⟩ := hc' j (by rw [HML.out]; exact hlt)
          rw [List.getElem_map] at d1 d2
          have hbd := HBD.out j hlt
          clear hc hc'
          generalize toks[j] = t at *
          obtain ⟨tk, ta, tz, tn, tS⟩ := t
          simp only [Tk.shift] at c1 c2 d1 d2 hbd
          have w1' : IntKind.i64.wrap (ta + ((bl i1).length : Int)) = ta + ((bl i1).length : Int) := by rw [IntWalk.i64_left, IntWalk.wrap64_in _ (by omega)]
          have w2' : IntKind.i64.wrap (tz + ((bl i1).length : Int)) = tz + ((bl i1).length : Int) := by rw [IntWalk.i64_left, IntWalk.wrap64_in _ (by omega)]
          have hsz : ((⟨(bl i1).toArray⟩ : ByteArray).size : Int) = ((bl i1).length : Int) := rfl
          clear hbd
          go_wp2_with fail
          go_quiet (fail)
          go_wp2_with fail
          go_roundw
          case rel => exact ⟨j + 1, hlt, by go_num, HX.out.bel (bel_drewN _ _), HT.out.bel (bel_drewN _ _), bel_trans HB.out (bel_drewN _ _)⟩
          case measure => simp [intOf]; omega
        · have dl : decide ((j : Int) < (toks.length : Int)) = false := by simp [hlt]
          clear hx1 ht1
          have hb1 := fun w h => bare_all (toks.map (Tk.shift (bl i1).length)) xa xc w h (by rw [HML.out]; omega)
          rw [HML.out] at hb1
          have hmm : (toks.map (Tk.shift (bl i1).length)).map Tk.bare = toks.map Tk.bare := by rw [List.map_map]; rfl
          rw [hmm] at hb1
          have HB1 := Lib.hid hb1
          clear hb1 hmm
          have hbl : (toks.map Tk.bare).length = toks.length := List.length_map _
          have HBL := Lib.hid hbl
          go_wp2_with fail
          refine (HB1.out _ HX.out).mono ?_
          rintro e w5 ⟨ya, yc, rfl, hb, hown⟩
          replace HT := Lib.hid (HT.out.bel hb)
          replace HB := Lib.hid (bel_trans HB.out hb)
          have HY := Lib.hid (TkIs.of_own hown)
          simp only [hbl]
          clear hb hown hbl
          go_wp2_with fail
          refine (bare_all toks va vc _ HT.out (by omega)).mono ?_
          rintro e w6 ⟨za, zc, rfl, hb, hown⟩
          replace HY := Lib.hid (HY.out.bel hb)
          replace HB := Lib.hid (bel_trans HB.out hb)
          have HZ := Lib.hid (TkIs.of_own hown)
          simp only [HBL.out]
          clear hb hown
          have hsame := fun w h1 h2 => same_bel (toks.map Tk.bare) ya za yc zc w h1 h2 (by rw [HBL.out]; omega)
          rw [HBL.out] at hsame
          have HSM := Lib.hid hsame
          clear hsame
          go_wp2_with fail
          refine (HSM.out _ HY.out HZ.out).mono ?_
          rintro e w7 ⟨rfl, hb⟩
          replace HB := Lib.hid (bel_trans HB.out hb)
          clear hb
          go_wp2_with fail
          go_ret
          exact ⟨rfl, HB.out⟩
  · have dn : (e0 != 0) = true := by simpa using h0
    clear HR
    go_enter Try.func8, Try.ntmps8
    go_wp2_with fail
    refine (HWA.out _).mono ?_
    rintro e w1 ⟨va, vc, rfl, hb, hown⟩
    have HB := Lib.hid hb
    clear hb hown
    go_wp2_with fail
    refine (awake_yes _).mono ?_
    rintro e w2 ⟨rfl, hb⟩
    replace HB := Lib.hid (bel_trans HB.out hb)
    clear hb
    go_wp2_with fail
    refine (awake_yes _).mono ?_
    rintro e w3 ⟨rfl, hb⟩
    replace HB := Lib.hid (bel_trans HB.out hb)
    clear hb
    go_wp2_with fail
    go_ret
    exact ⟨rfl, HB.out⟩
end Go.Proofs.Ytcnhoogljagkhaa.Lx
