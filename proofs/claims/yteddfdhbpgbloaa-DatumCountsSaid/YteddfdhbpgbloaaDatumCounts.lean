/- P2.6: of every datum as many parts are told as there are; without marks there are as many, as deep, and twice without them is once: no condition. -/
import Derived.Test.YteddfdhbpgbloaaDatWalksLaw
import Derived.Test.YteddfdhbpgbloaaDatMarks
import Derived.Test.YteddfdhbpgbloaaDatCountsMath
import Derived.Test.YteddfdhbpgbloaaDatSame
import Derived.Test.YteddfdhbpgbloaaDatPlain
import Derived.Test.YteddfdhbpgbloaaDatOpen
section
namespace Go.Proofs.Yteddfdhbpgbloaa.Da
open Go.ChangeShapes Go.WideShapes Go.ChangeAt Go.RowKit Go.Shelf
set_option linter.unusedVariables false
set_option linter.unusedSimpArgs false

theorem parts_plain {d : Dt} (h : chk (plainD d) = 0) : ∀ x ∈ partsD (plainD d), x.1.M.length = 0 := by
  intro x hx
  unfold partsD at hx
  rw [if_pos h, nodes_plain] at hx
  obtain ⟨y, _, rfl⟩ := List.mem_map.1 hx
  obtain ⟨⟨k, n, s, m, l, t⟩, i⟩ := y
  simp only [plainD, Dt.M]
  rfl
theorem clone_ok {d : Dt} (h : chk d = 0) : cloneD d = d := by unfold cloneD; rw [if_pos h]
theorem clone_bad {d : Dt} (h : chk d ≠ 0) : plainD (cloneD d) = zeroD := by unfold cloneD; rw [if_neg h]; rfl
theorem parts_bad {d : Dt} (h : chk d ≠ 0) : partsD d = [] := by unfold partsD; rw [if_neg h]
theorem deep_bad {d : Dt} (h : chk d ≠ 0) : deepD d = 0 := by rw [deepD_is, parts_bad h]; rfl
theorem zero_zero : zeroB zeroD = true := by decide +kernel
def CountAt (n : Nat) (W1 : World) (i : Value) (wr : World) : Prop := ∃ j : Nat, j ≤ n ∧ i = .int .i64 (j : Int) ∧ Below W1.heap.size W1 wr
set_option maxRecDepth 100000 in
set_option maxHeartbeats 16000000 in
theorem dcounts_law (d : Dt) (v : Value) (w : World) (hd : IsDt w (Lo w.heap.size) d v) :
    Calls Try.prog 4 #[v] w fun e w' => e = .returned (.bool true) ∧ Below w.heap.size w w' := by
  have hd' := hd
  obtain ⟨am, cm, al, cl, at_, ct, rfl, _⟩ := hd'.open_
  have HD := Lib.hid hd
  clear hd hd'
  obtain ⟨sd, hsd⟩ : ∃ c, smallB d = c := ⟨_, rfl⟩
  have Sd := Lib.hid hsd
  clear hsd
  have hX : Below w.heap.size w (w.alloc (.cells #[.int .i64 d.K, .int .i64 d.N, .string d.S, .slice am d.M.length cm, .slice al d.L.length cl, .slice at_ d.T.length ct] 25)) := bel_alloc _ _
  have hblk := heap_alloc_new w (.cells #[.int .i64 d.K, .int .i64 d.N, .string d.S, .slice am d.M.length cm, .slice al d.L.length cl, .slice at_ d.T.length ct] 25)
  cases sd
  · go_enter Try.func4, Try.ntmps4
    go_wp2_with fail
    generalize w.alloc (.cells #[.int .i64 d.K, .int .i64 d.N, .string d.S, .slice am d.M.length cm, .slice al d.L.length cl, .slice at_ d.T.length ct] 25) = X at *
    have y0 : X.cell? ⟨w.heap.size, 0, none⟩ = some (.int .i64 d.K) := by rw [World.cell?, hblk]; rfl
    have y1 : X.cell? ⟨w.heap.size, 1, none⟩ = some (.int .i64 d.N) := by rw [World.cell?, hblk]; rfl
    have y2 : X.cell? ⟨w.heap.size, 2, none⟩ = some (.string d.S) := by rw [World.cell?, hblk]; rfl
    have y3 : X.cell? ⟨w.heap.size, 3, none⟩ = some (.slice am d.M.length cm) := by rw [World.cell?, hblk]; rfl
    have y4 : X.cell? ⟨w.heap.size, 4, none⟩ = some (.slice al d.L.length cl) := by rw [World.cell?, hblk]; rfl
    have y5 : X.cell? ⟨w.heap.size, 5, none⟩ = some (.slice at_ d.T.length ct) := by rw [World.cell?, hblk]; rfl
    have zd : w.heap.size < X.heap.size := (Array.getElem?_eq_some_iff.1 hblk).1
    replace HD := Lib.hid (HD.out.up hX)
    have HW := Lib.hid hX
    clear hX hblk
    refine (awake_any _).mono ?_
    rintro e w1 ⟨rfl, hb⟩
    replace y0 := (hb.cell (p := ⟨w.heap.size, 0, none⟩) zd).trans y0
    replace y1 := (hb.cell (p := ⟨w.heap.size, 1, none⟩) zd).trans y1
    replace y2 := (hb.cell (p := ⟨w.heap.size, 2, none⟩) zd).trans y2
    replace y3 := (hb.cell (p := ⟨w.heap.size, 3, none⟩) zd).trans y3
    replace y4 := (hb.cell (p := ⟨w.heap.size, 4, none⟩) zd).trans y4
    replace y5 := (hb.cell (p := ⟨w.heap.size, 5, none⟩) zd).trans y5
    replace zd : w.heap.size < w1.heap.size := Nat.lt_of_lt_of_le zd hb.size
    replace HD := Lib.hid (HD.out.up hb)
    replace HW := Lib.hid (bel_trans HW.out hb)
    clear hb
    go_wp2_with fail
    refine (small_any d _ _ _ HD.out (Nat.le_refl _)).mono ?_
    rintro e w2 ⟨rfl, hb⟩
    rw [Sd.out]
    replace y0 := (hb.cell (p := ⟨w.heap.size, 0, none⟩) zd).trans y0
    replace y1 := (hb.cell (p := ⟨w.heap.size, 1, none⟩) zd).trans y1
    replace y2 := (hb.cell (p := ⟨w.heap.size, 2, none⟩) zd).trans y2
    replace y3 := (hb.cell (p := ⟨w.heap.size, 3, none⟩) zd).trans y3
    replace y4 := (hb.cell (p := ⟨w.heap.size, 4, none⟩) zd).trans y4
    replace y5 := (hb.cell (p := ⟨w.heap.size, 5, none⟩) zd).trans y5
    replace zd : w.heap.size < w2.heap.size := Nat.lt_of_lt_of_le zd hb.size
    replace HD := Lib.hid (HD.out.up hb)
    replace HW := Lib.hid (bel_trans HW.out hb)
    clear hb
    go_wp2_with fail
    refine (awake_any _).mono ?_
    rintro e w3 ⟨rfl, hb⟩
    replace y0 := (hb.cell (p := ⟨w.heap.size, 0, none⟩) zd).trans y0
    replace y1 := (hb.cell (p := ⟨w.heap.size, 1, none⟩) zd).trans y1
    replace y2 := (hb.cell (p := ⟨w.heap.size, 2, none⟩) zd).trans y2
    replace y3 := (hb.cell (p := ⟨w.heap.size, 3, none⟩) zd).trans y3
    replace y4 := (hb.cell (p := ⟨w.heap.size, 4, none⟩) zd).trans y4
    replace y5 := (hb.cell (p := ⟨w.heap.size, 5, none⟩) zd).trans y5
    replace zd : w.heap.size < w3.heap.size := Nat.lt_of_lt_of_le zd hb.size
    replace HD := Lib.hid (HD.out.up hb)
    replace HW := Lib.hid (bel_trans HW.out hb)
    clear hb
    go_wp2_with fail
    go_ret
    exact ⟨rfl, HW.out⟩
  · go_enter Try.func4, Try.ntmps4
    go_wp2_with fail
    generalize w.alloc (.cells #[.int .i64 d.K, .int .i64 d.N, .string d.S, .slice am d.M.length cm, .slice al d.L.length cl, .slice at_ d.T.length ct] 25) = X at *
    have y0 : X.cell? ⟨w.heap.size, 0, none⟩ = some (.int .i64 d.K) := by rw [World.cell?, hblk]; rfl
    have y1 : X.cell? ⟨w.heap.size, 1, none⟩ = some (.int .i64 d.N) := by rw [World.cell?, hblk]; rfl
    have y2 : X.cell? ⟨w.heap.size, 2, none⟩ = some (.string d.S) := by rw [World.cell?, hblk]; rfl
    have y3 : X.cell? ⟨w.heap.size, 3, none⟩ = some (.slice am d.M.length cm) := by rw [World.cell?, hblk]; rfl
    have y4 : X.cell? ⟨w.heap.size, 4, none⟩ = some (.slice al d.L.length cl) := by rw [World.cell?, hblk]; rfl
    have y5 : X.cell? ⟨w.heap.size, 5, none⟩ = some (.slice at_ d.T.length ct) := by rw [World.cell?, hblk]; rfl
    have zd : w.heap.size < X.heap.size := (Array.getElem?_eq_some_iff.1 hblk).1
    replace HD := Lib.hid (HD.out.up hX)
    have HW := Lib.hid hX
    clear hX hblk
    refine (awake_any _).mono ?_
    rintro e w4 ⟨rfl, hb⟩
    replace y0 := (hb.cell (p := ⟨w.heap.size, 0, none⟩) zd).trans y0
    replace y1 := (hb.cell (p := ⟨w.heap.size, 1, none⟩) zd).trans y1
    replace y2 := (hb.cell (p := ⟨w.heap.size, 2, none⟩) zd).trans y2
    replace y3 := (hb.cell (p := ⟨w.heap.size, 3, none⟩) zd).trans y3
    replace y4 := (hb.cell (p := ⟨w.heap.size, 4, none⟩) zd).trans y4
    replace y5 := (hb.cell (p := ⟨w.heap.size, 5, none⟩) zd).trans y5
    replace zd : w.heap.size < w4.heap.size := Nat.lt_of_lt_of_le zd hb.size
    replace HD := Lib.hid (HD.out.up hb)
    replace HW := Lib.hid (bel_trans HW.out hb)
    clear hb
    go_wp2_with fail
    refine (small_any d _ _ _ HD.out (Nat.le_refl _)).mono ?_
    rintro e w5 ⟨rfl, hb⟩
    rw [Sd.out]
    replace y0 := (hb.cell (p := ⟨w.heap.size, 0, none⟩) zd).trans y0
    replace y1 := (hb.cell (p := ⟨w.heap.size, 1, none⟩) zd).trans y1
    replace y2 := (hb.cell (p := ⟨w.heap.size, 2, none⟩) zd).trans y2
    replace y3 := (hb.cell (p := ⟨w.heap.size, 3, none⟩) zd).trans y3
    replace y4 := (hb.cell (p := ⟨w.heap.size, 4, none⟩) zd).trans y4
    replace y5 := (hb.cell (p := ⟨w.heap.size, 5, none⟩) zd).trans y5
    replace zd : w.heap.size < w5.heap.size := Nat.lt_of_lt_of_le zd hb.size
    replace HD := Lib.hid (HD.out.up hb)
    replace HW := Lib.hid (bel_trans HW.out hb)
    clear hb
    go_wp2_with fail
    refine (plain_any d _ _ HD.out).mono ?_
    rintro e w6 ⟨vp, rfl, hb, hvp⟩
    obtain ⟨pm, qm, pl, ql, pt, qt, rfl, _⟩ := hvp.open_
    have HP := Lib.hid hvp
    clear hvp
    replace y0 := (hb.cell (p := ⟨w.heap.size, 0, none⟩) zd).trans y0
    replace y1 := (hb.cell (p := ⟨w.heap.size, 1, none⟩) zd).trans y1
    replace y2 := (hb.cell (p := ⟨w.heap.size, 2, none⟩) zd).trans y2
    replace y3 := (hb.cell (p := ⟨w.heap.size, 3, none⟩) zd).trans y3
    replace y4 := (hb.cell (p := ⟨w.heap.size, 4, none⟩) zd).trans y4
    replace y5 := (hb.cell (p := ⟨w.heap.size, 5, none⟩) zd).trans y5
    replace zd : w.heap.size < w6.heap.size := Nat.lt_of_lt_of_le zd hb.size
    replace HD := Lib.hid (HD.out.up hb)
    replace HW := Lib.hid (bel_trans HW.out hb)
    clear hb
    obtain ⟨pd, hpd⟩ : ∃ pd, plainD (cloneD d) = pd := ⟨_, rfl⟩
    rw [hpd] at HP ⊢
    have Hpd := Lib.hid hpd
    clear hpd
    obtain ⟨c, hc⟩ : ∃ c, chk d = c := ⟨_, rfl⟩
    have HC := Lib.hid hc
    clear hc
    have hb : Below w6.heap.size w6 (w6.alloc (.cells #[.int .i64 pd.K, .int .i64 pd.N, .string pd.S, .slice pm pd.M.length qm, .slice pl pd.L.length ql, .slice pt pd.T.length qt] 25)) := bel_alloc _ _
    have hblk := heap_alloc_new w6 (.cells #[.int .i64 pd.K, .int .i64 pd.N, .string pd.S, .slice pm pd.M.length qm, .slice pl pd.L.length ql, .slice pt pd.T.length qt] 25)
    go_wp2_with fail
    obtain ⟨bp, hbp⟩ : ∃ bp, w6.heap.size = bp := ⟨_, rfl⟩
    generalize w6.alloc (.cells #[.int .i64 pd.K, .int .i64 pd.N, .string pd.S, .slice pm pd.M.length qm, .slice pl pd.L.length ql, .slice pt pd.T.length qt] 25) = Z at *
    replace y0 := (hb.cell (p := ⟨w.heap.size, 0, none⟩) zd).trans y0
    replace y1 := (hb.cell (p := ⟨w.heap.size, 1, none⟩) zd).trans y1
    replace y2 := (hb.cell (p := ⟨w.heap.size, 2, none⟩) zd).trans y2
    replace y3 := (hb.cell (p := ⟨w.heap.size, 3, none⟩) zd).trans y3
    replace y4 := (hb.cell (p := ⟨w.heap.size, 4, none⟩) zd).trans y4
    replace y5 := (hb.cell (p := ⟨w.heap.size, 5, none⟩) zd).trans y5
    replace zd : w.heap.size < Z.heap.size := Nat.lt_of_lt_of_le zd hb.size
    replace HD := Lib.hid (HD.out.up hb)
    replace HW := Lib.hid (bel_trans HW.out hb)
    replace HP := Lib.hid (HP.out.up hb)
    rw [hbp] at hblk ⊢
    clear hb hbp
    have x0 : Z.cell? ⟨bp, 0, none⟩ = some (.int .i64 pd.K) := by rw [World.cell?, hblk]; rfl
    have x1 : Z.cell? ⟨bp, 1, none⟩ = some (.int .i64 pd.N) := by rw [World.cell?, hblk]; rfl
    have x2 : Z.cell? ⟨bp, 2, none⟩ = some (.string pd.S) := by rw [World.cell?, hblk]; rfl
    have x3 : Z.cell? ⟨bp, 3, none⟩ = some (.slice pm pd.M.length qm) := by rw [World.cell?, hblk]; rfl
    have x4 : Z.cell? ⟨bp, 4, none⟩ = some (.slice pl pd.L.length ql) := by rw [World.cell?, hblk]; rfl
    have x5 : Z.cell? ⟨bp, 5, none⟩ = some (.slice pt pd.T.length qt) := by rw [World.cell?, hblk]; rfl
    have zp : bp < Z.heap.size := (Array.getElem?_eq_some_iff.1 hblk).1
    clear hblk
    refine (check_any d _ _ _ HD.out (Nat.le_refl _)).mono ?_
    rintro e w7 ⟨rfl, hb⟩
    rw [HC.out]
    replace y0 := (hb.cell (p := ⟨w.heap.size, 0, none⟩) zd).trans y0
    replace y1 := (hb.cell (p := ⟨w.heap.size, 1, none⟩) zd).trans y1
    replace y2 := (hb.cell (p := ⟨w.heap.size, 2, none⟩) zd).trans y2
    replace y3 := (hb.cell (p := ⟨w.heap.size, 3, none⟩) zd).trans y3
    replace y4 := (hb.cell (p := ⟨w.heap.size, 4, none⟩) zd).trans y4
    replace y5 := (hb.cell (p := ⟨w.heap.size, 5, none⟩) zd).trans y5
    replace x0 := (hb.cell (p := ⟨bp, 0, none⟩) zp).trans x0
    replace x1 := (hb.cell (p := ⟨bp, 1, none⟩) zp).trans x1
    replace x2 := (hb.cell (p := ⟨bp, 2, none⟩) zp).trans x2
    replace x3 := (hb.cell (p := ⟨bp, 3, none⟩) zp).trans x3
    replace x4 := (hb.cell (p := ⟨bp, 4, none⟩) zp).trans x4
    replace x5 := (hb.cell (p := ⟨bp, 5, none⟩) zp).trans x5
    replace zd : w.heap.size < w7.heap.size := Nat.lt_of_lt_of_le zd hb.size
    replace zp : bp < w7.heap.size := Nat.lt_of_lt_of_le zp hb.size
    replace HD := Lib.hid (HD.out.up hb)
    replace HW := Lib.hid (bel_trans HW.out hb)
    replace HP := Lib.hid (HP.out.up hb)
    clear hb
    by_cases h0 : c = 0
    · subst h0
      have hpd0 : pd = plainD d := by rw [← Hpd.out, clone_ok HC.out]
      obtain ⟨g1, g2, g3⟩ := plain_valid HC.out
      have hpp : plainD (cloneD pd) = pd := by rw [hpd0, clone_ok g1, plain_twice]
      have hpar := parts_plain g1
      rw [← hpd0] at g1 g2 g3 hpar
      have hl1 := partsD_len d
      have hl2 := partsD_len pd
      have hn1 := parts_len d
      have hn2 := parts_len pd
      have HG := Lib.hid (And.intro g1 (And.intro g2 (And.intro g3 (And.intro hpp (And.intro hpar (And.intro hl1 (And.intro hl2 (And.intro hn1 hn2))))))))
      have hsd : ((chk d == 0) && eqD d d) = true := by rw [HC.out, eqD_refl]; rfl
      have hsp : ((chk pd == 0) && eqD pd pd) = true := by rw [g1, eqD_refl]; rfl
      have HS := Lib.hid (And.intro hsd hsp)
      clear g1 g2 g3 hpp hpar hl1 hl2 hn1 hn2 hsd hsp hpd0
      go_wp2_with fail
      refine (all_any pd _ _ _ HP.out (Nat.le_refl _)).mono ?_
      rintro e w8 ⟨hb, hres⟩
      replace y0 := (hb.cell (p := ⟨w.heap.size, 0, none⟩) zd).trans y0
      replace y1 := (hb.cell (p := ⟨w.heap.size, 1, none⟩) zd).trans y1
      replace y2 := (hb.cell (p := ⟨w.heap.size, 2, none⟩) zd).trans y2
      replace y3 := (hb.cell (p := ⟨w.heap.size, 3, none⟩) zd).trans y3
      replace y4 := (hb.cell (p := ⟨w.heap.size, 4, none⟩) zd).trans y4
      replace y5 := (hb.cell (p := ⟨w.heap.size, 5, none⟩) zd).trans y5
      replace x0 := (hb.cell (p := ⟨bp, 0, none⟩) zp).trans x0
      replace x1 := (hb.cell (p := ⟨bp, 1, none⟩) zp).trans x1
      replace x2 := (hb.cell (p := ⟨bp, 2, none⟩) zp).trans x2
      replace x3 := (hb.cell (p := ⟨bp, 3, none⟩) zp).trans x3
      replace x4 := (hb.cell (p := ⟨bp, 4, none⟩) zp).trans x4
      replace x5 := (hb.cell (p := ⟨bp, 5, none⟩) zp).trans x5
      replace zd : w.heap.size < w8.heap.size := Nat.lt_of_lt_of_le zd hb.size
      replace zp : bp < w8.heap.size := Nat.lt_of_lt_of_le zp hb.size
      replace HD := Lib.hid (HD.out.up hb)
      replace HW := Lib.hid (bel_trans HW.out hb)
      replace HP := Lib.hid (HP.out.up hb)
      clear hb
      obtain ⟨raf, rac, rfl, hra⟩ := all_form hres
      have Hra := Lib.hid hra
      clear hra hres
      go_wp2_with fail
      refine (Hra.out 1048576 (Nat.le_refl _)).mono ?_
      rintro e w9 ⟨ys, ya, yc, rfl, hb, hown, hmap, hdt⟩
      replace y0 := (hb.cell (p := ⟨w.heap.size, 0, none⟩) zd).trans y0
      replace y1 := (hb.cell (p := ⟨w.heap.size, 1, none⟩) zd).trans y1
      replace y2 := (hb.cell (p := ⟨w.heap.size, 2, none⟩) zd).trans y2
      replace y3 := (hb.cell (p := ⟨w.heap.size, 3, none⟩) zd).trans y3
      replace y4 := (hb.cell (p := ⟨w.heap.size, 4, none⟩) zd).trans y4
      replace y5 := (hb.cell (p := ⟨w.heap.size, 5, none⟩) zd).trans y5
      replace x0 := (hb.cell (p := ⟨bp, 0, none⟩) zp).trans x0
      replace x1 := (hb.cell (p := ⟨bp, 1, none⟩) zp).trans x1
      replace x2 := (hb.cell (p := ⟨bp, 2, none⟩) zp).trans x2
      replace x3 := (hb.cell (p := ⟨bp, 3, none⟩) zp).trans x3
      replace x4 := (hb.cell (p := ⟨bp, 4, none⟩) zp).trans x4
      replace x5 := (hb.cell (p := ⟨bp, 5, none⟩) zp).trans x5
      replace zd : w.heap.size < w9.heap.size := Nat.lt_of_lt_of_le zd hb.size
      replace zp : bp < w9.heap.size := Nat.lt_of_lt_of_le zp hb.size
      replace HD := Lib.hid (HD.out.up hb)
      replace HW := Lib.hid (bel_trans HW.out hb)
      replace HP := Lib.hid (HP.out.up hb)
      clear hb
      have hyl := congrArg List.length hmap
      rw [List.length_map, List.length_take, List.length_map] at hyl
      have hy4 : ys.length ≤ 4096 := by have := HG.out.2.2.2.2.2.2.2.2; omega
      have HY := Lib.hid (RowN.mk hown hmap hdt)
      clear hown hmap hdt hyl
      go_wp2_with fail
      go_loopw [48] (fun i wr => CountAt ys.length w9 i wr) (fun i _ => ys.length - (intOf i).toNat)
      case atStart => exact ⟨0, Nat.zero_le _, rfl, Below.refl _ _⟩
      case round =>
        obtain ⟨j, hj, rfl, hb⟩ := hrel
        by_cases hlt : j < ys.length
        · have dl : decide ((j : Int) < (ys.length : Int)) = true := by simp [hlt]
          obtain ⟨y, hy⟩ : ∃ y, ys[j]? = some y := ⟨_, List.getElem?_eq_getElem hlt⟩
          have hmem : ∃ x ∈ partsD pd, x.1 = y.d := by
            have h1 : y.d ∈ ys.map Ne.d := List.mem_map_of_mem (List.mem_of_getElem? hy)
            rw [HY.out.ds] at h1
            obtain ⟨x, h2, h3⟩ := List.mem_map.1 (List.mem_of_mem_take h1)
            exact ⟨x, h2, h3⟩
          obtain ⟨x, hx1, hx2⟩ := hmem
          have hm0 := HG.out.2.2.2.2.1 x hx1
          rw [hx2] at hm0
          obtain ⟨gy, rfl, _, zy, hcy⟩ := own_rowf HY.out.own (by omega)
          have q0 := (hb.cell (p := ⟨gy, j * 6 + 0, none⟩) zy).trans (hcy (j * 6 + 0) _ (cellsN_at ys j y hy 0 (by decide)))
          have q1 := (hb.cell (p := ⟨gy, j * 6 + 1, none⟩) zy).trans (hcy (j * 6 + 1) _ (cellsN_at ys j y hy 1 (by decide)))
          have q2 := (hb.cell (p := ⟨gy, j * 6 + 2, none⟩) zy).trans (hcy (j * 6 + 2) _ (cellsN_at ys j y hy 2 (by decide)))
          have q3 := (hb.cell (p := ⟨gy, j * 6 + 3, none⟩) zy).trans (hcy (j * 6 + 3) _ (cellsN_at ys j y hy 3 (by decide)))
          have q4 := (hb.cell (p := ⟨gy, j * 6 + 4, none⟩) zy).trans (hcy (j * 6 + 4) _ (cellsN_at ys j y hy 4 (by decide)))
          have q5 := (hb.cell (p := ⟨gy, j * 6 + 5, none⟩) zy).trans (hcy (j * 6 + 5) _ (cellsN_at ys j y hy 5 (by decide)))
          simp only [Nat.add_zero] at q0
          have em : ((y.d.M.length : Int) != 0) = false := by rw [hm0]; rfl
          have HB := Lib.hid hb
          have i0 : (0 : Int) ≤ (j : Int) := Int.natCast_nonneg _
          have i1 : (j : Int) < (ys.length : Int) := by omega
          clear hb hcy hy hx1 hx2 hm0
          go_wp2_with fail
          go_roundw
          case rel => exact ⟨j + 1, hlt, by go_num, HB.out.alloc HB.out.size _⟩
          case measure => simp [intOf]; omega
        · have dl : decide ((j : Int) < (ys.length : Int)) = false := by simp [hlt]
          replace y0 := (hb.cell (p := ⟨w.heap.size, 0, none⟩) zd).trans y0
          replace y1 := (hb.cell (p := ⟨w.heap.size, 1, none⟩) zd).trans y1
          replace y2 := (hb.cell (p := ⟨w.heap.size, 2, none⟩) zd).trans y2
          replace y3 := (hb.cell (p := ⟨w.heap.size, 3, none⟩) zd).trans y3
          replace y4 := (hb.cell (p := ⟨w.heap.size, 4, none⟩) zd).trans y4
          replace y5 := (hb.cell (p := ⟨w.heap.size, 5, none⟩) zd).trans y5
          replace x0 := (hb.cell (p := ⟨bp, 0, none⟩) zp).trans x0
          replace x1 := (hb.cell (p := ⟨bp, 1, none⟩) zp).trans x1
          replace x2 := (hb.cell (p := ⟨bp, 2, none⟩) zp).trans x2
          replace x3 := (hb.cell (p := ⟨bp, 3, none⟩) zp).trans x3
          replace x4 := (hb.cell (p := ⟨bp, 4, none⟩) zp).trans x4
          replace x5 := (hb.cell (p := ⟨bp, 5, none⟩) zp).trans x5
          replace zd : w.heap.size < wr.heap.size := Nat.lt_of_lt_of_le zd hb.size
          replace zp : bp < wr.heap.size := Nat.lt_of_lt_of_le zp hb.size
          replace HD := Lib.hid (HD.out.up hb)
          replace HW := Lib.hid (bel_trans HW.out hb)
          replace HP := Lib.hid (HP.out.up hb)
          clear hb
          go_wp2_with fail
          have hb : Below wr.heap.size wr wr.drew := ⟨rfl, rfl, rfl, Nat.le_refl _, fun _ _ => rfl⟩
          replace y0 := (hb.cell (p := ⟨w.heap.size, 0, none⟩) zd).trans y0
          replace y1 := (hb.cell (p := ⟨w.heap.size, 1, none⟩) zd).trans y1
          replace y2 := (hb.cell (p := ⟨w.heap.size, 2, none⟩) zd).trans y2
          replace y3 := (hb.cell (p := ⟨w.heap.size, 3, none⟩) zd).trans y3
          replace y4 := (hb.cell (p := ⟨w.heap.size, 4, none⟩) zd).trans y4
          replace y5 := (hb.cell (p := ⟨w.heap.size, 5, none⟩) zd).trans y5
          replace x0 := (hb.cell (p := ⟨bp, 0, none⟩) zp).trans x0
          replace x1 := (hb.cell (p := ⟨bp, 1, none⟩) zp).trans x1
          replace x2 := (hb.cell (p := ⟨bp, 2, none⟩) zp).trans x2
          replace x3 := (hb.cell (p := ⟨bp, 3, none⟩) zp).trans x3
          replace x4 := (hb.cell (p := ⟨bp, 4, none⟩) zp).trans x4
          replace x5 := (hb.cell (p := ⟨bp, 5, none⟩) zp).trans x5
          replace zd : w.heap.size < wr.drew.heap.size := Nat.lt_of_lt_of_le zd hb.size
          replace zp : bp < wr.drew.heap.size := Nat.lt_of_lt_of_le zp hb.size
          replace HD := Lib.hid (HD.out.up hb)
          replace HW := Lib.hid (bel_trans HW.out hb)
          replace HP := Lib.hid (HP.out.up hb)
          clear hb
          have hT0 : (fun w' : World => w'.cell? ⟨w.heap.size, 0, none⟩ = some (.int .i64 d.K) ∧ w'.cell? ⟨w.heap.size, 1, none⟩ = some (.int .i64 d.N) ∧ w'.cell? ⟨w.heap.size, 2, none⟩ = some (.string d.S) ∧ w'.cell? ⟨w.heap.size, 3, none⟩ = some (.slice am d.M.length cm) ∧ w'.cell? ⟨w.heap.size, 4, none⟩ = some (.slice al d.L.length cl) ∧ w'.cell? ⟨w.heap.size, 5, none⟩ = some (.slice at_ d.T.length ct) ∧ w'.cell? ⟨bp, 0, none⟩ = some (.int .i64 pd.K) ∧ w'.cell? ⟨bp, 1, none⟩ = some (.int .i64 pd.N) ∧ w'.cell? ⟨bp, 2, none⟩ = some (.string pd.S) ∧ w'.cell? ⟨bp, 3, none⟩ = some (.slice pm pd.M.length qm) ∧ w'.cell? ⟨bp, 4, none⟩ = some (.slice pl pd.L.length ql) ∧ w'.cell? ⟨bp, 5, none⟩ = some (.slice pt pd.T.length qt)) wr.drew := ⟨y0, y1, y2, y3, y4, y5, x0, x1, x2, x3, x4, x5⟩
          refine Od.till_region 33 (fun _ : World => True) (fun w' : World => w'.cell? ⟨w.heap.size, 0, none⟩ = some (.int .i64 d.K) ∧ w'.cell? ⟨w.heap.size, 1, none⟩ = some (.int .i64 d.N) ∧ w'.cell? ⟨w.heap.size, 2, none⟩ = some (.string d.S) ∧ w'.cell? ⟨w.heap.size, 3, none⟩ = some (.slice am d.M.length cm) ∧ w'.cell? ⟨w.heap.size, 4, none⟩ = some (.slice al d.L.length cl) ∧ w'.cell? ⟨w.heap.size, 5, none⟩ = some (.slice at_ d.T.length ct) ∧ w'.cell? ⟨bp, 0, none⟩ = some (.int .i64 pd.K) ∧ w'.cell? ⟨bp, 1, none⟩ = some (.int .i64 pd.N) ∧ w'.cell? ⟨bp, 2, none⟩ = some (.string pd.S) ∧ w'.cell? ⟨bp, 3, none⟩ = some (.slice pm pd.M.length qm) ∧ w'.cell? ⟨bp, 4, none⟩ = some (.slice pl pd.L.length ql) ∧ w'.cell? ⟨bp, 5, none⟩ = some (.slice pt pd.T.length qt)) 33 (by kernel_rfl) rfl ?_
          simp only [Array.replicate_succ, Array.replicate_zero, List.push_toArray, List.nil_append, List.cons_append]
          refine Od.Till.takeT (i := 0) (d := 57) (v := .agg #[.int .i64 d.K, .int .i64 d.N, .string d.S, .slice am d.M.length cm, .slice al d.L.length cl, .slice at_ d.T.length ct]) rfl rfl (by kernel_rfl) (by kernel_rfl) (by kernel_rfl) (by kernel_rfl) (fun _ _ _ h => h) (.inl ⟨by rfl, ?_⟩) trivial hT0 ?_
          · intro wx hSw
            obtain ⟨j0, j1, j2, j3, j4, j5, j6, j7, j8, j9, j10, j11⟩ := hSw
            go_simp
          simp only [Act.put, List.setIfInBounds_toArray, List.set_cons_zero, List.set_cons_succ]
          refine Od.Till.takeT (i := 4) (d := 61) (v := .agg #[.int .i64 d.K, .int .i64 d.N, .string d.S, .slice am d.M.length cm, .slice al d.L.length cl, .slice at_ d.T.length ct]) rfl rfl (by kernel_rfl) (by kernel_rfl) (by kernel_rfl) (by kernel_rfl) (fun _ _ _ h => h) (.inl ⟨by rfl, ?_⟩) trivial hT0 ?_
          · intro wx hSw
            obtain ⟨j0, j1, j2, j3, j4, j5, j6, j7, j8, j9, j10, j11⟩ := hSw
            go_simp
          simp only [Act.put, List.setIfInBounds_toArray, List.set_cons_zero, List.set_cons_succ]
          refine Od.Till.one (i := 1) (by kernel_rfl) rfl (fun K hK => ?_)
          rw [if_pos (by kernel_rfl)]
          go_simp
          refine (all_any d _ _ _ HD.out (Nat.le_refl _)).mono ?_
          rintro e4 w10 ⟨hb, hres⟩
          replace y0 := (hb.cell (p := ⟨w.heap.size, 0, none⟩) zd).trans y0
          replace y1 := (hb.cell (p := ⟨w.heap.size, 1, none⟩) zd).trans y1
          replace y2 := (hb.cell (p := ⟨w.heap.size, 2, none⟩) zd).trans y2
          replace y3 := (hb.cell (p := ⟨w.heap.size, 3, none⟩) zd).trans y3
          replace y4 := (hb.cell (p := ⟨w.heap.size, 4, none⟩) zd).trans y4
          replace y5 := (hb.cell (p := ⟨w.heap.size, 5, none⟩) zd).trans y5
          replace x0 := (hb.cell (p := ⟨bp, 0, none⟩) zp).trans x0
          replace x1 := (hb.cell (p := ⟨bp, 1, none⟩) zp).trans x1
          replace x2 := (hb.cell (p := ⟨bp, 2, none⟩) zp).trans x2
          replace x3 := (hb.cell (p := ⟨bp, 3, none⟩) zp).trans x3
          replace x4 := (hb.cell (p := ⟨bp, 4, none⟩) zp).trans x4
          replace x5 := (hb.cell (p := ⟨bp, 5, none⟩) zp).trans x5
          replace zd : w.heap.size < w10.heap.size := Nat.lt_of_lt_of_le zd hb.size
          replace zp : bp < w10.heap.size := Nat.lt_of_lt_of_le zp hb.size
          replace HD := Lib.hid (HD.out.up hb)
          replace HW := Lib.hid (bel_trans HW.out hb)
          replace HP := Lib.hid (HP.out.up hb)
          have hT1 : (fun w' : World => w'.cell? ⟨w.heap.size, 0, none⟩ = some (.int .i64 d.K) ∧ w'.cell? ⟨w.heap.size, 1, none⟩ = some (.int .i64 d.N) ∧ w'.cell? ⟨w.heap.size, 2, none⟩ = some (.string d.S) ∧ w'.cell? ⟨w.heap.size, 3, none⟩ = some (.slice am d.M.length cm) ∧ w'.cell? ⟨w.heap.size, 4, none⟩ = some (.slice al d.L.length cl) ∧ w'.cell? ⟨w.heap.size, 5, none⟩ = some (.slice at_ d.T.length ct) ∧ w'.cell? ⟨bp, 0, none⟩ = some (.int .i64 pd.K) ∧ w'.cell? ⟨bp, 1, none⟩ = some (.int .i64 pd.N) ∧ w'.cell? ⟨bp, 2, none⟩ = some (.string pd.S) ∧ w'.cell? ⟨bp, 3, none⟩ = some (.slice pm pd.M.length qm) ∧ w'.cell? ⟨bp, 4, none⟩ = some (.slice pl pd.L.length ql) ∧ w'.cell? ⟨bp, 5, none⟩ = some (.slice pt pd.T.length qt)) w10 := ⟨y0, y1, y2, y3, y4, y5, x0, x1, x2, x3, x4, x5⟩
          clear hb
          obtain ⟨rbf, rbc, rfl, hrb⟩ := all_form hres
          have Hrb := Lib.hid hrb
          clear hrb hres
          refine hK.out _ _ ⟨fun _ => trivial, hT1⟩ ?_
          clear hK K
          simp only [Act.put, List.setIfInBounds_toArray, List.set_cons_zero, List.set_cons_succ]
          refine Od.Till.one (i := 2) (by kernel_rfl) rfl (fun K hK => ?_)
          rw [if_pos (by kernel_rfl)]
          go_simp
          refine (Hrb.out 1048576 (Nat.le_refl _)).mono ?_
          rintro e4 w11 ⟨xs, xa, xc, rfl, hb, _, hmap, _⟩
          replace y0 := (hb.cell (p := ⟨w.heap.size, 0, none⟩) zd).trans y0
          replace y1 := (hb.cell (p := ⟨w.heap.size, 1, none⟩) zd).trans y1
          replace y2 := (hb.cell (p := ⟨w.heap.size, 2, none⟩) zd).trans y2
          replace y3 := (hb.cell (p := ⟨w.heap.size, 3, none⟩) zd).trans y3
          replace y4 := (hb.cell (p := ⟨w.heap.size, 4, none⟩) zd).trans y4
          replace y5 := (hb.cell (p := ⟨w.heap.size, 5, none⟩) zd).trans y5
          replace x0 := (hb.cell (p := ⟨bp, 0, none⟩) zp).trans x0
          replace x1 := (hb.cell (p := ⟨bp, 1, none⟩) zp).trans x1
          replace x2 := (hb.cell (p := ⟨bp, 2, none⟩) zp).trans x2
          replace x3 := (hb.cell (p := ⟨bp, 3, none⟩) zp).trans x3
          replace x4 := (hb.cell (p := ⟨bp, 4, none⟩) zp).trans x4
          replace x5 := (hb.cell (p := ⟨bp, 5, none⟩) zp).trans x5
          replace zd : w.heap.size < w11.heap.size := Nat.lt_of_lt_of_le zd hb.size
          replace zp : bp < w11.heap.size := Nat.lt_of_lt_of_le zp hb.size
          replace HD := Lib.hid (HD.out.up hb)
          replace HW := Lib.hid (bel_trans HW.out hb)
          replace HP := Lib.hid (HP.out.up hb)
          have hT2 : (fun w' : World => w'.cell? ⟨w.heap.size, 0, none⟩ = some (.int .i64 d.K) ∧ w'.cell? ⟨w.heap.size, 1, none⟩ = some (.int .i64 d.N) ∧ w'.cell? ⟨w.heap.size, 2, none⟩ = some (.string d.S) ∧ w'.cell? ⟨w.heap.size, 3, none⟩ = some (.slice am d.M.length cm) ∧ w'.cell? ⟨w.heap.size, 4, none⟩ = some (.slice al d.L.length cl) ∧ w'.cell? ⟨w.heap.size, 5, none⟩ = some (.slice at_ d.T.length ct) ∧ w'.cell? ⟨bp, 0, none⟩ = some (.int .i64 pd.K) ∧ w'.cell? ⟨bp, 1, none⟩ = some (.int .i64 pd.N) ∧ w'.cell? ⟨bp, 2, none⟩ = some (.string pd.S) ∧ w'.cell? ⟨bp, 3, none⟩ = some (.slice pm pd.M.length qm) ∧ w'.cell? ⟨bp, 4, none⟩ = some (.slice pl pd.L.length ql) ∧ w'.cell? ⟨bp, 5, none⟩ = some (.slice pt pd.T.length qt)) w11 := ⟨y0, y1, y2, y3, y4, y5, x0, x1, x2, x3, x4, x5⟩
          clear hb
          have hxl := congrArg List.length hmap
          rw [List.length_map, List.length_take, List.length_map] at hxl
          have e1 : ((xs.length : Int) == sizeD d) = true := by rw [beq_iff_eq, ← HG.out.2.2.2.2.2.1, hxl]; have := HG.out.2.2.2.2.2.2.2.1; omega
          clear hmap hxl
          refine hK.out _ _ ⟨fun _ => trivial, hT2⟩ ?_
          clear hK K
          simp only [Act.put, List.setIfInBounds_toArray, List.set_cons_zero, List.set_cons_succ]
          refine Od.Till.takeT (i := 3) (d := 60) (v := .int .i64 (xs.length : Int)) rfl rfl (by kernel_rfl) (by kernel_rfl) (by kernel_rfl) (by kernel_rfl) (fun _ _ _ h => h) (.inl ⟨by rfl, ?_⟩) trivial hT2 ?_
          · intro wx hSw
            obtain ⟨j0, j1, j2, j3, j4, j5, j6, j7, j8, j9, j10, j11⟩ := hSw
            go_simp
          simp only [Act.put, List.setIfInBounds_toArray, List.set_cons_zero, List.set_cons_succ]
          refine Od.Till.one (i := 5) (by kernel_rfl) rfl (fun K hK => ?_)
          rw [if_pos (by kernel_rfl)]
          go_simp
          refine (size_any d _ _ _ HD.out (Nat.le_refl _)).mono ?_
          rintro e4 w12 ⟨rfl, hb⟩
          replace y0 := (hb.cell (p := ⟨w.heap.size, 0, none⟩) zd).trans y0
          replace y1 := (hb.cell (p := ⟨w.heap.size, 1, none⟩) zd).trans y1
          replace y2 := (hb.cell (p := ⟨w.heap.size, 2, none⟩) zd).trans y2
          replace y3 := (hb.cell (p := ⟨w.heap.size, 3, none⟩) zd).trans y3
          replace y4 := (hb.cell (p := ⟨w.heap.size, 4, none⟩) zd).trans y4
          replace y5 := (hb.cell (p := ⟨w.heap.size, 5, none⟩) zd).trans y5
          replace x0 := (hb.cell (p := ⟨bp, 0, none⟩) zp).trans x0
          replace x1 := (hb.cell (p := ⟨bp, 1, none⟩) zp).trans x1
          replace x2 := (hb.cell (p := ⟨bp, 2, none⟩) zp).trans x2
          replace x3 := (hb.cell (p := ⟨bp, 3, none⟩) zp).trans x3
          replace x4 := (hb.cell (p := ⟨bp, 4, none⟩) zp).trans x4
          replace x5 := (hb.cell (p := ⟨bp, 5, none⟩) zp).trans x5
          replace zd : w.heap.size < w12.heap.size := Nat.lt_of_lt_of_le zd hb.size
          replace zp : bp < w12.heap.size := Nat.lt_of_lt_of_le zp hb.size
          replace HD := Lib.hid (HD.out.up hb)
          replace HW := Lib.hid (bel_trans HW.out hb)
          replace HP := Lib.hid (HP.out.up hb)
          have hT3 : (fun w' : World => w'.cell? ⟨w.heap.size, 0, none⟩ = some (.int .i64 d.K) ∧ w'.cell? ⟨w.heap.size, 1, none⟩ = some (.int .i64 d.N) ∧ w'.cell? ⟨w.heap.size, 2, none⟩ = some (.string d.S) ∧ w'.cell? ⟨w.heap.size, 3, none⟩ = some (.slice am d.M.length cm) ∧ w'.cell? ⟨w.heap.size, 4, none⟩ = some (.slice al d.L.length cl) ∧ w'.cell? ⟨w.heap.size, 5, none⟩ = some (.slice at_ d.T.length ct) ∧ w'.cell? ⟨bp, 0, none⟩ = some (.int .i64 pd.K) ∧ w'.cell? ⟨bp, 1, none⟩ = some (.int .i64 pd.N) ∧ w'.cell? ⟨bp, 2, none⟩ = some (.string pd.S) ∧ w'.cell? ⟨bp, 3, none⟩ = some (.slice pm pd.M.length qm) ∧ w'.cell? ⟨bp, 4, none⟩ = some (.slice pl pd.L.length ql) ∧ w'.cell? ⟨bp, 5, none⟩ = some (.slice pt pd.T.length qt)) w12 := ⟨y0, y1, y2, y3, y4, y5, x0, x1, x2, x3, x4, x5⟩
          clear hb
          refine hK.out _ _ ⟨fun _ => trivial, hT3⟩ ?_
          clear hK K
          simp only [Act.put, List.setIfInBounds_toArray, List.set_cons_zero, List.set_cons_succ]
          refine Od.Till.takeT (i := 6) (d := 63) (v := .bool true) rfl rfl (by kernel_rfl) (by kernel_rfl) (by kernel_rfl) (by kernel_rfl) (fun _ _ _ h => h) (.inl ⟨by rfl, ?_⟩) trivial hT3 ?_
          · intro wx hSw
            obtain ⟨j0, j1, j2, j3, j4, j5, j6, j7, j8, j9, j10, j11⟩ := hSw
            go_simp
          simp only [Act.put, List.setIfInBounds_toArray, List.set_cons_zero, List.set_cons_succ]
          refine Od.Till.takeT (i := 7) (d := 64) (v := .bool true) rfl rfl (by kernel_rfl) (by kernel_rfl) (by kernel_rfl) (by kernel_rfl) (fun _ _ _ h => h) (.inl ⟨by rfl, ?_⟩) trivial hT3 ?_
          · intro wx hSw
            obtain ⟨j0, j1, j2, j3, j4, j5, j6, j7, j8, j9, j10, j11⟩ := hSw
            go_simp
          simp only [Act.put, List.setIfInBounds_toArray, List.set_cons_zero, List.set_cons_succ]
          refine Od.Till.takeT (i := 8) (d := 65) (v := .agg #[.int .i64 pd.K, .int .i64 pd.N, .string pd.S, .slice pm pd.M.length qm, .slice pl pd.L.length ql, .slice pt pd.T.length qt]) rfl rfl (by kernel_rfl) (by kernel_rfl) (by kernel_rfl) (by kernel_rfl) (fun _ _ _ h => h) (.inl ⟨by rfl, ?_⟩) trivial hT3 ?_
          · intro wx hSw
            obtain ⟨j0, j1, j2, j3, j4, j5, j6, j7, j8, j9, j10, j11⟩ := hSw
            go_simp
          simp only [Act.put, List.setIfInBounds_toArray, List.set_cons_zero, List.set_cons_succ]
          refine Od.Till.takeT (i := 10) (d := 67) (v := .agg #[.int .i64 d.K, .int .i64 d.N, .string d.S, .slice am d.M.length cm, .slice al d.L.length cl, .slice at_ d.T.length ct]) rfl rfl (by kernel_rfl) (by kernel_rfl) (by kernel_rfl) (by kernel_rfl) (fun _ _ _ h => h) (.inl ⟨by rfl, ?_⟩) trivial hT3 ?_
          · intro wx hSw
            obtain ⟨j0, j1, j2, j3, j4, j5, j6, j7, j8, j9, j10, j11⟩ := hSw
            go_simp
          simp only [Act.put, List.setIfInBounds_toArray, List.set_cons_zero, List.set_cons_succ]
          refine Od.Till.one (i := 9) (by kernel_rfl) rfl (fun K hK => ?_)
          rw [if_pos (by kernel_rfl)]
          go_simp
          refine (size_any pd _ _ _ HP.out (Nat.le_refl _)).mono ?_
          rintro e4 w13 ⟨rfl, hb⟩
          rw [HG.out.2.1]
          replace y0 := (hb.cell (p := ⟨w.heap.size, 0, none⟩) zd).trans y0
          replace y1 := (hb.cell (p := ⟨w.heap.size, 1, none⟩) zd).trans y1
          replace y2 := (hb.cell (p := ⟨w.heap.size, 2, none⟩) zd).trans y2
          replace y3 := (hb.cell (p := ⟨w.heap.size, 3, none⟩) zd).trans y3
          replace y4 := (hb.cell (p := ⟨w.heap.size, 4, none⟩) zd).trans y4
          replace y5 := (hb.cell (p := ⟨w.heap.size, 5, none⟩) zd).trans y5
          replace x0 := (hb.cell (p := ⟨bp, 0, none⟩) zp).trans x0
          replace x1 := (hb.cell (p := ⟨bp, 1, none⟩) zp).trans x1
          replace x2 := (hb.cell (p := ⟨bp, 2, none⟩) zp).trans x2
          replace x3 := (hb.cell (p := ⟨bp, 3, none⟩) zp).trans x3
          replace x4 := (hb.cell (p := ⟨bp, 4, none⟩) zp).trans x4
          replace x5 := (hb.cell (p := ⟨bp, 5, none⟩) zp).trans x5
          replace zd : w.heap.size < w13.heap.size := Nat.lt_of_lt_of_le zd hb.size
          replace zp : bp < w13.heap.size := Nat.lt_of_lt_of_le zp hb.size
          replace HD := Lib.hid (HD.out.up hb)
          replace HW := Lib.hid (bel_trans HW.out hb)
          replace HP := Lib.hid (HP.out.up hb)
          have hT4 : (fun w' : World => w'.cell? ⟨w.heap.size, 0, none⟩ = some (.int .i64 d.K) ∧ w'.cell? ⟨w.heap.size, 1, none⟩ = some (.int .i64 d.N) ∧ w'.cell? ⟨w.heap.size, 2, none⟩ = some (.string d.S) ∧ w'.cell? ⟨w.heap.size, 3, none⟩ = some (.slice am d.M.length cm) ∧ w'.cell? ⟨w.heap.size, 4, none⟩ = some (.slice al d.L.length cl) ∧ w'.cell? ⟨w.heap.size, 5, none⟩ = some (.slice at_ d.T.length ct) ∧ w'.cell? ⟨bp, 0, none⟩ = some (.int .i64 pd.K) ∧ w'.cell? ⟨bp, 1, none⟩ = some (.int .i64 pd.N) ∧ w'.cell? ⟨bp, 2, none⟩ = some (.string pd.S) ∧ w'.cell? ⟨bp, 3, none⟩ = some (.slice pm pd.M.length qm) ∧ w'.cell? ⟨bp, 4, none⟩ = some (.slice pl pd.L.length ql) ∧ w'.cell? ⟨bp, 5, none⟩ = some (.slice pt pd.T.length qt)) w13 := ⟨y0, y1, y2, y3, y4, y5, x0, x1, x2, x3, x4, x5⟩
          clear hb
          refine hK.out _ _ ⟨fun _ => trivial, hT4⟩ ?_
          clear hK K
          simp only [Act.put, List.setIfInBounds_toArray, List.set_cons_zero, List.set_cons_succ]
          refine Od.Till.one (i := 11) (by kernel_rfl) rfl (fun K hK => ?_)
          rw [if_pos (by kernel_rfl)]
          go_simp
          refine (size_any d _ _ _ HD.out (Nat.le_refl _)).mono ?_
          rintro e4 w14 ⟨rfl, hb⟩
          replace y0 := (hb.cell (p := ⟨w.heap.size, 0, none⟩) zd).trans y0
          replace y1 := (hb.cell (p := ⟨w.heap.size, 1, none⟩) zd).trans y1
          replace y2 := (hb.cell (p := ⟨w.heap.size, 2, none⟩) zd).trans y2
          replace y3 := (hb.cell (p := ⟨w.heap.size, 3, none⟩) zd).trans y3
          replace y4 := (hb.cell (p := ⟨w.heap.size, 4, none⟩) zd).trans y4
          replace y5 := (hb.cell (p := ⟨w.heap.size, 5, none⟩) zd).trans y5
          replace x0 := (hb.cell (p := ⟨bp, 0, none⟩) zp).trans x0
          replace x1 := (hb.cell (p := ⟨bp, 1, none⟩) zp).trans x1
          replace x2 := (hb.cell (p := ⟨bp, 2, none⟩) zp).trans x2
          replace x3 := (hb.cell (p := ⟨bp, 3, none⟩) zp).trans x3
          replace x4 := (hb.cell (p := ⟨bp, 4, none⟩) zp).trans x4
          replace x5 := (hb.cell (p := ⟨bp, 5, none⟩) zp).trans x5
          replace zd : w.heap.size < w14.heap.size := Nat.lt_of_lt_of_le zd hb.size
          replace zp : bp < w14.heap.size := Nat.lt_of_lt_of_le zp hb.size
          replace HD := Lib.hid (HD.out.up hb)
          replace HW := Lib.hid (bel_trans HW.out hb)
          replace HP := Lib.hid (HP.out.up hb)
          have hT5 : (fun w' : World => w'.cell? ⟨w.heap.size, 0, none⟩ = some (.int .i64 d.K) ∧ w'.cell? ⟨w.heap.size, 1, none⟩ = some (.int .i64 d.N) ∧ w'.cell? ⟨w.heap.size, 2, none⟩ = some (.string d.S) ∧ w'.cell? ⟨w.heap.size, 3, none⟩ = some (.slice am d.M.length cm) ∧ w'.cell? ⟨w.heap.size, 4, none⟩ = some (.slice al d.L.length cl) ∧ w'.cell? ⟨w.heap.size, 5, none⟩ = some (.slice at_ d.T.length ct) ∧ w'.cell? ⟨bp, 0, none⟩ = some (.int .i64 pd.K) ∧ w'.cell? ⟨bp, 1, none⟩ = some (.int .i64 pd.N) ∧ w'.cell? ⟨bp, 2, none⟩ = some (.string pd.S) ∧ w'.cell? ⟨bp, 3, none⟩ = some (.slice pm pd.M.length qm) ∧ w'.cell? ⟨bp, 4, none⟩ = some (.slice pl pd.L.length ql) ∧ w'.cell? ⟨bp, 5, none⟩ = some (.slice pt pd.T.length qt)) w14 := ⟨y0, y1, y2, y3, y4, y5, x0, x1, x2, x3, x4, x5⟩
          clear hb
          refine hK.out _ _ ⟨fun _ => trivial, hT5⟩ ?_
          clear hK K
          simp only [Act.put, List.setIfInBounds_toArray, List.set_cons_zero, List.set_cons_succ]
          refine Od.Till.takeT (i := 12) (d := 69) (v := .bool true) rfl rfl (by kernel_rfl) (by kernel_rfl) (by kernel_rfl) (by kernel_rfl) (fun _ _ _ h => h) (.inl ⟨by rfl, ?_⟩) trivial hT5 ?_
          · intro wx hSw
            obtain ⟨j0, j1, j2, j3, j4, j5, j6, j7, j8, j9, j10, j11⟩ := hSw
            go_simp
          simp only [Act.put, List.setIfInBounds_toArray, List.set_cons_zero, List.set_cons_succ]
          refine Od.Till.takeT (i := 13) (d := 70) (v := .bool true) rfl rfl (by kernel_rfl) (by kernel_rfl) (by kernel_rfl) (by kernel_rfl) (fun _ _ _ h => h) (.inl ⟨by rfl, ?_⟩) trivial hT5 ?_
          · intro wx hSw
            obtain ⟨j0, j1, j2, j3, j4, j5, j6, j7, j8, j9, j10, j11⟩ := hSw
            go_simp
          simp only [Act.put, List.setIfInBounds_toArray, List.set_cons_zero, List.set_cons_succ]
          refine Od.Till.takeT (i := 14) (d := 71) (v := .bool true) rfl rfl (by kernel_rfl) (by kernel_rfl) (by kernel_rfl) (by kernel_rfl) (fun _ _ _ h => h) (.inl ⟨by rfl, ?_⟩) trivial hT5 ?_
          · intro wx hSw
            obtain ⟨j0, j1, j2, j3, j4, j5, j6, j7, j8, j9, j10, j11⟩ := hSw
            go_simp
          simp only [Act.put, List.setIfInBounds_toArray, List.set_cons_zero, List.set_cons_succ]
          refine Od.Till.takeT (i := 15) (d := 72) (v := .agg #[.int .i64 pd.K, .int .i64 pd.N, .string pd.S, .slice pm pd.M.length qm, .slice pl pd.L.length ql, .slice pt pd.T.length qt]) rfl rfl (by kernel_rfl) (by kernel_rfl) (by kernel_rfl) (by kernel_rfl) (fun _ _ _ h => h) (.inl ⟨by rfl, ?_⟩) trivial hT5 ?_
          · intro wx hSw
            obtain ⟨j0, j1, j2, j3, j4, j5, j6, j7, j8, j9, j10, j11⟩ := hSw
            go_simp
          simp only [Act.put, List.setIfInBounds_toArray, List.set_cons_zero, List.set_cons_succ]
          refine Od.Till.takeT (i := 17) (d := 74) (v := .agg #[.int .i64 d.K, .int .i64 d.N, .string d.S, .slice am d.M.length cm, .slice al d.L.length cl, .slice at_ d.T.length ct]) rfl rfl (by kernel_rfl) (by kernel_rfl) (by kernel_rfl) (by kernel_rfl) (fun _ _ _ h => h) (.inl ⟨by rfl, ?_⟩) trivial hT5 ?_
          · intro wx hSw
            obtain ⟨j0, j1, j2, j3, j4, j5, j6, j7, j8, j9, j10, j11⟩ := hSw
            go_simp
          simp only [Act.put, List.setIfInBounds_toArray, List.set_cons_zero, List.set_cons_succ]
          refine Od.Till.one (i := 16) (by kernel_rfl) rfl (fun K hK => ?_)
          rw [if_pos (by kernel_rfl)]
          go_simp
          refine (deep_any pd _ _ _ HP.out (Nat.le_refl _)).mono ?_
          rintro e4 w15 ⟨rfl, hb⟩
          rw [HG.out.2.2.1]
          replace y0 := (hb.cell (p := ⟨w.heap.size, 0, none⟩) zd).trans y0
          replace y1 := (hb.cell (p := ⟨w.heap.size, 1, none⟩) zd).trans y1
          replace y2 := (hb.cell (p := ⟨w.heap.size, 2, none⟩) zd).trans y2
          replace y3 := (hb.cell (p := ⟨w.heap.size, 3, none⟩) zd).trans y3
          replace y4 := (hb.cell (p := ⟨w.heap.size, 4, none⟩) zd).trans y4
          replace y5 := (hb.cell (p := ⟨w.heap.size, 5, none⟩) zd).trans y5
          replace x0 := (hb.cell (p := ⟨bp, 0, none⟩) zp).trans x0
          replace x1 := (hb.cell (p := ⟨bp, 1, none⟩) zp).trans x1
          replace x2 := (hb.cell (p := ⟨bp, 2, none⟩) zp).trans x2
          replace x3 := (hb.cell (p := ⟨bp, 3, none⟩) zp).trans x3
          replace x4 := (hb.cell (p := ⟨bp, 4, none⟩) zp).trans x4
          replace x5 := (hb.cell (p := ⟨bp, 5, none⟩) zp).trans x5
          replace zd : w.heap.size < w15.heap.size := Nat.lt_of_lt_of_le zd hb.size
          replace zp : bp < w15.heap.size := Nat.lt_of_lt_of_le zp hb.size
          replace HD := Lib.hid (HD.out.up hb)
          replace HW := Lib.hid (bel_trans HW.out hb)
          replace HP := Lib.hid (HP.out.up hb)
          have hT6 : (fun w' : World => w'.cell? ⟨w.heap.size, 0, none⟩ = some (.int .i64 d.K) ∧ w'.cell? ⟨w.heap.size, 1, none⟩ = some (.int .i64 d.N) ∧ w'.cell? ⟨w.heap.size, 2, none⟩ = some (.string d.S) ∧ w'.cell? ⟨w.heap.size, 3, none⟩ = some (.slice am d.M.length cm) ∧ w'.cell? ⟨w.heap.size, 4, none⟩ = some (.slice al d.L.length cl) ∧ w'.cell? ⟨w.heap.size, 5, none⟩ = some (.slice at_ d.T.length ct) ∧ w'.cell? ⟨bp, 0, none⟩ = some (.int .i64 pd.K) ∧ w'.cell? ⟨bp, 1, none⟩ = some (.int .i64 pd.N) ∧ w'.cell? ⟨bp, 2, none⟩ = some (.string pd.S) ∧ w'.cell? ⟨bp, 3, none⟩ = some (.slice pm pd.M.length qm) ∧ w'.cell? ⟨bp, 4, none⟩ = some (.slice pl pd.L.length ql) ∧ w'.cell? ⟨bp, 5, none⟩ = some (.slice pt pd.T.length qt)) w15 := ⟨y0, y1, y2, y3, y4, y5, x0, x1, x2, x3, x4, x5⟩
          clear hb
          refine hK.out _ _ ⟨fun _ => trivial, hT6⟩ ?_
          clear hK K
          simp only [Act.put, List.setIfInBounds_toArray, List.set_cons_zero, List.set_cons_succ]
          refine Od.Till.one (i := 18) (by kernel_rfl) rfl (fun K hK => ?_)
          rw [if_pos (by kernel_rfl)]
          go_simp
          refine (deep_any d _ _ _ HD.out (Nat.le_refl _)).mono ?_
          rintro e4 w16 ⟨rfl, hb⟩
          replace y0 := (hb.cell (p := ⟨w.heap.size, 0, none⟩) zd).trans y0
          replace y1 := (hb.cell (p := ⟨w.heap.size, 1, none⟩) zd).trans y1
          replace y2 := (hb.cell (p := ⟨w.heap.size, 2, none⟩) zd).trans y2
          replace y3 := (hb.cell (p := ⟨w.heap.size, 3, none⟩) zd).trans y3
          replace y4 := (hb.cell (p := ⟨w.heap.size, 4, none⟩) zd).trans y4
          replace y5 := (hb.cell (p := ⟨w.heap.size, 5, none⟩) zd).trans y5
          replace x0 := (hb.cell (p := ⟨bp, 0, none⟩) zp).trans x0
          replace x1 := (hb.cell (p := ⟨bp, 1, none⟩) zp).trans x1
          replace x2 := (hb.cell (p := ⟨bp, 2, none⟩) zp).trans x2
          replace x3 := (hb.cell (p := ⟨bp, 3, none⟩) zp).trans x3
          replace x4 := (hb.cell (p := ⟨bp, 4, none⟩) zp).trans x4
          replace x5 := (hb.cell (p := ⟨bp, 5, none⟩) zp).trans x5
          replace zd : w.heap.size < w16.heap.size := Nat.lt_of_lt_of_le zd hb.size
          replace zp : bp < w16.heap.size := Nat.lt_of_lt_of_le zp hb.size
          replace HD := Lib.hid (HD.out.up hb)
          replace HW := Lib.hid (bel_trans HW.out hb)
          replace HP := Lib.hid (HP.out.up hb)
          have hT7 : (fun w' : World => w'.cell? ⟨w.heap.size, 0, none⟩ = some (.int .i64 d.K) ∧ w'.cell? ⟨w.heap.size, 1, none⟩ = some (.int .i64 d.N) ∧ w'.cell? ⟨w.heap.size, 2, none⟩ = some (.string d.S) ∧ w'.cell? ⟨w.heap.size, 3, none⟩ = some (.slice am d.M.length cm) ∧ w'.cell? ⟨w.heap.size, 4, none⟩ = some (.slice al d.L.length cl) ∧ w'.cell? ⟨w.heap.size, 5, none⟩ = some (.slice at_ d.T.length ct) ∧ w'.cell? ⟨bp, 0, none⟩ = some (.int .i64 pd.K) ∧ w'.cell? ⟨bp, 1, none⟩ = some (.int .i64 pd.N) ∧ w'.cell? ⟨bp, 2, none⟩ = some (.string pd.S) ∧ w'.cell? ⟨bp, 3, none⟩ = some (.slice pm pd.M.length qm) ∧ w'.cell? ⟨bp, 4, none⟩ = some (.slice pl pd.L.length ql) ∧ w'.cell? ⟨bp, 5, none⟩ = some (.slice pt pd.T.length qt)) w16 := ⟨y0, y1, y2, y3, y4, y5, x0, x1, x2, x3, x4, x5⟩
          clear hb
          refine hK.out _ _ ⟨fun _ => trivial, hT7⟩ ?_
          clear hK K
          simp only [Act.put, List.setIfInBounds_toArray, List.set_cons_zero, List.set_cons_succ]
          refine Od.Till.takeT (i := 19) (d := 76) (v := .bool true) rfl rfl (by kernel_rfl) (by kernel_rfl) (by kernel_rfl) (by kernel_rfl) (fun _ _ _ h => h) (.inl ⟨by rfl, ?_⟩) trivial hT7 ?_
          · intro wx hSw
            obtain ⟨j0, j1, j2, j3, j4, j5, j6, j7, j8, j9, j10, j11⟩ := hSw
            go_simp
          simp only [Act.put, List.setIfInBounds_toArray, List.set_cons_zero, List.set_cons_succ]
          refine Od.Till.takeT (i := 20) (d := 77) (v := .bool true) rfl rfl (by kernel_rfl) (by kernel_rfl) (by kernel_rfl) (by kernel_rfl) (fun _ _ _ h => h) (.inl ⟨by rfl, ?_⟩) trivial hT7 ?_
          · intro wx hSw
            obtain ⟨j0, j1, j2, j3, j4, j5, j6, j7, j8, j9, j10, j11⟩ := hSw
            go_simp
          simp only [Act.put, List.setIfInBounds_toArray, List.set_cons_zero, List.set_cons_succ]
          refine Od.Till.takeT (i := 21) (d := 78) (v := .bool true) rfl rfl (by kernel_rfl) (by kernel_rfl) (by kernel_rfl) (by kernel_rfl) (fun _ _ _ h => h) (.inl ⟨by rfl, ?_⟩) trivial hT7 ?_
          · intro wx hSw
            obtain ⟨j0, j1, j2, j3, j4, j5, j6, j7, j8, j9, j10, j11⟩ := hSw
            go_simp
          simp only [Act.put, List.setIfInBounds_toArray, List.set_cons_zero, List.set_cons_succ]
          refine Od.Till.takeT (i := 22) (d := 79) (v := .agg #[.int .i64 pd.K, .int .i64 pd.N, .string pd.S, .slice pm pd.M.length qm, .slice pl pd.L.length ql, .slice pt pd.T.length qt]) rfl rfl (by kernel_rfl) (by kernel_rfl) (by kernel_rfl) (by kernel_rfl) (fun _ _ _ h => h) (.inl ⟨by rfl, ?_⟩) trivial hT7 ?_
          · intro wx hSw
            obtain ⟨j0, j1, j2, j3, j4, j5, j6, j7, j8, j9, j10, j11⟩ := hSw
            go_simp
          simp only [Act.put, List.setIfInBounds_toArray, List.set_cons_zero, List.set_cons_succ]
          refine Od.Till.takeT (i := 24) (d := 81) (v := .agg #[.int .i64 pd.K, .int .i64 pd.N, .string pd.S, .slice pm pd.M.length qm, .slice pl pd.L.length ql, .slice pt pd.T.length qt]) rfl rfl (by kernel_rfl) (by kernel_rfl) (by kernel_rfl) (by kernel_rfl) (fun _ _ _ h => h) (.inl ⟨by rfl, ?_⟩) trivial hT7 ?_
          · intro wx hSw
            obtain ⟨j0, j1, j2, j3, j4, j5, j6, j7, j8, j9, j10, j11⟩ := hSw
            go_simp
          simp only [Act.put, List.setIfInBounds_toArray, List.set_cons_zero, List.set_cons_succ]
          refine Od.Till.one (i := 23) (by kernel_rfl) rfl (fun K hK => ?_)
          rw [if_pos (by kernel_rfl)]
          go_simp
          refine (plain_any pd _ _ HP.out).mono ?_
          rintro e4 w17 ⟨vq, rfl, hb, hvq⟩
          rw [HG.out.2.2.2.1] at hvq
          have HQ := Lib.hid hvq
          clear hvq
          replace y0 := (hb.cell (p := ⟨w.heap.size, 0, none⟩) zd).trans y0
          replace y1 := (hb.cell (p := ⟨w.heap.size, 1, none⟩) zd).trans y1
          replace y2 := (hb.cell (p := ⟨w.heap.size, 2, none⟩) zd).trans y2
          replace y3 := (hb.cell (p := ⟨w.heap.size, 3, none⟩) zd).trans y3
          replace y4 := (hb.cell (p := ⟨w.heap.size, 4, none⟩) zd).trans y4
          replace y5 := (hb.cell (p := ⟨w.heap.size, 5, none⟩) zd).trans y5
          replace x0 := (hb.cell (p := ⟨bp, 0, none⟩) zp).trans x0
          replace x1 := (hb.cell (p := ⟨bp, 1, none⟩) zp).trans x1
          replace x2 := (hb.cell (p := ⟨bp, 2, none⟩) zp).trans x2
          replace x3 := (hb.cell (p := ⟨bp, 3, none⟩) zp).trans x3
          replace x4 := (hb.cell (p := ⟨bp, 4, none⟩) zp).trans x4
          replace x5 := (hb.cell (p := ⟨bp, 5, none⟩) zp).trans x5
          replace zd : w.heap.size < w17.heap.size := Nat.lt_of_lt_of_le zd hb.size
          replace zp : bp < w17.heap.size := Nat.lt_of_lt_of_le zp hb.size
          replace HD := Lib.hid (HD.out.up hb)
          replace HW := Lib.hid (bel_trans HW.out hb)
          replace HP := Lib.hid (HP.out.up hb)
          have hT8 : (fun w' : World => w'.cell? ⟨w.heap.size, 0, none⟩ = some (.int .i64 d.K) ∧ w'.cell? ⟨w.heap.size, 1, none⟩ = some (.int .i64 d.N) ∧ w'.cell? ⟨w.heap.size, 2, none⟩ = some (.string d.S) ∧ w'.cell? ⟨w.heap.size, 3, none⟩ = some (.slice am d.M.length cm) ∧ w'.cell? ⟨w.heap.size, 4, none⟩ = some (.slice al d.L.length cl) ∧ w'.cell? ⟨w.heap.size, 5, none⟩ = some (.slice at_ d.T.length ct) ∧ w'.cell? ⟨bp, 0, none⟩ = some (.int .i64 pd.K) ∧ w'.cell? ⟨bp, 1, none⟩ = some (.int .i64 pd.N) ∧ w'.cell? ⟨bp, 2, none⟩ = some (.string pd.S) ∧ w'.cell? ⟨bp, 3, none⟩ = some (.slice pm pd.M.length qm) ∧ w'.cell? ⟨bp, 4, none⟩ = some (.slice pl pd.L.length ql) ∧ w'.cell? ⟨bp, 5, none⟩ = some (.slice pt pd.T.length qt)) w17 := ⟨y0, y1, y2, y3, y4, y5, x0, x1, x2, x3, x4, x5⟩
          clear hb
          refine hK.out _ _ ⟨fun _ => trivial, hT8⟩ ?_
          clear hK K
          simp only [Act.put, List.setIfInBounds_toArray, List.set_cons_zero, List.set_cons_succ]
          refine Od.Till.one (i := 25) (by kernel_rfl) rfl (fun K hK => ?_)
          rw [if_pos (by kernel_rfl)]
          go_simp
          refine (same_any pd pd _ _ _ _ HQ.out HP.out (Nat.le_refl _)).mono ?_
          rintro e4 w18 ⟨rfl, hb⟩
          rw [HS.out.2]
          replace y0 := (hb.cell (p := ⟨w.heap.size, 0, none⟩) zd).trans y0
          replace y1 := (hb.cell (p := ⟨w.heap.size, 1, none⟩) zd).trans y1
          replace y2 := (hb.cell (p := ⟨w.heap.size, 2, none⟩) zd).trans y2
          replace y3 := (hb.cell (p := ⟨w.heap.size, 3, none⟩) zd).trans y3
          replace y4 := (hb.cell (p := ⟨w.heap.size, 4, none⟩) zd).trans y4
          replace y5 := (hb.cell (p := ⟨w.heap.size, 5, none⟩) zd).trans y5
          replace x0 := (hb.cell (p := ⟨bp, 0, none⟩) zp).trans x0
          replace x1 := (hb.cell (p := ⟨bp, 1, none⟩) zp).trans x1
          replace x2 := (hb.cell (p := ⟨bp, 2, none⟩) zp).trans x2
          replace x3 := (hb.cell (p := ⟨bp, 3, none⟩) zp).trans x3
          replace x4 := (hb.cell (p := ⟨bp, 4, none⟩) zp).trans x4
          replace x5 := (hb.cell (p := ⟨bp, 5, none⟩) zp).trans x5
          replace zd : w.heap.size < w18.heap.size := Nat.lt_of_lt_of_le zd hb.size
          replace zp : bp < w18.heap.size := Nat.lt_of_lt_of_le zp hb.size
          replace HD := Lib.hid (HD.out.up hb)
          replace HW := Lib.hid (bel_trans HW.out hb)
          replace HP := Lib.hid (HP.out.up hb)
          have hT9 : (fun w' : World => w'.cell? ⟨w.heap.size, 0, none⟩ = some (.int .i64 d.K) ∧ w'.cell? ⟨w.heap.size, 1, none⟩ = some (.int .i64 d.N) ∧ w'.cell? ⟨w.heap.size, 2, none⟩ = some (.string d.S) ∧ w'.cell? ⟨w.heap.size, 3, none⟩ = some (.slice am d.M.length cm) ∧ w'.cell? ⟨w.heap.size, 4, none⟩ = some (.slice al d.L.length cl) ∧ w'.cell? ⟨w.heap.size, 5, none⟩ = some (.slice at_ d.T.length ct) ∧ w'.cell? ⟨bp, 0, none⟩ = some (.int .i64 pd.K) ∧ w'.cell? ⟨bp, 1, none⟩ = some (.int .i64 pd.N) ∧ w'.cell? ⟨bp, 2, none⟩ = some (.string pd.S) ∧ w'.cell? ⟨bp, 3, none⟩ = some (.slice pm pd.M.length qm) ∧ w'.cell? ⟨bp, 4, none⟩ = some (.slice pl pd.L.length ql) ∧ w'.cell? ⟨bp, 5, none⟩ = some (.slice pt pd.T.length qt)) w18 := ⟨y0, y1, y2, y3, y4, y5, x0, x1, x2, x3, x4, x5⟩
          clear hb
          refine hK.out _ _ ⟨fun _ => trivial, hT9⟩ ?_
          clear hK K
          simp only [Act.put, List.setIfInBounds_toArray, List.set_cons_zero, List.set_cons_succ]
          refine Od.Till.takeT (i := 26) (d := 83) (v := .bool true) rfl rfl (by kernel_rfl) (by kernel_rfl) (by kernel_rfl) (by kernel_rfl) (fun _ _ _ h => h) (.inl ⟨by rfl, ?_⟩) trivial hT9 ?_
          · intro wx hSw
            obtain ⟨j0, j1, j2, j3, j4, j5, j6, j7, j8, j9, j10, j11⟩ := hSw
            go_simp
          simp only [Act.put, List.setIfInBounds_toArray, List.set_cons_zero, List.set_cons_succ]
          refine Od.Till.takeT (i := 27) (d := 84) (v := .bool true) rfl rfl (by kernel_rfl) (by kernel_rfl) (by kernel_rfl) (by kernel_rfl) (fun _ _ _ h => h) (.inl ⟨by rfl, ?_⟩) trivial hT9 ?_
          · intro wx hSw
            obtain ⟨j0, j1, j2, j3, j4, j5, j6, j7, j8, j9, j10, j11⟩ := hSw
            go_simp
          simp only [Act.put, List.setIfInBounds_toArray, List.set_cons_zero, List.set_cons_succ]
          refine Od.Till.takeT (i := 28) (d := 85) (v := .agg #[.int .i64 d.K, .int .i64 d.N, .string d.S, .slice am d.M.length cm, .slice al d.L.length cl, .slice at_ d.T.length ct]) rfl rfl (by kernel_rfl) (by kernel_rfl) (by kernel_rfl) (by kernel_rfl) (fun _ _ _ h => h) (.inl ⟨by rfl, ?_⟩) trivial hT9 ?_
          · intro wx hSw
            obtain ⟨j0, j1, j2, j3, j4, j5, j6, j7, j8, j9, j10, j11⟩ := hSw
            go_simp
          simp only [Act.put, List.setIfInBounds_toArray, List.set_cons_zero, List.set_cons_succ]
          refine Od.Till.takeT (i := 29) (d := 86) (v := .agg #[.int .i64 d.K, .int .i64 d.N, .string d.S, .slice am d.M.length cm, .slice al d.L.length cl, .slice at_ d.T.length ct]) rfl rfl (by kernel_rfl) (by kernel_rfl) (by kernel_rfl) (by kernel_rfl) (fun _ _ _ h => h) (.inl ⟨by rfl, ?_⟩) trivial hT9 ?_
          · intro wx hSw
            obtain ⟨j0, j1, j2, j3, j4, j5, j6, j7, j8, j9, j10, j11⟩ := hSw
            go_simp
          simp only [Act.put, List.setIfInBounds_toArray, List.set_cons_zero, List.set_cons_succ]
          refine Od.Till.one (i := 30) (by kernel_rfl) rfl (fun K hK => ?_)
          rw [if_pos (by kernel_rfl)]
          go_simp
          refine (same_any d d _ _ _ _ HD.out HD.out (Nat.le_refl _)).mono ?_
          rintro e4 w19 ⟨rfl, hb⟩
          rw [HS.out.1]
          replace y0 := (hb.cell (p := ⟨w.heap.size, 0, none⟩) zd).trans y0
          replace y1 := (hb.cell (p := ⟨w.heap.size, 1, none⟩) zd).trans y1
          replace y2 := (hb.cell (p := ⟨w.heap.size, 2, none⟩) zd).trans y2
          replace y3 := (hb.cell (p := ⟨w.heap.size, 3, none⟩) zd).trans y3
          replace y4 := (hb.cell (p := ⟨w.heap.size, 4, none⟩) zd).trans y4
          replace y5 := (hb.cell (p := ⟨w.heap.size, 5, none⟩) zd).trans y5
          replace x0 := (hb.cell (p := ⟨bp, 0, none⟩) zp).trans x0
          replace x1 := (hb.cell (p := ⟨bp, 1, none⟩) zp).trans x1
          replace x2 := (hb.cell (p := ⟨bp, 2, none⟩) zp).trans x2
          replace x3 := (hb.cell (p := ⟨bp, 3, none⟩) zp).trans x3
          replace x4 := (hb.cell (p := ⟨bp, 4, none⟩) zp).trans x4
          replace x5 := (hb.cell (p := ⟨bp, 5, none⟩) zp).trans x5
          replace zd : w.heap.size < w19.heap.size := Nat.lt_of_lt_of_le zd hb.size
          replace zp : bp < w19.heap.size := Nat.lt_of_lt_of_le zp hb.size
          replace HD := Lib.hid (HD.out.up hb)
          replace HW := Lib.hid (bel_trans HW.out hb)
          replace HP := Lib.hid (HP.out.up hb)
          have hT10 : (fun w' : World => w'.cell? ⟨w.heap.size, 0, none⟩ = some (.int .i64 d.K) ∧ w'.cell? ⟨w.heap.size, 1, none⟩ = some (.int .i64 d.N) ∧ w'.cell? ⟨w.heap.size, 2, none⟩ = some (.string d.S) ∧ w'.cell? ⟨w.heap.size, 3, none⟩ = some (.slice am d.M.length cm) ∧ w'.cell? ⟨w.heap.size, 4, none⟩ = some (.slice al d.L.length cl) ∧ w'.cell? ⟨w.heap.size, 5, none⟩ = some (.slice at_ d.T.length ct) ∧ w'.cell? ⟨bp, 0, none⟩ = some (.int .i64 pd.K) ∧ w'.cell? ⟨bp, 1, none⟩ = some (.int .i64 pd.N) ∧ w'.cell? ⟨bp, 2, none⟩ = some (.string pd.S) ∧ w'.cell? ⟨bp, 3, none⟩ = some (.slice pm pd.M.length qm) ∧ w'.cell? ⟨bp, 4, none⟩ = some (.slice pl pd.L.length ql) ∧ w'.cell? ⟨bp, 5, none⟩ = some (.slice pt pd.T.length qt)) w19 := ⟨y0, y1, y2, y3, y4, y5, x0, x1, x2, x3, x4, x5⟩
          clear hb
          refine hK.out _ _ ⟨fun _ => trivial, hT10⟩ ?_
          clear hK K
          simp only [Act.put, List.setIfInBounds_toArray, List.set_cons_zero, List.set_cons_succ]
          refine Od.Till.takeT (i := 31) (d := 88) (v := .bool true) rfl rfl (by kernel_rfl) (by kernel_rfl) (by kernel_rfl) (by kernel_rfl) (fun _ _ _ h => h) (.inl ⟨by rfl, ?_⟩) trivial hT10 ?_
          · intro wx hSw
            obtain ⟨j0, j1, j2, j3, j4, j5, j6, j7, j8, j9, j10, j11⟩ := hSw
            go_simp
          simp only [Act.put, List.setIfInBounds_toArray, List.set_cons_zero, List.set_cons_succ]
          refine Od.Till.takeT (i := 32) (d := 2) (v := .bool true) rfl rfl (by kernel_rfl) (by kernel_rfl) (by kernel_rfl) (by kernel_rfl) (fun _ _ _ h => h) (.inl ⟨by rfl, ?_⟩) trivial hT10 ?_
          · intro wx hSw
            obtain ⟨j0, j1, j2, j3, j4, j5, j6, j7, j8, j9, j10, j11⟩ := hSw
            go_simp
          simp only [Act.put, List.setIfInBounds_toArray, List.set_cons_zero, List.set_cons_succ]
          refine Od.Till.done (by kernel_rfl) ?_
          go_wp2_with fail
          go_ret
          exact ⟨rfl, HW.out⟩
    · have hne : (c != 0) = true := by simp [h0]
      have hbad : chk d ≠ 0 := by rw [HC.out]; exact h0
      have Hbad := Lib.hid hbad
      have hpz : pd = zeroD := by rw [← Hpd.out]; exact clone_bad hbad
      have Hpz := Lib.hid hpz
      clear h0 hpz hbad
      go_wp2_with fail
      refine (all_any d _ _ _ HD.out (Nat.le_refl _)).mono ?_
      rintro e w8 ⟨hb, hres⟩
      replace y0 := (hb.cell (p := ⟨w.heap.size, 0, none⟩) zd).trans y0
      replace y1 := (hb.cell (p := ⟨w.heap.size, 1, none⟩) zd).trans y1
      replace y2 := (hb.cell (p := ⟨w.heap.size, 2, none⟩) zd).trans y2
      replace y3 := (hb.cell (p := ⟨w.heap.size, 3, none⟩) zd).trans y3
      replace y4 := (hb.cell (p := ⟨w.heap.size, 4, none⟩) zd).trans y4
      replace y5 := (hb.cell (p := ⟨w.heap.size, 5, none⟩) zd).trans y5
      replace x0 := (hb.cell (p := ⟨bp, 0, none⟩) zp).trans x0
      replace x1 := (hb.cell (p := ⟨bp, 1, none⟩) zp).trans x1
      replace x2 := (hb.cell (p := ⟨bp, 2, none⟩) zp).trans x2
      replace x3 := (hb.cell (p := ⟨bp, 3, none⟩) zp).trans x3
      replace x4 := (hb.cell (p := ⟨bp, 4, none⟩) zp).trans x4
      replace x5 := (hb.cell (p := ⟨bp, 5, none⟩) zp).trans x5
      replace zd : w.heap.size < w8.heap.size := Nat.lt_of_lt_of_le zd hb.size
      replace zp : bp < w8.heap.size := Nat.lt_of_lt_of_le zp hb.size
      replace HD := Lib.hid (HD.out.up hb)
      replace HW := Lib.hid (bel_trans HW.out hb)
      replace HP := Lib.hid (HP.out.up hb)
      clear hb
      obtain ⟨raf, rac, rfl, hra⟩ := all_form hres
      have Hra := Lib.hid hra
      clear hra hres
      go_wp2_with fail
      refine (Hra.out 9 (by decide)).mono ?_
      rintro e w9 ⟨ys, ya, yc, rfl, hb, _, hmap, _⟩
      replace y0 := (hb.cell (p := ⟨w.heap.size, 0, none⟩) zd).trans y0
      replace y1 := (hb.cell (p := ⟨w.heap.size, 1, none⟩) zd).trans y1
      replace y2 := (hb.cell (p := ⟨w.heap.size, 2, none⟩) zd).trans y2
      replace y3 := (hb.cell (p := ⟨w.heap.size, 3, none⟩) zd).trans y3
      replace y4 := (hb.cell (p := ⟨w.heap.size, 4, none⟩) zd).trans y4
      replace y5 := (hb.cell (p := ⟨w.heap.size, 5, none⟩) zd).trans y5
      replace x0 := (hb.cell (p := ⟨bp, 0, none⟩) zp).trans x0
      replace x1 := (hb.cell (p := ⟨bp, 1, none⟩) zp).trans x1
      replace x2 := (hb.cell (p := ⟨bp, 2, none⟩) zp).trans x2
      replace x3 := (hb.cell (p := ⟨bp, 3, none⟩) zp).trans x3
      replace x4 := (hb.cell (p := ⟨bp, 4, none⟩) zp).trans x4
      replace x5 := (hb.cell (p := ⟨bp, 5, none⟩) zp).trans x5
      replace zd : w.heap.size < w9.heap.size := Nat.lt_of_lt_of_le zd hb.size
      replace zp : bp < w9.heap.size := Nat.lt_of_lt_of_le zp hb.size
      replace HD := Lib.hid (HD.out.up hb)
      replace HW := Lib.hid (bel_trans HW.out hb)
      replace HP := Lib.hid (HP.out.up hb)
      clear hb
      have hy0 : ys.length = 0 := by have := congrArg List.length hmap; rw [parts_bad Hbad.out] at this; simpa using this
      clear hmap
      have e0 : ((ys.length : Int) == 0) = true := by rw [hy0]; rfl
      go_wp2_with fail
      refine (size_any d _ _ _ HD.out (Nat.le_refl _)).mono ?_
      rintro e w10 ⟨rfl, hb⟩
      rw [sizeD_bad Hbad.out]
      replace y0 := (hb.cell (p := ⟨w.heap.size, 0, none⟩) zd).trans y0
      replace y1 := (hb.cell (p := ⟨w.heap.size, 1, none⟩) zd).trans y1
      replace y2 := (hb.cell (p := ⟨w.heap.size, 2, none⟩) zd).trans y2
      replace y3 := (hb.cell (p := ⟨w.heap.size, 3, none⟩) zd).trans y3
      replace y4 := (hb.cell (p := ⟨w.heap.size, 4, none⟩) zd).trans y4
      replace y5 := (hb.cell (p := ⟨w.heap.size, 5, none⟩) zd).trans y5
      replace x0 := (hb.cell (p := ⟨bp, 0, none⟩) zp).trans x0
      replace x1 := (hb.cell (p := ⟨bp, 1, none⟩) zp).trans x1
      replace x2 := (hb.cell (p := ⟨bp, 2, none⟩) zp).trans x2
      replace x3 := (hb.cell (p := ⟨bp, 3, none⟩) zp).trans x3
      replace x4 := (hb.cell (p := ⟨bp, 4, none⟩) zp).trans x4
      replace x5 := (hb.cell (p := ⟨bp, 5, none⟩) zp).trans x5
      replace zd : w.heap.size < w10.heap.size := Nat.lt_of_lt_of_le zd hb.size
      replace zp : bp < w10.heap.size := Nat.lt_of_lt_of_le zp hb.size
      replace HD := Lib.hid (HD.out.up hb)
      replace HW := Lib.hid (bel_trans HW.out hb)
      replace HP := Lib.hid (HP.out.up hb)
      clear hb
      go_wp2_with fail
      refine (deep_any d _ _ _ HD.out (Nat.le_refl _)).mono ?_
      rintro e w11 ⟨rfl, hb⟩
      rw [deep_bad Hbad.out]
      replace y0 := (hb.cell (p := ⟨w.heap.size, 0, none⟩) zd).trans y0
      replace y1 := (hb.cell (p := ⟨w.heap.size, 1, none⟩) zd).trans y1
      replace y2 := (hb.cell (p := ⟨w.heap.size, 2, none⟩) zd).trans y2
      replace y3 := (hb.cell (p := ⟨w.heap.size, 3, none⟩) zd).trans y3
      replace y4 := (hb.cell (p := ⟨w.heap.size, 4, none⟩) zd).trans y4
      replace y5 := (hb.cell (p := ⟨w.heap.size, 5, none⟩) zd).trans y5
      replace x0 := (hb.cell (p := ⟨bp, 0, none⟩) zp).trans x0
      replace x1 := (hb.cell (p := ⟨bp, 1, none⟩) zp).trans x1
      replace x2 := (hb.cell (p := ⟨bp, 2, none⟩) zp).trans x2
      replace x3 := (hb.cell (p := ⟨bp, 3, none⟩) zp).trans x3
      replace x4 := (hb.cell (p := ⟨bp, 4, none⟩) zp).trans x4
      replace x5 := (hb.cell (p := ⟨bp, 5, none⟩) zp).trans x5
      replace zd : w.heap.size < w11.heap.size := Nat.lt_of_lt_of_le zd hb.size
      replace zp : bp < w11.heap.size := Nat.lt_of_lt_of_le zp hb.size
      replace HD := Lib.hid (HD.out.up hb)
      replace HW := Lib.hid (bel_trans HW.out hb)
      replace HP := Lib.hid (HP.out.up hb)
      clear hb
      go_wp2_with fail
      refine (same_any d d _ _ _ _ HD.out HD.out (Nat.le_refl _)).mono ?_
      rintro e w12 ⟨rfl, hb⟩
      rw [show (chk d == 0) = false from by rw [beq_eq_false_iff_ne]; exact Hbad.out, Bool.false_and]
      replace y0 := (hb.cell (p := ⟨w.heap.size, 0, none⟩) zd).trans y0
      replace y1 := (hb.cell (p := ⟨w.heap.size, 1, none⟩) zd).trans y1
      replace y2 := (hb.cell (p := ⟨w.heap.size, 2, none⟩) zd).trans y2
      replace y3 := (hb.cell (p := ⟨w.heap.size, 3, none⟩) zd).trans y3
      replace y4 := (hb.cell (p := ⟨w.heap.size, 4, none⟩) zd).trans y4
      replace y5 := (hb.cell (p := ⟨w.heap.size, 5, none⟩) zd).trans y5
      replace x0 := (hb.cell (p := ⟨bp, 0, none⟩) zp).trans x0
      replace x1 := (hb.cell (p := ⟨bp, 1, none⟩) zp).trans x1
      replace x2 := (hb.cell (p := ⟨bp, 2, none⟩) zp).trans x2
      replace x3 := (hb.cell (p := ⟨bp, 3, none⟩) zp).trans x3
      replace x4 := (hb.cell (p := ⟨bp, 4, none⟩) zp).trans x4
      replace x5 := (hb.cell (p := ⟨bp, 5, none⟩) zp).trans x5
      replace zd : w.heap.size < w12.heap.size := Nat.lt_of_lt_of_le zd hb.size
      replace zp : bp < w12.heap.size := Nat.lt_of_lt_of_le zp hb.size
      replace HD := Lib.hid (HD.out.up hb)
      replace HW := Lib.hid (bel_trans HW.out hb)
      replace HP := Lib.hid (HP.out.up hb)
      clear hb
      go_wp2_with fail
      refine (zero_any pd _ _ _ HP.out (Nat.le_refl _)).mono ?_
      rintro e w13 ⟨rfl, hb⟩
      rw [Hpz.out, zero_zero]
      replace y0 := (hb.cell (p := ⟨w.heap.size, 0, none⟩) zd).trans y0
      replace y1 := (hb.cell (p := ⟨w.heap.size, 1, none⟩) zd).trans y1
      replace y2 := (hb.cell (p := ⟨w.heap.size, 2, none⟩) zd).trans y2
      replace y3 := (hb.cell (p := ⟨w.heap.size, 3, none⟩) zd).trans y3
      replace y4 := (hb.cell (p := ⟨w.heap.size, 4, none⟩) zd).trans y4
      replace y5 := (hb.cell (p := ⟨w.heap.size, 5, none⟩) zd).trans y5
      replace x0 := (hb.cell (p := ⟨bp, 0, none⟩) zp).trans x0
      replace x1 := (hb.cell (p := ⟨bp, 1, none⟩) zp).trans x1
      replace x2 := (hb.cell (p := ⟨bp, 2, none⟩) zp).trans x2
      replace x3 := (hb.cell (p := ⟨bp, 3, none⟩) zp).trans x3
      replace x4 := (hb.cell (p := ⟨bp, 4, none⟩) zp).trans x4
      replace x5 := (hb.cell (p := ⟨bp, 5, none⟩) zp).trans x5
      replace zd : w.heap.size < w13.heap.size := Nat.lt_of_lt_of_le zd hb.size
      replace zp : bp < w13.heap.size := Nat.lt_of_lt_of_le zp hb.size
      replace HD := Lib.hid (HD.out.up hb)
      replace HW := Lib.hid (bel_trans HW.out hb)
      replace HP := Lib.hid (HP.out.up hb)
      clear hb
      go_wp2_with fail
      go_ret
      exact ⟨rfl, HW.out⟩
end Go.Proofs.Yteddfdhbpgbloaa.Da
end
section
namespace Go.Proofs.Yteddfdhbpgbloaa.datumCounts
open Go.ChangeShapes Go.WideShapes Go.ChangeAt Go.RowKit
open Go.ChangeMaps (open_string shut_string)
open Go.Proofs.Yteddfdhbpgbloaa.Da
set_option linter.unusedVariables false

theorem own : ownKnob Try.prog.godebug = none := by kernel_rfl
theorem laidOut : laidOutB Try.prog = true := by kernel_rfl
set_option maxHeartbeats 1000000 in
set_option maxRecDepth 100000 in
theorem lifted (os : Os) (started : os.Started) (H : Type) (enc : TypeId × Value → H) :
    ReturnsInHanded {} Try.checked os 4 .any (Rows.datumCountsSpec.pre6 enc Try.prog Try.f4 Rows.datumCountsRow.domain false) (Rows.datumCountsSpec.post enc Try.prog Try.f4 false true false false) := by
  refine returnsInHanded_of_change_sized (C := Try.checked) own started (by kernel_rfl) Try.func4
    (ChangeSpec.witness6 (enc := enc) (C := Try.checked) false ⟨#[], #[.agg #[.int .i64 0, .int .i64 0, .string ByteArray.empty, .slice none 0 0, .slice none 0 0, .slice none 0 0]], []⟩ 8 (by kernel_rfl) (by kernel_rfl) (by kernel_rfl) (by kernel_rfl)) ?_
  intro W base args ds gs before hval0 hW hcnd hsz0 _
  have hsz : (DataW.weightsEach Try.prog (Try.f4.params.toList ++ Rows.datumCountsSpec.plain.varTypes Try.prog) (ds ++ gs)).all (· ≤ reachBytes) = true := hsz0
  have hval : ∀ (j : Nat) t v, Try.f4.params[j]? = some t → args[j]? = some v → Value.okWide Try.prog W .any base t v := hval0
  have hW' := hW
  obtain ⟨p, q, hA0, hV, rfl, hfz, hnd⟩ := hW
  have hA : DataW.TrodAll enc Try.prog W 0 (fun _ => true) true Try.f4.params.toList args.toList ds p := hA0
  rw [Try.params4] at hA hval hsz
  obtain ⟨v0, vs0, d0, ds0, p0, q0, hargs, rfl, rfl, h0, r0⟩ := trodAll_cons hA
  obtain ⟨rfl, rfl, rfl⟩ := trodAll_nil r0
  obtain rfl : args = #[v0] := by cases args; simp_all
  obtain ⟨rfl, rfl⟩ := trodVars_none hV
  have k0 := h0
  have lt0 : ∀ x ∈ p0, x.block < W.heap.size := by obtain ⟨m, hm⟩ := k0; exact DataW.trod_lt m _ _ _ hm
  have sz0 : (d0.weights Try.prog 25).all (· ≤ reachBytes) = true := List.all_eq_true.2 fun x hx => List.all_eq_true.1 hsz x (DataW.weights_mem_each (j := 0) rfl rfl x hx)
  obtain ⟨z0, w0⟩ : ∃ z, IsDt W (Lo W.heap.size) z v0 := open_one (hval 0 25 v0 rfl rfl) h0 sz0
  clear hA0 hval0 hsz0
  refine (dcounts_law z0 v0 W w0).mono fun e W' ⟨he, bel⟩ => ?_
  subst he
  exact ⟨_, rfl, _, _, _, [], _, [], hW', trodAll_mk1 (shut_bool Try.underlying4 _), (trodAll_cons_mk (Below.trod laidOut (by kernel_rfl) (of_decide_eq_true (by kernel_rfl)) k0 bel lt0) trodAll_mk0), rfl, bel.frame _, fun h => by cases h⟩

theorem over : Rows.datumCountsRow.holds Try.pinned (OpenSpec.ofChange Rows.datumCountsSpec) :=
  OpenClaim.holds_of_wide 4 Try.f4 rfl rfl rfl rfl rfl rfl rfl ⟨rfl, rfl, rfl, rfl, rfl⟩ rfl rfl rfl rfl rfl (by kernel_rfl) Try.func4 (by kernel_rfl)
    (of_decide_eq_true (by kernel_rfl)) (by unfold Func.isWrapper; first | (rw [if_pos (by decide +kernel)]; kernel_rfl) | (rw [if_neg (by decide +kernel)]; exact ⟨rfl, rfl⟩))
    (fun os started H enc _ => lifted os started H enc)

theorem proved : Rows.DatumCountsSaid := over
#print axioms proved
end Go.Proofs.Yteddfdhbpgbloaa.datumCounts
end
