/- The document's Same: it answers what the program's answers. -/
import Derived.Test.YtapnighankepjaaDatRSameMath
import Derived.Test.YtapnighankepjaaDatHalves
import Derived.Deep.QuietTactic
import Derived.BigQuiet
import Derived.Test.YtapnighankepjaaDatMarksQ
namespace Go.Proofs.Ytapnighankepjaa.Da
open Go.ChangeShapes Go.WideShapes Go.ChangeAt Go.RowKit
set_option maxRecDepth 100000

def SameAt (x y : List (Dt × Nat)) (W1 : World) (i : Value) (wr : World) : Prop := ∃ j : Nat, j ≤ x.length ∧ i = .int .i64 (j : Int) ∧ Below W1.heap.size W1 wr ∧ ∀ k p q, k < j → x[k]? = some p → y[k]? = some q → nodeB p.1 q.1 = true
/-- A part's six cells in a row. -/
theorem part_cells {w : World} {B g n cap j : Nat} {l : List (Dt × Nat)} {xs : List Value} {p : Dt × Nat} (hn : l.length = n) (ho : w.ownsRow B 33 6 (.slice (some ⟨g, 0, none⟩) n cap) n xs) (hp : PartsIs w B l xs) (hx : l[j]? = some p) :
    ∃ am mc al lc at_ tc, w.cell? ⟨g, j * 6, none⟩ = some (.int .i64 p.1.K) ∧ w.cell? ⟨g, j * 6 + 1, none⟩ = some (.int .i64 p.1.N) ∧ w.cell? ⟨g, j * 6 + 2, none⟩ = some (.string p.1.S) ∧ w.cell? ⟨g, j * 6 + 3, none⟩ = some (.slice am p.1.M.length mc) ∧ w.cell? ⟨g, j * 6 + 4, none⟩ = some (.slice al p.1.L.length lc) ∧ w.cell? ⟨g, j * 6 + 5, none⟩ = some (.slice at_ p.1.T.length tc) ∧
      IsDt w (Lo B) p.1 (.agg #[.int .i64 p.1.K, .int .i64 p.1.N, .string p.1.S, .slice am p.1.M.length mc, .slice al p.1.L.length lc, .slice at_ p.1.T.length tc]) := by
  have hj : j < n := by rw [← hn]; exact (List.getElem?_eq_some_iff.1 hx).1
  obtain ⟨x0, x1, x2, x3, x4, x5, h0, h1, h2, h3, h4, h5, hd⟩ := hp j p hx
  obtain ⟨am, cm, al, cl, at_, ct, hv, _⟩ := hd.open_
  injection hv with hv
  simp only [Array.mk.injEq, List.cons.injEq, and_true] at hv
  obtain ⟨rfl, rfl, rfl, rfl, rfl, rfl⟩ := hv
  exact ⟨am, cm, al, cl, at_, ct, (ho.cellAt _ (by omega)).trans h0, (ho.cellAt _ (by omega)).trans h1, (ho.cellAt _ (by omega)).trans h2, (ho.cellAt _ (by omega)).trans h3, (ho.cellAt _ (by omega)).trans h4, (ho.cellAt _ (by omega)).trans h5, hd⟩
theorem partsD_le (d : Dt) : (partsD d).length ≤ 4096 := by
  unfold partsD
  by_cases h : chk d = 0
  · rw [if_pos h, nodes_len]; exact chk_cnt h
  · rw [if_neg h]; simp
theorem ne_of_beq_false {a b : Nat} (h : (a == b) = false) : a ≠ b := by simpa using h
set_option maxHeartbeats 40000000 in
theorem rsame_any (a b : Dt) (va vb : Value) (B : Nat) (w : World) (ha : IsDt w (Lo B) a va) (hb : IsDt w (Lo B) b vb) (hB : B ≤ w.heap.size) :
    Calls Try.prog 19 #[va, vb] w fun e w' => e = .returned (.bool ((chk a == 0) && eqD a b)) ∧ Below w.heap.size w w' := by
  rw [← sameN_eq]
  have ha' := ha
  have hb' := hb
  obtain ⟨am, amc, al, alc, at_, atc, rfl, _⟩ := ha'.open_
  obtain ⟨bm, bmc, bl, blc, bt, btc, rfl, _⟩ := hb'.open_
  have HA := Lib.hid ha
  have HB := Lib.hid hb
  clear ha hb ha' hb'
  obtain ⟨x, hx⟩ : ∃ x, partsD a = x := ⟨_, rfl⟩
  obtain ⟨y, hy⟩ : ∃ y, partsD b = y := ⟨_, rfl⟩
  unfold sameN
  rw [hx, hy]
  have HX := Lib.hid hx
  have HY := Lib.hid hy
  clear hx hy
  obtain ⟨z, hz⟩ : ∃ z, (!x.isEmpty && rowB x y) = z := ⟨_, rfl⟩
  rw [hz]
  have HZ := Lib.hid hz
  clear hz
  go_enter Try.func19, Try.ntmps19
  go_wp2_with fail
  have hb0 : Below w.heap.size w ((w.alloc (.cells #[.int .i64 a.K, .int .i64 a.N, .string a.S, .slice am a.M.length amc, .slice al a.L.length alc, .slice at_ a.T.length atc] 33)).alloc (.cells #[.int .i64 b.K, .int .i64 b.N, .string b.S, .slice bm b.M.length bmc, .slice bl b.L.length blc, .slice bt b.T.length btc] 33)) := ((Below.refl _ _).alloc (Nat.le_refl _) _).alloc (by simp) _
  have hy0 : Blk ((w.alloc (.cells #[.int .i64 a.K, .int .i64 a.N, .string a.S, .slice am a.M.length amc, .slice al a.L.length alc, .slice at_ a.T.length atc] 33)).alloc (.cells #[.int .i64 b.K, .int .i64 b.N, .string b.S, .slice bm b.M.length bmc, .slice bl b.L.length blc, .slice bt b.T.length btc] 33)) (w.heap.size + 1) 33 #[.int .i64 b.K, .int .i64 b.N, .string b.S, .slice bm b.M.length bmc, .slice bl b.L.length blc, .slice bt b.T.length btc] := by
    have := heap_alloc_new (w.alloc (.cells #[.int .i64 a.K, .int .i64 a.N, .string a.S, .slice am a.M.length amc, .slice al a.L.length alc, .slice at_ a.T.length atc] 33)) (.cells #[.int .i64 b.K, .int .i64 b.N, .string b.S, .slice bm b.M.length bmc, .slice bl b.L.length blc, .slice bt b.T.length btc] 33)
    rw [World.size_alloc] at this
    exact this
  have hs0 : ((w.alloc (.cells #[.int .i64 a.K, .int .i64 a.N, .string a.S, .slice am a.M.length amc, .slice al a.L.length alc, .slice at_ a.T.length atc] 33)).alloc (.cells #[.int .i64 b.K, .int .i64 b.N, .string b.S, .slice bm b.M.length bmc, .slice bl b.L.length blc, .slice bt b.T.length btc] 33)).heap.size = w.heap.size + 2 := by simp
  generalize (w.alloc (.cells #[.int .i64 a.K, .int .i64 a.N, .string a.S, .slice am a.M.length amc, .slice al a.L.length alc, .slice at_ a.T.length atc] 33)).alloc (.cells #[.int .i64 b.K, .int .i64 b.N, .string b.S, .slice bm b.M.length bmc, .slice bl b.L.length blc, .slice bt b.T.length btc] 33) = X at *
  refine (rall_any a _ B X (by exact HA.out.below (hb0.mono hB)) (by omega)).mono ?_
  rintro e w1 ⟨pv, pc, xs, rfl, hb1, ho1, hp1⟩
  rw [HX.out] at ho1 hp1 ⊢
  have y1 : Blk w1 (w.heap.size + 1) 33 #[.int .i64 b.K, .int .i64 b.N, .string b.S, .slice bm b.M.length bmc, .slice bl b.L.length blc, .slice bt b.T.length btc] := (hb1.block _ (by omega)).trans hy0
  have hs1 := hb1.size
  have c0 : w1.cell? ⟨w.heap.size + 1, 0, none⟩ = some (.int .i64 b.K) := (y1.cell 0).trans rfl
  have c1 : w1.cell? ⟨w.heap.size + 1, 1, none⟩ = some (.int .i64 b.N) := (y1.cell 1).trans rfl
  have c2 : w1.cell? ⟨w.heap.size + 1, 2, none⟩ = some (.string b.S) := (y1.cell 2).trans rfl
  have c3 : w1.cell? ⟨w.heap.size + 1, 3, none⟩ = some (.slice bm b.M.length bmc) := (y1.cell 3).trans rfl
  have c4 : w1.cell? ⟨w.heap.size + 1, 4, none⟩ = some (.slice bl b.L.length blc) := (y1.cell 4).trans rfl
  have c5 : w1.cell? ⟨w.heap.size + 1, 5, none⟩ = some (.slice bt b.T.length btc) := (y1.cell 5).trans rfl
  have hl1 : w.heap.size + 1 < w1.heap.size := by omega
  have HB1 := Lib.hid (hb0.trans (hb1.mono (by omega)))
  have HO1 := Lib.hid (And.intro ho1 hp1)
  clear hb1 ho1 hp1 y1 hb0 hy0
  go_wp2_with fail
  refine (rall_any b _ B w1 (by exact HB.out.below (HB1.out.mono hB)) (by omega)).mono ?_
  rintro e w2 ⟨qv, qc, ys, rfl, hb2, ho2, hp2⟩
  rw [HY.out] at ho2 hp2 ⊢
  have ho3 : w2.ownsRow B 33 6 (.slice pv x.length pc) x.length xs := own_stay HO1.out.1 (fun g _ hg => hb2.block g hg)
  have hp3 : PartsIs w2 B x xs := HO1.out.2.below (hb2.mono (by omega))
  have HB2 := Lib.hid (HB1.out.trans (hb2.mono HB1.out.size))
  have HO := Lib.hid (And.intro ho3 (And.intro hp3 (And.intro ho2 hp2)))
  have hs2 := hb2.size
  have lx : (x.length : Int) ≤ 4096 := by rw [← HX.out]; have := partsD_le a; omega
  have ly : (y.length : Int) ≤ 4096 := by rw [← HY.out]; have := partsD_le b; omega
  clear hb2 ho2 hp2 ho3 hp3 HO1 c0 c1 c2 c3 c4 c5
  by_cases h0 : x.length = 0
  · have d0 : ((x.length : Int) == 0) = true := by rw [beq_iff_eq]; omega
    have hzz : z = false := by
      rw [← HZ.out]
      obtain rfl := List.eq_nil_of_length_eq_zero h0
      rfl
    subst hzz
    clear h0
    go_wp2_with fail
    go_ret
    exact ⟨rfl, HB2.out⟩
  have d0 : ((x.length : Int) == 0) = false := by rw [beq_eq_false_iff_ne]; omega
  by_cases hxy : x.length = y.length
  · have d1 : ((x.length : Int) != (y.length : Int)) = false := by simp [hxy]
    have HXY := Lib.hid hxy
    have H0 := Lib.hid h0
    clear h0 hxy
    go_wp2_with fail
    go_loopw [7] (fun i wr => SameAt x y w2 i wr) (fun i _ => x.length - (intOf i).toNat)
    case atStart => exact ⟨0, Nat.zero_le _, rfl, bel_refl _, fun k p q hk => absurd hk (Nat.not_lt_zero _)⟩
    case round =>
      obtain ⟨j, hj, rfl, hbr, heq⟩ := hrel
      have Heq := Lib.hid heq
      have Hbr := Lib.hid hbr
      have hsr := hbr.size
      have or1 : wr.ownsRow B 33 6 (.slice pv x.length pc) x.length xs := own_stay HO.out.1 (fun g _ hg => hbr.block g hg)
      have or2 : PartsIs wr B x xs := HO.out.2.1.below (hbr.mono (by omega))
      have or3 : wr.ownsRow B 33 6 (.slice qv y.length qc) y.length ys := own_stay HO.out.2.2.1 (fun g _ hg => hbr.block g hg)
      have or4 : PartsIs wr B y ys := HO.out.2.2.2.below (hbr.mono (by omega))
      clear heq hbr
      by_cases hlj : j < x.length
      · have dl : decide ((j : Int) < (x.length : Int)) = true := by simp [hlj]
        have hly : j < y.length := by have := HXY.out; omega
        obtain ⟨p, hp⟩ : ∃ p, x[j]? = some p := ⟨x[j], by simp [hlj]⟩
        obtain ⟨q, hq⟩ : ∃ q, y[j]? = some q := ⟨y[j], by simp [hly]⟩
        obtain ⟨g1, cap1, hv1, _, hg1⟩ := or1.form (by omega)
        obtain ⟨g2, cap2, hv2, _, hg2⟩ := or3.form (by omega)
        simp only [Value.slice.injEq] at hv1 hv2
        obtain ⟨rfl, _, rfl⟩ := hv1
        obtain ⟨rfl, _, rfl⟩ := hv2
        obtain ⟨m1, mc1, l1, lc1, t1, tc1, e0, e1, e2, e3, e4, e5, hd1⟩ := part_cells rfl or1 or2 hp
        obtain ⟨m2, mc2, l2, lc2, t2, tc2, f0, f1, f2, f3, f4, f5, hd2⟩ := part_cells rfl or3 or4 hq
        obtain ⟨_, _, _, _, _, _, hv1, _, _, _, im1, il1, _, it1, _⟩ := hd1.open_
        obtain ⟨_, _, _, _, _, _, hv2, _, _, _, im2, il2, _, it2, _⟩ := hd2.open_
        simp only [Value.agg.injEq, Array.mk.injEq, List.cons.injEq, Value.slice.injEq, and_true, true_and] at hv1 hv2
        obtain ⟨⟨rfl, rfl⟩, ⟨rfl, rfl⟩, rfl, rfl⟩ := hv1
        obtain ⟨⟨rfl, rfl⟩, ⟨rfl, rfl⟩, rfl, rfl⟩ := hv2
        have k0 : (0 : Int) ≤ (j : Int) := Int.natCast_nonneg _
        have k1 : (j : Int) < (x.length : Int) := by omega
        have k2 : (j : Int) < (y.length : Int) := by omega
        have b1 : (p.1.L.length : Int) ≤ 17592186044416 := by have a := il1.1; have b := il1.2.2.1; omega
        have b2 : (q.1.L.length : Int) ≤ 17592186044416 := by have a := il2.1; have b := il2.2.2.1; omega
        have b3 : (p.1.T.length : Int) ≤ 17592186044416 := by have a := it1.1; have b := it1.2.2.1; omega
        have b4 : (q.1.T.length : Int) ≤ 17592186044416 := by have a := it2.1; have b := it2.2.2.1; omega
        have HM := Lib.hid (And.intro im1 im2)
        have Hp := Lib.hid hp
        have Hq := Lib.hid hq
        have HBR := Lib.hid (HB2.out.trans (Hbr.out.mono HB2.out.size))
        have hno : nodeB p.1 q.1 = false → z = false := fun h => by rw [← HZ.out, rowB_not hp hq h, Bool.and_false]
        have HNO := Lib.hid hno
        clear or1 or2 or3 or4 hp hq hd1 hd2 im1 im2 il1 il2 it1 it2 hno
        cases c1 : (p.1.K == q.1.K)
        · as_aux_lemma =>
          have hzz : z = false := HNO.out (by simp [nodeB, c1])
          subst hzz
          have n0 : (p.1.K != q.1.K) = true := by unfold bne; rw [c1]; rfl
          clear c1
          go_wp2_with fail
          go_quiet (fail)
          go_wp2_with fail
          go_ret
          exact ⟨rfl, HBR.out.trans ((bel_drewN _ _).mono HBR.out.size)⟩
        cases c2 : (p.1.N == q.1.N)
        · as_aux_lemma =>
          have hzz : z = false := HNO.out (by simp [nodeB, c1, c2])
          subst hzz
          have n0 : (p.1.K != q.1.K) = false := by unfold bne; rw [c1]; rfl
          have n1 : (p.1.N != q.1.N) = true := by unfold bne; rw [c2]; rfl
          clear c1 c2
          go_wp2_with fail
          go_quiet (fail)
          go_wp2_with fail
          go_ret
          exact ⟨rfl, HBR.out.trans ((bel_drewN _ _).mono HBR.out.size)⟩
        cases c3 : (p.1.S.toList == q.1.S.toList)
        · as_aux_lemma =>
          have hzz : z = false := HNO.out (by simp [nodeB, c1, c2, c3])
          subst hzz
          have n0 : (p.1.K != q.1.K) = false := by unfold bne; rw [c1]; rfl
          have n1 : (p.1.N != q.1.N) = false := by unfold bne; rw [c2]; rfl
          have n2 : (p.1.S.toList != q.1.S.toList) = true := by unfold bne; rw [c3]; rfl
          clear c1 c2
          go_wp2_with fail
          go_quiet (fail)
          go_wp2_with fail
          go_ret
          exact ⟨rfl, HBR.out.trans ((bel_drewN _ _).mono HBR.out.size)⟩
        cases c4 : (p.1.M == q.1.M)
        · as_aux_lemma =>
          have hzz : z = false := HNO.out (by simp [nodeB, c1, c2, c3, c4])
          subst hzz
          have n0 : (p.1.K != q.1.K) = false := by unfold bne; rw [c1]; rfl
          have n1 : (p.1.N != q.1.N) = false := by unfold bne; rw [c2]; rfl
          have n2 : (p.1.S.toList != q.1.S.toList) = false := by unfold bne; rw [c3]; rfl
          have HC := Lib.hid c4
          clear c1 c2
          go_wp2_with fail
          go_quiet ((go_at_call 39; exact Calls.quiet_of (marks_quiet p.1.M q.1.M _ _ _ _ _ _ _ (by exact HM.out.1) (by exact HM.out.2))))
          go_wp2_with fail
          go_ret
          exact ⟨rfl, HBR.out.trans ((bel_drewN _ _).mono HBR.out.size)⟩
        cases c5 : (p.1.L.length == q.1.L.length)
        · as_aux_lemma =>
          have hzz : z = false := HNO.out (by simp [nodeB, c1, c2, c3, c4, c5])
          subst hzz
          have n0 : (p.1.K != q.1.K) = false := by unfold bne; rw [c1]; rfl
          have n1 : (p.1.N != q.1.N) = false := by unfold bne; rw [c2]; rfl
          have n2 : (p.1.S.toList != q.1.S.toList) = false := by unfold bne; rw [c3]; rfl
          have n4 : ((p.1.L.length : Int) != (q.1.L.length : Int)) = true := by rw [bne_iff_ne]; have := ne_of_beq_false c5; omega
          have HC := Lib.hid c4
          clear c1 c2 c5
          go_wp2_with fail
          go_quiet ((go_at_call 39; exact Calls.quiet_of (marks_quiet p.1.M q.1.M _ _ _ _ _ _ _ (by exact HM.out.1) (by exact HM.out.2))))
          go_wp2_with fail
          go_ret
          exact ⟨rfl, HBR.out.trans ((bel_drewN _ _).mono HBR.out.size)⟩
        cases c6 : (p.1.T.length == q.1.T.length)
        · as_aux_lemma =>
          have hzz : z = false := HNO.out (by simp [nodeB, c1, c2, c3, c4, c5, c6])
          subst hzz
          have n0 : (p.1.K != q.1.K) = false := by unfold bne; rw [c1]; rfl
          have n1 : (p.1.N != q.1.N) = false := by unfold bne; rw [c2]; rfl
          have n2 : (p.1.S.toList != q.1.S.toList) = false := by unfold bne; rw [c3]; rfl
          have n4 : ((p.1.L.length : Int) != (q.1.L.length : Int)) = false := by rw [bne_eq_false_iff_eq]; have := eq_of_beq c5; omega
          have n5 : ((p.1.T.length : Int) != (q.1.T.length : Int)) = true := by rw [bne_iff_ne]; have := ne_of_beq_false c6; omega
          have HC := Lib.hid c4
          clear c1 c2 c5 c6
          go_wp2_with fail
          go_quiet ((go_at_call 39; exact Calls.quiet_of (marks_quiet p.1.M q.1.M _ _ _ _ _ _ _ (by exact HM.out.1) (by exact HM.out.2))))
          go_wp2_with fail
          go_ret
          exact ⟨rfl, HBR.out.trans ((bel_drewN _ _).mono HBR.out.size)⟩
        as_aux_lemma =>
          have hyes : nodeB p.1 q.1 = true := by simp [nodeB, c1, c2, c3, c4, c5, c6]
          have HYES := Lib.hid hyes
          clear hyes
          have n0 : (p.1.K != q.1.K) = false := by unfold bne; rw [c1]; rfl
          have n1 : (p.1.N != q.1.N) = false := by unfold bne; rw [c2]; rfl
          have n2 : (p.1.S.toList != q.1.S.toList) = false := by unfold bne; rw [c3]; rfl
          have n4 : ((p.1.L.length : Int) != (q.1.L.length : Int)) = false := by rw [bne_eq_false_iff_eq]; have := eq_of_beq c5; omega
          have n5 : ((p.1.T.length : Int) != (q.1.T.length : Int)) = false := by rw [bne_eq_false_iff_eq]; have := eq_of_beq c6; omega
          have HC := Lib.hid c4
          clear c1 c2 c5 c6
          go_wp2_with fail
          go_quiet ((go_at_call 39; exact Calls.quiet_of (marks_quiet p.1.M q.1.M _ _ _ _ _ _ _ (by exact HM.out.1) (by exact HM.out.2))))
          go_wp2_with fail
          go_roundw
          case rel =>
            refine ⟨j + 1, by omega, by go_num, bel_trans Hbr.out (bel_drewN _ _), fun k p' q' hk hp' hq' => ?_⟩
            by_cases hkj : k < j
            · exact Heq.out k p' q' hkj hp' hq'
            · obtain rfl : k = j := by omega
              rw [Hp.out] at hp'
              rw [Hq.out] at hq'
              cases hp'
              cases hq'
              exact HYES.out
          case measure => simp [intOf]; omega
      · have dl : decide ((j : Int) < (x.length : Int)) = false := by simp [hlj]
        have hzz : z = true := by
          rw [← HZ.out]
          have he : x.isEmpty = false := by cases x; exact absurd rfl H0.out; rfl
          rw [he, Bool.not_false, Bool.true_and]
          exact rowB_all HXY.out (fun k p q hp hq => Heq.out k p q (by have := (List.getElem?_eq_some_iff.1 hp).1; omega) hp hq)
        subst hzz
        have HBR := Lib.hid (HB2.out.trans (Hbr.out.mono HB2.out.size))
        clear or1 or2 or3 or4
        go_wp2_with fail
        go_ret
        exact ⟨rfl, HBR.out⟩
  · have d1 : ((x.length : Int) != (y.length : Int)) = true := by rw [bne_iff_ne]; omega
    have hzz : z = false := by
      rw [← HZ.out]
      cases hr : rowB x y
      · rw [Bool.and_false]
      · exact absurd (rowB_len hr) hxy
    subst hzz
    clear h0 hxy
    go_wp2_with fail
    go_ret
    exact ⟨rfl, HB2.out⟩
end Go.Proofs.Ytapnighankepjaa.Da
