/- A list has one part and those of all that is in it (P2.5): the walk. -/
import Derived.Test.YtkejplhafhdjnaaDatPartsMath
namespace Go.Proofs.Ytkejplhafhdjnaa.Da
open Go.ChangeShapes Go.WideShapes Go.ChangeAt Go.RowKit

def PartsAt (W1 : World) (l : List Dt) (n deep i : Value) (wr : World) : Prop :=
  ∃ j : Nat, j ≤ l.length ∧ i = .int .i64 (j : Int) ∧ n = .int .i64 (1 + sumD (l.take j)) ∧ deep = .int .i64 (topD (l.take j)) ∧ Below W1.heap.size W1 wr ∧ ∀ d ∈ l.take j, chk d = 0
set_option maxRecDepth 100000 in
set_option maxHeartbeats 4000000 in
theorem parts_any (a : Option Addr) (cap : Nat) (l : List Dt) (w : World) (hsl : IsSl a l.length cap) (hd : IsDts w (Lo w.heap.size) a 0 l) :
    Calls Try.prog 8 #[.slice a l.length cap] w fun e w' => e = .returned (.bool true) ∧ Below w.heap.size w w' := by
  have h1 : (l.length : Int) ≤ 17592186044416 := by have a := hsl.1; have b := hsl.2.2.1; omega
  have Hd := Lib.hid hd
  have Hsl := Lib.hid hsl
  clear hd hsl
  by_cases hl : (l.length : Int) > 100
  · have dl : decide ((l.length : Int) > 100) = true := by simpa using hl
    go_enter Try.func8, Try.ntmps8
    go_wp2_with fail
    refine (awake_any _).mono ?_
    rintro e w1 ⟨rfl, hb1⟩
    go_wp2_with fail
    refine (awake_any _).mono ?_
    rintro e w2 ⟨rfl, hb2⟩
    go_wp2_with fail
    go_ret
    exact ⟨rfl, bel_trans hb1 hb2⟩
  · have dl : decide ((l.length : Int) > 100) = false := by simpa using hl
    have Hl := Lib.hid hl
    go_enter Try.func8, Try.ntmps8
    go_wp2_with fail
    refine (awake_any _).mono ?_
    rintro e w1 ⟨rfl, hb1⟩
    have Hb1 := Lib.hid hb1
    clear hb1
    go_wp2_with fail
    clear dl hl
    go_loopw [3, 4, 19] (fun n deep i wr => PartsAt w1 l n deep i wr) (fun _ _ i _ => l.length - (intOf i).toNat)
    case atStart => exact ⟨0, Nat.zero_le _, rfl, rfl, rfl, Below.refl _ _, by simp⟩
    case round =>
      obtain ⟨j, hj, rfl, rfl, rfl, hbw, hch⟩ := hrel
      have hsum := sums_take l j hj hch
      have hb0 : Below w.heap.size w wr := bel_trans Hb1.out hbw
      obtain ⟨n, hn⟩ : ∃ n, 1 + sumD (l.take j) = n := ⟨_, rfl⟩
      obtain ⟨t, ht⟩ : ∃ t, topD (l.take j) = t := ⟨_, rfl⟩
      rw [hn, ht]
      have n0 : 1 ≤ n := by have := hsum.1; omega
      have n1 : n ≤ 409601 := by have := hsum.1; have := hsum.2.2.1; have := Hl.out; omega
      have t0 : 0 ≤ t := by have := hsum.2.1; omega
      have t1 : t ≤ 64 := by have := hsum.2.1; have := hsum.2.2.2; omega
      have Hn := Lib.hid hn
      have Ht := Lib.hid ht
      have Hch := Lib.hid hch
      have Hb0 := Lib.hid hb0
      have Hbw := Lib.hid hbw
      clear hn ht hch hb0 hbw hsum
      by_cases hlt : j < l.length
      · have dl : decide ((j : Int) < (l.length : Int)) = true := by simp [hlt]
        obtain ⟨x, hx⟩ : ∃ x, l[j]? = some x := ⟨l[j], by simp⟩
        obtain ⟨b', off, am, cm, al, cl, at_, ct, rfl, hb', hsix, hix⟩ := Hd.out.at6 j x hx
        have hblt : b' < w.heap.size := hb'
        obtain ⟨c0, c1, c2, c3, c4, c5⟩ := hsix.keep (w' := wr) (fun o => Hb0.out.cell (p := ⟨b', o, none⟩) hblt)
        have k0 : (0 : Int) ≤ (j : Int) := Int.natCast_nonneg _
        have k1 : (j : Int) < (l.length : Int) := by omega
        have Hx := Lib.hid hx
        have Hix := Lib.hid hix
        clear hx hix hsix hb'
        by_cases hs : smallB x = true
        · by_cases hc : chk x = 0
          · have hz := sizeD_ok hc
            have Hc := Lib.hid hc
            obtain ⟨sz, hsz⟩ : ∃ sz, sizeD x = sz := ⟨_, rfl⟩
            obtain ⟨dp, hdp⟩ : ∃ dp, deepD x = dp := ⟨_, rfl⟩
            have z0 : 0 ≤ sz := by rw [← hsz, hz.1]; omega
            have z1 : sz ≤ 4096 := by rw [← hsz, hz.1]; have := hz.2.2.1; omega
            have y0 : 0 ≤ dp := by rw [← hdp, hz.2.1]; omega
            have y1 : dp ≤ 64 := by rw [← hdp, hz.2.1]; have := hz.2.2.2.1; omega
            have Hsz := Lib.hid hsz
            have Hdp := Lib.hid hdp
            have Hs := Lib.hid hs
            clear hz hc hsz hdp hs
            go_wp2_with fail
            obtain ⟨hbX, hsX, hkX⟩ := start_allocs [(#[.int .i64 x.K, .int .i64 x.N, .string x.S, .slice am x.M.length cm, .slice al x.L.length cl, .slice at_ x.T.length ct], 25)] wr
            have g0 := hkX 0 _ rfl
            simp only [allocs, List.foldl_cons, List.foldl_nil, Nat.add_zero, List.length_cons, List.length_nil, Nat.zero_add] at hbX hsX g0
            clear hkX
            generalize wr.alloc (.cells #[.int .i64 x.K, .int .i64 x.N, .string x.S, .slice am x.M.length cm, .slice al x.L.length cl, .slice at_ x.T.length ct] 25) = X at *
            have x0 : X.cell? ⟨wr.heap.size, 0, none⟩ = some (.int .i64 x.K) := (g0.cell 0).trans rfl
            have x1 : X.cell? ⟨wr.heap.size, 1, none⟩ = some (.int .i64 x.N) := (g0.cell 1).trans rfl
            have x2 : X.cell? ⟨wr.heap.size, 2, none⟩ = some (.string x.S) := (g0.cell 2).trans rfl
            have x3 : X.cell? ⟨wr.heap.size, 3, none⟩ = some (.slice am x.M.length cm) := (g0.cell 3).trans rfl
            have x4 : X.cell? ⟨wr.heap.size, 4, none⟩ = some (.slice al x.L.length cl) := (g0.cell 4).trans rfl
            have x5 : X.cell? ⟨wr.heap.size, 5, none⟩ = some (.slice at_ x.T.length ct) := (g0.cell 5).trans rfl
            have hl1 : wr.heap.size < X.heap.size := by omega
            clear g0 c0 c1 c2 c3 c4 c5
            refine (small_any x _ w.heap.size _ (by exact Hix.out.below (Hb0.out.trans (hbX.mono Hb0.out.size))) (by have := Hb0.out.size; have := hbX.size; omega)).mono ?_
            rintro e w2 ⟨rfl, h2⟩
            obtain ⟨hc2, _⟩ := bcell h2
            rw [Hs.out]
            go_wp2_with fail
            refine (check_any x _ w.heap.size _ (by exact Hix.out.below (Hb0.out.trans ((hbX.trans (h2.mono hbX.size)).mono Hb0.out.size))) (by have := Hb0.out.size; have := hbX.size; have := h2.size; omega)).mono ?_
            rintro e w3 ⟨rfl, h3⟩
            obtain ⟨hc3, _⟩ := bcell h3
            have hl2 : wr.heap.size < w2.heap.size := by have := h2.size; omega
            rw [Hc.out]
            go_wp2_with fail
            refine (size_any x _ w.heap.size _ (by exact Hix.out.below (Hb0.out.trans (hbX.trans ((bel_trans h2 h3).mono hbX.size) |>.mono Hb0.out.size))) (by have := Hb0.out.size; have := hbX.size; have := h2.size; have := h3.size; omega)).mono ?_
            rintro e w4 ⟨rfl, h4⟩
            rw [Hsz.out]
            obtain ⟨hc4, _⟩ := bcell h4
            have hl3 : wr.heap.size < w3.heap.size := by have := h3.size; omega
            go_wp2_with fail
            refine (deep_any x _ w.heap.size _ (by exact Hix.out.below (Hb0.out.trans (hbX.trans ((bel_trans (bel_trans h2 h3) h4).mono hbX.size) |>.mono Hb0.out.size))) (by have := Hb0.out.size; have := hbX.size; have := h2.size; have := h3.size; have := h4.size; omega)).mono ?_
            rintro e w5 ⟨rfl, h5⟩
            rw [Hdp.out]
            go_wp2_with fail
            go_roundw
            case rel =>
              refine ⟨j + 1, by omega, by go_num, ?_, ?_, Hbw.out.trans (hbX.trans ((bel_trans (bel_trans (bel_trans h2 h3) h4) h5).mono hbX.size) |>.mono Hbw.out.size), ?_⟩
              · rw [take_snoc_dt l j x Hx.out, sumD_snoc, Hsz.out, ← Int.add_assoc, Hn.out]
              · rw [take_snoc_dt l j x Hx.out, topD_snoc, Hdp.out, Ht.out]; try omega
              · rw [take_snoc_dt l j x Hx.out]
                intro d hd
                rcases List.mem_append.1 hd with hd | hd
                · exact Hch.out d hd
                · obtain rfl : d = x := by simpa using hd
                  exact Hc.out
            case measure => simp [intOf]; omega
          · have hn : (chk x != 0) = true := by simp [hc]
            have Hs := Lib.hid hs
            clear hs hc
            go_wp2_with fail
            obtain ⟨hbX, hsX, hkX⟩ := start_allocs [(#[.int .i64 x.K, .int .i64 x.N, .string x.S, .slice am x.M.length cm, .slice al x.L.length cl, .slice at_ x.T.length ct], 25)] wr
            have g0 := hkX 0 _ rfl
            simp only [allocs, List.foldl_cons, List.foldl_nil, Nat.add_zero, List.length_cons, List.length_nil, Nat.zero_add] at hbX hsX g0
            clear hkX
            generalize wr.alloc (.cells #[.int .i64 x.K, .int .i64 x.N, .string x.S, .slice am x.M.length cm, .slice al x.L.length cl, .slice at_ x.T.length ct] 25) = X at *
            have x0 : X.cell? ⟨wr.heap.size, 0, none⟩ = some (.int .i64 x.K) := (g0.cell 0).trans rfl
            have x1 : X.cell? ⟨wr.heap.size, 1, none⟩ = some (.int .i64 x.N) := (g0.cell 1).trans rfl
            have x2 : X.cell? ⟨wr.heap.size, 2, none⟩ = some (.string x.S) := (g0.cell 2).trans rfl
            have x3 : X.cell? ⟨wr.heap.size, 3, none⟩ = some (.slice am x.M.length cm) := (g0.cell 3).trans rfl
            have x4 : X.cell? ⟨wr.heap.size, 4, none⟩ = some (.slice al x.L.length cl) := (g0.cell 4).trans rfl
            have x5 : X.cell? ⟨wr.heap.size, 5, none⟩ = some (.slice at_ x.T.length ct) := (g0.cell 5).trans rfl
            have hl1 : wr.heap.size < X.heap.size := by omega
            clear g0 c0 c1 c2 c3 c4 c5
            refine (small_any x _ w.heap.size _ (by exact Hix.out.below (Hb0.out.trans (hbX.mono Hb0.out.size))) (by have := Hb0.out.size; have := hbX.size; omega)).mono ?_
            rintro e w2 ⟨rfl, h2⟩
            obtain ⟨hc2, _⟩ := bcell h2
            rw [Hs.out]
            go_wp2_with fail
            refine (check_any x _ w.heap.size _ (by exact Hix.out.below (Hb0.out.trans ((hbX.trans (h2.mono hbX.size)).mono Hb0.out.size))) (by have := Hb0.out.size; have := hbX.size; have := h2.size; omega)).mono ?_
            rintro e w3 ⟨rfl, h3⟩
            obtain ⟨hc3, _⟩ := bcell h3
            have hl2 : wr.heap.size < w2.heap.size := by have := h2.size; omega
            go_wp2_with fail
            go_ret
            exact ⟨rfl, Hb0.out.trans ((hbX.trans ((bel_trans h2 h3).mono hbX.size)).mono Hb0.out.size)⟩
        · have Hs := Lib.hid (show smallB x = false by simpa using hs)
          clear hs
          go_wp2_with fail
          obtain ⟨hbX, hsX, hkX⟩ := start_allocs [(#[.int .i64 x.K, .int .i64 x.N, .string x.S, .slice am x.M.length cm, .slice al x.L.length cl, .slice at_ x.T.length ct], 25)] wr
          have g0 := hkX 0 _ rfl
          simp only [allocs, List.foldl_cons, List.foldl_nil, Nat.add_zero, List.length_cons, List.length_nil, Nat.zero_add] at hbX hsX g0
          clear hkX
          generalize wr.alloc (.cells #[.int .i64 x.K, .int .i64 x.N, .string x.S, .slice am x.M.length cm, .slice al x.L.length cl, .slice at_ x.T.length ct] 25) = X at *
          have x0 : X.cell? ⟨wr.heap.size, 0, none⟩ = some (.int .i64 x.K) := (g0.cell 0).trans rfl
          have x1 : X.cell? ⟨wr.heap.size, 1, none⟩ = some (.int .i64 x.N) := (g0.cell 1).trans rfl
          have x2 : X.cell? ⟨wr.heap.size, 2, none⟩ = some (.string x.S) := (g0.cell 2).trans rfl
          have x3 : X.cell? ⟨wr.heap.size, 3, none⟩ = some (.slice am x.M.length cm) := (g0.cell 3).trans rfl
          have x4 : X.cell? ⟨wr.heap.size, 4, none⟩ = some (.slice al x.L.length cl) := (g0.cell 4).trans rfl
          have x5 : X.cell? ⟨wr.heap.size, 5, none⟩ = some (.slice at_ x.T.length ct) := (g0.cell 5).trans rfl
          have hl1 : wr.heap.size < X.heap.size := by omega
          clear g0 c0 c1 c2 c3 c4 c5
          refine (small_any x _ w.heap.size _ (by exact Hix.out.below (Hb0.out.trans (hbX.mono Hb0.out.size))) (by have := Hb0.out.size; have := hbX.size; omega)).mono ?_
          rintro e w2 ⟨rfl, h2⟩
          obtain ⟨hc2, _⟩ := bcell h2
          rw [Hs.out]
          go_wp2_with fail
          go_ret
          exact ⟨rfl, Hb0.out.trans ((hbX.trans (h2.mono hbX.size)).mono Hb0.out.size)⟩
      · obtain rfl : j = l.length := by omega
        have dl : decide ((l.length : Int) < (l.length : Int)) = false := by simp
        have HM := Lib.hid (parts_math l (by have := Hch.out; rw [List.take_length] at this; exact this))
        rw [List.take_length] at Hn Ht Hch
        have Hls := Lib.hid (Hd.out.below Hb0.out)
        go_wp2_with fail
        refine (list_any a cap l w.heap.size _ Hsl.out Hls.out Hb0.out.size).mono ?_
        rintro e w2 ⟨v2, rfl, hb2, hi2⟩
        have s2 := hb2.size
        have hi2' : IsDt w2 (Lo w2.heap.size) (listD l) v2 := hi2.more fun b hb => by
          have := Hb0.out.size
          rcases hb with h | ⟨h1, h2⟩
          · have h1 : b < w.heap.size := h
            show b < w2.heap.size
            omega
          · exact h2
        obtain ⟨dd, hdd⟩ : ∃ dd, listD l = dd := ⟨_, rfl⟩
        have hm := HM.out
        rw [Hn.out, Ht.out, hdd] at hm
        rw [hdd] at hi2'
        have hi := hi2'
        obtain ⟨am, cm, al, cl, at_, ct, rfl, _⟩ := hi.open_
        have HI := Lib.hid hi2'
        have HX := Lib.hid (Hb0.out.trans (hb2.mono Hb0.out.size))
        obtain ⟨ce, hce⟩ : ∃ ce, chk dd = ce := ⟨_, rfl⟩
        obtain ⟨sd, hsd⟩ : ∃ sd, sizeD dd = sd := ⟨_, rfl⟩
        obtain ⟨de, hde⟩ : ∃ de, deepD dd = de := ⟨_, rfl⟩
        rw [hce, hsd, hde] at hm
        have Hce := Lib.hid hce
        have Hsd := Lib.hid hsd
        have Hde := Lib.hid hde
        clear hb2 hi2 hi2' hi hdd hce hsd hde s2
        by_cases hbig : n > 4096 ∨ t ≥ 64
        · obtain ⟨he, rfl⟩ := hm.1 hbig
          clear hm
          rcases he with rfl | rfl <;> by_cases h4 : n > 4096
          all_goals
            first
              | have dn : decide (n > 4096) = true := by simpa using h4
              | (have dn : decide (n > 4096) = false := by simpa using h4
                 have dt : decide (t ≥ 64) = true := by simpa using hbig.resolve_left h4)
            clear hbig h4
            go_wp2_with fail
            obtain ⟨hbX, hsX, hkX⟩ := start_allocs [(#[.int .i64 dd.K, .int .i64 dd.N, .string dd.S, .slice am dd.M.length cm, .slice al dd.L.length cl, .slice at_ dd.T.length ct], 25)] w2
            have g0 := hkX 0 _ rfl
            simp only [allocs, List.foldl_cons, List.foldl_nil, Nat.add_zero, List.length_cons, List.length_nil, Nat.zero_add] at hbX hsX g0
            clear hkX
            generalize w2.alloc (.cells #[.int .i64 dd.K, .int .i64 dd.N, .string dd.S, .slice am dd.M.length cm, .slice al dd.L.length cl, .slice at_ dd.T.length ct] 25) = X at *
            have x0 : X.cell? ⟨w2.heap.size, 0, none⟩ = some (.int .i64 dd.K) := (g0.cell 0).trans rfl
            have x1 : X.cell? ⟨w2.heap.size, 1, none⟩ = some (.int .i64 dd.N) := (g0.cell 1).trans rfl
            have x2 : X.cell? ⟨w2.heap.size, 2, none⟩ = some (.string dd.S) := (g0.cell 2).trans rfl
            have x3 : X.cell? ⟨w2.heap.size, 3, none⟩ = some (.slice am dd.M.length cm) := (g0.cell 3).trans rfl
            have x4 : X.cell? ⟨w2.heap.size, 4, none⟩ = some (.slice al dd.L.length cl) := (g0.cell 4).trans rfl
            have x5 : X.cell? ⟨w2.heap.size, 5, none⟩ = some (.slice at_ dd.T.length ct) := (g0.cell 5).trans rfl
            have hl1 : w2.heap.size < X.heap.size := by omega
            have HIX := Lib.hid (HI.out.below hbX)
            have HbX := Lib.hid hbX
            clear g0 hbX hsX
            refine (check_any dd _ w2.heap.size _ (by exact HIX.out) HbX.out.size).mono ?_
            rintro e w3 ⟨rfl, h3⟩
            rw [Hce.out]
            obtain ⟨hc3, _⟩ := bcell h3
            have hl2 : w2.heap.size < w3.heap.size := by have := h3.size; omega
            go_wp2_with fail
            refine (size_any dd _ w2.heap.size _ (by exact HIX.out.below (h3.mono HbX.out.size)) (by have := HbX.out.size; have := h3.size; omega)).mono ?_
            rintro e w4 ⟨rfl, h4⟩
            rw [Hsd.out]
            go_wp2_with fail
            go_ret
            exact ⟨by simp, HX.out.trans ((HbX.out.trans ((bel_trans h3 h4).mono HbX.out.size)).mono HX.out.size)⟩
        · obtain ⟨rfl, q1, q2⟩ := hm.2 hbig
          subst q2
          rw [q1] at Hsd
          have dq : (n == n) = true := by simp
          have dq2 : (t + 1 == t + 1) = true := by simp
          have dn : decide (n > 4096) = false := by simp only [decide_eq_false_iff_not]; omega
          have dt : decide (t ≥ 64) = false := by simp only [decide_eq_false_iff_not]; omega
          clear hm hbig
          go_wp2_with fail
          obtain ⟨hbX, hsX, hkX⟩ := start_allocs [(#[.int .i64 dd.K, .int .i64 dd.N, .string dd.S, .slice am dd.M.length cm, .slice al dd.L.length cl, .slice at_ dd.T.length ct], 25)] w2
          have g0 := hkX 0 _ rfl
          simp only [allocs, List.foldl_cons, List.foldl_nil, Nat.add_zero, List.length_cons, List.length_nil, Nat.zero_add] at hbX hsX g0
          clear hkX
          generalize w2.alloc (.cells #[.int .i64 dd.K, .int .i64 dd.N, .string dd.S, .slice am dd.M.length cm, .slice al dd.L.length cl, .slice at_ dd.T.length ct] 25) = X at *
          have x0 : X.cell? ⟨w2.heap.size, 0, none⟩ = some (.int .i64 dd.K) := (g0.cell 0).trans rfl
          have x1 : X.cell? ⟨w2.heap.size, 1, none⟩ = some (.int .i64 dd.N) := (g0.cell 1).trans rfl
          have x2 : X.cell? ⟨w2.heap.size, 2, none⟩ = some (.string dd.S) := (g0.cell 2).trans rfl
          have x3 : X.cell? ⟨w2.heap.size, 3, none⟩ = some (.slice am dd.M.length cm) := (g0.cell 3).trans rfl
          have x4 : X.cell? ⟨w2.heap.size, 4, none⟩ = some (.slice al dd.L.length cl) := (g0.cell 4).trans rfl
          have x5 : X.cell? ⟨w2.heap.size, 5, none⟩ = some (.slice at_ dd.T.length ct) := (g0.cell 5).trans rfl
          have hl1 : w2.heap.size < X.heap.size := by omega
          have HIX := Lib.hid (HI.out.below hbX)
          have HbX := Lib.hid hbX
          clear g0 hbX hsX
          refine (check_any dd _ w2.heap.size _ (by exact HIX.out) HbX.out.size).mono ?_
          rintro e w3 ⟨rfl, h3⟩
          rw [Hce.out]
          obtain ⟨hc3, _⟩ := bcell h3
          have hl2 : w2.heap.size < w3.heap.size := by have := h3.size; omega
          go_wp2_with fail
          refine (size_any dd _ w2.heap.size _ (by exact HIX.out.below (h3.mono HbX.out.size)) (by have := HbX.out.size; have := h3.size; omega)).mono ?_
          rintro e w4 ⟨rfl, h4⟩
          rw [Hsd.out]
          obtain ⟨hc4, _⟩ := bcell h4
          go_wp2_with fail
          refine (deep_any dd _ w2.heap.size _ (by exact HIX.out.below ((bel_trans h3 h4).mono HbX.out.size)) (by have := HbX.out.size; have := h3.size; have := h4.size; omega)).mono ?_
          rintro e w5 ⟨rfl, h5⟩
          rw [Hde.out]
          go_wp2_with fail
          go_ret
          exact ⟨by simp, HX.out.trans ((HbX.out.trans ((bel_trans (bel_trans h3 h4) h5).mono HbX.out.size)).mono HX.out.size)⟩
end Go.Proofs.Ytkejplhafhdjnaa.Da
