/- Any two put together, the halves of any one, any list (P2.3): the walk. -/
import Derived.Test.YtjmchodddobleaaDatRList
import Derived.Test.YtjmchodddobleaaDatAlike
import Derived.Deep.RegionHeld3
import Derived.Test.YtjmchodddobleaaOrd2
import Derived.Test.YtjmchodddobleaaDatOpen
namespace Go.Proofs.Ytjmchodddobleaa.Da
open Go.ChangeShapes Go.WideShapes Go.ChangeAt Go.RowKit
set_option maxRecDepth 100000

theorem rcdr_any (d : Dt) (v : Value) (B : Nat) (w : World) (hd : IsDt w (Lo B) d v) (hB : B ≤ w.heap.size) :
    Calls Try.prog 35 #[v] w (TwoR w (Lo B) (pairE d) (cdrD d)) := by
  by_cases h0 : pairE d = 0
  · rw [h0]
    by_cases hn : d.K = 7 ∧ d.L.length = 1
    · exact rcdr_one d v B w hd hB h0 hn.1 hn.2
    · have e : cdrD d = restD d := by unfold cdrD; rw [if_neg hn]
      rw [e]
      exact rcdr_rest d v B w hd hB h0 hn
  · obtain ⟨pe, hpe⟩ : ∃ pe, pairE d = pe := ⟨_, rfl⟩
    rw [hpe] at h0 ⊢
    have HP := Lib.hid hpe
    have hd' := hd
    obtain ⟨am, cm, al, cl, at_, ct, rfl, _⟩ := hd'.open_
    have HD := Lib.hid hd
    have dn : (pe != 0) = true := by simp [h0]
    have H0 := Lib.hid h0
    clear hpe h0 hd hd'
    go_enter Try.func35, Try.ntmps35
    go_wp2_with fail
    refine (rpair_any d _ B _ (by exact HD.out.below (((Below.refl _ _).alloc hB _).alloc (by simp; omega) _)) (by simp; omega)).mono ?_
    rintro e w1 ⟨rfl, hb⟩
    rw [HP.out]
    obtain ⟨hc, hfz⟩ := bcell hb
    have hz1 : w.heap.size + 1 < w1.heap.size := by have := hb.size; simp at this; omega
    have hbw : Below w.heap.size w w1 := (((Below.refl _ _).alloc (Nat.le_refl _) _).alloc (by simp) _).trans (hb.mono (by simp; omega))
    have Hbw := Lib.hid hbw
    clear hb hbw
    go_wp2_with fail
    refine bodyPost_ret (v := .tuple #[zeroV, .int .i64 pe]) ?_ rfl ?_
    · simp [results, Try.results35, go_sem, hc, zeroV]
    · exact two_bad (b := w.heap.size + 1) (by omega) H0.out Hbw.out rfl
def outD (er : Int) (d : Dt) : Dt := if er = 0 then d else zeroD
theorem TwoR.out_ {w w' : World} {B : Nat} {er : Int} {d : Dt} {e : Ending} (h : TwoR w (Lo B) er d e w') (hB : B ≤ w.heap.size) :
    ∃ v', e = .returned (.tuple #[v', .int .i64 er]) ∧ Below w.heap.size w w' ∧ IsDt w' (Lo w'.heap.size) (outD er d) v' := by
  obtain ⟨v, he, hb, hz, hi⟩ := h.lo hB
  refine ⟨v, he, hb, ?_⟩
  unfold outD
  by_cases h0 : er = 0
  · rw [if_pos h0]; exact hi h0
  · rw [if_neg h0, hz h0]; exact zero_isDt _ _
theorem alike_out {er : Int} {d : Dt} (h : er = 0 → chk d = 0) : alikeB (outD er d) (outD er d) = true := by
  unfold outD
  by_cases h0 : er = 0
  · rw [if_pos h0]; unfold alikeB; rw [h h0, eqD_refl]; rfl
  · rw [if_neg h0]; decide +kernel
theorem cons_chk {a d : Dt} (h : consE a d = 0) : chk (consD a d) = 0 := by
  unfold consE at h
  by_cases h1 : chk a ≠ 0
  · rw [if_pos h1] at h; exact absurd h h1
  · rw [if_neg h1] at h
    by_cases h2 : chk d ≠ 0
    · rw [if_pos h2] at h; exact absurd h h2
    · rwa [if_neg h2] at h
set_option maxHeartbeats 40000000 in
theorem dpairs_any (a d : Dt) (l : List Dt) (va vd : Value) (al : Option Addr) (lc : Nat) (w : World) (ha : IsDt w (Lo w.heap.size) a va) (hd : IsDt w (Lo w.heap.size) d vd) (hs : IsSl al l.length lc) (hl : IsDts w (Lo w.heap.size) al 0 l) :
    Calls Try.prog 6 #[va, vd, .slice al l.length lc] w fun e w' => e = .returned (.bool true) ∧ Below w.heap.size w w' := by
  have ha' := ha
  have hd' := hd
  obtain ⟨am, acm, al', acl, at', act, rfl, _⟩ := ha'.open_
  obtain ⟨dm, dcm, dl, dcl, dt, dct, rfl, _⟩ := hd'.open_
  have TA := Lib.hid ha
  have TD := Lib.hid hd
  have Hs := Lib.hid hs
  have Hl := Lib.hid hl
  have ll : (l.length : Int) ≤ 17592186044416 := by have a := hs.1; have b := hs.2.2.1; omega
  clear ha hd ha' hd' hs hl
  obtain ⟨sa, hsa⟩ : ∃ c, smallB a = c := ⟨_, rfl⟩
  obtain ⟨sd, hsd⟩ : ∃ c, smallB d = c := ⟨_, rfl⟩
  have Sa := Lib.hid hsa
  have Sd := Lib.hid hsd
  clear hsa hsd
  cases sa
  · have HW := Lib.hid (bel_refl w)
    go_enter Try.func6, Try.ntmps6
    go_wp2_with fail
    obtain ⟨hbX, hsX, hkX⟩ := start_allocs [(#[.int .i64 a.K, .int .i64 a.N, .string a.S, .slice am a.M.length acm, .slice al' a.L.length acl, .slice at' a.T.length act], 25), (#[.int .i64 d.K, .int .i64 d.N, .string d.S, .slice dm d.M.length dcm, .slice dl d.L.length dcl, .slice dt d.T.length dct], 25)] w
    have g0 := hkX 0 _ rfl
    have g1 := hkX 1 _ rfl
    set_option linter.unusedSimpArgs false in
    simp only [allocs, List.foldl_cons, List.foldl_nil, Nat.add_zero, List.length_cons, List.length_nil, Nat.zero_add, Nat.reduceAdd] at hbX hsX g0 g1
    clear hkX
    generalize (w.alloc (.cells #[.int .i64 a.K, .int .i64 a.N, .string a.S, .slice am a.M.length acm, .slice al' a.L.length acl, .slice at' a.T.length act] 25)).alloc (.cells #[.int .i64 d.K, .int .i64 d.N, .string d.S, .slice dm d.M.length dcm, .slice dl d.L.length dcl, .slice dt d.T.length dct] 25) = X0 at *
    have x0 : X0.cell? ⟨w.heap.size, 0, none⟩ = some (.int .i64 a.K) := (g0.cell 0).trans rfl
    have x1 : X0.cell? ⟨w.heap.size, 1, none⟩ = some (.int .i64 a.N) := (g0.cell 1).trans rfl
    have x2 : X0.cell? ⟨w.heap.size, 2, none⟩ = some (.string a.S) := (g0.cell 2).trans rfl
    have x3 : X0.cell? ⟨w.heap.size, 3, none⟩ = some (.slice am a.M.length acm) := (g0.cell 3).trans rfl
    have x4 : X0.cell? ⟨w.heap.size, 4, none⟩ = some (.slice al' a.L.length acl) := (g0.cell 4).trans rfl
    have x5 : X0.cell? ⟨w.heap.size, 5, none⟩ = some (.slice at' a.T.length act) := (g0.cell 5).trans rfl
    have lt_x : w.heap.size < X0.heap.size := by omega
    have y0 : X0.cell? ⟨w.heap.size + 1, 0, none⟩ = some (.int .i64 d.K) := (g1.cell 0).trans rfl
    have y1 : X0.cell? ⟨w.heap.size + 1, 1, none⟩ = some (.int .i64 d.N) := (g1.cell 1).trans rfl
    have y2 : X0.cell? ⟨w.heap.size + 1, 2, none⟩ = some (.string d.S) := (g1.cell 2).trans rfl
    have y3 : X0.cell? ⟨w.heap.size + 1, 3, none⟩ = some (.slice dm d.M.length dcm) := (g1.cell 3).trans rfl
    have y4 : X0.cell? ⟨w.heap.size + 1, 4, none⟩ = some (.slice dl d.L.length dcl) := (g1.cell 4).trans rfl
    have y5 : X0.cell? ⟨w.heap.size + 1, 5, none⟩ = some (.slice dt d.T.length dct) := (g1.cell 5).trans rfl
    have lt_y : w.heap.size + 1 < X0.heap.size := by omega
    clear g0 g1 hsX
    replace TA := Lib.hid (TA.out.up hbX)
    replace TD := Lib.hid (TD.out.up hbX)
    replace HW := Lib.hid (HW.out.trans (hbX.mono HW.out.size))
    clear hbX
    refine (awake_any X0).mono ?_
    rintro e w0 ⟨rfl, hb⟩
    replace x0 := (hb.cell (p := ⟨w.heap.size, 0, none⟩) lt_x).trans x0
    replace x1 := (hb.cell (p := ⟨w.heap.size, 1, none⟩) lt_x).trans x1
    replace x2 := (hb.cell (p := ⟨w.heap.size, 2, none⟩) lt_x).trans x2
    replace x3 := (hb.cell (p := ⟨w.heap.size, 3, none⟩) lt_x).trans x3
    replace x4 := (hb.cell (p := ⟨w.heap.size, 4, none⟩) lt_x).trans x4
    replace x5 := (hb.cell (p := ⟨w.heap.size, 5, none⟩) lt_x).trans x5
    replace lt_x : w.heap.size < w0.heap.size := Nat.lt_of_lt_of_le lt_x hb.size
    replace y0 := (hb.cell (p := ⟨w.heap.size + 1, 0, none⟩) lt_y).trans y0
    replace y1 := (hb.cell (p := ⟨w.heap.size + 1, 1, none⟩) lt_y).trans y1
    replace y2 := (hb.cell (p := ⟨w.heap.size + 1, 2, none⟩) lt_y).trans y2
    replace y3 := (hb.cell (p := ⟨w.heap.size + 1, 3, none⟩) lt_y).trans y3
    replace y4 := (hb.cell (p := ⟨w.heap.size + 1, 4, none⟩) lt_y).trans y4
    replace y5 := (hb.cell (p := ⟨w.heap.size + 1, 5, none⟩) lt_y).trans y5
    replace lt_y : w.heap.size + 1 < w0.heap.size := Nat.lt_of_lt_of_le lt_y hb.size
    replace TA := Lib.hid (TA.out.up hb)
    replace TD := Lib.hid (TD.out.up hb)
    replace HW := Lib.hid (HW.out.trans (hb.mono HW.out.size))
    clear hb
    go_wp2_with fail
    refine (small_any a _ _ w0 (by exact TA.out) (Nat.le_refl _)).mono ?_
    rintro e w1 ⟨rfl, hb⟩
    rw [Sa.out]
    replace x0 := (hb.cell (p := ⟨w.heap.size, 0, none⟩) lt_x).trans x0
    replace x1 := (hb.cell (p := ⟨w.heap.size, 1, none⟩) lt_x).trans x1
    replace x2 := (hb.cell (p := ⟨w.heap.size, 2, none⟩) lt_x).trans x2
    replace x3 := (hb.cell (p := ⟨w.heap.size, 3, none⟩) lt_x).trans x3
    replace x4 := (hb.cell (p := ⟨w.heap.size, 4, none⟩) lt_x).trans x4
    replace x5 := (hb.cell (p := ⟨w.heap.size, 5, none⟩) lt_x).trans x5
    replace lt_x : w.heap.size < w1.heap.size := Nat.lt_of_lt_of_le lt_x hb.size
    replace y0 := (hb.cell (p := ⟨w.heap.size + 1, 0, none⟩) lt_y).trans y0
    replace y1 := (hb.cell (p := ⟨w.heap.size + 1, 1, none⟩) lt_y).trans y1
    replace y2 := (hb.cell (p := ⟨w.heap.size + 1, 2, none⟩) lt_y).trans y2
    replace y3 := (hb.cell (p := ⟨w.heap.size + 1, 3, none⟩) lt_y).trans y3
    replace y4 := (hb.cell (p := ⟨w.heap.size + 1, 4, none⟩) lt_y).trans y4
    replace y5 := (hb.cell (p := ⟨w.heap.size + 1, 5, none⟩) lt_y).trans y5
    replace lt_y : w.heap.size + 1 < w1.heap.size := Nat.lt_of_lt_of_le lt_y hb.size
    replace TA := Lib.hid (TA.out.up hb)
    replace TD := Lib.hid (TD.out.up hb)
    replace HW := Lib.hid (HW.out.trans (hb.mono HW.out.size))
    clear hb
    go_wp2_with fail
    refine (awake_any w1).mono ?_
    rintro e w2 ⟨rfl, hb⟩
    replace x0 := (hb.cell (p := ⟨w.heap.size, 0, none⟩) lt_x).trans x0
    replace x1 := (hb.cell (p := ⟨w.heap.size, 1, none⟩) lt_x).trans x1
    replace x2 := (hb.cell (p := ⟨w.heap.size, 2, none⟩) lt_x).trans x2
    replace x3 := (hb.cell (p := ⟨w.heap.size, 3, none⟩) lt_x).trans x3
    replace x4 := (hb.cell (p := ⟨w.heap.size, 4, none⟩) lt_x).trans x4
    replace x5 := (hb.cell (p := ⟨w.heap.size, 5, none⟩) lt_x).trans x5
    replace lt_x : w.heap.size < w2.heap.size := Nat.lt_of_lt_of_le lt_x hb.size
    replace y0 := (hb.cell (p := ⟨w.heap.size + 1, 0, none⟩) lt_y).trans y0
    replace y1 := (hb.cell (p := ⟨w.heap.size + 1, 1, none⟩) lt_y).trans y1
    replace y2 := (hb.cell (p := ⟨w.heap.size + 1, 2, none⟩) lt_y).trans y2
    replace y3 := (hb.cell (p := ⟨w.heap.size + 1, 3, none⟩) lt_y).trans y3
    replace y4 := (hb.cell (p := ⟨w.heap.size + 1, 4, none⟩) lt_y).trans y4
    replace y5 := (hb.cell (p := ⟨w.heap.size + 1, 5, none⟩) lt_y).trans y5
    replace lt_y : w.heap.size + 1 < w2.heap.size := Nat.lt_of_lt_of_le lt_y hb.size
    replace TA := Lib.hid (TA.out.up hb)
    replace TD := Lib.hid (TD.out.up hb)
    replace HW := Lib.hid (HW.out.trans (hb.mono HW.out.size))
    clear hb
    go_wp2_with fail
    go_ret
    exact ⟨rfl, HW.out⟩
  cases sd
  · have HW := Lib.hid (bel_refl w)
    go_enter Try.func6, Try.ntmps6
    go_wp2_with fail
    obtain ⟨hbX, hsX, hkX⟩ := start_allocs [(#[.int .i64 a.K, .int .i64 a.N, .string a.S, .slice am a.M.length acm, .slice al' a.L.length acl, .slice at' a.T.length act], 25), (#[.int .i64 d.K, .int .i64 d.N, .string d.S, .slice dm d.M.length dcm, .slice dl d.L.length dcl, .slice dt d.T.length dct], 25)] w
    have g0 := hkX 0 _ rfl
    have g1 := hkX 1 _ rfl
    set_option linter.unusedSimpArgs false in
    simp only [allocs, List.foldl_cons, List.foldl_nil, Nat.add_zero, List.length_cons, List.length_nil, Nat.zero_add, Nat.reduceAdd] at hbX hsX g0 g1
    clear hkX
    generalize (w.alloc (.cells #[.int .i64 a.K, .int .i64 a.N, .string a.S, .slice am a.M.length acm, .slice al' a.L.length acl, .slice at' a.T.length act] 25)).alloc (.cells #[.int .i64 d.K, .int .i64 d.N, .string d.S, .slice dm d.M.length dcm, .slice dl d.L.length dcl, .slice dt d.T.length dct] 25) = X0 at *
    have x0 : X0.cell? ⟨w.heap.size, 0, none⟩ = some (.int .i64 a.K) := (g0.cell 0).trans rfl
    have x1 : X0.cell? ⟨w.heap.size, 1, none⟩ = some (.int .i64 a.N) := (g0.cell 1).trans rfl
    have x2 : X0.cell? ⟨w.heap.size, 2, none⟩ = some (.string a.S) := (g0.cell 2).trans rfl
    have x3 : X0.cell? ⟨w.heap.size, 3, none⟩ = some (.slice am a.M.length acm) := (g0.cell 3).trans rfl
    have x4 : X0.cell? ⟨w.heap.size, 4, none⟩ = some (.slice al' a.L.length acl) := (g0.cell 4).trans rfl
    have x5 : X0.cell? ⟨w.heap.size, 5, none⟩ = some (.slice at' a.T.length act) := (g0.cell 5).trans rfl
    have lt_x : w.heap.size < X0.heap.size := by omega
    have y0 : X0.cell? ⟨w.heap.size + 1, 0, none⟩ = some (.int .i64 d.K) := (g1.cell 0).trans rfl
    have y1 : X0.cell? ⟨w.heap.size + 1, 1, none⟩ = some (.int .i64 d.N) := (g1.cell 1).trans rfl
    have y2 : X0.cell? ⟨w.heap.size + 1, 2, none⟩ = some (.string d.S) := (g1.cell 2).trans rfl
    have y3 : X0.cell? ⟨w.heap.size + 1, 3, none⟩ = some (.slice dm d.M.length dcm) := (g1.cell 3).trans rfl
    have y4 : X0.cell? ⟨w.heap.size + 1, 4, none⟩ = some (.slice dl d.L.length dcl) := (g1.cell 4).trans rfl
    have y5 : X0.cell? ⟨w.heap.size + 1, 5, none⟩ = some (.slice dt d.T.length dct) := (g1.cell 5).trans rfl
    have lt_y : w.heap.size + 1 < X0.heap.size := by omega
    clear g0 g1 hsX
    replace TA := Lib.hid (TA.out.up hbX)
    replace TD := Lib.hid (TD.out.up hbX)
    replace HW := Lib.hid (HW.out.trans (hbX.mono HW.out.size))
    clear hbX
    refine (awake_any X0).mono ?_
    rintro e w0 ⟨rfl, hb⟩
    replace x0 := (hb.cell (p := ⟨w.heap.size, 0, none⟩) lt_x).trans x0
    replace x1 := (hb.cell (p := ⟨w.heap.size, 1, none⟩) lt_x).trans x1
    replace x2 := (hb.cell (p := ⟨w.heap.size, 2, none⟩) lt_x).trans x2
    replace x3 := (hb.cell (p := ⟨w.heap.size, 3, none⟩) lt_x).trans x3
    replace x4 := (hb.cell (p := ⟨w.heap.size, 4, none⟩) lt_x).trans x4
    replace x5 := (hb.cell (p := ⟨w.heap.size, 5, none⟩) lt_x).trans x5
    replace lt_x : w.heap.size < w0.heap.size := Nat.lt_of_lt_of_le lt_x hb.size
    replace y0 := (hb.cell (p := ⟨w.heap.size + 1, 0, none⟩) lt_y).trans y0
    replace y1 := (hb.cell (p := ⟨w.heap.size + 1, 1, none⟩) lt_y).trans y1
    replace y2 := (hb.cell (p := ⟨w.heap.size + 1, 2, none⟩) lt_y).trans y2
    replace y3 := (hb.cell (p := ⟨w.heap.size + 1, 3, none⟩) lt_y).trans y3
    replace y4 := (hb.cell (p := ⟨w.heap.size + 1, 4, none⟩) lt_y).trans y4
    replace y5 := (hb.cell (p := ⟨w.heap.size + 1, 5, none⟩) lt_y).trans y5
    replace lt_y : w.heap.size + 1 < w0.heap.size := Nat.lt_of_lt_of_le lt_y hb.size
    replace TA := Lib.hid (TA.out.up hb)
    replace TD := Lib.hid (TD.out.up hb)
    replace HW := Lib.hid (HW.out.trans (hb.mono HW.out.size))
    clear hb
    go_wp2_with fail
    refine (small_any a _ _ w0 (by exact TA.out) (Nat.le_refl _)).mono ?_
    rintro e w1 ⟨rfl, hb⟩
    rw [Sa.out]
    replace x0 := (hb.cell (p := ⟨w.heap.size, 0, none⟩) lt_x).trans x0
    replace x1 := (hb.cell (p := ⟨w.heap.size, 1, none⟩) lt_x).trans x1
    replace x2 := (hb.cell (p := ⟨w.heap.size, 2, none⟩) lt_x).trans x2
    replace x3 := (hb.cell (p := ⟨w.heap.size, 3, none⟩) lt_x).trans x3
    replace x4 := (hb.cell (p := ⟨w.heap.size, 4, none⟩) lt_x).trans x4
    replace x5 := (hb.cell (p := ⟨w.heap.size, 5, none⟩) lt_x).trans x5
    replace lt_x : w.heap.size < w1.heap.size := Nat.lt_of_lt_of_le lt_x hb.size
    replace y0 := (hb.cell (p := ⟨w.heap.size + 1, 0, none⟩) lt_y).trans y0
    replace y1 := (hb.cell (p := ⟨w.heap.size + 1, 1, none⟩) lt_y).trans y1
    replace y2 := (hb.cell (p := ⟨w.heap.size + 1, 2, none⟩) lt_y).trans y2
    replace y3 := (hb.cell (p := ⟨w.heap.size + 1, 3, none⟩) lt_y).trans y3
    replace y4 := (hb.cell (p := ⟨w.heap.size + 1, 4, none⟩) lt_y).trans y4
    replace y5 := (hb.cell (p := ⟨w.heap.size + 1, 5, none⟩) lt_y).trans y5
    replace lt_y : w.heap.size + 1 < w1.heap.size := Nat.lt_of_lt_of_le lt_y hb.size
    replace TA := Lib.hid (TA.out.up hb)
    replace TD := Lib.hid (TD.out.up hb)
    replace HW := Lib.hid (HW.out.trans (hb.mono HW.out.size))
    clear hb
    go_wp2_with fail
    refine (small_any d _ _ w1 (by exact TD.out) (Nat.le_refl _)).mono ?_
    rintro e w2 ⟨rfl, hb⟩
    rw [Sd.out]
    replace x0 := (hb.cell (p := ⟨w.heap.size, 0, none⟩) lt_x).trans x0
    replace x1 := (hb.cell (p := ⟨w.heap.size, 1, none⟩) lt_x).trans x1
    replace x2 := (hb.cell (p := ⟨w.heap.size, 2, none⟩) lt_x).trans x2
    replace x3 := (hb.cell (p := ⟨w.heap.size, 3, none⟩) lt_x).trans x3
    replace x4 := (hb.cell (p := ⟨w.heap.size, 4, none⟩) lt_x).trans x4
    replace x5 := (hb.cell (p := ⟨w.heap.size, 5, none⟩) lt_x).trans x5
    replace lt_x : w.heap.size < w2.heap.size := Nat.lt_of_lt_of_le lt_x hb.size
    replace y0 := (hb.cell (p := ⟨w.heap.size + 1, 0, none⟩) lt_y).trans y0
    replace y1 := (hb.cell (p := ⟨w.heap.size + 1, 1, none⟩) lt_y).trans y1
    replace y2 := (hb.cell (p := ⟨w.heap.size + 1, 2, none⟩) lt_y).trans y2
    replace y3 := (hb.cell (p := ⟨w.heap.size + 1, 3, none⟩) lt_y).trans y3
    replace y4 := (hb.cell (p := ⟨w.heap.size + 1, 4, none⟩) lt_y).trans y4
    replace y5 := (hb.cell (p := ⟨w.heap.size + 1, 5, none⟩) lt_y).trans y5
    replace lt_y : w.heap.size + 1 < w2.heap.size := Nat.lt_of_lt_of_le lt_y hb.size
    replace TA := Lib.hid (TA.out.up hb)
    replace TD := Lib.hid (TD.out.up hb)
    replace HW := Lib.hid (HW.out.trans (hb.mono HW.out.size))
    clear hb
    go_wp2_with fail
    refine (awake_any w2).mono ?_
    rintro e w3 ⟨rfl, hb⟩
    replace x0 := (hb.cell (p := ⟨w.heap.size, 0, none⟩) lt_x).trans x0
    replace x1 := (hb.cell (p := ⟨w.heap.size, 1, none⟩) lt_x).trans x1
    replace x2 := (hb.cell (p := ⟨w.heap.size, 2, none⟩) lt_x).trans x2
    replace x3 := (hb.cell (p := ⟨w.heap.size, 3, none⟩) lt_x).trans x3
    replace x4 := (hb.cell (p := ⟨w.heap.size, 4, none⟩) lt_x).trans x4
    replace x5 := (hb.cell (p := ⟨w.heap.size, 5, none⟩) lt_x).trans x5
    replace lt_x : w.heap.size < w3.heap.size := Nat.lt_of_lt_of_le lt_x hb.size
    replace y0 := (hb.cell (p := ⟨w.heap.size + 1, 0, none⟩) lt_y).trans y0
    replace y1 := (hb.cell (p := ⟨w.heap.size + 1, 1, none⟩) lt_y).trans y1
    replace y2 := (hb.cell (p := ⟨w.heap.size + 1, 2, none⟩) lt_y).trans y2
    replace y3 := (hb.cell (p := ⟨w.heap.size + 1, 3, none⟩) lt_y).trans y3
    replace y4 := (hb.cell (p := ⟨w.heap.size + 1, 4, none⟩) lt_y).trans y4
    replace y5 := (hb.cell (p := ⟨w.heap.size + 1, 5, none⟩) lt_y).trans y5
    replace lt_y : w.heap.size + 1 < w3.heap.size := Nat.lt_of_lt_of_le lt_y hb.size
    replace TA := Lib.hid (TA.out.up hb)
    replace TD := Lib.hid (TD.out.up hb)
    replace HW := Lib.hid (HW.out.trans (hb.mono HW.out.size))
    clear hb
    go_wp2_with fail
    go_ret
    exact ⟨rfl, HW.out⟩
  by_cases h100 : (l.length : Int) > 100
  · have dl1 : decide ((l.length : Int) > 100) = true := by simpa using h100
    have HW := Lib.hid (bel_refl w)
    go_enter Try.func6, Try.ntmps6
    go_wp2_with fail
    obtain ⟨hbX, hsX, hkX⟩ := start_allocs [(#[.int .i64 a.K, .int .i64 a.N, .string a.S, .slice am a.M.length acm, .slice al' a.L.length acl, .slice at' a.T.length act], 25), (#[.int .i64 d.K, .int .i64 d.N, .string d.S, .slice dm d.M.length dcm, .slice dl d.L.length dcl, .slice dt d.T.length dct], 25)] w
    have g0 := hkX 0 _ rfl
    have g1 := hkX 1 _ rfl
    set_option linter.unusedSimpArgs false in
    simp only [allocs, List.foldl_cons, List.foldl_nil, Nat.add_zero, List.length_cons, List.length_nil, Nat.zero_add, Nat.reduceAdd] at hbX hsX g0 g1
    clear hkX
    generalize (w.alloc (.cells #[.int .i64 a.K, .int .i64 a.N, .string a.S, .slice am a.M.length acm, .slice al' a.L.length acl, .slice at' a.T.length act] 25)).alloc (.cells #[.int .i64 d.K, .int .i64 d.N, .string d.S, .slice dm d.M.length dcm, .slice dl d.L.length dcl, .slice dt d.T.length dct] 25) = X0 at *
    have x0 : X0.cell? ⟨w.heap.size, 0, none⟩ = some (.int .i64 a.K) := (g0.cell 0).trans rfl
    have x1 : X0.cell? ⟨w.heap.size, 1, none⟩ = some (.int .i64 a.N) := (g0.cell 1).trans rfl
    have x2 : X0.cell? ⟨w.heap.size, 2, none⟩ = some (.string a.S) := (g0.cell 2).trans rfl
    have x3 : X0.cell? ⟨w.heap.size, 3, none⟩ = some (.slice am a.M.length acm) := (g0.cell 3).trans rfl
    have x4 : X0.cell? ⟨w.heap.size, 4, none⟩ = some (.slice al' a.L.length acl) := (g0.cell 4).trans rfl
    have x5 : X0.cell? ⟨w.heap.size, 5, none⟩ = some (.slice at' a.T.length act) := (g0.cell 5).trans rfl
    have lt_x : w.heap.size < X0.heap.size := by omega
    have y0 : X0.cell? ⟨w.heap.size + 1, 0, none⟩ = some (.int .i64 d.K) := (g1.cell 0).trans rfl
    have y1 : X0.cell? ⟨w.heap.size + 1, 1, none⟩ = some (.int .i64 d.N) := (g1.cell 1).trans rfl
    have y2 : X0.cell? ⟨w.heap.size + 1, 2, none⟩ = some (.string d.S) := (g1.cell 2).trans rfl
    have y3 : X0.cell? ⟨w.heap.size + 1, 3, none⟩ = some (.slice dm d.M.length dcm) := (g1.cell 3).trans rfl
    have y4 : X0.cell? ⟨w.heap.size + 1, 4, none⟩ = some (.slice dl d.L.length dcl) := (g1.cell 4).trans rfl
    have y5 : X0.cell? ⟨w.heap.size + 1, 5, none⟩ = some (.slice dt d.T.length dct) := (g1.cell 5).trans rfl
    have lt_y : w.heap.size + 1 < X0.heap.size := by omega
    clear g0 g1 hsX
    replace TA := Lib.hid (TA.out.up hbX)
    replace TD := Lib.hid (TD.out.up hbX)
    replace HW := Lib.hid (HW.out.trans (hbX.mono HW.out.size))
    clear hbX
    refine (awake_any X0).mono ?_
    rintro e w0 ⟨rfl, hb⟩
    replace x0 := (hb.cell (p := ⟨w.heap.size, 0, none⟩) lt_x).trans x0
    replace x1 := (hb.cell (p := ⟨w.heap.size, 1, none⟩) lt_x).trans x1
    replace x2 := (hb.cell (p := ⟨w.heap.size, 2, none⟩) lt_x).trans x2
    replace x3 := (hb.cell (p := ⟨w.heap.size, 3, none⟩) lt_x).trans x3
    replace x4 := (hb.cell (p := ⟨w.heap.size, 4, none⟩) lt_x).trans x4
    replace x5 := (hb.cell (p := ⟨w.heap.size, 5, none⟩) lt_x).trans x5
    replace lt_x : w.heap.size < w0.heap.size := Nat.lt_of_lt_of_le lt_x hb.size
    replace y0 := (hb.cell (p := ⟨w.heap.size + 1, 0, none⟩) lt_y).trans y0
    replace y1 := (hb.cell (p := ⟨w.heap.size + 1, 1, none⟩) lt_y).trans y1
    replace y2 := (hb.cell (p := ⟨w.heap.size + 1, 2, none⟩) lt_y).trans y2
    replace y3 := (hb.cell (p := ⟨w.heap.size + 1, 3, none⟩) lt_y).trans y3
    replace y4 := (hb.cell (p := ⟨w.heap.size + 1, 4, none⟩) lt_y).trans y4
    replace y5 := (hb.cell (p := ⟨w.heap.size + 1, 5, none⟩) lt_y).trans y5
    replace lt_y : w.heap.size + 1 < w0.heap.size := Nat.lt_of_lt_of_le lt_y hb.size
    replace TA := Lib.hid (TA.out.up hb)
    replace TD := Lib.hid (TD.out.up hb)
    replace HW := Lib.hid (HW.out.trans (hb.mono HW.out.size))
    clear hb
    go_wp2_with fail
    refine (small_any a _ _ w0 (by exact TA.out) (Nat.le_refl _)).mono ?_
    rintro e w1 ⟨rfl, hb⟩
    rw [Sa.out]
    replace x0 := (hb.cell (p := ⟨w.heap.size, 0, none⟩) lt_x).trans x0
    replace x1 := (hb.cell (p := ⟨w.heap.size, 1, none⟩) lt_x).trans x1
    replace x2 := (hb.cell (p := ⟨w.heap.size, 2, none⟩) lt_x).trans x2
    replace x3 := (hb.cell (p := ⟨w.heap.size, 3, none⟩) lt_x).trans x3
    replace x4 := (hb.cell (p := ⟨w.heap.size, 4, none⟩) lt_x).trans x4
    replace x5 := (hb.cell (p := ⟨w.heap.size, 5, none⟩) lt_x).trans x5
    replace lt_x : w.heap.size < w1.heap.size := Nat.lt_of_lt_of_le lt_x hb.size
    replace y0 := (hb.cell (p := ⟨w.heap.size + 1, 0, none⟩) lt_y).trans y0
    replace y1 := (hb.cell (p := ⟨w.heap.size + 1, 1, none⟩) lt_y).trans y1
    replace y2 := (hb.cell (p := ⟨w.heap.size + 1, 2, none⟩) lt_y).trans y2
    replace y3 := (hb.cell (p := ⟨w.heap.size + 1, 3, none⟩) lt_y).trans y3
    replace y4 := (hb.cell (p := ⟨w.heap.size + 1, 4, none⟩) lt_y).trans y4
    replace y5 := (hb.cell (p := ⟨w.heap.size + 1, 5, none⟩) lt_y).trans y5
    replace lt_y : w.heap.size + 1 < w1.heap.size := Nat.lt_of_lt_of_le lt_y hb.size
    replace TA := Lib.hid (TA.out.up hb)
    replace TD := Lib.hid (TD.out.up hb)
    replace HW := Lib.hid (HW.out.trans (hb.mono HW.out.size))
    clear hb
    go_wp2_with fail
    refine (small_any d _ _ w1 (by exact TD.out) (Nat.le_refl _)).mono ?_
    rintro e w2 ⟨rfl, hb⟩
    rw [Sd.out]
    replace x0 := (hb.cell (p := ⟨w.heap.size, 0, none⟩) lt_x).trans x0
    replace x1 := (hb.cell (p := ⟨w.heap.size, 1, none⟩) lt_x).trans x1
    replace x2 := (hb.cell (p := ⟨w.heap.size, 2, none⟩) lt_x).trans x2
    replace x3 := (hb.cell (p := ⟨w.heap.size, 3, none⟩) lt_x).trans x3
    replace x4 := (hb.cell (p := ⟨w.heap.size, 4, none⟩) lt_x).trans x4
    replace x5 := (hb.cell (p := ⟨w.heap.size, 5, none⟩) lt_x).trans x5
    replace lt_x : w.heap.size < w2.heap.size := Nat.lt_of_lt_of_le lt_x hb.size
    replace y0 := (hb.cell (p := ⟨w.heap.size + 1, 0, none⟩) lt_y).trans y0
    replace y1 := (hb.cell (p := ⟨w.heap.size + 1, 1, none⟩) lt_y).trans y1
    replace y2 := (hb.cell (p := ⟨w.heap.size + 1, 2, none⟩) lt_y).trans y2
    replace y3 := (hb.cell (p := ⟨w.heap.size + 1, 3, none⟩) lt_y).trans y3
    replace y4 := (hb.cell (p := ⟨w.heap.size + 1, 4, none⟩) lt_y).trans y4
    replace y5 := (hb.cell (p := ⟨w.heap.size + 1, 5, none⟩) lt_y).trans y5
    replace lt_y : w.heap.size + 1 < w2.heap.size := Nat.lt_of_lt_of_le lt_y hb.size
    replace TA := Lib.hid (TA.out.up hb)
    replace TD := Lib.hid (TD.out.up hb)
    replace HW := Lib.hid (HW.out.trans (hb.mono HW.out.size))
    clear hb
    go_wp2_with fail
    refine (awake_any w2).mono ?_
    rintro e w3 ⟨rfl, hb⟩
    replace x0 := (hb.cell (p := ⟨w.heap.size, 0, none⟩) lt_x).trans x0
    replace x1 := (hb.cell (p := ⟨w.heap.size, 1, none⟩) lt_x).trans x1
    replace x2 := (hb.cell (p := ⟨w.heap.size, 2, none⟩) lt_x).trans x2
    replace x3 := (hb.cell (p := ⟨w.heap.size, 3, none⟩) lt_x).trans x3
    replace x4 := (hb.cell (p := ⟨w.heap.size, 4, none⟩) lt_x).trans x4
    replace x5 := (hb.cell (p := ⟨w.heap.size, 5, none⟩) lt_x).trans x5
    replace lt_x : w.heap.size < w3.heap.size := Nat.lt_of_lt_of_le lt_x hb.size
    replace y0 := (hb.cell (p := ⟨w.heap.size + 1, 0, none⟩) lt_y).trans y0
    replace y1 := (hb.cell (p := ⟨w.heap.size + 1, 1, none⟩) lt_y).trans y1
    replace y2 := (hb.cell (p := ⟨w.heap.size + 1, 2, none⟩) lt_y).trans y2
    replace y3 := (hb.cell (p := ⟨w.heap.size + 1, 3, none⟩) lt_y).trans y3
    replace y4 := (hb.cell (p := ⟨w.heap.size + 1, 4, none⟩) lt_y).trans y4
    replace y5 := (hb.cell (p := ⟨w.heap.size + 1, 5, none⟩) lt_y).trans y5
    replace lt_y : w.heap.size + 1 < w3.heap.size := Nat.lt_of_lt_of_le lt_y hb.size
    replace TA := Lib.hid (TA.out.up hb)
    replace TD := Lib.hid (TD.out.up hb)
    replace HW := Lib.hid (HW.out.trans (hb.mono HW.out.size))
    clear hb
    go_wp2_with fail
    go_ret
    exact ⟨rfl, HW.out⟩
  have dl1 : decide ((l.length : Int) > 100) = false := by simpa using h100
  obtain ⟨ce, hce⟩ : ∃ c, consE a d = c := ⟨_, rfl⟩
  obtain ⟨pc, hpc⟩ : ∃ c, consD a d = c := ⟨_, rfl⟩
  obtain ⟨pe, hpe⟩ : ∃ c, pairE d = c := ⟨_, rfl⟩
  obtain ⟨uc, huc⟩ : ∃ c, carD d = c := ⟨_, rfl⟩
  obtain ⟨xc, hxc⟩ : ∃ c, cdrD d = c := ⟨_, rfl⟩
  have l1 : alikeB (outD ce pc) (outD ce pc) = true := alike_out (fun h => by rw [← hpc]; exact cons_chk (hce.trans h))
  have l2 : alikeB (outD pe uc) (outD pe uc) = true := alike_out (fun h => by rw [← huc]; exact (halves_put (halves_take (hpe.trans h)).1).1)
  have l3 : alikeB (outD pe xc) (outD pe xc) = true := alike_out (fun h => by rw [← hxc]; exact (halves_put (halves_take (hpe.trans h)).1).2.1)
  obtain ⟨pd, hpd⟩ : ∃ c, outD ce pc = c := ⟨_, rfl⟩
  obtain ⟨ud, hud⟩ : ∃ c, outD pe uc = c := ⟨_, rfl⟩
  obtain ⟨xd, hxd⟩ : ∃ c, outD pe xc = c := ⟨_, rfl⟩
  obtain ⟨nd, hnd⟩ : ∃ c, listD l = c := ⟨_, rfl⟩
  obtain ⟨cn, hcn⟩ : ∃ c, chk nd = c := ⟨_, rfl⟩
  rw [hpd] at l1
  rw [hud] at l2
  rw [hxd] at l3
  have Ce := Lib.hid hce
  have Pc := Lib.hid hpc
  have Pe := Lib.hid hpe
  have Uc := Lib.hid huc
  have Xc := Lib.hid hxc
  have Pd := Lib.hid hpd
  have Ud := Lib.hid hud
  have Xd := Lib.hid hxd
  have Nd := Lib.hid hnd
  have Cn := Lib.hid hcn
  have L1 := Lib.hid l1
  have L2 := Lib.hid l2
  have L3 := Lib.hid l3
  have nK : (nd.K == 6) = true := by rw [← hnd]; rfl
  have nL : ((nd.L.length : Int) == (l.length : Int)) = true := by rw [← hnd]; simp [listD, Dt.L]
  have tok1 : True := trivial
  have tok2 : True := trivial
  have tok3 : True := trivial
  have e1 : (ce == ce) = true := by simp
  have e2 : (pe == pe) = true := by simp
  clear hce hpc hpe huc hxc hpd hud hxd hnd hcn l1 l2 l3 h100
  by_cases h0 : cn = 0
  · subst h0
    have Sm := Lib.hid (show (chk nd == 0 && eqD nd nd) = true by rw [eqD_refl, Cn.out]; rfl)
    have HW := Lib.hid (bel_refl w)
    go_enter Try.func6, Try.ntmps6
    go_wp2_with fail
    obtain ⟨hbX, hsX, hkX⟩ := start_allocs [(#[.int .i64 a.K, .int .i64 a.N, .string a.S, .slice am a.M.length acm, .slice al' a.L.length acl, .slice at' a.T.length act], 25), (#[.int .i64 d.K, .int .i64 d.N, .string d.S, .slice dm d.M.length dcm, .slice dl d.L.length dcl, .slice dt d.T.length dct], 25)] w
    have g0 := hkX 0 _ rfl
    have g1 := hkX 1 _ rfl
    set_option linter.unusedSimpArgs false in
    simp only [allocs, List.foldl_cons, List.foldl_nil, Nat.add_zero, List.length_cons, List.length_nil, Nat.zero_add, Nat.reduceAdd] at hbX hsX g0 g1
    clear hkX
    generalize (w.alloc (.cells #[.int .i64 a.K, .int .i64 a.N, .string a.S, .slice am a.M.length acm, .slice al' a.L.length acl, .slice at' a.T.length act] 25)).alloc (.cells #[.int .i64 d.K, .int .i64 d.N, .string d.S, .slice dm d.M.length dcm, .slice dl d.L.length dcl, .slice dt d.T.length dct] 25) = X0 at *
    have x0 : X0.cell? ⟨w.heap.size, 0, none⟩ = some (.int .i64 a.K) := (g0.cell 0).trans rfl
    have x1 : X0.cell? ⟨w.heap.size, 1, none⟩ = some (.int .i64 a.N) := (g0.cell 1).trans rfl
    have x2 : X0.cell? ⟨w.heap.size, 2, none⟩ = some (.string a.S) := (g0.cell 2).trans rfl
    have x3 : X0.cell? ⟨w.heap.size, 3, none⟩ = some (.slice am a.M.length acm) := (g0.cell 3).trans rfl
    have x4 : X0.cell? ⟨w.heap.size, 4, none⟩ = some (.slice al' a.L.length acl) := (g0.cell 4).trans rfl
    have x5 : X0.cell? ⟨w.heap.size, 5, none⟩ = some (.slice at' a.T.length act) := (g0.cell 5).trans rfl
    have lt_x : w.heap.size < X0.heap.size := by omega
    have y0 : X0.cell? ⟨w.heap.size + 1, 0, none⟩ = some (.int .i64 d.K) := (g1.cell 0).trans rfl
    have y1 : X0.cell? ⟨w.heap.size + 1, 1, none⟩ = some (.int .i64 d.N) := (g1.cell 1).trans rfl
    have y2 : X0.cell? ⟨w.heap.size + 1, 2, none⟩ = some (.string d.S) := (g1.cell 2).trans rfl
    have y3 : X0.cell? ⟨w.heap.size + 1, 3, none⟩ = some (.slice dm d.M.length dcm) := (g1.cell 3).trans rfl
    have y4 : X0.cell? ⟨w.heap.size + 1, 4, none⟩ = some (.slice dl d.L.length dcl) := (g1.cell 4).trans rfl
    have y5 : X0.cell? ⟨w.heap.size + 1, 5, none⟩ = some (.slice dt d.T.length dct) := (g1.cell 5).trans rfl
    have lt_y : w.heap.size + 1 < X0.heap.size := by omega
    clear g0 g1 hsX
    replace TA := Lib.hid (TA.out.up hbX)
    replace TD := Lib.hid (TD.out.up hbX)
    replace HW := Lib.hid (HW.out.trans (hbX.mono HW.out.size))
    clear hbX
    refine (awake_any X0).mono ?_
    rintro e w0 ⟨rfl, hb⟩
    replace x0 := (hb.cell (p := ⟨w.heap.size, 0, none⟩) lt_x).trans x0
    replace x1 := (hb.cell (p := ⟨w.heap.size, 1, none⟩) lt_x).trans x1
    replace x2 := (hb.cell (p := ⟨w.heap.size, 2, none⟩) lt_x).trans x2
    replace x3 := (hb.cell (p := ⟨w.heap.size, 3, none⟩) lt_x).trans x3
    replace x4 := (hb.cell (p := ⟨w.heap.size, 4, none⟩) lt_x).trans x4
    replace x5 := (hb.cell (p := ⟨w.heap.size, 5, none⟩) lt_x).trans x5
    replace lt_x : w.heap.size < w0.heap.size := Nat.lt_of_lt_of_le lt_x hb.size
    replace y0 := (hb.cell (p := ⟨w.heap.size + 1, 0, none⟩) lt_y).trans y0
    replace y1 := (hb.cell (p := ⟨w.heap.size + 1, 1, none⟩) lt_y).trans y1
    replace y2 := (hb.cell (p := ⟨w.heap.size + 1, 2, none⟩) lt_y).trans y2
    replace y3 := (hb.cell (p := ⟨w.heap.size + 1, 3, none⟩) lt_y).trans y3
    replace y4 := (hb.cell (p := ⟨w.heap.size + 1, 4, none⟩) lt_y).trans y4
    replace y5 := (hb.cell (p := ⟨w.heap.size + 1, 5, none⟩) lt_y).trans y5
    replace lt_y : w.heap.size + 1 < w0.heap.size := Nat.lt_of_lt_of_le lt_y hb.size
    replace TA := Lib.hid (TA.out.up hb)
    replace TD := Lib.hid (TD.out.up hb)
    replace HW := Lib.hid (HW.out.trans (hb.mono HW.out.size))
    clear hb
    go_wp2_with fail
    refine (small_any a _ _ w0 (by exact TA.out) (Nat.le_refl _)).mono ?_
    rintro e w1 ⟨rfl, hb⟩
    rw [Sa.out]
    replace x0 := (hb.cell (p := ⟨w.heap.size, 0, none⟩) lt_x).trans x0
    replace x1 := (hb.cell (p := ⟨w.heap.size, 1, none⟩) lt_x).trans x1
    replace x2 := (hb.cell (p := ⟨w.heap.size, 2, none⟩) lt_x).trans x2
    replace x3 := (hb.cell (p := ⟨w.heap.size, 3, none⟩) lt_x).trans x3
    replace x4 := (hb.cell (p := ⟨w.heap.size, 4, none⟩) lt_x).trans x4
    replace x5 := (hb.cell (p := ⟨w.heap.size, 5, none⟩) lt_x).trans x5
    replace lt_x : w.heap.size < w1.heap.size := Nat.lt_of_lt_of_le lt_x hb.size
    replace y0 := (hb.cell (p := ⟨w.heap.size + 1, 0, none⟩) lt_y).trans y0
    replace y1 := (hb.cell (p := ⟨w.heap.size + 1, 1, none⟩) lt_y).trans y1
    replace y2 := (hb.cell (p := ⟨w.heap.size + 1, 2, none⟩) lt_y).trans y2
    replace y3 := (hb.cell (p := ⟨w.heap.size + 1, 3, none⟩) lt_y).trans y3
    replace y4 := (hb.cell (p := ⟨w.heap.size + 1, 4, none⟩) lt_y).trans y4
    replace y5 := (hb.cell (p := ⟨w.heap.size + 1, 5, none⟩) lt_y).trans y5
    replace lt_y : w.heap.size + 1 < w1.heap.size := Nat.lt_of_lt_of_le lt_y hb.size
    replace TA := Lib.hid (TA.out.up hb)
    replace TD := Lib.hid (TD.out.up hb)
    replace HW := Lib.hid (HW.out.trans (hb.mono HW.out.size))
    clear hb
    go_wp2_with fail
    refine (small_any d _ _ w1 (by exact TD.out) (Nat.le_refl _)).mono ?_
    rintro e w2 ⟨rfl, hb⟩
    rw [Sd.out]
    replace x0 := (hb.cell (p := ⟨w.heap.size, 0, none⟩) lt_x).trans x0
    replace x1 := (hb.cell (p := ⟨w.heap.size, 1, none⟩) lt_x).trans x1
    replace x2 := (hb.cell (p := ⟨w.heap.size, 2, none⟩) lt_x).trans x2
    replace x3 := (hb.cell (p := ⟨w.heap.size, 3, none⟩) lt_x).trans x3
    replace x4 := (hb.cell (p := ⟨w.heap.size, 4, none⟩) lt_x).trans x4
    replace x5 := (hb.cell (p := ⟨w.heap.size, 5, none⟩) lt_x).trans x5
    replace lt_x : w.heap.size < w2.heap.size := Nat.lt_of_lt_of_le lt_x hb.size
    replace y0 := (hb.cell (p := ⟨w.heap.size + 1, 0, none⟩) lt_y).trans y0
    replace y1 := (hb.cell (p := ⟨w.heap.size + 1, 1, none⟩) lt_y).trans y1
    replace y2 := (hb.cell (p := ⟨w.heap.size + 1, 2, none⟩) lt_y).trans y2
    replace y3 := (hb.cell (p := ⟨w.heap.size + 1, 3, none⟩) lt_y).trans y3
    replace y4 := (hb.cell (p := ⟨w.heap.size + 1, 4, none⟩) lt_y).trans y4
    replace y5 := (hb.cell (p := ⟨w.heap.size + 1, 5, none⟩) lt_y).trans y5
    replace lt_y : w.heap.size + 1 < w2.heap.size := Nat.lt_of_lt_of_le lt_y hb.size
    replace TA := Lib.hid (TA.out.up hb)
    replace TD := Lib.hid (TD.out.up hb)
    replace HW := Lib.hid (HW.out.trans (hb.mono HW.out.size))
    clear hb
    go_wp2_with fail
    refine (cons_any a d _ _ _ w2 (by exact TA.out) (by exact TD.out) (Nat.le_refl _)).mono ?_
    rw [Ce.out, Pc.out]
    intro e w3 hr
    obtain ⟨v', rfl, hb, hi⟩ := hr.out_ (Nat.le_refl _)
    rw [Pd.out] at hi
    have hi2 := hi
    obtain ⟨pm, pcm, pl, pcl, pt, pct, rfl, _⟩ := hi2.open_
    have TP := Lib.hid hi
    clear hi hi2 hr
    replace x0 := (hb.cell (p := ⟨w.heap.size, 0, none⟩) lt_x).trans x0
    replace x1 := (hb.cell (p := ⟨w.heap.size, 1, none⟩) lt_x).trans x1
    replace x2 := (hb.cell (p := ⟨w.heap.size, 2, none⟩) lt_x).trans x2
    replace x3 := (hb.cell (p := ⟨w.heap.size, 3, none⟩) lt_x).trans x3
    replace x4 := (hb.cell (p := ⟨w.heap.size, 4, none⟩) lt_x).trans x4
    replace x5 := (hb.cell (p := ⟨w.heap.size, 5, none⟩) lt_x).trans x5
    replace lt_x : w.heap.size < w3.heap.size := Nat.lt_of_lt_of_le lt_x hb.size
    replace y0 := (hb.cell (p := ⟨w.heap.size + 1, 0, none⟩) lt_y).trans y0
    replace y1 := (hb.cell (p := ⟨w.heap.size + 1, 1, none⟩) lt_y).trans y1
    replace y2 := (hb.cell (p := ⟨w.heap.size + 1, 2, none⟩) lt_y).trans y2
    replace y3 := (hb.cell (p := ⟨w.heap.size + 1, 3, none⟩) lt_y).trans y3
    replace y4 := (hb.cell (p := ⟨w.heap.size + 1, 4, none⟩) lt_y).trans y4
    replace y5 := (hb.cell (p := ⟨w.heap.size + 1, 5, none⟩) lt_y).trans y5
    replace lt_y : w.heap.size + 1 < w3.heap.size := Nat.lt_of_lt_of_le lt_y hb.size
    replace TA := Lib.hid (TA.out.up hb)
    replace TD := Lib.hid (TD.out.up hb)
    replace HW := Lib.hid (HW.out.trans (hb.mono HW.out.size))
    clear hb
    go_wp2_with fail
    obtain ⟨hbX, hsX, hkX⟩ := start_allocs [(#[.int .i64 pd.K, .int .i64 pd.N, .string pd.S, .slice pm pd.M.length pcm, .slice pl pd.L.length pcl, .slice pt pd.T.length pct], 25)] w3
    have g0 := hkX 0 _ rfl
    set_option linter.unusedSimpArgs false in
    simp only [allocs, List.foldl_cons, List.foldl_nil, Nat.add_zero, List.length_cons, List.length_nil, Nat.zero_add, Nat.reduceAdd] at hbX hsX g0
    clear hkX
    generalize w3.alloc (.cells #[.int .i64 pd.K, .int .i64 pd.N, .string pd.S, .slice pm pd.M.length pcm, .slice pl pd.L.length pcl, .slice pt pd.T.length pct] 25) = X1 at *
    have p0 : X1.cell? ⟨w3.heap.size, 0, none⟩ = some (.int .i64 pd.K) := (g0.cell 0).trans rfl
    have p1 : X1.cell? ⟨w3.heap.size, 1, none⟩ = some (.int .i64 pd.N) := (g0.cell 1).trans rfl
    have p2 : X1.cell? ⟨w3.heap.size, 2, none⟩ = some (.string pd.S) := (g0.cell 2).trans rfl
    have p3 : X1.cell? ⟨w3.heap.size, 3, none⟩ = some (.slice pm pd.M.length pcm) := (g0.cell 3).trans rfl
    have p4 : X1.cell? ⟨w3.heap.size, 4, none⟩ = some (.slice pl pd.L.length pcl) := (g0.cell 4).trans rfl
    have p5 : X1.cell? ⟨w3.heap.size, 5, none⟩ = some (.slice pt pd.T.length pct) := (g0.cell 5).trans rfl
    have lt_p : w3.heap.size < X1.heap.size := by omega
    clear g0 hsX
    replace x0 := (hbX.cell (p := ⟨w.heap.size, 0, none⟩) lt_x).trans x0
    replace x1 := (hbX.cell (p := ⟨w.heap.size, 1, none⟩) lt_x).trans x1
    replace x2 := (hbX.cell (p := ⟨w.heap.size, 2, none⟩) lt_x).trans x2
    replace x3 := (hbX.cell (p := ⟨w.heap.size, 3, none⟩) lt_x).trans x3
    replace x4 := (hbX.cell (p := ⟨w.heap.size, 4, none⟩) lt_x).trans x4
    replace x5 := (hbX.cell (p := ⟨w.heap.size, 5, none⟩) lt_x).trans x5
    replace lt_x : w.heap.size < X1.heap.size := Nat.lt_of_lt_of_le lt_x hbX.size
    replace y0 := (hbX.cell (p := ⟨w.heap.size + 1, 0, none⟩) lt_y).trans y0
    replace y1 := (hbX.cell (p := ⟨w.heap.size + 1, 1, none⟩) lt_y).trans y1
    replace y2 := (hbX.cell (p := ⟨w.heap.size + 1, 2, none⟩) lt_y).trans y2
    replace y3 := (hbX.cell (p := ⟨w.heap.size + 1, 3, none⟩) lt_y).trans y3
    replace y4 := (hbX.cell (p := ⟨w.heap.size + 1, 4, none⟩) lt_y).trans y4
    replace y5 := (hbX.cell (p := ⟨w.heap.size + 1, 5, none⟩) lt_y).trans y5
    replace lt_y : w.heap.size + 1 < X1.heap.size := Nat.lt_of_lt_of_le lt_y hbX.size
    replace TA := Lib.hid (TA.out.up hbX)
    replace TD := Lib.hid (TD.out.up hbX)
    replace TP := Lib.hid (TP.out.up hbX)
    replace HW := Lib.hid (HW.out.trans (hbX.mono HW.out.size))
    clear hbX
    refine (rcons_any a d _ _ _ X1 (by exact TA.out) (by exact TD.out) (Nat.le_refl _)).mono ?_
    rw [Ce.out, Pc.out]
    intro e w4 hr
    obtain ⟨v', rfl, hb, hi⟩ := hr.out_ (Nat.le_refl _)
    rw [Pd.out] at hi
    have hi2 := hi
    obtain ⟨qm, qcm, ql, qcl, qt, qct, rfl, _⟩ := hi2.open_
    have TQ := Lib.hid hi
    clear hi hi2 hr
    replace x0 := (hb.cell (p := ⟨w.heap.size, 0, none⟩) lt_x).trans x0
    replace x1 := (hb.cell (p := ⟨w.heap.size, 1, none⟩) lt_x).trans x1
    replace x2 := (hb.cell (p := ⟨w.heap.size, 2, none⟩) lt_x).trans x2
    replace x3 := (hb.cell (p := ⟨w.heap.size, 3, none⟩) lt_x).trans x3
    replace x4 := (hb.cell (p := ⟨w.heap.size, 4, none⟩) lt_x).trans x4
    replace x5 := (hb.cell (p := ⟨w.heap.size, 5, none⟩) lt_x).trans x5
    replace lt_x : w.heap.size < w4.heap.size := Nat.lt_of_lt_of_le lt_x hb.size
    replace y0 := (hb.cell (p := ⟨w.heap.size + 1, 0, none⟩) lt_y).trans y0
    replace y1 := (hb.cell (p := ⟨w.heap.size + 1, 1, none⟩) lt_y).trans y1
    replace y2 := (hb.cell (p := ⟨w.heap.size + 1, 2, none⟩) lt_y).trans y2
    replace y3 := (hb.cell (p := ⟨w.heap.size + 1, 3, none⟩) lt_y).trans y3
    replace y4 := (hb.cell (p := ⟨w.heap.size + 1, 4, none⟩) lt_y).trans y4
    replace y5 := (hb.cell (p := ⟨w.heap.size + 1, 5, none⟩) lt_y).trans y5
    replace lt_y : w.heap.size + 1 < w4.heap.size := Nat.lt_of_lt_of_le lt_y hb.size
    replace p0 := (hb.cell (p := ⟨w3.heap.size, 0, none⟩) lt_p).trans p0
    replace p1 := (hb.cell (p := ⟨w3.heap.size, 1, none⟩) lt_p).trans p1
    replace p2 := (hb.cell (p := ⟨w3.heap.size, 2, none⟩) lt_p).trans p2
    replace p3 := (hb.cell (p := ⟨w3.heap.size, 3, none⟩) lt_p).trans p3
    replace p4 := (hb.cell (p := ⟨w3.heap.size, 4, none⟩) lt_p).trans p4
    replace p5 := (hb.cell (p := ⟨w3.heap.size, 5, none⟩) lt_p).trans p5
    replace lt_p : w3.heap.size < w4.heap.size := Nat.lt_of_lt_of_le lt_p hb.size
    replace TA := Lib.hid (TA.out.up hb)
    replace TD := Lib.hid (TD.out.up hb)
    replace TP := Lib.hid (TP.out.up hb)
    replace HW := Lib.hid (HW.out.trans (hb.mono HW.out.size))
    clear hb
    go_wp2_with fail
    obtain ⟨hbX, hsX, hkX⟩ := start_allocs [(#[.int .i64 pd.K, .int .i64 pd.N, .string pd.S, .slice qm pd.M.length qcm, .slice ql pd.L.length qcl, .slice qt pd.T.length qct], 25)] w4
    have g0 := hkX 0 _ rfl
    set_option linter.unusedSimpArgs false in
    simp only [allocs, List.foldl_cons, List.foldl_nil, Nat.add_zero, List.length_cons, List.length_nil, Nat.zero_add, Nat.reduceAdd] at hbX hsX g0
    clear hkX
    generalize w4.alloc (.cells #[.int .i64 pd.K, .int .i64 pd.N, .string pd.S, .slice qm pd.M.length qcm, .slice ql pd.L.length qcl, .slice qt pd.T.length qct] 25) = X2 at *
    have q0 : X2.cell? ⟨w4.heap.size, 0, none⟩ = some (.int .i64 pd.K) := (g0.cell 0).trans rfl
    have q1 : X2.cell? ⟨w4.heap.size, 1, none⟩ = some (.int .i64 pd.N) := (g0.cell 1).trans rfl
    have q2 : X2.cell? ⟨w4.heap.size, 2, none⟩ = some (.string pd.S) := (g0.cell 2).trans rfl
    have q3 : X2.cell? ⟨w4.heap.size, 3, none⟩ = some (.slice qm pd.M.length qcm) := (g0.cell 3).trans rfl
    have q4 : X2.cell? ⟨w4.heap.size, 4, none⟩ = some (.slice ql pd.L.length qcl) := (g0.cell 4).trans rfl
    have q5 : X2.cell? ⟨w4.heap.size, 5, none⟩ = some (.slice qt pd.T.length qct) := (g0.cell 5).trans rfl
    have lt_q : w4.heap.size < X2.heap.size := by omega
    clear g0 hsX
    replace x0 := (hbX.cell (p := ⟨w.heap.size, 0, none⟩) lt_x).trans x0
    replace x1 := (hbX.cell (p := ⟨w.heap.size, 1, none⟩) lt_x).trans x1
    replace x2 := (hbX.cell (p := ⟨w.heap.size, 2, none⟩) lt_x).trans x2
    replace x3 := (hbX.cell (p := ⟨w.heap.size, 3, none⟩) lt_x).trans x3
    replace x4 := (hbX.cell (p := ⟨w.heap.size, 4, none⟩) lt_x).trans x4
    replace x5 := (hbX.cell (p := ⟨w.heap.size, 5, none⟩) lt_x).trans x5
    replace lt_x : w.heap.size < X2.heap.size := Nat.lt_of_lt_of_le lt_x hbX.size
    replace y0 := (hbX.cell (p := ⟨w.heap.size + 1, 0, none⟩) lt_y).trans y0
    replace y1 := (hbX.cell (p := ⟨w.heap.size + 1, 1, none⟩) lt_y).trans y1
    replace y2 := (hbX.cell (p := ⟨w.heap.size + 1, 2, none⟩) lt_y).trans y2
    replace y3 := (hbX.cell (p := ⟨w.heap.size + 1, 3, none⟩) lt_y).trans y3
    replace y4 := (hbX.cell (p := ⟨w.heap.size + 1, 4, none⟩) lt_y).trans y4
    replace y5 := (hbX.cell (p := ⟨w.heap.size + 1, 5, none⟩) lt_y).trans y5
    replace lt_y : w.heap.size + 1 < X2.heap.size := Nat.lt_of_lt_of_le lt_y hbX.size
    replace p0 := (hbX.cell (p := ⟨w3.heap.size, 0, none⟩) lt_p).trans p0
    replace p1 := (hbX.cell (p := ⟨w3.heap.size, 1, none⟩) lt_p).trans p1
    replace p2 := (hbX.cell (p := ⟨w3.heap.size, 2, none⟩) lt_p).trans p2
    replace p3 := (hbX.cell (p := ⟨w3.heap.size, 3, none⟩) lt_p).trans p3
    replace p4 := (hbX.cell (p := ⟨w3.heap.size, 4, none⟩) lt_p).trans p4
    replace p5 := (hbX.cell (p := ⟨w3.heap.size, 5, none⟩) lt_p).trans p5
    replace lt_p : w3.heap.size < X2.heap.size := Nat.lt_of_lt_of_le lt_p hbX.size
    replace TA := Lib.hid (TA.out.up hbX)
    replace TD := Lib.hid (TD.out.up hbX)
    replace TP := Lib.hid (TP.out.up hbX)
    replace TQ := Lib.hid (TQ.out.up hbX)
    replace HW := Lib.hid (HW.out.trans (hbX.mono HW.out.size))
    clear hbX
    refine (car_any d _ _ X2 (by exact TD.out) (Nat.le_refl _)).mono ?_
    rw [Pe.out, Uc.out]
    intro e w5 hr
    obtain ⟨v', rfl, hb, hi⟩ := hr.out_ (Nat.le_refl _)
    rw [Ud.out] at hi
    have hi2 := hi
    obtain ⟨um, ucm, ul, ucl, ut, uct, rfl, _⟩ := hi2.open_
    have TU := Lib.hid hi
    clear hi hi2 hr
    replace x0 := (hb.cell (p := ⟨w.heap.size, 0, none⟩) lt_x).trans x0
    replace x1 := (hb.cell (p := ⟨w.heap.size, 1, none⟩) lt_x).trans x1
    replace x2 := (hb.cell (p := ⟨w.heap.size, 2, none⟩) lt_x).trans x2
    replace x3 := (hb.cell (p := ⟨w.heap.size, 3, none⟩) lt_x).trans x3
    replace x4 := (hb.cell (p := ⟨w.heap.size, 4, none⟩) lt_x).trans x4
    replace x5 := (hb.cell (p := ⟨w.heap.size, 5, none⟩) lt_x).trans x5
    replace lt_x : w.heap.size < w5.heap.size := Nat.lt_of_lt_of_le lt_x hb.size
    replace y0 := (hb.cell (p := ⟨w.heap.size + 1, 0, none⟩) lt_y).trans y0
    replace y1 := (hb.cell (p := ⟨w.heap.size + 1, 1, none⟩) lt_y).trans y1
    replace y2 := (hb.cell (p := ⟨w.heap.size + 1, 2, none⟩) lt_y).trans y2
    replace y3 := (hb.cell (p := ⟨w.heap.size + 1, 3, none⟩) lt_y).trans y3
    replace y4 := (hb.cell (p := ⟨w.heap.size + 1, 4, none⟩) lt_y).trans y4
    replace y5 := (hb.cell (p := ⟨w.heap.size + 1, 5, none⟩) lt_y).trans y5
    replace lt_y : w.heap.size + 1 < w5.heap.size := Nat.lt_of_lt_of_le lt_y hb.size
    replace p0 := (hb.cell (p := ⟨w3.heap.size, 0, none⟩) lt_p).trans p0
    replace p1 := (hb.cell (p := ⟨w3.heap.size, 1, none⟩) lt_p).trans p1
    replace p2 := (hb.cell (p := ⟨w3.heap.size, 2, none⟩) lt_p).trans p2
    replace p3 := (hb.cell (p := ⟨w3.heap.size, 3, none⟩) lt_p).trans p3
    replace p4 := (hb.cell (p := ⟨w3.heap.size, 4, none⟩) lt_p).trans p4
    replace p5 := (hb.cell (p := ⟨w3.heap.size, 5, none⟩) lt_p).trans p5
    replace lt_p : w3.heap.size < w5.heap.size := Nat.lt_of_lt_of_le lt_p hb.size
    replace q0 := (hb.cell (p := ⟨w4.heap.size, 0, none⟩) lt_q).trans q0
    replace q1 := (hb.cell (p := ⟨w4.heap.size, 1, none⟩) lt_q).trans q1
    replace q2 := (hb.cell (p := ⟨w4.heap.size, 2, none⟩) lt_q).trans q2
    replace q3 := (hb.cell (p := ⟨w4.heap.size, 3, none⟩) lt_q).trans q3
    replace q4 := (hb.cell (p := ⟨w4.heap.size, 4, none⟩) lt_q).trans q4
    replace q5 := (hb.cell (p := ⟨w4.heap.size, 5, none⟩) lt_q).trans q5
    replace lt_q : w4.heap.size < w5.heap.size := Nat.lt_of_lt_of_le lt_q hb.size
    replace TA := Lib.hid (TA.out.up hb)
    replace TD := Lib.hid (TD.out.up hb)
    replace TP := Lib.hid (TP.out.up hb)
    replace TQ := Lib.hid (TQ.out.up hb)
    replace HW := Lib.hid (HW.out.trans (hb.mono HW.out.size))
    clear hb
    go_wp2_with fail
    obtain ⟨hbX, hsX, hkX⟩ := start_allocs [(#[.int .i64 ud.K, .int .i64 ud.N, .string ud.S, .slice um ud.M.length ucm, .slice ul ud.L.length ucl, .slice ut ud.T.length uct], 25)] w5
    have g0 := hkX 0 _ rfl
    set_option linter.unusedSimpArgs false in
    simp only [allocs, List.foldl_cons, List.foldl_nil, Nat.add_zero, List.length_cons, List.length_nil, Nat.zero_add, Nat.reduceAdd] at hbX hsX g0
    clear hkX
    generalize w5.alloc (.cells #[.int .i64 ud.K, .int .i64 ud.N, .string ud.S, .slice um ud.M.length ucm, .slice ul ud.L.length ucl, .slice ut ud.T.length uct] 25) = X3 at *
    have u0 : X3.cell? ⟨w5.heap.size, 0, none⟩ = some (.int .i64 ud.K) := (g0.cell 0).trans rfl
    have u1 : X3.cell? ⟨w5.heap.size, 1, none⟩ = some (.int .i64 ud.N) := (g0.cell 1).trans rfl
    have u2 : X3.cell? ⟨w5.heap.size, 2, none⟩ = some (.string ud.S) := (g0.cell 2).trans rfl
    have u3 : X3.cell? ⟨w5.heap.size, 3, none⟩ = some (.slice um ud.M.length ucm) := (g0.cell 3).trans rfl
    have u4 : X3.cell? ⟨w5.heap.size, 4, none⟩ = some (.slice ul ud.L.length ucl) := (g0.cell 4).trans rfl
    have u5 : X3.cell? ⟨w5.heap.size, 5, none⟩ = some (.slice ut ud.T.length uct) := (g0.cell 5).trans rfl
    have lt_u : w5.heap.size < X3.heap.size := by omega
    clear g0 hsX
    replace x0 := (hbX.cell (p := ⟨w.heap.size, 0, none⟩) lt_x).trans x0
    replace x1 := (hbX.cell (p := ⟨w.heap.size, 1, none⟩) lt_x).trans x1
    replace x2 := (hbX.cell (p := ⟨w.heap.size, 2, none⟩) lt_x).trans x2
    replace x3 := (hbX.cell (p := ⟨w.heap.size, 3, none⟩) lt_x).trans x3
    replace x4 := (hbX.cell (p := ⟨w.heap.size, 4, none⟩) lt_x).trans x4
    replace x5 := (hbX.cell (p := ⟨w.heap.size, 5, none⟩) lt_x).trans x5
    replace lt_x : w.heap.size < X3.heap.size := Nat.lt_of_lt_of_le lt_x hbX.size
    replace y0 := (hbX.cell (p := ⟨w.heap.size + 1, 0, none⟩) lt_y).trans y0
    replace y1 := (hbX.cell (p := ⟨w.heap.size + 1, 1, none⟩) lt_y).trans y1
    replace y2 := (hbX.cell (p := ⟨w.heap.size + 1, 2, none⟩) lt_y).trans y2
    replace y3 := (hbX.cell (p := ⟨w.heap.size + 1, 3, none⟩) lt_y).trans y3
    replace y4 := (hbX.cell (p := ⟨w.heap.size + 1, 4, none⟩) lt_y).trans y4
    replace y5 := (hbX.cell (p := ⟨w.heap.size + 1, 5, none⟩) lt_y).trans y5
    replace lt_y : w.heap.size + 1 < X3.heap.size := Nat.lt_of_lt_of_le lt_y hbX.size
    replace p0 := (hbX.cell (p := ⟨w3.heap.size, 0, none⟩) lt_p).trans p0
    replace p1 := (hbX.cell (p := ⟨w3.heap.size, 1, none⟩) lt_p).trans p1
    replace p2 := (hbX.cell (p := ⟨w3.heap.size, 2, none⟩) lt_p).trans p2
    replace p3 := (hbX.cell (p := ⟨w3.heap.size, 3, none⟩) lt_p).trans p3
    replace p4 := (hbX.cell (p := ⟨w3.heap.size, 4, none⟩) lt_p).trans p4
    replace p5 := (hbX.cell (p := ⟨w3.heap.size, 5, none⟩) lt_p).trans p5
    replace lt_p : w3.heap.size < X3.heap.size := Nat.lt_of_lt_of_le lt_p hbX.size
    replace q0 := (hbX.cell (p := ⟨w4.heap.size, 0, none⟩) lt_q).trans q0
    replace q1 := (hbX.cell (p := ⟨w4.heap.size, 1, none⟩) lt_q).trans q1
    replace q2 := (hbX.cell (p := ⟨w4.heap.size, 2, none⟩) lt_q).trans q2
    replace q3 := (hbX.cell (p := ⟨w4.heap.size, 3, none⟩) lt_q).trans q3
    replace q4 := (hbX.cell (p := ⟨w4.heap.size, 4, none⟩) lt_q).trans q4
    replace q5 := (hbX.cell (p := ⟨w4.heap.size, 5, none⟩) lt_q).trans q5
    replace lt_q : w4.heap.size < X3.heap.size := Nat.lt_of_lt_of_le lt_q hbX.size
    replace TA := Lib.hid (TA.out.up hbX)
    replace TD := Lib.hid (TD.out.up hbX)
    replace TP := Lib.hid (TP.out.up hbX)
    replace TQ := Lib.hid (TQ.out.up hbX)
    replace TU := Lib.hid (TU.out.up hbX)
    replace HW := Lib.hid (HW.out.trans (hbX.mono HW.out.size))
    clear hbX
    refine (rcar_any d _ _ X3 (by exact TD.out) (Nat.le_refl _)).mono ?_
    rw [Pe.out, Uc.out]
    intro e w6 hr
    obtain ⟨v', rfl, hb, hi⟩ := hr.out_ (Nat.le_refl _)
    rw [Ud.out] at hi
    have hi2 := hi
    obtain ⟨vm, vcm, vl, vcl, vt, vct, rfl, _⟩ := hi2.open_
    have TV := Lib.hid hi
    clear hi hi2 hr
    replace x0 := (hb.cell (p := ⟨w.heap.size, 0, none⟩) lt_x).trans x0
    replace x1 := (hb.cell (p := ⟨w.heap.size, 1, none⟩) lt_x).trans x1
    replace x2 := (hb.cell (p := ⟨w.heap.size, 2, none⟩) lt_x).trans x2
    replace x3 := (hb.cell (p := ⟨w.heap.size, 3, none⟩) lt_x).trans x3
    replace x4 := (hb.cell (p := ⟨w.heap.size, 4, none⟩) lt_x).trans x4
    replace x5 := (hb.cell (p := ⟨w.heap.size, 5, none⟩) lt_x).trans x5
    replace lt_x : w.heap.size < w6.heap.size := Nat.lt_of_lt_of_le lt_x hb.size
    replace y0 := (hb.cell (p := ⟨w.heap.size + 1, 0, none⟩) lt_y).trans y0
    replace y1 := (hb.cell (p := ⟨w.heap.size + 1, 1, none⟩) lt_y).trans y1
    replace y2 := (hb.cell (p := ⟨w.heap.size + 1, 2, none⟩) lt_y).trans y2
    replace y3 := (hb.cell (p := ⟨w.heap.size + 1, 3, none⟩) lt_y).trans y3
    replace y4 := (hb.cell (p := ⟨w.heap.size + 1, 4, none⟩) lt_y).trans y4
    replace y5 := (hb.cell (p := ⟨w.heap.size + 1, 5, none⟩) lt_y).trans y5
    replace lt_y : w.heap.size + 1 < w6.heap.size := Nat.lt_of_lt_of_le lt_y hb.size
    replace p0 := (hb.cell (p := ⟨w3.heap.size, 0, none⟩) lt_p).trans p0
    replace p1 := (hb.cell (p := ⟨w3.heap.size, 1, none⟩) lt_p).trans p1
    replace p2 := (hb.cell (p := ⟨w3.heap.size, 2, none⟩) lt_p).trans p2
    replace p3 := (hb.cell (p := ⟨w3.heap.size, 3, none⟩) lt_p).trans p3
    replace p4 := (hb.cell (p := ⟨w3.heap.size, 4, none⟩) lt_p).trans p4
    replace p5 := (hb.cell (p := ⟨w3.heap.size, 5, none⟩) lt_p).trans p5
    replace lt_p : w3.heap.size < w6.heap.size := Nat.lt_of_lt_of_le lt_p hb.size
    replace q0 := (hb.cell (p := ⟨w4.heap.size, 0, none⟩) lt_q).trans q0
    replace q1 := (hb.cell (p := ⟨w4.heap.size, 1, none⟩) lt_q).trans q1
    replace q2 := (hb.cell (p := ⟨w4.heap.size, 2, none⟩) lt_q).trans q2
    replace q3 := (hb.cell (p := ⟨w4.heap.size, 3, none⟩) lt_q).trans q3
    replace q4 := (hb.cell (p := ⟨w4.heap.size, 4, none⟩) lt_q).trans q4
    replace q5 := (hb.cell (p := ⟨w4.heap.size, 5, none⟩) lt_q).trans q5
    replace lt_q : w4.heap.size < w6.heap.size := Nat.lt_of_lt_of_le lt_q hb.size
    replace u0 := (hb.cell (p := ⟨w5.heap.size, 0, none⟩) lt_u).trans u0
    replace u1 := (hb.cell (p := ⟨w5.heap.size, 1, none⟩) lt_u).trans u1
    replace u2 := (hb.cell (p := ⟨w5.heap.size, 2, none⟩) lt_u).trans u2
    replace u3 := (hb.cell (p := ⟨w5.heap.size, 3, none⟩) lt_u).trans u3
    replace u4 := (hb.cell (p := ⟨w5.heap.size, 4, none⟩) lt_u).trans u4
    replace u5 := (hb.cell (p := ⟨w5.heap.size, 5, none⟩) lt_u).trans u5
    replace lt_u : w5.heap.size < w6.heap.size := Nat.lt_of_lt_of_le lt_u hb.size
    replace TA := Lib.hid (TA.out.up hb)
    replace TD := Lib.hid (TD.out.up hb)
    replace TP := Lib.hid (TP.out.up hb)
    replace TQ := Lib.hid (TQ.out.up hb)
    replace TU := Lib.hid (TU.out.up hb)
    replace HW := Lib.hid (HW.out.trans (hb.mono HW.out.size))
    clear hb
    go_wp2_with fail
    obtain ⟨hbX, hsX, hkX⟩ := start_allocs [(#[.int .i64 ud.K, .int .i64 ud.N, .string ud.S, .slice vm ud.M.length vcm, .slice vl ud.L.length vcl, .slice vt ud.T.length vct], 25)] w6
    have g0 := hkX 0 _ rfl
    set_option linter.unusedSimpArgs false in
    simp only [allocs, List.foldl_cons, List.foldl_nil, Nat.add_zero, List.length_cons, List.length_nil, Nat.zero_add, Nat.reduceAdd] at hbX hsX g0
    clear hkX
    generalize w6.alloc (.cells #[.int .i64 ud.K, .int .i64 ud.N, .string ud.S, .slice vm ud.M.length vcm, .slice vl ud.L.length vcl, .slice vt ud.T.length vct] 25) = X4 at *
    have v0 : X4.cell? ⟨w6.heap.size, 0, none⟩ = some (.int .i64 ud.K) := (g0.cell 0).trans rfl
    have v1 : X4.cell? ⟨w6.heap.size, 1, none⟩ = some (.int .i64 ud.N) := (g0.cell 1).trans rfl
    have v2 : X4.cell? ⟨w6.heap.size, 2, none⟩ = some (.string ud.S) := (g0.cell 2).trans rfl
    have v3 : X4.cell? ⟨w6.heap.size, 3, none⟩ = some (.slice vm ud.M.length vcm) := (g0.cell 3).trans rfl
    have v4 : X4.cell? ⟨w6.heap.size, 4, none⟩ = some (.slice vl ud.L.length vcl) := (g0.cell 4).trans rfl
    have v5 : X4.cell? ⟨w6.heap.size, 5, none⟩ = some (.slice vt ud.T.length vct) := (g0.cell 5).trans rfl
    have lt_v : w6.heap.size < X4.heap.size := by omega
    clear g0 hsX
    replace x0 := (hbX.cell (p := ⟨w.heap.size, 0, none⟩) lt_x).trans x0
    replace x1 := (hbX.cell (p := ⟨w.heap.size, 1, none⟩) lt_x).trans x1
    replace x2 := (hbX.cell (p := ⟨w.heap.size, 2, none⟩) lt_x).trans x2
    replace x3 := (hbX.cell (p := ⟨w.heap.size, 3, none⟩) lt_x).trans x3
    replace x4 := (hbX.cell (p := ⟨w.heap.size, 4, none⟩) lt_x).trans x4
    replace x5 := (hbX.cell (p := ⟨w.heap.size, 5, none⟩) lt_x).trans x5
    replace lt_x : w.heap.size < X4.heap.size := Nat.lt_of_lt_of_le lt_x hbX.size
    replace y0 := (hbX.cell (p := ⟨w.heap.size + 1, 0, none⟩) lt_y).trans y0
    replace y1 := (hbX.cell (p := ⟨w.heap.size + 1, 1, none⟩) lt_y).trans y1
    replace y2 := (hbX.cell (p := ⟨w.heap.size + 1, 2, none⟩) lt_y).trans y2
    replace y3 := (hbX.cell (p := ⟨w.heap.size + 1, 3, none⟩) lt_y).trans y3
    replace y4 := (hbX.cell (p := ⟨w.heap.size + 1, 4, none⟩) lt_y).trans y4
    replace y5 := (hbX.cell (p := ⟨w.heap.size + 1, 5, none⟩) lt_y).trans y5
    replace lt_y : w.heap.size + 1 < X4.heap.size := Nat.lt_of_lt_of_le lt_y hbX.size
    replace p0 := (hbX.cell (p := ⟨w3.heap.size, 0, none⟩) lt_p).trans p0
    replace p1 := (hbX.cell (p := ⟨w3.heap.size, 1, none⟩) lt_p).trans p1
    replace p2 := (hbX.cell (p := ⟨w3.heap.size, 2, none⟩) lt_p).trans p2
    replace p3 := (hbX.cell (p := ⟨w3.heap.size, 3, none⟩) lt_p).trans p3
    replace p4 := (hbX.cell (p := ⟨w3.heap.size, 4, none⟩) lt_p).trans p4
    replace p5 := (hbX.cell (p := ⟨w3.heap.size, 5, none⟩) lt_p).trans p5
    replace lt_p : w3.heap.size < X4.heap.size := Nat.lt_of_lt_of_le lt_p hbX.size
    replace q0 := (hbX.cell (p := ⟨w4.heap.size, 0, none⟩) lt_q).trans q0
    replace q1 := (hbX.cell (p := ⟨w4.heap.size, 1, none⟩) lt_q).trans q1
    replace q2 := (hbX.cell (p := ⟨w4.heap.size, 2, none⟩) lt_q).trans q2
    replace q3 := (hbX.cell (p := ⟨w4.heap.size, 3, none⟩) lt_q).trans q3
    replace q4 := (hbX.cell (p := ⟨w4.heap.size, 4, none⟩) lt_q).trans q4
    replace q5 := (hbX.cell (p := ⟨w4.heap.size, 5, none⟩) lt_q).trans q5
    replace lt_q : w4.heap.size < X4.heap.size := Nat.lt_of_lt_of_le lt_q hbX.size
    replace u0 := (hbX.cell (p := ⟨w5.heap.size, 0, none⟩) lt_u).trans u0
    replace u1 := (hbX.cell (p := ⟨w5.heap.size, 1, none⟩) lt_u).trans u1
    replace u2 := (hbX.cell (p := ⟨w5.heap.size, 2, none⟩) lt_u).trans u2
    replace u3 := (hbX.cell (p := ⟨w5.heap.size, 3, none⟩) lt_u).trans u3
    replace u4 := (hbX.cell (p := ⟨w5.heap.size, 4, none⟩) lt_u).trans u4
    replace u5 := (hbX.cell (p := ⟨w5.heap.size, 5, none⟩) lt_u).trans u5
    replace lt_u : w5.heap.size < X4.heap.size := Nat.lt_of_lt_of_le lt_u hbX.size
    replace TA := Lib.hid (TA.out.up hbX)
    replace TD := Lib.hid (TD.out.up hbX)
    replace TP := Lib.hid (TP.out.up hbX)
    replace TQ := Lib.hid (TQ.out.up hbX)
    replace TU := Lib.hid (TU.out.up hbX)
    replace TV := Lib.hid (TV.out.up hbX)
    replace HW := Lib.hid (HW.out.trans (hbX.mono HW.out.size))
    clear hbX
    refine (cdr_any d _ _ X4 (by exact TD.out) (Nat.le_refl _)).mono ?_
    rw [Pe.out, Xc.out]
    intro e w7 hr
    obtain ⟨v', rfl, hb, hi⟩ := hr.out_ (Nat.le_refl _)
    rw [Xd.out] at hi
    have hi2 := hi
    obtain ⟨sm, scm, sl, scl, st, sct, rfl, _⟩ := hi2.open_
    have TS := Lib.hid hi
    clear hi hi2 hr
    replace x0 := (hb.cell (p := ⟨w.heap.size, 0, none⟩) lt_x).trans x0
    replace x1 := (hb.cell (p := ⟨w.heap.size, 1, none⟩) lt_x).trans x1
    replace x2 := (hb.cell (p := ⟨w.heap.size, 2, none⟩) lt_x).trans x2
    replace x3 := (hb.cell (p := ⟨w.heap.size, 3, none⟩) lt_x).trans x3
    replace x4 := (hb.cell (p := ⟨w.heap.size, 4, none⟩) lt_x).trans x4
    replace x5 := (hb.cell (p := ⟨w.heap.size, 5, none⟩) lt_x).trans x5
    replace lt_x : w.heap.size < w7.heap.size := Nat.lt_of_lt_of_le lt_x hb.size
    replace y0 := (hb.cell (p := ⟨w.heap.size + 1, 0, none⟩) lt_y).trans y0
    replace y1 := (hb.cell (p := ⟨w.heap.size + 1, 1, none⟩) lt_y).trans y1
    replace y2 := (hb.cell (p := ⟨w.heap.size + 1, 2, none⟩) lt_y).trans y2
    replace y3 := (hb.cell (p := ⟨w.heap.size + 1, 3, none⟩) lt_y).trans y3
    replace y4 := (hb.cell (p := ⟨w.heap.size + 1, 4, none⟩) lt_y).trans y4
    replace y5 := (hb.cell (p := ⟨w.heap.size + 1, 5, none⟩) lt_y).trans y5
    replace lt_y : w.heap.size + 1 < w7.heap.size := Nat.lt_of_lt_of_le lt_y hb.size
    replace p0 := (hb.cell (p := ⟨w3.heap.size, 0, none⟩) lt_p).trans p0
    replace p1 := (hb.cell (p := ⟨w3.heap.size, 1, none⟩) lt_p).trans p1
    replace p2 := (hb.cell (p := ⟨w3.heap.size, 2, none⟩) lt_p).trans p2
    replace p3 := (hb.cell (p := ⟨w3.heap.size, 3, none⟩) lt_p).trans p3
    replace p4 := (hb.cell (p := ⟨w3.heap.size, 4, none⟩) lt_p).trans p4
    replace p5 := (hb.cell (p := ⟨w3.heap.size, 5, none⟩) lt_p).trans p5
    replace lt_p : w3.heap.size < w7.heap.size := Nat.lt_of_lt_of_le lt_p hb.size
    replace q0 := (hb.cell (p := ⟨w4.heap.size, 0, none⟩) lt_q).trans q0
    replace q1 := (hb.cell (p := ⟨w4.heap.size, 1, none⟩) lt_q).trans q1
    replace q2 := (hb.cell (p := ⟨w4.heap.size, 2, none⟩) lt_q).trans q2
    replace q3 := (hb.cell (p := ⟨w4.heap.size, 3, none⟩) lt_q).trans q3
    replace q4 := (hb.cell (p := ⟨w4.heap.size, 4, none⟩) lt_q).trans q4
    replace q5 := (hb.cell (p := ⟨w4.heap.size, 5, none⟩) lt_q).trans q5
    replace lt_q : w4.heap.size < w7.heap.size := Nat.lt_of_lt_of_le lt_q hb.size
    replace u0 := (hb.cell (p := ⟨w5.heap.size, 0, none⟩) lt_u).trans u0
    replace u1 := (hb.cell (p := ⟨w5.heap.size, 1, none⟩) lt_u).trans u1
    replace u2 := (hb.cell (p := ⟨w5.heap.size, 2, none⟩) lt_u).trans u2
    replace u3 := (hb.cell (p := ⟨w5.heap.size, 3, none⟩) lt_u).trans u3
    replace u4 := (hb.cell (p := ⟨w5.heap.size, 4, none⟩) lt_u).trans u4
    replace u5 := (hb.cell (p := ⟨w5.heap.size, 5, none⟩) lt_u).trans u5
    replace lt_u : w5.heap.size < w7.heap.size := Nat.lt_of_lt_of_le lt_u hb.size
    replace v0 := (hb.cell (p := ⟨w6.heap.size, 0, none⟩) lt_v).trans v0
    replace v1 := (hb.cell (p := ⟨w6.heap.size, 1, none⟩) lt_v).trans v1
    replace v2 := (hb.cell (p := ⟨w6.heap.size, 2, none⟩) lt_v).trans v2
    replace v3 := (hb.cell (p := ⟨w6.heap.size, 3, none⟩) lt_v).trans v3
    replace v4 := (hb.cell (p := ⟨w6.heap.size, 4, none⟩) lt_v).trans v4
    replace v5 := (hb.cell (p := ⟨w6.heap.size, 5, none⟩) lt_v).trans v5
    replace lt_v : w6.heap.size < w7.heap.size := Nat.lt_of_lt_of_le lt_v hb.size
    replace TA := Lib.hid (TA.out.up hb)
    replace TD := Lib.hid (TD.out.up hb)
    replace TP := Lib.hid (TP.out.up hb)
    replace TQ := Lib.hid (TQ.out.up hb)
    replace TU := Lib.hid (TU.out.up hb)
    replace TV := Lib.hid (TV.out.up hb)
    replace HW := Lib.hid (HW.out.trans (hb.mono HW.out.size))
    clear hb
    go_wp2_with fail
    obtain ⟨hbX, hsX, hkX⟩ := start_allocs [(#[.int .i64 xd.K, .int .i64 xd.N, .string xd.S, .slice sm xd.M.length scm, .slice sl xd.L.length scl, .slice st xd.T.length sct], 25)] w7
    have g0 := hkX 0 _ rfl
    set_option linter.unusedSimpArgs false in
    simp only [allocs, List.foldl_cons, List.foldl_nil, Nat.add_zero, List.length_cons, List.length_nil, Nat.zero_add, Nat.reduceAdd] at hbX hsX g0
    clear hkX
    generalize w7.alloc (.cells #[.int .i64 xd.K, .int .i64 xd.N, .string xd.S, .slice sm xd.M.length scm, .slice sl xd.L.length scl, .slice st xd.T.length sct] 25) = X5 at *
    have s0 : X5.cell? ⟨w7.heap.size, 0, none⟩ = some (.int .i64 xd.K) := (g0.cell 0).trans rfl
    have s1 : X5.cell? ⟨w7.heap.size, 1, none⟩ = some (.int .i64 xd.N) := (g0.cell 1).trans rfl
    have s2 : X5.cell? ⟨w7.heap.size, 2, none⟩ = some (.string xd.S) := (g0.cell 2).trans rfl
    have s3 : X5.cell? ⟨w7.heap.size, 3, none⟩ = some (.slice sm xd.M.length scm) := (g0.cell 3).trans rfl
    have s4 : X5.cell? ⟨w7.heap.size, 4, none⟩ = some (.slice sl xd.L.length scl) := (g0.cell 4).trans rfl
    have s5 : X5.cell? ⟨w7.heap.size, 5, none⟩ = some (.slice st xd.T.length sct) := (g0.cell 5).trans rfl
    have lt_s : w7.heap.size < X5.heap.size := by omega
    clear g0 hsX
    replace x0 := (hbX.cell (p := ⟨w.heap.size, 0, none⟩) lt_x).trans x0
    replace x1 := (hbX.cell (p := ⟨w.heap.size, 1, none⟩) lt_x).trans x1
    replace x2 := (hbX.cell (p := ⟨w.heap.size, 2, none⟩) lt_x).trans x2
    replace x3 := (hbX.cell (p := ⟨w.heap.size, 3, none⟩) lt_x).trans x3
    replace x4 := (hbX.cell (p := ⟨w.heap.size, 4, none⟩) lt_x).trans x4
    replace x5 := (hbX.cell (p := ⟨w.heap.size, 5, none⟩) lt_x).trans x5
    replace lt_x : w.heap.size < X5.heap.size := Nat.lt_of_lt_of_le lt_x hbX.size
    replace y0 := (hbX.cell (p := ⟨w.heap.size + 1, 0, none⟩) lt_y).trans y0
    replace y1 := (hbX.cell (p := ⟨w.heap.size + 1, 1, none⟩) lt_y).trans y1
    replace y2 := (hbX.cell (p := ⟨w.heap.size + 1, 2, none⟩) lt_y).trans y2
    replace y3 := (hbX.cell (p := ⟨w.heap.size + 1, 3, none⟩) lt_y).trans y3
    replace y4 := (hbX.cell (p := ⟨w.heap.size + 1, 4, none⟩) lt_y).trans y4
    replace y5 := (hbX.cell (p := ⟨w.heap.size + 1, 5, none⟩) lt_y).trans y5
    replace lt_y : w.heap.size + 1 < X5.heap.size := Nat.lt_of_lt_of_le lt_y hbX.size
    replace p0 := (hbX.cell (p := ⟨w3.heap.size, 0, none⟩) lt_p).trans p0
    replace p1 := (hbX.cell (p := ⟨w3.heap.size, 1, none⟩) lt_p).trans p1
    replace p2 := (hbX.cell (p := ⟨w3.heap.size, 2, none⟩) lt_p).trans p2
    replace p3 := (hbX.cell (p := ⟨w3.heap.size, 3, none⟩) lt_p).trans p3
    replace p4 := (hbX.cell (p := ⟨w3.heap.size, 4, none⟩) lt_p).trans p4
    replace p5 := (hbX.cell (p := ⟨w3.heap.size, 5, none⟩) lt_p).trans p5
    replace lt_p : w3.heap.size < X5.heap.size := Nat.lt_of_lt_of_le lt_p hbX.size
    replace q0 := (hbX.cell (p := ⟨w4.heap.size, 0, none⟩) lt_q).trans q0
    replace q1 := (hbX.cell (p := ⟨w4.heap.size, 1, none⟩) lt_q).trans q1
    replace q2 := (hbX.cell (p := ⟨w4.heap.size, 2, none⟩) lt_q).trans q2
    replace q3 := (hbX.cell (p := ⟨w4.heap.size, 3, none⟩) lt_q).trans q3
    replace q4 := (hbX.cell (p := ⟨w4.heap.size, 4, none⟩) lt_q).trans q4
    replace q5 := (hbX.cell (p := ⟨w4.heap.size, 5, none⟩) lt_q).trans q5
    replace lt_q : w4.heap.size < X5.heap.size := Nat.lt_of_lt_of_le lt_q hbX.size
    replace u0 := (hbX.cell (p := ⟨w5.heap.size, 0, none⟩) lt_u).trans u0
    replace u1 := (hbX.cell (p := ⟨w5.heap.size, 1, none⟩) lt_u).trans u1
    replace u2 := (hbX.cell (p := ⟨w5.heap.size, 2, none⟩) lt_u).trans u2
    replace u3 := (hbX.cell (p := ⟨w5.heap.size, 3, none⟩) lt_u).trans u3
    replace u4 := (hbX.cell (p := ⟨w5.heap.size, 4, none⟩) lt_u).trans u4
    replace u5 := (hbX.cell (p := ⟨w5.heap.size, 5, none⟩) lt_u).trans u5
    replace lt_u : w5.heap.size < X5.heap.size := Nat.lt_of_lt_of_le lt_u hbX.size
    replace v0 := (hbX.cell (p := ⟨w6.heap.size, 0, none⟩) lt_v).trans v0
    replace v1 := (hbX.cell (p := ⟨w6.heap.size, 1, none⟩) lt_v).trans v1
    replace v2 := (hbX.cell (p := ⟨w6.heap.size, 2, none⟩) lt_v).trans v2
    replace v3 := (hbX.cell (p := ⟨w6.heap.size, 3, none⟩) lt_v).trans v3
    replace v4 := (hbX.cell (p := ⟨w6.heap.size, 4, none⟩) lt_v).trans v4
    replace v5 := (hbX.cell (p := ⟨w6.heap.size, 5, none⟩) lt_v).trans v5
    replace lt_v : w6.heap.size < X5.heap.size := Nat.lt_of_lt_of_le lt_v hbX.size
    replace TA := Lib.hid (TA.out.up hbX)
    replace TD := Lib.hid (TD.out.up hbX)
    replace TP := Lib.hid (TP.out.up hbX)
    replace TQ := Lib.hid (TQ.out.up hbX)
    replace TU := Lib.hid (TU.out.up hbX)
    replace TV := Lib.hid (TV.out.up hbX)
    replace TS := Lib.hid (TS.out.up hbX)
    replace HW := Lib.hid (HW.out.trans (hbX.mono HW.out.size))
    clear hbX
    refine (rcdr_any d _ _ X5 (by exact TD.out) (Nat.le_refl _)).mono ?_
    rw [Pe.out, Xc.out]
    intro e w8 hr
    obtain ⟨v', rfl, hb, hi⟩ := hr.out_ (Nat.le_refl _)
    rw [Xd.out] at hi
    have hi2 := hi
    obtain ⟨tm, tcm, tl, tcl, tt, tct, rfl, _⟩ := hi2.open_
    have TT := Lib.hid hi
    clear hi hi2 hr
    replace x0 := (hb.cell (p := ⟨w.heap.size, 0, none⟩) lt_x).trans x0
    replace x1 := (hb.cell (p := ⟨w.heap.size, 1, none⟩) lt_x).trans x1
    replace x2 := (hb.cell (p := ⟨w.heap.size, 2, none⟩) lt_x).trans x2
    replace x3 := (hb.cell (p := ⟨w.heap.size, 3, none⟩) lt_x).trans x3
    replace x4 := (hb.cell (p := ⟨w.heap.size, 4, none⟩) lt_x).trans x4
    replace x5 := (hb.cell (p := ⟨w.heap.size, 5, none⟩) lt_x).trans x5
    replace lt_x : w.heap.size < w8.heap.size := Nat.lt_of_lt_of_le lt_x hb.size
    replace y0 := (hb.cell (p := ⟨w.heap.size + 1, 0, none⟩) lt_y).trans y0
    replace y1 := (hb.cell (p := ⟨w.heap.size + 1, 1, none⟩) lt_y).trans y1
    replace y2 := (hb.cell (p := ⟨w.heap.size + 1, 2, none⟩) lt_y).trans y2
    replace y3 := (hb.cell (p := ⟨w.heap.size + 1, 3, none⟩) lt_y).trans y3
    replace y4 := (hb.cell (p := ⟨w.heap.size + 1, 4, none⟩) lt_y).trans y4
    replace y5 := (hb.cell (p := ⟨w.heap.size + 1, 5, none⟩) lt_y).trans y5
    replace lt_y : w.heap.size + 1 < w8.heap.size := Nat.lt_of_lt_of_le lt_y hb.size
    replace p0 := (hb.cell (p := ⟨w3.heap.size, 0, none⟩) lt_p).trans p0
    replace p1 := (hb.cell (p := ⟨w3.heap.size, 1, none⟩) lt_p).trans p1
    replace p2 := (hb.cell (p := ⟨w3.heap.size, 2, none⟩) lt_p).trans p2
    replace p3 := (hb.cell (p := ⟨w3.heap.size, 3, none⟩) lt_p).trans p3
    replace p4 := (hb.cell (p := ⟨w3.heap.size, 4, none⟩) lt_p).trans p4
    replace p5 := (hb.cell (p := ⟨w3.heap.size, 5, none⟩) lt_p).trans p5
    replace lt_p : w3.heap.size < w8.heap.size := Nat.lt_of_lt_of_le lt_p hb.size
    replace q0 := (hb.cell (p := ⟨w4.heap.size, 0, none⟩) lt_q).trans q0
    replace q1 := (hb.cell (p := ⟨w4.heap.size, 1, none⟩) lt_q).trans q1
    replace q2 := (hb.cell (p := ⟨w4.heap.size, 2, none⟩) lt_q).trans q2
    replace q3 := (hb.cell (p := ⟨w4.heap.size, 3, none⟩) lt_q).trans q3
    replace q4 := (hb.cell (p := ⟨w4.heap.size, 4, none⟩) lt_q).trans q4
    replace q5 := (hb.cell (p := ⟨w4.heap.size, 5, none⟩) lt_q).trans q5
    replace lt_q : w4.heap.size < w8.heap.size := Nat.lt_of_lt_of_le lt_q hb.size
    replace u0 := (hb.cell (p := ⟨w5.heap.size, 0, none⟩) lt_u).trans u0
    replace u1 := (hb.cell (p := ⟨w5.heap.size, 1, none⟩) lt_u).trans u1
    replace u2 := (hb.cell (p := ⟨w5.heap.size, 2, none⟩) lt_u).trans u2
    replace u3 := (hb.cell (p := ⟨w5.heap.size, 3, none⟩) lt_u).trans u3
    replace u4 := (hb.cell (p := ⟨w5.heap.size, 4, none⟩) lt_u).trans u4
    replace u5 := (hb.cell (p := ⟨w5.heap.size, 5, none⟩) lt_u).trans u5
    replace lt_u : w5.heap.size < w8.heap.size := Nat.lt_of_lt_of_le lt_u hb.size
    replace v0 := (hb.cell (p := ⟨w6.heap.size, 0, none⟩) lt_v).trans v0
    replace v1 := (hb.cell (p := ⟨w6.heap.size, 1, none⟩) lt_v).trans v1
    replace v2 := (hb.cell (p := ⟨w6.heap.size, 2, none⟩) lt_v).trans v2
    replace v3 := (hb.cell (p := ⟨w6.heap.size, 3, none⟩) lt_v).trans v3
    replace v4 := (hb.cell (p := ⟨w6.heap.size, 4, none⟩) lt_v).trans v4
    replace v5 := (hb.cell (p := ⟨w6.heap.size, 5, none⟩) lt_v).trans v5
    replace lt_v : w6.heap.size < w8.heap.size := Nat.lt_of_lt_of_le lt_v hb.size
    replace s0 := (hb.cell (p := ⟨w7.heap.size, 0, none⟩) lt_s).trans s0
    replace s1 := (hb.cell (p := ⟨w7.heap.size, 1, none⟩) lt_s).trans s1
    replace s2 := (hb.cell (p := ⟨w7.heap.size, 2, none⟩) lt_s).trans s2
    replace s3 := (hb.cell (p := ⟨w7.heap.size, 3, none⟩) lt_s).trans s3
    replace s4 := (hb.cell (p := ⟨w7.heap.size, 4, none⟩) lt_s).trans s4
    replace s5 := (hb.cell (p := ⟨w7.heap.size, 5, none⟩) lt_s).trans s5
    replace lt_s : w7.heap.size < w8.heap.size := Nat.lt_of_lt_of_le lt_s hb.size
    replace TA := Lib.hid (TA.out.up hb)
    replace TD := Lib.hid (TD.out.up hb)
    replace TP := Lib.hid (TP.out.up hb)
    replace TQ := Lib.hid (TQ.out.up hb)
    replace TU := Lib.hid (TU.out.up hb)
    replace TV := Lib.hid (TV.out.up hb)
    replace TS := Lib.hid (TS.out.up hb)
    replace HW := Lib.hid (HW.out.trans (hb.mono HW.out.size))
    clear hb
    go_wp2_with fail
    obtain ⟨hbX, hsX, hkX⟩ := start_allocs [(#[.int .i64 xd.K, .int .i64 xd.N, .string xd.S, .slice tm xd.M.length tcm, .slice tl xd.L.length tcl, .slice tt xd.T.length tct], 25)] w8
    have g0 := hkX 0 _ rfl
    set_option linter.unusedSimpArgs false in
    simp only [allocs, List.foldl_cons, List.foldl_nil, Nat.add_zero, List.length_cons, List.length_nil, Nat.zero_add, Nat.reduceAdd] at hbX hsX g0
    clear hkX
    generalize w8.alloc (.cells #[.int .i64 xd.K, .int .i64 xd.N, .string xd.S, .slice tm xd.M.length tcm, .slice tl xd.L.length tcl, .slice tt xd.T.length tct] 25) = X6 at *
    have t0 : X6.cell? ⟨w8.heap.size, 0, none⟩ = some (.int .i64 xd.K) := (g0.cell 0).trans rfl
    have t1 : X6.cell? ⟨w8.heap.size, 1, none⟩ = some (.int .i64 xd.N) := (g0.cell 1).trans rfl
    have t2 : X6.cell? ⟨w8.heap.size, 2, none⟩ = some (.string xd.S) := (g0.cell 2).trans rfl
    have t3 : X6.cell? ⟨w8.heap.size, 3, none⟩ = some (.slice tm xd.M.length tcm) := (g0.cell 3).trans rfl
    have t4 : X6.cell? ⟨w8.heap.size, 4, none⟩ = some (.slice tl xd.L.length tcl) := (g0.cell 4).trans rfl
    have t5 : X6.cell? ⟨w8.heap.size, 5, none⟩ = some (.slice tt xd.T.length tct) := (g0.cell 5).trans rfl
    have lt_t : w8.heap.size < X6.heap.size := by omega
    clear g0 hsX
    replace x0 := (hbX.cell (p := ⟨w.heap.size, 0, none⟩) lt_x).trans x0
    replace x1 := (hbX.cell (p := ⟨w.heap.size, 1, none⟩) lt_x).trans x1
    replace x2 := (hbX.cell (p := ⟨w.heap.size, 2, none⟩) lt_x).trans x2
    replace x3 := (hbX.cell (p := ⟨w.heap.size, 3, none⟩) lt_x).trans x3
    replace x4 := (hbX.cell (p := ⟨w.heap.size, 4, none⟩) lt_x).trans x4
    replace x5 := (hbX.cell (p := ⟨w.heap.size, 5, none⟩) lt_x).trans x5
    replace lt_x : w.heap.size < X6.heap.size := Nat.lt_of_lt_of_le lt_x hbX.size
    replace y0 := (hbX.cell (p := ⟨w.heap.size + 1, 0, none⟩) lt_y).trans y0
    replace y1 := (hbX.cell (p := ⟨w.heap.size + 1, 1, none⟩) lt_y).trans y1
    replace y2 := (hbX.cell (p := ⟨w.heap.size + 1, 2, none⟩) lt_y).trans y2
    replace y3 := (hbX.cell (p := ⟨w.heap.size + 1, 3, none⟩) lt_y).trans y3
    replace y4 := (hbX.cell (p := ⟨w.heap.size + 1, 4, none⟩) lt_y).trans y4
    replace y5 := (hbX.cell (p := ⟨w.heap.size + 1, 5, none⟩) lt_y).trans y5
    replace lt_y : w.heap.size + 1 < X6.heap.size := Nat.lt_of_lt_of_le lt_y hbX.size
    replace p0 := (hbX.cell (p := ⟨w3.heap.size, 0, none⟩) lt_p).trans p0
    replace p1 := (hbX.cell (p := ⟨w3.heap.size, 1, none⟩) lt_p).trans p1
    replace p2 := (hbX.cell (p := ⟨w3.heap.size, 2, none⟩) lt_p).trans p2
    replace p3 := (hbX.cell (p := ⟨w3.heap.size, 3, none⟩) lt_p).trans p3
    replace p4 := (hbX.cell (p := ⟨w3.heap.size, 4, none⟩) lt_p).trans p4
    replace p5 := (hbX.cell (p := ⟨w3.heap.size, 5, none⟩) lt_p).trans p5
    replace lt_p : w3.heap.size < X6.heap.size := Nat.lt_of_lt_of_le lt_p hbX.size
    replace q0 := (hbX.cell (p := ⟨w4.heap.size, 0, none⟩) lt_q).trans q0
    replace q1 := (hbX.cell (p := ⟨w4.heap.size, 1, none⟩) lt_q).trans q1
    replace q2 := (hbX.cell (p := ⟨w4.heap.size, 2, none⟩) lt_q).trans q2
    replace q3 := (hbX.cell (p := ⟨w4.heap.size, 3, none⟩) lt_q).trans q3
    replace q4 := (hbX.cell (p := ⟨w4.heap.size, 4, none⟩) lt_q).trans q4
    replace q5 := (hbX.cell (p := ⟨w4.heap.size, 5, none⟩) lt_q).trans q5
    replace lt_q : w4.heap.size < X6.heap.size := Nat.lt_of_lt_of_le lt_q hbX.size
    replace u0 := (hbX.cell (p := ⟨w5.heap.size, 0, none⟩) lt_u).trans u0
    replace u1 := (hbX.cell (p := ⟨w5.heap.size, 1, none⟩) lt_u).trans u1
    replace u2 := (hbX.cell (p := ⟨w5.heap.size, 2, none⟩) lt_u).trans u2
    replace u3 := (hbX.cell (p := ⟨w5.heap.size, 3, none⟩) lt_u).trans u3
    replace u4 := (hbX.cell (p := ⟨w5.heap.size, 4, none⟩) lt_u).trans u4
    replace u5 := (hbX.cell (p := ⟨w5.heap.size, 5, none⟩) lt_u).trans u5
    replace lt_u : w5.heap.size < X6.heap.size := Nat.lt_of_lt_of_le lt_u hbX.size
    replace v0 := (hbX.cell (p := ⟨w6.heap.size, 0, none⟩) lt_v).trans v0
    replace v1 := (hbX.cell (p := ⟨w6.heap.size, 1, none⟩) lt_v).trans v1
    replace v2 := (hbX.cell (p := ⟨w6.heap.size, 2, none⟩) lt_v).trans v2
    replace v3 := (hbX.cell (p := ⟨w6.heap.size, 3, none⟩) lt_v).trans v3
    replace v4 := (hbX.cell (p := ⟨w6.heap.size, 4, none⟩) lt_v).trans v4
    replace v5 := (hbX.cell (p := ⟨w6.heap.size, 5, none⟩) lt_v).trans v5
    replace lt_v : w6.heap.size < X6.heap.size := Nat.lt_of_lt_of_le lt_v hbX.size
    replace s0 := (hbX.cell (p := ⟨w7.heap.size, 0, none⟩) lt_s).trans s0
    replace s1 := (hbX.cell (p := ⟨w7.heap.size, 1, none⟩) lt_s).trans s1
    replace s2 := (hbX.cell (p := ⟨w7.heap.size, 2, none⟩) lt_s).trans s2
    replace s3 := (hbX.cell (p := ⟨w7.heap.size, 3, none⟩) lt_s).trans s3
    replace s4 := (hbX.cell (p := ⟨w7.heap.size, 4, none⟩) lt_s).trans s4
    replace s5 := (hbX.cell (p := ⟨w7.heap.size, 5, none⟩) lt_s).trans s5
    replace lt_s : w7.heap.size < X6.heap.size := Nat.lt_of_lt_of_le lt_s hbX.size
    replace TA := Lib.hid (TA.out.up hbX)
    replace TD := Lib.hid (TD.out.up hbX)
    replace TP := Lib.hid (TP.out.up hbX)
    replace TQ := Lib.hid (TQ.out.up hbX)
    replace TU := Lib.hid (TU.out.up hbX)
    replace TV := Lib.hid (TV.out.up hbX)
    replace TS := Lib.hid (TS.out.up hbX)
    replace TT := Lib.hid (TT.out.up hbX)
    replace HW := Lib.hid (HW.out.trans (hbX.mono HW.out.size))
    clear hbX
    refine (list_any al lc l w.heap.size X6 Hs.out (by exact Hl.out.below HW.out) HW.out.size).mono ?_
    rintro e w80 ⟨v', rfl, hb, hi⟩
    rw [Nd.out] at hi
    replace hi := hi.more (Q' := Lo w80.heap.size) (fun b hb' => by rcases hb' with h | h; exact Nat.lt_of_lt_of_le h (Nat.le_trans HW.out.size hb.size); exact h.2)
    have hi2 := hi
    obtain ⟨nm, ncm, nl, ncl, nt, nct, rfl, _⟩ := hi2.open_
    have TN := Lib.hid hi
    clear hi hi2
    replace x0 := (hb.cell (p := ⟨w.heap.size, 0, none⟩) lt_x).trans x0
    replace x1 := (hb.cell (p := ⟨w.heap.size, 1, none⟩) lt_x).trans x1
    replace x2 := (hb.cell (p := ⟨w.heap.size, 2, none⟩) lt_x).trans x2
    replace x3 := (hb.cell (p := ⟨w.heap.size, 3, none⟩) lt_x).trans x3
    replace x4 := (hb.cell (p := ⟨w.heap.size, 4, none⟩) lt_x).trans x4
    replace x5 := (hb.cell (p := ⟨w.heap.size, 5, none⟩) lt_x).trans x5
    replace lt_x : w.heap.size < w80.heap.size := Nat.lt_of_lt_of_le lt_x hb.size
    replace y0 := (hb.cell (p := ⟨w.heap.size + 1, 0, none⟩) lt_y).trans y0
    replace y1 := (hb.cell (p := ⟨w.heap.size + 1, 1, none⟩) lt_y).trans y1
    replace y2 := (hb.cell (p := ⟨w.heap.size + 1, 2, none⟩) lt_y).trans y2
    replace y3 := (hb.cell (p := ⟨w.heap.size + 1, 3, none⟩) lt_y).trans y3
    replace y4 := (hb.cell (p := ⟨w.heap.size + 1, 4, none⟩) lt_y).trans y4
    replace y5 := (hb.cell (p := ⟨w.heap.size + 1, 5, none⟩) lt_y).trans y5
    replace lt_y : w.heap.size + 1 < w80.heap.size := Nat.lt_of_lt_of_le lt_y hb.size
    replace p0 := (hb.cell (p := ⟨w3.heap.size, 0, none⟩) lt_p).trans p0
    replace p1 := (hb.cell (p := ⟨w3.heap.size, 1, none⟩) lt_p).trans p1
    replace p2 := (hb.cell (p := ⟨w3.heap.size, 2, none⟩) lt_p).trans p2
    replace p3 := (hb.cell (p := ⟨w3.heap.size, 3, none⟩) lt_p).trans p3
    replace p4 := (hb.cell (p := ⟨w3.heap.size, 4, none⟩) lt_p).trans p4
    replace p5 := (hb.cell (p := ⟨w3.heap.size, 5, none⟩) lt_p).trans p5
    replace lt_p : w3.heap.size < w80.heap.size := Nat.lt_of_lt_of_le lt_p hb.size
    replace q0 := (hb.cell (p := ⟨w4.heap.size, 0, none⟩) lt_q).trans q0
    replace q1 := (hb.cell (p := ⟨w4.heap.size, 1, none⟩) lt_q).trans q1
    replace q2 := (hb.cell (p := ⟨w4.heap.size, 2, none⟩) lt_q).trans q2
    replace q3 := (hb.cell (p := ⟨w4.heap.size, 3, none⟩) lt_q).trans q3
    replace q4 := (hb.cell (p := ⟨w4.heap.size, 4, none⟩) lt_q).trans q4
    replace q5 := (hb.cell (p := ⟨w4.heap.size, 5, none⟩) lt_q).trans q5
    replace lt_q : w4.heap.size < w80.heap.size := Nat.lt_of_lt_of_le lt_q hb.size
    replace u0 := (hb.cell (p := ⟨w5.heap.size, 0, none⟩) lt_u).trans u0
    replace u1 := (hb.cell (p := ⟨w5.heap.size, 1, none⟩) lt_u).trans u1
    replace u2 := (hb.cell (p := ⟨w5.heap.size, 2, none⟩) lt_u).trans u2
    replace u3 := (hb.cell (p := ⟨w5.heap.size, 3, none⟩) lt_u).trans u3
    replace u4 := (hb.cell (p := ⟨w5.heap.size, 4, none⟩) lt_u).trans u4
    replace u5 := (hb.cell (p := ⟨w5.heap.size, 5, none⟩) lt_u).trans u5
    replace lt_u : w5.heap.size < w80.heap.size := Nat.lt_of_lt_of_le lt_u hb.size
    replace v0 := (hb.cell (p := ⟨w6.heap.size, 0, none⟩) lt_v).trans v0
    replace v1 := (hb.cell (p := ⟨w6.heap.size, 1, none⟩) lt_v).trans v1
    replace v2 := (hb.cell (p := ⟨w6.heap.size, 2, none⟩) lt_v).trans v2
    replace v3 := (hb.cell (p := ⟨w6.heap.size, 3, none⟩) lt_v).trans v3
    replace v4 := (hb.cell (p := ⟨w6.heap.size, 4, none⟩) lt_v).trans v4
    replace v5 := (hb.cell (p := ⟨w6.heap.size, 5, none⟩) lt_v).trans v5
    replace lt_v : w6.heap.size < w80.heap.size := Nat.lt_of_lt_of_le lt_v hb.size
    replace s0 := (hb.cell (p := ⟨w7.heap.size, 0, none⟩) lt_s).trans s0
    replace s1 := (hb.cell (p := ⟨w7.heap.size, 1, none⟩) lt_s).trans s1
    replace s2 := (hb.cell (p := ⟨w7.heap.size, 2, none⟩) lt_s).trans s2
    replace s3 := (hb.cell (p := ⟨w7.heap.size, 3, none⟩) lt_s).trans s3
    replace s4 := (hb.cell (p := ⟨w7.heap.size, 4, none⟩) lt_s).trans s4
    replace s5 := (hb.cell (p := ⟨w7.heap.size, 5, none⟩) lt_s).trans s5
    replace lt_s : w7.heap.size < w80.heap.size := Nat.lt_of_lt_of_le lt_s hb.size
    replace t0 := (hb.cell (p := ⟨w8.heap.size, 0, none⟩) lt_t).trans t0
    replace t1 := (hb.cell (p := ⟨w8.heap.size, 1, none⟩) lt_t).trans t1
    replace t2 := (hb.cell (p := ⟨w8.heap.size, 2, none⟩) lt_t).trans t2
    replace t3 := (hb.cell (p := ⟨w8.heap.size, 3, none⟩) lt_t).trans t3
    replace t4 := (hb.cell (p := ⟨w8.heap.size, 4, none⟩) lt_t).trans t4
    replace t5 := (hb.cell (p := ⟨w8.heap.size, 5, none⟩) lt_t).trans t5
    replace lt_t : w8.heap.size < w80.heap.size := Nat.lt_of_lt_of_le lt_t hb.size
    replace TA := Lib.hid (TA.out.up hb)
    replace TD := Lib.hid (TD.out.up hb)
    replace TP := Lib.hid (TP.out.up hb)
    replace TQ := Lib.hid (TQ.out.up hb)
    replace TU := Lib.hid (TU.out.up hb)
    replace TV := Lib.hid (TV.out.up hb)
    replace TS := Lib.hid (TS.out.up hb)
    replace TT := Lib.hid (TT.out.up hb)
    replace HW := Lib.hid (HW.out.trans (hb.mono HW.out.size))
    clear hb
    go_wp2_with fail
    obtain ⟨hbX, hsX, hkX⟩ := start_allocs [(#[.int .i64 nd.K, .int .i64 nd.N, .string nd.S, .slice nm nd.M.length ncm, .slice nl nd.L.length ncl, .slice nt nd.T.length nct], 25)] w80
    have g0 := hkX 0 _ rfl
    set_option linter.unusedSimpArgs false in
    simp only [allocs, List.foldl_cons, List.foldl_nil, Nat.add_zero, List.length_cons, List.length_nil, Nat.zero_add, Nat.reduceAdd] at hbX hsX g0
    clear hkX
    generalize w80.alloc (.cells #[.int .i64 nd.K, .int .i64 nd.N, .string nd.S, .slice nm nd.M.length ncm, .slice nl nd.L.length ncl, .slice nt nd.T.length nct] 25) = X7 at *
    have n0 : X7.cell? ⟨w80.heap.size, 0, none⟩ = some (.int .i64 nd.K) := (g0.cell 0).trans rfl
    have n1 : X7.cell? ⟨w80.heap.size, 1, none⟩ = some (.int .i64 nd.N) := (g0.cell 1).trans rfl
    have n2 : X7.cell? ⟨w80.heap.size, 2, none⟩ = some (.string nd.S) := (g0.cell 2).trans rfl
    have n3 : X7.cell? ⟨w80.heap.size, 3, none⟩ = some (.slice nm nd.M.length ncm) := (g0.cell 3).trans rfl
    have n4 : X7.cell? ⟨w80.heap.size, 4, none⟩ = some (.slice nl nd.L.length ncl) := (g0.cell 4).trans rfl
    have n5 : X7.cell? ⟨w80.heap.size, 5, none⟩ = some (.slice nt nd.T.length nct) := (g0.cell 5).trans rfl
    have lt_n : w80.heap.size < X7.heap.size := by omega
    clear g0 hsX
    replace x0 := (hbX.cell (p := ⟨w.heap.size, 0, none⟩) lt_x).trans x0
    replace x1 := (hbX.cell (p := ⟨w.heap.size, 1, none⟩) lt_x).trans x1
    replace x2 := (hbX.cell (p := ⟨w.heap.size, 2, none⟩) lt_x).trans x2
    replace x3 := (hbX.cell (p := ⟨w.heap.size, 3, none⟩) lt_x).trans x3
    replace x4 := (hbX.cell (p := ⟨w.heap.size, 4, none⟩) lt_x).trans x4
    replace x5 := (hbX.cell (p := ⟨w.heap.size, 5, none⟩) lt_x).trans x5
    replace lt_x : w.heap.size < X7.heap.size := Nat.lt_of_lt_of_le lt_x hbX.size
    replace y0 := (hbX.cell (p := ⟨w.heap.size + 1, 0, none⟩) lt_y).trans y0
    replace y1 := (hbX.cell (p := ⟨w.heap.size + 1, 1, none⟩) lt_y).trans y1
    replace y2 := (hbX.cell (p := ⟨w.heap.size + 1, 2, none⟩) lt_y).trans y2
    replace y3 := (hbX.cell (p := ⟨w.heap.size + 1, 3, none⟩) lt_y).trans y3
    replace y4 := (hbX.cell (p := ⟨w.heap.size + 1, 4, none⟩) lt_y).trans y4
    replace y5 := (hbX.cell (p := ⟨w.heap.size + 1, 5, none⟩) lt_y).trans y5
    replace lt_y : w.heap.size + 1 < X7.heap.size := Nat.lt_of_lt_of_le lt_y hbX.size
    replace p0 := (hbX.cell (p := ⟨w3.heap.size, 0, none⟩) lt_p).trans p0
    replace p1 := (hbX.cell (p := ⟨w3.heap.size, 1, none⟩) lt_p).trans p1
    replace p2 := (hbX.cell (p := ⟨w3.heap.size, 2, none⟩) lt_p).trans p2
    replace p3 := (hbX.cell (p := ⟨w3.heap.size, 3, none⟩) lt_p).trans p3
    replace p4 := (hbX.cell (p := ⟨w3.heap.size, 4, none⟩) lt_p).trans p4
    replace p5 := (hbX.cell (p := ⟨w3.heap.size, 5, none⟩) lt_p).trans p5
    replace lt_p : w3.heap.size < X7.heap.size := Nat.lt_of_lt_of_le lt_p hbX.size
    replace q0 := (hbX.cell (p := ⟨w4.heap.size, 0, none⟩) lt_q).trans q0
    replace q1 := (hbX.cell (p := ⟨w4.heap.size, 1, none⟩) lt_q).trans q1
    replace q2 := (hbX.cell (p := ⟨w4.heap.size, 2, none⟩) lt_q).trans q2
    replace q3 := (hbX.cell (p := ⟨w4.heap.size, 3, none⟩) lt_q).trans q3
    replace q4 := (hbX.cell (p := ⟨w4.heap.size, 4, none⟩) lt_q).trans q4
    replace q5 := (hbX.cell (p := ⟨w4.heap.size, 5, none⟩) lt_q).trans q5
    replace lt_q : w4.heap.size < X7.heap.size := Nat.lt_of_lt_of_le lt_q hbX.size
    replace u0 := (hbX.cell (p := ⟨w5.heap.size, 0, none⟩) lt_u).trans u0
    replace u1 := (hbX.cell (p := ⟨w5.heap.size, 1, none⟩) lt_u).trans u1
    replace u2 := (hbX.cell (p := ⟨w5.heap.size, 2, none⟩) lt_u).trans u2
    replace u3 := (hbX.cell (p := ⟨w5.heap.size, 3, none⟩) lt_u).trans u3
    replace u4 := (hbX.cell (p := ⟨w5.heap.size, 4, none⟩) lt_u).trans u4
    replace u5 := (hbX.cell (p := ⟨w5.heap.size, 5, none⟩) lt_u).trans u5
    replace lt_u : w5.heap.size < X7.heap.size := Nat.lt_of_lt_of_le lt_u hbX.size
    replace v0 := (hbX.cell (p := ⟨w6.heap.size, 0, none⟩) lt_v).trans v0
    replace v1 := (hbX.cell (p := ⟨w6.heap.size, 1, none⟩) lt_v).trans v1
    replace v2 := (hbX.cell (p := ⟨w6.heap.size, 2, none⟩) lt_v).trans v2
    replace v3 := (hbX.cell (p := ⟨w6.heap.size, 3, none⟩) lt_v).trans v3
    replace v4 := (hbX.cell (p := ⟨w6.heap.size, 4, none⟩) lt_v).trans v4
    replace v5 := (hbX.cell (p := ⟨w6.heap.size, 5, none⟩) lt_v).trans v5
    replace lt_v : w6.heap.size < X7.heap.size := Nat.lt_of_lt_of_le lt_v hbX.size
    replace s0 := (hbX.cell (p := ⟨w7.heap.size, 0, none⟩) lt_s).trans s0
    replace s1 := (hbX.cell (p := ⟨w7.heap.size, 1, none⟩) lt_s).trans s1
    replace s2 := (hbX.cell (p := ⟨w7.heap.size, 2, none⟩) lt_s).trans s2
    replace s3 := (hbX.cell (p := ⟨w7.heap.size, 3, none⟩) lt_s).trans s3
    replace s4 := (hbX.cell (p := ⟨w7.heap.size, 4, none⟩) lt_s).trans s4
    replace s5 := (hbX.cell (p := ⟨w7.heap.size, 5, none⟩) lt_s).trans s5
    replace lt_s : w7.heap.size < X7.heap.size := Nat.lt_of_lt_of_le lt_s hbX.size
    replace t0 := (hbX.cell (p := ⟨w8.heap.size, 0, none⟩) lt_t).trans t0
    replace t1 := (hbX.cell (p := ⟨w8.heap.size, 1, none⟩) lt_t).trans t1
    replace t2 := (hbX.cell (p := ⟨w8.heap.size, 2, none⟩) lt_t).trans t2
    replace t3 := (hbX.cell (p := ⟨w8.heap.size, 3, none⟩) lt_t).trans t3
    replace t4 := (hbX.cell (p := ⟨w8.heap.size, 4, none⟩) lt_t).trans t4
    replace t5 := (hbX.cell (p := ⟨w8.heap.size, 5, none⟩) lt_t).trans t5
    replace lt_t : w8.heap.size < X7.heap.size := Nat.lt_of_lt_of_le lt_t hbX.size
    replace TA := Lib.hid (TA.out.up hbX)
    replace TD := Lib.hid (TD.out.up hbX)
    replace TP := Lib.hid (TP.out.up hbX)
    replace TQ := Lib.hid (TQ.out.up hbX)
    replace TU := Lib.hid (TU.out.up hbX)
    replace TV := Lib.hid (TV.out.up hbX)
    replace TS := Lib.hid (TS.out.up hbX)
    replace TT := Lib.hid (TT.out.up hbX)
    replace TN := Lib.hid (TN.out.up hbX)
    replace HW := Lib.hid (HW.out.trans (hbX.mono HW.out.size))
    clear hbX
    clear x0 x1 x2 x3 x4 x5 y0 y1 y2 y3 y4 y5
    have hb := bel_drew X7
    replace p0 := (hb.cell (p := ⟨w3.heap.size, 0, none⟩) lt_p).trans p0
    replace p1 := (hb.cell (p := ⟨w3.heap.size, 1, none⟩) lt_p).trans p1
    replace p2 := (hb.cell (p := ⟨w3.heap.size, 2, none⟩) lt_p).trans p2
    replace p3 := (hb.cell (p := ⟨w3.heap.size, 3, none⟩) lt_p).trans p3
    replace p4 := (hb.cell (p := ⟨w3.heap.size, 4, none⟩) lt_p).trans p4
    replace p5 := (hb.cell (p := ⟨w3.heap.size, 5, none⟩) lt_p).trans p5
    replace lt_p : w3.heap.size < X7.drew.heap.size := Nat.lt_of_lt_of_le lt_p hb.size
    replace q0 := (hb.cell (p := ⟨w4.heap.size, 0, none⟩) lt_q).trans q0
    replace q1 := (hb.cell (p := ⟨w4.heap.size, 1, none⟩) lt_q).trans q1
    replace q2 := (hb.cell (p := ⟨w4.heap.size, 2, none⟩) lt_q).trans q2
    replace q3 := (hb.cell (p := ⟨w4.heap.size, 3, none⟩) lt_q).trans q3
    replace q4 := (hb.cell (p := ⟨w4.heap.size, 4, none⟩) lt_q).trans q4
    replace q5 := (hb.cell (p := ⟨w4.heap.size, 5, none⟩) lt_q).trans q5
    replace lt_q : w4.heap.size < X7.drew.heap.size := Nat.lt_of_lt_of_le lt_q hb.size
    replace u0 := (hb.cell (p := ⟨w5.heap.size, 0, none⟩) lt_u).trans u0
    replace u1 := (hb.cell (p := ⟨w5.heap.size, 1, none⟩) lt_u).trans u1
    replace u2 := (hb.cell (p := ⟨w5.heap.size, 2, none⟩) lt_u).trans u2
    replace u3 := (hb.cell (p := ⟨w5.heap.size, 3, none⟩) lt_u).trans u3
    replace u4 := (hb.cell (p := ⟨w5.heap.size, 4, none⟩) lt_u).trans u4
    replace u5 := (hb.cell (p := ⟨w5.heap.size, 5, none⟩) lt_u).trans u5
    replace lt_u : w5.heap.size < X7.drew.heap.size := Nat.lt_of_lt_of_le lt_u hb.size
    replace v0 := (hb.cell (p := ⟨w6.heap.size, 0, none⟩) lt_v).trans v0
    replace v1 := (hb.cell (p := ⟨w6.heap.size, 1, none⟩) lt_v).trans v1
    replace v2 := (hb.cell (p := ⟨w6.heap.size, 2, none⟩) lt_v).trans v2
    replace v3 := (hb.cell (p := ⟨w6.heap.size, 3, none⟩) lt_v).trans v3
    replace v4 := (hb.cell (p := ⟨w6.heap.size, 4, none⟩) lt_v).trans v4
    replace v5 := (hb.cell (p := ⟨w6.heap.size, 5, none⟩) lt_v).trans v5
    replace lt_v : w6.heap.size < X7.drew.heap.size := Nat.lt_of_lt_of_le lt_v hb.size
    replace s0 := (hb.cell (p := ⟨w7.heap.size, 0, none⟩) lt_s).trans s0
    replace s1 := (hb.cell (p := ⟨w7.heap.size, 1, none⟩) lt_s).trans s1
    replace s2 := (hb.cell (p := ⟨w7.heap.size, 2, none⟩) lt_s).trans s2
    replace s3 := (hb.cell (p := ⟨w7.heap.size, 3, none⟩) lt_s).trans s3
    replace s4 := (hb.cell (p := ⟨w7.heap.size, 4, none⟩) lt_s).trans s4
    replace s5 := (hb.cell (p := ⟨w7.heap.size, 5, none⟩) lt_s).trans s5
    replace lt_s : w7.heap.size < X7.drew.heap.size := Nat.lt_of_lt_of_le lt_s hb.size
    replace t0 := (hb.cell (p := ⟨w8.heap.size, 0, none⟩) lt_t).trans t0
    replace t1 := (hb.cell (p := ⟨w8.heap.size, 1, none⟩) lt_t).trans t1
    replace t2 := (hb.cell (p := ⟨w8.heap.size, 2, none⟩) lt_t).trans t2
    replace t3 := (hb.cell (p := ⟨w8.heap.size, 3, none⟩) lt_t).trans t3
    replace t4 := (hb.cell (p := ⟨w8.heap.size, 4, none⟩) lt_t).trans t4
    replace t5 := (hb.cell (p := ⟨w8.heap.size, 5, none⟩) lt_t).trans t5
    replace lt_t : w8.heap.size < X7.drew.heap.size := Nat.lt_of_lt_of_le lt_t hb.size
    replace n0 := (hb.cell (p := ⟨w80.heap.size, 0, none⟩) lt_n).trans n0
    replace n1 := (hb.cell (p := ⟨w80.heap.size, 1, none⟩) lt_n).trans n1
    replace n2 := (hb.cell (p := ⟨w80.heap.size, 2, none⟩) lt_n).trans n2
    replace n3 := (hb.cell (p := ⟨w80.heap.size, 3, none⟩) lt_n).trans n3
    replace n4 := (hb.cell (p := ⟨w80.heap.size, 4, none⟩) lt_n).trans n4
    replace n5 := (hb.cell (p := ⟨w80.heap.size, 5, none⟩) lt_n).trans n5
    replace lt_n : w80.heap.size < X7.drew.heap.size := Nat.lt_of_lt_of_le lt_n hb.size
    replace TA := Lib.hid (TA.out.up hb)
    replace TD := Lib.hid (TD.out.up hb)
    replace TP := Lib.hid (TP.out.up hb)
    replace TQ := Lib.hid (TQ.out.up hb)
    replace TU := Lib.hid (TU.out.up hb)
    replace TV := Lib.hid (TV.out.up hb)
    replace TS := Lib.hid (TS.out.up hb)
    replace TT := Lib.hid (TT.out.up hb)
    replace TN := Lib.hid (TN.out.up hb)
    replace HW := Lib.hid (HW.out.trans (hb.mono HW.out.size))
    clear hb
    go_region_held3 (fun w' => w'.cell? ⟨w3.heap.size, 0, none⟩ = some (.int .i64 pd.K) ∧ w'.cell? ⟨w3.heap.size, 1, none⟩ = some (.int .i64 pd.N) ∧ w'.cell? ⟨w3.heap.size, 2, none⟩ = some (.string pd.S) ∧ w'.cell? ⟨w3.heap.size, 3, none⟩ = some (.slice pm pd.M.length pcm) ∧ w'.cell? ⟨w3.heap.size, 4, none⟩ = some (.slice pl pd.L.length pcl) ∧ w'.cell? ⟨w3.heap.size, 5, none⟩ = some (.slice pt pd.T.length pct) ∧ w'.cell? ⟨w4.heap.size, 0, none⟩ = some (.int .i64 pd.K) ∧ w'.cell? ⟨w4.heap.size, 1, none⟩ = some (.int .i64 pd.N) ∧ w'.cell? ⟨w4.heap.size, 2, none⟩ = some (.string pd.S) ∧ w'.cell? ⟨w4.heap.size, 3, none⟩ = some (.slice qm pd.M.length qcm) ∧ w'.cell? ⟨w4.heap.size, 4, none⟩ = some (.slice ql pd.L.length qcl) ∧ w'.cell? ⟨w4.heap.size, 5, none⟩ = some (.slice qt pd.T.length qct) ∧ w'.cell? ⟨w5.heap.size, 0, none⟩ = some (.int .i64 ud.K) ∧ w'.cell? ⟨w5.heap.size, 1, none⟩ = some (.int .i64 ud.N) ∧ w'.cell? ⟨w5.heap.size, 2, none⟩ = some (.string ud.S) ∧ w'.cell? ⟨w5.heap.size, 3, none⟩ = some (.slice um ud.M.length ucm) ∧ w'.cell? ⟨w5.heap.size, 4, none⟩ = some (.slice ul ud.L.length ucl) ∧ w'.cell? ⟨w5.heap.size, 5, none⟩ = some (.slice ut ud.T.length uct) ∧ w'.cell? ⟨w6.heap.size, 0, none⟩ = some (.int .i64 ud.K) ∧ w'.cell? ⟨w6.heap.size, 1, none⟩ = some (.int .i64 ud.N) ∧ w'.cell? ⟨w6.heap.size, 2, none⟩ = some (.string ud.S) ∧ w'.cell? ⟨w6.heap.size, 3, none⟩ = some (.slice vm ud.M.length vcm) ∧ w'.cell? ⟨w6.heap.size, 4, none⟩ = some (.slice vl ud.L.length vcl) ∧ w'.cell? ⟨w6.heap.size, 5, none⟩ = some (.slice vt ud.T.length vct) ∧ w'.cell? ⟨w7.heap.size, 0, none⟩ = some (.int .i64 xd.K) ∧ w'.cell? ⟨w7.heap.size, 1, none⟩ = some (.int .i64 xd.N) ∧ w'.cell? ⟨w7.heap.size, 2, none⟩ = some (.string xd.S) ∧ w'.cell? ⟨w7.heap.size, 3, none⟩ = some (.slice sm xd.M.length scm) ∧ w'.cell? ⟨w7.heap.size, 4, none⟩ = some (.slice sl xd.L.length scl) ∧ w'.cell? ⟨w7.heap.size, 5, none⟩ = some (.slice st xd.T.length sct) ∧ w'.cell? ⟨w8.heap.size, 0, none⟩ = some (.int .i64 xd.K) ∧ w'.cell? ⟨w8.heap.size, 1, none⟩ = some (.int .i64 xd.N) ∧ w'.cell? ⟨w8.heap.size, 2, none⟩ = some (.string xd.S) ∧ w'.cell? ⟨w8.heap.size, 3, none⟩ = some (.slice tm xd.M.length tcm) ∧ w'.cell? ⟨w8.heap.size, 4, none⟩ = some (.slice tl xd.L.length tcl) ∧ w'.cell? ⟨w8.heap.size, 5, none⟩ = some (.slice tt xd.T.length tct) ∧ w'.cell? ⟨w80.heap.size, 0, none⟩ = some (.int .i64 nd.K) ∧ w'.cell? ⟨w80.heap.size, 1, none⟩ = some (.int .i64 nd.N) ∧ w'.cell? ⟨w80.heap.size, 2, none⟩ = some (.string nd.S) ∧ w'.cell? ⟨w80.heap.size, 3, none⟩ = some (.slice nm nd.M.length ncm) ∧ w'.cell? ⟨w80.heap.size, 4, none⟩ = some (.slice nl nd.L.length ncl) ∧ w'.cell? ⟨w80.heap.size, 5, none⟩ = some (.slice nt nd.T.length nct)) (first | (with_reducible exact ⟨p0, p1, p2, p3, p4, p5, q0, q1, q2, q3, q4, q5, u0, u1, u2, u3, u4, u5, v0, v1, v2, v3, v4, v5, s0, s1, s2, s3, s4, s5, t0, t1, t2, t3, t4, t5, n0, n1, n2, n3, n4, n5⟩) | go_keep)
      (first
        | (go_at_call 24
           have _t := tok1
           refine (alike_any pd pd _ _ _ (by exact TP.out) (by exact TQ.out)).mono ?_
           rintro e w9 ⟨rfl, hb⟩
           rw [L1.out]
           replace p0 := (hb.cell (p := ⟨w3.heap.size, 0, none⟩) lt_p).trans p0
           replace p1 := (hb.cell (p := ⟨w3.heap.size, 1, none⟩) lt_p).trans p1
           replace p2 := (hb.cell (p := ⟨w3.heap.size, 2, none⟩) lt_p).trans p2
           replace p3 := (hb.cell (p := ⟨w3.heap.size, 3, none⟩) lt_p).trans p3
           replace p4 := (hb.cell (p := ⟨w3.heap.size, 4, none⟩) lt_p).trans p4
           replace p5 := (hb.cell (p := ⟨w3.heap.size, 5, none⟩) lt_p).trans p5
           replace lt_p : w3.heap.size < w9.heap.size := Nat.lt_of_lt_of_le lt_p hb.size
           replace q0 := (hb.cell (p := ⟨w4.heap.size, 0, none⟩) lt_q).trans q0
           replace q1 := (hb.cell (p := ⟨w4.heap.size, 1, none⟩) lt_q).trans q1
           replace q2 := (hb.cell (p := ⟨w4.heap.size, 2, none⟩) lt_q).trans q2
           replace q3 := (hb.cell (p := ⟨w4.heap.size, 3, none⟩) lt_q).trans q3
           replace q4 := (hb.cell (p := ⟨w4.heap.size, 4, none⟩) lt_q).trans q4
           replace q5 := (hb.cell (p := ⟨w4.heap.size, 5, none⟩) lt_q).trans q5
           replace lt_q : w4.heap.size < w9.heap.size := Nat.lt_of_lt_of_le lt_q hb.size
           replace u0 := (hb.cell (p := ⟨w5.heap.size, 0, none⟩) lt_u).trans u0
           replace u1 := (hb.cell (p := ⟨w5.heap.size, 1, none⟩) lt_u).trans u1
           replace u2 := (hb.cell (p := ⟨w5.heap.size, 2, none⟩) lt_u).trans u2
           replace u3 := (hb.cell (p := ⟨w5.heap.size, 3, none⟩) lt_u).trans u3
           replace u4 := (hb.cell (p := ⟨w5.heap.size, 4, none⟩) lt_u).trans u4
           replace u5 := (hb.cell (p := ⟨w5.heap.size, 5, none⟩) lt_u).trans u5
           replace lt_u : w5.heap.size < w9.heap.size := Nat.lt_of_lt_of_le lt_u hb.size
           replace v0 := (hb.cell (p := ⟨w6.heap.size, 0, none⟩) lt_v).trans v0
           replace v1 := (hb.cell (p := ⟨w6.heap.size, 1, none⟩) lt_v).trans v1
           replace v2 := (hb.cell (p := ⟨w6.heap.size, 2, none⟩) lt_v).trans v2
           replace v3 := (hb.cell (p := ⟨w6.heap.size, 3, none⟩) lt_v).trans v3
           replace v4 := (hb.cell (p := ⟨w6.heap.size, 4, none⟩) lt_v).trans v4
           replace v5 := (hb.cell (p := ⟨w6.heap.size, 5, none⟩) lt_v).trans v5
           replace lt_v : w6.heap.size < w9.heap.size := Nat.lt_of_lt_of_le lt_v hb.size
           replace s0 := (hb.cell (p := ⟨w7.heap.size, 0, none⟩) lt_s).trans s0
           replace s1 := (hb.cell (p := ⟨w7.heap.size, 1, none⟩) lt_s).trans s1
           replace s2 := (hb.cell (p := ⟨w7.heap.size, 2, none⟩) lt_s).trans s2
           replace s3 := (hb.cell (p := ⟨w7.heap.size, 3, none⟩) lt_s).trans s3
           replace s4 := (hb.cell (p := ⟨w7.heap.size, 4, none⟩) lt_s).trans s4
           replace s5 := (hb.cell (p := ⟨w7.heap.size, 5, none⟩) lt_s).trans s5
           replace lt_s : w7.heap.size < w9.heap.size := Nat.lt_of_lt_of_le lt_s hb.size
           replace t0 := (hb.cell (p := ⟨w8.heap.size, 0, none⟩) lt_t).trans t0
           replace t1 := (hb.cell (p := ⟨w8.heap.size, 1, none⟩) lt_t).trans t1
           replace t2 := (hb.cell (p := ⟨w8.heap.size, 2, none⟩) lt_t).trans t2
           replace t3 := (hb.cell (p := ⟨w8.heap.size, 3, none⟩) lt_t).trans t3
           replace t4 := (hb.cell (p := ⟨w8.heap.size, 4, none⟩) lt_t).trans t4
           replace t5 := (hb.cell (p := ⟨w8.heap.size, 5, none⟩) lt_t).trans t5
           replace lt_t : w8.heap.size < w9.heap.size := Nat.lt_of_lt_of_le lt_t hb.size
           replace n0 := (hb.cell (p := ⟨w80.heap.size, 0, none⟩) lt_n).trans n0
           replace n1 := (hb.cell (p := ⟨w80.heap.size, 1, none⟩) lt_n).trans n1
           replace n2 := (hb.cell (p := ⟨w80.heap.size, 2, none⟩) lt_n).trans n2
           replace n3 := (hb.cell (p := ⟨w80.heap.size, 3, none⟩) lt_n).trans n3
           replace n4 := (hb.cell (p := ⟨w80.heap.size, 4, none⟩) lt_n).trans n4
           replace n5 := (hb.cell (p := ⟨w80.heap.size, 5, none⟩) lt_n).trans n5
           replace lt_n : w80.heap.size < w9.heap.size := Nat.lt_of_lt_of_le lt_n hb.size
           replace TA := Lib.hid (TA.out.up hb)
           replace TD := Lib.hid (TD.out.up hb)
           replace TP := Lib.hid (TP.out.up hb)
           replace TQ := Lib.hid (TQ.out.up hb)
           replace TU := Lib.hid (TU.out.up hb)
           replace TV := Lib.hid (TV.out.up hb)
           replace TS := Lib.hid (TS.out.up hb)
           replace TT := Lib.hid (TT.out.up hb)
           replace TN := Lib.hid (TN.out.up hb)
           replace HW := Lib.hid (HW.out.trans (hb.mono HW.out.size))
           clear hb
           clear tok1 _t
           skip)
        | (go_at_call 24
           have _t := tok2
           refine (alike_any ud ud _ _ _ (by exact TU.out) (by exact TV.out)).mono ?_
           rintro e w10 ⟨rfl, hb⟩
           rw [L2.out]
           replace p0 := (hb.cell (p := ⟨w3.heap.size, 0, none⟩) lt_p).trans p0
           replace p1 := (hb.cell (p := ⟨w3.heap.size, 1, none⟩) lt_p).trans p1
           replace p2 := (hb.cell (p := ⟨w3.heap.size, 2, none⟩) lt_p).trans p2
           replace p3 := (hb.cell (p := ⟨w3.heap.size, 3, none⟩) lt_p).trans p3
           replace p4 := (hb.cell (p := ⟨w3.heap.size, 4, none⟩) lt_p).trans p4
           replace p5 := (hb.cell (p := ⟨w3.heap.size, 5, none⟩) lt_p).trans p5
           replace lt_p : w3.heap.size < w10.heap.size := Nat.lt_of_lt_of_le lt_p hb.size
           replace q0 := (hb.cell (p := ⟨w4.heap.size, 0, none⟩) lt_q).trans q0
           replace q1 := (hb.cell (p := ⟨w4.heap.size, 1, none⟩) lt_q).trans q1
           replace q2 := (hb.cell (p := ⟨w4.heap.size, 2, none⟩) lt_q).trans q2
           replace q3 := (hb.cell (p := ⟨w4.heap.size, 3, none⟩) lt_q).trans q3
           replace q4 := (hb.cell (p := ⟨w4.heap.size, 4, none⟩) lt_q).trans q4
           replace q5 := (hb.cell (p := ⟨w4.heap.size, 5, none⟩) lt_q).trans q5
           replace lt_q : w4.heap.size < w10.heap.size := Nat.lt_of_lt_of_le lt_q hb.size
           replace u0 := (hb.cell (p := ⟨w5.heap.size, 0, none⟩) lt_u).trans u0
           replace u1 := (hb.cell (p := ⟨w5.heap.size, 1, none⟩) lt_u).trans u1
           replace u2 := (hb.cell (p := ⟨w5.heap.size, 2, none⟩) lt_u).trans u2
           replace u3 := (hb.cell (p := ⟨w5.heap.size, 3, none⟩) lt_u).trans u3
           replace u4 := (hb.cell (p := ⟨w5.heap.size, 4, none⟩) lt_u).trans u4
           replace u5 := (hb.cell (p := ⟨w5.heap.size, 5, none⟩) lt_u).trans u5
           replace lt_u : w5.heap.size < w10.heap.size := Nat.lt_of_lt_of_le lt_u hb.size
           replace v0 := (hb.cell (p := ⟨w6.heap.size, 0, none⟩) lt_v).trans v0
           replace v1 := (hb.cell (p := ⟨w6.heap.size, 1, none⟩) lt_v).trans v1
           replace v2 := (hb.cell (p := ⟨w6.heap.size, 2, none⟩) lt_v).trans v2
           replace v3 := (hb.cell (p := ⟨w6.heap.size, 3, none⟩) lt_v).trans v3
           replace v4 := (hb.cell (p := ⟨w6.heap.size, 4, none⟩) lt_v).trans v4
           replace v5 := (hb.cell (p := ⟨w6.heap.size, 5, none⟩) lt_v).trans v5
           replace lt_v : w6.heap.size < w10.heap.size := Nat.lt_of_lt_of_le lt_v hb.size
           replace s0 := (hb.cell (p := ⟨w7.heap.size, 0, none⟩) lt_s).trans s0
           replace s1 := (hb.cell (p := ⟨w7.heap.size, 1, none⟩) lt_s).trans s1
           replace s2 := (hb.cell (p := ⟨w7.heap.size, 2, none⟩) lt_s).trans s2
           replace s3 := (hb.cell (p := ⟨w7.heap.size, 3, none⟩) lt_s).trans s3
           replace s4 := (hb.cell (p := ⟨w7.heap.size, 4, none⟩) lt_s).trans s4
           replace s5 := (hb.cell (p := ⟨w7.heap.size, 5, none⟩) lt_s).trans s5
           replace lt_s : w7.heap.size < w10.heap.size := Nat.lt_of_lt_of_le lt_s hb.size
           replace t0 := (hb.cell (p := ⟨w8.heap.size, 0, none⟩) lt_t).trans t0
           replace t1 := (hb.cell (p := ⟨w8.heap.size, 1, none⟩) lt_t).trans t1
           replace t2 := (hb.cell (p := ⟨w8.heap.size, 2, none⟩) lt_t).trans t2
           replace t3 := (hb.cell (p := ⟨w8.heap.size, 3, none⟩) lt_t).trans t3
           replace t4 := (hb.cell (p := ⟨w8.heap.size, 4, none⟩) lt_t).trans t4
           replace t5 := (hb.cell (p := ⟨w8.heap.size, 5, none⟩) lt_t).trans t5
           replace lt_t : w8.heap.size < w10.heap.size := Nat.lt_of_lt_of_le lt_t hb.size
           replace n0 := (hb.cell (p := ⟨w80.heap.size, 0, none⟩) lt_n).trans n0
           replace n1 := (hb.cell (p := ⟨w80.heap.size, 1, none⟩) lt_n).trans n1
           replace n2 := (hb.cell (p := ⟨w80.heap.size, 2, none⟩) lt_n).trans n2
           replace n3 := (hb.cell (p := ⟨w80.heap.size, 3, none⟩) lt_n).trans n3
           replace n4 := (hb.cell (p := ⟨w80.heap.size, 4, none⟩) lt_n).trans n4
           replace n5 := (hb.cell (p := ⟨w80.heap.size, 5, none⟩) lt_n).trans n5
           replace lt_n : w80.heap.size < w10.heap.size := Nat.lt_of_lt_of_le lt_n hb.size
           replace TA := Lib.hid (TA.out.up hb)
           replace TD := Lib.hid (TD.out.up hb)
           replace TP := Lib.hid (TP.out.up hb)
           replace TQ := Lib.hid (TQ.out.up hb)
           replace TU := Lib.hid (TU.out.up hb)
           replace TV := Lib.hid (TV.out.up hb)
           replace TS := Lib.hid (TS.out.up hb)
           replace TT := Lib.hid (TT.out.up hb)
           replace TN := Lib.hid (TN.out.up hb)
           replace HW := Lib.hid (HW.out.trans (hb.mono HW.out.size))
           clear hb
           clear tok2 _t
           skip)
        | (go_at_call 24
           have _t := tok3
           refine (alike_any xd xd _ _ _ (by exact TS.out) (by exact TT.out)).mono ?_
           rintro e w11 ⟨rfl, hb⟩
           rw [L3.out]
           replace p0 := (hb.cell (p := ⟨w3.heap.size, 0, none⟩) lt_p).trans p0
           replace p1 := (hb.cell (p := ⟨w3.heap.size, 1, none⟩) lt_p).trans p1
           replace p2 := (hb.cell (p := ⟨w3.heap.size, 2, none⟩) lt_p).trans p2
           replace p3 := (hb.cell (p := ⟨w3.heap.size, 3, none⟩) lt_p).trans p3
           replace p4 := (hb.cell (p := ⟨w3.heap.size, 4, none⟩) lt_p).trans p4
           replace p5 := (hb.cell (p := ⟨w3.heap.size, 5, none⟩) lt_p).trans p5
           replace lt_p : w3.heap.size < w11.heap.size := Nat.lt_of_lt_of_le lt_p hb.size
           replace q0 := (hb.cell (p := ⟨w4.heap.size, 0, none⟩) lt_q).trans q0
           replace q1 := (hb.cell (p := ⟨w4.heap.size, 1, none⟩) lt_q).trans q1
           replace q2 := (hb.cell (p := ⟨w4.heap.size, 2, none⟩) lt_q).trans q2
           replace q3 := (hb.cell (p := ⟨w4.heap.size, 3, none⟩) lt_q).trans q3
           replace q4 := (hb.cell (p := ⟨w4.heap.size, 4, none⟩) lt_q).trans q4
           replace q5 := (hb.cell (p := ⟨w4.heap.size, 5, none⟩) lt_q).trans q5
           replace lt_q : w4.heap.size < w11.heap.size := Nat.lt_of_lt_of_le lt_q hb.size
           replace u0 := (hb.cell (p := ⟨w5.heap.size, 0, none⟩) lt_u).trans u0
           replace u1 := (hb.cell (p := ⟨w5.heap.size, 1, none⟩) lt_u).trans u1
           replace u2 := (hb.cell (p := ⟨w5.heap.size, 2, none⟩) lt_u).trans u2
           replace u3 := (hb.cell (p := ⟨w5.heap.size, 3, none⟩) lt_u).trans u3
           replace u4 := (hb.cell (p := ⟨w5.heap.size, 4, none⟩) lt_u).trans u4
           replace u5 := (hb.cell (p := ⟨w5.heap.size, 5, none⟩) lt_u).trans u5
           replace lt_u : w5.heap.size < w11.heap.size := Nat.lt_of_lt_of_le lt_u hb.size
           replace v0 := (hb.cell (p := ⟨w6.heap.size, 0, none⟩) lt_v).trans v0
           replace v1 := (hb.cell (p := ⟨w6.heap.size, 1, none⟩) lt_v).trans v1
           replace v2 := (hb.cell (p := ⟨w6.heap.size, 2, none⟩) lt_v).trans v2
           replace v3 := (hb.cell (p := ⟨w6.heap.size, 3, none⟩) lt_v).trans v3
           replace v4 := (hb.cell (p := ⟨w6.heap.size, 4, none⟩) lt_v).trans v4
           replace v5 := (hb.cell (p := ⟨w6.heap.size, 5, none⟩) lt_v).trans v5
           replace lt_v : w6.heap.size < w11.heap.size := Nat.lt_of_lt_of_le lt_v hb.size
           replace s0 := (hb.cell (p := ⟨w7.heap.size, 0, none⟩) lt_s).trans s0
           replace s1 := (hb.cell (p := ⟨w7.heap.size, 1, none⟩) lt_s).trans s1
           replace s2 := (hb.cell (p := ⟨w7.heap.size, 2, none⟩) lt_s).trans s2
           replace s3 := (hb.cell (p := ⟨w7.heap.size, 3, none⟩) lt_s).trans s3
           replace s4 := (hb.cell (p := ⟨w7.heap.size, 4, none⟩) lt_s).trans s4
           replace s5 := (hb.cell (p := ⟨w7.heap.size, 5, none⟩) lt_s).trans s5
           replace lt_s : w7.heap.size < w11.heap.size := Nat.lt_of_lt_of_le lt_s hb.size
           replace t0 := (hb.cell (p := ⟨w8.heap.size, 0, none⟩) lt_t).trans t0
           replace t1 := (hb.cell (p := ⟨w8.heap.size, 1, none⟩) lt_t).trans t1
           replace t2 := (hb.cell (p := ⟨w8.heap.size, 2, none⟩) lt_t).trans t2
           replace t3 := (hb.cell (p := ⟨w8.heap.size, 3, none⟩) lt_t).trans t3
           replace t4 := (hb.cell (p := ⟨w8.heap.size, 4, none⟩) lt_t).trans t4
           replace t5 := (hb.cell (p := ⟨w8.heap.size, 5, none⟩) lt_t).trans t5
           replace lt_t : w8.heap.size < w11.heap.size := Nat.lt_of_lt_of_le lt_t hb.size
           replace n0 := (hb.cell (p := ⟨w80.heap.size, 0, none⟩) lt_n).trans n0
           replace n1 := (hb.cell (p := ⟨w80.heap.size, 1, none⟩) lt_n).trans n1
           replace n2 := (hb.cell (p := ⟨w80.heap.size, 2, none⟩) lt_n).trans n2
           replace n3 := (hb.cell (p := ⟨w80.heap.size, 3, none⟩) lt_n).trans n3
           replace n4 := (hb.cell (p := ⟨w80.heap.size, 4, none⟩) lt_n).trans n4
           replace n5 := (hb.cell (p := ⟨w80.heap.size, 5, none⟩) lt_n).trans n5
           replace lt_n : w80.heap.size < w11.heap.size := Nat.lt_of_lt_of_le lt_n hb.size
           replace TA := Lib.hid (TA.out.up hb)
           replace TD := Lib.hid (TD.out.up hb)
           replace TP := Lib.hid (TP.out.up hb)
           replace TQ := Lib.hid (TQ.out.up hb)
           replace TU := Lib.hid (TU.out.up hb)
           replace TV := Lib.hid (TV.out.up hb)
           replace TS := Lib.hid (TS.out.up hb)
           replace TT := Lib.hid (TT.out.up hb)
           replace TN := Lib.hid (TN.out.up hb)
           replace HW := Lib.hid (HW.out.trans (hb.mono HW.out.size))
           clear hb
           clear tok3 _t
           skip)
        | (go_at_call 15
           refine (rcheck_any nd _ _ _ (by exact TN.out) (Nat.le_refl _)).mono ?_
           rintro e w12 ⟨rfl, hb⟩
           rw [Cn.out]
           replace p0 := (hb.cell (p := ⟨w3.heap.size, 0, none⟩) lt_p).trans p0
           replace p1 := (hb.cell (p := ⟨w3.heap.size, 1, none⟩) lt_p).trans p1
           replace p2 := (hb.cell (p := ⟨w3.heap.size, 2, none⟩) lt_p).trans p2
           replace p3 := (hb.cell (p := ⟨w3.heap.size, 3, none⟩) lt_p).trans p3
           replace p4 := (hb.cell (p := ⟨w3.heap.size, 4, none⟩) lt_p).trans p4
           replace p5 := (hb.cell (p := ⟨w3.heap.size, 5, none⟩) lt_p).trans p5
           replace lt_p : w3.heap.size < w12.heap.size := Nat.lt_of_lt_of_le lt_p hb.size
           replace q0 := (hb.cell (p := ⟨w4.heap.size, 0, none⟩) lt_q).trans q0
           replace q1 := (hb.cell (p := ⟨w4.heap.size, 1, none⟩) lt_q).trans q1
           replace q2 := (hb.cell (p := ⟨w4.heap.size, 2, none⟩) lt_q).trans q2
           replace q3 := (hb.cell (p := ⟨w4.heap.size, 3, none⟩) lt_q).trans q3
           replace q4 := (hb.cell (p := ⟨w4.heap.size, 4, none⟩) lt_q).trans q4
           replace q5 := (hb.cell (p := ⟨w4.heap.size, 5, none⟩) lt_q).trans q5
           replace lt_q : w4.heap.size < w12.heap.size := Nat.lt_of_lt_of_le lt_q hb.size
           replace u0 := (hb.cell (p := ⟨w5.heap.size, 0, none⟩) lt_u).trans u0
           replace u1 := (hb.cell (p := ⟨w5.heap.size, 1, none⟩) lt_u).trans u1
           replace u2 := (hb.cell (p := ⟨w5.heap.size, 2, none⟩) lt_u).trans u2
           replace u3 := (hb.cell (p := ⟨w5.heap.size, 3, none⟩) lt_u).trans u3
           replace u4 := (hb.cell (p := ⟨w5.heap.size, 4, none⟩) lt_u).trans u4
           replace u5 := (hb.cell (p := ⟨w5.heap.size, 5, none⟩) lt_u).trans u5
           replace lt_u : w5.heap.size < w12.heap.size := Nat.lt_of_lt_of_le lt_u hb.size
           replace v0 := (hb.cell (p := ⟨w6.heap.size, 0, none⟩) lt_v).trans v0
           replace v1 := (hb.cell (p := ⟨w6.heap.size, 1, none⟩) lt_v).trans v1
           replace v2 := (hb.cell (p := ⟨w6.heap.size, 2, none⟩) lt_v).trans v2
           replace v3 := (hb.cell (p := ⟨w6.heap.size, 3, none⟩) lt_v).trans v3
           replace v4 := (hb.cell (p := ⟨w6.heap.size, 4, none⟩) lt_v).trans v4
           replace v5 := (hb.cell (p := ⟨w6.heap.size, 5, none⟩) lt_v).trans v5
           replace lt_v : w6.heap.size < w12.heap.size := Nat.lt_of_lt_of_le lt_v hb.size
           replace s0 := (hb.cell (p := ⟨w7.heap.size, 0, none⟩) lt_s).trans s0
           replace s1 := (hb.cell (p := ⟨w7.heap.size, 1, none⟩) lt_s).trans s1
           replace s2 := (hb.cell (p := ⟨w7.heap.size, 2, none⟩) lt_s).trans s2
           replace s3 := (hb.cell (p := ⟨w7.heap.size, 3, none⟩) lt_s).trans s3
           replace s4 := (hb.cell (p := ⟨w7.heap.size, 4, none⟩) lt_s).trans s4
           replace s5 := (hb.cell (p := ⟨w7.heap.size, 5, none⟩) lt_s).trans s5
           replace lt_s : w7.heap.size < w12.heap.size := Nat.lt_of_lt_of_le lt_s hb.size
           replace t0 := (hb.cell (p := ⟨w8.heap.size, 0, none⟩) lt_t).trans t0
           replace t1 := (hb.cell (p := ⟨w8.heap.size, 1, none⟩) lt_t).trans t1
           replace t2 := (hb.cell (p := ⟨w8.heap.size, 2, none⟩) lt_t).trans t2
           replace t3 := (hb.cell (p := ⟨w8.heap.size, 3, none⟩) lt_t).trans t3
           replace t4 := (hb.cell (p := ⟨w8.heap.size, 4, none⟩) lt_t).trans t4
           replace t5 := (hb.cell (p := ⟨w8.heap.size, 5, none⟩) lt_t).trans t5
           replace lt_t : w8.heap.size < w12.heap.size := Nat.lt_of_lt_of_le lt_t hb.size
           replace n0 := (hb.cell (p := ⟨w80.heap.size, 0, none⟩) lt_n).trans n0
           replace n1 := (hb.cell (p := ⟨w80.heap.size, 1, none⟩) lt_n).trans n1
           replace n2 := (hb.cell (p := ⟨w80.heap.size, 2, none⟩) lt_n).trans n2
           replace n3 := (hb.cell (p := ⟨w80.heap.size, 3, none⟩) lt_n).trans n3
           replace n4 := (hb.cell (p := ⟨w80.heap.size, 4, none⟩) lt_n).trans n4
           replace n5 := (hb.cell (p := ⟨w80.heap.size, 5, none⟩) lt_n).trans n5
           replace lt_n : w80.heap.size < w12.heap.size := Nat.lt_of_lt_of_le lt_n hb.size
           replace TA := Lib.hid (TA.out.up hb)
           replace TD := Lib.hid (TD.out.up hb)
           replace TP := Lib.hid (TP.out.up hb)
           replace TQ := Lib.hid (TQ.out.up hb)
           replace TU := Lib.hid (TU.out.up hb)
           replace TV := Lib.hid (TV.out.up hb)
           replace TS := Lib.hid (TS.out.up hb)
           replace TT := Lib.hid (TT.out.up hb)
           replace TN := Lib.hid (TN.out.up hb)
           replace HW := Lib.hid (HW.out.trans (hb.mono HW.out.size))
           clear hb
           skip)
        | (go_at_call 37
           refine (rlist_any al lc l w.heap.size _ Hs.out (by exact Hl.out.below HW.out) HW.out.size).mono ?_
           rintro e w13 ⟨v', rfl, hb, hi⟩
           rw [Nd.out] at hi
           have hi2 := hi
           obtain ⟨rm, rcm, rl, rcl, rt, rct, rfl, _⟩ := hi2.open_
           have TR := Lib.hid hi
           clear hi hi2
           replace p0 := (hb.cell (p := ⟨w3.heap.size, 0, none⟩) lt_p).trans p0
           replace p1 := (hb.cell (p := ⟨w3.heap.size, 1, none⟩) lt_p).trans p1
           replace p2 := (hb.cell (p := ⟨w3.heap.size, 2, none⟩) lt_p).trans p2
           replace p3 := (hb.cell (p := ⟨w3.heap.size, 3, none⟩) lt_p).trans p3
           replace p4 := (hb.cell (p := ⟨w3.heap.size, 4, none⟩) lt_p).trans p4
           replace p5 := (hb.cell (p := ⟨w3.heap.size, 5, none⟩) lt_p).trans p5
           replace lt_p : w3.heap.size < w13.heap.size := Nat.lt_of_lt_of_le lt_p hb.size
           replace q0 := (hb.cell (p := ⟨w4.heap.size, 0, none⟩) lt_q).trans q0
           replace q1 := (hb.cell (p := ⟨w4.heap.size, 1, none⟩) lt_q).trans q1
           replace q2 := (hb.cell (p := ⟨w4.heap.size, 2, none⟩) lt_q).trans q2
           replace q3 := (hb.cell (p := ⟨w4.heap.size, 3, none⟩) lt_q).trans q3
           replace q4 := (hb.cell (p := ⟨w4.heap.size, 4, none⟩) lt_q).trans q4
           replace q5 := (hb.cell (p := ⟨w4.heap.size, 5, none⟩) lt_q).trans q5
           replace lt_q : w4.heap.size < w13.heap.size := Nat.lt_of_lt_of_le lt_q hb.size
           replace u0 := (hb.cell (p := ⟨w5.heap.size, 0, none⟩) lt_u).trans u0
           replace u1 := (hb.cell (p := ⟨w5.heap.size, 1, none⟩) lt_u).trans u1
           replace u2 := (hb.cell (p := ⟨w5.heap.size, 2, none⟩) lt_u).trans u2
           replace u3 := (hb.cell (p := ⟨w5.heap.size, 3, none⟩) lt_u).trans u3
           replace u4 := (hb.cell (p := ⟨w5.heap.size, 4, none⟩) lt_u).trans u4
           replace u5 := (hb.cell (p := ⟨w5.heap.size, 5, none⟩) lt_u).trans u5
           replace lt_u : w5.heap.size < w13.heap.size := Nat.lt_of_lt_of_le lt_u hb.size
           replace v0 := (hb.cell (p := ⟨w6.heap.size, 0, none⟩) lt_v).trans v0
           replace v1 := (hb.cell (p := ⟨w6.heap.size, 1, none⟩) lt_v).trans v1
           replace v2 := (hb.cell (p := ⟨w6.heap.size, 2, none⟩) lt_v).trans v2
           replace v3 := (hb.cell (p := ⟨w6.heap.size, 3, none⟩) lt_v).trans v3
           replace v4 := (hb.cell (p := ⟨w6.heap.size, 4, none⟩) lt_v).trans v4
           replace v5 := (hb.cell (p := ⟨w6.heap.size, 5, none⟩) lt_v).trans v5
           replace lt_v : w6.heap.size < w13.heap.size := Nat.lt_of_lt_of_le lt_v hb.size
           replace s0 := (hb.cell (p := ⟨w7.heap.size, 0, none⟩) lt_s).trans s0
           replace s1 := (hb.cell (p := ⟨w7.heap.size, 1, none⟩) lt_s).trans s1
           replace s2 := (hb.cell (p := ⟨w7.heap.size, 2, none⟩) lt_s).trans s2
           replace s3 := (hb.cell (p := ⟨w7.heap.size, 3, none⟩) lt_s).trans s3
           replace s4 := (hb.cell (p := ⟨w7.heap.size, 4, none⟩) lt_s).trans s4
           replace s5 := (hb.cell (p := ⟨w7.heap.size, 5, none⟩) lt_s).trans s5
           replace lt_s : w7.heap.size < w13.heap.size := Nat.lt_of_lt_of_le lt_s hb.size
           replace t0 := (hb.cell (p := ⟨w8.heap.size, 0, none⟩) lt_t).trans t0
           replace t1 := (hb.cell (p := ⟨w8.heap.size, 1, none⟩) lt_t).trans t1
           replace t2 := (hb.cell (p := ⟨w8.heap.size, 2, none⟩) lt_t).trans t2
           replace t3 := (hb.cell (p := ⟨w8.heap.size, 3, none⟩) lt_t).trans t3
           replace t4 := (hb.cell (p := ⟨w8.heap.size, 4, none⟩) lt_t).trans t4
           replace t5 := (hb.cell (p := ⟨w8.heap.size, 5, none⟩) lt_t).trans t5
           replace lt_t : w8.heap.size < w13.heap.size := Nat.lt_of_lt_of_le lt_t hb.size
           replace n0 := (hb.cell (p := ⟨w80.heap.size, 0, none⟩) lt_n).trans n0
           replace n1 := (hb.cell (p := ⟨w80.heap.size, 1, none⟩) lt_n).trans n1
           replace n2 := (hb.cell (p := ⟨w80.heap.size, 2, none⟩) lt_n).trans n2
           replace n3 := (hb.cell (p := ⟨w80.heap.size, 3, none⟩) lt_n).trans n3
           replace n4 := (hb.cell (p := ⟨w80.heap.size, 4, none⟩) lt_n).trans n4
           replace n5 := (hb.cell (p := ⟨w80.heap.size, 5, none⟩) lt_n).trans n5
           replace lt_n : w80.heap.size < w13.heap.size := Nat.lt_of_lt_of_le lt_n hb.size
           replace TA := Lib.hid (TA.out.up hb)
           replace TD := Lib.hid (TD.out.up hb)
           replace TP := Lib.hid (TP.out.up hb)
           replace TQ := Lib.hid (TQ.out.up hb)
           replace TU := Lib.hid (TU.out.up hb)
           replace TV := Lib.hid (TV.out.up hb)
           replace TS := Lib.hid (TS.out.up hb)
           replace TT := Lib.hid (TT.out.up hb)
           replace TN := Lib.hid (TN.out.up hb)
           replace HW := Lib.hid (HW.out.trans (hb.mono HW.out.size))
           clear hb
           skip)
        | (go_at_call 23
           refine (rsame_any nd nd _ _ _ _ (by exact TN.out) (by exact TR.out) (Nat.le_refl _)).mono ?_
           rintro e w14 ⟨rfl, hb⟩
           rw [Sm.out]
           replace p0 := (hb.cell (p := ⟨w3.heap.size, 0, none⟩) lt_p).trans p0
           replace p1 := (hb.cell (p := ⟨w3.heap.size, 1, none⟩) lt_p).trans p1
           replace p2 := (hb.cell (p := ⟨w3.heap.size, 2, none⟩) lt_p).trans p2
           replace p3 := (hb.cell (p := ⟨w3.heap.size, 3, none⟩) lt_p).trans p3
           replace p4 := (hb.cell (p := ⟨w3.heap.size, 4, none⟩) lt_p).trans p4
           replace p5 := (hb.cell (p := ⟨w3.heap.size, 5, none⟩) lt_p).trans p5
           replace lt_p : w3.heap.size < w14.heap.size := Nat.lt_of_lt_of_le lt_p hb.size
           replace q0 := (hb.cell (p := ⟨w4.heap.size, 0, none⟩) lt_q).trans q0
           replace q1 := (hb.cell (p := ⟨w4.heap.size, 1, none⟩) lt_q).trans q1
           replace q2 := (hb.cell (p := ⟨w4.heap.size, 2, none⟩) lt_q).trans q2
           replace q3 := (hb.cell (p := ⟨w4.heap.size, 3, none⟩) lt_q).trans q3
           replace q4 := (hb.cell (p := ⟨w4.heap.size, 4, none⟩) lt_q).trans q4
           replace q5 := (hb.cell (p := ⟨w4.heap.size, 5, none⟩) lt_q).trans q5
           replace lt_q : w4.heap.size < w14.heap.size := Nat.lt_of_lt_of_le lt_q hb.size
           replace u0 := (hb.cell (p := ⟨w5.heap.size, 0, none⟩) lt_u).trans u0
           replace u1 := (hb.cell (p := ⟨w5.heap.size, 1, none⟩) lt_u).trans u1
           replace u2 := (hb.cell (p := ⟨w5.heap.size, 2, none⟩) lt_u).trans u2
           replace u3 := (hb.cell (p := ⟨w5.heap.size, 3, none⟩) lt_u).trans u3
           replace u4 := (hb.cell (p := ⟨w5.heap.size, 4, none⟩) lt_u).trans u4
           replace u5 := (hb.cell (p := ⟨w5.heap.size, 5, none⟩) lt_u).trans u5
           replace lt_u : w5.heap.size < w14.heap.size := Nat.lt_of_lt_of_le lt_u hb.size
           replace v0 := (hb.cell (p := ⟨w6.heap.size, 0, none⟩) lt_v).trans v0
           replace v1 := (hb.cell (p := ⟨w6.heap.size, 1, none⟩) lt_v).trans v1
           replace v2 := (hb.cell (p := ⟨w6.heap.size, 2, none⟩) lt_v).trans v2
           replace v3 := (hb.cell (p := ⟨w6.heap.size, 3, none⟩) lt_v).trans v3
           replace v4 := (hb.cell (p := ⟨w6.heap.size, 4, none⟩) lt_v).trans v4
           replace v5 := (hb.cell (p := ⟨w6.heap.size, 5, none⟩) lt_v).trans v5
           replace lt_v : w6.heap.size < w14.heap.size := Nat.lt_of_lt_of_le lt_v hb.size
           replace s0 := (hb.cell (p := ⟨w7.heap.size, 0, none⟩) lt_s).trans s0
           replace s1 := (hb.cell (p := ⟨w7.heap.size, 1, none⟩) lt_s).trans s1
           replace s2 := (hb.cell (p := ⟨w7.heap.size, 2, none⟩) lt_s).trans s2
           replace s3 := (hb.cell (p := ⟨w7.heap.size, 3, none⟩) lt_s).trans s3
           replace s4 := (hb.cell (p := ⟨w7.heap.size, 4, none⟩) lt_s).trans s4
           replace s5 := (hb.cell (p := ⟨w7.heap.size, 5, none⟩) lt_s).trans s5
           replace lt_s : w7.heap.size < w14.heap.size := Nat.lt_of_lt_of_le lt_s hb.size
           replace t0 := (hb.cell (p := ⟨w8.heap.size, 0, none⟩) lt_t).trans t0
           replace t1 := (hb.cell (p := ⟨w8.heap.size, 1, none⟩) lt_t).trans t1
           replace t2 := (hb.cell (p := ⟨w8.heap.size, 2, none⟩) lt_t).trans t2
           replace t3 := (hb.cell (p := ⟨w8.heap.size, 3, none⟩) lt_t).trans t3
           replace t4 := (hb.cell (p := ⟨w8.heap.size, 4, none⟩) lt_t).trans t4
           replace t5 := (hb.cell (p := ⟨w8.heap.size, 5, none⟩) lt_t).trans t5
           replace lt_t : w8.heap.size < w14.heap.size := Nat.lt_of_lt_of_le lt_t hb.size
           replace n0 := (hb.cell (p := ⟨w80.heap.size, 0, none⟩) lt_n).trans n0
           replace n1 := (hb.cell (p := ⟨w80.heap.size, 1, none⟩) lt_n).trans n1
           replace n2 := (hb.cell (p := ⟨w80.heap.size, 2, none⟩) lt_n).trans n2
           replace n3 := (hb.cell (p := ⟨w80.heap.size, 3, none⟩) lt_n).trans n3
           replace n4 := (hb.cell (p := ⟨w80.heap.size, 4, none⟩) lt_n).trans n4
           replace n5 := (hb.cell (p := ⟨w80.heap.size, 5, none⟩) lt_n).trans n5
           replace lt_n : w80.heap.size < w14.heap.size := Nat.lt_of_lt_of_le lt_n hb.size
           replace TA := Lib.hid (TA.out.up hb)
           replace TD := Lib.hid (TD.out.up hb)
           replace TP := Lib.hid (TP.out.up hb)
           replace TQ := Lib.hid (TQ.out.up hb)
           replace TU := Lib.hid (TU.out.up hb)
           replace TV := Lib.hid (TV.out.up hb)
           replace TS := Lib.hid (TS.out.up hb)
           replace TT := Lib.hid (TT.out.up hb)
           replace TN := Lib.hid (TN.out.up hb)
           replace TR := Lib.hid (TR.out.up hb)
           replace HW := Lib.hid (HW.out.trans (hb.mono HW.out.size))
           clear hb
           skip))
    go_wp2_with fail
    go_ret
    exact ⟨rfl, HW.out⟩
  · have dn : (cn != 0) = true := by simp [h0]
    clear h0
    have HW := Lib.hid (bel_refl w)
    go_enter Try.func6, Try.ntmps6
    go_wp2_with fail
    obtain ⟨hbX, hsX, hkX⟩ := start_allocs [(#[.int .i64 a.K, .int .i64 a.N, .string a.S, .slice am a.M.length acm, .slice al' a.L.length acl, .slice at' a.T.length act], 25), (#[.int .i64 d.K, .int .i64 d.N, .string d.S, .slice dm d.M.length dcm, .slice dl d.L.length dcl, .slice dt d.T.length dct], 25)] w
    have g0 := hkX 0 _ rfl
    have g1 := hkX 1 _ rfl
    set_option linter.unusedSimpArgs false in
    simp only [allocs, List.foldl_cons, List.foldl_nil, Nat.add_zero, List.length_cons, List.length_nil, Nat.zero_add, Nat.reduceAdd] at hbX hsX g0 g1
    clear hkX
    generalize (w.alloc (.cells #[.int .i64 a.K, .int .i64 a.N, .string a.S, .slice am a.M.length acm, .slice al' a.L.length acl, .slice at' a.T.length act] 25)).alloc (.cells #[.int .i64 d.K, .int .i64 d.N, .string d.S, .slice dm d.M.length dcm, .slice dl d.L.length dcl, .slice dt d.T.length dct] 25) = X0 at *
    have x0 : X0.cell? ⟨w.heap.size, 0, none⟩ = some (.int .i64 a.K) := (g0.cell 0).trans rfl
    have x1 : X0.cell? ⟨w.heap.size, 1, none⟩ = some (.int .i64 a.N) := (g0.cell 1).trans rfl
    have x2 : X0.cell? ⟨w.heap.size, 2, none⟩ = some (.string a.S) := (g0.cell 2).trans rfl
    have x3 : X0.cell? ⟨w.heap.size, 3, none⟩ = some (.slice am a.M.length acm) := (g0.cell 3).trans rfl
    have x4 : X0.cell? ⟨w.heap.size, 4, none⟩ = some (.slice al' a.L.length acl) := (g0.cell 4).trans rfl
    have x5 : X0.cell? ⟨w.heap.size, 5, none⟩ = some (.slice at' a.T.length act) := (g0.cell 5).trans rfl
    have lt_x : w.heap.size < X0.heap.size := by omega
    have y0 : X0.cell? ⟨w.heap.size + 1, 0, none⟩ = some (.int .i64 d.K) := (g1.cell 0).trans rfl
    have y1 : X0.cell? ⟨w.heap.size + 1, 1, none⟩ = some (.int .i64 d.N) := (g1.cell 1).trans rfl
    have y2 : X0.cell? ⟨w.heap.size + 1, 2, none⟩ = some (.string d.S) := (g1.cell 2).trans rfl
    have y3 : X0.cell? ⟨w.heap.size + 1, 3, none⟩ = some (.slice dm d.M.length dcm) := (g1.cell 3).trans rfl
    have y4 : X0.cell? ⟨w.heap.size + 1, 4, none⟩ = some (.slice dl d.L.length dcl) := (g1.cell 4).trans rfl
    have y5 : X0.cell? ⟨w.heap.size + 1, 5, none⟩ = some (.slice dt d.T.length dct) := (g1.cell 5).trans rfl
    have lt_y : w.heap.size + 1 < X0.heap.size := by omega
    clear g0 g1 hsX
    replace TA := Lib.hid (TA.out.up hbX)
    replace TD := Lib.hid (TD.out.up hbX)
    replace HW := Lib.hid (HW.out.trans (hbX.mono HW.out.size))
    clear hbX
    refine (awake_any X0).mono ?_
    rintro e w0 ⟨rfl, hb⟩
    replace x0 := (hb.cell (p := ⟨w.heap.size, 0, none⟩) lt_x).trans x0
    replace x1 := (hb.cell (p := ⟨w.heap.size, 1, none⟩) lt_x).trans x1
    replace x2 := (hb.cell (p := ⟨w.heap.size, 2, none⟩) lt_x).trans x2
    replace x3 := (hb.cell (p := ⟨w.heap.size, 3, none⟩) lt_x).trans x3
    replace x4 := (hb.cell (p := ⟨w.heap.size, 4, none⟩) lt_x).trans x4
    replace x5 := (hb.cell (p := ⟨w.heap.size, 5, none⟩) lt_x).trans x5
    replace lt_x : w.heap.size < w0.heap.size := Nat.lt_of_lt_of_le lt_x hb.size
    replace y0 := (hb.cell (p := ⟨w.heap.size + 1, 0, none⟩) lt_y).trans y0
    replace y1 := (hb.cell (p := ⟨w.heap.size + 1, 1, none⟩) lt_y).trans y1
    replace y2 := (hb.cell (p := ⟨w.heap.size + 1, 2, none⟩) lt_y).trans y2
    replace y3 := (hb.cell (p := ⟨w.heap.size + 1, 3, none⟩) lt_y).trans y3
    replace y4 := (hb.cell (p := ⟨w.heap.size + 1, 4, none⟩) lt_y).trans y4
    replace y5 := (hb.cell (p := ⟨w.heap.size + 1, 5, none⟩) lt_y).trans y5
    replace lt_y : w.heap.size + 1 < w0.heap.size := Nat.lt_of_lt_of_le lt_y hb.size
    replace TA := Lib.hid (TA.out.up hb)
    replace TD := Lib.hid (TD.out.up hb)
    replace HW := Lib.hid (HW.out.trans (hb.mono HW.out.size))
    clear hb
    go_wp2_with fail
    refine (small_any a _ _ w0 (by exact TA.out) (Nat.le_refl _)).mono ?_
    rintro e w1 ⟨rfl, hb⟩
    rw [Sa.out]
    replace x0 := (hb.cell (p := ⟨w.heap.size, 0, none⟩) lt_x).trans x0
    replace x1 := (hb.cell (p := ⟨w.heap.size, 1, none⟩) lt_x).trans x1
    replace x2 := (hb.cell (p := ⟨w.heap.size, 2, none⟩) lt_x).trans x2
    replace x3 := (hb.cell (p := ⟨w.heap.size, 3, none⟩) lt_x).trans x3
    replace x4 := (hb.cell (p := ⟨w.heap.size, 4, none⟩) lt_x).trans x4
    replace x5 := (hb.cell (p := ⟨w.heap.size, 5, none⟩) lt_x).trans x5
    replace lt_x : w.heap.size < w1.heap.size := Nat.lt_of_lt_of_le lt_x hb.size
    replace y0 := (hb.cell (p := ⟨w.heap.size + 1, 0, none⟩) lt_y).trans y0
    replace y1 := (hb.cell (p := ⟨w.heap.size + 1, 1, none⟩) lt_y).trans y1
    replace y2 := (hb.cell (p := ⟨w.heap.size + 1, 2, none⟩) lt_y).trans y2
    replace y3 := (hb.cell (p := ⟨w.heap.size + 1, 3, none⟩) lt_y).trans y3
    replace y4 := (hb.cell (p := ⟨w.heap.size + 1, 4, none⟩) lt_y).trans y4
    replace y5 := (hb.cell (p := ⟨w.heap.size + 1, 5, none⟩) lt_y).trans y5
    replace lt_y : w.heap.size + 1 < w1.heap.size := Nat.lt_of_lt_of_le lt_y hb.size
    replace TA := Lib.hid (TA.out.up hb)
    replace TD := Lib.hid (TD.out.up hb)
    replace HW := Lib.hid (HW.out.trans (hb.mono HW.out.size))
    clear hb
    go_wp2_with fail
    refine (small_any d _ _ w1 (by exact TD.out) (Nat.le_refl _)).mono ?_
    rintro e w2 ⟨rfl, hb⟩
    rw [Sd.out]
    replace x0 := (hb.cell (p := ⟨w.heap.size, 0, none⟩) lt_x).trans x0
    replace x1 := (hb.cell (p := ⟨w.heap.size, 1, none⟩) lt_x).trans x1
    replace x2 := (hb.cell (p := ⟨w.heap.size, 2, none⟩) lt_x).trans x2
    replace x3 := (hb.cell (p := ⟨w.heap.size, 3, none⟩) lt_x).trans x3
    replace x4 := (hb.cell (p := ⟨w.heap.size, 4, none⟩) lt_x).trans x4
    replace x5 := (hb.cell (p := ⟨w.heap.size, 5, none⟩) lt_x).trans x5
    replace lt_x : w.heap.size < w2.heap.size := Nat.lt_of_lt_of_le lt_x hb.size
    replace y0 := (hb.cell (p := ⟨w.heap.size + 1, 0, none⟩) lt_y).trans y0
    replace y1 := (hb.cell (p := ⟨w.heap.size + 1, 1, none⟩) lt_y).trans y1
    replace y2 := (hb.cell (p := ⟨w.heap.size + 1, 2, none⟩) lt_y).trans y2
    replace y3 := (hb.cell (p := ⟨w.heap.size + 1, 3, none⟩) lt_y).trans y3
    replace y4 := (hb.cell (p := ⟨w.heap.size + 1, 4, none⟩) lt_y).trans y4
    replace y5 := (hb.cell (p := ⟨w.heap.size + 1, 5, none⟩) lt_y).trans y5
    replace lt_y : w.heap.size + 1 < w2.heap.size := Nat.lt_of_lt_of_le lt_y hb.size
    replace TA := Lib.hid (TA.out.up hb)
    replace TD := Lib.hid (TD.out.up hb)
    replace HW := Lib.hid (HW.out.trans (hb.mono HW.out.size))
    clear hb
    go_wp2_with fail
    refine (cons_any a d _ _ _ w2 (by exact TA.out) (by exact TD.out) (Nat.le_refl _)).mono ?_
    rw [Ce.out, Pc.out]
    intro e w3 hr
    obtain ⟨v', rfl, hb, hi⟩ := hr.out_ (Nat.le_refl _)
    rw [Pd.out] at hi
    have hi2 := hi
    obtain ⟨pm, pcm, pl, pcl, pt, pct, rfl, _⟩ := hi2.open_
    have TP := Lib.hid hi
    clear hi hi2 hr
    replace x0 := (hb.cell (p := ⟨w.heap.size, 0, none⟩) lt_x).trans x0
    replace x1 := (hb.cell (p := ⟨w.heap.size, 1, none⟩) lt_x).trans x1
    replace x2 := (hb.cell (p := ⟨w.heap.size, 2, none⟩) lt_x).trans x2
    replace x3 := (hb.cell (p := ⟨w.heap.size, 3, none⟩) lt_x).trans x3
    replace x4 := (hb.cell (p := ⟨w.heap.size, 4, none⟩) lt_x).trans x4
    replace x5 := (hb.cell (p := ⟨w.heap.size, 5, none⟩) lt_x).trans x5
    replace lt_x : w.heap.size < w3.heap.size := Nat.lt_of_lt_of_le lt_x hb.size
    replace y0 := (hb.cell (p := ⟨w.heap.size + 1, 0, none⟩) lt_y).trans y0
    replace y1 := (hb.cell (p := ⟨w.heap.size + 1, 1, none⟩) lt_y).trans y1
    replace y2 := (hb.cell (p := ⟨w.heap.size + 1, 2, none⟩) lt_y).trans y2
    replace y3 := (hb.cell (p := ⟨w.heap.size + 1, 3, none⟩) lt_y).trans y3
    replace y4 := (hb.cell (p := ⟨w.heap.size + 1, 4, none⟩) lt_y).trans y4
    replace y5 := (hb.cell (p := ⟨w.heap.size + 1, 5, none⟩) lt_y).trans y5
    replace lt_y : w.heap.size + 1 < w3.heap.size := Nat.lt_of_lt_of_le lt_y hb.size
    replace TA := Lib.hid (TA.out.up hb)
    replace TD := Lib.hid (TD.out.up hb)
    replace HW := Lib.hid (HW.out.trans (hb.mono HW.out.size))
    clear hb
    go_wp2_with fail
    obtain ⟨hbX, hsX, hkX⟩ := start_allocs [(#[.int .i64 pd.K, .int .i64 pd.N, .string pd.S, .slice pm pd.M.length pcm, .slice pl pd.L.length pcl, .slice pt pd.T.length pct], 25)] w3
    have g0 := hkX 0 _ rfl
    set_option linter.unusedSimpArgs false in
    simp only [allocs, List.foldl_cons, List.foldl_nil, Nat.add_zero, List.length_cons, List.length_nil, Nat.zero_add, Nat.reduceAdd] at hbX hsX g0
    clear hkX
    generalize w3.alloc (.cells #[.int .i64 pd.K, .int .i64 pd.N, .string pd.S, .slice pm pd.M.length pcm, .slice pl pd.L.length pcl, .slice pt pd.T.length pct] 25) = X1 at *
    have p0 : X1.cell? ⟨w3.heap.size, 0, none⟩ = some (.int .i64 pd.K) := (g0.cell 0).trans rfl
    have p1 : X1.cell? ⟨w3.heap.size, 1, none⟩ = some (.int .i64 pd.N) := (g0.cell 1).trans rfl
    have p2 : X1.cell? ⟨w3.heap.size, 2, none⟩ = some (.string pd.S) := (g0.cell 2).trans rfl
    have p3 : X1.cell? ⟨w3.heap.size, 3, none⟩ = some (.slice pm pd.M.length pcm) := (g0.cell 3).trans rfl
    have p4 : X1.cell? ⟨w3.heap.size, 4, none⟩ = some (.slice pl pd.L.length pcl) := (g0.cell 4).trans rfl
    have p5 : X1.cell? ⟨w3.heap.size, 5, none⟩ = some (.slice pt pd.T.length pct) := (g0.cell 5).trans rfl
    have lt_p : w3.heap.size < X1.heap.size := by omega
    clear g0 hsX
    replace x0 := (hbX.cell (p := ⟨w.heap.size, 0, none⟩) lt_x).trans x0
    replace x1 := (hbX.cell (p := ⟨w.heap.size, 1, none⟩) lt_x).trans x1
    replace x2 := (hbX.cell (p := ⟨w.heap.size, 2, none⟩) lt_x).trans x2
    replace x3 := (hbX.cell (p := ⟨w.heap.size, 3, none⟩) lt_x).trans x3
    replace x4 := (hbX.cell (p := ⟨w.heap.size, 4, none⟩) lt_x).trans x4
    replace x5 := (hbX.cell (p := ⟨w.heap.size, 5, none⟩) lt_x).trans x5
    replace lt_x : w.heap.size < X1.heap.size := Nat.lt_of_lt_of_le lt_x hbX.size
    replace y0 := (hbX.cell (p := ⟨w.heap.size + 1, 0, none⟩) lt_y).trans y0
    replace y1 := (hbX.cell (p := ⟨w.heap.size + 1, 1, none⟩) lt_y).trans y1
    replace y2 := (hbX.cell (p := ⟨w.heap.size + 1, 2, none⟩) lt_y).trans y2
    replace y3 := (hbX.cell (p := ⟨w.heap.size + 1, 3, none⟩) lt_y).trans y3
    replace y4 := (hbX.cell (p := ⟨w.heap.size + 1, 4, none⟩) lt_y).trans y4
    replace y5 := (hbX.cell (p := ⟨w.heap.size + 1, 5, none⟩) lt_y).trans y5
    replace lt_y : w.heap.size + 1 < X1.heap.size := Nat.lt_of_lt_of_le lt_y hbX.size
    replace TA := Lib.hid (TA.out.up hbX)
    replace TD := Lib.hid (TD.out.up hbX)
    replace TP := Lib.hid (TP.out.up hbX)
    replace HW := Lib.hid (HW.out.trans (hbX.mono HW.out.size))
    clear hbX
    refine (rcons_any a d _ _ _ X1 (by exact TA.out) (by exact TD.out) (Nat.le_refl _)).mono ?_
    rw [Ce.out, Pc.out]
    intro e w4 hr
    obtain ⟨v', rfl, hb, hi⟩ := hr.out_ (Nat.le_refl _)
    rw [Pd.out] at hi
    have hi2 := hi
    obtain ⟨qm, qcm, ql, qcl, qt, qct, rfl, _⟩ := hi2.open_
    have TQ := Lib.hid hi
    clear hi hi2 hr
    replace x0 := (hb.cell (p := ⟨w.heap.size, 0, none⟩) lt_x).trans x0
    replace x1 := (hb.cell (p := ⟨w.heap.size, 1, none⟩) lt_x).trans x1
    replace x2 := (hb.cell (p := ⟨w.heap.size, 2, none⟩) lt_x).trans x2
    replace x3 := (hb.cell (p := ⟨w.heap.size, 3, none⟩) lt_x).trans x3
    replace x4 := (hb.cell (p := ⟨w.heap.size, 4, none⟩) lt_x).trans x4
    replace x5 := (hb.cell (p := ⟨w.heap.size, 5, none⟩) lt_x).trans x5
    replace lt_x : w.heap.size < w4.heap.size := Nat.lt_of_lt_of_le lt_x hb.size
    replace y0 := (hb.cell (p := ⟨w.heap.size + 1, 0, none⟩) lt_y).trans y0
    replace y1 := (hb.cell (p := ⟨w.heap.size + 1, 1, none⟩) lt_y).trans y1
    replace y2 := (hb.cell (p := ⟨w.heap.size + 1, 2, none⟩) lt_y).trans y2
    replace y3 := (hb.cell (p := ⟨w.heap.size + 1, 3, none⟩) lt_y).trans y3
    replace y4 := (hb.cell (p := ⟨w.heap.size + 1, 4, none⟩) lt_y).trans y4
    replace y5 := (hb.cell (p := ⟨w.heap.size + 1, 5, none⟩) lt_y).trans y5
    replace lt_y : w.heap.size + 1 < w4.heap.size := Nat.lt_of_lt_of_le lt_y hb.size
    replace p0 := (hb.cell (p := ⟨w3.heap.size, 0, none⟩) lt_p).trans p0
    replace p1 := (hb.cell (p := ⟨w3.heap.size, 1, none⟩) lt_p).trans p1
    replace p2 := (hb.cell (p := ⟨w3.heap.size, 2, none⟩) lt_p).trans p2
    replace p3 := (hb.cell (p := ⟨w3.heap.size, 3, none⟩) lt_p).trans p3
    replace p4 := (hb.cell (p := ⟨w3.heap.size, 4, none⟩) lt_p).trans p4
    replace p5 := (hb.cell (p := ⟨w3.heap.size, 5, none⟩) lt_p).trans p5
    replace lt_p : w3.heap.size < w4.heap.size := Nat.lt_of_lt_of_le lt_p hb.size
    replace TA := Lib.hid (TA.out.up hb)
    replace TD := Lib.hid (TD.out.up hb)
    replace TP := Lib.hid (TP.out.up hb)
    replace HW := Lib.hid (HW.out.trans (hb.mono HW.out.size))
    clear hb
    go_wp2_with fail
    obtain ⟨hbX, hsX, hkX⟩ := start_allocs [(#[.int .i64 pd.K, .int .i64 pd.N, .string pd.S, .slice qm pd.M.length qcm, .slice ql pd.L.length qcl, .slice qt pd.T.length qct], 25)] w4
    have g0 := hkX 0 _ rfl
    set_option linter.unusedSimpArgs false in
    simp only [allocs, List.foldl_cons, List.foldl_nil, Nat.add_zero, List.length_cons, List.length_nil, Nat.zero_add, Nat.reduceAdd] at hbX hsX g0
    clear hkX
    generalize w4.alloc (.cells #[.int .i64 pd.K, .int .i64 pd.N, .string pd.S, .slice qm pd.M.length qcm, .slice ql pd.L.length qcl, .slice qt pd.T.length qct] 25) = X2 at *
    have q0 : X2.cell? ⟨w4.heap.size, 0, none⟩ = some (.int .i64 pd.K) := (g0.cell 0).trans rfl
    have q1 : X2.cell? ⟨w4.heap.size, 1, none⟩ = some (.int .i64 pd.N) := (g0.cell 1).trans rfl
    have q2 : X2.cell? ⟨w4.heap.size, 2, none⟩ = some (.string pd.S) := (g0.cell 2).trans rfl
    have q3 : X2.cell? ⟨w4.heap.size, 3, none⟩ = some (.slice qm pd.M.length qcm) := (g0.cell 3).trans rfl
    have q4 : X2.cell? ⟨w4.heap.size, 4, none⟩ = some (.slice ql pd.L.length qcl) := (g0.cell 4).trans rfl
    have q5 : X2.cell? ⟨w4.heap.size, 5, none⟩ = some (.slice qt pd.T.length qct) := (g0.cell 5).trans rfl
    have lt_q : w4.heap.size < X2.heap.size := by omega
    clear g0 hsX
    replace x0 := (hbX.cell (p := ⟨w.heap.size, 0, none⟩) lt_x).trans x0
    replace x1 := (hbX.cell (p := ⟨w.heap.size, 1, none⟩) lt_x).trans x1
    replace x2 := (hbX.cell (p := ⟨w.heap.size, 2, none⟩) lt_x).trans x2
    replace x3 := (hbX.cell (p := ⟨w.heap.size, 3, none⟩) lt_x).trans x3
    replace x4 := (hbX.cell (p := ⟨w.heap.size, 4, none⟩) lt_x).trans x4
    replace x5 := (hbX.cell (p := ⟨w.heap.size, 5, none⟩) lt_x).trans x5
    replace lt_x : w.heap.size < X2.heap.size := Nat.lt_of_lt_of_le lt_x hbX.size
    replace y0 := (hbX.cell (p := ⟨w.heap.size + 1, 0, none⟩) lt_y).trans y0
    replace y1 := (hbX.cell (p := ⟨w.heap.size + 1, 1, none⟩) lt_y).trans y1
    replace y2 := (hbX.cell (p := ⟨w.heap.size + 1, 2, none⟩) lt_y).trans y2
    replace y3 := (hbX.cell (p := ⟨w.heap.size + 1, 3, none⟩) lt_y).trans y3
    replace y4 := (hbX.cell (p := ⟨w.heap.size + 1, 4, none⟩) lt_y).trans y4
    replace y5 := (hbX.cell (p := ⟨w.heap.size + 1, 5, none⟩) lt_y).trans y5
    replace lt_y : w.heap.size + 1 < X2.heap.size := Nat.lt_of_lt_of_le lt_y hbX.size
    replace p0 := (hbX.cell (p := ⟨w3.heap.size, 0, none⟩) lt_p).trans p0
    replace p1 := (hbX.cell (p := ⟨w3.heap.size, 1, none⟩) lt_p).trans p1
    replace p2 := (hbX.cell (p := ⟨w3.heap.size, 2, none⟩) lt_p).trans p2
    replace p3 := (hbX.cell (p := ⟨w3.heap.size, 3, none⟩) lt_p).trans p3
    replace p4 := (hbX.cell (p := ⟨w3.heap.size, 4, none⟩) lt_p).trans p4
    replace p5 := (hbX.cell (p := ⟨w3.heap.size, 5, none⟩) lt_p).trans p5
    replace lt_p : w3.heap.size < X2.heap.size := Nat.lt_of_lt_of_le lt_p hbX.size
    replace TA := Lib.hid (TA.out.up hbX)
    replace TD := Lib.hid (TD.out.up hbX)
    replace TP := Lib.hid (TP.out.up hbX)
    replace TQ := Lib.hid (TQ.out.up hbX)
    replace HW := Lib.hid (HW.out.trans (hbX.mono HW.out.size))
    clear hbX
    refine (car_any d _ _ X2 (by exact TD.out) (Nat.le_refl _)).mono ?_
    rw [Pe.out, Uc.out]
    intro e w5 hr
    obtain ⟨v', rfl, hb, hi⟩ := hr.out_ (Nat.le_refl _)
    rw [Ud.out] at hi
    have hi2 := hi
    obtain ⟨um, ucm, ul, ucl, ut, uct, rfl, _⟩ := hi2.open_
    have TU := Lib.hid hi
    clear hi hi2 hr
    replace x0 := (hb.cell (p := ⟨w.heap.size, 0, none⟩) lt_x).trans x0
    replace x1 := (hb.cell (p := ⟨w.heap.size, 1, none⟩) lt_x).trans x1
    replace x2 := (hb.cell (p := ⟨w.heap.size, 2, none⟩) lt_x).trans x2
    replace x3 := (hb.cell (p := ⟨w.heap.size, 3, none⟩) lt_x).trans x3
    replace x4 := (hb.cell (p := ⟨w.heap.size, 4, none⟩) lt_x).trans x4
    replace x5 := (hb.cell (p := ⟨w.heap.size, 5, none⟩) lt_x).trans x5
    replace lt_x : w.heap.size < w5.heap.size := Nat.lt_of_lt_of_le lt_x hb.size
    replace y0 := (hb.cell (p := ⟨w.heap.size + 1, 0, none⟩) lt_y).trans y0
    replace y1 := (hb.cell (p := ⟨w.heap.size + 1, 1, none⟩) lt_y).trans y1
    replace y2 := (hb.cell (p := ⟨w.heap.size + 1, 2, none⟩) lt_y).trans y2
    replace y3 := (hb.cell (p := ⟨w.heap.size + 1, 3, none⟩) lt_y).trans y3
    replace y4 := (hb.cell (p := ⟨w.heap.size + 1, 4, none⟩) lt_y).trans y4
    replace y5 := (hb.cell (p := ⟨w.heap.size + 1, 5, none⟩) lt_y).trans y5
    replace lt_y : w.heap.size + 1 < w5.heap.size := Nat.lt_of_lt_of_le lt_y hb.size
    replace p0 := (hb.cell (p := ⟨w3.heap.size, 0, none⟩) lt_p).trans p0
    replace p1 := (hb.cell (p := ⟨w3.heap.size, 1, none⟩) lt_p).trans p1
    replace p2 := (hb.cell (p := ⟨w3.heap.size, 2, none⟩) lt_p).trans p2
    replace p3 := (hb.cell (p := ⟨w3.heap.size, 3, none⟩) lt_p).trans p3
    replace p4 := (hb.cell (p := ⟨w3.heap.size, 4, none⟩) lt_p).trans p4
    replace p5 := (hb.cell (p := ⟨w3.heap.size, 5, none⟩) lt_p).trans p5
    replace lt_p : w3.heap.size < w5.heap.size := Nat.lt_of_lt_of_le lt_p hb.size
    replace q0 := (hb.cell (p := ⟨w4.heap.size, 0, none⟩) lt_q).trans q0
    replace q1 := (hb.cell (p := ⟨w4.heap.size, 1, none⟩) lt_q).trans q1
    replace q2 := (hb.cell (p := ⟨w4.heap.size, 2, none⟩) lt_q).trans q2
    replace q3 := (hb.cell (p := ⟨w4.heap.size, 3, none⟩) lt_q).trans q3
    replace q4 := (hb.cell (p := ⟨w4.heap.size, 4, none⟩) lt_q).trans q4
    replace q5 := (hb.cell (p := ⟨w4.heap.size, 5, none⟩) lt_q).trans q5
    replace lt_q : w4.heap.size < w5.heap.size := Nat.lt_of_lt_of_le lt_q hb.size
    replace TA := Lib.hid (TA.out.up hb)
    replace TD := Lib.hid (TD.out.up hb)
    replace TP := Lib.hid (TP.out.up hb)
    replace TQ := Lib.hid (TQ.out.up hb)
    replace HW := Lib.hid (HW.out.trans (hb.mono HW.out.size))
    clear hb
    go_wp2_with fail
    obtain ⟨hbX, hsX, hkX⟩ := start_allocs [(#[.int .i64 ud.K, .int .i64 ud.N, .string ud.S, .slice um ud.M.length ucm, .slice ul ud.L.length ucl, .slice ut ud.T.length uct], 25)] w5
    have g0 := hkX 0 _ rfl
    set_option linter.unusedSimpArgs false in
    simp only [allocs, List.foldl_cons, List.foldl_nil, Nat.add_zero, List.length_cons, List.length_nil, Nat.zero_add, Nat.reduceAdd] at hbX hsX g0
    clear hkX
    generalize w5.alloc (.cells #[.int .i64 ud.K, .int .i64 ud.N, .string ud.S, .slice um ud.M.length ucm, .slice ul ud.L.length ucl, .slice ut ud.T.length uct] 25) = X3 at *
    have u0 : X3.cell? ⟨w5.heap.size, 0, none⟩ = some (.int .i64 ud.K) := (g0.cell 0).trans rfl
    have u1 : X3.cell? ⟨w5.heap.size, 1, none⟩ = some (.int .i64 ud.N) := (g0.cell 1).trans rfl
    have u2 : X3.cell? ⟨w5.heap.size, 2, none⟩ = some (.string ud.S) := (g0.cell 2).trans rfl
    have u3 : X3.cell? ⟨w5.heap.size, 3, none⟩ = some (.slice um ud.M.length ucm) := (g0.cell 3).trans rfl
    have u4 : X3.cell? ⟨w5.heap.size, 4, none⟩ = some (.slice ul ud.L.length ucl) := (g0.cell 4).trans rfl
    have u5 : X3.cell? ⟨w5.heap.size, 5, none⟩ = some (.slice ut ud.T.length uct) := (g0.cell 5).trans rfl
    have lt_u : w5.heap.size < X3.heap.size := by omega
    clear g0 hsX
    replace x0 := (hbX.cell (p := ⟨w.heap.size, 0, none⟩) lt_x).trans x0
    replace x1 := (hbX.cell (p := ⟨w.heap.size, 1, none⟩) lt_x).trans x1
    replace x2 := (hbX.cell (p := ⟨w.heap.size, 2, none⟩) lt_x).trans x2
    replace x3 := (hbX.cell (p := ⟨w.heap.size, 3, none⟩) lt_x).trans x3
    replace x4 := (hbX.cell (p := ⟨w.heap.size, 4, none⟩) lt_x).trans x4
    replace x5 := (hbX.cell (p := ⟨w.heap.size, 5, none⟩) lt_x).trans x5
    replace lt_x : w.heap.size < X3.heap.size := Nat.lt_of_lt_of_le lt_x hbX.size
    replace y0 := (hbX.cell (p := ⟨w.heap.size + 1, 0, none⟩) lt_y).trans y0
    replace y1 := (hbX.cell (p := ⟨w.heap.size + 1, 1, none⟩) lt_y).trans y1
    replace y2 := (hbX.cell (p := ⟨w.heap.size + 1, 2, none⟩) lt_y).trans y2
    replace y3 := (hbX.cell (p := ⟨w.heap.size + 1, 3, none⟩) lt_y).trans y3
    replace y4 := (hbX.cell (p := ⟨w.heap.size + 1, 4, none⟩) lt_y).trans y4
    replace y5 := (hbX.cell (p := ⟨w.heap.size + 1, 5, none⟩) lt_y).trans y5
    replace lt_y : w.heap.size + 1 < X3.heap.size := Nat.lt_of_lt_of_le lt_y hbX.size
    replace p0 := (hbX.cell (p := ⟨w3.heap.size, 0, none⟩) lt_p).trans p0
    replace p1 := (hbX.cell (p := ⟨w3.heap.size, 1, none⟩) lt_p).trans p1
    replace p2 := (hbX.cell (p := ⟨w3.heap.size, 2, none⟩) lt_p).trans p2
    replace p3 := (hbX.cell (p := ⟨w3.heap.size, 3, none⟩) lt_p).trans p3
    replace p4 := (hbX.cell (p := ⟨w3.heap.size, 4, none⟩) lt_p).trans p4
    replace p5 := (hbX.cell (p := ⟨w3.heap.size, 5, none⟩) lt_p).trans p5
    replace lt_p : w3.heap.size < X3.heap.size := Nat.lt_of_lt_of_le lt_p hbX.size
    replace q0 := (hbX.cell (p := ⟨w4.heap.size, 0, none⟩) lt_q).trans q0
    replace q1 := (hbX.cell (p := ⟨w4.heap.size, 1, none⟩) lt_q).trans q1
    replace q2 := (hbX.cell (p := ⟨w4.heap.size, 2, none⟩) lt_q).trans q2
    replace q3 := (hbX.cell (p := ⟨w4.heap.size, 3, none⟩) lt_q).trans q3
    replace q4 := (hbX.cell (p := ⟨w4.heap.size, 4, none⟩) lt_q).trans q4
    replace q5 := (hbX.cell (p := ⟨w4.heap.size, 5, none⟩) lt_q).trans q5
    replace lt_q : w4.heap.size < X3.heap.size := Nat.lt_of_lt_of_le lt_q hbX.size
    replace TA := Lib.hid (TA.out.up hbX)
    replace TD := Lib.hid (TD.out.up hbX)
    replace TP := Lib.hid (TP.out.up hbX)
    replace TQ := Lib.hid (TQ.out.up hbX)
    replace TU := Lib.hid (TU.out.up hbX)
    replace HW := Lib.hid (HW.out.trans (hbX.mono HW.out.size))
    clear hbX
    refine (rcar_any d _ _ X3 (by exact TD.out) (Nat.le_refl _)).mono ?_
    rw [Pe.out, Uc.out]
    intro e w6 hr
    obtain ⟨v', rfl, hb, hi⟩ := hr.out_ (Nat.le_refl _)
    rw [Ud.out] at hi
    have hi2 := hi
    obtain ⟨vm, vcm, vl, vcl, vt, vct, rfl, _⟩ := hi2.open_
    have TV := Lib.hid hi
    clear hi hi2 hr
    replace x0 := (hb.cell (p := ⟨w.heap.size, 0, none⟩) lt_x).trans x0
    replace x1 := (hb.cell (p := ⟨w.heap.size, 1, none⟩) lt_x).trans x1
    replace x2 := (hb.cell (p := ⟨w.heap.size, 2, none⟩) lt_x).trans x2
    replace x3 := (hb.cell (p := ⟨w.heap.size, 3, none⟩) lt_x).trans x3
    replace x4 := (hb.cell (p := ⟨w.heap.size, 4, none⟩) lt_x).trans x4
    replace x5 := (hb.cell (p := ⟨w.heap.size, 5, none⟩) lt_x).trans x5
    replace lt_x : w.heap.size < w6.heap.size := Nat.lt_of_lt_of_le lt_x hb.size
    replace y0 := (hb.cell (p := ⟨w.heap.size + 1, 0, none⟩) lt_y).trans y0
    replace y1 := (hb.cell (p := ⟨w.heap.size + 1, 1, none⟩) lt_y).trans y1
    replace y2 := (hb.cell (p := ⟨w.heap.size + 1, 2, none⟩) lt_y).trans y2
    replace y3 := (hb.cell (p := ⟨w.heap.size + 1, 3, none⟩) lt_y).trans y3
    replace y4 := (hb.cell (p := ⟨w.heap.size + 1, 4, none⟩) lt_y).trans y4
    replace y5 := (hb.cell (p := ⟨w.heap.size + 1, 5, none⟩) lt_y).trans y5
    replace lt_y : w.heap.size + 1 < w6.heap.size := Nat.lt_of_lt_of_le lt_y hb.size
    replace p0 := (hb.cell (p := ⟨w3.heap.size, 0, none⟩) lt_p).trans p0
    replace p1 := (hb.cell (p := ⟨w3.heap.size, 1, none⟩) lt_p).trans p1
    replace p2 := (hb.cell (p := ⟨w3.heap.size, 2, none⟩) lt_p).trans p2
    replace p3 := (hb.cell (p := ⟨w3.heap.size, 3, none⟩) lt_p).trans p3
    replace p4 := (hb.cell (p := ⟨w3.heap.size, 4, none⟩) lt_p).trans p4
    replace p5 := (hb.cell (p := ⟨w3.heap.size, 5, none⟩) lt_p).trans p5
    replace lt_p : w3.heap.size < w6.heap.size := Nat.lt_of_lt_of_le lt_p hb.size
    replace q0 := (hb.cell (p := ⟨w4.heap.size, 0, none⟩) lt_q).trans q0
    replace q1 := (hb.cell (p := ⟨w4.heap.size, 1, none⟩) lt_q).trans q1
    replace q2 := (hb.cell (p := ⟨w4.heap.size, 2, none⟩) lt_q).trans q2
    replace q3 := (hb.cell (p := ⟨w4.heap.size, 3, none⟩) lt_q).trans q3
    replace q4 := (hb.cell (p := ⟨w4.heap.size, 4, none⟩) lt_q).trans q4
    replace q5 := (hb.cell (p := ⟨w4.heap.size, 5, none⟩) lt_q).trans q5
    replace lt_q : w4.heap.size < w6.heap.size := Nat.lt_of_lt_of_le lt_q hb.size
    replace u0 := (hb.cell (p := ⟨w5.heap.size, 0, none⟩) lt_u).trans u0
    replace u1 := (hb.cell (p := ⟨w5.heap.size, 1, none⟩) lt_u).trans u1
    replace u2 := (hb.cell (p := ⟨w5.heap.size, 2, none⟩) lt_u).trans u2
    replace u3 := (hb.cell (p := ⟨w5.heap.size, 3, none⟩) lt_u).trans u3
    replace u4 := (hb.cell (p := ⟨w5.heap.size, 4, none⟩) lt_u).trans u4
    replace u5 := (hb.cell (p := ⟨w5.heap.size, 5, none⟩) lt_u).trans u5
    replace lt_u : w5.heap.size < w6.heap.size := Nat.lt_of_lt_of_le lt_u hb.size
    replace TA := Lib.hid (TA.out.up hb)
    replace TD := Lib.hid (TD.out.up hb)
    replace TP := Lib.hid (TP.out.up hb)
    replace TQ := Lib.hid (TQ.out.up hb)
    replace TU := Lib.hid (TU.out.up hb)
    replace HW := Lib.hid (HW.out.trans (hb.mono HW.out.size))
    clear hb
    go_wp2_with fail
    obtain ⟨hbX, hsX, hkX⟩ := start_allocs [(#[.int .i64 ud.K, .int .i64 ud.N, .string ud.S, .slice vm ud.M.length vcm, .slice vl ud.L.length vcl, .slice vt ud.T.length vct], 25)] w6
    have g0 := hkX 0 _ rfl
    set_option linter.unusedSimpArgs false in
    simp only [allocs, List.foldl_cons, List.foldl_nil, Nat.add_zero, List.length_cons, List.length_nil, Nat.zero_add, Nat.reduceAdd] at hbX hsX g0
    clear hkX
    generalize w6.alloc (.cells #[.int .i64 ud.K, .int .i64 ud.N, .string ud.S, .slice vm ud.M.length vcm, .slice vl ud.L.length vcl, .slice vt ud.T.length vct] 25) = X4 at *
    have v0 : X4.cell? ⟨w6.heap.size, 0, none⟩ = some (.int .i64 ud.K) := (g0.cell 0).trans rfl
    have v1 : X4.cell? ⟨w6.heap.size, 1, none⟩ = some (.int .i64 ud.N) := (g0.cell 1).trans rfl
    have v2 : X4.cell? ⟨w6.heap.size, 2, none⟩ = some (.string ud.S) := (g0.cell 2).trans rfl
    have v3 : X4.cell? ⟨w6.heap.size, 3, none⟩ = some (.slice vm ud.M.length vcm) := (g0.cell 3).trans rfl
    have v4 : X4.cell? ⟨w6.heap.size, 4, none⟩ = some (.slice vl ud.L.length vcl) := (g0.cell 4).trans rfl
    have v5 : X4.cell? ⟨w6.heap.size, 5, none⟩ = some (.slice vt ud.T.length vct) := (g0.cell 5).trans rfl
    have lt_v : w6.heap.size < X4.heap.size := by omega
    clear g0 hsX
    replace x0 := (hbX.cell (p := ⟨w.heap.size, 0, none⟩) lt_x).trans x0
    replace x1 := (hbX.cell (p := ⟨w.heap.size, 1, none⟩) lt_x).trans x1
    replace x2 := (hbX.cell (p := ⟨w.heap.size, 2, none⟩) lt_x).trans x2
    replace x3 := (hbX.cell (p := ⟨w.heap.size, 3, none⟩) lt_x).trans x3
    replace x4 := (hbX.cell (p := ⟨w.heap.size, 4, none⟩) lt_x).trans x4
    replace x5 := (hbX.cell (p := ⟨w.heap.size, 5, none⟩) lt_x).trans x5
    replace lt_x : w.heap.size < X4.heap.size := Nat.lt_of_lt_of_le lt_x hbX.size
    replace y0 := (hbX.cell (p := ⟨w.heap.size + 1, 0, none⟩) lt_y).trans y0
    replace y1 := (hbX.cell (p := ⟨w.heap.size + 1, 1, none⟩) lt_y).trans y1
    replace y2 := (hbX.cell (p := ⟨w.heap.size + 1, 2, none⟩) lt_y).trans y2
    replace y3 := (hbX.cell (p := ⟨w.heap.size + 1, 3, none⟩) lt_y).trans y3
    replace y4 := (hbX.cell (p := ⟨w.heap.size + 1, 4, none⟩) lt_y).trans y4
    replace y5 := (hbX.cell (p := ⟨w.heap.size + 1, 5, none⟩) lt_y).trans y5
    replace lt_y : w.heap.size + 1 < X4.heap.size := Nat.lt_of_lt_of_le lt_y hbX.size
    replace p0 := (hbX.cell (p := ⟨w3.heap.size, 0, none⟩) lt_p).trans p0
    replace p1 := (hbX.cell (p := ⟨w3.heap.size, 1, none⟩) lt_p).trans p1
    replace p2 := (hbX.cell (p := ⟨w3.heap.size, 2, none⟩) lt_p).trans p2
    replace p3 := (hbX.cell (p := ⟨w3.heap.size, 3, none⟩) lt_p).trans p3
    replace p4 := (hbX.cell (p := ⟨w3.heap.size, 4, none⟩) lt_p).trans p4
    replace p5 := (hbX.cell (p := ⟨w3.heap.size, 5, none⟩) lt_p).trans p5
    replace lt_p : w3.heap.size < X4.heap.size := Nat.lt_of_lt_of_le lt_p hbX.size
    replace q0 := (hbX.cell (p := ⟨w4.heap.size, 0, none⟩) lt_q).trans q0
    replace q1 := (hbX.cell (p := ⟨w4.heap.size, 1, none⟩) lt_q).trans q1
    replace q2 := (hbX.cell (p := ⟨w4.heap.size, 2, none⟩) lt_q).trans q2
    replace q3 := (hbX.cell (p := ⟨w4.heap.size, 3, none⟩) lt_q).trans q3
    replace q4 := (hbX.cell (p := ⟨w4.heap.size, 4, none⟩) lt_q).trans q4
    replace q5 := (hbX.cell (p := ⟨w4.heap.size, 5, none⟩) lt_q).trans q5
    replace lt_q : w4.heap.size < X4.heap.size := Nat.lt_of_lt_of_le lt_q hbX.size
    replace u0 := (hbX.cell (p := ⟨w5.heap.size, 0, none⟩) lt_u).trans u0
    replace u1 := (hbX.cell (p := ⟨w5.heap.size, 1, none⟩) lt_u).trans u1
    replace u2 := (hbX.cell (p := ⟨w5.heap.size, 2, none⟩) lt_u).trans u2
    replace u3 := (hbX.cell (p := ⟨w5.heap.size, 3, none⟩) lt_u).trans u3
    replace u4 := (hbX.cell (p := ⟨w5.heap.size, 4, none⟩) lt_u).trans u4
    replace u5 := (hbX.cell (p := ⟨w5.heap.size, 5, none⟩) lt_u).trans u5
    replace lt_u : w5.heap.size < X4.heap.size := Nat.lt_of_lt_of_le lt_u hbX.size
    replace TA := Lib.hid (TA.out.up hbX)
    replace TD := Lib.hid (TD.out.up hbX)
    replace TP := Lib.hid (TP.out.up hbX)
    replace TQ := Lib.hid (TQ.out.up hbX)
    replace TU := Lib.hid (TU.out.up hbX)
    replace TV := Lib.hid (TV.out.up hbX)
    replace HW := Lib.hid (HW.out.trans (hbX.mono HW.out.size))
    clear hbX
    refine (cdr_any d _ _ X4 (by exact TD.out) (Nat.le_refl _)).mono ?_
    rw [Pe.out, Xc.out]
    intro e w7 hr
    obtain ⟨v', rfl, hb, hi⟩ := hr.out_ (Nat.le_refl _)
    rw [Xd.out] at hi
    have hi2 := hi
    obtain ⟨sm, scm, sl, scl, st, sct, rfl, _⟩ := hi2.open_
    have TS := Lib.hid hi
    clear hi hi2 hr
    replace x0 := (hb.cell (p := ⟨w.heap.size, 0, none⟩) lt_x).trans x0
    replace x1 := (hb.cell (p := ⟨w.heap.size, 1, none⟩) lt_x).trans x1
    replace x2 := (hb.cell (p := ⟨w.heap.size, 2, none⟩) lt_x).trans x2
    replace x3 := (hb.cell (p := ⟨w.heap.size, 3, none⟩) lt_x).trans x3
    replace x4 := (hb.cell (p := ⟨w.heap.size, 4, none⟩) lt_x).trans x4
    replace x5 := (hb.cell (p := ⟨w.heap.size, 5, none⟩) lt_x).trans x5
    replace lt_x : w.heap.size < w7.heap.size := Nat.lt_of_lt_of_le lt_x hb.size
    replace y0 := (hb.cell (p := ⟨w.heap.size + 1, 0, none⟩) lt_y).trans y0
    replace y1 := (hb.cell (p := ⟨w.heap.size + 1, 1, none⟩) lt_y).trans y1
    replace y2 := (hb.cell (p := ⟨w.heap.size + 1, 2, none⟩) lt_y).trans y2
    replace y3 := (hb.cell (p := ⟨w.heap.size + 1, 3, none⟩) lt_y).trans y3
    replace y4 := (hb.cell (p := ⟨w.heap.size + 1, 4, none⟩) lt_y).trans y4
    replace y5 := (hb.cell (p := ⟨w.heap.size + 1, 5, none⟩) lt_y).trans y5
    replace lt_y : w.heap.size + 1 < w7.heap.size := Nat.lt_of_lt_of_le lt_y hb.size
    replace p0 := (hb.cell (p := ⟨w3.heap.size, 0, none⟩) lt_p).trans p0
    replace p1 := (hb.cell (p := ⟨w3.heap.size, 1, none⟩) lt_p).trans p1
    replace p2 := (hb.cell (p := ⟨w3.heap.size, 2, none⟩) lt_p).trans p2
    replace p3 := (hb.cell (p := ⟨w3.heap.size, 3, none⟩) lt_p).trans p3
    replace p4 := (hb.cell (p := ⟨w3.heap.size, 4, none⟩) lt_p).trans p4
    replace p5 := (hb.cell (p := ⟨w3.heap.size, 5, none⟩) lt_p).trans p5
    replace lt_p : w3.heap.size < w7.heap.size := Nat.lt_of_lt_of_le lt_p hb.size
    replace q0 := (hb.cell (p := ⟨w4.heap.size, 0, none⟩) lt_q).trans q0
    replace q1 := (hb.cell (p := ⟨w4.heap.size, 1, none⟩) lt_q).trans q1
    replace q2 := (hb.cell (p := ⟨w4.heap.size, 2, none⟩) lt_q).trans q2
    replace q3 := (hb.cell (p := ⟨w4.heap.size, 3, none⟩) lt_q).trans q3
    replace q4 := (hb.cell (p := ⟨w4.heap.size, 4, none⟩) lt_q).trans q4
    replace q5 := (hb.cell (p := ⟨w4.heap.size, 5, none⟩) lt_q).trans q5
    replace lt_q : w4.heap.size < w7.heap.size := Nat.lt_of_lt_of_le lt_q hb.size
    replace u0 := (hb.cell (p := ⟨w5.heap.size, 0, none⟩) lt_u).trans u0
    replace u1 := (hb.cell (p := ⟨w5.heap.size, 1, none⟩) lt_u).trans u1
    replace u2 := (hb.cell (p := ⟨w5.heap.size, 2, none⟩) lt_u).trans u2
    replace u3 := (hb.cell (p := ⟨w5.heap.size, 3, none⟩) lt_u).trans u3
    replace u4 := (hb.cell (p := ⟨w5.heap.size, 4, none⟩) lt_u).trans u4
    replace u5 := (hb.cell (p := ⟨w5.heap.size, 5, none⟩) lt_u).trans u5
    replace lt_u : w5.heap.size < w7.heap.size := Nat.lt_of_lt_of_le lt_u hb.size
    replace v0 := (hb.cell (p := ⟨w6.heap.size, 0, none⟩) lt_v).trans v0
    replace v1 := (hb.cell (p := ⟨w6.heap.size, 1, none⟩) lt_v).trans v1
    replace v2 := (hb.cell (p := ⟨w6.heap.size, 2, none⟩) lt_v).trans v2
    replace v3 := (hb.cell (p := ⟨w6.heap.size, 3, none⟩) lt_v).trans v3
    replace v4 := (hb.cell (p := ⟨w6.heap.size, 4, none⟩) lt_v).trans v4
    replace v5 := (hb.cell (p := ⟨w6.heap.size, 5, none⟩) lt_v).trans v5
    replace lt_v : w6.heap.size < w7.heap.size := Nat.lt_of_lt_of_le lt_v hb.size
    replace TA := Lib.hid (TA.out.up hb)
    replace TD := Lib.hid (TD.out.up hb)
    replace TP := Lib.hid (TP.out.up hb)
    replace TQ := Lib.hid (TQ.out.up hb)
    replace TU := Lib.hid (TU.out.up hb)
    replace TV := Lib.hid (TV.out.up hb)
    replace HW := Lib.hid (HW.out.trans (hb.mono HW.out.size))
    clear hb
    go_wp2_with fail
    obtain ⟨hbX, hsX, hkX⟩ := start_allocs [(#[.int .i64 xd.K, .int .i64 xd.N, .string xd.S, .slice sm xd.M.length scm, .slice sl xd.L.length scl, .slice st xd.T.length sct], 25)] w7
    have g0 := hkX 0 _ rfl
    set_option linter.unusedSimpArgs false in
    simp only [allocs, List.foldl_cons, List.foldl_nil, Nat.add_zero, List.length_cons, List.length_nil, Nat.zero_add, Nat.reduceAdd] at hbX hsX g0
    clear hkX
    generalize w7.alloc (.cells #[.int .i64 xd.K, .int .i64 xd.N, .string xd.S, .slice sm xd.M.length scm, .slice sl xd.L.length scl, .slice st xd.T.length sct] 25) = X5 at *
    have s0 : X5.cell? ⟨w7.heap.size, 0, none⟩ = some (.int .i64 xd.K) := (g0.cell 0).trans rfl
    have s1 : X5.cell? ⟨w7.heap.size, 1, none⟩ = some (.int .i64 xd.N) := (g0.cell 1).trans rfl
    have s2 : X5.cell? ⟨w7.heap.size, 2, none⟩ = some (.string xd.S) := (g0.cell 2).trans rfl
    have s3 : X5.cell? ⟨w7.heap.size, 3, none⟩ = some (.slice sm xd.M.length scm) := (g0.cell 3).trans rfl
    have s4 : X5.cell? ⟨w7.heap.size, 4, none⟩ = some (.slice sl xd.L.length scl) := (g0.cell 4).trans rfl
    have s5 : X5.cell? ⟨w7.heap.size, 5, none⟩ = some (.slice st xd.T.length sct) := (g0.cell 5).trans rfl
    have lt_s : w7.heap.size < X5.heap.size := by omega
    clear g0 hsX
    replace x0 := (hbX.cell (p := ⟨w.heap.size, 0, none⟩) lt_x).trans x0
    replace x1 := (hbX.cell (p := ⟨w.heap.size, 1, none⟩) lt_x).trans x1
    replace x2 := (hbX.cell (p := ⟨w.heap.size, 2, none⟩) lt_x).trans x2
    replace x3 := (hbX.cell (p := ⟨w.heap.size, 3, none⟩) lt_x).trans x3
    replace x4 := (hbX.cell (p := ⟨w.heap.size, 4, none⟩) lt_x).trans x4
    replace x5 := (hbX.cell (p := ⟨w.heap.size, 5, none⟩) lt_x).trans x5
    replace lt_x : w.heap.size < X5.heap.size := Nat.lt_of_lt_of_le lt_x hbX.size
    replace y0 := (hbX.cell (p := ⟨w.heap.size + 1, 0, none⟩) lt_y).trans y0
    replace y1 := (hbX.cell (p := ⟨w.heap.size + 1, 1, none⟩) lt_y).trans y1
    replace y2 := (hbX.cell (p := ⟨w.heap.size + 1, 2, none⟩) lt_y).trans y2
    replace y3 := (hbX.cell (p := ⟨w.heap.size + 1, 3, none⟩) lt_y).trans y3
    replace y4 := (hbX.cell (p := ⟨w.heap.size + 1, 4, none⟩) lt_y).trans y4
    replace y5 := (hbX.cell (p := ⟨w.heap.size + 1, 5, none⟩) lt_y).trans y5
    replace lt_y : w.heap.size + 1 < X5.heap.size := Nat.lt_of_lt_of_le lt_y hbX.size
    replace p0 := (hbX.cell (p := ⟨w3.heap.size, 0, none⟩) lt_p).trans p0
    replace p1 := (hbX.cell (p := ⟨w3.heap.size, 1, none⟩) lt_p).trans p1
    replace p2 := (hbX.cell (p := ⟨w3.heap.size, 2, none⟩) lt_p).trans p2
    replace p3 := (hbX.cell (p := ⟨w3.heap.size, 3, none⟩) lt_p).trans p3
    replace p4 := (hbX.cell (p := ⟨w3.heap.size, 4, none⟩) lt_p).trans p4
    replace p5 := (hbX.cell (p := ⟨w3.heap.size, 5, none⟩) lt_p).trans p5
    replace lt_p : w3.heap.size < X5.heap.size := Nat.lt_of_lt_of_le lt_p hbX.size
    replace q0 := (hbX.cell (p := ⟨w4.heap.size, 0, none⟩) lt_q).trans q0
    replace q1 := (hbX.cell (p := ⟨w4.heap.size, 1, none⟩) lt_q).trans q1
    replace q2 := (hbX.cell (p := ⟨w4.heap.size, 2, none⟩) lt_q).trans q2
    replace q3 := (hbX.cell (p := ⟨w4.heap.size, 3, none⟩) lt_q).trans q3
    replace q4 := (hbX.cell (p := ⟨w4.heap.size, 4, none⟩) lt_q).trans q4
    replace q5 := (hbX.cell (p := ⟨w4.heap.size, 5, none⟩) lt_q).trans q5
    replace lt_q : w4.heap.size < X5.heap.size := Nat.lt_of_lt_of_le lt_q hbX.size
    replace u0 := (hbX.cell (p := ⟨w5.heap.size, 0, none⟩) lt_u).trans u0
    replace u1 := (hbX.cell (p := ⟨w5.heap.size, 1, none⟩) lt_u).trans u1
    replace u2 := (hbX.cell (p := ⟨w5.heap.size, 2, none⟩) lt_u).trans u2
    replace u3 := (hbX.cell (p := ⟨w5.heap.size, 3, none⟩) lt_u).trans u3
    replace u4 := (hbX.cell (p := ⟨w5.heap.size, 4, none⟩) lt_u).trans u4
    replace u5 := (hbX.cell (p := ⟨w5.heap.size, 5, none⟩) lt_u).trans u5
    replace lt_u : w5.heap.size < X5.heap.size := Nat.lt_of_lt_of_le lt_u hbX.size
    replace v0 := (hbX.cell (p := ⟨w6.heap.size, 0, none⟩) lt_v).trans v0
    replace v1 := (hbX.cell (p := ⟨w6.heap.size, 1, none⟩) lt_v).trans v1
    replace v2 := (hbX.cell (p := ⟨w6.heap.size, 2, none⟩) lt_v).trans v2
    replace v3 := (hbX.cell (p := ⟨w6.heap.size, 3, none⟩) lt_v).trans v3
    replace v4 := (hbX.cell (p := ⟨w6.heap.size, 4, none⟩) lt_v).trans v4
    replace v5 := (hbX.cell (p := ⟨w6.heap.size, 5, none⟩) lt_v).trans v5
    replace lt_v : w6.heap.size < X5.heap.size := Nat.lt_of_lt_of_le lt_v hbX.size
    replace TA := Lib.hid (TA.out.up hbX)
    replace TD := Lib.hid (TD.out.up hbX)
    replace TP := Lib.hid (TP.out.up hbX)
    replace TQ := Lib.hid (TQ.out.up hbX)
    replace TU := Lib.hid (TU.out.up hbX)
    replace TV := Lib.hid (TV.out.up hbX)
    replace TS := Lib.hid (TS.out.up hbX)
    replace HW := Lib.hid (HW.out.trans (hbX.mono HW.out.size))
    clear hbX
    refine (rcdr_any d _ _ X5 (by exact TD.out) (Nat.le_refl _)).mono ?_
    rw [Pe.out, Xc.out]
    intro e w8 hr
    obtain ⟨v', rfl, hb, hi⟩ := hr.out_ (Nat.le_refl _)
    rw [Xd.out] at hi
    have hi2 := hi
    obtain ⟨tm, tcm, tl, tcl, tt, tct, rfl, _⟩ := hi2.open_
    have TT := Lib.hid hi
    clear hi hi2 hr
    replace x0 := (hb.cell (p := ⟨w.heap.size, 0, none⟩) lt_x).trans x0
    replace x1 := (hb.cell (p := ⟨w.heap.size, 1, none⟩) lt_x).trans x1
    replace x2 := (hb.cell (p := ⟨w.heap.size, 2, none⟩) lt_x).trans x2
    replace x3 := (hb.cell (p := ⟨w.heap.size, 3, none⟩) lt_x).trans x3
    replace x4 := (hb.cell (p := ⟨w.heap.size, 4, none⟩) lt_x).trans x4
    replace x5 := (hb.cell (p := ⟨w.heap.size, 5, none⟩) lt_x).trans x5
    replace lt_x : w.heap.size < w8.heap.size := Nat.lt_of_lt_of_le lt_x hb.size
    replace y0 := (hb.cell (p := ⟨w.heap.size + 1, 0, none⟩) lt_y).trans y0
    replace y1 := (hb.cell (p := ⟨w.heap.size + 1, 1, none⟩) lt_y).trans y1
    replace y2 := (hb.cell (p := ⟨w.heap.size + 1, 2, none⟩) lt_y).trans y2
    replace y3 := (hb.cell (p := ⟨w.heap.size + 1, 3, none⟩) lt_y).trans y3
    replace y4 := (hb.cell (p := ⟨w.heap.size + 1, 4, none⟩) lt_y).trans y4
    replace y5 := (hb.cell (p := ⟨w.heap.size + 1, 5, none⟩) lt_y).trans y5
    replace lt_y : w.heap.size + 1 < w8.heap.size := Nat.lt_of_lt_of_le lt_y hb.size
    replace p0 := (hb.cell (p := ⟨w3.heap.size, 0, none⟩) lt_p).trans p0
    replace p1 := (hb.cell (p := ⟨w3.heap.size, 1, none⟩) lt_p).trans p1
    replace p2 := (hb.cell (p := ⟨w3.heap.size, 2, none⟩) lt_p).trans p2
    replace p3 := (hb.cell (p := ⟨w3.heap.size, 3, none⟩) lt_p).trans p3
    replace p4 := (hb.cell (p := ⟨w3.heap.size, 4, none⟩) lt_p).trans p4
    replace p5 := (hb.cell (p := ⟨w3.heap.size, 5, none⟩) lt_p).trans p5
    replace lt_p : w3.heap.size < w8.heap.size := Nat.lt_of_lt_of_le lt_p hb.size
    replace q0 := (hb.cell (p := ⟨w4.heap.size, 0, none⟩) lt_q).trans q0
    replace q1 := (hb.cell (p := ⟨w4.heap.size, 1, none⟩) lt_q).trans q1
    replace q2 := (hb.cell (p := ⟨w4.heap.size, 2, none⟩) lt_q).trans q2
    replace q3 := (hb.cell (p := ⟨w4.heap.size, 3, none⟩) lt_q).trans q3
    replace q4 := (hb.cell (p := ⟨w4.heap.size, 4, none⟩) lt_q).trans q4
    replace q5 := (hb.cell (p := ⟨w4.heap.size, 5, none⟩) lt_q).trans q5
    replace lt_q : w4.heap.size < w8.heap.size := Nat.lt_of_lt_of_le lt_q hb.size
    replace u0 := (hb.cell (p := ⟨w5.heap.size, 0, none⟩) lt_u).trans u0
    replace u1 := (hb.cell (p := ⟨w5.heap.size, 1, none⟩) lt_u).trans u1
    replace u2 := (hb.cell (p := ⟨w5.heap.size, 2, none⟩) lt_u).trans u2
    replace u3 := (hb.cell (p := ⟨w5.heap.size, 3, none⟩) lt_u).trans u3
    replace u4 := (hb.cell (p := ⟨w5.heap.size, 4, none⟩) lt_u).trans u4
    replace u5 := (hb.cell (p := ⟨w5.heap.size, 5, none⟩) lt_u).trans u5
    replace lt_u : w5.heap.size < w8.heap.size := Nat.lt_of_lt_of_le lt_u hb.size
    replace v0 := (hb.cell (p := ⟨w6.heap.size, 0, none⟩) lt_v).trans v0
    replace v1 := (hb.cell (p := ⟨w6.heap.size, 1, none⟩) lt_v).trans v1
    replace v2 := (hb.cell (p := ⟨w6.heap.size, 2, none⟩) lt_v).trans v2
    replace v3 := (hb.cell (p := ⟨w6.heap.size, 3, none⟩) lt_v).trans v3
    replace v4 := (hb.cell (p := ⟨w6.heap.size, 4, none⟩) lt_v).trans v4
    replace v5 := (hb.cell (p := ⟨w6.heap.size, 5, none⟩) lt_v).trans v5
    replace lt_v : w6.heap.size < w8.heap.size := Nat.lt_of_lt_of_le lt_v hb.size
    replace s0 := (hb.cell (p := ⟨w7.heap.size, 0, none⟩) lt_s).trans s0
    replace s1 := (hb.cell (p := ⟨w7.heap.size, 1, none⟩) lt_s).trans s1
    replace s2 := (hb.cell (p := ⟨w7.heap.size, 2, none⟩) lt_s).trans s2
    replace s3 := (hb.cell (p := ⟨w7.heap.size, 3, none⟩) lt_s).trans s3
    replace s4 := (hb.cell (p := ⟨w7.heap.size, 4, none⟩) lt_s).trans s4
    replace s5 := (hb.cell (p := ⟨w7.heap.size, 5, none⟩) lt_s).trans s5
    replace lt_s : w7.heap.size < w8.heap.size := Nat.lt_of_lt_of_le lt_s hb.size
    replace TA := Lib.hid (TA.out.up hb)
    replace TD := Lib.hid (TD.out.up hb)
    replace TP := Lib.hid (TP.out.up hb)
    replace TQ := Lib.hid (TQ.out.up hb)
    replace TU := Lib.hid (TU.out.up hb)
    replace TV := Lib.hid (TV.out.up hb)
    replace TS := Lib.hid (TS.out.up hb)
    replace HW := Lib.hid (HW.out.trans (hb.mono HW.out.size))
    clear hb
    go_wp2_with fail
    obtain ⟨hbX, hsX, hkX⟩ := start_allocs [(#[.int .i64 xd.K, .int .i64 xd.N, .string xd.S, .slice tm xd.M.length tcm, .slice tl xd.L.length tcl, .slice tt xd.T.length tct], 25)] w8
    have g0 := hkX 0 _ rfl
    set_option linter.unusedSimpArgs false in
    simp only [allocs, List.foldl_cons, List.foldl_nil, Nat.add_zero, List.length_cons, List.length_nil, Nat.zero_add, Nat.reduceAdd] at hbX hsX g0
    clear hkX
    generalize w8.alloc (.cells #[.int .i64 xd.K, .int .i64 xd.N, .string xd.S, .slice tm xd.M.length tcm, .slice tl xd.L.length tcl, .slice tt xd.T.length tct] 25) = X6 at *
    have t0 : X6.cell? ⟨w8.heap.size, 0, none⟩ = some (.int .i64 xd.K) := (g0.cell 0).trans rfl
    have t1 : X6.cell? ⟨w8.heap.size, 1, none⟩ = some (.int .i64 xd.N) := (g0.cell 1).trans rfl
    have t2 : X6.cell? ⟨w8.heap.size, 2, none⟩ = some (.string xd.S) := (g0.cell 2).trans rfl
    have t3 : X6.cell? ⟨w8.heap.size, 3, none⟩ = some (.slice tm xd.M.length tcm) := (g0.cell 3).trans rfl
    have t4 : X6.cell? ⟨w8.heap.size, 4, none⟩ = some (.slice tl xd.L.length tcl) := (g0.cell 4).trans rfl
    have t5 : X6.cell? ⟨w8.heap.size, 5, none⟩ = some (.slice tt xd.T.length tct) := (g0.cell 5).trans rfl
    have lt_t : w8.heap.size < X6.heap.size := by omega
    clear g0 hsX
    replace x0 := (hbX.cell (p := ⟨w.heap.size, 0, none⟩) lt_x).trans x0
    replace x1 := (hbX.cell (p := ⟨w.heap.size, 1, none⟩) lt_x).trans x1
    replace x2 := (hbX.cell (p := ⟨w.heap.size, 2, none⟩) lt_x).trans x2
    replace x3 := (hbX.cell (p := ⟨w.heap.size, 3, none⟩) lt_x).trans x3
    replace x4 := (hbX.cell (p := ⟨w.heap.size, 4, none⟩) lt_x).trans x4
    replace x5 := (hbX.cell (p := ⟨w.heap.size, 5, none⟩) lt_x).trans x5
    replace lt_x : w.heap.size < X6.heap.size := Nat.lt_of_lt_of_le lt_x hbX.size
    replace y0 := (hbX.cell (p := ⟨w.heap.size + 1, 0, none⟩) lt_y).trans y0
    replace y1 := (hbX.cell (p := ⟨w.heap.size + 1, 1, none⟩) lt_y).trans y1
    replace y2 := (hbX.cell (p := ⟨w.heap.size + 1, 2, none⟩) lt_y).trans y2
    replace y3 := (hbX.cell (p := ⟨w.heap.size + 1, 3, none⟩) lt_y).trans y3
    replace y4 := (hbX.cell (p := ⟨w.heap.size + 1, 4, none⟩) lt_y).trans y4
    replace y5 := (hbX.cell (p := ⟨w.heap.size + 1, 5, none⟩) lt_y).trans y5
    replace lt_y : w.heap.size + 1 < X6.heap.size := Nat.lt_of_lt_of_le lt_y hbX.size
    replace p0 := (hbX.cell (p := ⟨w3.heap.size, 0, none⟩) lt_p).trans p0
    replace p1 := (hbX.cell (p := ⟨w3.heap.size, 1, none⟩) lt_p).trans p1
    replace p2 := (hbX.cell (p := ⟨w3.heap.size, 2, none⟩) lt_p).trans p2
    replace p3 := (hbX.cell (p := ⟨w3.heap.size, 3, none⟩) lt_p).trans p3
    replace p4 := (hbX.cell (p := ⟨w3.heap.size, 4, none⟩) lt_p).trans p4
    replace p5 := (hbX.cell (p := ⟨w3.heap.size, 5, none⟩) lt_p).trans p5
    replace lt_p : w3.heap.size < X6.heap.size := Nat.lt_of_lt_of_le lt_p hbX.size
    replace q0 := (hbX.cell (p := ⟨w4.heap.size, 0, none⟩) lt_q).trans q0
    replace q1 := (hbX.cell (p := ⟨w4.heap.size, 1, none⟩) lt_q).trans q1
    replace q2 := (hbX.cell (p := ⟨w4.heap.size, 2, none⟩) lt_q).trans q2
    replace q3 := (hbX.cell (p := ⟨w4.heap.size, 3, none⟩) lt_q).trans q3
    replace q4 := (hbX.cell (p := ⟨w4.heap.size, 4, none⟩) lt_q).trans q4
    replace q5 := (hbX.cell (p := ⟨w4.heap.size, 5, none⟩) lt_q).trans q5
    replace lt_q : w4.heap.size < X6.heap.size := Nat.lt_of_lt_of_le lt_q hbX.size
    replace u0 := (hbX.cell (p := ⟨w5.heap.size, 0, none⟩) lt_u).trans u0
    replace u1 := (hbX.cell (p := ⟨w5.heap.size, 1, none⟩) lt_u).trans u1
    replace u2 := (hbX.cell (p := ⟨w5.heap.size, 2, none⟩) lt_u).trans u2
    replace u3 := (hbX.cell (p := ⟨w5.heap.size, 3, none⟩) lt_u).trans u3
    replace u4 := (hbX.cell (p := ⟨w5.heap.size, 4, none⟩) lt_u).trans u4
    replace u5 := (hbX.cell (p := ⟨w5.heap.size, 5, none⟩) lt_u).trans u5
    replace lt_u : w5.heap.size < X6.heap.size := Nat.lt_of_lt_of_le lt_u hbX.size
    replace v0 := (hbX.cell (p := ⟨w6.heap.size, 0, none⟩) lt_v).trans v0
    replace v1 := (hbX.cell (p := ⟨w6.heap.size, 1, none⟩) lt_v).trans v1
    replace v2 := (hbX.cell (p := ⟨w6.heap.size, 2, none⟩) lt_v).trans v2
    replace v3 := (hbX.cell (p := ⟨w6.heap.size, 3, none⟩) lt_v).trans v3
    replace v4 := (hbX.cell (p := ⟨w6.heap.size, 4, none⟩) lt_v).trans v4
    replace v5 := (hbX.cell (p := ⟨w6.heap.size, 5, none⟩) lt_v).trans v5
    replace lt_v : w6.heap.size < X6.heap.size := Nat.lt_of_lt_of_le lt_v hbX.size
    replace s0 := (hbX.cell (p := ⟨w7.heap.size, 0, none⟩) lt_s).trans s0
    replace s1 := (hbX.cell (p := ⟨w7.heap.size, 1, none⟩) lt_s).trans s1
    replace s2 := (hbX.cell (p := ⟨w7.heap.size, 2, none⟩) lt_s).trans s2
    replace s3 := (hbX.cell (p := ⟨w7.heap.size, 3, none⟩) lt_s).trans s3
    replace s4 := (hbX.cell (p := ⟨w7.heap.size, 4, none⟩) lt_s).trans s4
    replace s5 := (hbX.cell (p := ⟨w7.heap.size, 5, none⟩) lt_s).trans s5
    replace lt_s : w7.heap.size < X6.heap.size := Nat.lt_of_lt_of_le lt_s hbX.size
    replace TA := Lib.hid (TA.out.up hbX)
    replace TD := Lib.hid (TD.out.up hbX)
    replace TP := Lib.hid (TP.out.up hbX)
    replace TQ := Lib.hid (TQ.out.up hbX)
    replace TU := Lib.hid (TU.out.up hbX)
    replace TV := Lib.hid (TV.out.up hbX)
    replace TS := Lib.hid (TS.out.up hbX)
    replace TT := Lib.hid (TT.out.up hbX)
    replace HW := Lib.hid (HW.out.trans (hbX.mono HW.out.size))
    clear hbX
    refine (list_any al lc l w.heap.size X6 Hs.out (by exact Hl.out.below HW.out) HW.out.size).mono ?_
    rintro e w80 ⟨v', rfl, hb, hi⟩
    rw [Nd.out] at hi
    replace hi := hi.more (Q' := Lo w80.heap.size) (fun b hb' => by rcases hb' with h | h; exact Nat.lt_of_lt_of_le h (Nat.le_trans HW.out.size hb.size); exact h.2)
    have hi2 := hi
    obtain ⟨nm, ncm, nl, ncl, nt, nct, rfl, _⟩ := hi2.open_
    have TN := Lib.hid hi
    clear hi hi2
    replace x0 := (hb.cell (p := ⟨w.heap.size, 0, none⟩) lt_x).trans x0
    replace x1 := (hb.cell (p := ⟨w.heap.size, 1, none⟩) lt_x).trans x1
    replace x2 := (hb.cell (p := ⟨w.heap.size, 2, none⟩) lt_x).trans x2
    replace x3 := (hb.cell (p := ⟨w.heap.size, 3, none⟩) lt_x).trans x3
    replace x4 := (hb.cell (p := ⟨w.heap.size, 4, none⟩) lt_x).trans x4
    replace x5 := (hb.cell (p := ⟨w.heap.size, 5, none⟩) lt_x).trans x5
    replace lt_x : w.heap.size < w80.heap.size := Nat.lt_of_lt_of_le lt_x hb.size
    replace y0 := (hb.cell (p := ⟨w.heap.size + 1, 0, none⟩) lt_y).trans y0
    replace y1 := (hb.cell (p := ⟨w.heap.size + 1, 1, none⟩) lt_y).trans y1
    replace y2 := (hb.cell (p := ⟨w.heap.size + 1, 2, none⟩) lt_y).trans y2
    replace y3 := (hb.cell (p := ⟨w.heap.size + 1, 3, none⟩) lt_y).trans y3
    replace y4 := (hb.cell (p := ⟨w.heap.size + 1, 4, none⟩) lt_y).trans y4
    replace y5 := (hb.cell (p := ⟨w.heap.size + 1, 5, none⟩) lt_y).trans y5
    replace lt_y : w.heap.size + 1 < w80.heap.size := Nat.lt_of_lt_of_le lt_y hb.size
    replace p0 := (hb.cell (p := ⟨w3.heap.size, 0, none⟩) lt_p).trans p0
    replace p1 := (hb.cell (p := ⟨w3.heap.size, 1, none⟩) lt_p).trans p1
    replace p2 := (hb.cell (p := ⟨w3.heap.size, 2, none⟩) lt_p).trans p2
    replace p3 := (hb.cell (p := ⟨w3.heap.size, 3, none⟩) lt_p).trans p3
    replace p4 := (hb.cell (p := ⟨w3.heap.size, 4, none⟩) lt_p).trans p4
    replace p5 := (hb.cell (p := ⟨w3.heap.size, 5, none⟩) lt_p).trans p5
    replace lt_p : w3.heap.size < w80.heap.size := Nat.lt_of_lt_of_le lt_p hb.size
    replace q0 := (hb.cell (p := ⟨w4.heap.size, 0, none⟩) lt_q).trans q0
    replace q1 := (hb.cell (p := ⟨w4.heap.size, 1, none⟩) lt_q).trans q1
    replace q2 := (hb.cell (p := ⟨w4.heap.size, 2, none⟩) lt_q).trans q2
    replace q3 := (hb.cell (p := ⟨w4.heap.size, 3, none⟩) lt_q).trans q3
    replace q4 := (hb.cell (p := ⟨w4.heap.size, 4, none⟩) lt_q).trans q4
    replace q5 := (hb.cell (p := ⟨w4.heap.size, 5, none⟩) lt_q).trans q5
    replace lt_q : w4.heap.size < w80.heap.size := Nat.lt_of_lt_of_le lt_q hb.size
    replace u0 := (hb.cell (p := ⟨w5.heap.size, 0, none⟩) lt_u).trans u0
    replace u1 := (hb.cell (p := ⟨w5.heap.size, 1, none⟩) lt_u).trans u1
    replace u2 := (hb.cell (p := ⟨w5.heap.size, 2, none⟩) lt_u).trans u2
    replace u3 := (hb.cell (p := ⟨w5.heap.size, 3, none⟩) lt_u).trans u3
    replace u4 := (hb.cell (p := ⟨w5.heap.size, 4, none⟩) lt_u).trans u4
    replace u5 := (hb.cell (p := ⟨w5.heap.size, 5, none⟩) lt_u).trans u5
    replace lt_u : w5.heap.size < w80.heap.size := Nat.lt_of_lt_of_le lt_u hb.size
    replace v0 := (hb.cell (p := ⟨w6.heap.size, 0, none⟩) lt_v).trans v0
    replace v1 := (hb.cell (p := ⟨w6.heap.size, 1, none⟩) lt_v).trans v1
    replace v2 := (hb.cell (p := ⟨w6.heap.size, 2, none⟩) lt_v).trans v2
    replace v3 := (hb.cell (p := ⟨w6.heap.size, 3, none⟩) lt_v).trans v3
    replace v4 := (hb.cell (p := ⟨w6.heap.size, 4, none⟩) lt_v).trans v4
    replace v5 := (hb.cell (p := ⟨w6.heap.size, 5, none⟩) lt_v).trans v5
    replace lt_v : w6.heap.size < w80.heap.size := Nat.lt_of_lt_of_le lt_v hb.size
    replace s0 := (hb.cell (p := ⟨w7.heap.size, 0, none⟩) lt_s).trans s0
    replace s1 := (hb.cell (p := ⟨w7.heap.size, 1, none⟩) lt_s).trans s1
    replace s2 := (hb.cell (p := ⟨w7.heap.size, 2, none⟩) lt_s).trans s2
    replace s3 := (hb.cell (p := ⟨w7.heap.size, 3, none⟩) lt_s).trans s3
    replace s4 := (hb.cell (p := ⟨w7.heap.size, 4, none⟩) lt_s).trans s4
    replace s5 := (hb.cell (p := ⟨w7.heap.size, 5, none⟩) lt_s).trans s5
    replace lt_s : w7.heap.size < w80.heap.size := Nat.lt_of_lt_of_le lt_s hb.size
    replace t0 := (hb.cell (p := ⟨w8.heap.size, 0, none⟩) lt_t).trans t0
    replace t1 := (hb.cell (p := ⟨w8.heap.size, 1, none⟩) lt_t).trans t1
    replace t2 := (hb.cell (p := ⟨w8.heap.size, 2, none⟩) lt_t).trans t2
    replace t3 := (hb.cell (p := ⟨w8.heap.size, 3, none⟩) lt_t).trans t3
    replace t4 := (hb.cell (p := ⟨w8.heap.size, 4, none⟩) lt_t).trans t4
    replace t5 := (hb.cell (p := ⟨w8.heap.size, 5, none⟩) lt_t).trans t5
    replace lt_t : w8.heap.size < w80.heap.size := Nat.lt_of_lt_of_le lt_t hb.size
    replace TA := Lib.hid (TA.out.up hb)
    replace TD := Lib.hid (TD.out.up hb)
    replace TP := Lib.hid (TP.out.up hb)
    replace TQ := Lib.hid (TQ.out.up hb)
    replace TU := Lib.hid (TU.out.up hb)
    replace TV := Lib.hid (TV.out.up hb)
    replace TS := Lib.hid (TS.out.up hb)
    replace TT := Lib.hid (TT.out.up hb)
    replace HW := Lib.hid (HW.out.trans (hb.mono HW.out.size))
    clear hb
    go_wp2_with fail
    obtain ⟨hbX, hsX, hkX⟩ := start_allocs [(#[.int .i64 nd.K, .int .i64 nd.N, .string nd.S, .slice nm nd.M.length ncm, .slice nl nd.L.length ncl, .slice nt nd.T.length nct], 25)] w80
    have g0 := hkX 0 _ rfl
    set_option linter.unusedSimpArgs false in
    simp only [allocs, List.foldl_cons, List.foldl_nil, Nat.add_zero, List.length_cons, List.length_nil, Nat.zero_add, Nat.reduceAdd] at hbX hsX g0
    clear hkX
    generalize w80.alloc (.cells #[.int .i64 nd.K, .int .i64 nd.N, .string nd.S, .slice nm nd.M.length ncm, .slice nl nd.L.length ncl, .slice nt nd.T.length nct] 25) = X7 at *
    have n0 : X7.cell? ⟨w80.heap.size, 0, none⟩ = some (.int .i64 nd.K) := (g0.cell 0).trans rfl
    have n1 : X7.cell? ⟨w80.heap.size, 1, none⟩ = some (.int .i64 nd.N) := (g0.cell 1).trans rfl
    have n2 : X7.cell? ⟨w80.heap.size, 2, none⟩ = some (.string nd.S) := (g0.cell 2).trans rfl
    have n3 : X7.cell? ⟨w80.heap.size, 3, none⟩ = some (.slice nm nd.M.length ncm) := (g0.cell 3).trans rfl
    have n4 : X7.cell? ⟨w80.heap.size, 4, none⟩ = some (.slice nl nd.L.length ncl) := (g0.cell 4).trans rfl
    have n5 : X7.cell? ⟨w80.heap.size, 5, none⟩ = some (.slice nt nd.T.length nct) := (g0.cell 5).trans rfl
    have lt_n : w80.heap.size < X7.heap.size := by omega
    clear g0 hsX
    replace x0 := (hbX.cell (p := ⟨w.heap.size, 0, none⟩) lt_x).trans x0
    replace x1 := (hbX.cell (p := ⟨w.heap.size, 1, none⟩) lt_x).trans x1
    replace x2 := (hbX.cell (p := ⟨w.heap.size, 2, none⟩) lt_x).trans x2
    replace x3 := (hbX.cell (p := ⟨w.heap.size, 3, none⟩) lt_x).trans x3
    replace x4 := (hbX.cell (p := ⟨w.heap.size, 4, none⟩) lt_x).trans x4
    replace x5 := (hbX.cell (p := ⟨w.heap.size, 5, none⟩) lt_x).trans x5
    replace lt_x : w.heap.size < X7.heap.size := Nat.lt_of_lt_of_le lt_x hbX.size
    replace y0 := (hbX.cell (p := ⟨w.heap.size + 1, 0, none⟩) lt_y).trans y0
    replace y1 := (hbX.cell (p := ⟨w.heap.size + 1, 1, none⟩) lt_y).trans y1
    replace y2 := (hbX.cell (p := ⟨w.heap.size + 1, 2, none⟩) lt_y).trans y2
    replace y3 := (hbX.cell (p := ⟨w.heap.size + 1, 3, none⟩) lt_y).trans y3
    replace y4 := (hbX.cell (p := ⟨w.heap.size + 1, 4, none⟩) lt_y).trans y4
    replace y5 := (hbX.cell (p := ⟨w.heap.size + 1, 5, none⟩) lt_y).trans y5
    replace lt_y : w.heap.size + 1 < X7.heap.size := Nat.lt_of_lt_of_le lt_y hbX.size
    replace p0 := (hbX.cell (p := ⟨w3.heap.size, 0, none⟩) lt_p).trans p0
    replace p1 := (hbX.cell (p := ⟨w3.heap.size, 1, none⟩) lt_p).trans p1
    replace p2 := (hbX.cell (p := ⟨w3.heap.size, 2, none⟩) lt_p).trans p2
    replace p3 := (hbX.cell (p := ⟨w3.heap.size, 3, none⟩) lt_p).trans p3
    replace p4 := (hbX.cell (p := ⟨w3.heap.size, 4, none⟩) lt_p).trans p4
    replace p5 := (hbX.cell (p := ⟨w3.heap.size, 5, none⟩) lt_p).trans p5
    replace lt_p : w3.heap.size < X7.heap.size := Nat.lt_of_lt_of_le lt_p hbX.size
    replace q0 := (hbX.cell (p := ⟨w4.heap.size, 0, none⟩) lt_q).trans q0
    replace q1 := (hbX.cell (p := ⟨w4.heap.size, 1, none⟩) lt_q).trans q1
    replace q2 := (hbX.cell (p := ⟨w4.heap.size, 2, none⟩) lt_q).trans q2
    replace q3 := (hbX.cell (p := ⟨w4.heap.size, 3, none⟩) lt_q).trans q3
    replace q4 := (hbX.cell (p := ⟨w4.heap.size, 4, none⟩) lt_q).trans q4
    replace q5 := (hbX.cell (p := ⟨w4.heap.size, 5, none⟩) lt_q).trans q5
    replace lt_q : w4.heap.size < X7.heap.size := Nat.lt_of_lt_of_le lt_q hbX.size
    replace u0 := (hbX.cell (p := ⟨w5.heap.size, 0, none⟩) lt_u).trans u0
    replace u1 := (hbX.cell (p := ⟨w5.heap.size, 1, none⟩) lt_u).trans u1
    replace u2 := (hbX.cell (p := ⟨w5.heap.size, 2, none⟩) lt_u).trans u2
    replace u3 := (hbX.cell (p := ⟨w5.heap.size, 3, none⟩) lt_u).trans u3
    replace u4 := (hbX.cell (p := ⟨w5.heap.size, 4, none⟩) lt_u).trans u4
    replace u5 := (hbX.cell (p := ⟨w5.heap.size, 5, none⟩) lt_u).trans u5
    replace lt_u : w5.heap.size < X7.heap.size := Nat.lt_of_lt_of_le lt_u hbX.size
    replace v0 := (hbX.cell (p := ⟨w6.heap.size, 0, none⟩) lt_v).trans v0
    replace v1 := (hbX.cell (p := ⟨w6.heap.size, 1, none⟩) lt_v).trans v1
    replace v2 := (hbX.cell (p := ⟨w6.heap.size, 2, none⟩) lt_v).trans v2
    replace v3 := (hbX.cell (p := ⟨w6.heap.size, 3, none⟩) lt_v).trans v3
    replace v4 := (hbX.cell (p := ⟨w6.heap.size, 4, none⟩) lt_v).trans v4
    replace v5 := (hbX.cell (p := ⟨w6.heap.size, 5, none⟩) lt_v).trans v5
    replace lt_v : w6.heap.size < X7.heap.size := Nat.lt_of_lt_of_le lt_v hbX.size
    replace s0 := (hbX.cell (p := ⟨w7.heap.size, 0, none⟩) lt_s).trans s0
    replace s1 := (hbX.cell (p := ⟨w7.heap.size, 1, none⟩) lt_s).trans s1
    replace s2 := (hbX.cell (p := ⟨w7.heap.size, 2, none⟩) lt_s).trans s2
    replace s3 := (hbX.cell (p := ⟨w7.heap.size, 3, none⟩) lt_s).trans s3
    replace s4 := (hbX.cell (p := ⟨w7.heap.size, 4, none⟩) lt_s).trans s4
    replace s5 := (hbX.cell (p := ⟨w7.heap.size, 5, none⟩) lt_s).trans s5
    replace lt_s : w7.heap.size < X7.heap.size := Nat.lt_of_lt_of_le lt_s hbX.size
    replace t0 := (hbX.cell (p := ⟨w8.heap.size, 0, none⟩) lt_t).trans t0
    replace t1 := (hbX.cell (p := ⟨w8.heap.size, 1, none⟩) lt_t).trans t1
    replace t2 := (hbX.cell (p := ⟨w8.heap.size, 2, none⟩) lt_t).trans t2
    replace t3 := (hbX.cell (p := ⟨w8.heap.size, 3, none⟩) lt_t).trans t3
    replace t4 := (hbX.cell (p := ⟨w8.heap.size, 4, none⟩) lt_t).trans t4
    replace t5 := (hbX.cell (p := ⟨w8.heap.size, 5, none⟩) lt_t).trans t5
    replace lt_t : w8.heap.size < X7.heap.size := Nat.lt_of_lt_of_le lt_t hbX.size
    replace TA := Lib.hid (TA.out.up hbX)
    replace TD := Lib.hid (TD.out.up hbX)
    replace TP := Lib.hid (TP.out.up hbX)
    replace TQ := Lib.hid (TQ.out.up hbX)
    replace TU := Lib.hid (TU.out.up hbX)
    replace TV := Lib.hid (TV.out.up hbX)
    replace TS := Lib.hid (TS.out.up hbX)
    replace TT := Lib.hid (TT.out.up hbX)
    replace TN := Lib.hid (TN.out.up hbX)
    replace HW := Lib.hid (HW.out.trans (hbX.mono HW.out.size))
    clear hbX
    clear x0 x1 x2 x3 x4 x5 y0 y1 y2 y3 y4 y5
    have hb := bel_drew X7
    replace p0 := (hb.cell (p := ⟨w3.heap.size, 0, none⟩) lt_p).trans p0
    replace p1 := (hb.cell (p := ⟨w3.heap.size, 1, none⟩) lt_p).trans p1
    replace p2 := (hb.cell (p := ⟨w3.heap.size, 2, none⟩) lt_p).trans p2
    replace p3 := (hb.cell (p := ⟨w3.heap.size, 3, none⟩) lt_p).trans p3
    replace p4 := (hb.cell (p := ⟨w3.heap.size, 4, none⟩) lt_p).trans p4
    replace p5 := (hb.cell (p := ⟨w3.heap.size, 5, none⟩) lt_p).trans p5
    replace lt_p : w3.heap.size < X7.drew.heap.size := Nat.lt_of_lt_of_le lt_p hb.size
    replace q0 := (hb.cell (p := ⟨w4.heap.size, 0, none⟩) lt_q).trans q0
    replace q1 := (hb.cell (p := ⟨w4.heap.size, 1, none⟩) lt_q).trans q1
    replace q2 := (hb.cell (p := ⟨w4.heap.size, 2, none⟩) lt_q).trans q2
    replace q3 := (hb.cell (p := ⟨w4.heap.size, 3, none⟩) lt_q).trans q3
    replace q4 := (hb.cell (p := ⟨w4.heap.size, 4, none⟩) lt_q).trans q4
    replace q5 := (hb.cell (p := ⟨w4.heap.size, 5, none⟩) lt_q).trans q5
    replace lt_q : w4.heap.size < X7.drew.heap.size := Nat.lt_of_lt_of_le lt_q hb.size
    replace u0 := (hb.cell (p := ⟨w5.heap.size, 0, none⟩) lt_u).trans u0
    replace u1 := (hb.cell (p := ⟨w5.heap.size, 1, none⟩) lt_u).trans u1
    replace u2 := (hb.cell (p := ⟨w5.heap.size, 2, none⟩) lt_u).trans u2
    replace u3 := (hb.cell (p := ⟨w5.heap.size, 3, none⟩) lt_u).trans u3
    replace u4 := (hb.cell (p := ⟨w5.heap.size, 4, none⟩) lt_u).trans u4
    replace u5 := (hb.cell (p := ⟨w5.heap.size, 5, none⟩) lt_u).trans u5
    replace lt_u : w5.heap.size < X7.drew.heap.size := Nat.lt_of_lt_of_le lt_u hb.size
    replace v0 := (hb.cell (p := ⟨w6.heap.size, 0, none⟩) lt_v).trans v0
    replace v1 := (hb.cell (p := ⟨w6.heap.size, 1, none⟩) lt_v).trans v1
    replace v2 := (hb.cell (p := ⟨w6.heap.size, 2, none⟩) lt_v).trans v2
    replace v3 := (hb.cell (p := ⟨w6.heap.size, 3, none⟩) lt_v).trans v3
    replace v4 := (hb.cell (p := ⟨w6.heap.size, 4, none⟩) lt_v).trans v4
    replace v5 := (hb.cell (p := ⟨w6.heap.size, 5, none⟩) lt_v).trans v5
    replace lt_v : w6.heap.size < X7.drew.heap.size := Nat.lt_of_lt_of_le lt_v hb.size
    replace s0 := (hb.cell (p := ⟨w7.heap.size, 0, none⟩) lt_s).trans s0
    replace s1 := (hb.cell (p := ⟨w7.heap.size, 1, none⟩) lt_s).trans s1
    replace s2 := (hb.cell (p := ⟨w7.heap.size, 2, none⟩) lt_s).trans s2
    replace s3 := (hb.cell (p := ⟨w7.heap.size, 3, none⟩) lt_s).trans s3
    replace s4 := (hb.cell (p := ⟨w7.heap.size, 4, none⟩) lt_s).trans s4
    replace s5 := (hb.cell (p := ⟨w7.heap.size, 5, none⟩) lt_s).trans s5
    replace lt_s : w7.heap.size < X7.drew.heap.size := Nat.lt_of_lt_of_le lt_s hb.size
    replace t0 := (hb.cell (p := ⟨w8.heap.size, 0, none⟩) lt_t).trans t0
    replace t1 := (hb.cell (p := ⟨w8.heap.size, 1, none⟩) lt_t).trans t1
    replace t2 := (hb.cell (p := ⟨w8.heap.size, 2, none⟩) lt_t).trans t2
    replace t3 := (hb.cell (p := ⟨w8.heap.size, 3, none⟩) lt_t).trans t3
    replace t4 := (hb.cell (p := ⟨w8.heap.size, 4, none⟩) lt_t).trans t4
    replace t5 := (hb.cell (p := ⟨w8.heap.size, 5, none⟩) lt_t).trans t5
    replace lt_t : w8.heap.size < X7.drew.heap.size := Nat.lt_of_lt_of_le lt_t hb.size
    replace n0 := (hb.cell (p := ⟨w80.heap.size, 0, none⟩) lt_n).trans n0
    replace n1 := (hb.cell (p := ⟨w80.heap.size, 1, none⟩) lt_n).trans n1
    replace n2 := (hb.cell (p := ⟨w80.heap.size, 2, none⟩) lt_n).trans n2
    replace n3 := (hb.cell (p := ⟨w80.heap.size, 3, none⟩) lt_n).trans n3
    replace n4 := (hb.cell (p := ⟨w80.heap.size, 4, none⟩) lt_n).trans n4
    replace n5 := (hb.cell (p := ⟨w80.heap.size, 5, none⟩) lt_n).trans n5
    replace lt_n : w80.heap.size < X7.drew.heap.size := Nat.lt_of_lt_of_le lt_n hb.size
    replace TA := Lib.hid (TA.out.up hb)
    replace TD := Lib.hid (TD.out.up hb)
    replace TP := Lib.hid (TP.out.up hb)
    replace TQ := Lib.hid (TQ.out.up hb)
    replace TU := Lib.hid (TU.out.up hb)
    replace TV := Lib.hid (TV.out.up hb)
    replace TS := Lib.hid (TS.out.up hb)
    replace TT := Lib.hid (TT.out.up hb)
    replace TN := Lib.hid (TN.out.up hb)
    replace HW := Lib.hid (HW.out.trans (hb.mono HW.out.size))
    clear hb
    have hT0 : (fun w' : World => w'.cell? ⟨w3.heap.size, 0, none⟩ = some (.int .i64 pd.K) ∧ w'.cell? ⟨w3.heap.size, 1, none⟩ = some (.int .i64 pd.N) ∧ w'.cell? ⟨w3.heap.size, 2, none⟩ = some (.string pd.S) ∧ w'.cell? ⟨w3.heap.size, 3, none⟩ = some (.slice pm pd.M.length pcm) ∧ w'.cell? ⟨w3.heap.size, 4, none⟩ = some (.slice pl pd.L.length pcl) ∧ w'.cell? ⟨w3.heap.size, 5, none⟩ = some (.slice pt pd.T.length pct) ∧ w'.cell? ⟨w4.heap.size, 0, none⟩ = some (.int .i64 pd.K) ∧ w'.cell? ⟨w4.heap.size, 1, none⟩ = some (.int .i64 pd.N) ∧ w'.cell? ⟨w4.heap.size, 2, none⟩ = some (.string pd.S) ∧ w'.cell? ⟨w4.heap.size, 3, none⟩ = some (.slice qm pd.M.length qcm) ∧ w'.cell? ⟨w4.heap.size, 4, none⟩ = some (.slice ql pd.L.length qcl) ∧ w'.cell? ⟨w4.heap.size, 5, none⟩ = some (.slice qt pd.T.length qct) ∧ w'.cell? ⟨w5.heap.size, 0, none⟩ = some (.int .i64 ud.K) ∧ w'.cell? ⟨w5.heap.size, 1, none⟩ = some (.int .i64 ud.N) ∧ w'.cell? ⟨w5.heap.size, 2, none⟩ = some (.string ud.S) ∧ w'.cell? ⟨w5.heap.size, 3, none⟩ = some (.slice um ud.M.length ucm) ∧ w'.cell? ⟨w5.heap.size, 4, none⟩ = some (.slice ul ud.L.length ucl) ∧ w'.cell? ⟨w5.heap.size, 5, none⟩ = some (.slice ut ud.T.length uct) ∧ w'.cell? ⟨w6.heap.size, 0, none⟩ = some (.int .i64 ud.K) ∧ w'.cell? ⟨w6.heap.size, 1, none⟩ = some (.int .i64 ud.N) ∧ w'.cell? ⟨w6.heap.size, 2, none⟩ = some (.string ud.S) ∧ w'.cell? ⟨w6.heap.size, 3, none⟩ = some (.slice vm ud.M.length vcm) ∧ w'.cell? ⟨w6.heap.size, 4, none⟩ = some (.slice vl ud.L.length vcl) ∧ w'.cell? ⟨w6.heap.size, 5, none⟩ = some (.slice vt ud.T.length vct) ∧ w'.cell? ⟨w7.heap.size, 0, none⟩ = some (.int .i64 xd.K) ∧ w'.cell? ⟨w7.heap.size, 1, none⟩ = some (.int .i64 xd.N) ∧ w'.cell? ⟨w7.heap.size, 2, none⟩ = some (.string xd.S) ∧ w'.cell? ⟨w7.heap.size, 3, none⟩ = some (.slice sm xd.M.length scm) ∧ w'.cell? ⟨w7.heap.size, 4, none⟩ = some (.slice sl xd.L.length scl) ∧ w'.cell? ⟨w7.heap.size, 5, none⟩ = some (.slice st xd.T.length sct) ∧ w'.cell? ⟨w8.heap.size, 0, none⟩ = some (.int .i64 xd.K) ∧ w'.cell? ⟨w8.heap.size, 1, none⟩ = some (.int .i64 xd.N) ∧ w'.cell? ⟨w8.heap.size, 2, none⟩ = some (.string xd.S) ∧ w'.cell? ⟨w8.heap.size, 3, none⟩ = some (.slice tm xd.M.length tcm) ∧ w'.cell? ⟨w8.heap.size, 4, none⟩ = some (.slice tl xd.L.length tcl) ∧ w'.cell? ⟨w8.heap.size, 5, none⟩ = some (.slice tt xd.T.length tct) ∧ w'.cell? ⟨w80.heap.size, 0, none⟩ = some (.int .i64 nd.K) ∧ w'.cell? ⟨w80.heap.size, 1, none⟩ = some (.int .i64 nd.N) ∧ w'.cell? ⟨w80.heap.size, 2, none⟩ = some (.string nd.S) ∧ w'.cell? ⟨w80.heap.size, 3, none⟩ = some (.slice nm nd.M.length ncm) ∧ w'.cell? ⟨w80.heap.size, 4, none⟩ = some (.slice nl nd.L.length ncl) ∧ w'.cell? ⟨w80.heap.size, 5, none⟩ = some (.slice nt nd.T.length nct)) X7.drew := ⟨p0, p1, p2, p3, p4, p5, q0, q1, q2, q3, q4, q5, u0, u1, u2, u3, u4, u5, v0, v1, v2, v3, v4, v5, s0, s1, s2, s3, s4, s5, t0, t1, t2, t3, t4, t5, n0, n1, n2, n3, n4, n5⟩
    refine Od.till_region 52 (fun _ : World => True) (fun w' : World => w'.cell? ⟨w3.heap.size, 0, none⟩ = some (.int .i64 pd.K) ∧ w'.cell? ⟨w3.heap.size, 1, none⟩ = some (.int .i64 pd.N) ∧ w'.cell? ⟨w3.heap.size, 2, none⟩ = some (.string pd.S) ∧ w'.cell? ⟨w3.heap.size, 3, none⟩ = some (.slice pm pd.M.length pcm) ∧ w'.cell? ⟨w3.heap.size, 4, none⟩ = some (.slice pl pd.L.length pcl) ∧ w'.cell? ⟨w3.heap.size, 5, none⟩ = some (.slice pt pd.T.length pct) ∧ w'.cell? ⟨w4.heap.size, 0, none⟩ = some (.int .i64 pd.K) ∧ w'.cell? ⟨w4.heap.size, 1, none⟩ = some (.int .i64 pd.N) ∧ w'.cell? ⟨w4.heap.size, 2, none⟩ = some (.string pd.S) ∧ w'.cell? ⟨w4.heap.size, 3, none⟩ = some (.slice qm pd.M.length qcm) ∧ w'.cell? ⟨w4.heap.size, 4, none⟩ = some (.slice ql pd.L.length qcl) ∧ w'.cell? ⟨w4.heap.size, 5, none⟩ = some (.slice qt pd.T.length qct) ∧ w'.cell? ⟨w5.heap.size, 0, none⟩ = some (.int .i64 ud.K) ∧ w'.cell? ⟨w5.heap.size, 1, none⟩ = some (.int .i64 ud.N) ∧ w'.cell? ⟨w5.heap.size, 2, none⟩ = some (.string ud.S) ∧ w'.cell? ⟨w5.heap.size, 3, none⟩ = some (.slice um ud.M.length ucm) ∧ w'.cell? ⟨w5.heap.size, 4, none⟩ = some (.slice ul ud.L.length ucl) ∧ w'.cell? ⟨w5.heap.size, 5, none⟩ = some (.slice ut ud.T.length uct) ∧ w'.cell? ⟨w6.heap.size, 0, none⟩ = some (.int .i64 ud.K) ∧ w'.cell? ⟨w6.heap.size, 1, none⟩ = some (.int .i64 ud.N) ∧ w'.cell? ⟨w6.heap.size, 2, none⟩ = some (.string ud.S) ∧ w'.cell? ⟨w6.heap.size, 3, none⟩ = some (.slice vm ud.M.length vcm) ∧ w'.cell? ⟨w6.heap.size, 4, none⟩ = some (.slice vl ud.L.length vcl) ∧ w'.cell? ⟨w6.heap.size, 5, none⟩ = some (.slice vt ud.T.length vct) ∧ w'.cell? ⟨w7.heap.size, 0, none⟩ = some (.int .i64 xd.K) ∧ w'.cell? ⟨w7.heap.size, 1, none⟩ = some (.int .i64 xd.N) ∧ w'.cell? ⟨w7.heap.size, 2, none⟩ = some (.string xd.S) ∧ w'.cell? ⟨w7.heap.size, 3, none⟩ = some (.slice sm xd.M.length scm) ∧ w'.cell? ⟨w7.heap.size, 4, none⟩ = some (.slice sl xd.L.length scl) ∧ w'.cell? ⟨w7.heap.size, 5, none⟩ = some (.slice st xd.T.length sct) ∧ w'.cell? ⟨w8.heap.size, 0, none⟩ = some (.int .i64 xd.K) ∧ w'.cell? ⟨w8.heap.size, 1, none⟩ = some (.int .i64 xd.N) ∧ w'.cell? ⟨w8.heap.size, 2, none⟩ = some (.string xd.S) ∧ w'.cell? ⟨w8.heap.size, 3, none⟩ = some (.slice tm xd.M.length tcm) ∧ w'.cell? ⟨w8.heap.size, 4, none⟩ = some (.slice tl xd.L.length tcl) ∧ w'.cell? ⟨w8.heap.size, 5, none⟩ = some (.slice tt xd.T.length tct) ∧ w'.cell? ⟨w80.heap.size, 0, none⟩ = some (.int .i64 nd.K) ∧ w'.cell? ⟨w80.heap.size, 1, none⟩ = some (.int .i64 nd.N) ∧ w'.cell? ⟨w80.heap.size, 2, none⟩ = some (.string nd.S) ∧ w'.cell? ⟨w80.heap.size, 3, none⟩ = some (.slice nm nd.M.length ncm) ∧ w'.cell? ⟨w80.heap.size, 4, none⟩ = some (.slice nl nd.L.length ncl) ∧ w'.cell? ⟨w80.heap.size, 5, none⟩ = some (.slice nt nd.T.length nct)) 53 (by kernel_rfl) rfl ?_
    simp only [Array.replicate_succ, Array.replicate_zero, List.push_toArray, List.nil_append, List.cons_append]
    refine Od.Till.takeT (i := 0) (d := 72) (v := .agg #[.int .i64 pd.K, .int .i64 pd.N, .string pd.S, .slice pm pd.M.length pcm, .slice pl pd.L.length pcl, .slice pt pd.T.length pct]) rfl rfl (by kernel_rfl) (by kernel_rfl) (by kernel_rfl) (by kernel_rfl) (fun _ _ _ h => h) (.inl ⟨by rfl, ?_⟩) trivial hT0 ?_
    · intro wx hSw
      obtain ⟨j0, j1, j2, j3, j4, j5, j6, j7, j8, j9, j10, j11, j12, j13, j14, j15, j16, j17, j18, j19, j20, j21, j22, j23, j24, j25, j26, j27, j28, j29, j30, j31, j32, j33, j34, j35, j36, j37, j38, j39, j40, j41⟩ := hSw
      go_simp
    simp only [Act.put, List.setIfInBounds_toArray, List.set_cons_zero, List.set_cons_succ]
    refine Od.Till.takeT (i := 1) (d := 73) (v := .agg #[.int .i64 pd.K, .int .i64 pd.N, .string pd.S, .slice qm pd.M.length qcm, .slice ql pd.L.length qcl, .slice qt pd.T.length qct]) rfl rfl (by kernel_rfl) (by kernel_rfl) (by kernel_rfl) (by kernel_rfl) (fun _ _ _ h => h) (.inl ⟨by rfl, ?_⟩) trivial hT0 ?_
    · intro wx hSw
      obtain ⟨j0, j1, j2, j3, j4, j5, j6, j7, j8, j9, j10, j11, j12, j13, j14, j15, j16, j17, j18, j19, j20, j21, j22, j23, j24, j25, j26, j27, j28, j29, j30, j31, j32, j33, j34, j35, j36, j37, j38, j39, j40, j41⟩ := hSw
      go_simp
    simp only [Act.put, List.setIfInBounds_toArray, List.set_cons_zero, List.set_cons_succ]
    refine Od.Till.one (i := 2) (by kernel_rfl) rfl (fun K hK => ?_)
    go_simp
    refine (alike_any pd pd _ _ _ (by exact TP.out) (by exact TQ.out)).mono ?_
    rintro e w9 ⟨rfl, hb⟩
    rw [L1.out]
    replace p0 := (hb.cell (p := ⟨w3.heap.size, 0, none⟩) lt_p).trans p0
    replace p1 := (hb.cell (p := ⟨w3.heap.size, 1, none⟩) lt_p).trans p1
    replace p2 := (hb.cell (p := ⟨w3.heap.size, 2, none⟩) lt_p).trans p2
    replace p3 := (hb.cell (p := ⟨w3.heap.size, 3, none⟩) lt_p).trans p3
    replace p4 := (hb.cell (p := ⟨w3.heap.size, 4, none⟩) lt_p).trans p4
    replace p5 := (hb.cell (p := ⟨w3.heap.size, 5, none⟩) lt_p).trans p5
    replace lt_p : w3.heap.size < w9.heap.size := Nat.lt_of_lt_of_le lt_p hb.size
    replace q0 := (hb.cell (p := ⟨w4.heap.size, 0, none⟩) lt_q).trans q0
    replace q1 := (hb.cell (p := ⟨w4.heap.size, 1, none⟩) lt_q).trans q1
    replace q2 := (hb.cell (p := ⟨w4.heap.size, 2, none⟩) lt_q).trans q2
    replace q3 := (hb.cell (p := ⟨w4.heap.size, 3, none⟩) lt_q).trans q3
    replace q4 := (hb.cell (p := ⟨w4.heap.size, 4, none⟩) lt_q).trans q4
    replace q5 := (hb.cell (p := ⟨w4.heap.size, 5, none⟩) lt_q).trans q5
    replace lt_q : w4.heap.size < w9.heap.size := Nat.lt_of_lt_of_le lt_q hb.size
    replace u0 := (hb.cell (p := ⟨w5.heap.size, 0, none⟩) lt_u).trans u0
    replace u1 := (hb.cell (p := ⟨w5.heap.size, 1, none⟩) lt_u).trans u1
    replace u2 := (hb.cell (p := ⟨w5.heap.size, 2, none⟩) lt_u).trans u2
    replace u3 := (hb.cell (p := ⟨w5.heap.size, 3, none⟩) lt_u).trans u3
    replace u4 := (hb.cell (p := ⟨w5.heap.size, 4, none⟩) lt_u).trans u4
    replace u5 := (hb.cell (p := ⟨w5.heap.size, 5, none⟩) lt_u).trans u5
    replace lt_u : w5.heap.size < w9.heap.size := Nat.lt_of_lt_of_le lt_u hb.size
    replace v0 := (hb.cell (p := ⟨w6.heap.size, 0, none⟩) lt_v).trans v0
    replace v1 := (hb.cell (p := ⟨w6.heap.size, 1, none⟩) lt_v).trans v1
    replace v2 := (hb.cell (p := ⟨w6.heap.size, 2, none⟩) lt_v).trans v2
    replace v3 := (hb.cell (p := ⟨w6.heap.size, 3, none⟩) lt_v).trans v3
    replace v4 := (hb.cell (p := ⟨w6.heap.size, 4, none⟩) lt_v).trans v4
    replace v5 := (hb.cell (p := ⟨w6.heap.size, 5, none⟩) lt_v).trans v5
    replace lt_v : w6.heap.size < w9.heap.size := Nat.lt_of_lt_of_le lt_v hb.size
    replace s0 := (hb.cell (p := ⟨w7.heap.size, 0, none⟩) lt_s).trans s0
    replace s1 := (hb.cell (p := ⟨w7.heap.size, 1, none⟩) lt_s).trans s1
    replace s2 := (hb.cell (p := ⟨w7.heap.size, 2, none⟩) lt_s).trans s2
    replace s3 := (hb.cell (p := ⟨w7.heap.size, 3, none⟩) lt_s).trans s3
    replace s4 := (hb.cell (p := ⟨w7.heap.size, 4, none⟩) lt_s).trans s4
    replace s5 := (hb.cell (p := ⟨w7.heap.size, 5, none⟩) lt_s).trans s5
    replace lt_s : w7.heap.size < w9.heap.size := Nat.lt_of_lt_of_le lt_s hb.size
    replace t0 := (hb.cell (p := ⟨w8.heap.size, 0, none⟩) lt_t).trans t0
    replace t1 := (hb.cell (p := ⟨w8.heap.size, 1, none⟩) lt_t).trans t1
    replace t2 := (hb.cell (p := ⟨w8.heap.size, 2, none⟩) lt_t).trans t2
    replace t3 := (hb.cell (p := ⟨w8.heap.size, 3, none⟩) lt_t).trans t3
    replace t4 := (hb.cell (p := ⟨w8.heap.size, 4, none⟩) lt_t).trans t4
    replace t5 := (hb.cell (p := ⟨w8.heap.size, 5, none⟩) lt_t).trans t5
    replace lt_t : w8.heap.size < w9.heap.size := Nat.lt_of_lt_of_le lt_t hb.size
    replace n0 := (hb.cell (p := ⟨w80.heap.size, 0, none⟩) lt_n).trans n0
    replace n1 := (hb.cell (p := ⟨w80.heap.size, 1, none⟩) lt_n).trans n1
    replace n2 := (hb.cell (p := ⟨w80.heap.size, 2, none⟩) lt_n).trans n2
    replace n3 := (hb.cell (p := ⟨w80.heap.size, 3, none⟩) lt_n).trans n3
    replace n4 := (hb.cell (p := ⟨w80.heap.size, 4, none⟩) lt_n).trans n4
    replace n5 := (hb.cell (p := ⟨w80.heap.size, 5, none⟩) lt_n).trans n5
    replace lt_n : w80.heap.size < w9.heap.size := Nat.lt_of_lt_of_le lt_n hb.size
    replace TA := Lib.hid (TA.out.up hb)
    replace TD := Lib.hid (TD.out.up hb)
    replace TP := Lib.hid (TP.out.up hb)
    replace TQ := Lib.hid (TQ.out.up hb)
    replace TU := Lib.hid (TU.out.up hb)
    replace TV := Lib.hid (TV.out.up hb)
    replace TS := Lib.hid (TS.out.up hb)
    replace TT := Lib.hid (TT.out.up hb)
    replace TN := Lib.hid (TN.out.up hb)
    replace HW := Lib.hid (HW.out.trans (hb.mono HW.out.size))
    clear hb
    have hT1 : (fun w' : World => w'.cell? ⟨w3.heap.size, 0, none⟩ = some (.int .i64 pd.K) ∧ w'.cell? ⟨w3.heap.size, 1, none⟩ = some (.int .i64 pd.N) ∧ w'.cell? ⟨w3.heap.size, 2, none⟩ = some (.string pd.S) ∧ w'.cell? ⟨w3.heap.size, 3, none⟩ = some (.slice pm pd.M.length pcm) ∧ w'.cell? ⟨w3.heap.size, 4, none⟩ = some (.slice pl pd.L.length pcl) ∧ w'.cell? ⟨w3.heap.size, 5, none⟩ = some (.slice pt pd.T.length pct) ∧ w'.cell? ⟨w4.heap.size, 0, none⟩ = some (.int .i64 pd.K) ∧ w'.cell? ⟨w4.heap.size, 1, none⟩ = some (.int .i64 pd.N) ∧ w'.cell? ⟨w4.heap.size, 2, none⟩ = some (.string pd.S) ∧ w'.cell? ⟨w4.heap.size, 3, none⟩ = some (.slice qm pd.M.length qcm) ∧ w'.cell? ⟨w4.heap.size, 4, none⟩ = some (.slice ql pd.L.length qcl) ∧ w'.cell? ⟨w4.heap.size, 5, none⟩ = some (.slice qt pd.T.length qct) ∧ w'.cell? ⟨w5.heap.size, 0, none⟩ = some (.int .i64 ud.K) ∧ w'.cell? ⟨w5.heap.size, 1, none⟩ = some (.int .i64 ud.N) ∧ w'.cell? ⟨w5.heap.size, 2, none⟩ = some (.string ud.S) ∧ w'.cell? ⟨w5.heap.size, 3, none⟩ = some (.slice um ud.M.length ucm) ∧ w'.cell? ⟨w5.heap.size, 4, none⟩ = some (.slice ul ud.L.length ucl) ∧ w'.cell? ⟨w5.heap.size, 5, none⟩ = some (.slice ut ud.T.length uct) ∧ w'.cell? ⟨w6.heap.size, 0, none⟩ = some (.int .i64 ud.K) ∧ w'.cell? ⟨w6.heap.size, 1, none⟩ = some (.int .i64 ud.N) ∧ w'.cell? ⟨w6.heap.size, 2, none⟩ = some (.string ud.S) ∧ w'.cell? ⟨w6.heap.size, 3, none⟩ = some (.slice vm ud.M.length vcm) ∧ w'.cell? ⟨w6.heap.size, 4, none⟩ = some (.slice vl ud.L.length vcl) ∧ w'.cell? ⟨w6.heap.size, 5, none⟩ = some (.slice vt ud.T.length vct) ∧ w'.cell? ⟨w7.heap.size, 0, none⟩ = some (.int .i64 xd.K) ∧ w'.cell? ⟨w7.heap.size, 1, none⟩ = some (.int .i64 xd.N) ∧ w'.cell? ⟨w7.heap.size, 2, none⟩ = some (.string xd.S) ∧ w'.cell? ⟨w7.heap.size, 3, none⟩ = some (.slice sm xd.M.length scm) ∧ w'.cell? ⟨w7.heap.size, 4, none⟩ = some (.slice sl xd.L.length scl) ∧ w'.cell? ⟨w7.heap.size, 5, none⟩ = some (.slice st xd.T.length sct) ∧ w'.cell? ⟨w8.heap.size, 0, none⟩ = some (.int .i64 xd.K) ∧ w'.cell? ⟨w8.heap.size, 1, none⟩ = some (.int .i64 xd.N) ∧ w'.cell? ⟨w8.heap.size, 2, none⟩ = some (.string xd.S) ∧ w'.cell? ⟨w8.heap.size, 3, none⟩ = some (.slice tm xd.M.length tcm) ∧ w'.cell? ⟨w8.heap.size, 4, none⟩ = some (.slice tl xd.L.length tcl) ∧ w'.cell? ⟨w8.heap.size, 5, none⟩ = some (.slice tt xd.T.length tct) ∧ w'.cell? ⟨w80.heap.size, 0, none⟩ = some (.int .i64 nd.K) ∧ w'.cell? ⟨w80.heap.size, 1, none⟩ = some (.int .i64 nd.N) ∧ w'.cell? ⟨w80.heap.size, 2, none⟩ = some (.string nd.S) ∧ w'.cell? ⟨w80.heap.size, 3, none⟩ = some (.slice nm nd.M.length ncm) ∧ w'.cell? ⟨w80.heap.size, 4, none⟩ = some (.slice nl nd.L.length ncl) ∧ w'.cell? ⟨w80.heap.size, 5, none⟩ = some (.slice nt nd.T.length nct)) w9 := ⟨p0, p1, p2, p3, p4, p5, q0, q1, q2, q3, q4, q5, u0, u1, u2, u3, u4, u5, v0, v1, v2, v3, v4, v5, s0, s1, s2, s3, s4, s5, t0, t1, t2, t3, t4, t5, n0, n1, n2, n3, n4, n5⟩
    refine hK.out _ _ ⟨fun _ => trivial, hT1⟩ ?_
    clear hK K hT0
    simp only [Act.put, List.setIfInBounds_toArray, List.set_cons_zero, List.set_cons_succ]
    refine Od.Till.takeT (i := 3) (d := 75) (v := .bool true) rfl rfl (by kernel_rfl) (by kernel_rfl) (by kernel_rfl) (by kernel_rfl) (fun _ _ _ h => h) (.inl ⟨by rfl, ?_⟩) trivial hT1 ?_
    · intro wx hSw
      clear hSw
      go_simp
    simp only [Act.put, List.setIfInBounds_toArray, List.set_cons_zero, List.set_cons_succ]
    refine Od.Till.takeT (i := 4) (d := 76) (v := .int .i64 ce) rfl rfl (by kernel_rfl) (by kernel_rfl) (by kernel_rfl) (by kernel_rfl) (fun _ _ _ h => h) (.inl ⟨by rfl, ?_⟩) trivial hT1 ?_
    · intro wx hSw
      clear hSw
      go_simp
    simp only [Act.put, List.setIfInBounds_toArray, List.set_cons_zero, List.set_cons_succ]
    refine Od.Till.takeT (i := 5) (d := 77) (v := .int .i64 ce) rfl rfl (by kernel_rfl) (by kernel_rfl) (by kernel_rfl) (by kernel_rfl) (fun _ _ _ h => h) (.inl ⟨by rfl, ?_⟩) trivial hT1 ?_
    · intro wx hSw
      clear hSw
      go_simp
    simp only [Act.put, List.setIfInBounds_toArray, List.set_cons_zero, List.set_cons_succ]
    refine Od.Till.takeT (i := 6) (d := 78) (v := .bool true) rfl rfl (by kernel_rfl) (by kernel_rfl) (by kernel_rfl) (by kernel_rfl) (fun _ _ _ h => h) (.inl ⟨by rfl, ?_⟩) trivial hT1 ?_
    · intro wx hSw
      clear hSw
      go_simp
    simp only [Act.put, List.setIfInBounds_toArray, List.set_cons_zero, List.set_cons_succ]
    refine Od.Till.takeT (i := 7) (d := 79) (v := .bool true) rfl rfl (by kernel_rfl) (by kernel_rfl) (by kernel_rfl) (by kernel_rfl) (fun _ _ _ h => h) (.inl ⟨by rfl, ?_⟩) trivial hT1 ?_
    · intro wx hSw
      clear hSw
      go_simp
    simp only [Act.put, List.setIfInBounds_toArray, List.set_cons_zero, List.set_cons_succ]
    refine Od.Till.takeT (i := 8) (d := 80) (v := .bool true) rfl rfl (by kernel_rfl) (by kernel_rfl) (by kernel_rfl) (by kernel_rfl) (fun _ _ _ h => h) (.inl ⟨by rfl, ?_⟩) trivial hT1 ?_
    · intro wx hSw
      clear hSw
      go_simp
    simp only [Act.put, List.setIfInBounds_toArray, List.set_cons_zero, List.set_cons_succ]
    refine Od.Till.takeT (i := 9) (d := 81) (v := .agg #[.int .i64 ud.K, .int .i64 ud.N, .string ud.S, .slice um ud.M.length ucm, .slice ul ud.L.length ucl, .slice ut ud.T.length uct]) rfl rfl (by kernel_rfl) (by kernel_rfl) (by kernel_rfl) (by kernel_rfl) (fun _ _ _ h => h) (.inl ⟨by rfl, ?_⟩) trivial hT1 ?_
    · intro wx hSw
      obtain ⟨j0, j1, j2, j3, j4, j5, j6, j7, j8, j9, j10, j11, j12, j13, j14, j15, j16, j17, j18, j19, j20, j21, j22, j23, j24, j25, j26, j27, j28, j29, j30, j31, j32, j33, j34, j35, j36, j37, j38, j39, j40, j41⟩ := hSw
      go_simp
    simp only [Act.put, List.setIfInBounds_toArray, List.set_cons_zero, List.set_cons_succ]
    refine Od.Till.takeT (i := 10) (d := 82) (v := .agg #[.int .i64 ud.K, .int .i64 ud.N, .string ud.S, .slice vm ud.M.length vcm, .slice vl ud.L.length vcl, .slice vt ud.T.length vct]) rfl rfl (by kernel_rfl) (by kernel_rfl) (by kernel_rfl) (by kernel_rfl) (fun _ _ _ h => h) (.inl ⟨by rfl, ?_⟩) trivial hT1 ?_
    · intro wx hSw
      obtain ⟨j0, j1, j2, j3, j4, j5, j6, j7, j8, j9, j10, j11, j12, j13, j14, j15, j16, j17, j18, j19, j20, j21, j22, j23, j24, j25, j26, j27, j28, j29, j30, j31, j32, j33, j34, j35, j36, j37, j38, j39, j40, j41⟩ := hSw
      go_simp
    simp only [Act.put, List.setIfInBounds_toArray, List.set_cons_zero, List.set_cons_succ]
    refine Od.Till.one (i := 11) (by kernel_rfl) rfl (fun K hK => ?_)
    go_simp
    refine (alike_any ud ud _ _ _ (by exact TU.out) (by exact TV.out)).mono ?_
    rintro e w10 ⟨rfl, hb⟩
    rw [L2.out]
    replace p0 := (hb.cell (p := ⟨w3.heap.size, 0, none⟩) lt_p).trans p0
    replace p1 := (hb.cell (p := ⟨w3.heap.size, 1, none⟩) lt_p).trans p1
    replace p2 := (hb.cell (p := ⟨w3.heap.size, 2, none⟩) lt_p).trans p2
    replace p3 := (hb.cell (p := ⟨w3.heap.size, 3, none⟩) lt_p).trans p3
    replace p4 := (hb.cell (p := ⟨w3.heap.size, 4, none⟩) lt_p).trans p4
    replace p5 := (hb.cell (p := ⟨w3.heap.size, 5, none⟩) lt_p).trans p5
    replace lt_p : w3.heap.size < w10.heap.size := Nat.lt_of_lt_of_le lt_p hb.size
    replace q0 := (hb.cell (p := ⟨w4.heap.size, 0, none⟩) lt_q).trans q0
    replace q1 := (hb.cell (p := ⟨w4.heap.size, 1, none⟩) lt_q).trans q1
    replace q2 := (hb.cell (p := ⟨w4.heap.size, 2, none⟩) lt_q).trans q2
    replace q3 := (hb.cell (p := ⟨w4.heap.size, 3, none⟩) lt_q).trans q3
    replace q4 := (hb.cell (p := ⟨w4.heap.size, 4, none⟩) lt_q).trans q4
    replace q5 := (hb.cell (p := ⟨w4.heap.size, 5, none⟩) lt_q).trans q5
    replace lt_q : w4.heap.size < w10.heap.size := Nat.lt_of_lt_of_le lt_q hb.size
    replace u0 := (hb.cell (p := ⟨w5.heap.size, 0, none⟩) lt_u).trans u0
    replace u1 := (hb.cell (p := ⟨w5.heap.size, 1, none⟩) lt_u).trans u1
    replace u2 := (hb.cell (p := ⟨w5.heap.size, 2, none⟩) lt_u).trans u2
    replace u3 := (hb.cell (p := ⟨w5.heap.size, 3, none⟩) lt_u).trans u3
    replace u4 := (hb.cell (p := ⟨w5.heap.size, 4, none⟩) lt_u).trans u4
    replace u5 := (hb.cell (p := ⟨w5.heap.size, 5, none⟩) lt_u).trans u5
    replace lt_u : w5.heap.size < w10.heap.size := Nat.lt_of_lt_of_le lt_u hb.size
    replace v0 := (hb.cell (p := ⟨w6.heap.size, 0, none⟩) lt_v).trans v0
    replace v1 := (hb.cell (p := ⟨w6.heap.size, 1, none⟩) lt_v).trans v1
    replace v2 := (hb.cell (p := ⟨w6.heap.size, 2, none⟩) lt_v).trans v2
    replace v3 := (hb.cell (p := ⟨w6.heap.size, 3, none⟩) lt_v).trans v3
    replace v4 := (hb.cell (p := ⟨w6.heap.size, 4, none⟩) lt_v).trans v4
    replace v5 := (hb.cell (p := ⟨w6.heap.size, 5, none⟩) lt_v).trans v5
    replace lt_v : w6.heap.size < w10.heap.size := Nat.lt_of_lt_of_le lt_v hb.size
    replace s0 := (hb.cell (p := ⟨w7.heap.size, 0, none⟩) lt_s).trans s0
    replace s1 := (hb.cell (p := ⟨w7.heap.size, 1, none⟩) lt_s).trans s1
    replace s2 := (hb.cell (p := ⟨w7.heap.size, 2, none⟩) lt_s).trans s2
    replace s3 := (hb.cell (p := ⟨w7.heap.size, 3, none⟩) lt_s).trans s3
    replace s4 := (hb.cell (p := ⟨w7.heap.size, 4, none⟩) lt_s).trans s4
    replace s5 := (hb.cell (p := ⟨w7.heap.size, 5, none⟩) lt_s).trans s5
    replace lt_s : w7.heap.size < w10.heap.size := Nat.lt_of_lt_of_le lt_s hb.size
    replace t0 := (hb.cell (p := ⟨w8.heap.size, 0, none⟩) lt_t).trans t0
    replace t1 := (hb.cell (p := ⟨w8.heap.size, 1, none⟩) lt_t).trans t1
    replace t2 := (hb.cell (p := ⟨w8.heap.size, 2, none⟩) lt_t).trans t2
    replace t3 := (hb.cell (p := ⟨w8.heap.size, 3, none⟩) lt_t).trans t3
    replace t4 := (hb.cell (p := ⟨w8.heap.size, 4, none⟩) lt_t).trans t4
    replace t5 := (hb.cell (p := ⟨w8.heap.size, 5, none⟩) lt_t).trans t5
    replace lt_t : w8.heap.size < w10.heap.size := Nat.lt_of_lt_of_le lt_t hb.size
    replace n0 := (hb.cell (p := ⟨w80.heap.size, 0, none⟩) lt_n).trans n0
    replace n1 := (hb.cell (p := ⟨w80.heap.size, 1, none⟩) lt_n).trans n1
    replace n2 := (hb.cell (p := ⟨w80.heap.size, 2, none⟩) lt_n).trans n2
    replace n3 := (hb.cell (p := ⟨w80.heap.size, 3, none⟩) lt_n).trans n3
    replace n4 := (hb.cell (p := ⟨w80.heap.size, 4, none⟩) lt_n).trans n4
    replace n5 := (hb.cell (p := ⟨w80.heap.size, 5, none⟩) lt_n).trans n5
    replace lt_n : w80.heap.size < w10.heap.size := Nat.lt_of_lt_of_le lt_n hb.size
    replace TA := Lib.hid (TA.out.up hb)
    replace TD := Lib.hid (TD.out.up hb)
    replace TP := Lib.hid (TP.out.up hb)
    replace TQ := Lib.hid (TQ.out.up hb)
    replace TU := Lib.hid (TU.out.up hb)
    replace TV := Lib.hid (TV.out.up hb)
    replace TS := Lib.hid (TS.out.up hb)
    replace TT := Lib.hid (TT.out.up hb)
    replace TN := Lib.hid (TN.out.up hb)
    replace HW := Lib.hid (HW.out.trans (hb.mono HW.out.size))
    clear hb
    have hT2 : (fun w' : World => w'.cell? ⟨w3.heap.size, 0, none⟩ = some (.int .i64 pd.K) ∧ w'.cell? ⟨w3.heap.size, 1, none⟩ = some (.int .i64 pd.N) ∧ w'.cell? ⟨w3.heap.size, 2, none⟩ = some (.string pd.S) ∧ w'.cell? ⟨w3.heap.size, 3, none⟩ = some (.slice pm pd.M.length pcm) ∧ w'.cell? ⟨w3.heap.size, 4, none⟩ = some (.slice pl pd.L.length pcl) ∧ w'.cell? ⟨w3.heap.size, 5, none⟩ = some (.slice pt pd.T.length pct) ∧ w'.cell? ⟨w4.heap.size, 0, none⟩ = some (.int .i64 pd.K) ∧ w'.cell? ⟨w4.heap.size, 1, none⟩ = some (.int .i64 pd.N) ∧ w'.cell? ⟨w4.heap.size, 2, none⟩ = some (.string pd.S) ∧ w'.cell? ⟨w4.heap.size, 3, none⟩ = some (.slice qm pd.M.length qcm) ∧ w'.cell? ⟨w4.heap.size, 4, none⟩ = some (.slice ql pd.L.length qcl) ∧ w'.cell? ⟨w4.heap.size, 5, none⟩ = some (.slice qt pd.T.length qct) ∧ w'.cell? ⟨w5.heap.size, 0, none⟩ = some (.int .i64 ud.K) ∧ w'.cell? ⟨w5.heap.size, 1, none⟩ = some (.int .i64 ud.N) ∧ w'.cell? ⟨w5.heap.size, 2, none⟩ = some (.string ud.S) ∧ w'.cell? ⟨w5.heap.size, 3, none⟩ = some (.slice um ud.M.length ucm) ∧ w'.cell? ⟨w5.heap.size, 4, none⟩ = some (.slice ul ud.L.length ucl) ∧ w'.cell? ⟨w5.heap.size, 5, none⟩ = some (.slice ut ud.T.length uct) ∧ w'.cell? ⟨w6.heap.size, 0, none⟩ = some (.int .i64 ud.K) ∧ w'.cell? ⟨w6.heap.size, 1, none⟩ = some (.int .i64 ud.N) ∧ w'.cell? ⟨w6.heap.size, 2, none⟩ = some (.string ud.S) ∧ w'.cell? ⟨w6.heap.size, 3, none⟩ = some (.slice vm ud.M.length vcm) ∧ w'.cell? ⟨w6.heap.size, 4, none⟩ = some (.slice vl ud.L.length vcl) ∧ w'.cell? ⟨w6.heap.size, 5, none⟩ = some (.slice vt ud.T.length vct) ∧ w'.cell? ⟨w7.heap.size, 0, none⟩ = some (.int .i64 xd.K) ∧ w'.cell? ⟨w7.heap.size, 1, none⟩ = some (.int .i64 xd.N) ∧ w'.cell? ⟨w7.heap.size, 2, none⟩ = some (.string xd.S) ∧ w'.cell? ⟨w7.heap.size, 3, none⟩ = some (.slice sm xd.M.length scm) ∧ w'.cell? ⟨w7.heap.size, 4, none⟩ = some (.slice sl xd.L.length scl) ∧ w'.cell? ⟨w7.heap.size, 5, none⟩ = some (.slice st xd.T.length sct) ∧ w'.cell? ⟨w8.heap.size, 0, none⟩ = some (.int .i64 xd.K) ∧ w'.cell? ⟨w8.heap.size, 1, none⟩ = some (.int .i64 xd.N) ∧ w'.cell? ⟨w8.heap.size, 2, none⟩ = some (.string xd.S) ∧ w'.cell? ⟨w8.heap.size, 3, none⟩ = some (.slice tm xd.M.length tcm) ∧ w'.cell? ⟨w8.heap.size, 4, none⟩ = some (.slice tl xd.L.length tcl) ∧ w'.cell? ⟨w8.heap.size, 5, none⟩ = some (.slice tt xd.T.length tct) ∧ w'.cell? ⟨w80.heap.size, 0, none⟩ = some (.int .i64 nd.K) ∧ w'.cell? ⟨w80.heap.size, 1, none⟩ = some (.int .i64 nd.N) ∧ w'.cell? ⟨w80.heap.size, 2, none⟩ = some (.string nd.S) ∧ w'.cell? ⟨w80.heap.size, 3, none⟩ = some (.slice nm nd.M.length ncm) ∧ w'.cell? ⟨w80.heap.size, 4, none⟩ = some (.slice nl nd.L.length ncl) ∧ w'.cell? ⟨w80.heap.size, 5, none⟩ = some (.slice nt nd.T.length nct)) w10 := ⟨p0, p1, p2, p3, p4, p5, q0, q1, q2, q3, q4, q5, u0, u1, u2, u3, u4, u5, v0, v1, v2, v3, v4, v5, s0, s1, s2, s3, s4, s5, t0, t1, t2, t3, t4, t5, n0, n1, n2, n3, n4, n5⟩
    refine hK.out _ _ ⟨fun _ => trivial, hT2⟩ ?_
    clear hK K hT1
    simp only [Act.put, List.setIfInBounds_toArray, List.set_cons_zero, List.set_cons_succ]
    refine Od.Till.takeT (i := 12) (d := 84) (v := .bool true) rfl rfl (by kernel_rfl) (by kernel_rfl) (by kernel_rfl) (by kernel_rfl) (fun _ _ _ h => h) (.inl ⟨by rfl, ?_⟩) trivial hT2 ?_
    · intro wx hSw
      clear hSw
      go_simp
    simp only [Act.put, List.setIfInBounds_toArray, List.set_cons_zero, List.set_cons_succ]
    refine Od.Till.takeT (i := 13) (d := 85) (v := .bool true) rfl rfl (by kernel_rfl) (by kernel_rfl) (by kernel_rfl) (by kernel_rfl) (fun _ _ _ h => h) (.inl ⟨by rfl, ?_⟩) trivial hT2 ?_
    · intro wx hSw
      clear hSw
      go_simp
    simp only [Act.put, List.setIfInBounds_toArray, List.set_cons_zero, List.set_cons_succ]
    refine Od.Till.takeT (i := 14) (d := 86) (v := .int .i64 pe) rfl rfl (by kernel_rfl) (by kernel_rfl) (by kernel_rfl) (by kernel_rfl) (fun _ _ _ h => h) (.inl ⟨by rfl, ?_⟩) trivial hT2 ?_
    · intro wx hSw
      clear hSw
      go_simp
    simp only [Act.put, List.setIfInBounds_toArray, List.set_cons_zero, List.set_cons_succ]
    refine Od.Till.takeT (i := 15) (d := 87) (v := .int .i64 pe) rfl rfl (by kernel_rfl) (by kernel_rfl) (by kernel_rfl) (by kernel_rfl) (fun _ _ _ h => h) (.inl ⟨by rfl, ?_⟩) trivial hT2 ?_
    · intro wx hSw
      clear hSw
      go_simp
    simp only [Act.put, List.setIfInBounds_toArray, List.set_cons_zero, List.set_cons_succ]
    refine Od.Till.takeT (i := 16) (d := 88) (v := .bool true) rfl rfl (by kernel_rfl) (by kernel_rfl) (by kernel_rfl) (by kernel_rfl) (fun _ _ _ h => h) (.inl ⟨by rfl, ?_⟩) trivial hT2 ?_
    · intro wx hSw
      clear hSw
      go_simp
    simp only [Act.put, List.setIfInBounds_toArray, List.set_cons_zero, List.set_cons_succ]
    refine Od.Till.takeT (i := 17) (d := 89) (v := .bool true) rfl rfl (by kernel_rfl) (by kernel_rfl) (by kernel_rfl) (by kernel_rfl) (fun _ _ _ h => h) (.inl ⟨by rfl, ?_⟩) trivial hT2 ?_
    · intro wx hSw
      clear hSw
      go_simp
    simp only [Act.put, List.setIfInBounds_toArray, List.set_cons_zero, List.set_cons_succ]
    refine Od.Till.takeT (i := 18) (d := 90) (v := .bool true) rfl rfl (by kernel_rfl) (by kernel_rfl) (by kernel_rfl) (by kernel_rfl) (fun _ _ _ h => h) (.inl ⟨by rfl, ?_⟩) trivial hT2 ?_
    · intro wx hSw
      clear hSw
      go_simp
    simp only [Act.put, List.setIfInBounds_toArray, List.set_cons_zero, List.set_cons_succ]
    refine Od.Till.takeT (i := 19) (d := 91) (v := .agg #[.int .i64 xd.K, .int .i64 xd.N, .string xd.S, .slice sm xd.M.length scm, .slice sl xd.L.length scl, .slice st xd.T.length sct]) rfl rfl (by kernel_rfl) (by kernel_rfl) (by kernel_rfl) (by kernel_rfl) (fun _ _ _ h => h) (.inl ⟨by rfl, ?_⟩) trivial hT2 ?_
    · intro wx hSw
      obtain ⟨j0, j1, j2, j3, j4, j5, j6, j7, j8, j9, j10, j11, j12, j13, j14, j15, j16, j17, j18, j19, j20, j21, j22, j23, j24, j25, j26, j27, j28, j29, j30, j31, j32, j33, j34, j35, j36, j37, j38, j39, j40, j41⟩ := hSw
      go_simp
    simp only [Act.put, List.setIfInBounds_toArray, List.set_cons_zero, List.set_cons_succ]
    refine Od.Till.takeT (i := 20) (d := 92) (v := .agg #[.int .i64 xd.K, .int .i64 xd.N, .string xd.S, .slice tm xd.M.length tcm, .slice tl xd.L.length tcl, .slice tt xd.T.length tct]) rfl rfl (by kernel_rfl) (by kernel_rfl) (by kernel_rfl) (by kernel_rfl) (fun _ _ _ h => h) (.inl ⟨by rfl, ?_⟩) trivial hT2 ?_
    · intro wx hSw
      obtain ⟨j0, j1, j2, j3, j4, j5, j6, j7, j8, j9, j10, j11, j12, j13, j14, j15, j16, j17, j18, j19, j20, j21, j22, j23, j24, j25, j26, j27, j28, j29, j30, j31, j32, j33, j34, j35, j36, j37, j38, j39, j40, j41⟩ := hSw
      go_simp
    simp only [Act.put, List.setIfInBounds_toArray, List.set_cons_zero, List.set_cons_succ]
    refine Od.Till.one (i := 21) (by kernel_rfl) rfl (fun K hK => ?_)
    go_simp
    refine (alike_any xd xd _ _ _ (by exact TS.out) (by exact TT.out)).mono ?_
    rintro e w11 ⟨rfl, hb⟩
    rw [L3.out]
    replace p0 := (hb.cell (p := ⟨w3.heap.size, 0, none⟩) lt_p).trans p0
    replace p1 := (hb.cell (p := ⟨w3.heap.size, 1, none⟩) lt_p).trans p1
    replace p2 := (hb.cell (p := ⟨w3.heap.size, 2, none⟩) lt_p).trans p2
    replace p3 := (hb.cell (p := ⟨w3.heap.size, 3, none⟩) lt_p).trans p3
    replace p4 := (hb.cell (p := ⟨w3.heap.size, 4, none⟩) lt_p).trans p4
    replace p5 := (hb.cell (p := ⟨w3.heap.size, 5, none⟩) lt_p).trans p5
    replace lt_p : w3.heap.size < w11.heap.size := Nat.lt_of_lt_of_le lt_p hb.size
    replace q0 := (hb.cell (p := ⟨w4.heap.size, 0, none⟩) lt_q).trans q0
    replace q1 := (hb.cell (p := ⟨w4.heap.size, 1, none⟩) lt_q).trans q1
    replace q2 := (hb.cell (p := ⟨w4.heap.size, 2, none⟩) lt_q).trans q2
    replace q3 := (hb.cell (p := ⟨w4.heap.size, 3, none⟩) lt_q).trans q3
    replace q4 := (hb.cell (p := ⟨w4.heap.size, 4, none⟩) lt_q).trans q4
    replace q5 := (hb.cell (p := ⟨w4.heap.size, 5, none⟩) lt_q).trans q5
    replace lt_q : w4.heap.size < w11.heap.size := Nat.lt_of_lt_of_le lt_q hb.size
    replace u0 := (hb.cell (p := ⟨w5.heap.size, 0, none⟩) lt_u).trans u0
    replace u1 := (hb.cell (p := ⟨w5.heap.size, 1, none⟩) lt_u).trans u1
    replace u2 := (hb.cell (p := ⟨w5.heap.size, 2, none⟩) lt_u).trans u2
    replace u3 := (hb.cell (p := ⟨w5.heap.size, 3, none⟩) lt_u).trans u3
    replace u4 := (hb.cell (p := ⟨w5.heap.size, 4, none⟩) lt_u).trans u4
    replace u5 := (hb.cell (p := ⟨w5.heap.size, 5, none⟩) lt_u).trans u5
    replace lt_u : w5.heap.size < w11.heap.size := Nat.lt_of_lt_of_le lt_u hb.size
    replace v0 := (hb.cell (p := ⟨w6.heap.size, 0, none⟩) lt_v).trans v0
    replace v1 := (hb.cell (p := ⟨w6.heap.size, 1, none⟩) lt_v).trans v1
    replace v2 := (hb.cell (p := ⟨w6.heap.size, 2, none⟩) lt_v).trans v2
    replace v3 := (hb.cell (p := ⟨w6.heap.size, 3, none⟩) lt_v).trans v3
    replace v4 := (hb.cell (p := ⟨w6.heap.size, 4, none⟩) lt_v).trans v4
    replace v5 := (hb.cell (p := ⟨w6.heap.size, 5, none⟩) lt_v).trans v5
    replace lt_v : w6.heap.size < w11.heap.size := Nat.lt_of_lt_of_le lt_v hb.size
    replace s0 := (hb.cell (p := ⟨w7.heap.size, 0, none⟩) lt_s).trans s0
    replace s1 := (hb.cell (p := ⟨w7.heap.size, 1, none⟩) lt_s).trans s1
    replace s2 := (hb.cell (p := ⟨w7.heap.size, 2, none⟩) lt_s).trans s2
    replace s3 := (hb.cell (p := ⟨w7.heap.size, 3, none⟩) lt_s).trans s3
    replace s4 := (hb.cell (p := ⟨w7.heap.size, 4, none⟩) lt_s).trans s4
    replace s5 := (hb.cell (p := ⟨w7.heap.size, 5, none⟩) lt_s).trans s5
    replace lt_s : w7.heap.size < w11.heap.size := Nat.lt_of_lt_of_le lt_s hb.size
    replace t0 := (hb.cell (p := ⟨w8.heap.size, 0, none⟩) lt_t).trans t0
    replace t1 := (hb.cell (p := ⟨w8.heap.size, 1, none⟩) lt_t).trans t1
    replace t2 := (hb.cell (p := ⟨w8.heap.size, 2, none⟩) lt_t).trans t2
    replace t3 := (hb.cell (p := ⟨w8.heap.size, 3, none⟩) lt_t).trans t3
    replace t4 := (hb.cell (p := ⟨w8.heap.size, 4, none⟩) lt_t).trans t4
    replace t5 := (hb.cell (p := ⟨w8.heap.size, 5, none⟩) lt_t).trans t5
    replace lt_t : w8.heap.size < w11.heap.size := Nat.lt_of_lt_of_le lt_t hb.size
    replace n0 := (hb.cell (p := ⟨w80.heap.size, 0, none⟩) lt_n).trans n0
    replace n1 := (hb.cell (p := ⟨w80.heap.size, 1, none⟩) lt_n).trans n1
    replace n2 := (hb.cell (p := ⟨w80.heap.size, 2, none⟩) lt_n).trans n2
    replace n3 := (hb.cell (p := ⟨w80.heap.size, 3, none⟩) lt_n).trans n3
    replace n4 := (hb.cell (p := ⟨w80.heap.size, 4, none⟩) lt_n).trans n4
    replace n5 := (hb.cell (p := ⟨w80.heap.size, 5, none⟩) lt_n).trans n5
    replace lt_n : w80.heap.size < w11.heap.size := Nat.lt_of_lt_of_le lt_n hb.size
    replace TA := Lib.hid (TA.out.up hb)
    replace TD := Lib.hid (TD.out.up hb)
    replace TP := Lib.hid (TP.out.up hb)
    replace TQ := Lib.hid (TQ.out.up hb)
    replace TU := Lib.hid (TU.out.up hb)
    replace TV := Lib.hid (TV.out.up hb)
    replace TS := Lib.hid (TS.out.up hb)
    replace TT := Lib.hid (TT.out.up hb)
    replace TN := Lib.hid (TN.out.up hb)
    replace HW := Lib.hid (HW.out.trans (hb.mono HW.out.size))
    clear hb
    have hT3 : (fun w' : World => w'.cell? ⟨w3.heap.size, 0, none⟩ = some (.int .i64 pd.K) ∧ w'.cell? ⟨w3.heap.size, 1, none⟩ = some (.int .i64 pd.N) ∧ w'.cell? ⟨w3.heap.size, 2, none⟩ = some (.string pd.S) ∧ w'.cell? ⟨w3.heap.size, 3, none⟩ = some (.slice pm pd.M.length pcm) ∧ w'.cell? ⟨w3.heap.size, 4, none⟩ = some (.slice pl pd.L.length pcl) ∧ w'.cell? ⟨w3.heap.size, 5, none⟩ = some (.slice pt pd.T.length pct) ∧ w'.cell? ⟨w4.heap.size, 0, none⟩ = some (.int .i64 pd.K) ∧ w'.cell? ⟨w4.heap.size, 1, none⟩ = some (.int .i64 pd.N) ∧ w'.cell? ⟨w4.heap.size, 2, none⟩ = some (.string pd.S) ∧ w'.cell? ⟨w4.heap.size, 3, none⟩ = some (.slice qm pd.M.length qcm) ∧ w'.cell? ⟨w4.heap.size, 4, none⟩ = some (.slice ql pd.L.length qcl) ∧ w'.cell? ⟨w4.heap.size, 5, none⟩ = some (.slice qt pd.T.length qct) ∧ w'.cell? ⟨w5.heap.size, 0, none⟩ = some (.int .i64 ud.K) ∧ w'.cell? ⟨w5.heap.size, 1, none⟩ = some (.int .i64 ud.N) ∧ w'.cell? ⟨w5.heap.size, 2, none⟩ = some (.string ud.S) ∧ w'.cell? ⟨w5.heap.size, 3, none⟩ = some (.slice um ud.M.length ucm) ∧ w'.cell? ⟨w5.heap.size, 4, none⟩ = some (.slice ul ud.L.length ucl) ∧ w'.cell? ⟨w5.heap.size, 5, none⟩ = some (.slice ut ud.T.length uct) ∧ w'.cell? ⟨w6.heap.size, 0, none⟩ = some (.int .i64 ud.K) ∧ w'.cell? ⟨w6.heap.size, 1, none⟩ = some (.int .i64 ud.N) ∧ w'.cell? ⟨w6.heap.size, 2, none⟩ = some (.string ud.S) ∧ w'.cell? ⟨w6.heap.size, 3, none⟩ = some (.slice vm ud.M.length vcm) ∧ w'.cell? ⟨w6.heap.size, 4, none⟩ = some (.slice vl ud.L.length vcl) ∧ w'.cell? ⟨w6.heap.size, 5, none⟩ = some (.slice vt ud.T.length vct) ∧ w'.cell? ⟨w7.heap.size, 0, none⟩ = some (.int .i64 xd.K) ∧ w'.cell? ⟨w7.heap.size, 1, none⟩ = some (.int .i64 xd.N) ∧ w'.cell? ⟨w7.heap.size, 2, none⟩ = some (.string xd.S) ∧ w'.cell? ⟨w7.heap.size, 3, none⟩ = some (.slice sm xd.M.length scm) ∧ w'.cell? ⟨w7.heap.size, 4, none⟩ = some (.slice sl xd.L.length scl) ∧ w'.cell? ⟨w7.heap.size, 5, none⟩ = some (.slice st xd.T.length sct) ∧ w'.cell? ⟨w8.heap.size, 0, none⟩ = some (.int .i64 xd.K) ∧ w'.cell? ⟨w8.heap.size, 1, none⟩ = some (.int .i64 xd.N) ∧ w'.cell? ⟨w8.heap.size, 2, none⟩ = some (.string xd.S) ∧ w'.cell? ⟨w8.heap.size, 3, none⟩ = some (.slice tm xd.M.length tcm) ∧ w'.cell? ⟨w8.heap.size, 4, none⟩ = some (.slice tl xd.L.length tcl) ∧ w'.cell? ⟨w8.heap.size, 5, none⟩ = some (.slice tt xd.T.length tct) ∧ w'.cell? ⟨w80.heap.size, 0, none⟩ = some (.int .i64 nd.K) ∧ w'.cell? ⟨w80.heap.size, 1, none⟩ = some (.int .i64 nd.N) ∧ w'.cell? ⟨w80.heap.size, 2, none⟩ = some (.string nd.S) ∧ w'.cell? ⟨w80.heap.size, 3, none⟩ = some (.slice nm nd.M.length ncm) ∧ w'.cell? ⟨w80.heap.size, 4, none⟩ = some (.slice nl nd.L.length ncl) ∧ w'.cell? ⟨w80.heap.size, 5, none⟩ = some (.slice nt nd.T.length nct)) w11 := ⟨p0, p1, p2, p3, p4, p5, q0, q1, q2, q3, q4, q5, u0, u1, u2, u3, u4, u5, v0, v1, v2, v3, v4, v5, s0, s1, s2, s3, s4, s5, t0, t1, t2, t3, t4, t5, n0, n1, n2, n3, n4, n5⟩
    refine hK.out _ _ ⟨fun _ => trivial, hT3⟩ ?_
    clear hK K hT2
    simp only [Act.put, List.setIfInBounds_toArray, List.set_cons_zero, List.set_cons_succ]
    refine Od.Till.takeT (i := 22) (d := 94) (v := .bool true) rfl rfl (by kernel_rfl) (by kernel_rfl) (by kernel_rfl) (by kernel_rfl) (fun _ _ _ h => h) (.inl ⟨by rfl, ?_⟩) trivial hT3 ?_
    · intro wx hSw
      clear hSw
      go_simp
    simp only [Act.put, List.setIfInBounds_toArray, List.set_cons_zero, List.set_cons_succ]
    refine Od.Till.takeT (i := 23) (d := 95) (v := .bool true) rfl rfl (by kernel_rfl) (by kernel_rfl) (by kernel_rfl) (by kernel_rfl) (fun _ _ _ h => h) (.inl ⟨by rfl, ?_⟩) trivial hT3 ?_
    · intro wx hSw
      clear hSw
      go_simp
    simp only [Act.put, List.setIfInBounds_toArray, List.set_cons_zero, List.set_cons_succ]
    refine Od.Till.takeT (i := 24) (d := 96) (v := .int .i64 pe) rfl rfl (by kernel_rfl) (by kernel_rfl) (by kernel_rfl) (by kernel_rfl) (fun _ _ _ h => h) (.inl ⟨by rfl, ?_⟩) trivial hT3 ?_
    · intro wx hSw
      clear hSw
      go_simp
    simp only [Act.put, List.setIfInBounds_toArray, List.set_cons_zero, List.set_cons_succ]
    refine Od.Till.takeT (i := 25) (d := 97) (v := .int .i64 pe) rfl rfl (by kernel_rfl) (by kernel_rfl) (by kernel_rfl) (by kernel_rfl) (fun _ _ _ h => h) (.inl ⟨by rfl, ?_⟩) trivial hT3 ?_
    · intro wx hSw
      clear hSw
      go_simp
    simp only [Act.put, List.setIfInBounds_toArray, List.set_cons_zero, List.set_cons_succ]
    refine Od.Till.takeT (i := 26) (d := 98) (v := .bool true) rfl rfl (by kernel_rfl) (by kernel_rfl) (by kernel_rfl) (by kernel_rfl) (fun _ _ _ h => h) (.inl ⟨by rfl, ?_⟩) trivial hT3 ?_
    · intro wx hSw
      clear hSw
      go_simp
    simp only [Act.put, List.setIfInBounds_toArray, List.set_cons_zero, List.set_cons_succ]
    refine Od.Till.takeT (i := 27) (d := 99) (v := .bool true) rfl rfl (by kernel_rfl) (by kernel_rfl) (by kernel_rfl) (by kernel_rfl) (fun _ _ _ h => h) (.inl ⟨by rfl, ?_⟩) trivial hT3 ?_
    · intro wx hSw
      clear hSw
      go_simp
    simp only [Act.put, List.setIfInBounds_toArray, List.set_cons_zero, List.set_cons_succ]
    refine Od.Till.takeT (i := 28) (d := 100) (v := .bool true) rfl rfl (by kernel_rfl) (by kernel_rfl) (by kernel_rfl) (by kernel_rfl) (fun _ _ _ h => h) (.inl ⟨by rfl, ?_⟩) trivial hT3 ?_
    · intro wx hSw
      clear hSw
      go_simp
    simp only [Act.put, List.setIfInBounds_toArray, List.set_cons_zero, List.set_cons_succ]
    refine Od.Till.takeT (i := 29) (d := 101) (v := .pointer (some ⟨w80.heap.size, 0, none⟩)) rfl rfl (by kernel_rfl) (by kernel_rfl) (by kernel_rfl) (by kernel_rfl) (fun _ _ _ h => h) (.inl ⟨by rfl, ?_⟩) trivial hT3 ?_
    · intro wx hSw
      clear hSw
      go_simp
    simp only [Act.put, List.setIfInBounds_toArray, List.set_cons_zero, List.set_cons_succ]
    refine Od.Till.takeT (i := 30) (d := 102) (v := .int .i64 nd.K) rfl rfl (by kernel_rfl) (by kernel_rfl) (by kernel_rfl) (by kernel_rfl) (fun _ _ _ h => h) (.inl ⟨by rfl, ?_⟩) trivial hT3 ?_
    · intro wx hSw
      obtain ⟨j0, j1, j2, j3, j4, j5, j6, j7, j8, j9, j10, j11, j12, j13, j14, j15, j16, j17, j18, j19, j20, j21, j22, j23, j24, j25, j26, j27, j28, j29, j30, j31, j32, j33, j34, j35, j36, j37, j38, j39, j40, j41⟩ := hSw
      go_simp
    simp only [Act.put, List.setIfInBounds_toArray, List.set_cons_zero, List.set_cons_succ]
    refine Od.Till.takeT (i := 31) (d := 103) (v := .bool true) rfl rfl (by kernel_rfl) (by kernel_rfl) (by kernel_rfl) (by kernel_rfl) (fun _ _ _ h => h) (.inl ⟨by rfl, ?_⟩) trivial hT3 ?_
    · intro wx hSw
      clear hSw
      go_simp
    simp only [Act.put, List.setIfInBounds_toArray, List.set_cons_zero, List.set_cons_succ]
    refine Od.Till.takeT (i := 32) (d := 104) (v := .bool true) rfl rfl (by kernel_rfl) (by kernel_rfl) (by kernel_rfl) (by kernel_rfl) (fun _ _ _ h => h) (.inl ⟨by rfl, ?_⟩) trivial hT3 ?_
    · intro wx hSw
      clear hSw
      go_simp
    simp only [Act.put, List.setIfInBounds_toArray, List.set_cons_zero, List.set_cons_succ]
    refine Od.Till.takeT (i := 33) (d := 105) (v := .bool true) rfl rfl (by kernel_rfl) (by kernel_rfl) (by kernel_rfl) (by kernel_rfl) (fun _ _ _ h => h) (.inl ⟨by rfl, ?_⟩) trivial hT3 ?_
    · intro wx hSw
      clear hSw
      go_simp
    simp only [Act.put, List.setIfInBounds_toArray, List.set_cons_zero, List.set_cons_succ]
    refine Od.Till.takeT (i := 34) (d := 106) (v := .pointer (some ⟨w80.heap.size, 4, none⟩)) rfl rfl (by kernel_rfl) (by kernel_rfl) (by kernel_rfl) (by kernel_rfl) (fun _ _ _ h => h) (.inl ⟨by rfl, ?_⟩) trivial hT3 ?_
    · intro wx hSw
      clear hSw
      go_simp
    simp only [Act.put, List.setIfInBounds_toArray, List.set_cons_zero, List.set_cons_succ]
    refine Od.Till.takeT (i := 35) (d := 107) (v := .slice nl nd.L.length ncl) rfl rfl (by kernel_rfl) (by kernel_rfl) (by kernel_rfl) (by kernel_rfl) (fun _ _ _ h => h) (.inl ⟨by rfl, ?_⟩) trivial hT3 ?_
    · intro wx hSw
      obtain ⟨j0, j1, j2, j3, j4, j5, j6, j7, j8, j9, j10, j11, j12, j13, j14, j15, j16, j17, j18, j19, j20, j21, j22, j23, j24, j25, j26, j27, j28, j29, j30, j31, j32, j33, j34, j35, j36, j37, j38, j39, j40, j41⟩ := hSw
      go_simp
    simp only [Act.put, List.setIfInBounds_toArray, List.set_cons_zero, List.set_cons_succ]
    refine Od.Till.takeT (i := 36) (d := 108) (v := .int .i64 (nd.L.length : Int)) rfl rfl (by kernel_rfl) (by kernel_rfl) (by kernel_rfl) (by kernel_rfl) (fun _ _ _ h => h) (.inl ⟨by rfl, ?_⟩) trivial hT3 ?_
    · intro wx hSw
      clear hSw
      go_simp
    simp only [Act.put, List.setIfInBounds_toArray, List.set_cons_zero, List.set_cons_succ]
    refine Od.Till.takeT (i := 37) (d := 109) (v := .slice al l.length lc) rfl rfl (by kernel_rfl) (by kernel_rfl) (by kernel_rfl) (by kernel_rfl) (fun _ _ _ h => h) (.inl ⟨by rfl, ?_⟩) trivial hT3 ?_
    · intro wx hSw
      clear hSw
      go_simp
    simp only [Act.put, List.setIfInBounds_toArray, List.set_cons_zero, List.set_cons_succ]
    refine Od.Till.takeT (i := 38) (d := 110) (v := .int .i64 (l.length : Int)) rfl rfl (by kernel_rfl) (by kernel_rfl) (by kernel_rfl) (by kernel_rfl) (fun _ _ _ h => h) (.inl ⟨by rfl, ?_⟩) trivial hT3 ?_
    · intro wx hSw
      clear hSw
      go_simp
    simp only [Act.put, List.setIfInBounds_toArray, List.set_cons_zero, List.set_cons_succ]
    refine Od.Till.takeT (i := 39) (d := 111) (v := .bool true) rfl rfl (by kernel_rfl) (by kernel_rfl) (by kernel_rfl) (by kernel_rfl) (fun _ _ _ h => h) (.inl ⟨by rfl, ?_⟩) trivial hT3 ?_
    · intro wx hSw
      clear hSw
      go_simp
    simp only [Act.put, List.setIfInBounds_toArray, List.set_cons_zero, List.set_cons_succ]
    refine Od.Till.takeT (i := 40) (d := 112) (v := .bool true) rfl rfl (by kernel_rfl) (by kernel_rfl) (by kernel_rfl) (by kernel_rfl) (fun _ _ _ h => h) (.inl ⟨by rfl, ?_⟩) trivial hT3 ?_
    · intro wx hSw
      clear hSw
      go_simp
    simp only [Act.put, List.setIfInBounds_toArray, List.set_cons_zero, List.set_cons_succ]
    refine Od.Till.takeT (i := 41) (d := 113) (v := .bool true) rfl rfl (by kernel_rfl) (by kernel_rfl) (by kernel_rfl) (by kernel_rfl) (fun _ _ _ h => h) (.inl ⟨by rfl, ?_⟩) trivial hT3 ?_
    · intro wx hSw
      clear hSw
      go_simp
    simp only [Act.put, List.setIfInBounds_toArray, List.set_cons_zero, List.set_cons_succ]
    refine Od.Till.takeT (i := 42) (d := 114) (v := .agg #[.int .i64 nd.K, .int .i64 nd.N, .string nd.S, .slice nm nd.M.length ncm, .slice nl nd.L.length ncl, .slice nt nd.T.length nct]) rfl rfl (by kernel_rfl) (by kernel_rfl) (by kernel_rfl) (by kernel_rfl) (fun _ _ _ h => h) (.inl ⟨by rfl, ?_⟩) trivial hT3 ?_
    · intro wx hSw
      obtain ⟨j0, j1, j2, j3, j4, j5, j6, j7, j8, j9, j10, j11, j12, j13, j14, j15, j16, j17, j18, j19, j20, j21, j22, j23, j24, j25, j26, j27, j28, j29, j30, j31, j32, j33, j34, j35, j36, j37, j38, j39, j40, j41⟩ := hSw
      go_simp
    simp only [Act.put, List.setIfInBounds_toArray, List.set_cons_zero, List.set_cons_succ]
    refine Od.Till.one (i := 43) (by kernel_rfl) rfl (fun K hK => ?_)
    go_simp
    refine (rcheck_any nd _ _ _ (by exact TN.out) (Nat.le_refl _)).mono ?_
    rintro e w12 ⟨rfl, hb⟩
    rw [Cn.out]
    replace p0 := (hb.cell (p := ⟨w3.heap.size, 0, none⟩) lt_p).trans p0
    replace p1 := (hb.cell (p := ⟨w3.heap.size, 1, none⟩) lt_p).trans p1
    replace p2 := (hb.cell (p := ⟨w3.heap.size, 2, none⟩) lt_p).trans p2
    replace p3 := (hb.cell (p := ⟨w3.heap.size, 3, none⟩) lt_p).trans p3
    replace p4 := (hb.cell (p := ⟨w3.heap.size, 4, none⟩) lt_p).trans p4
    replace p5 := (hb.cell (p := ⟨w3.heap.size, 5, none⟩) lt_p).trans p5
    replace lt_p : w3.heap.size < w12.heap.size := Nat.lt_of_lt_of_le lt_p hb.size
    replace q0 := (hb.cell (p := ⟨w4.heap.size, 0, none⟩) lt_q).trans q0
    replace q1 := (hb.cell (p := ⟨w4.heap.size, 1, none⟩) lt_q).trans q1
    replace q2 := (hb.cell (p := ⟨w4.heap.size, 2, none⟩) lt_q).trans q2
    replace q3 := (hb.cell (p := ⟨w4.heap.size, 3, none⟩) lt_q).trans q3
    replace q4 := (hb.cell (p := ⟨w4.heap.size, 4, none⟩) lt_q).trans q4
    replace q5 := (hb.cell (p := ⟨w4.heap.size, 5, none⟩) lt_q).trans q5
    replace lt_q : w4.heap.size < w12.heap.size := Nat.lt_of_lt_of_le lt_q hb.size
    replace u0 := (hb.cell (p := ⟨w5.heap.size, 0, none⟩) lt_u).trans u0
    replace u1 := (hb.cell (p := ⟨w5.heap.size, 1, none⟩) lt_u).trans u1
    replace u2 := (hb.cell (p := ⟨w5.heap.size, 2, none⟩) lt_u).trans u2
    replace u3 := (hb.cell (p := ⟨w5.heap.size, 3, none⟩) lt_u).trans u3
    replace u4 := (hb.cell (p := ⟨w5.heap.size, 4, none⟩) lt_u).trans u4
    replace u5 := (hb.cell (p := ⟨w5.heap.size, 5, none⟩) lt_u).trans u5
    replace lt_u : w5.heap.size < w12.heap.size := Nat.lt_of_lt_of_le lt_u hb.size
    replace v0 := (hb.cell (p := ⟨w6.heap.size, 0, none⟩) lt_v).trans v0
    replace v1 := (hb.cell (p := ⟨w6.heap.size, 1, none⟩) lt_v).trans v1
    replace v2 := (hb.cell (p := ⟨w6.heap.size, 2, none⟩) lt_v).trans v2
    replace v3 := (hb.cell (p := ⟨w6.heap.size, 3, none⟩) lt_v).trans v3
    replace v4 := (hb.cell (p := ⟨w6.heap.size, 4, none⟩) lt_v).trans v4
    replace v5 := (hb.cell (p := ⟨w6.heap.size, 5, none⟩) lt_v).trans v5
    replace lt_v : w6.heap.size < w12.heap.size := Nat.lt_of_lt_of_le lt_v hb.size
    replace s0 := (hb.cell (p := ⟨w7.heap.size, 0, none⟩) lt_s).trans s0
    replace s1 := (hb.cell (p := ⟨w7.heap.size, 1, none⟩) lt_s).trans s1
    replace s2 := (hb.cell (p := ⟨w7.heap.size, 2, none⟩) lt_s).trans s2
    replace s3 := (hb.cell (p := ⟨w7.heap.size, 3, none⟩) lt_s).trans s3
    replace s4 := (hb.cell (p := ⟨w7.heap.size, 4, none⟩) lt_s).trans s4
    replace s5 := (hb.cell (p := ⟨w7.heap.size, 5, none⟩) lt_s).trans s5
    replace lt_s : w7.heap.size < w12.heap.size := Nat.lt_of_lt_of_le lt_s hb.size
    replace t0 := (hb.cell (p := ⟨w8.heap.size, 0, none⟩) lt_t).trans t0
    replace t1 := (hb.cell (p := ⟨w8.heap.size, 1, none⟩) lt_t).trans t1
    replace t2 := (hb.cell (p := ⟨w8.heap.size, 2, none⟩) lt_t).trans t2
    replace t3 := (hb.cell (p := ⟨w8.heap.size, 3, none⟩) lt_t).trans t3
    replace t4 := (hb.cell (p := ⟨w8.heap.size, 4, none⟩) lt_t).trans t4
    replace t5 := (hb.cell (p := ⟨w8.heap.size, 5, none⟩) lt_t).trans t5
    replace lt_t : w8.heap.size < w12.heap.size := Nat.lt_of_lt_of_le lt_t hb.size
    replace n0 := (hb.cell (p := ⟨w80.heap.size, 0, none⟩) lt_n).trans n0
    replace n1 := (hb.cell (p := ⟨w80.heap.size, 1, none⟩) lt_n).trans n1
    replace n2 := (hb.cell (p := ⟨w80.heap.size, 2, none⟩) lt_n).trans n2
    replace n3 := (hb.cell (p := ⟨w80.heap.size, 3, none⟩) lt_n).trans n3
    replace n4 := (hb.cell (p := ⟨w80.heap.size, 4, none⟩) lt_n).trans n4
    replace n5 := (hb.cell (p := ⟨w80.heap.size, 5, none⟩) lt_n).trans n5
    replace lt_n : w80.heap.size < w12.heap.size := Nat.lt_of_lt_of_le lt_n hb.size
    replace TA := Lib.hid (TA.out.up hb)
    replace TD := Lib.hid (TD.out.up hb)
    replace TP := Lib.hid (TP.out.up hb)
    replace TQ := Lib.hid (TQ.out.up hb)
    replace TU := Lib.hid (TU.out.up hb)
    replace TV := Lib.hid (TV.out.up hb)
    replace TS := Lib.hid (TS.out.up hb)
    replace TT := Lib.hid (TT.out.up hb)
    replace TN := Lib.hid (TN.out.up hb)
    replace HW := Lib.hid (HW.out.trans (hb.mono HW.out.size))
    clear hb
    have hT4 : (fun w' : World => w'.cell? ⟨w3.heap.size, 0, none⟩ = some (.int .i64 pd.K) ∧ w'.cell? ⟨w3.heap.size, 1, none⟩ = some (.int .i64 pd.N) ∧ w'.cell? ⟨w3.heap.size, 2, none⟩ = some (.string pd.S) ∧ w'.cell? ⟨w3.heap.size, 3, none⟩ = some (.slice pm pd.M.length pcm) ∧ w'.cell? ⟨w3.heap.size, 4, none⟩ = some (.slice pl pd.L.length pcl) ∧ w'.cell? ⟨w3.heap.size, 5, none⟩ = some (.slice pt pd.T.length pct) ∧ w'.cell? ⟨w4.heap.size, 0, none⟩ = some (.int .i64 pd.K) ∧ w'.cell? ⟨w4.heap.size, 1, none⟩ = some (.int .i64 pd.N) ∧ w'.cell? ⟨w4.heap.size, 2, none⟩ = some (.string pd.S) ∧ w'.cell? ⟨w4.heap.size, 3, none⟩ = some (.slice qm pd.M.length qcm) ∧ w'.cell? ⟨w4.heap.size, 4, none⟩ = some (.slice ql pd.L.length qcl) ∧ w'.cell? ⟨w4.heap.size, 5, none⟩ = some (.slice qt pd.T.length qct) ∧ w'.cell? ⟨w5.heap.size, 0, none⟩ = some (.int .i64 ud.K) ∧ w'.cell? ⟨w5.heap.size, 1, none⟩ = some (.int .i64 ud.N) ∧ w'.cell? ⟨w5.heap.size, 2, none⟩ = some (.string ud.S) ∧ w'.cell? ⟨w5.heap.size, 3, none⟩ = some (.slice um ud.M.length ucm) ∧ w'.cell? ⟨w5.heap.size, 4, none⟩ = some (.slice ul ud.L.length ucl) ∧ w'.cell? ⟨w5.heap.size, 5, none⟩ = some (.slice ut ud.T.length uct) ∧ w'.cell? ⟨w6.heap.size, 0, none⟩ = some (.int .i64 ud.K) ∧ w'.cell? ⟨w6.heap.size, 1, none⟩ = some (.int .i64 ud.N) ∧ w'.cell? ⟨w6.heap.size, 2, none⟩ = some (.string ud.S) ∧ w'.cell? ⟨w6.heap.size, 3, none⟩ = some (.slice vm ud.M.length vcm) ∧ w'.cell? ⟨w6.heap.size, 4, none⟩ = some (.slice vl ud.L.length vcl) ∧ w'.cell? ⟨w6.heap.size, 5, none⟩ = some (.slice vt ud.T.length vct) ∧ w'.cell? ⟨w7.heap.size, 0, none⟩ = some (.int .i64 xd.K) ∧ w'.cell? ⟨w7.heap.size, 1, none⟩ = some (.int .i64 xd.N) ∧ w'.cell? ⟨w7.heap.size, 2, none⟩ = some (.string xd.S) ∧ w'.cell? ⟨w7.heap.size, 3, none⟩ = some (.slice sm xd.M.length scm) ∧ w'.cell? ⟨w7.heap.size, 4, none⟩ = some (.slice sl xd.L.length scl) ∧ w'.cell? ⟨w7.heap.size, 5, none⟩ = some (.slice st xd.T.length sct) ∧ w'.cell? ⟨w8.heap.size, 0, none⟩ = some (.int .i64 xd.K) ∧ w'.cell? ⟨w8.heap.size, 1, none⟩ = some (.int .i64 xd.N) ∧ w'.cell? ⟨w8.heap.size, 2, none⟩ = some (.string xd.S) ∧ w'.cell? ⟨w8.heap.size, 3, none⟩ = some (.slice tm xd.M.length tcm) ∧ w'.cell? ⟨w8.heap.size, 4, none⟩ = some (.slice tl xd.L.length tcl) ∧ w'.cell? ⟨w8.heap.size, 5, none⟩ = some (.slice tt xd.T.length tct) ∧ w'.cell? ⟨w80.heap.size, 0, none⟩ = some (.int .i64 nd.K) ∧ w'.cell? ⟨w80.heap.size, 1, none⟩ = some (.int .i64 nd.N) ∧ w'.cell? ⟨w80.heap.size, 2, none⟩ = some (.string nd.S) ∧ w'.cell? ⟨w80.heap.size, 3, none⟩ = some (.slice nm nd.M.length ncm) ∧ w'.cell? ⟨w80.heap.size, 4, none⟩ = some (.slice nl nd.L.length ncl) ∧ w'.cell? ⟨w80.heap.size, 5, none⟩ = some (.slice nt nd.T.length nct)) w12 := ⟨p0, p1, p2, p3, p4, p5, q0, q1, q2, q3, q4, q5, u0, u1, u2, u3, u4, u5, v0, v1, v2, v3, v4, v5, s0, s1, s2, s3, s4, s5, t0, t1, t2, t3, t4, t5, n0, n1, n2, n3, n4, n5⟩
    refine hK.out _ _ ⟨fun _ => trivial, hT4⟩ ?_
    clear hK K hT3
    simp only [Act.put, List.setIfInBounds_toArray, List.set_cons_zero, List.set_cons_succ]
    refine Od.Till.takeT (i := 44) (d := 116) (v := .bool true) rfl rfl (by kernel_rfl) (by kernel_rfl) (by kernel_rfl) (by kernel_rfl) (fun _ _ _ h => h) (.inl ⟨by rfl, ?_⟩) trivial hT4 ?_
    · intro wx hSw
      clear hSw
      go_simp
    simp only [Act.put, List.setIfInBounds_toArray, List.set_cons_zero, List.set_cons_succ]
    refine Od.Till.takeT (i := 45) (d := 117) (v := .bool true) rfl rfl (by kernel_rfl) (by kernel_rfl) (by kernel_rfl) (by kernel_rfl) (fun _ _ _ h => h) (.inl ⟨by rfl, ?_⟩) trivial hT4 ?_
    · intro wx hSw
      clear hSw
      go_simp
    simp only [Act.put, List.setIfInBounds_toArray, List.set_cons_zero, List.set_cons_succ]
    refine Od.Till.takeT (i := 46) (d := 118) (v := undef) rfl rfl (by kernel_rfl) (by kernel_rfl) (by kernel_rfl) (by kernel_rfl) (fun _ _ _ h => h) (.inr ⟨by rfl, rfl⟩) trivial hT4 ?_
    simp only [Act.put, List.setIfInBounds_toArray, List.set_cons_zero, List.set_cons_succ]
    refine Od.Till.takeT (i := 47) (d := 119) (v := undef) rfl rfl (by kernel_rfl) (by kernel_rfl) (by kernel_rfl) (by kernel_rfl) (fun _ _ _ h => h) (.inr ⟨by rfl, rfl⟩) trivial hT4 ?_
    simp only [Act.put, List.setIfInBounds_toArray, List.set_cons_zero, List.set_cons_succ]
    refine Od.Till.one (i := 48) (by kernel_rfl) rfl (fun K hK => ?_)
    rw [if_neg (by intro h; exact absurd (show false = true from h) (by decide))]
    refine hK.out _ _ ⟨fun _ => trivial, hT4⟩ ?_
    clear hK K
    simp only [Act.put, List.setIfInBounds_toArray, List.set_cons_zero, List.set_cons_succ]
    refine Od.Till.one (i := 49) (by kernel_rfl) rfl (fun K hK => ?_)
    rw [if_neg (by intro h; exact absurd (show false = true from h) (by decide))]
    refine hK.out _ _ ⟨fun _ => trivial, hT4⟩ ?_
    clear hK K
    simp only [Act.put, List.setIfInBounds_toArray, List.set_cons_zero, List.set_cons_succ]
    refine Od.Till.takeT (i := 50) (d := 122) (v := .bool true) rfl rfl (by kernel_rfl) (by kernel_rfl) (by kernel_rfl) (by kernel_rfl) (fun _ _ _ h => h) (.inl ⟨by rfl, ?_⟩) trivial hT4 ?_
    · intro wx hSw
      clear hSw
      go_simp
    simp only [Act.put, List.setIfInBounds_toArray, List.set_cons_zero, List.set_cons_succ]
    refine Od.Till.takeT (i := 51) (d := 123) (v := .bool true) rfl rfl (by kernel_rfl) (by kernel_rfl) (by kernel_rfl) (by kernel_rfl) (fun _ _ _ h => h) (.inl ⟨by rfl, ?_⟩) trivial hT4 ?_
    · intro wx hSw
      clear hSw
      go_simp
    simp only [Act.put, List.setIfInBounds_toArray, List.set_cons_zero, List.set_cons_succ]
    refine Od.Till.one (i := 52) (by kernel_rfl) rfl (fun K hK => ?_)
    rw [if_pos (by kernel_rfl)]
    go_simp
    refine hK.out _ _ ⟨fun _ => trivial, hT4⟩ (Od.Till.done (by kernel_rfl) ?_)
    clear hK K
    go_wp2_with fail
    go_ret
    exact ⟨rfl, HW.out⟩
end Go.Proofs.Ytjmchodddobleaa.Da
namespace Go.Proofs.Ytjmchodddobleaa.datumPairs
open Go.ChangeShapes Go.WideShapes Go.ChangeAt Go.RowKit
open Go.ChangeMaps (open_string shut_string)
open Go.Proofs.Ytjmchodddobleaa.Da
set_option linter.unusedVariables false

theorem own : ownKnob Try.prog.godebug = none := by kernel_rfl
theorem laidOut : laidOutB Try.prog = true := by kernel_rfl
set_option maxHeartbeats 1000000 in
set_option maxRecDepth 100000 in
theorem lifted (os : Os) (started : os.Started) (H : Type) (enc : TypeId × Value → H) :
    ReturnsInHanded {} Try.checked os 6 .any (Rows.datumPairsSpec.pre6 enc Try.prog Try.f6 Rows.datumPairsRow.domain false) (Rows.datumPairsSpec.post enc Try.prog Try.f6 false true false false) := by
  refine returnsInHanded_of_change_sized (C := Try.checked) own started (by kernel_rfl) Try.func6
    (ChangeSpec.witness6 (enc := enc) (C := Try.checked) false ⟨#[], #[.agg #[.int .i64 0, .int .i64 0, .string ByteArray.empty, .slice none 0 0, .slice none 0 0, .slice none 0 0], .agg #[.int .i64 0, .int .i64 0, .string ByteArray.empty, .slice none 0 0, .slice none 0 0, .slice none 0 0], .slice none 0 0], []⟩ 8 (by kernel_rfl) (by kernel_rfl) (by kernel_rfl) (by kernel_rfl)) ?_
  intro W base args ds gs before hval0 hW hcnd hsz0 _
  have hsz : (DataW.weightsEach Try.prog (Try.f6.params.toList ++ Rows.datumPairsSpec.plain.varTypes Try.prog) (ds ++ gs)).all (· ≤ reachBytes) = true := hsz0
  have hval : ∀ (j : Nat) t v, Try.f6.params[j]? = some t → args[j]? = some v → Value.okWide Try.prog W .any base t v := hval0
  have hW' := hW
  obtain ⟨p, q, hA0, hV, rfl, hfz, hnd⟩ := hW
  have hA : DataW.TrodAll enc Try.prog W 0 (fun _ => true) true Try.f6.params.toList args.toList ds p := hA0
  rw [Try.params6] at hA hval hsz
  obtain ⟨v0, vs0, d0, ds0, p0, q0, hargs, rfl, rfl, h0, r0⟩ := trodAll_cons hA
  obtain ⟨v1, vs1, d1, ds1, p1, q1, rfl, rfl, rfl, h1, r1⟩ := trodAll_cons r0
  obtain ⟨v2, vs2, d2, ds2, p2, q2, rfl, rfl, rfl, h2, r2⟩ := trodAll_cons r1
  obtain ⟨rfl, rfl, rfl⟩ := trodAll_nil r2
  obtain rfl : args = #[v0, v1, v2] := by cases args; simp_all
  obtain ⟨rfl, rfl⟩ := trodVars_none hV
  have k0 := h0
  have lt0 : ∀ x ∈ p0, x.block < W.heap.size := by obtain ⟨m, hm⟩ := k0; exact DataW.trod_lt m _ _ _ hm
  have sz0 : (d0.weights Try.prog 25).all (· ≤ reachBytes) = true := List.all_eq_true.2 fun x hx => List.all_eq_true.1 hsz x (DataW.weights_mem_each (j := 0) rfl rfl x hx)
  obtain ⟨z0, w0⟩ : ∃ z, IsDt W (Lo W.heap.size) z v0 := open_one (hval 0 25 v0 rfl rfl) h0 sz0
  have k1 := h1
  have lt1 : ∀ x ∈ p1, x.block < W.heap.size := by obtain ⟨m, hm⟩ := k1; exact DataW.trod_lt m _ _ _ hm
  have sz1 : (d1.weights Try.prog 25).all (· ≤ reachBytes) = true := List.all_eq_true.2 fun x hx => List.all_eq_true.1 hsz x (DataW.weights_mem_each (j := 1) rfl rfl x hx)
  obtain ⟨z1, w1⟩ : ∃ z, IsDt W (Lo W.heap.size) z v1 := open_one (hval 1 25 v1 rfl rfl) h1 sz1
  have k2 := h2
  have lt2 : ∀ x ∈ p2, x.block < W.heap.size := by obtain ⟨m, hm⟩ := k2; exact DataW.trod_lt m _ _ _ hm
  have sz2 : (d2.weights Try.prog 23).all (· ≤ reachBytes) = true := List.all_eq_true.2 fun x hx => List.all_eq_true.1 hsz x (DataW.weights_mem_each (j := 2) rfl rfl x hx)
  obtain ⟨a2, len2, cap2, rfl⟩ := okWide_slice Try.underlying23 (hval 2 23 v2 rfl rfl)
  obtain ⟨z2, e2, s2, w2⟩ : ∃ z, len2 = List.length z ∧ IsSl a2 z.length cap2 ∧ IsDts W (Lo W.heap.size) a2 0 z := by
    obtain ⟨fuel, hf⟩ := h2
    obtain ⟨a', cap', l, hcs, hs, hl⟩ := open_data (fun m _ => open_dt m) hf sz2
    simp [Value.cells] at hcs
    obtain ⟨rfl, rfl, rfl⟩ := hcs
    exact ⟨l, rfl, hs, hl⟩
  subst e2
  clear hA0 hval0 hsz0
  refine (dpairs_any z0 z1 z2 v0 v1 a2 cap2 W w0 w1 s2 w2).mono fun e W' ⟨he, bel⟩ => ?_
  subst he
  exact ⟨_, rfl, _, _, _, [], _, [], hW', trodAll_mk1 (shut_bool Try.underlying4 _), (trodAll_cons_mk (Below.trod laidOut (by kernel_rfl) (of_decide_eq_true (by kernel_rfl)) k0 bel lt0) (trodAll_cons_mk (Below.trod laidOut (by kernel_rfl) (of_decide_eq_true (by kernel_rfl)) k1 bel lt1) (trodAll_cons_mk (Below.trod laidOut (by kernel_rfl) (of_decide_eq_true (by kernel_rfl)) k2 bel lt2) trodAll_mk0))), rfl, bel.frame _, fun h => by cases h⟩

theorem over : Rows.datumPairsRow.holds Try.pinned (OpenSpec.ofChange Rows.datumPairsSpec) :=
  OpenClaim.holds_of_wide 6 Try.f6 rfl rfl rfl rfl rfl rfl rfl ⟨rfl, rfl, rfl, rfl, rfl⟩ rfl rfl rfl rfl rfl (by kernel_rfl) Try.func6 (by kernel_rfl)
    (of_decide_eq_true (by kernel_rfl)) (by unfold Func.isWrapper; first | (rw [if_pos (by decide +kernel)]; kernel_rfl) | (rw [if_neg (by decide +kernel)]; exact ⟨rfl, rfl⟩))
    (fun os started H enc _ => lifted os started H enc)

theorem proved : Rows.DatumPairsSaid := over
#print axioms proved
end Go.Proofs.Ytjmchodddobleaa.datumPairs
