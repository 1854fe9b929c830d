/- The halves of what was put together (P2.4): the walk. -/
import Derived.Test.YtjmchodddobleaaDatHalvesMath
namespace Go.Proofs.Ytjmchodddobleaa.Da
open Go.ChangeShapes Go.WideShapes Go.ChangeAt Go.RowKit

theorem IsDt.up {w w' : World} {d : Dt} {v : Value} (h : IsDt w (Lo w.heap.size) d v) (hb : Below w.heap.size w w') : IsDt w' (Lo w'.heap.size) d v :=
  (h.below hb).more fun b hq => by
    have h1 : b < w.heap.size := hq
    have := hb.size
    show b < w'.heap.size
    omega
set_option maxRecDepth 100000 in
set_option maxHeartbeats 8000000 in
theorem halves_any (a d : Dt) (va vd : Value) (w : World) (ha : IsDt w (Lo w.heap.size) a va) (hd : IsDt w (Lo w.heap.size) d vd) :
    Calls Try.prog 7 #[va, vd] w fun e w' => e = .returned (.bool true) ∧ Below w.heap.size w w' := by
  have ha' := ha
  have hd' := hd
  obtain ⟨am, acm, al, acl, at', act, rfl, _⟩ := ha'.open_
  obtain ⟨dm, dcm, dl, dcl, dt, dct, rfl, _⟩ := hd'.open_
  have TA := Lib.hid ha
  have TD := Lib.hid hd
  clear ha hd ha' hd'
  obtain ⟨sa, hsa⟩ : ∃ c, smallB a = c := ⟨_, rfl⟩
  obtain ⟨sd, hsd⟩ : ∃ c, smallB d = c := ⟨_, rfl⟩
  have Sa := Lib.hid hsa
  have Sd := Lib.hid hsd
  clear hsa hsd
  cases sa
  · have HW := Lib.hid (bel_refl w)
    go_enter Try.func7, Try.ntmps7
    go_wp2_with fail
    obtain ⟨hbX, hsX, hkX⟩ := start_allocs [(#[.int .i64 a.K, .int .i64 a.N, .string a.S, .slice am a.M.length acm, .slice al a.L.length acl, .slice at' a.T.length act], 25), (#[.int .i64 d.K, .int .i64 d.N, .string d.S, .slice dm d.M.length dcm, .slice dl d.L.length dcl, .slice dt d.T.length dct], 25)] w
    have g0 := hkX 0 _ rfl
    have g1 := hkX 1 _ rfl
    set_option linter.unusedSimpArgs false in
    simp only [allocs, List.foldl_cons, List.foldl_nil, Nat.add_zero, List.length_cons, List.length_nil, Nat.zero_add, Nat.reduceAdd] at hbX hsX g0 g1
    clear hkX
    generalize (w.alloc (.cells #[.int .i64 a.K, .int .i64 a.N, .string a.S, .slice am a.M.length acm, .slice al a.L.length acl, .slice at' a.T.length act] 25)).alloc (.cells #[.int .i64 d.K, .int .i64 d.N, .string d.S, .slice dm d.M.length dcm, .slice dl d.L.length dcl, .slice dt d.T.length dct] 25) = X0 at *
    have x0 : X0.cell? ⟨w.heap.size, 0, none⟩ = some (.int .i64 a.K) := (g0.cell 0).trans rfl
    have x1 : X0.cell? ⟨w.heap.size, 1, none⟩ = some (.int .i64 a.N) := (g0.cell 1).trans rfl
    have x2 : X0.cell? ⟨w.heap.size, 2, none⟩ = some (.string a.S) := (g0.cell 2).trans rfl
    have x3 : X0.cell? ⟨w.heap.size, 3, none⟩ = some (.slice am a.M.length acm) := (g0.cell 3).trans rfl
    have x4 : X0.cell? ⟨w.heap.size, 4, none⟩ = some (.slice al a.L.length acl) := (g0.cell 4).trans rfl
    have x5 : X0.cell? ⟨w.heap.size, 5, none⟩ = some (.slice at' a.T.length act) := (g0.cell 5).trans rfl
    have lt_x : w.heap.size < X0.heap.size := by omega
    have y0 : X0.cell? ⟨w.heap.size + 1, 0, none⟩ = some (.int .i64 d.K) := (g1.cell 0).trans rfl
    have y1 : X0.cell? ⟨w.heap.size + 1, 1, none⟩ = some (.int .i64 d.N) := (g1.cell 1).trans rfl
    have y2 : X0.cell? ⟨w.heap.size + 1, 2, none⟩ = some (.string d.S) := (g1.cell 2).trans rfl
    have y3 : X0.cell? ⟨w.heap.size + 1, 3, none⟩ = some (.slice dm d.M.length dcm) := (g1.cell 3).trans rfl
    have y4 : X0.cell? ⟨w.heap.size + 1, 4, none⟩ = some (.slice dl d.L.length dcl) := (g1.cell 4).trans rfl
    have y5 : X0.cell? ⟨w.heap.size + 1, 5, none⟩ = some (.slice dt d.T.length dct) := (g1.cell 5).trans rfl
    have lt_y : w.heap.size + 1 < X0.heap.size := by omega
    clear g0 g1 hsX
    replace TA := Lib.hid (TA.out.up hbX)
    replace TD := Lib.hid (TD.out.up hbX)
    replace HW := Lib.hid (HW.out.trans (hbX.mono HW.out.size))
    clear hbX
    refine (awake_any X0).mono ?_
    rintro e w0 ⟨rfl, hb⟩
    replace x0 := (hb.cell (p := ⟨w.heap.size, 0, none⟩) lt_x).trans x0
    replace x1 := (hb.cell (p := ⟨w.heap.size, 1, none⟩) lt_x).trans x1
    replace x2 := (hb.cell (p := ⟨w.heap.size, 2, none⟩) lt_x).trans x2
    replace x3 := (hb.cell (p := ⟨w.heap.size, 3, none⟩) lt_x).trans x3
    replace x4 := (hb.cell (p := ⟨w.heap.size, 4, none⟩) lt_x).trans x4
    replace x5 := (hb.cell (p := ⟨w.heap.size, 5, none⟩) lt_x).trans x5
    replace lt_x : w.heap.size < w0.heap.size := Nat.lt_of_lt_of_le lt_x hb.size
    replace y0 := (hb.cell (p := ⟨w.heap.size + 1, 0, none⟩) lt_y).trans y0
    replace y1 := (hb.cell (p := ⟨w.heap.size + 1, 1, none⟩) lt_y).trans y1
    replace y2 := (hb.cell (p := ⟨w.heap.size + 1, 2, none⟩) lt_y).trans y2
    replace y3 := (hb.cell (p := ⟨w.heap.size + 1, 3, none⟩) lt_y).trans y3
    replace y4 := (hb.cell (p := ⟨w.heap.size + 1, 4, none⟩) lt_y).trans y4
    replace y5 := (hb.cell (p := ⟨w.heap.size + 1, 5, none⟩) lt_y).trans y5
    replace lt_y : w.heap.size + 1 < w0.heap.size := Nat.lt_of_lt_of_le lt_y hb.size
    replace TA := Lib.hid (TA.out.up hb)
    replace TD := Lib.hid (TD.out.up hb)
    replace HW := Lib.hid (HW.out.trans (hb.mono HW.out.size))
    clear hb
    go_wp2_with fail
    refine (small_any a _ _ w0 (by exact TA.out) (Nat.le_refl _)).mono ?_
    rintro e w1 ⟨rfl, hb⟩
    rw [Sa.out]
    replace x0 := (hb.cell (p := ⟨w.heap.size, 0, none⟩) lt_x).trans x0
    replace x1 := (hb.cell (p := ⟨w.heap.size, 1, none⟩) lt_x).trans x1
    replace x2 := (hb.cell (p := ⟨w.heap.size, 2, none⟩) lt_x).trans x2
    replace x3 := (hb.cell (p := ⟨w.heap.size, 3, none⟩) lt_x).trans x3
    replace x4 := (hb.cell (p := ⟨w.heap.size, 4, none⟩) lt_x).trans x4
    replace x5 := (hb.cell (p := ⟨w.heap.size, 5, none⟩) lt_x).trans x5
    replace lt_x : w.heap.size < w1.heap.size := Nat.lt_of_lt_of_le lt_x hb.size
    replace y0 := (hb.cell (p := ⟨w.heap.size + 1, 0, none⟩) lt_y).trans y0
    replace y1 := (hb.cell (p := ⟨w.heap.size + 1, 1, none⟩) lt_y).trans y1
    replace y2 := (hb.cell (p := ⟨w.heap.size + 1, 2, none⟩) lt_y).trans y2
    replace y3 := (hb.cell (p := ⟨w.heap.size + 1, 3, none⟩) lt_y).trans y3
    replace y4 := (hb.cell (p := ⟨w.heap.size + 1, 4, none⟩) lt_y).trans y4
    replace y5 := (hb.cell (p := ⟨w.heap.size + 1, 5, none⟩) lt_y).trans y5
    replace lt_y : w.heap.size + 1 < w1.heap.size := Nat.lt_of_lt_of_le lt_y hb.size
    replace TA := Lib.hid (TA.out.up hb)
    replace TD := Lib.hid (TD.out.up hb)
    replace HW := Lib.hid (HW.out.trans (hb.mono HW.out.size))
    clear hb
    go_wp2_with fail
    refine (awake_any w1).mono ?_
    rintro e w2 ⟨rfl, hb⟩
    replace x0 := (hb.cell (p := ⟨w.heap.size, 0, none⟩) lt_x).trans x0
    replace x1 := (hb.cell (p := ⟨w.heap.size, 1, none⟩) lt_x).trans x1
    replace x2 := (hb.cell (p := ⟨w.heap.size, 2, none⟩) lt_x).trans x2
    replace x3 := (hb.cell (p := ⟨w.heap.size, 3, none⟩) lt_x).trans x3
    replace x4 := (hb.cell (p := ⟨w.heap.size, 4, none⟩) lt_x).trans x4
    replace x5 := (hb.cell (p := ⟨w.heap.size, 5, none⟩) lt_x).trans x5
    replace lt_x : w.heap.size < w2.heap.size := Nat.lt_of_lt_of_le lt_x hb.size
    replace y0 := (hb.cell (p := ⟨w.heap.size + 1, 0, none⟩) lt_y).trans y0
    replace y1 := (hb.cell (p := ⟨w.heap.size + 1, 1, none⟩) lt_y).trans y1
    replace y2 := (hb.cell (p := ⟨w.heap.size + 1, 2, none⟩) lt_y).trans y2
    replace y3 := (hb.cell (p := ⟨w.heap.size + 1, 3, none⟩) lt_y).trans y3
    replace y4 := (hb.cell (p := ⟨w.heap.size + 1, 4, none⟩) lt_y).trans y4
    replace y5 := (hb.cell (p := ⟨w.heap.size + 1, 5, none⟩) lt_y).trans y5
    replace lt_y : w.heap.size + 1 < w2.heap.size := Nat.lt_of_lt_of_le lt_y hb.size
    replace TA := Lib.hid (TA.out.up hb)
    replace TD := Lib.hid (TD.out.up hb)
    replace HW := Lib.hid (HW.out.trans (hb.mono HW.out.size))
    clear hb
    go_wp2_with fail
    go_ret
    exact ⟨rfl, HW.out⟩
  · cases sd
    · have HW := Lib.hid (bel_refl w)
      go_enter Try.func7, Try.ntmps7
      go_wp2_with fail
      obtain ⟨hbX, hsX, hkX⟩ := start_allocs [(#[.int .i64 a.K, .int .i64 a.N, .string a.S, .slice am a.M.length acm, .slice al a.L.length acl, .slice at' a.T.length act], 25), (#[.int .i64 d.K, .int .i64 d.N, .string d.S, .slice dm d.M.length dcm, .slice dl d.L.length dcl, .slice dt d.T.length dct], 25)] w
      have g0 := hkX 0 _ rfl
      have g1 := hkX 1 _ rfl
      set_option linter.unusedSimpArgs false in
      simp only [allocs, List.foldl_cons, List.foldl_nil, Nat.add_zero, List.length_cons, List.length_nil, Nat.zero_add, Nat.reduceAdd] at hbX hsX g0 g1
      clear hkX
      generalize (w.alloc (.cells #[.int .i64 a.K, .int .i64 a.N, .string a.S, .slice am a.M.length acm, .slice al a.L.length acl, .slice at' a.T.length act] 25)).alloc (.cells #[.int .i64 d.K, .int .i64 d.N, .string d.S, .slice dm d.M.length dcm, .slice dl d.L.length dcl, .slice dt d.T.length dct] 25) = X0 at *
      have x0 : X0.cell? ⟨w.heap.size, 0, none⟩ = some (.int .i64 a.K) := (g0.cell 0).trans rfl
      have x1 : X0.cell? ⟨w.heap.size, 1, none⟩ = some (.int .i64 a.N) := (g0.cell 1).trans rfl
      have x2 : X0.cell? ⟨w.heap.size, 2, none⟩ = some (.string a.S) := (g0.cell 2).trans rfl
      have x3 : X0.cell? ⟨w.heap.size, 3, none⟩ = some (.slice am a.M.length acm) := (g0.cell 3).trans rfl
      have x4 : X0.cell? ⟨w.heap.size, 4, none⟩ = some (.slice al a.L.length acl) := (g0.cell 4).trans rfl
      have x5 : X0.cell? ⟨w.heap.size, 5, none⟩ = some (.slice at' a.T.length act) := (g0.cell 5).trans rfl
      have lt_x : w.heap.size < X0.heap.size := by omega
      have y0 : X0.cell? ⟨w.heap.size + 1, 0, none⟩ = some (.int .i64 d.K) := (g1.cell 0).trans rfl
      have y1 : X0.cell? ⟨w.heap.size + 1, 1, none⟩ = some (.int .i64 d.N) := (g1.cell 1).trans rfl
      have y2 : X0.cell? ⟨w.heap.size + 1, 2, none⟩ = some (.string d.S) := (g1.cell 2).trans rfl
      have y3 : X0.cell? ⟨w.heap.size + 1, 3, none⟩ = some (.slice dm d.M.length dcm) := (g1.cell 3).trans rfl
      have y4 : X0.cell? ⟨w.heap.size + 1, 4, none⟩ = some (.slice dl d.L.length dcl) := (g1.cell 4).trans rfl
      have y5 : X0.cell? ⟨w.heap.size + 1, 5, none⟩ = some (.slice dt d.T.length dct) := (g1.cell 5).trans rfl
      have lt_y : w.heap.size + 1 < X0.heap.size := by omega
      clear g0 g1 hsX
      replace TA := Lib.hid (TA.out.up hbX)
      replace TD := Lib.hid (TD.out.up hbX)
      replace HW := Lib.hid (HW.out.trans (hbX.mono HW.out.size))
      clear hbX
      refine (awake_any X0).mono ?_
      rintro e w0 ⟨rfl, hb⟩
      replace x0 := (hb.cell (p := ⟨w.heap.size, 0, none⟩) lt_x).trans x0
      replace x1 := (hb.cell (p := ⟨w.heap.size, 1, none⟩) lt_x).trans x1
      replace x2 := (hb.cell (p := ⟨w.heap.size, 2, none⟩) lt_x).trans x2
      replace x3 := (hb.cell (p := ⟨w.heap.size, 3, none⟩) lt_x).trans x3
      replace x4 := (hb.cell (p := ⟨w.heap.size, 4, none⟩) lt_x).trans x4
      replace x5 := (hb.cell (p := ⟨w.heap.size, 5, none⟩) lt_x).trans x5
      replace lt_x : w.heap.size < w0.heap.size := Nat.lt_of_lt_of_le lt_x hb.size
      replace y0 := (hb.cell (p := ⟨w.heap.size + 1, 0, none⟩) lt_y).trans y0
      replace y1 := (hb.cell (p := ⟨w.heap.size + 1, 1, none⟩) lt_y).trans y1
      replace y2 := (hb.cell (p := ⟨w.heap.size + 1, 2, none⟩) lt_y).trans y2
      replace y3 := (hb.cell (p := ⟨w.heap.size + 1, 3, none⟩) lt_y).trans y3
      replace y4 := (hb.cell (p := ⟨w.heap.size + 1, 4, none⟩) lt_y).trans y4
      replace y5 := (hb.cell (p := ⟨w.heap.size + 1, 5, none⟩) lt_y).trans y5
      replace lt_y : w.heap.size + 1 < w0.heap.size := Nat.lt_of_lt_of_le lt_y hb.size
      replace TA := Lib.hid (TA.out.up hb)
      replace TD := Lib.hid (TD.out.up hb)
      replace HW := Lib.hid (HW.out.trans (hb.mono HW.out.size))
      clear hb
      go_wp2_with fail
      refine (small_any a _ _ w0 (by exact TA.out) (Nat.le_refl _)).mono ?_
      rintro e w1 ⟨rfl, hb⟩
      rw [Sa.out]
      replace x0 := (hb.cell (p := ⟨w.heap.size, 0, none⟩) lt_x).trans x0
      replace x1 := (hb.cell (p := ⟨w.heap.size, 1, none⟩) lt_x).trans x1
      replace x2 := (hb.cell (p := ⟨w.heap.size, 2, none⟩) lt_x).trans x2
      replace x3 := (hb.cell (p := ⟨w.heap.size, 3, none⟩) lt_x).trans x3
      replace x4 := (hb.cell (p := ⟨w.heap.size, 4, none⟩) lt_x).trans x4
      replace x5 := (hb.cell (p := ⟨w.heap.size, 5, none⟩) lt_x).trans x5
      replace lt_x : w.heap.size < w1.heap.size := Nat.lt_of_lt_of_le lt_x hb.size
      replace y0 := (hb.cell (p := ⟨w.heap.size + 1, 0, none⟩) lt_y).trans y0
      replace y1 := (hb.cell (p := ⟨w.heap.size + 1, 1, none⟩) lt_y).trans y1
      replace y2 := (hb.cell (p := ⟨w.heap.size + 1, 2, none⟩) lt_y).trans y2
      replace y3 := (hb.cell (p := ⟨w.heap.size + 1, 3, none⟩) lt_y).trans y3
      replace y4 := (hb.cell (p := ⟨w.heap.size + 1, 4, none⟩) lt_y).trans y4
      replace y5 := (hb.cell (p := ⟨w.heap.size + 1, 5, none⟩) lt_y).trans y5
      replace lt_y : w.heap.size + 1 < w1.heap.size := Nat.lt_of_lt_of_le lt_y hb.size
      replace TA := Lib.hid (TA.out.up hb)
      replace TD := Lib.hid (TD.out.up hb)
      replace HW := Lib.hid (HW.out.trans (hb.mono HW.out.size))
      clear hb
      go_wp2_with fail
      refine (small_any d _ _ w1 (by exact TD.out) (Nat.le_refl _)).mono ?_
      rintro e w2 ⟨rfl, hb⟩
      rw [Sd.out]
      replace x0 := (hb.cell (p := ⟨w.heap.size, 0, none⟩) lt_x).trans x0
      replace x1 := (hb.cell (p := ⟨w.heap.size, 1, none⟩) lt_x).trans x1
      replace x2 := (hb.cell (p := ⟨w.heap.size, 2, none⟩) lt_x).trans x2
      replace x3 := (hb.cell (p := ⟨w.heap.size, 3, none⟩) lt_x).trans x3
      replace x4 := (hb.cell (p := ⟨w.heap.size, 4, none⟩) lt_x).trans x4
      replace x5 := (hb.cell (p := ⟨w.heap.size, 5, none⟩) lt_x).trans x5
      replace lt_x : w.heap.size < w2.heap.size := Nat.lt_of_lt_of_le lt_x hb.size
      replace y0 := (hb.cell (p := ⟨w.heap.size + 1, 0, none⟩) lt_y).trans y0
      replace y1 := (hb.cell (p := ⟨w.heap.size + 1, 1, none⟩) lt_y).trans y1
      replace y2 := (hb.cell (p := ⟨w.heap.size + 1, 2, none⟩) lt_y).trans y2
      replace y3 := (hb.cell (p := ⟨w.heap.size + 1, 3, none⟩) lt_y).trans y3
      replace y4 := (hb.cell (p := ⟨w.heap.size + 1, 4, none⟩) lt_y).trans y4
      replace y5 := (hb.cell (p := ⟨w.heap.size + 1, 5, none⟩) lt_y).trans y5
      replace lt_y : w.heap.size + 1 < w2.heap.size := Nat.lt_of_lt_of_le lt_y hb.size
      replace TA := Lib.hid (TA.out.up hb)
      replace TD := Lib.hid (TD.out.up hb)
      replace HW := Lib.hid (HW.out.trans (hb.mono HW.out.size))
      clear hb
      go_wp2_with fail
      refine (awake_any w2).mono ?_
      rintro e w3 ⟨rfl, hb⟩
      replace x0 := (hb.cell (p := ⟨w.heap.size, 0, none⟩) lt_x).trans x0
      replace x1 := (hb.cell (p := ⟨w.heap.size, 1, none⟩) lt_x).trans x1
      replace x2 := (hb.cell (p := ⟨w.heap.size, 2, none⟩) lt_x).trans x2
      replace x3 := (hb.cell (p := ⟨w.heap.size, 3, none⟩) lt_x).trans x3
      replace x4 := (hb.cell (p := ⟨w.heap.size, 4, none⟩) lt_x).trans x4
      replace x5 := (hb.cell (p := ⟨w.heap.size, 5, none⟩) lt_x).trans x5
      replace lt_x : w.heap.size < w3.heap.size := Nat.lt_of_lt_of_le lt_x hb.size
      replace y0 := (hb.cell (p := ⟨w.heap.size + 1, 0, none⟩) lt_y).trans y0
      replace y1 := (hb.cell (p := ⟨w.heap.size + 1, 1, none⟩) lt_y).trans y1
      replace y2 := (hb.cell (p := ⟨w.heap.size + 1, 2, none⟩) lt_y).trans y2
      replace y3 := (hb.cell (p := ⟨w.heap.size + 1, 3, none⟩) lt_y).trans y3
      replace y4 := (hb.cell (p := ⟨w.heap.size + 1, 4, none⟩) lt_y).trans y4
      replace y5 := (hb.cell (p := ⟨w.heap.size + 1, 5, none⟩) lt_y).trans y5
      replace lt_y : w.heap.size + 1 < w3.heap.size := Nat.lt_of_lt_of_le lt_y hb.size
      replace TA := Lib.hid (TA.out.up hb)
      replace TD := Lib.hid (TD.out.up hb)
      replace HW := Lib.hid (HW.out.trans (hb.mono HW.out.size))
      clear hb
      go_wp2_with fail
      go_ret
      exact ⟨rfl, HW.out⟩
    · obtain ⟨ce, hce⟩ : ∃ c, consE a d = c := ⟨_, rfl⟩
      obtain ⟨pd, hpd⟩ : ∃ c, consD a d = c := ⟨_, rfl⟩
      obtain ⟨pe, hpe⟩ : ∃ c, pairE d = c := ⟨_, rfl⟩
      obtain ⟨cx, hcx⟩ : ∃ c, carD d = c := ⟨_, rfl⟩
      obtain ⟨cy, hcy⟩ : ∃ c, cdrD d = c := ⟨_, rfl⟩
      have Ce := Lib.hid hce
      have Pd := Lib.hid hpd
      have Pe := Lib.hid hpe
      have Cx := Lib.hid hcx
      have Cy := Lib.hid hcy
      clear hce hpd hpe hcx hcy
      have Put := Lib.hid (show ce = 0 → chk a = 0 ∧ chk d = 0 ∧ pairE pd = 0 ∧ carD pd = a ∧ cdrD pd = d from fun h => by rw [← Pd.out]; exact halves_put (Ce.out.trans h))
      have Take := Lib.hid (show pe = 0 → consE cx cy = 0 ∧ consD cx cy = d from fun h => by rw [← Cx.out, ← Cy.out]; exact ⟨(halves_take (Pe.out.trans h)).1, (halves_take (Pe.out.trans h)).2.1⟩)
      by_cases h0 : ce = 0
      · subst h0
        replace Put := Lib.hid (Put.out rfl)
        by_cases g0 : pe = 0
        · subst g0
          replace Take := Lib.hid (Take.out rfl)
          have HW := Lib.hid (bel_refl w)
          go_enter Try.func7, Try.ntmps7
          go_wp2_with fail
          obtain ⟨hbX, hsX, hkX⟩ := start_allocs [(#[.int .i64 a.K, .int .i64 a.N, .string a.S, .slice am a.M.length acm, .slice al a.L.length acl, .slice at' a.T.length act], 25), (#[.int .i64 d.K, .int .i64 d.N, .string d.S, .slice dm d.M.length dcm, .slice dl d.L.length dcl, .slice dt d.T.length dct], 25)] w
          have g0 := hkX 0 _ rfl
          have g1 := hkX 1 _ rfl
          set_option linter.unusedSimpArgs false in
          simp only [allocs, List.foldl_cons, List.foldl_nil, Nat.add_zero, List.length_cons, List.length_nil, Nat.zero_add, Nat.reduceAdd] at hbX hsX g0 g1
          clear hkX
          generalize (w.alloc (.cells #[.int .i64 a.K, .int .i64 a.N, .string a.S, .slice am a.M.length acm, .slice al a.L.length acl, .slice at' a.T.length act] 25)).alloc (.cells #[.int .i64 d.K, .int .i64 d.N, .string d.S, .slice dm d.M.length dcm, .slice dl d.L.length dcl, .slice dt d.T.length dct] 25) = X0 at *
          have x0 : X0.cell? ⟨w.heap.size, 0, none⟩ = some (.int .i64 a.K) := (g0.cell 0).trans rfl
          have x1 : X0.cell? ⟨w.heap.size, 1, none⟩ = some (.int .i64 a.N) := (g0.cell 1).trans rfl
          have x2 : X0.cell? ⟨w.heap.size, 2, none⟩ = some (.string a.S) := (g0.cell 2).trans rfl
          have x3 : X0.cell? ⟨w.heap.size, 3, none⟩ = some (.slice am a.M.length acm) := (g0.cell 3).trans rfl
          have x4 : X0.cell? ⟨w.heap.size, 4, none⟩ = some (.slice al a.L.length acl) := (g0.cell 4).trans rfl
          have x5 : X0.cell? ⟨w.heap.size, 5, none⟩ = some (.slice at' a.T.length act) := (g0.cell 5).trans rfl
          have lt_x : w.heap.size < X0.heap.size := by omega
          have y0 : X0.cell? ⟨w.heap.size + 1, 0, none⟩ = some (.int .i64 d.K) := (g1.cell 0).trans rfl
          have y1 : X0.cell? ⟨w.heap.size + 1, 1, none⟩ = some (.int .i64 d.N) := (g1.cell 1).trans rfl
          have y2 : X0.cell? ⟨w.heap.size + 1, 2, none⟩ = some (.string d.S) := (g1.cell 2).trans rfl
          have y3 : X0.cell? ⟨w.heap.size + 1, 3, none⟩ = some (.slice dm d.M.length dcm) := (g1.cell 3).trans rfl
          have y4 : X0.cell? ⟨w.heap.size + 1, 4, none⟩ = some (.slice dl d.L.length dcl) := (g1.cell 4).trans rfl
          have y5 : X0.cell? ⟨w.heap.size + 1, 5, none⟩ = some (.slice dt d.T.length dct) := (g1.cell 5).trans rfl
          have lt_y : w.heap.size + 1 < X0.heap.size := by omega
          clear g0 g1 hsX
          replace TA := Lib.hid (TA.out.up hbX)
          replace TD := Lib.hid (TD.out.up hbX)
          replace HW := Lib.hid (HW.out.trans (hbX.mono HW.out.size))
          clear hbX
          refine (awake_any X0).mono ?_
          rintro e w0 ⟨rfl, hb⟩
          replace x0 := (hb.cell (p := ⟨w.heap.size, 0, none⟩) lt_x).trans x0
          replace x1 := (hb.cell (p := ⟨w.heap.size, 1, none⟩) lt_x).trans x1
          replace x2 := (hb.cell (p := ⟨w.heap.size, 2, none⟩) lt_x).trans x2
          replace x3 := (hb.cell (p := ⟨w.heap.size, 3, none⟩) lt_x).trans x3
          replace x4 := (hb.cell (p := ⟨w.heap.size, 4, none⟩) lt_x).trans x4
          replace x5 := (hb.cell (p := ⟨w.heap.size, 5, none⟩) lt_x).trans x5
          replace lt_x : w.heap.size < w0.heap.size := Nat.lt_of_lt_of_le lt_x hb.size
          replace y0 := (hb.cell (p := ⟨w.heap.size + 1, 0, none⟩) lt_y).trans y0
          replace y1 := (hb.cell (p := ⟨w.heap.size + 1, 1, none⟩) lt_y).trans y1
          replace y2 := (hb.cell (p := ⟨w.heap.size + 1, 2, none⟩) lt_y).trans y2
          replace y3 := (hb.cell (p := ⟨w.heap.size + 1, 3, none⟩) lt_y).trans y3
          replace y4 := (hb.cell (p := ⟨w.heap.size + 1, 4, none⟩) lt_y).trans y4
          replace y5 := (hb.cell (p := ⟨w.heap.size + 1, 5, none⟩) lt_y).trans y5
          replace lt_y : w.heap.size + 1 < w0.heap.size := Nat.lt_of_lt_of_le lt_y hb.size
          replace TA := Lib.hid (TA.out.up hb)
          replace TD := Lib.hid (TD.out.up hb)
          replace HW := Lib.hid (HW.out.trans (hb.mono HW.out.size))
          clear hb
          go_wp2_with fail
          refine (small_any a _ _ w0 (by exact TA.out) (Nat.le_refl _)).mono ?_
          rintro e w1 ⟨rfl, hb⟩
          rw [Sa.out]
          replace x0 := (hb.cell (p := ⟨w.heap.size, 0, none⟩) lt_x).trans x0
          replace x1 := (hb.cell (p := ⟨w.heap.size, 1, none⟩) lt_x).trans x1
          replace x2 := (hb.cell (p := ⟨w.heap.size, 2, none⟩) lt_x).trans x2
          replace x3 := (hb.cell (p := ⟨w.heap.size, 3, none⟩) lt_x).trans x3
          replace x4 := (hb.cell (p := ⟨w.heap.size, 4, none⟩) lt_x).trans x4
          replace x5 := (hb.cell (p := ⟨w.heap.size, 5, none⟩) lt_x).trans x5
          replace lt_x : w.heap.size < w1.heap.size := Nat.lt_of_lt_of_le lt_x hb.size
          replace y0 := (hb.cell (p := ⟨w.heap.size + 1, 0, none⟩) lt_y).trans y0
          replace y1 := (hb.cell (p := ⟨w.heap.size + 1, 1, none⟩) lt_y).trans y1
          replace y2 := (hb.cell (p := ⟨w.heap.size + 1, 2, none⟩) lt_y).trans y2
          replace y3 := (hb.cell (p := ⟨w.heap.size + 1, 3, none⟩) lt_y).trans y3
          replace y4 := (hb.cell (p := ⟨w.heap.size + 1, 4, none⟩) lt_y).trans y4
          replace y5 := (hb.cell (p := ⟨w.heap.size + 1, 5, none⟩) lt_y).trans y5
          replace lt_y : w.heap.size + 1 < w1.heap.size := Nat.lt_of_lt_of_le lt_y hb.size
          replace TA := Lib.hid (TA.out.up hb)
          replace TD := Lib.hid (TD.out.up hb)
          replace HW := Lib.hid (HW.out.trans (hb.mono HW.out.size))
          clear hb
          go_wp2_with fail
          refine (small_any d _ _ w1 (by exact TD.out) (Nat.le_refl _)).mono ?_
          rintro e w2 ⟨rfl, hb⟩
          rw [Sd.out]
          replace x0 := (hb.cell (p := ⟨w.heap.size, 0, none⟩) lt_x).trans x0
          replace x1 := (hb.cell (p := ⟨w.heap.size, 1, none⟩) lt_x).trans x1
          replace x2 := (hb.cell (p := ⟨w.heap.size, 2, none⟩) lt_x).trans x2
          replace x3 := (hb.cell (p := ⟨w.heap.size, 3, none⟩) lt_x).trans x3
          replace x4 := (hb.cell (p := ⟨w.heap.size, 4, none⟩) lt_x).trans x4
          replace x5 := (hb.cell (p := ⟨w.heap.size, 5, none⟩) lt_x).trans x5
          replace lt_x : w.heap.size < w2.heap.size := Nat.lt_of_lt_of_le lt_x hb.size
          replace y0 := (hb.cell (p := ⟨w.heap.size + 1, 0, none⟩) lt_y).trans y0
          replace y1 := (hb.cell (p := ⟨w.heap.size + 1, 1, none⟩) lt_y).trans y1
          replace y2 := (hb.cell (p := ⟨w.heap.size + 1, 2, none⟩) lt_y).trans y2
          replace y3 := (hb.cell (p := ⟨w.heap.size + 1, 3, none⟩) lt_y).trans y3
          replace y4 := (hb.cell (p := ⟨w.heap.size + 1, 4, none⟩) lt_y).trans y4
          replace y5 := (hb.cell (p := ⟨w.heap.size + 1, 5, none⟩) lt_y).trans y5
          replace lt_y : w.heap.size + 1 < w2.heap.size := Nat.lt_of_lt_of_le lt_y hb.size
          replace TA := Lib.hid (TA.out.up hb)
          replace TD := Lib.hid (TD.out.up hb)
          replace HW := Lib.hid (HW.out.trans (hb.mono HW.out.size))
          clear hb
          go_wp2_with fail
          refine (cons_any a d _ _ _ w2 (by exact TA.out) (by exact TD.out) (Nat.le_refl _)).mono ?_
          rw [Ce.out, Pd.out]
          intro e w3 hr
          obtain ⟨pv, rfl, hb, hz, hi⟩ := hr.lo (Nat.le_refl _)
          replace hi := hi rfl
          clear hz
          have hi2 := hi
          obtain ⟨pm, pcm, pl, pcl, pt, pct, rfl, _⟩ := hi2.open_
          have TP := Lib.hid hi
          clear hi hi2
          replace x0 := (hb.cell (p := ⟨w.heap.size, 0, none⟩) lt_x).trans x0
          replace x1 := (hb.cell (p := ⟨w.heap.size, 1, none⟩) lt_x).trans x1
          replace x2 := (hb.cell (p := ⟨w.heap.size, 2, none⟩) lt_x).trans x2
          replace x3 := (hb.cell (p := ⟨w.heap.size, 3, none⟩) lt_x).trans x3
          replace x4 := (hb.cell (p := ⟨w.heap.size, 4, none⟩) lt_x).trans x4
          replace x5 := (hb.cell (p := ⟨w.heap.size, 5, none⟩) lt_x).trans x5
          replace lt_x : w.heap.size < w3.heap.size := Nat.lt_of_lt_of_le lt_x hb.size
          replace y0 := (hb.cell (p := ⟨w.heap.size + 1, 0, none⟩) lt_y).trans y0
          replace y1 := (hb.cell (p := ⟨w.heap.size + 1, 1, none⟩) lt_y).trans y1
          replace y2 := (hb.cell (p := ⟨w.heap.size + 1, 2, none⟩) lt_y).trans y2
          replace y3 := (hb.cell (p := ⟨w.heap.size + 1, 3, none⟩) lt_y).trans y3
          replace y4 := (hb.cell (p := ⟨w.heap.size + 1, 4, none⟩) lt_y).trans y4
          replace y5 := (hb.cell (p := ⟨w.heap.size + 1, 5, none⟩) lt_y).trans y5
          replace lt_y : w.heap.size + 1 < w3.heap.size := Nat.lt_of_lt_of_le lt_y hb.size
          replace TA := Lib.hid (TA.out.up hb)
          replace TD := Lib.hid (TD.out.up hb)
          replace HW := Lib.hid (HW.out.trans (hb.mono HW.out.size))
          clear hb
          go_wp2_with fail
          obtain ⟨hbX, hsX, hkX⟩ := start_allocs [(#[.int .i64 pd.K, .int .i64 pd.N, .string pd.S, .slice pm pd.M.length pcm, .slice pl pd.L.length pcl, .slice pt pd.T.length pct], 25)] w3
          have g0 := hkX 0 _ rfl
          set_option linter.unusedSimpArgs false in
          simp only [allocs, List.foldl_cons, List.foldl_nil, Nat.add_zero, List.length_cons, List.length_nil, Nat.zero_add, Nat.reduceAdd] at hbX hsX g0
          clear hkX
          generalize w3.alloc (.cells #[.int .i64 pd.K, .int .i64 pd.N, .string pd.S, .slice pm pd.M.length pcm, .slice pl pd.L.length pcl, .slice pt pd.T.length pct] 25) = X1 at *
          have z0 : X1.cell? ⟨w3.heap.size, 0, none⟩ = some (.int .i64 pd.K) := (g0.cell 0).trans rfl
          have z1 : X1.cell? ⟨w3.heap.size, 1, none⟩ = some (.int .i64 pd.N) := (g0.cell 1).trans rfl
          have z2 : X1.cell? ⟨w3.heap.size, 2, none⟩ = some (.string pd.S) := (g0.cell 2).trans rfl
          have z3 : X1.cell? ⟨w3.heap.size, 3, none⟩ = some (.slice pm pd.M.length pcm) := (g0.cell 3).trans rfl
          have z4 : X1.cell? ⟨w3.heap.size, 4, none⟩ = some (.slice pl pd.L.length pcl) := (g0.cell 4).trans rfl
          have z5 : X1.cell? ⟨w3.heap.size, 5, none⟩ = some (.slice pt pd.T.length pct) := (g0.cell 5).trans rfl
          have lt_z : w3.heap.size < X1.heap.size := by omega
          clear g0 hsX
          replace x0 := (hbX.cell (p := ⟨w.heap.size, 0, none⟩) lt_x).trans x0
          replace x1 := (hbX.cell (p := ⟨w.heap.size, 1, none⟩) lt_x).trans x1
          replace x2 := (hbX.cell (p := ⟨w.heap.size, 2, none⟩) lt_x).trans x2
          replace x3 := (hbX.cell (p := ⟨w.heap.size, 3, none⟩) lt_x).trans x3
          replace x4 := (hbX.cell (p := ⟨w.heap.size, 4, none⟩) lt_x).trans x4
          replace x5 := (hbX.cell (p := ⟨w.heap.size, 5, none⟩) lt_x).trans x5
          replace lt_x : w.heap.size < X1.heap.size := Nat.lt_of_lt_of_le lt_x hbX.size
          replace y0 := (hbX.cell (p := ⟨w.heap.size + 1, 0, none⟩) lt_y).trans y0
          replace y1 := (hbX.cell (p := ⟨w.heap.size + 1, 1, none⟩) lt_y).trans y1
          replace y2 := (hbX.cell (p := ⟨w.heap.size + 1, 2, none⟩) lt_y).trans y2
          replace y3 := (hbX.cell (p := ⟨w.heap.size + 1, 3, none⟩) lt_y).trans y3
          replace y4 := (hbX.cell (p := ⟨w.heap.size + 1, 4, none⟩) lt_y).trans y4
          replace y5 := (hbX.cell (p := ⟨w.heap.size + 1, 5, none⟩) lt_y).trans y5
          replace lt_y : w.heap.size + 1 < X1.heap.size := Nat.lt_of_lt_of_le lt_y hbX.size
          replace TA := Lib.hid (TA.out.up hbX)
          replace TD := Lib.hid (TD.out.up hbX)
          replace TP := Lib.hid (TP.out.up hbX)
          replace HW := Lib.hid (HW.out.trans (hbX.mono HW.out.size))
          clear hbX
          refine (car_any pd _ _ X1 (by exact TP.out) (Nat.le_refl _)).mono ?_
          rw [Put.out.2.2.1, Put.out.2.2.2.1]
          intro e w4 hr
          obtain ⟨qv, rfl, hb, hz, hi⟩ := hr.lo (Nat.le_refl _)
          replace hi := hi rfl
          clear hz
          have hi2 := hi
          obtain ⟨qm, qcm, ql, qcl, qt, qct, rfl, _⟩ := hi2.open_
          have TX := Lib.hid hi
          clear hi hi2
          replace x0 := (hb.cell (p := ⟨w.heap.size, 0, none⟩) lt_x).trans x0
          replace x1 := (hb.cell (p := ⟨w.heap.size, 1, none⟩) lt_x).trans x1
          replace x2 := (hb.cell (p := ⟨w.heap.size, 2, none⟩) lt_x).trans x2
          replace x3 := (hb.cell (p := ⟨w.heap.size, 3, none⟩) lt_x).trans x3
          replace x4 := (hb.cell (p := ⟨w.heap.size, 4, none⟩) lt_x).trans x4
          replace x5 := (hb.cell (p := ⟨w.heap.size, 5, none⟩) lt_x).trans x5
          replace lt_x : w.heap.size < w4.heap.size := Nat.lt_of_lt_of_le lt_x hb.size
          replace y0 := (hb.cell (p := ⟨w.heap.size + 1, 0, none⟩) lt_y).trans y0
          replace y1 := (hb.cell (p := ⟨w.heap.size + 1, 1, none⟩) lt_y).trans y1
          replace y2 := (hb.cell (p := ⟨w.heap.size + 1, 2, none⟩) lt_y).trans y2
          replace y3 := (hb.cell (p := ⟨w.heap.size + 1, 3, none⟩) lt_y).trans y3
          replace y4 := (hb.cell (p := ⟨w.heap.size + 1, 4, none⟩) lt_y).trans y4
          replace y5 := (hb.cell (p := ⟨w.heap.size + 1, 5, none⟩) lt_y).trans y5
          replace lt_y : w.heap.size + 1 < w4.heap.size := Nat.lt_of_lt_of_le lt_y hb.size
          replace z0 := (hb.cell (p := ⟨w3.heap.size, 0, none⟩) lt_z).trans z0
          replace z1 := (hb.cell (p := ⟨w3.heap.size, 1, none⟩) lt_z).trans z1
          replace z2 := (hb.cell (p := ⟨w3.heap.size, 2, none⟩) lt_z).trans z2
          replace z3 := (hb.cell (p := ⟨w3.heap.size, 3, none⟩) lt_z).trans z3
          replace z4 := (hb.cell (p := ⟨w3.heap.size, 4, none⟩) lt_z).trans z4
          replace z5 := (hb.cell (p := ⟨w3.heap.size, 5, none⟩) lt_z).trans z5
          replace lt_z : w3.heap.size < w4.heap.size := Nat.lt_of_lt_of_le lt_z hb.size
          replace TA := Lib.hid (TA.out.up hb)
          replace TD := Lib.hid (TD.out.up hb)
          replace TP := Lib.hid (TP.out.up hb)
          replace HW := Lib.hid (HW.out.trans (hb.mono HW.out.size))
          clear hb
          go_wp2_with fail
          obtain ⟨hbX, hsX, hkX⟩ := start_allocs [(#[.int .i64 a.K, .int .i64 a.N, .string a.S, .slice qm a.M.length qcm, .slice ql a.L.length qcl, .slice qt a.T.length qct], 25)] w4
          have g0 := hkX 0 _ rfl
          set_option linter.unusedSimpArgs false in
          simp only [allocs, List.foldl_cons, List.foldl_nil, Nat.add_zero, List.length_cons, List.length_nil, Nat.zero_add, Nat.reduceAdd] at hbX hsX g0
          clear hkX
          generalize w4.alloc (.cells #[.int .i64 a.K, .int .i64 a.N, .string a.S, .slice qm a.M.length qcm, .slice ql a.L.length qcl, .slice qt a.T.length qct] 25) = X2 at *
          have u0 : X2.cell? ⟨w4.heap.size, 0, none⟩ = some (.int .i64 a.K) := (g0.cell 0).trans rfl
          have u1 : X2.cell? ⟨w4.heap.size, 1, none⟩ = some (.int .i64 a.N) := (g0.cell 1).trans rfl
          have u2 : X2.cell? ⟨w4.heap.size, 2, none⟩ = some (.string a.S) := (g0.cell 2).trans rfl
          have u3 : X2.cell? ⟨w4.heap.size, 3, none⟩ = some (.slice qm a.M.length qcm) := (g0.cell 3).trans rfl
          have u4 : X2.cell? ⟨w4.heap.size, 4, none⟩ = some (.slice ql a.L.length qcl) := (g0.cell 4).trans rfl
          have u5 : X2.cell? ⟨w4.heap.size, 5, none⟩ = some (.slice qt a.T.length qct) := (g0.cell 5).trans rfl
          have lt_u : w4.heap.size < X2.heap.size := by omega
          clear g0 hsX
          replace x0 := (hbX.cell (p := ⟨w.heap.size, 0, none⟩) lt_x).trans x0
          replace x1 := (hbX.cell (p := ⟨w.heap.size, 1, none⟩) lt_x).trans x1
          replace x2 := (hbX.cell (p := ⟨w.heap.size, 2, none⟩) lt_x).trans x2
          replace x3 := (hbX.cell (p := ⟨w.heap.size, 3, none⟩) lt_x).trans x3
          replace x4 := (hbX.cell (p := ⟨w.heap.size, 4, none⟩) lt_x).trans x4
          replace x5 := (hbX.cell (p := ⟨w.heap.size, 5, none⟩) lt_x).trans x5
          replace lt_x : w.heap.size < X2.heap.size := Nat.lt_of_lt_of_le lt_x hbX.size
          replace y0 := (hbX.cell (p := ⟨w.heap.size + 1, 0, none⟩) lt_y).trans y0
          replace y1 := (hbX.cell (p := ⟨w.heap.size + 1, 1, none⟩) lt_y).trans y1
          replace y2 := (hbX.cell (p := ⟨w.heap.size + 1, 2, none⟩) lt_y).trans y2
          replace y3 := (hbX.cell (p := ⟨w.heap.size + 1, 3, none⟩) lt_y).trans y3
          replace y4 := (hbX.cell (p := ⟨w.heap.size + 1, 4, none⟩) lt_y).trans y4
          replace y5 := (hbX.cell (p := ⟨w.heap.size + 1, 5, none⟩) lt_y).trans y5
          replace lt_y : w.heap.size + 1 < X2.heap.size := Nat.lt_of_lt_of_le lt_y hbX.size
          replace z0 := (hbX.cell (p := ⟨w3.heap.size, 0, none⟩) lt_z).trans z0
          replace z1 := (hbX.cell (p := ⟨w3.heap.size, 1, none⟩) lt_z).trans z1
          replace z2 := (hbX.cell (p := ⟨w3.heap.size, 2, none⟩) lt_z).trans z2
          replace z3 := (hbX.cell (p := ⟨w3.heap.size, 3, none⟩) lt_z).trans z3
          replace z4 := (hbX.cell (p := ⟨w3.heap.size, 4, none⟩) lt_z).trans z4
          replace z5 := (hbX.cell (p := ⟨w3.heap.size, 5, none⟩) lt_z).trans z5
          replace lt_z : w3.heap.size < X2.heap.size := Nat.lt_of_lt_of_le lt_z hbX.size
          replace TA := Lib.hid (TA.out.up hbX)
          replace TD := Lib.hid (TD.out.up hbX)
          replace TP := Lib.hid (TP.out.up hbX)
          replace TX := Lib.hid (TX.out.up hbX)
          replace HW := Lib.hid (HW.out.trans (hbX.mono HW.out.size))
          clear hbX
          refine (cdr_any pd _ _ X2 (by exact TP.out) (Nat.le_refl _)).mono ?_
          rw [Put.out.2.2.1, Put.out.2.2.2.2]
          intro e w5 hr
          obtain ⟨rv, rfl, hb, hz, hi⟩ := hr.lo (Nat.le_refl _)
          replace hi := hi rfl
          clear hz
          have hi2 := hi
          obtain ⟨rm, rcm, rl, rcl, rt, rct, rfl, _⟩ := hi2.open_
          have TY := Lib.hid hi
          clear hi hi2
          replace x0 := (hb.cell (p := ⟨w.heap.size, 0, none⟩) lt_x).trans x0
          replace x1 := (hb.cell (p := ⟨w.heap.size, 1, none⟩) lt_x).trans x1
          replace x2 := (hb.cell (p := ⟨w.heap.size, 2, none⟩) lt_x).trans x2
          replace x3 := (hb.cell (p := ⟨w.heap.size, 3, none⟩) lt_x).trans x3
          replace x4 := (hb.cell (p := ⟨w.heap.size, 4, none⟩) lt_x).trans x4
          replace x5 := (hb.cell (p := ⟨w.heap.size, 5, none⟩) lt_x).trans x5
          replace lt_x : w.heap.size < w5.heap.size := Nat.lt_of_lt_of_le lt_x hb.size
          replace y0 := (hb.cell (p := ⟨w.heap.size + 1, 0, none⟩) lt_y).trans y0
          replace y1 := (hb.cell (p := ⟨w.heap.size + 1, 1, none⟩) lt_y).trans y1
          replace y2 := (hb.cell (p := ⟨w.heap.size + 1, 2, none⟩) lt_y).trans y2
          replace y3 := (hb.cell (p := ⟨w.heap.size + 1, 3, none⟩) lt_y).trans y3
          replace y4 := (hb.cell (p := ⟨w.heap.size + 1, 4, none⟩) lt_y).trans y4
          replace y5 := (hb.cell (p := ⟨w.heap.size + 1, 5, none⟩) lt_y).trans y5
          replace lt_y : w.heap.size + 1 < w5.heap.size := Nat.lt_of_lt_of_le lt_y hb.size
          replace z0 := (hb.cell (p := ⟨w3.heap.size, 0, none⟩) lt_z).trans z0
          replace z1 := (hb.cell (p := ⟨w3.heap.size, 1, none⟩) lt_z).trans z1
          replace z2 := (hb.cell (p := ⟨w3.heap.size, 2, none⟩) lt_z).trans z2
          replace z3 := (hb.cell (p := ⟨w3.heap.size, 3, none⟩) lt_z).trans z3
          replace z4 := (hb.cell (p := ⟨w3.heap.size, 4, none⟩) lt_z).trans z4
          replace z5 := (hb.cell (p := ⟨w3.heap.size, 5, none⟩) lt_z).trans z5
          replace lt_z : w3.heap.size < w5.heap.size := Nat.lt_of_lt_of_le lt_z hb.size
          replace u0 := (hb.cell (p := ⟨w4.heap.size, 0, none⟩) lt_u).trans u0
          replace u1 := (hb.cell (p := ⟨w4.heap.size, 1, none⟩) lt_u).trans u1
          replace u2 := (hb.cell (p := ⟨w4.heap.size, 2, none⟩) lt_u).trans u2
          replace u3 := (hb.cell (p := ⟨w4.heap.size, 3, none⟩) lt_u).trans u3
          replace u4 := (hb.cell (p := ⟨w4.heap.size, 4, none⟩) lt_u).trans u4
          replace u5 := (hb.cell (p := ⟨w4.heap.size, 5, none⟩) lt_u).trans u5
          replace lt_u : w4.heap.size < w5.heap.size := Nat.lt_of_lt_of_le lt_u hb.size
          replace TA := Lib.hid (TA.out.up hb)
          replace TD := Lib.hid (TD.out.up hb)
          replace TP := Lib.hid (TP.out.up hb)
          replace TX := Lib.hid (TX.out.up hb)
          replace HW := Lib.hid (HW.out.trans (hb.mono HW.out.size))
          clear hb
          go_wp2_with fail
          obtain ⟨hbX, hsX, hkX⟩ := start_allocs [(#[.int .i64 d.K, .int .i64 d.N, .string d.S, .slice rm d.M.length rcm, .slice rl d.L.length rcl, .slice rt d.T.length rct], 25)] w5
          have g0 := hkX 0 _ rfl
          set_option linter.unusedSimpArgs false in
          simp only [allocs, List.foldl_cons, List.foldl_nil, Nat.add_zero, List.length_cons, List.length_nil, Nat.zero_add, Nat.reduceAdd] at hbX hsX g0
          clear hkX
          generalize w5.alloc (.cells #[.int .i64 d.K, .int .i64 d.N, .string d.S, .slice rm d.M.length rcm, .slice rl d.L.length rcl, .slice rt d.T.length rct] 25) = X3 at *
          have v0 : X3.cell? ⟨w5.heap.size, 0, none⟩ = some (.int .i64 d.K) := (g0.cell 0).trans rfl
          have v1 : X3.cell? ⟨w5.heap.size, 1, none⟩ = some (.int .i64 d.N) := (g0.cell 1).trans rfl
          have v2 : X3.cell? ⟨w5.heap.size, 2, none⟩ = some (.string d.S) := (g0.cell 2).trans rfl
          have v3 : X3.cell? ⟨w5.heap.size, 3, none⟩ = some (.slice rm d.M.length rcm) := (g0.cell 3).trans rfl
          have v4 : X3.cell? ⟨w5.heap.size, 4, none⟩ = some (.slice rl d.L.length rcl) := (g0.cell 4).trans rfl
          have v5 : X3.cell? ⟨w5.heap.size, 5, none⟩ = some (.slice rt d.T.length rct) := (g0.cell 5).trans rfl
          have lt_v : w5.heap.size < X3.heap.size := by omega
          clear g0 hsX
          replace x0 := (hbX.cell (p := ⟨w.heap.size, 0, none⟩) lt_x).trans x0
          replace x1 := (hbX.cell (p := ⟨w.heap.size, 1, none⟩) lt_x).trans x1
          replace x2 := (hbX.cell (p := ⟨w.heap.size, 2, none⟩) lt_x).trans x2
          replace x3 := (hbX.cell (p := ⟨w.heap.size, 3, none⟩) lt_x).trans x3
          replace x4 := (hbX.cell (p := ⟨w.heap.size, 4, none⟩) lt_x).trans x4
          replace x5 := (hbX.cell (p := ⟨w.heap.size, 5, none⟩) lt_x).trans x5
          replace lt_x : w.heap.size < X3.heap.size := Nat.lt_of_lt_of_le lt_x hbX.size
          replace y0 := (hbX.cell (p := ⟨w.heap.size + 1, 0, none⟩) lt_y).trans y0
          replace y1 := (hbX.cell (p := ⟨w.heap.size + 1, 1, none⟩) lt_y).trans y1
          replace y2 := (hbX.cell (p := ⟨w.heap.size + 1, 2, none⟩) lt_y).trans y2
          replace y3 := (hbX.cell (p := ⟨w.heap.size + 1, 3, none⟩) lt_y).trans y3
          replace y4 := (hbX.cell (p := ⟨w.heap.size + 1, 4, none⟩) lt_y).trans y4
          replace y5 := (hbX.cell (p := ⟨w.heap.size + 1, 5, none⟩) lt_y).trans y5
          replace lt_y : w.heap.size + 1 < X3.heap.size := Nat.lt_of_lt_of_le lt_y hbX.size
          replace z0 := (hbX.cell (p := ⟨w3.heap.size, 0, none⟩) lt_z).trans z0
          replace z1 := (hbX.cell (p := ⟨w3.heap.size, 1, none⟩) lt_z).trans z1
          replace z2 := (hbX.cell (p := ⟨w3.heap.size, 2, none⟩) lt_z).trans z2
          replace z3 := (hbX.cell (p := ⟨w3.heap.size, 3, none⟩) lt_z).trans z3
          replace z4 := (hbX.cell (p := ⟨w3.heap.size, 4, none⟩) lt_z).trans z4
          replace z5 := (hbX.cell (p := ⟨w3.heap.size, 5, none⟩) lt_z).trans z5
          replace lt_z : w3.heap.size < X3.heap.size := Nat.lt_of_lt_of_le lt_z hbX.size
          replace u0 := (hbX.cell (p := ⟨w4.heap.size, 0, none⟩) lt_u).trans u0
          replace u1 := (hbX.cell (p := ⟨w4.heap.size, 1, none⟩) lt_u).trans u1
          replace u2 := (hbX.cell (p := ⟨w4.heap.size, 2, none⟩) lt_u).trans u2
          replace u3 := (hbX.cell (p := ⟨w4.heap.size, 3, none⟩) lt_u).trans u3
          replace u4 := (hbX.cell (p := ⟨w4.heap.size, 4, none⟩) lt_u).trans u4
          replace u5 := (hbX.cell (p := ⟨w4.heap.size, 5, none⟩) lt_u).trans u5
          replace lt_u : w4.heap.size < X3.heap.size := Nat.lt_of_lt_of_le lt_u hbX.size
          replace TA := Lib.hid (TA.out.up hbX)
          replace TD := Lib.hid (TD.out.up hbX)
          replace TP := Lib.hid (TP.out.up hbX)
          replace TX := Lib.hid (TX.out.up hbX)
          replace TY := Lib.hid (TY.out.up hbX)
          replace HW := Lib.hid (HW.out.trans (hbX.mono HW.out.size))
          clear hbX
          refine (same_any a a _ _ _ X3 (by exact TX.out) (by exact TA.out) (Nat.le_refl _)).mono ?_
          rintro e w6 ⟨rfl, hb⟩
          rw [(show (chk a == 0 && eqD a a) = true by rw [eqD_refl, Put.out.1]; rfl)]
          replace x0 := (hb.cell (p := ⟨w.heap.size, 0, none⟩) lt_x).trans x0
          replace x1 := (hb.cell (p := ⟨w.heap.size, 1, none⟩) lt_x).trans x1
          replace x2 := (hb.cell (p := ⟨w.heap.size, 2, none⟩) lt_x).trans x2
          replace x3 := (hb.cell (p := ⟨w.heap.size, 3, none⟩) lt_x).trans x3
          replace x4 := (hb.cell (p := ⟨w.heap.size, 4, none⟩) lt_x).trans x4
          replace x5 := (hb.cell (p := ⟨w.heap.size, 5, none⟩) lt_x).trans x5
          replace lt_x : w.heap.size < w6.heap.size := Nat.lt_of_lt_of_le lt_x hb.size
          replace y0 := (hb.cell (p := ⟨w.heap.size + 1, 0, none⟩) lt_y).trans y0
          replace y1 := (hb.cell (p := ⟨w.heap.size + 1, 1, none⟩) lt_y).trans y1
          replace y2 := (hb.cell (p := ⟨w.heap.size + 1, 2, none⟩) lt_y).trans y2
          replace y3 := (hb.cell (p := ⟨w.heap.size + 1, 3, none⟩) lt_y).trans y3
          replace y4 := (hb.cell (p := ⟨w.heap.size + 1, 4, none⟩) lt_y).trans y4
          replace y5 := (hb.cell (p := ⟨w.heap.size + 1, 5, none⟩) lt_y).trans y5
          replace lt_y : w.heap.size + 1 < w6.heap.size := Nat.lt_of_lt_of_le lt_y hb.size
          replace z0 := (hb.cell (p := ⟨w3.heap.size, 0, none⟩) lt_z).trans z0
          replace z1 := (hb.cell (p := ⟨w3.heap.size, 1, none⟩) lt_z).trans z1
          replace z2 := (hb.cell (p := ⟨w3.heap.size, 2, none⟩) lt_z).trans z2
          replace z3 := (hb.cell (p := ⟨w3.heap.size, 3, none⟩) lt_z).trans z3
          replace z4 := (hb.cell (p := ⟨w3.heap.size, 4, none⟩) lt_z).trans z4
          replace z5 := (hb.cell (p := ⟨w3.heap.size, 5, none⟩) lt_z).trans z5
          replace lt_z : w3.heap.size < w6.heap.size := Nat.lt_of_lt_of_le lt_z hb.size
          replace u0 := (hb.cell (p := ⟨w4.heap.size, 0, none⟩) lt_u).trans u0
          replace u1 := (hb.cell (p := ⟨w4.heap.size, 1, none⟩) lt_u).trans u1
          replace u2 := (hb.cell (p := ⟨w4.heap.size, 2, none⟩) lt_u).trans u2
          replace u3 := (hb.cell (p := ⟨w4.heap.size, 3, none⟩) lt_u).trans u3
          replace u4 := (hb.cell (p := ⟨w4.heap.size, 4, none⟩) lt_u).trans u4
          replace u5 := (hb.cell (p := ⟨w4.heap.size, 5, none⟩) lt_u).trans u5
          replace lt_u : w4.heap.size < w6.heap.size := Nat.lt_of_lt_of_le lt_u hb.size
          replace v0 := (hb.cell (p := ⟨w5.heap.size, 0, none⟩) lt_v).trans v0
          replace v1 := (hb.cell (p := ⟨w5.heap.size, 1, none⟩) lt_v).trans v1
          replace v2 := (hb.cell (p := ⟨w5.heap.size, 2, none⟩) lt_v).trans v2
          replace v3 := (hb.cell (p := ⟨w5.heap.size, 3, none⟩) lt_v).trans v3
          replace v4 := (hb.cell (p := ⟨w5.heap.size, 4, none⟩) lt_v).trans v4
          replace v5 := (hb.cell (p := ⟨w5.heap.size, 5, none⟩) lt_v).trans v5
          replace lt_v : w5.heap.size < w6.heap.size := Nat.lt_of_lt_of_le lt_v hb.size
          replace TA := Lib.hid (TA.out.up hb)
          replace TD := Lib.hid (TD.out.up hb)
          replace TP := Lib.hid (TP.out.up hb)
          replace TX := Lib.hid (TX.out.up hb)
          replace TY := Lib.hid (TY.out.up hb)
          replace HW := Lib.hid (HW.out.trans (hb.mono HW.out.size))
          clear hb
          go_wp2_with fail
          refine (same_any d d _ _ _ w6 (by exact TY.out) (by exact TD.out) (Nat.le_refl _)).mono ?_
          rintro e w7 ⟨rfl, hb⟩
          rw [(show (chk d == 0 && eqD d d) = true by rw [eqD_refl, Put.out.2.1]; rfl)]
          replace x0 := (hb.cell (p := ⟨w.heap.size, 0, none⟩) lt_x).trans x0
          replace x1 := (hb.cell (p := ⟨w.heap.size, 1, none⟩) lt_x).trans x1
          replace x2 := (hb.cell (p := ⟨w.heap.size, 2, none⟩) lt_x).trans x2
          replace x3 := (hb.cell (p := ⟨w.heap.size, 3, none⟩) lt_x).trans x3
          replace x4 := (hb.cell (p := ⟨w.heap.size, 4, none⟩) lt_x).trans x4
          replace x5 := (hb.cell (p := ⟨w.heap.size, 5, none⟩) lt_x).trans x5
          replace lt_x : w.heap.size < w7.heap.size := Nat.lt_of_lt_of_le lt_x hb.size
          replace y0 := (hb.cell (p := ⟨w.heap.size + 1, 0, none⟩) lt_y).trans y0
          replace y1 := (hb.cell (p := ⟨w.heap.size + 1, 1, none⟩) lt_y).trans y1
          replace y2 := (hb.cell (p := ⟨w.heap.size + 1, 2, none⟩) lt_y).trans y2
          replace y3 := (hb.cell (p := ⟨w.heap.size + 1, 3, none⟩) lt_y).trans y3
          replace y4 := (hb.cell (p := ⟨w.heap.size + 1, 4, none⟩) lt_y).trans y4
          replace y5 := (hb.cell (p := ⟨w.heap.size + 1, 5, none⟩) lt_y).trans y5
          replace lt_y : w.heap.size + 1 < w7.heap.size := Nat.lt_of_lt_of_le lt_y hb.size
          replace z0 := (hb.cell (p := ⟨w3.heap.size, 0, none⟩) lt_z).trans z0
          replace z1 := (hb.cell (p := ⟨w3.heap.size, 1, none⟩) lt_z).trans z1
          replace z2 := (hb.cell (p := ⟨w3.heap.size, 2, none⟩) lt_z).trans z2
          replace z3 := (hb.cell (p := ⟨w3.heap.size, 3, none⟩) lt_z).trans z3
          replace z4 := (hb.cell (p := ⟨w3.heap.size, 4, none⟩) lt_z).trans z4
          replace z5 := (hb.cell (p := ⟨w3.heap.size, 5, none⟩) lt_z).trans z5
          replace lt_z : w3.heap.size < w7.heap.size := Nat.lt_of_lt_of_le lt_z hb.size
          replace u0 := (hb.cell (p := ⟨w4.heap.size, 0, none⟩) lt_u).trans u0
          replace u1 := (hb.cell (p := ⟨w4.heap.size, 1, none⟩) lt_u).trans u1
          replace u2 := (hb.cell (p := ⟨w4.heap.size, 2, none⟩) lt_u).trans u2
          replace u3 := (hb.cell (p := ⟨w4.heap.size, 3, none⟩) lt_u).trans u3
          replace u4 := (hb.cell (p := ⟨w4.heap.size, 4, none⟩) lt_u).trans u4
          replace u5 := (hb.cell (p := ⟨w4.heap.size, 5, none⟩) lt_u).trans u5
          replace lt_u : w4.heap.size < w7.heap.size := Nat.lt_of_lt_of_le lt_u hb.size
          replace v0 := (hb.cell (p := ⟨w5.heap.size, 0, none⟩) lt_v).trans v0
          replace v1 := (hb.cell (p := ⟨w5.heap.size, 1, none⟩) lt_v).trans v1
          replace v2 := (hb.cell (p := ⟨w5.heap.size, 2, none⟩) lt_v).trans v2
          replace v3 := (hb.cell (p := ⟨w5.heap.size, 3, none⟩) lt_v).trans v3
          replace v4 := (hb.cell (p := ⟨w5.heap.size, 4, none⟩) lt_v).trans v4
          replace v5 := (hb.cell (p := ⟨w5.heap.size, 5, none⟩) lt_v).trans v5
          replace lt_v : w5.heap.size < w7.heap.size := Nat.lt_of_lt_of_le lt_v hb.size
          replace TA := Lib.hid (TA.out.up hb)
          replace TD := Lib.hid (TD.out.up hb)
          replace TP := Lib.hid (TP.out.up hb)
          replace TX := Lib.hid (TX.out.up hb)
          replace TY := Lib.hid (TY.out.up hb)
          replace HW := Lib.hid (HW.out.trans (hb.mono HW.out.size))
          clear hb
          go_wp2_with fail
          refine (car_any d _ _ w7 (by exact TD.out) (Nat.le_refl _)).mono ?_
          rw [Pe.out, Cx.out]
          intro e w8 hr
          obtain ⟨sv, rfl, hb, hz, hi⟩ := hr.lo (Nat.le_refl _)
          replace hi := hi rfl
          clear hz
          have hi2 := hi
          obtain ⟨sm, scm, sl, scl, st, sct, rfl, _⟩ := hi2.open_
          have TS := Lib.hid hi
          clear hi hi2
          replace x0 := (hb.cell (p := ⟨w.heap.size, 0, none⟩) lt_x).trans x0
          replace x1 := (hb.cell (p := ⟨w.heap.size, 1, none⟩) lt_x).trans x1
          replace x2 := (hb.cell (p := ⟨w.heap.size, 2, none⟩) lt_x).trans x2
          replace x3 := (hb.cell (p := ⟨w.heap.size, 3, none⟩) lt_x).trans x3
          replace x4 := (hb.cell (p := ⟨w.heap.size, 4, none⟩) lt_x).trans x4
          replace x5 := (hb.cell (p := ⟨w.heap.size, 5, none⟩) lt_x).trans x5
          replace lt_x : w.heap.size < w8.heap.size := Nat.lt_of_lt_of_le lt_x hb.size
          replace y0 := (hb.cell (p := ⟨w.heap.size + 1, 0, none⟩) lt_y).trans y0
          replace y1 := (hb.cell (p := ⟨w.heap.size + 1, 1, none⟩) lt_y).trans y1
          replace y2 := (hb.cell (p := ⟨w.heap.size + 1, 2, none⟩) lt_y).trans y2
          replace y3 := (hb.cell (p := ⟨w.heap.size + 1, 3, none⟩) lt_y).trans y3
          replace y4 := (hb.cell (p := ⟨w.heap.size + 1, 4, none⟩) lt_y).trans y4
          replace y5 := (hb.cell (p := ⟨w.heap.size + 1, 5, none⟩) lt_y).trans y5
          replace lt_y : w.heap.size + 1 < w8.heap.size := Nat.lt_of_lt_of_le lt_y hb.size
          replace z0 := (hb.cell (p := ⟨w3.heap.size, 0, none⟩) lt_z).trans z0
          replace z1 := (hb.cell (p := ⟨w3.heap.size, 1, none⟩) lt_z).trans z1
          replace z2 := (hb.cell (p := ⟨w3.heap.size, 2, none⟩) lt_z).trans z2
          replace z3 := (hb.cell (p := ⟨w3.heap.size, 3, none⟩) lt_z).trans z3
          replace z4 := (hb.cell (p := ⟨w3.heap.size, 4, none⟩) lt_z).trans z4
          replace z5 := (hb.cell (p := ⟨w3.heap.size, 5, none⟩) lt_z).trans z5
          replace lt_z : w3.heap.size < w8.heap.size := Nat.lt_of_lt_of_le lt_z hb.size
          replace u0 := (hb.cell (p := ⟨w4.heap.size, 0, none⟩) lt_u).trans u0
          replace u1 := (hb.cell (p := ⟨w4.heap.size, 1, none⟩) lt_u).trans u1
          replace u2 := (hb.cell (p := ⟨w4.heap.size, 2, none⟩) lt_u).trans u2
          replace u3 := (hb.cell (p := ⟨w4.heap.size, 3, none⟩) lt_u).trans u3
          replace u4 := (hb.cell (p := ⟨w4.heap.size, 4, none⟩) lt_u).trans u4
          replace u5 := (hb.cell (p := ⟨w4.heap.size, 5, none⟩) lt_u).trans u5
          replace lt_u : w4.heap.size < w8.heap.size := Nat.lt_of_lt_of_le lt_u hb.size
          replace v0 := (hb.cell (p := ⟨w5.heap.size, 0, none⟩) lt_v).trans v0
          replace v1 := (hb.cell (p := ⟨w5.heap.size, 1, none⟩) lt_v).trans v1
          replace v2 := (hb.cell (p := ⟨w5.heap.size, 2, none⟩) lt_v).trans v2
          replace v3 := (hb.cell (p := ⟨w5.heap.size, 3, none⟩) lt_v).trans v3
          replace v4 := (hb.cell (p := ⟨w5.heap.size, 4, none⟩) lt_v).trans v4
          replace v5 := (hb.cell (p := ⟨w5.heap.size, 5, none⟩) lt_v).trans v5
          replace lt_v : w5.heap.size < w8.heap.size := Nat.lt_of_lt_of_le lt_v hb.size
          replace TA := Lib.hid (TA.out.up hb)
          replace TD := Lib.hid (TD.out.up hb)
          replace TP := Lib.hid (TP.out.up hb)
          replace TX := Lib.hid (TX.out.up hb)
          replace TY := Lib.hid (TY.out.up hb)
          replace HW := Lib.hid (HW.out.trans (hb.mono HW.out.size))
          clear hb
          go_wp2_with fail
          obtain ⟨hbX, hsX, hkX⟩ := start_allocs [(#[.int .i64 cx.K, .int .i64 cx.N, .string cx.S, .slice sm cx.M.length scm, .slice sl cx.L.length scl, .slice st cx.T.length sct], 25)] w8
          have g0 := hkX 0 _ rfl
          set_option linter.unusedSimpArgs false in
          simp only [allocs, List.foldl_cons, List.foldl_nil, Nat.add_zero, List.length_cons, List.length_nil, Nat.zero_add, Nat.reduceAdd] at hbX hsX g0
          clear hkX
          generalize w8.alloc (.cells #[.int .i64 cx.K, .int .i64 cx.N, .string cx.S, .slice sm cx.M.length scm, .slice sl cx.L.length scl, .slice st cx.T.length sct] 25) = X4 at *
          have e10 : X4.cell? ⟨w8.heap.size, 0, none⟩ = some (.int .i64 cx.K) := (g0.cell 0).trans rfl
          have e11 : X4.cell? ⟨w8.heap.size, 1, none⟩ = some (.int .i64 cx.N) := (g0.cell 1).trans rfl
          have e12 : X4.cell? ⟨w8.heap.size, 2, none⟩ = some (.string cx.S) := (g0.cell 2).trans rfl
          have e13 : X4.cell? ⟨w8.heap.size, 3, none⟩ = some (.slice sm cx.M.length scm) := (g0.cell 3).trans rfl
          have e14 : X4.cell? ⟨w8.heap.size, 4, none⟩ = some (.slice sl cx.L.length scl) := (g0.cell 4).trans rfl
          have e15 : X4.cell? ⟨w8.heap.size, 5, none⟩ = some (.slice st cx.T.length sct) := (g0.cell 5).trans rfl
          have lt_e1 : w8.heap.size < X4.heap.size := by omega
          clear g0 hsX
          replace x0 := (hbX.cell (p := ⟨w.heap.size, 0, none⟩) lt_x).trans x0
          replace x1 := (hbX.cell (p := ⟨w.heap.size, 1, none⟩) lt_x).trans x1
          replace x2 := (hbX.cell (p := ⟨w.heap.size, 2, none⟩) lt_x).trans x2
          replace x3 := (hbX.cell (p := ⟨w.heap.size, 3, none⟩) lt_x).trans x3
          replace x4 := (hbX.cell (p := ⟨w.heap.size, 4, none⟩) lt_x).trans x4
          replace x5 := (hbX.cell (p := ⟨w.heap.size, 5, none⟩) lt_x).trans x5
          replace lt_x : w.heap.size < X4.heap.size := Nat.lt_of_lt_of_le lt_x hbX.size
          replace y0 := (hbX.cell (p := ⟨w.heap.size + 1, 0, none⟩) lt_y).trans y0
          replace y1 := (hbX.cell (p := ⟨w.heap.size + 1, 1, none⟩) lt_y).trans y1
          replace y2 := (hbX.cell (p := ⟨w.heap.size + 1, 2, none⟩) lt_y).trans y2
          replace y3 := (hbX.cell (p := ⟨w.heap.size + 1, 3, none⟩) lt_y).trans y3
          replace y4 := (hbX.cell (p := ⟨w.heap.size + 1, 4, none⟩) lt_y).trans y4
          replace y5 := (hbX.cell (p := ⟨w.heap.size + 1, 5, none⟩) lt_y).trans y5
          replace lt_y : w.heap.size + 1 < X4.heap.size := Nat.lt_of_lt_of_le lt_y hbX.size
          replace z0 := (hbX.cell (p := ⟨w3.heap.size, 0, none⟩) lt_z).trans z0
          replace z1 := (hbX.cell (p := ⟨w3.heap.size, 1, none⟩) lt_z).trans z1
          replace z2 := (hbX.cell (p := ⟨w3.heap.size, 2, none⟩) lt_z).trans z2
          replace z3 := (hbX.cell (p := ⟨w3.heap.size, 3, none⟩) lt_z).trans z3
          replace z4 := (hbX.cell (p := ⟨w3.heap.size, 4, none⟩) lt_z).trans z4
          replace z5 := (hbX.cell (p := ⟨w3.heap.size, 5, none⟩) lt_z).trans z5
          replace lt_z : w3.heap.size < X4.heap.size := Nat.lt_of_lt_of_le lt_z hbX.size
          replace u0 := (hbX.cell (p := ⟨w4.heap.size, 0, none⟩) lt_u).trans u0
          replace u1 := (hbX.cell (p := ⟨w4.heap.size, 1, none⟩) lt_u).trans u1
          replace u2 := (hbX.cell (p := ⟨w4.heap.size, 2, none⟩) lt_u).trans u2
          replace u3 := (hbX.cell (p := ⟨w4.heap.size, 3, none⟩) lt_u).trans u3
          replace u4 := (hbX.cell (p := ⟨w4.heap.size, 4, none⟩) lt_u).trans u4
          replace u5 := (hbX.cell (p := ⟨w4.heap.size, 5, none⟩) lt_u).trans u5
          replace lt_u : w4.heap.size < X4.heap.size := Nat.lt_of_lt_of_le lt_u hbX.size
          replace v0 := (hbX.cell (p := ⟨w5.heap.size, 0, none⟩) lt_v).trans v0
          replace v1 := (hbX.cell (p := ⟨w5.heap.size, 1, none⟩) lt_v).trans v1
          replace v2 := (hbX.cell (p := ⟨w5.heap.size, 2, none⟩) lt_v).trans v2
          replace v3 := (hbX.cell (p := ⟨w5.heap.size, 3, none⟩) lt_v).trans v3
          replace v4 := (hbX.cell (p := ⟨w5.heap.size, 4, none⟩) lt_v).trans v4
          replace v5 := (hbX.cell (p := ⟨w5.heap.size, 5, none⟩) lt_v).trans v5
          replace lt_v : w5.heap.size < X4.heap.size := Nat.lt_of_lt_of_le lt_v hbX.size
          replace TA := Lib.hid (TA.out.up hbX)
          replace TD := Lib.hid (TD.out.up hbX)
          replace TP := Lib.hid (TP.out.up hbX)
          replace TX := Lib.hid (TX.out.up hbX)
          replace TY := Lib.hid (TY.out.up hbX)
          replace TS := Lib.hid (TS.out.up hbX)
          replace HW := Lib.hid (HW.out.trans (hbX.mono HW.out.size))
          clear hbX
          refine (cdr_any d _ _ X4 (by exact TD.out) (Nat.le_refl _)).mono ?_
          rw [Pe.out, Cy.out]
          intro e w9 hr
          obtain ⟨tv, rfl, hb, hz, hi⟩ := hr.lo (Nat.le_refl _)
          replace hi := hi rfl
          clear hz
          have hi2 := hi
          obtain ⟨tm, tcm, tl, tcl, tt, tct, rfl, _⟩ := hi2.open_
          have TT := Lib.hid hi
          clear hi hi2
          replace x0 := (hb.cell (p := ⟨w.heap.size, 0, none⟩) lt_x).trans x0
          replace x1 := (hb.cell (p := ⟨w.heap.size, 1, none⟩) lt_x).trans x1
          replace x2 := (hb.cell (p := ⟨w.heap.size, 2, none⟩) lt_x).trans x2
          replace x3 := (hb.cell (p := ⟨w.heap.size, 3, none⟩) lt_x).trans x3
          replace x4 := (hb.cell (p := ⟨w.heap.size, 4, none⟩) lt_x).trans x4
          replace x5 := (hb.cell (p := ⟨w.heap.size, 5, none⟩) lt_x).trans x5
          replace lt_x : w.heap.size < w9.heap.size := Nat.lt_of_lt_of_le lt_x hb.size
          replace y0 := (hb.cell (p := ⟨w.heap.size + 1, 0, none⟩) lt_y).trans y0
          replace y1 := (hb.cell (p := ⟨w.heap.size + 1, 1, none⟩) lt_y).trans y1
          replace y2 := (hb.cell (p := ⟨w.heap.size + 1, 2, none⟩) lt_y).trans y2
          replace y3 := (hb.cell (p := ⟨w.heap.size + 1, 3, none⟩) lt_y).trans y3
          replace y4 := (hb.cell (p := ⟨w.heap.size + 1, 4, none⟩) lt_y).trans y4
          replace y5 := (hb.cell (p := ⟨w.heap.size + 1, 5, none⟩) lt_y).trans y5
          replace lt_y : w.heap.size + 1 < w9.heap.size := Nat.lt_of_lt_of_le lt_y hb.size
          replace z0 := (hb.cell (p := ⟨w3.heap.size, 0, none⟩) lt_z).trans z0
          replace z1 := (hb.cell (p := ⟨w3.heap.size, 1, none⟩) lt_z).trans z1
          replace z2 := (hb.cell (p := ⟨w3.heap.size, 2, none⟩) lt_z).trans z2
          replace z3 := (hb.cell (p := ⟨w3.heap.size, 3, none⟩) lt_z).trans z3
          replace z4 := (hb.cell (p := ⟨w3.heap.size, 4, none⟩) lt_z).trans z4
          replace z5 := (hb.cell (p := ⟨w3.heap.size, 5, none⟩) lt_z).trans z5
          replace lt_z : w3.heap.size < w9.heap.size := Nat.lt_of_lt_of_le lt_z hb.size
          replace u0 := (hb.cell (p := ⟨w4.heap.size, 0, none⟩) lt_u).trans u0
          replace u1 := (hb.cell (p := ⟨w4.heap.size, 1, none⟩) lt_u).trans u1
          replace u2 := (hb.cell (p := ⟨w4.heap.size, 2, none⟩) lt_u).trans u2
          replace u3 := (hb.cell (p := ⟨w4.heap.size, 3, none⟩) lt_u).trans u3
          replace u4 := (hb.cell (p := ⟨w4.heap.size, 4, none⟩) lt_u).trans u4
          replace u5 := (hb.cell (p := ⟨w4.heap.size, 5, none⟩) lt_u).trans u5
          replace lt_u : w4.heap.size < w9.heap.size := Nat.lt_of_lt_of_le lt_u hb.size
          replace v0 := (hb.cell (p := ⟨w5.heap.size, 0, none⟩) lt_v).trans v0
          replace v1 := (hb.cell (p := ⟨w5.heap.size, 1, none⟩) lt_v).trans v1
          replace v2 := (hb.cell (p := ⟨w5.heap.size, 2, none⟩) lt_v).trans v2
          replace v3 := (hb.cell (p := ⟨w5.heap.size, 3, none⟩) lt_v).trans v3
          replace v4 := (hb.cell (p := ⟨w5.heap.size, 4, none⟩) lt_v).trans v4
          replace v5 := (hb.cell (p := ⟨w5.heap.size, 5, none⟩) lt_v).trans v5
          replace lt_v : w5.heap.size < w9.heap.size := Nat.lt_of_lt_of_le lt_v hb.size
          replace e10 := (hb.cell (p := ⟨w8.heap.size, 0, none⟩) lt_e1).trans e10
          replace e11 := (hb.cell (p := ⟨w8.heap.size, 1, none⟩) lt_e1).trans e11
          replace e12 := (hb.cell (p := ⟨w8.heap.size, 2, none⟩) lt_e1).trans e12
          replace e13 := (hb.cell (p := ⟨w8.heap.size, 3, none⟩) lt_e1).trans e13
          replace e14 := (hb.cell (p := ⟨w8.heap.size, 4, none⟩) lt_e1).trans e14
          replace e15 := (hb.cell (p := ⟨w8.heap.size, 5, none⟩) lt_e1).trans e15
          replace lt_e1 : w8.heap.size < w9.heap.size := Nat.lt_of_lt_of_le lt_e1 hb.size
          replace TA := Lib.hid (TA.out.up hb)
          replace TD := Lib.hid (TD.out.up hb)
          replace TP := Lib.hid (TP.out.up hb)
          replace TX := Lib.hid (TX.out.up hb)
          replace TY := Lib.hid (TY.out.up hb)
          replace TS := Lib.hid (TS.out.up hb)
          replace HW := Lib.hid (HW.out.trans (hb.mono HW.out.size))
          clear hb
          go_wp2_with fail
          obtain ⟨hbX, hsX, hkX⟩ := start_allocs [(#[.int .i64 cy.K, .int .i64 cy.N, .string cy.S, .slice tm cy.M.length tcm, .slice tl cy.L.length tcl, .slice tt cy.T.length tct], 25)] w9
          have g0 := hkX 0 _ rfl
          set_option linter.unusedSimpArgs false in
          simp only [allocs, List.foldl_cons, List.foldl_nil, Nat.add_zero, List.length_cons, List.length_nil, Nat.zero_add, Nat.reduceAdd] at hbX hsX g0
          clear hkX
          generalize w9.alloc (.cells #[.int .i64 cy.K, .int .i64 cy.N, .string cy.S, .slice tm cy.M.length tcm, .slice tl cy.L.length tcl, .slice tt cy.T.length tct] 25) = X5 at *
          have e20 : X5.cell? ⟨w9.heap.size, 0, none⟩ = some (.int .i64 cy.K) := (g0.cell 0).trans rfl
          have e21 : X5.cell? ⟨w9.heap.size, 1, none⟩ = some (.int .i64 cy.N) := (g0.cell 1).trans rfl
          have e22 : X5.cell? ⟨w9.heap.size, 2, none⟩ = some (.string cy.S) := (g0.cell 2).trans rfl
          have e23 : X5.cell? ⟨w9.heap.size, 3, none⟩ = some (.slice tm cy.M.length tcm) := (g0.cell 3).trans rfl
          have e24 : X5.cell? ⟨w9.heap.size, 4, none⟩ = some (.slice tl cy.L.length tcl) := (g0.cell 4).trans rfl
          have e25 : X5.cell? ⟨w9.heap.size, 5, none⟩ = some (.slice tt cy.T.length tct) := (g0.cell 5).trans rfl
          have lt_e2 : w9.heap.size < X5.heap.size := by omega
          clear g0 hsX
          replace x0 := (hbX.cell (p := ⟨w.heap.size, 0, none⟩) lt_x).trans x0
          replace x1 := (hbX.cell (p := ⟨w.heap.size, 1, none⟩) lt_x).trans x1
          replace x2 := (hbX.cell (p := ⟨w.heap.size, 2, none⟩) lt_x).trans x2
          replace x3 := (hbX.cell (p := ⟨w.heap.size, 3, none⟩) lt_x).trans x3
          replace x4 := (hbX.cell (p := ⟨w.heap.size, 4, none⟩) lt_x).trans x4
          replace x5 := (hbX.cell (p := ⟨w.heap.size, 5, none⟩) lt_x).trans x5
          replace lt_x : w.heap.size < X5.heap.size := Nat.lt_of_lt_of_le lt_x hbX.size
          replace y0 := (hbX.cell (p := ⟨w.heap.size + 1, 0, none⟩) lt_y).trans y0
          replace y1 := (hbX.cell (p := ⟨w.heap.size + 1, 1, none⟩) lt_y).trans y1
          replace y2 := (hbX.cell (p := ⟨w.heap.size + 1, 2, none⟩) lt_y).trans y2
          replace y3 := (hbX.cell (p := ⟨w.heap.size + 1, 3, none⟩) lt_y).trans y3
          replace y4 := (hbX.cell (p := ⟨w.heap.size + 1, 4, none⟩) lt_y).trans y4
          replace y5 := (hbX.cell (p := ⟨w.heap.size + 1, 5, none⟩) lt_y).trans y5
          replace lt_y : w.heap.size + 1 < X5.heap.size := Nat.lt_of_lt_of_le lt_y hbX.size
          replace z0 := (hbX.cell (p := ⟨w3.heap.size, 0, none⟩) lt_z).trans z0
          replace z1 := (hbX.cell (p := ⟨w3.heap.size, 1, none⟩) lt_z).trans z1
          replace z2 := (hbX.cell (p := ⟨w3.heap.size, 2, none⟩) lt_z).trans z2
          replace z3 := (hbX.cell (p := ⟨w3.heap.size, 3, none⟩) lt_z).trans z3
          replace z4 := (hbX.cell (p := ⟨w3.heap.size, 4, none⟩) lt_z).trans z4
          replace z5 := (hbX.cell (p := ⟨w3.heap.size, 5, none⟩) lt_z).trans z5
          replace lt_z : w3.heap.size < X5.heap.size := Nat.lt_of_lt_of_le lt_z hbX.size
          replace u0 := (hbX.cell (p := ⟨w4.heap.size, 0, none⟩) lt_u).trans u0
          replace u1 := (hbX.cell (p := ⟨w4.heap.size, 1, none⟩) lt_u).trans u1
          replace u2 := (hbX.cell (p := ⟨w4.heap.size, 2, none⟩) lt_u).trans u2
          replace u3 := (hbX.cell (p := ⟨w4.heap.size, 3, none⟩) lt_u).trans u3
          replace u4 := (hbX.cell (p := ⟨w4.heap.size, 4, none⟩) lt_u).trans u4
          replace u5 := (hbX.cell (p := ⟨w4.heap.size, 5, none⟩) lt_u).trans u5
          replace lt_u : w4.heap.size < X5.heap.size := Nat.lt_of_lt_of_le lt_u hbX.size
          replace v0 := (hbX.cell (p := ⟨w5.heap.size, 0, none⟩) lt_v).trans v0
          replace v1 := (hbX.cell (p := ⟨w5.heap.size, 1, none⟩) lt_v).trans v1
          replace v2 := (hbX.cell (p := ⟨w5.heap.size, 2, none⟩) lt_v).trans v2
          replace v3 := (hbX.cell (p := ⟨w5.heap.size, 3, none⟩) lt_v).trans v3
          replace v4 := (hbX.cell (p := ⟨w5.heap.size, 4, none⟩) lt_v).trans v4
          replace v5 := (hbX.cell (p := ⟨w5.heap.size, 5, none⟩) lt_v).trans v5
          replace lt_v : w5.heap.size < X5.heap.size := Nat.lt_of_lt_of_le lt_v hbX.size
          replace e10 := (hbX.cell (p := ⟨w8.heap.size, 0, none⟩) lt_e1).trans e10
          replace e11 := (hbX.cell (p := ⟨w8.heap.size, 1, none⟩) lt_e1).trans e11
          replace e12 := (hbX.cell (p := ⟨w8.heap.size, 2, none⟩) lt_e1).trans e12
          replace e13 := (hbX.cell (p := ⟨w8.heap.size, 3, none⟩) lt_e1).trans e13
          replace e14 := (hbX.cell (p := ⟨w8.heap.size, 4, none⟩) lt_e1).trans e14
          replace e15 := (hbX.cell (p := ⟨w8.heap.size, 5, none⟩) lt_e1).trans e15
          replace lt_e1 : w8.heap.size < X5.heap.size := Nat.lt_of_lt_of_le lt_e1 hbX.size
          replace TA := Lib.hid (TA.out.up hbX)
          replace TD := Lib.hid (TD.out.up hbX)
          replace TP := Lib.hid (TP.out.up hbX)
          replace TX := Lib.hid (TX.out.up hbX)
          replace TY := Lib.hid (TY.out.up hbX)
          replace TS := Lib.hid (TS.out.up hbX)
          replace TT := Lib.hid (TT.out.up hbX)
          replace HW := Lib.hid (HW.out.trans (hbX.mono HW.out.size))
          clear hbX
          refine (cons_any cx cy _ _ _ X5 (by exact TS.out) (by exact TT.out) (Nat.le_refl _)).mono ?_
          rw [Take.out.1, Take.out.2]
          intro e w10 hr
          obtain ⟨ov, rfl, hb, hz, hi⟩ := hr.lo (Nat.le_refl _)
          replace hi := hi rfl
          clear hz
          have hi2 := hi
          obtain ⟨om, ocm, ol, ocl, ot, oct, rfl, _⟩ := hi2.open_
          have TO := Lib.hid hi
          clear hi hi2
          replace x0 := (hb.cell (p := ⟨w.heap.size, 0, none⟩) lt_x).trans x0
          replace x1 := (hb.cell (p := ⟨w.heap.size, 1, none⟩) lt_x).trans x1
          replace x2 := (hb.cell (p := ⟨w.heap.size, 2, none⟩) lt_x).trans x2
          replace x3 := (hb.cell (p := ⟨w.heap.size, 3, none⟩) lt_x).trans x3
          replace x4 := (hb.cell (p := ⟨w.heap.size, 4, none⟩) lt_x).trans x4
          replace x5 := (hb.cell (p := ⟨w.heap.size, 5, none⟩) lt_x).trans x5
          replace lt_x : w.heap.size < w10.heap.size := Nat.lt_of_lt_of_le lt_x hb.size
          replace y0 := (hb.cell (p := ⟨w.heap.size + 1, 0, none⟩) lt_y).trans y0
          replace y1 := (hb.cell (p := ⟨w.heap.size + 1, 1, none⟩) lt_y).trans y1
          replace y2 := (hb.cell (p := ⟨w.heap.size + 1, 2, none⟩) lt_y).trans y2
          replace y3 := (hb.cell (p := ⟨w.heap.size + 1, 3, none⟩) lt_y).trans y3
          replace y4 := (hb.cell (p := ⟨w.heap.size + 1, 4, none⟩) lt_y).trans y4
          replace y5 := (hb.cell (p := ⟨w.heap.size + 1, 5, none⟩) lt_y).trans y5
          replace lt_y : w.heap.size + 1 < w10.heap.size := Nat.lt_of_lt_of_le lt_y hb.size
          replace z0 := (hb.cell (p := ⟨w3.heap.size, 0, none⟩) lt_z).trans z0
          replace z1 := (hb.cell (p := ⟨w3.heap.size, 1, none⟩) lt_z).trans z1
          replace z2 := (hb.cell (p := ⟨w3.heap.size, 2, none⟩) lt_z).trans z2
          replace z3 := (hb.cell (p := ⟨w3.heap.size, 3, none⟩) lt_z).trans z3
          replace z4 := (hb.cell (p := ⟨w3.heap.size, 4, none⟩) lt_z).trans z4
          replace z5 := (hb.cell (p := ⟨w3.heap.size, 5, none⟩) lt_z).trans z5
          replace lt_z : w3.heap.size < w10.heap.size := Nat.lt_of_lt_of_le lt_z hb.size
          replace u0 := (hb.cell (p := ⟨w4.heap.size, 0, none⟩) lt_u).trans u0
          replace u1 := (hb.cell (p := ⟨w4.heap.size, 1, none⟩) lt_u).trans u1
          replace u2 := (hb.cell (p := ⟨w4.heap.size, 2, none⟩) lt_u).trans u2
          replace u3 := (hb.cell (p := ⟨w4.heap.size, 3, none⟩) lt_u).trans u3
          replace u4 := (hb.cell (p := ⟨w4.heap.size, 4, none⟩) lt_u).trans u4
          replace u5 := (hb.cell (p := ⟨w4.heap.size, 5, none⟩) lt_u).trans u5
          replace lt_u : w4.heap.size < w10.heap.size := Nat.lt_of_lt_of_le lt_u hb.size
          replace v0 := (hb.cell (p := ⟨w5.heap.size, 0, none⟩) lt_v).trans v0
          replace v1 := (hb.cell (p := ⟨w5.heap.size, 1, none⟩) lt_v).trans v1
          replace v2 := (hb.cell (p := ⟨w5.heap.size, 2, none⟩) lt_v).trans v2
          replace v3 := (hb.cell (p := ⟨w5.heap.size, 3, none⟩) lt_v).trans v3
          replace v4 := (hb.cell (p := ⟨w5.heap.size, 4, none⟩) lt_v).trans v4
          replace v5 := (hb.cell (p := ⟨w5.heap.size, 5, none⟩) lt_v).trans v5
          replace lt_v : w5.heap.size < w10.heap.size := Nat.lt_of_lt_of_le lt_v hb.size
          replace e10 := (hb.cell (p := ⟨w8.heap.size, 0, none⟩) lt_e1).trans e10
          replace e11 := (hb.cell (p := ⟨w8.heap.size, 1, none⟩) lt_e1).trans e11
          replace e12 := (hb.cell (p := ⟨w8.heap.size, 2, none⟩) lt_e1).trans e12
          replace e13 := (hb.cell (p := ⟨w8.heap.size, 3, none⟩) lt_e1).trans e13
          replace e14 := (hb.cell (p := ⟨w8.heap.size, 4, none⟩) lt_e1).trans e14
          replace e15 := (hb.cell (p := ⟨w8.heap.size, 5, none⟩) lt_e1).trans e15
          replace lt_e1 : w8.heap.size < w10.heap.size := Nat.lt_of_lt_of_le lt_e1 hb.size
          replace e20 := (hb.cell (p := ⟨w9.heap.size, 0, none⟩) lt_e2).trans e20
          replace e21 := (hb.cell (p := ⟨w9.heap.size, 1, none⟩) lt_e2).trans e21
          replace e22 := (hb.cell (p := ⟨w9.heap.size, 2, none⟩) lt_e2).trans e22
          replace e23 := (hb.cell (p := ⟨w9.heap.size, 3, none⟩) lt_e2).trans e23
          replace e24 := (hb.cell (p := ⟨w9.heap.size, 4, none⟩) lt_e2).trans e24
          replace e25 := (hb.cell (p := ⟨w9.heap.size, 5, none⟩) lt_e2).trans e25
          replace lt_e2 : w9.heap.size < w10.heap.size := Nat.lt_of_lt_of_le lt_e2 hb.size
          replace TA := Lib.hid (TA.out.up hb)
          replace TD := Lib.hid (TD.out.up hb)
          replace TP := Lib.hid (TP.out.up hb)
          replace TX := Lib.hid (TX.out.up hb)
          replace TY := Lib.hid (TY.out.up hb)
          replace TS := Lib.hid (TS.out.up hb)
          replace TT := Lib.hid (TT.out.up hb)
          replace HW := Lib.hid (HW.out.trans (hb.mono HW.out.size))
          clear hb
          go_wp2_with fail
          obtain ⟨hbX, hsX, hkX⟩ := start_allocs [(#[.int .i64 d.K, .int .i64 d.N, .string d.S, .slice om d.M.length ocm, .slice ol d.L.length ocl, .slice ot d.T.length oct], 25)] w10
          have g0 := hkX 0 _ rfl
          set_option linter.unusedSimpArgs false in
          simp only [allocs, List.foldl_cons, List.foldl_nil, Nat.add_zero, List.length_cons, List.length_nil, Nat.zero_add, Nat.reduceAdd] at hbX hsX g0
          clear hkX
          generalize w10.alloc (.cells #[.int .i64 d.K, .int .i64 d.N, .string d.S, .slice om d.M.length ocm, .slice ol d.L.length ocl, .slice ot d.T.length oct] 25) = X6 at *
          have e30 : X6.cell? ⟨w10.heap.size, 0, none⟩ = some (.int .i64 d.K) := (g0.cell 0).trans rfl
          have e31 : X6.cell? ⟨w10.heap.size, 1, none⟩ = some (.int .i64 d.N) := (g0.cell 1).trans rfl
          have e32 : X6.cell? ⟨w10.heap.size, 2, none⟩ = some (.string d.S) := (g0.cell 2).trans rfl
          have e33 : X6.cell? ⟨w10.heap.size, 3, none⟩ = some (.slice om d.M.length ocm) := (g0.cell 3).trans rfl
          have e34 : X6.cell? ⟨w10.heap.size, 4, none⟩ = some (.slice ol d.L.length ocl) := (g0.cell 4).trans rfl
          have e35 : X6.cell? ⟨w10.heap.size, 5, none⟩ = some (.slice ot d.T.length oct) := (g0.cell 5).trans rfl
          have lt_e3 : w10.heap.size < X6.heap.size := by omega
          clear g0 hsX
          replace x0 := (hbX.cell (p := ⟨w.heap.size, 0, none⟩) lt_x).trans x0
          replace x1 := (hbX.cell (p := ⟨w.heap.size, 1, none⟩) lt_x).trans x1
          replace x2 := (hbX.cell (p := ⟨w.heap.size, 2, none⟩) lt_x).trans x2
          replace x3 := (hbX.cell (p := ⟨w.heap.size, 3, none⟩) lt_x).trans x3
          replace x4 := (hbX.cell (p := ⟨w.heap.size, 4, none⟩) lt_x).trans x4
          replace x5 := (hbX.cell (p := ⟨w.heap.size, 5, none⟩) lt_x).trans x5
          replace lt_x : w.heap.size < X6.heap.size := Nat.lt_of_lt_of_le lt_x hbX.size
          replace y0 := (hbX.cell (p := ⟨w.heap.size + 1, 0, none⟩) lt_y).trans y0
          replace y1 := (hbX.cell (p := ⟨w.heap.size + 1, 1, none⟩) lt_y).trans y1
          replace y2 := (hbX.cell (p := ⟨w.heap.size + 1, 2, none⟩) lt_y).trans y2
          replace y3 := (hbX.cell (p := ⟨w.heap.size + 1, 3, none⟩) lt_y).trans y3
          replace y4 := (hbX.cell (p := ⟨w.heap.size + 1, 4, none⟩) lt_y).trans y4
          replace y5 := (hbX.cell (p := ⟨w.heap.size + 1, 5, none⟩) lt_y).trans y5
          replace lt_y : w.heap.size + 1 < X6.heap.size := Nat.lt_of_lt_of_le lt_y hbX.size
          replace z0 := (hbX.cell (p := ⟨w3.heap.size, 0, none⟩) lt_z).trans z0
          replace z1 := (hbX.cell (p := ⟨w3.heap.size, 1, none⟩) lt_z).trans z1
          replace z2 := (hbX.cell (p := ⟨w3.heap.size, 2, none⟩) lt_z).trans z2
          replace z3 := (hbX.cell (p := ⟨w3.heap.size, 3, none⟩) lt_z).trans z3
          replace z4 := (hbX.cell (p := ⟨w3.heap.size, 4, none⟩) lt_z).trans z4
          replace z5 := (hbX.cell (p := ⟨w3.heap.size, 5, none⟩) lt_z).trans z5
          replace lt_z : w3.heap.size < X6.heap.size := Nat.lt_of_lt_of_le lt_z hbX.size
          replace u0 := (hbX.cell (p := ⟨w4.heap.size, 0, none⟩) lt_u).trans u0
          replace u1 := (hbX.cell (p := ⟨w4.heap.size, 1, none⟩) lt_u).trans u1
          replace u2 := (hbX.cell (p := ⟨w4.heap.size, 2, none⟩) lt_u).trans u2
          replace u3 := (hbX.cell (p := ⟨w4.heap.size, 3, none⟩) lt_u).trans u3
          replace u4 := (hbX.cell (p := ⟨w4.heap.size, 4, none⟩) lt_u).trans u4
          replace u5 := (hbX.cell (p := ⟨w4.heap.size, 5, none⟩) lt_u).trans u5
          replace lt_u : w4.heap.size < X6.heap.size := Nat.lt_of_lt_of_le lt_u hbX.size
          replace v0 := (hbX.cell (p := ⟨w5.heap.size, 0, none⟩) lt_v).trans v0
          replace v1 := (hbX.cell (p := ⟨w5.heap.size, 1, none⟩) lt_v).trans v1
          replace v2 := (hbX.cell (p := ⟨w5.heap.size, 2, none⟩) lt_v).trans v2
          replace v3 := (hbX.cell (p := ⟨w5.heap.size, 3, none⟩) lt_v).trans v3
          replace v4 := (hbX.cell (p := ⟨w5.heap.size, 4, none⟩) lt_v).trans v4
          replace v5 := (hbX.cell (p := ⟨w5.heap.size, 5, none⟩) lt_v).trans v5
          replace lt_v : w5.heap.size < X6.heap.size := Nat.lt_of_lt_of_le lt_v hbX.size
          replace e10 := (hbX.cell (p := ⟨w8.heap.size, 0, none⟩) lt_e1).trans e10
          replace e11 := (hbX.cell (p := ⟨w8.heap.size, 1, none⟩) lt_e1).trans e11
          replace e12 := (hbX.cell (p := ⟨w8.heap.size, 2, none⟩) lt_e1).trans e12
          replace e13 := (hbX.cell (p := ⟨w8.heap.size, 3, none⟩) lt_e1).trans e13
          replace e14 := (hbX.cell (p := ⟨w8.heap.size, 4, none⟩) lt_e1).trans e14
          replace e15 := (hbX.cell (p := ⟨w8.heap.size, 5, none⟩) lt_e1).trans e15
          replace lt_e1 : w8.heap.size < X6.heap.size := Nat.lt_of_lt_of_le lt_e1 hbX.size
          replace e20 := (hbX.cell (p := ⟨w9.heap.size, 0, none⟩) lt_e2).trans e20
          replace e21 := (hbX.cell (p := ⟨w9.heap.size, 1, none⟩) lt_e2).trans e21
          replace e22 := (hbX.cell (p := ⟨w9.heap.size, 2, none⟩) lt_e2).trans e22
          replace e23 := (hbX.cell (p := ⟨w9.heap.size, 3, none⟩) lt_e2).trans e23
          replace e24 := (hbX.cell (p := ⟨w9.heap.size, 4, none⟩) lt_e2).trans e24
          replace e25 := (hbX.cell (p := ⟨w9.heap.size, 5, none⟩) lt_e2).trans e25
          replace lt_e2 : w9.heap.size < X6.heap.size := Nat.lt_of_lt_of_le lt_e2 hbX.size
          replace TA := Lib.hid (TA.out.up hbX)
          replace TD := Lib.hid (TD.out.up hbX)
          replace TP := Lib.hid (TP.out.up hbX)
          replace TX := Lib.hid (TX.out.up hbX)
          replace TY := Lib.hid (TY.out.up hbX)
          replace TS := Lib.hid (TS.out.up hbX)
          replace TT := Lib.hid (TT.out.up hbX)
          replace TO := Lib.hid (TO.out.up hbX)
          replace HW := Lib.hid (HW.out.trans (hbX.mono HW.out.size))
          clear hbX
          refine (same_any d d _ _ _ X6 (by exact TO.out) (by exact TD.out) (Nat.le_refl _)).mono ?_
          rintro e w11 ⟨rfl, hb⟩
          rw [(show (chk d == 0 && eqD d d) = true by rw [eqD_refl, (pairE_zero Pe.out).1]; rfl)]
          replace x0 := (hb.cell (p := ⟨w.heap.size, 0, none⟩) lt_x).trans x0
          replace x1 := (hb.cell (p := ⟨w.heap.size, 1, none⟩) lt_x).trans x1
          replace x2 := (hb.cell (p := ⟨w.heap.size, 2, none⟩) lt_x).trans x2
          replace x3 := (hb.cell (p := ⟨w.heap.size, 3, none⟩) lt_x).trans x3
          replace x4 := (hb.cell (p := ⟨w.heap.size, 4, none⟩) lt_x).trans x4
          replace x5 := (hb.cell (p := ⟨w.heap.size, 5, none⟩) lt_x).trans x5
          replace lt_x : w.heap.size < w11.heap.size := Nat.lt_of_lt_of_le lt_x hb.size
          replace y0 := (hb.cell (p := ⟨w.heap.size + 1, 0, none⟩) lt_y).trans y0
          replace y1 := (hb.cell (p := ⟨w.heap.size + 1, 1, none⟩) lt_y).trans y1
          replace y2 := (hb.cell (p := ⟨w.heap.size + 1, 2, none⟩) lt_y).trans y2
          replace y3 := (hb.cell (p := ⟨w.heap.size + 1, 3, none⟩) lt_y).trans y3
          replace y4 := (hb.cell (p := ⟨w.heap.size + 1, 4, none⟩) lt_y).trans y4
          replace y5 := (hb.cell (p := ⟨w.heap.size + 1, 5, none⟩) lt_y).trans y5
          replace lt_y : w.heap.size + 1 < w11.heap.size := Nat.lt_of_lt_of_le lt_y hb.size
          replace z0 := (hb.cell (p := ⟨w3.heap.size, 0, none⟩) lt_z).trans z0
          replace z1 := (hb.cell (p := ⟨w3.heap.size, 1, none⟩) lt_z).trans z1
          replace z2 := (hb.cell (p := ⟨w3.heap.size, 2, none⟩) lt_z).trans z2
          replace z3 := (hb.cell (p := ⟨w3.heap.size, 3, none⟩) lt_z).trans z3
          replace z4 := (hb.cell (p := ⟨w3.heap.size, 4, none⟩) lt_z).trans z4
          replace z5 := (hb.cell (p := ⟨w3.heap.size, 5, none⟩) lt_z).trans z5
          replace lt_z : w3.heap.size < w11.heap.size := Nat.lt_of_lt_of_le lt_z hb.size
          replace u0 := (hb.cell (p := ⟨w4.heap.size, 0, none⟩) lt_u).trans u0
          replace u1 := (hb.cell (p := ⟨w4.heap.size, 1, none⟩) lt_u).trans u1
          replace u2 := (hb.cell (p := ⟨w4.heap.size, 2, none⟩) lt_u).trans u2
          replace u3 := (hb.cell (p := ⟨w4.heap.size, 3, none⟩) lt_u).trans u3
          replace u4 := (hb.cell (p := ⟨w4.heap.size, 4, none⟩) lt_u).trans u4
          replace u5 := (hb.cell (p := ⟨w4.heap.size, 5, none⟩) lt_u).trans u5
          replace lt_u : w4.heap.size < w11.heap.size := Nat.lt_of_lt_of_le lt_u hb.size
          replace v0 := (hb.cell (p := ⟨w5.heap.size, 0, none⟩) lt_v).trans v0
          replace v1 := (hb.cell (p := ⟨w5.heap.size, 1, none⟩) lt_v).trans v1
          replace v2 := (hb.cell (p := ⟨w5.heap.size, 2, none⟩) lt_v).trans v2
          replace v3 := (hb.cell (p := ⟨w5.heap.size, 3, none⟩) lt_v).trans v3
          replace v4 := (hb.cell (p := ⟨w5.heap.size, 4, none⟩) lt_v).trans v4
          replace v5 := (hb.cell (p := ⟨w5.heap.size, 5, none⟩) lt_v).trans v5
          replace lt_v : w5.heap.size < w11.heap.size := Nat.lt_of_lt_of_le lt_v hb.size
          replace e10 := (hb.cell (p := ⟨w8.heap.size, 0, none⟩) lt_e1).trans e10
          replace e11 := (hb.cell (p := ⟨w8.heap.size, 1, none⟩) lt_e1).trans e11
          replace e12 := (hb.cell (p := ⟨w8.heap.size, 2, none⟩) lt_e1).trans e12
          replace e13 := (hb.cell (p := ⟨w8.heap.size, 3, none⟩) lt_e1).trans e13
          replace e14 := (hb.cell (p := ⟨w8.heap.size, 4, none⟩) lt_e1).trans e14
          replace e15 := (hb.cell (p := ⟨w8.heap.size, 5, none⟩) lt_e1).trans e15
          replace lt_e1 : w8.heap.size < w11.heap.size := Nat.lt_of_lt_of_le lt_e1 hb.size
          replace e20 := (hb.cell (p := ⟨w9.heap.size, 0, none⟩) lt_e2).trans e20
          replace e21 := (hb.cell (p := ⟨w9.heap.size, 1, none⟩) lt_e2).trans e21
          replace e22 := (hb.cell (p := ⟨w9.heap.size, 2, none⟩) lt_e2).trans e22
          replace e23 := (hb.cell (p := ⟨w9.heap.size, 3, none⟩) lt_e2).trans e23
          replace e24 := (hb.cell (p := ⟨w9.heap.size, 4, none⟩) lt_e2).trans e24
          replace e25 := (hb.cell (p := ⟨w9.heap.size, 5, none⟩) lt_e2).trans e25
          replace lt_e2 : w9.heap.size < w11.heap.size := Nat.lt_of_lt_of_le lt_e2 hb.size
          replace e30 := (hb.cell (p := ⟨w10.heap.size, 0, none⟩) lt_e3).trans e30
          replace e31 := (hb.cell (p := ⟨w10.heap.size, 1, none⟩) lt_e3).trans e31
          replace e32 := (hb.cell (p := ⟨w10.heap.size, 2, none⟩) lt_e3).trans e32
          replace e33 := (hb.cell (p := ⟨w10.heap.size, 3, none⟩) lt_e3).trans e33
          replace e34 := (hb.cell (p := ⟨w10.heap.size, 4, none⟩) lt_e3).trans e34
          replace e35 := (hb.cell (p := ⟨w10.heap.size, 5, none⟩) lt_e3).trans e35
          replace lt_e3 : w10.heap.size < w11.heap.size := Nat.lt_of_lt_of_le lt_e3 hb.size
          replace TA := Lib.hid (TA.out.up hb)
          replace TD := Lib.hid (TD.out.up hb)
          replace TP := Lib.hid (TP.out.up hb)
          replace TX := Lib.hid (TX.out.up hb)
          replace TY := Lib.hid (TY.out.up hb)
          replace TS := Lib.hid (TS.out.up hb)
          replace TT := Lib.hid (TT.out.up hb)
          replace TO := Lib.hid (TO.out.up hb)
          replace HW := Lib.hid (HW.out.trans (hb.mono HW.out.size))
          clear hb
          go_wp2_with fail
          go_ret
          exact ⟨rfl, HW.out⟩
        · have dn2 : (pe == 0) = false := by simp [g0]
          have dn3 : (pe != 0) = true := by simp [g0]
          have dn4 : (pe != pe) = false := by simp
          have G0 := Lib.hid g0
          clear g0
          have HW := Lib.hid (bel_refl w)
          go_enter Try.func7, Try.ntmps7
          go_wp2_with fail
          obtain ⟨hbX, hsX, hkX⟩ := start_allocs [(#[.int .i64 a.K, .int .i64 a.N, .string a.S, .slice am a.M.length acm, .slice al a.L.length acl, .slice at' a.T.length act], 25), (#[.int .i64 d.K, .int .i64 d.N, .string d.S, .slice dm d.M.length dcm, .slice dl d.L.length dcl, .slice dt d.T.length dct], 25)] w
          have g0 := hkX 0 _ rfl
          have g1 := hkX 1 _ rfl
          set_option linter.unusedSimpArgs false in
          simp only [allocs, List.foldl_cons, List.foldl_nil, Nat.add_zero, List.length_cons, List.length_nil, Nat.zero_add, Nat.reduceAdd] at hbX hsX g0 g1
          clear hkX
          generalize (w.alloc (.cells #[.int .i64 a.K, .int .i64 a.N, .string a.S, .slice am a.M.length acm, .slice al a.L.length acl, .slice at' a.T.length act] 25)).alloc (.cells #[.int .i64 d.K, .int .i64 d.N, .string d.S, .slice dm d.M.length dcm, .slice dl d.L.length dcl, .slice dt d.T.length dct] 25) = X0 at *
          have x0 : X0.cell? ⟨w.heap.size, 0, none⟩ = some (.int .i64 a.K) := (g0.cell 0).trans rfl
          have x1 : X0.cell? ⟨w.heap.size, 1, none⟩ = some (.int .i64 a.N) := (g0.cell 1).trans rfl
          have x2 : X0.cell? ⟨w.heap.size, 2, none⟩ = some (.string a.S) := (g0.cell 2).trans rfl
          have x3 : X0.cell? ⟨w.heap.size, 3, none⟩ = some (.slice am a.M.length acm) := (g0.cell 3).trans rfl
          have x4 : X0.cell? ⟨w.heap.size, 4, none⟩ = some (.slice al a.L.length acl) := (g0.cell 4).trans rfl
          have x5 : X0.cell? ⟨w.heap.size, 5, none⟩ = some (.slice at' a.T.length act) := (g0.cell 5).trans rfl
          have lt_x : w.heap.size < X0.heap.size := by omega
          have y0 : X0.cell? ⟨w.heap.size + 1, 0, none⟩ = some (.int .i64 d.K) := (g1.cell 0).trans rfl
          have y1 : X0.cell? ⟨w.heap.size + 1, 1, none⟩ = some (.int .i64 d.N) := (g1.cell 1).trans rfl
          have y2 : X0.cell? ⟨w.heap.size + 1, 2, none⟩ = some (.string d.S) := (g1.cell 2).trans rfl
          have y3 : X0.cell? ⟨w.heap.size + 1, 3, none⟩ = some (.slice dm d.M.length dcm) := (g1.cell 3).trans rfl
          have y4 : X0.cell? ⟨w.heap.size + 1, 4, none⟩ = some (.slice dl d.L.length dcl) := (g1.cell 4).trans rfl
          have y5 : X0.cell? ⟨w.heap.size + 1, 5, none⟩ = some (.slice dt d.T.length dct) := (g1.cell 5).trans rfl
          have lt_y : w.heap.size + 1 < X0.heap.size := by omega
          clear g0 g1 hsX
          replace TA := Lib.hid (TA.out.up hbX)
          replace TD := Lib.hid (TD.out.up hbX)
          replace HW := Lib.hid (HW.out.trans (hbX.mono HW.out.size))
          clear hbX
          refine (awake_any X0).mono ?_
          rintro e w0 ⟨rfl, hb⟩
          replace x0 := (hb.cell (p := ⟨w.heap.size, 0, none⟩) lt_x).trans x0
          replace x1 := (hb.cell (p := ⟨w.heap.size, 1, none⟩) lt_x).trans x1
          replace x2 := (hb.cell (p := ⟨w.heap.size, 2, none⟩) lt_x).trans x2
          replace x3 := (hb.cell (p := ⟨w.heap.size, 3, none⟩) lt_x).trans x3
          replace x4 := (hb.cell (p := ⟨w.heap.size, 4, none⟩) lt_x).trans x4
          replace x5 := (hb.cell (p := ⟨w.heap.size, 5, none⟩) lt_x).trans x5
          replace lt_x : w.heap.size < w0.heap.size := Nat.lt_of_lt_of_le lt_x hb.size
          replace y0 := (hb.cell (p := ⟨w.heap.size + 1, 0, none⟩) lt_y).trans y0
          replace y1 := (hb.cell (p := ⟨w.heap.size + 1, 1, none⟩) lt_y).trans y1
          replace y2 := (hb.cell (p := ⟨w.heap.size + 1, 2, none⟩) lt_y).trans y2
          replace y3 := (hb.cell (p := ⟨w.heap.size + 1, 3, none⟩) lt_y).trans y3
          replace y4 := (hb.cell (p := ⟨w.heap.size + 1, 4, none⟩) lt_y).trans y4
          replace y5 := (hb.cell (p := ⟨w.heap.size + 1, 5, none⟩) lt_y).trans y5
          replace lt_y : w.heap.size + 1 < w0.heap.size := Nat.lt_of_lt_of_le lt_y hb.size
          replace TA := Lib.hid (TA.out.up hb)
          replace TD := Lib.hid (TD.out.up hb)
          replace HW := Lib.hid (HW.out.trans (hb.mono HW.out.size))
          clear hb
          go_wp2_with fail
          refine (small_any a _ _ w0 (by exact TA.out) (Nat.le_refl _)).mono ?_
          rintro e w1 ⟨rfl, hb⟩
          rw [Sa.out]
          replace x0 := (hb.cell (p := ⟨w.heap.size, 0, none⟩) lt_x).trans x0
          replace x1 := (hb.cell (p := ⟨w.heap.size, 1, none⟩) lt_x).trans x1
          replace x2 := (hb.cell (p := ⟨w.heap.size, 2, none⟩) lt_x).trans x2
          replace x3 := (hb.cell (p := ⟨w.heap.size, 3, none⟩) lt_x).trans x3
          replace x4 := (hb.cell (p := ⟨w.heap.size, 4, none⟩) lt_x).trans x4
          replace x5 := (hb.cell (p := ⟨w.heap.size, 5, none⟩) lt_x).trans x5
          replace lt_x : w.heap.size < w1.heap.size := Nat.lt_of_lt_of_le lt_x hb.size
          replace y0 := (hb.cell (p := ⟨w.heap.size + 1, 0, none⟩) lt_y).trans y0
          replace y1 := (hb.cell (p := ⟨w.heap.size + 1, 1, none⟩) lt_y).trans y1
          replace y2 := (hb.cell (p := ⟨w.heap.size + 1, 2, none⟩) lt_y).trans y2
          replace y3 := (hb.cell (p := ⟨w.heap.size + 1, 3, none⟩) lt_y).trans y3
          replace y4 := (hb.cell (p := ⟨w.heap.size + 1, 4, none⟩) lt_y).trans y4
          replace y5 := (hb.cell (p := ⟨w.heap.size + 1, 5, none⟩) lt_y).trans y5
          replace lt_y : w.heap.size + 1 < w1.heap.size := Nat.lt_of_lt_of_le lt_y hb.size
          replace TA := Lib.hid (TA.out.up hb)
          replace TD := Lib.hid (TD.out.up hb)
          replace HW := Lib.hid (HW.out.trans (hb.mono HW.out.size))
          clear hb
          go_wp2_with fail
          refine (small_any d _ _ w1 (by exact TD.out) (Nat.le_refl _)).mono ?_
          rintro e w2 ⟨rfl, hb⟩
          rw [Sd.out]
          replace x0 := (hb.cell (p := ⟨w.heap.size, 0, none⟩) lt_x).trans x0
          replace x1 := (hb.cell (p := ⟨w.heap.size, 1, none⟩) lt_x).trans x1
          replace x2 := (hb.cell (p := ⟨w.heap.size, 2, none⟩) lt_x).trans x2
          replace x3 := (hb.cell (p := ⟨w.heap.size, 3, none⟩) lt_x).trans x3
          replace x4 := (hb.cell (p := ⟨w.heap.size, 4, none⟩) lt_x).trans x4
          replace x5 := (hb.cell (p := ⟨w.heap.size, 5, none⟩) lt_x).trans x5
          replace lt_x : w.heap.size < w2.heap.size := Nat.lt_of_lt_of_le lt_x hb.size
          replace y0 := (hb.cell (p := ⟨w.heap.size + 1, 0, none⟩) lt_y).trans y0
          replace y1 := (hb.cell (p := ⟨w.heap.size + 1, 1, none⟩) lt_y).trans y1
          replace y2 := (hb.cell (p := ⟨w.heap.size + 1, 2, none⟩) lt_y).trans y2
          replace y3 := (hb.cell (p := ⟨w.heap.size + 1, 3, none⟩) lt_y).trans y3
          replace y4 := (hb.cell (p := ⟨w.heap.size + 1, 4, none⟩) lt_y).trans y4
          replace y5 := (hb.cell (p := ⟨w.heap.size + 1, 5, none⟩) lt_y).trans y5
          replace lt_y : w.heap.size + 1 < w2.heap.size := Nat.lt_of_lt_of_le lt_y hb.size
          replace TA := Lib.hid (TA.out.up hb)
          replace TD := Lib.hid (TD.out.up hb)
          replace HW := Lib.hid (HW.out.trans (hb.mono HW.out.size))
          clear hb
          go_wp2_with fail
          refine (cons_any a d _ _ _ w2 (by exact TA.out) (by exact TD.out) (Nat.le_refl _)).mono ?_
          rw [Ce.out, Pd.out]
          intro e w3 hr
          obtain ⟨pv, rfl, hb, hz, hi⟩ := hr.lo (Nat.le_refl _)
          replace hi := hi rfl
          clear hz
          have hi2 := hi
          obtain ⟨pm, pcm, pl, pcl, pt, pct, rfl, _⟩ := hi2.open_
          have TP := Lib.hid hi
          clear hi hi2
          replace x0 := (hb.cell (p := ⟨w.heap.size, 0, none⟩) lt_x).trans x0
          replace x1 := (hb.cell (p := ⟨w.heap.size, 1, none⟩) lt_x).trans x1
          replace x2 := (hb.cell (p := ⟨w.heap.size, 2, none⟩) lt_x).trans x2
          replace x3 := (hb.cell (p := ⟨w.heap.size, 3, none⟩) lt_x).trans x3
          replace x4 := (hb.cell (p := ⟨w.heap.size, 4, none⟩) lt_x).trans x4
          replace x5 := (hb.cell (p := ⟨w.heap.size, 5, none⟩) lt_x).trans x5
          replace lt_x : w.heap.size < w3.heap.size := Nat.lt_of_lt_of_le lt_x hb.size
          replace y0 := (hb.cell (p := ⟨w.heap.size + 1, 0, none⟩) lt_y).trans y0
          replace y1 := (hb.cell (p := ⟨w.heap.size + 1, 1, none⟩) lt_y).trans y1
          replace y2 := (hb.cell (p := ⟨w.heap.size + 1, 2, none⟩) lt_y).trans y2
          replace y3 := (hb.cell (p := ⟨w.heap.size + 1, 3, none⟩) lt_y).trans y3
          replace y4 := (hb.cell (p := ⟨w.heap.size + 1, 4, none⟩) lt_y).trans y4
          replace y5 := (hb.cell (p := ⟨w.heap.size + 1, 5, none⟩) lt_y).trans y5
          replace lt_y : w.heap.size + 1 < w3.heap.size := Nat.lt_of_lt_of_le lt_y hb.size
          replace TA := Lib.hid (TA.out.up hb)
          replace TD := Lib.hid (TD.out.up hb)
          replace HW := Lib.hid (HW.out.trans (hb.mono HW.out.size))
          clear hb
          go_wp2_with fail
          obtain ⟨hbX, hsX, hkX⟩ := start_allocs [(#[.int .i64 pd.K, .int .i64 pd.N, .string pd.S, .slice pm pd.M.length pcm, .slice pl pd.L.length pcl, .slice pt pd.T.length pct], 25)] w3
          have g0 := hkX 0 _ rfl
          set_option linter.unusedSimpArgs false in
          simp only [allocs, List.foldl_cons, List.foldl_nil, Nat.add_zero, List.length_cons, List.length_nil, Nat.zero_add, Nat.reduceAdd] at hbX hsX g0
          clear hkX
          generalize w3.alloc (.cells #[.int .i64 pd.K, .int .i64 pd.N, .string pd.S, .slice pm pd.M.length pcm, .slice pl pd.L.length pcl, .slice pt pd.T.length pct] 25) = X1 at *
          have z0 : X1.cell? ⟨w3.heap.size, 0, none⟩ = some (.int .i64 pd.K) := (g0.cell 0).trans rfl
          have z1 : X1.cell? ⟨w3.heap.size, 1, none⟩ = some (.int .i64 pd.N) := (g0.cell 1).trans rfl
          have z2 : X1.cell? ⟨w3.heap.size, 2, none⟩ = some (.string pd.S) := (g0.cell 2).trans rfl
          have z3 : X1.cell? ⟨w3.heap.size, 3, none⟩ = some (.slice pm pd.M.length pcm) := (g0.cell 3).trans rfl
          have z4 : X1.cell? ⟨w3.heap.size, 4, none⟩ = some (.slice pl pd.L.length pcl) := (g0.cell 4).trans rfl
          have z5 : X1.cell? ⟨w3.heap.size, 5, none⟩ = some (.slice pt pd.T.length pct) := (g0.cell 5).trans rfl
          have lt_z : w3.heap.size < X1.heap.size := by omega
          clear g0 hsX
          replace x0 := (hbX.cell (p := ⟨w.heap.size, 0, none⟩) lt_x).trans x0
          replace x1 := (hbX.cell (p := ⟨w.heap.size, 1, none⟩) lt_x).trans x1
          replace x2 := (hbX.cell (p := ⟨w.heap.size, 2, none⟩) lt_x).trans x2
          replace x3 := (hbX.cell (p := ⟨w.heap.size, 3, none⟩) lt_x).trans x3
          replace x4 := (hbX.cell (p := ⟨w.heap.size, 4, none⟩) lt_x).trans x4
          replace x5 := (hbX.cell (p := ⟨w.heap.size, 5, none⟩) lt_x).trans x5
          replace lt_x : w.heap.size < X1.heap.size := Nat.lt_of_lt_of_le lt_x hbX.size
          replace y0 := (hbX.cell (p := ⟨w.heap.size + 1, 0, none⟩) lt_y).trans y0
          replace y1 := (hbX.cell (p := ⟨w.heap.size + 1, 1, none⟩) lt_y).trans y1
          replace y2 := (hbX.cell (p := ⟨w.heap.size + 1, 2, none⟩) lt_y).trans y2
          replace y3 := (hbX.cell (p := ⟨w.heap.size + 1, 3, none⟩) lt_y).trans y3
          replace y4 := (hbX.cell (p := ⟨w.heap.size + 1, 4, none⟩) lt_y).trans y4
          replace y5 := (hbX.cell (p := ⟨w.heap.size + 1, 5, none⟩) lt_y).trans y5
          replace lt_y : w.heap.size + 1 < X1.heap.size := Nat.lt_of_lt_of_le lt_y hbX.size
          replace TA := Lib.hid (TA.out.up hbX)
          replace TD := Lib.hid (TD.out.up hbX)
          replace TP := Lib.hid (TP.out.up hbX)
          replace HW := Lib.hid (HW.out.trans (hbX.mono HW.out.size))
          clear hbX
          refine (car_any pd _ _ X1 (by exact TP.out) (Nat.le_refl _)).mono ?_
          rw [Put.out.2.2.1, Put.out.2.2.2.1]
          intro e w4 hr
          obtain ⟨qv, rfl, hb, hz, hi⟩ := hr.lo (Nat.le_refl _)
          replace hi := hi rfl
          clear hz
          have hi2 := hi
          obtain ⟨qm, qcm, ql, qcl, qt, qct, rfl, _⟩ := hi2.open_
          have TX := Lib.hid hi
          clear hi hi2
          replace x0 := (hb.cell (p := ⟨w.heap.size, 0, none⟩) lt_x).trans x0
          replace x1 := (hb.cell (p := ⟨w.heap.size, 1, none⟩) lt_x).trans x1
          replace x2 := (hb.cell (p := ⟨w.heap.size, 2, none⟩) lt_x).trans x2
          replace x3 := (hb.cell (p := ⟨w.heap.size, 3, none⟩) lt_x).trans x3
          replace x4 := (hb.cell (p := ⟨w.heap.size, 4, none⟩) lt_x).trans x4
          replace x5 := (hb.cell (p := ⟨w.heap.size, 5, none⟩) lt_x).trans x5
          replace lt_x : w.heap.size < w4.heap.size := Nat.lt_of_lt_of_le lt_x hb.size
          replace y0 := (hb.cell (p := ⟨w.heap.size + 1, 0, none⟩) lt_y).trans y0
          replace y1 := (hb.cell (p := ⟨w.heap.size + 1, 1, none⟩) lt_y).trans y1
          replace y2 := (hb.cell (p := ⟨w.heap.size + 1, 2, none⟩) lt_y).trans y2
          replace y3 := (hb.cell (p := ⟨w.heap.size + 1, 3, none⟩) lt_y).trans y3
          replace y4 := (hb.cell (p := ⟨w.heap.size + 1, 4, none⟩) lt_y).trans y4
          replace y5 := (hb.cell (p := ⟨w.heap.size + 1, 5, none⟩) lt_y).trans y5
          replace lt_y : w.heap.size + 1 < w4.heap.size := Nat.lt_of_lt_of_le lt_y hb.size
          replace z0 := (hb.cell (p := ⟨w3.heap.size, 0, none⟩) lt_z).trans z0
          replace z1 := (hb.cell (p := ⟨w3.heap.size, 1, none⟩) lt_z).trans z1
          replace z2 := (hb.cell (p := ⟨w3.heap.size, 2, none⟩) lt_z).trans z2
          replace z3 := (hb.cell (p := ⟨w3.heap.size, 3, none⟩) lt_z).trans z3
          replace z4 := (hb.cell (p := ⟨w3.heap.size, 4, none⟩) lt_z).trans z4
          replace z5 := (hb.cell (p := ⟨w3.heap.size, 5, none⟩) lt_z).trans z5
          replace lt_z : w3.heap.size < w4.heap.size := Nat.lt_of_lt_of_le lt_z hb.size
          replace TA := Lib.hid (TA.out.up hb)
          replace TD := Lib.hid (TD.out.up hb)
          replace TP := Lib.hid (TP.out.up hb)
          replace HW := Lib.hid (HW.out.trans (hb.mono HW.out.size))
          clear hb
          go_wp2_with fail
          obtain ⟨hbX, hsX, hkX⟩ := start_allocs [(#[.int .i64 a.K, .int .i64 a.N, .string a.S, .slice qm a.M.length qcm, .slice ql a.L.length qcl, .slice qt a.T.length qct], 25)] w4
          have g0 := hkX 0 _ rfl
          set_option linter.unusedSimpArgs false in
          simp only [allocs, List.foldl_cons, List.foldl_nil, Nat.add_zero, List.length_cons, List.length_nil, Nat.zero_add, Nat.reduceAdd] at hbX hsX g0
          clear hkX
          generalize w4.alloc (.cells #[.int .i64 a.K, .int .i64 a.N, .string a.S, .slice qm a.M.length qcm, .slice ql a.L.length qcl, .slice qt a.T.length qct] 25) = X2 at *
          have u0 : X2.cell? ⟨w4.heap.size, 0, none⟩ = some (.int .i64 a.K) := (g0.cell 0).trans rfl
          have u1 : X2.cell? ⟨w4.heap.size, 1, none⟩ = some (.int .i64 a.N) := (g0.cell 1).trans rfl
          have u2 : X2.cell? ⟨w4.heap.size, 2, none⟩ = some (.string a.S) := (g0.cell 2).trans rfl
          have u3 : X2.cell? ⟨w4.heap.size, 3, none⟩ = some (.slice qm a.M.length qcm) := (g0.cell 3).trans rfl
          have u4 : X2.cell? ⟨w4.heap.size, 4, none⟩ = some (.slice ql a.L.length qcl) := (g0.cell 4).trans rfl
          have u5 : X2.cell? ⟨w4.heap.size, 5, none⟩ = some (.slice qt a.T.length qct) := (g0.cell 5).trans rfl
          have lt_u : w4.heap.size < X2.heap.size := by omega
          clear g0 hsX
          replace x0 := (hbX.cell (p := ⟨w.heap.size, 0, none⟩) lt_x).trans x0
          replace x1 := (hbX.cell (p := ⟨w.heap.size, 1, none⟩) lt_x).trans x1
          replace x2 := (hbX.cell (p := ⟨w.heap.size, 2, none⟩) lt_x).trans x2
          replace x3 := (hbX.cell (p := ⟨w.heap.size, 3, none⟩) lt_x).trans x3
          replace x4 := (hbX.cell (p := ⟨w.heap.size, 4, none⟩) lt_x).trans x4
          replace x5 := (hbX.cell (p := ⟨w.heap.size, 5, none⟩) lt_x).trans x5
          replace lt_x : w.heap.size < X2.heap.size := Nat.lt_of_lt_of_le lt_x hbX.size
          replace y0 := (hbX.cell (p := ⟨w.heap.size + 1, 0, none⟩) lt_y).trans y0
          replace y1 := (hbX.cell (p := ⟨w.heap.size + 1, 1, none⟩) lt_y).trans y1
          replace y2 := (hbX.cell (p := ⟨w.heap.size + 1, 2, none⟩) lt_y).trans y2
          replace y3 := (hbX.cell (p := ⟨w.heap.size + 1, 3, none⟩) lt_y).trans y3
          replace y4 := (hbX.cell (p := ⟨w.heap.size + 1, 4, none⟩) lt_y).trans y4
          replace y5 := (hbX.cell (p := ⟨w.heap.size + 1, 5, none⟩) lt_y).trans y5
          replace lt_y : w.heap.size + 1 < X2.heap.size := Nat.lt_of_lt_of_le lt_y hbX.size
          replace z0 := (hbX.cell (p := ⟨w3.heap.size, 0, none⟩) lt_z).trans z0
          replace z1 := (hbX.cell (p := ⟨w3.heap.size, 1, none⟩) lt_z).trans z1
          replace z2 := (hbX.cell (p := ⟨w3.heap.size, 2, none⟩) lt_z).trans z2
          replace z3 := (hbX.cell (p := ⟨w3.heap.size, 3, none⟩) lt_z).trans z3
          replace z4 := (hbX.cell (p := ⟨w3.heap.size, 4, none⟩) lt_z).trans z4
          replace z5 := (hbX.cell (p := ⟨w3.heap.size, 5, none⟩) lt_z).trans z5
          replace lt_z : w3.heap.size < X2.heap.size := Nat.lt_of_lt_of_le lt_z hbX.size
          replace TA := Lib.hid (TA.out.up hbX)
          replace TD := Lib.hid (TD.out.up hbX)
          replace TP := Lib.hid (TP.out.up hbX)
          replace TX := Lib.hid (TX.out.up hbX)
          replace HW := Lib.hid (HW.out.trans (hbX.mono HW.out.size))
          clear hbX
          refine (cdr_any pd _ _ X2 (by exact TP.out) (Nat.le_refl _)).mono ?_
          rw [Put.out.2.2.1, Put.out.2.2.2.2]
          intro e w5 hr
          obtain ⟨rv, rfl, hb, hz, hi⟩ := hr.lo (Nat.le_refl _)
          replace hi := hi rfl
          clear hz
          have hi2 := hi
          obtain ⟨rm, rcm, rl, rcl, rt, rct, rfl, _⟩ := hi2.open_
          have TY := Lib.hid hi
          clear hi hi2
          replace x0 := (hb.cell (p := ⟨w.heap.size, 0, none⟩) lt_x).trans x0
          replace x1 := (hb.cell (p := ⟨w.heap.size, 1, none⟩) lt_x).trans x1
          replace x2 := (hb.cell (p := ⟨w.heap.size, 2, none⟩) lt_x).trans x2
          replace x3 := (hb.cell (p := ⟨w.heap.size, 3, none⟩) lt_x).trans x3
          replace x4 := (hb.cell (p := ⟨w.heap.size, 4, none⟩) lt_x).trans x4
          replace x5 := (hb.cell (p := ⟨w.heap.size, 5, none⟩) lt_x).trans x5
          replace lt_x : w.heap.size < w5.heap.size := Nat.lt_of_lt_of_le lt_x hb.size
          replace y0 := (hb.cell (p := ⟨w.heap.size + 1, 0, none⟩) lt_y).trans y0
          replace y1 := (hb.cell (p := ⟨w.heap.size + 1, 1, none⟩) lt_y).trans y1
          replace y2 := (hb.cell (p := ⟨w.heap.size + 1, 2, none⟩) lt_y).trans y2
          replace y3 := (hb.cell (p := ⟨w.heap.size + 1, 3, none⟩) lt_y).trans y3
          replace y4 := (hb.cell (p := ⟨w.heap.size + 1, 4, none⟩) lt_y).trans y4
          replace y5 := (hb.cell (p := ⟨w.heap.size + 1, 5, none⟩) lt_y).trans y5
          replace lt_y : w.heap.size + 1 < w5.heap.size := Nat.lt_of_lt_of_le lt_y hb.size
          replace z0 := (hb.cell (p := ⟨w3.heap.size, 0, none⟩) lt_z).trans z0
          replace z1 := (hb.cell (p := ⟨w3.heap.size, 1, none⟩) lt_z).trans z1
          replace z2 := (hb.cell (p := ⟨w3.heap.size, 2, none⟩) lt_z).trans z2
          replace z3 := (hb.cell (p := ⟨w3.heap.size, 3, none⟩) lt_z).trans z3
          replace z4 := (hb.cell (p := ⟨w3.heap.size, 4, none⟩) lt_z).trans z4
          replace z5 := (hb.cell (p := ⟨w3.heap.size, 5, none⟩) lt_z).trans z5
          replace lt_z : w3.heap.size < w5.heap.size := Nat.lt_of_lt_of_le lt_z hb.size
          replace u0 := (hb.cell (p := ⟨w4.heap.size, 0, none⟩) lt_u).trans u0
          replace u1 := (hb.cell (p := ⟨w4.heap.size, 1, none⟩) lt_u).trans u1
          replace u2 := (hb.cell (p := ⟨w4.heap.size, 2, none⟩) lt_u).trans u2
          replace u3 := (hb.cell (p := ⟨w4.heap.size, 3, none⟩) lt_u).trans u3
          replace u4 := (hb.cell (p := ⟨w4.heap.size, 4, none⟩) lt_u).trans u4
          replace u5 := (hb.cell (p := ⟨w4.heap.size, 5, none⟩) lt_u).trans u5
          replace lt_u : w4.heap.size < w5.heap.size := Nat.lt_of_lt_of_le lt_u hb.size
          replace TA := Lib.hid (TA.out.up hb)
          replace TD := Lib.hid (TD.out.up hb)
          replace TP := Lib.hid (TP.out.up hb)
          replace TX := Lib.hid (TX.out.up hb)
          replace HW := Lib.hid (HW.out.trans (hb.mono HW.out.size))
          clear hb
          go_wp2_with fail
          obtain ⟨hbX, hsX, hkX⟩ := start_allocs [(#[.int .i64 d.K, .int .i64 d.N, .string d.S, .slice rm d.M.length rcm, .slice rl d.L.length rcl, .slice rt d.T.length rct], 25)] w5
          have g0 := hkX 0 _ rfl
          set_option linter.unusedSimpArgs false in
          simp only [allocs, List.foldl_cons, List.foldl_nil, Nat.add_zero, List.length_cons, List.length_nil, Nat.zero_add, Nat.reduceAdd] at hbX hsX g0
          clear hkX
          generalize w5.alloc (.cells #[.int .i64 d.K, .int .i64 d.N, .string d.S, .slice rm d.M.length rcm, .slice rl d.L.length rcl, .slice rt d.T.length rct] 25) = X3 at *
          have v0 : X3.cell? ⟨w5.heap.size, 0, none⟩ = some (.int .i64 d.K) := (g0.cell 0).trans rfl
          have v1 : X3.cell? ⟨w5.heap.size, 1, none⟩ = some (.int .i64 d.N) := (g0.cell 1).trans rfl
          have v2 : X3.cell? ⟨w5.heap.size, 2, none⟩ = some (.string d.S) := (g0.cell 2).trans rfl
          have v3 : X3.cell? ⟨w5.heap.size, 3, none⟩ = some (.slice rm d.M.length rcm) := (g0.cell 3).trans rfl
          have v4 : X3.cell? ⟨w5.heap.size, 4, none⟩ = some (.slice rl d.L.length rcl) := (g0.cell 4).trans rfl
          have v5 : X3.cell? ⟨w5.heap.size, 5, none⟩ = some (.slice rt d.T.length rct) := (g0.cell 5).trans rfl
          have lt_v : w5.heap.size < X3.heap.size := by omega
          clear g0 hsX
          replace x0 := (hbX.cell (p := ⟨w.heap.size, 0, none⟩) lt_x).trans x0
          replace x1 := (hbX.cell (p := ⟨w.heap.size, 1, none⟩) lt_x).trans x1
          replace x2 := (hbX.cell (p := ⟨w.heap.size, 2, none⟩) lt_x).trans x2
          replace x3 := (hbX.cell (p := ⟨w.heap.size, 3, none⟩) lt_x).trans x3
          replace x4 := (hbX.cell (p := ⟨w.heap.size, 4, none⟩) lt_x).trans x4
          replace x5 := (hbX.cell (p := ⟨w.heap.size, 5, none⟩) lt_x).trans x5
          replace lt_x : w.heap.size < X3.heap.size := Nat.lt_of_lt_of_le lt_x hbX.size
          replace y0 := (hbX.cell (p := ⟨w.heap.size + 1, 0, none⟩) lt_y).trans y0
          replace y1 := (hbX.cell (p := ⟨w.heap.size + 1, 1, none⟩) lt_y).trans y1
          replace y2 := (hbX.cell (p := ⟨w.heap.size + 1, 2, none⟩) lt_y).trans y2
          replace y3 := (hbX.cell (p := ⟨w.heap.size + 1, 3, none⟩) lt_y).trans y3
          replace y4 := (hbX.cell (p := ⟨w.heap.size + 1, 4, none⟩) lt_y).trans y4
          replace y5 := (hbX.cell (p := ⟨w.heap.size + 1, 5, none⟩) lt_y).trans y5
          replace lt_y : w.heap.size + 1 < X3.heap.size := Nat.lt_of_lt_of_le lt_y hbX.size
          replace z0 := (hbX.cell (p := ⟨w3.heap.size, 0, none⟩) lt_z).trans z0
          replace z1 := (hbX.cell (p := ⟨w3.heap.size, 1, none⟩) lt_z).trans z1
          replace z2 := (hbX.cell (p := ⟨w3.heap.size, 2, none⟩) lt_z).trans z2
          replace z3 := (hbX.cell (p := ⟨w3.heap.size, 3, none⟩) lt_z).trans z3
          replace z4 := (hbX.cell (p := ⟨w3.heap.size, 4, none⟩) lt_z).trans z4
          replace z5 := (hbX.cell (p := ⟨w3.heap.size, 5, none⟩) lt_z).trans z5
          replace lt_z : w3.heap.size < X3.heap.size := Nat.lt_of_lt_of_le lt_z hbX.size
          replace u0 := (hbX.cell (p := ⟨w4.heap.size, 0, none⟩) lt_u).trans u0
          replace u1 := (hbX.cell (p := ⟨w4.heap.size, 1, none⟩) lt_u).trans u1
          replace u2 := (hbX.cell (p := ⟨w4.heap.size, 2, none⟩) lt_u).trans u2
          replace u3 := (hbX.cell (p := ⟨w4.heap.size, 3, none⟩) lt_u).trans u3
          replace u4 := (hbX.cell (p := ⟨w4.heap.size, 4, none⟩) lt_u).trans u4
          replace u5 := (hbX.cell (p := ⟨w4.heap.size, 5, none⟩) lt_u).trans u5
          replace lt_u : w4.heap.size < X3.heap.size := Nat.lt_of_lt_of_le lt_u hbX.size
          replace TA := Lib.hid (TA.out.up hbX)
          replace TD := Lib.hid (TD.out.up hbX)
          replace TP := Lib.hid (TP.out.up hbX)
          replace TX := Lib.hid (TX.out.up hbX)
          replace TY := Lib.hid (TY.out.up hbX)
          replace HW := Lib.hid (HW.out.trans (hbX.mono HW.out.size))
          clear hbX
          refine (same_any a a _ _ _ X3 (by exact TX.out) (by exact TA.out) (Nat.le_refl _)).mono ?_
          rintro e w6 ⟨rfl, hb⟩
          rw [(show (chk a == 0 && eqD a a) = true by rw [eqD_refl, Put.out.1]; rfl)]
          replace x0 := (hb.cell (p := ⟨w.heap.size, 0, none⟩) lt_x).trans x0
          replace x1 := (hb.cell (p := ⟨w.heap.size, 1, none⟩) lt_x).trans x1
          replace x2 := (hb.cell (p := ⟨w.heap.size, 2, none⟩) lt_x).trans x2
          replace x3 := (hb.cell (p := ⟨w.heap.size, 3, none⟩) lt_x).trans x3
          replace x4 := (hb.cell (p := ⟨w.heap.size, 4, none⟩) lt_x).trans x4
          replace x5 := (hb.cell (p := ⟨w.heap.size, 5, none⟩) lt_x).trans x5
          replace lt_x : w.heap.size < w6.heap.size := Nat.lt_of_lt_of_le lt_x hb.size
          replace y0 := (hb.cell (p := ⟨w.heap.size + 1, 0, none⟩) lt_y).trans y0
          replace y1 := (hb.cell (p := ⟨w.heap.size + 1, 1, none⟩) lt_y).trans y1
          replace y2 := (hb.cell (p := ⟨w.heap.size + 1, 2, none⟩) lt_y).trans y2
          replace y3 := (hb.cell (p := ⟨w.heap.size + 1, 3, none⟩) lt_y).trans y3
          replace y4 := (hb.cell (p := ⟨w.heap.size + 1, 4, none⟩) lt_y).trans y4
          replace y5 := (hb.cell (p := ⟨w.heap.size + 1, 5, none⟩) lt_y).trans y5
          replace lt_y : w.heap.size + 1 < w6.heap.size := Nat.lt_of_lt_of_le lt_y hb.size
          replace z0 := (hb.cell (p := ⟨w3.heap.size, 0, none⟩) lt_z).trans z0
          replace z1 := (hb.cell (p := ⟨w3.heap.size, 1, none⟩) lt_z).trans z1
          replace z2 := (hb.cell (p := ⟨w3.heap.size, 2, none⟩) lt_z).trans z2
          replace z3 := (hb.cell (p := ⟨w3.heap.size, 3, none⟩) lt_z).trans z3
          replace z4 := (hb.cell (p := ⟨w3.heap.size, 4, none⟩) lt_z).trans z4
          replace z5 := (hb.cell (p := ⟨w3.heap.size, 5, none⟩) lt_z).trans z5
          replace lt_z : w3.heap.size < w6.heap.size := Nat.lt_of_lt_of_le lt_z hb.size
          replace u0 := (hb.cell (p := ⟨w4.heap.size, 0, none⟩) lt_u).trans u0
          replace u1 := (hb.cell (p := ⟨w4.heap.size, 1, none⟩) lt_u).trans u1
          replace u2 := (hb.cell (p := ⟨w4.heap.size, 2, none⟩) lt_u).trans u2
          replace u3 := (hb.cell (p := ⟨w4.heap.size, 3, none⟩) lt_u).trans u3
          replace u4 := (hb.cell (p := ⟨w4.heap.size, 4, none⟩) lt_u).trans u4
          replace u5 := (hb.cell (p := ⟨w4.heap.size, 5, none⟩) lt_u).trans u5
          replace lt_u : w4.heap.size < w6.heap.size := Nat.lt_of_lt_of_le lt_u hb.size
          replace v0 := (hb.cell (p := ⟨w5.heap.size, 0, none⟩) lt_v).trans v0
          replace v1 := (hb.cell (p := ⟨w5.heap.size, 1, none⟩) lt_v).trans v1
          replace v2 := (hb.cell (p := ⟨w5.heap.size, 2, none⟩) lt_v).trans v2
          replace v3 := (hb.cell (p := ⟨w5.heap.size, 3, none⟩) lt_v).trans v3
          replace v4 := (hb.cell (p := ⟨w5.heap.size, 4, none⟩) lt_v).trans v4
          replace v5 := (hb.cell (p := ⟨w5.heap.size, 5, none⟩) lt_v).trans v5
          replace lt_v : w5.heap.size < w6.heap.size := Nat.lt_of_lt_of_le lt_v hb.size
          replace TA := Lib.hid (TA.out.up hb)
          replace TD := Lib.hid (TD.out.up hb)
          replace TP := Lib.hid (TP.out.up hb)
          replace TX := Lib.hid (TX.out.up hb)
          replace TY := Lib.hid (TY.out.up hb)
          replace HW := Lib.hid (HW.out.trans (hb.mono HW.out.size))
          clear hb
          go_wp2_with fail
          refine (same_any d d _ _ _ w6 (by exact TY.out) (by exact TD.out) (Nat.le_refl _)).mono ?_
          rintro e w7 ⟨rfl, hb⟩
          rw [(show (chk d == 0 && eqD d d) = true by rw [eqD_refl, Put.out.2.1]; rfl)]
          replace x0 := (hb.cell (p := ⟨w.heap.size, 0, none⟩) lt_x).trans x0
          replace x1 := (hb.cell (p := ⟨w.heap.size, 1, none⟩) lt_x).trans x1
          replace x2 := (hb.cell (p := ⟨w.heap.size, 2, none⟩) lt_x).trans x2
          replace x3 := (hb.cell (p := ⟨w.heap.size, 3, none⟩) lt_x).trans x3
          replace x4 := (hb.cell (p := ⟨w.heap.size, 4, none⟩) lt_x).trans x4
          replace x5 := (hb.cell (p := ⟨w.heap.size, 5, none⟩) lt_x).trans x5
          replace lt_x : w.heap.size < w7.heap.size := Nat.lt_of_lt_of_le lt_x hb.size
          replace y0 := (hb.cell (p := ⟨w.heap.size + 1, 0, none⟩) lt_y).trans y0
          replace y1 := (hb.cell (p := ⟨w.heap.size + 1, 1, none⟩) lt_y).trans y1
          replace y2 := (hb.cell (p := ⟨w.heap.size + 1, 2, none⟩) lt_y).trans y2
          replace y3 := (hb.cell (p := ⟨w.heap.size + 1, 3, none⟩) lt_y).trans y3
          replace y4 := (hb.cell (p := ⟨w.heap.size + 1, 4, none⟩) lt_y).trans y4
          replace y5 := (hb.cell (p := ⟨w.heap.size + 1, 5, none⟩) lt_y).trans y5
          replace lt_y : w.heap.size + 1 < w7.heap.size := Nat.lt_of_lt_of_le lt_y hb.size
          replace z0 := (hb.cell (p := ⟨w3.heap.size, 0, none⟩) lt_z).trans z0
          replace z1 := (hb.cell (p := ⟨w3.heap.size, 1, none⟩) lt_z).trans z1
          replace z2 := (hb.cell (p := ⟨w3.heap.size, 2, none⟩) lt_z).trans z2
          replace z3 := (hb.cell (p := ⟨w3.heap.size, 3, none⟩) lt_z).trans z3
          replace z4 := (hb.cell (p := ⟨w3.heap.size, 4, none⟩) lt_z).trans z4
          replace z5 := (hb.cell (p := ⟨w3.heap.size, 5, none⟩) lt_z).trans z5
          replace lt_z : w3.heap.size < w7.heap.size := Nat.lt_of_lt_of_le lt_z hb.size
          replace u0 := (hb.cell (p := ⟨w4.heap.size, 0, none⟩) lt_u).trans u0
          replace u1 := (hb.cell (p := ⟨w4.heap.size, 1, none⟩) lt_u).trans u1
          replace u2 := (hb.cell (p := ⟨w4.heap.size, 2, none⟩) lt_u).trans u2
          replace u3 := (hb.cell (p := ⟨w4.heap.size, 3, none⟩) lt_u).trans u3
          replace u4 := (hb.cell (p := ⟨w4.heap.size, 4, none⟩) lt_u).trans u4
          replace u5 := (hb.cell (p := ⟨w4.heap.size, 5, none⟩) lt_u).trans u5
          replace lt_u : w4.heap.size < w7.heap.size := Nat.lt_of_lt_of_le lt_u hb.size
          replace v0 := (hb.cell (p := ⟨w5.heap.size, 0, none⟩) lt_v).trans v0
          replace v1 := (hb.cell (p := ⟨w5.heap.size, 1, none⟩) lt_v).trans v1
          replace v2 := (hb.cell (p := ⟨w5.heap.size, 2, none⟩) lt_v).trans v2
          replace v3 := (hb.cell (p := ⟨w5.heap.size, 3, none⟩) lt_v).trans v3
          replace v4 := (hb.cell (p := ⟨w5.heap.size, 4, none⟩) lt_v).trans v4
          replace v5 := (hb.cell (p := ⟨w5.heap.size, 5, none⟩) lt_v).trans v5
          replace lt_v : w5.heap.size < w7.heap.size := Nat.lt_of_lt_of_le lt_v hb.size
          replace TA := Lib.hid (TA.out.up hb)
          replace TD := Lib.hid (TD.out.up hb)
          replace TP := Lib.hid (TP.out.up hb)
          replace TX := Lib.hid (TX.out.up hb)
          replace TY := Lib.hid (TY.out.up hb)
          replace HW := Lib.hid (HW.out.trans (hb.mono HW.out.size))
          clear hb
          go_wp2_with fail
          refine (car_any d _ _ w7 (by exact TD.out) (Nat.le_refl _)).mono ?_
          rw [Pe.out, Cx.out]
          intro e w8 hr
          obtain ⟨sv, rfl, hb, hz, hi⟩ := hr.lo (Nat.le_refl _)
          have hv := hz G0.out
          clear hi hz
          subst hv
          simp only [zeroV]
          replace x0 := (hb.cell (p := ⟨w.heap.size, 0, none⟩) lt_x).trans x0
          replace x1 := (hb.cell (p := ⟨w.heap.size, 1, none⟩) lt_x).trans x1
          replace x2 := (hb.cell (p := ⟨w.heap.size, 2, none⟩) lt_x).trans x2
          replace x3 := (hb.cell (p := ⟨w.heap.size, 3, none⟩) lt_x).trans x3
          replace x4 := (hb.cell (p := ⟨w.heap.size, 4, none⟩) lt_x).trans x4
          replace x5 := (hb.cell (p := ⟨w.heap.size, 5, none⟩) lt_x).trans x5
          replace lt_x : w.heap.size < w8.heap.size := Nat.lt_of_lt_of_le lt_x hb.size
          replace y0 := (hb.cell (p := ⟨w.heap.size + 1, 0, none⟩) lt_y).trans y0
          replace y1 := (hb.cell (p := ⟨w.heap.size + 1, 1, none⟩) lt_y).trans y1
          replace y2 := (hb.cell (p := ⟨w.heap.size + 1, 2, none⟩) lt_y).trans y2
          replace y3 := (hb.cell (p := ⟨w.heap.size + 1, 3, none⟩) lt_y).trans y3
          replace y4 := (hb.cell (p := ⟨w.heap.size + 1, 4, none⟩) lt_y).trans y4
          replace y5 := (hb.cell (p := ⟨w.heap.size + 1, 5, none⟩) lt_y).trans y5
          replace lt_y : w.heap.size + 1 < w8.heap.size := Nat.lt_of_lt_of_le lt_y hb.size
          replace z0 := (hb.cell (p := ⟨w3.heap.size, 0, none⟩) lt_z).trans z0
          replace z1 := (hb.cell (p := ⟨w3.heap.size, 1, none⟩) lt_z).trans z1
          replace z2 := (hb.cell (p := ⟨w3.heap.size, 2, none⟩) lt_z).trans z2
          replace z3 := (hb.cell (p := ⟨w3.heap.size, 3, none⟩) lt_z).trans z3
          replace z4 := (hb.cell (p := ⟨w3.heap.size, 4, none⟩) lt_z).trans z4
          replace z5 := (hb.cell (p := ⟨w3.heap.size, 5, none⟩) lt_z).trans z5
          replace lt_z : w3.heap.size < w8.heap.size := Nat.lt_of_lt_of_le lt_z hb.size
          replace u0 := (hb.cell (p := ⟨w4.heap.size, 0, none⟩) lt_u).trans u0
          replace u1 := (hb.cell (p := ⟨w4.heap.size, 1, none⟩) lt_u).trans u1
          replace u2 := (hb.cell (p := ⟨w4.heap.size, 2, none⟩) lt_u).trans u2
          replace u3 := (hb.cell (p := ⟨w4.heap.size, 3, none⟩) lt_u).trans u3
          replace u4 := (hb.cell (p := ⟨w4.heap.size, 4, none⟩) lt_u).trans u4
          replace u5 := (hb.cell (p := ⟨w4.heap.size, 5, none⟩) lt_u).trans u5
          replace lt_u : w4.heap.size < w8.heap.size := Nat.lt_of_lt_of_le lt_u hb.size
          replace v0 := (hb.cell (p := ⟨w5.heap.size, 0, none⟩) lt_v).trans v0
          replace v1 := (hb.cell (p := ⟨w5.heap.size, 1, none⟩) lt_v).trans v1
          replace v2 := (hb.cell (p := ⟨w5.heap.size, 2, none⟩) lt_v).trans v2
          replace v3 := (hb.cell (p := ⟨w5.heap.size, 3, none⟩) lt_v).trans v3
          replace v4 := (hb.cell (p := ⟨w5.heap.size, 4, none⟩) lt_v).trans v4
          replace v5 := (hb.cell (p := ⟨w5.heap.size, 5, none⟩) lt_v).trans v5
          replace lt_v : w5.heap.size < w8.heap.size := Nat.lt_of_lt_of_le lt_v hb.size
          replace TA := Lib.hid (TA.out.up hb)
          replace TD := Lib.hid (TD.out.up hb)
          replace TP := Lib.hid (TP.out.up hb)
          replace TX := Lib.hid (TX.out.up hb)
          replace TY := Lib.hid (TY.out.up hb)
          replace HW := Lib.hid (HW.out.trans (hb.mono HW.out.size))
          clear hb
          go_wp2_with fail
          obtain ⟨hbX, hsX, hkX⟩ := start_allocs [(#[.int .i64 0, .int .i64 0, .string ⟨#[]⟩, .slice none 0 0, .slice none 0 0, .slice none 0 0], 25)] w8
          have g0 := hkX 0 _ rfl
          set_option linter.unusedSimpArgs false in
          simp only [allocs, List.foldl_cons, List.foldl_nil, Nat.add_zero, List.length_cons, List.length_nil, Nat.zero_add, Nat.reduceAdd] at hbX hsX g0
          clear hkX
          generalize w8.alloc (.cells #[.int .i64 0, .int .i64 0, .string ⟨#[]⟩, .slice none 0 0, .slice none 0 0, .slice none 0 0] 25) = X4 at *
          have e10 : X4.cell? ⟨w8.heap.size, 0, none⟩ = some (.int .i64 0) := (g0.cell 0).trans rfl
          have e11 : X4.cell? ⟨w8.heap.size, 1, none⟩ = some (.int .i64 0) := (g0.cell 1).trans rfl
          have e12 : X4.cell? ⟨w8.heap.size, 2, none⟩ = some (.string ⟨#[]⟩) := (g0.cell 2).trans rfl
          have e13 : X4.cell? ⟨w8.heap.size, 3, none⟩ = some (.slice none 0 0) := (g0.cell 3).trans rfl
          have e14 : X4.cell? ⟨w8.heap.size, 4, none⟩ = some (.slice none 0 0) := (g0.cell 4).trans rfl
          have e15 : X4.cell? ⟨w8.heap.size, 5, none⟩ = some (.slice none 0 0) := (g0.cell 5).trans rfl
          have lt_e1 : w8.heap.size < X4.heap.size := by omega
          clear g0 hsX
          replace x0 := (hbX.cell (p := ⟨w.heap.size, 0, none⟩) lt_x).trans x0
          replace x1 := (hbX.cell (p := ⟨w.heap.size, 1, none⟩) lt_x).trans x1
          replace x2 := (hbX.cell (p := ⟨w.heap.size, 2, none⟩) lt_x).trans x2
          replace x3 := (hbX.cell (p := ⟨w.heap.size, 3, none⟩) lt_x).trans x3
          replace x4 := (hbX.cell (p := ⟨w.heap.size, 4, none⟩) lt_x).trans x4
          replace x5 := (hbX.cell (p := ⟨w.heap.size, 5, none⟩) lt_x).trans x5
          replace lt_x : w.heap.size < X4.heap.size := Nat.lt_of_lt_of_le lt_x hbX.size
          replace y0 := (hbX.cell (p := ⟨w.heap.size + 1, 0, none⟩) lt_y).trans y0
          replace y1 := (hbX.cell (p := ⟨w.heap.size + 1, 1, none⟩) lt_y).trans y1
          replace y2 := (hbX.cell (p := ⟨w.heap.size + 1, 2, none⟩) lt_y).trans y2
          replace y3 := (hbX.cell (p := ⟨w.heap.size + 1, 3, none⟩) lt_y).trans y3
          replace y4 := (hbX.cell (p := ⟨w.heap.size + 1, 4, none⟩) lt_y).trans y4
          replace y5 := (hbX.cell (p := ⟨w.heap.size + 1, 5, none⟩) lt_y).trans y5
          replace lt_y : w.heap.size + 1 < X4.heap.size := Nat.lt_of_lt_of_le lt_y hbX.size
          replace z0 := (hbX.cell (p := ⟨w3.heap.size, 0, none⟩) lt_z).trans z0
          replace z1 := (hbX.cell (p := ⟨w3.heap.size, 1, none⟩) lt_z).trans z1
          replace z2 := (hbX.cell (p := ⟨w3.heap.size, 2, none⟩) lt_z).trans z2
          replace z3 := (hbX.cell (p := ⟨w3.heap.size, 3, none⟩) lt_z).trans z3
          replace z4 := (hbX.cell (p := ⟨w3.heap.size, 4, none⟩) lt_z).trans z4
          replace z5 := (hbX.cell (p := ⟨w3.heap.size, 5, none⟩) lt_z).trans z5
          replace lt_z : w3.heap.size < X4.heap.size := Nat.lt_of_lt_of_le lt_z hbX.size
          replace u0 := (hbX.cell (p := ⟨w4.heap.size, 0, none⟩) lt_u).trans u0
          replace u1 := (hbX.cell (p := ⟨w4.heap.size, 1, none⟩) lt_u).trans u1
          replace u2 := (hbX.cell (p := ⟨w4.heap.size, 2, none⟩) lt_u).trans u2
          replace u3 := (hbX.cell (p := ⟨w4.heap.size, 3, none⟩) lt_u).trans u3
          replace u4 := (hbX.cell (p := ⟨w4.heap.size, 4, none⟩) lt_u).trans u4
          replace u5 := (hbX.cell (p := ⟨w4.heap.size, 5, none⟩) lt_u).trans u5
          replace lt_u : w4.heap.size < X4.heap.size := Nat.lt_of_lt_of_le lt_u hbX.size
          replace v0 := (hbX.cell (p := ⟨w5.heap.size, 0, none⟩) lt_v).trans v0
          replace v1 := (hbX.cell (p := ⟨w5.heap.size, 1, none⟩) lt_v).trans v1
          replace v2 := (hbX.cell (p := ⟨w5.heap.size, 2, none⟩) lt_v).trans v2
          replace v3 := (hbX.cell (p := ⟨w5.heap.size, 3, none⟩) lt_v).trans v3
          replace v4 := (hbX.cell (p := ⟨w5.heap.size, 4, none⟩) lt_v).trans v4
          replace v5 := (hbX.cell (p := ⟨w5.heap.size, 5, none⟩) lt_v).trans v5
          replace lt_v : w5.heap.size < X4.heap.size := Nat.lt_of_lt_of_le lt_v hbX.size
          replace TA := Lib.hid (TA.out.up hbX)
          replace TD := Lib.hid (TD.out.up hbX)
          replace TP := Lib.hid (TP.out.up hbX)
          replace TX := Lib.hid (TX.out.up hbX)
          replace TY := Lib.hid (TY.out.up hbX)
          replace HW := Lib.hid (HW.out.trans (hbX.mono HW.out.size))
          clear hbX
          refine (cdr_any d _ _ X4 (by exact TD.out) (Nat.le_refl _)).mono ?_
          rw [Pe.out, Cy.out]
          intro e w9 hr
          obtain ⟨tv, rfl, hb, hz, hi⟩ := hr.lo (Nat.le_refl _)
          have hv := hz G0.out
          clear hi hz
          subst hv
          simp only [zeroV]
          replace x0 := (hb.cell (p := ⟨w.heap.size, 0, none⟩) lt_x).trans x0
          replace x1 := (hb.cell (p := ⟨w.heap.size, 1, none⟩) lt_x).trans x1
          replace x2 := (hb.cell (p := ⟨w.heap.size, 2, none⟩) lt_x).trans x2
          replace x3 := (hb.cell (p := ⟨w.heap.size, 3, none⟩) lt_x).trans x3
          replace x4 := (hb.cell (p := ⟨w.heap.size, 4, none⟩) lt_x).trans x4
          replace x5 := (hb.cell (p := ⟨w.heap.size, 5, none⟩) lt_x).trans x5
          replace lt_x : w.heap.size < w9.heap.size := Nat.lt_of_lt_of_le lt_x hb.size
          replace y0 := (hb.cell (p := ⟨w.heap.size + 1, 0, none⟩) lt_y).trans y0
          replace y1 := (hb.cell (p := ⟨w.heap.size + 1, 1, none⟩) lt_y).trans y1
          replace y2 := (hb.cell (p := ⟨w.heap.size + 1, 2, none⟩) lt_y).trans y2
          replace y3 := (hb.cell (p := ⟨w.heap.size + 1, 3, none⟩) lt_y).trans y3
          replace y4 := (hb.cell (p := ⟨w.heap.size + 1, 4, none⟩) lt_y).trans y4
          replace y5 := (hb.cell (p := ⟨w.heap.size + 1, 5, none⟩) lt_y).trans y5
          replace lt_y : w.heap.size + 1 < w9.heap.size := Nat.lt_of_lt_of_le lt_y hb.size
          replace z0 := (hb.cell (p := ⟨w3.heap.size, 0, none⟩) lt_z).trans z0
          replace z1 := (hb.cell (p := ⟨w3.heap.size, 1, none⟩) lt_z).trans z1
          replace z2 := (hb.cell (p := ⟨w3.heap.size, 2, none⟩) lt_z).trans z2
          replace z3 := (hb.cell (p := ⟨w3.heap.size, 3, none⟩) lt_z).trans z3
          replace z4 := (hb.cell (p := ⟨w3.heap.size, 4, none⟩) lt_z).trans z4
          replace z5 := (hb.cell (p := ⟨w3.heap.size, 5, none⟩) lt_z).trans z5
          replace lt_z : w3.heap.size < w9.heap.size := Nat.lt_of_lt_of_le lt_z hb.size
          replace u0 := (hb.cell (p := ⟨w4.heap.size, 0, none⟩) lt_u).trans u0
          replace u1 := (hb.cell (p := ⟨w4.heap.size, 1, none⟩) lt_u).trans u1
          replace u2 := (hb.cell (p := ⟨w4.heap.size, 2, none⟩) lt_u).trans u2
          replace u3 := (hb.cell (p := ⟨w4.heap.size, 3, none⟩) lt_u).trans u3
          replace u4 := (hb.cell (p := ⟨w4.heap.size, 4, none⟩) lt_u).trans u4
          replace u5 := (hb.cell (p := ⟨w4.heap.size, 5, none⟩) lt_u).trans u5
          replace lt_u : w4.heap.size < w9.heap.size := Nat.lt_of_lt_of_le lt_u hb.size
          replace v0 := (hb.cell (p := ⟨w5.heap.size, 0, none⟩) lt_v).trans v0
          replace v1 := (hb.cell (p := ⟨w5.heap.size, 1, none⟩) lt_v).trans v1
          replace v2 := (hb.cell (p := ⟨w5.heap.size, 2, none⟩) lt_v).trans v2
          replace v3 := (hb.cell (p := ⟨w5.heap.size, 3, none⟩) lt_v).trans v3
          replace v4 := (hb.cell (p := ⟨w5.heap.size, 4, none⟩) lt_v).trans v4
          replace v5 := (hb.cell (p := ⟨w5.heap.size, 5, none⟩) lt_v).trans v5
          replace lt_v : w5.heap.size < w9.heap.size := Nat.lt_of_lt_of_le lt_v hb.size
          replace e10 := (hb.cell (p := ⟨w8.heap.size, 0, none⟩) lt_e1).trans e10
          replace e11 := (hb.cell (p := ⟨w8.heap.size, 1, none⟩) lt_e1).trans e11
          replace e12 := (hb.cell (p := ⟨w8.heap.size, 2, none⟩) lt_e1).trans e12
          replace e13 := (hb.cell (p := ⟨w8.heap.size, 3, none⟩) lt_e1).trans e13
          replace e14 := (hb.cell (p := ⟨w8.heap.size, 4, none⟩) lt_e1).trans e14
          replace e15 := (hb.cell (p := ⟨w8.heap.size, 5, none⟩) lt_e1).trans e15
          replace lt_e1 : w8.heap.size < w9.heap.size := Nat.lt_of_lt_of_le lt_e1 hb.size
          replace TA := Lib.hid (TA.out.up hb)
          replace TD := Lib.hid (TD.out.up hb)
          replace TP := Lib.hid (TP.out.up hb)
          replace TX := Lib.hid (TX.out.up hb)
          replace TY := Lib.hid (TY.out.up hb)
          replace HW := Lib.hid (HW.out.trans (hb.mono HW.out.size))
          clear hb
          go_wp2_with fail
          go_ret
          exact ⟨rfl, HW.out.trans ((bel_alloc _ _).mono HW.out.size)⟩
      · have dn : (ce == 0) = false := by simp [h0]
        have H0 := Lib.hid h0
        clear h0
        by_cases g0 : pe = 0
        · subst g0
          replace Take := Lib.hid (Take.out rfl)
          have HW := Lib.hid (bel_refl w)
          go_enter Try.func7, Try.ntmps7
          go_wp2_with fail
          obtain ⟨hbX, hsX, hkX⟩ := start_allocs [(#[.int .i64 a.K, .int .i64 a.N, .string a.S, .slice am a.M.length acm, .slice al a.L.length acl, .slice at' a.T.length act], 25), (#[.int .i64 d.K, .int .i64 d.N, .string d.S, .slice dm d.M.length dcm, .slice dl d.L.length dcl, .slice dt d.T.length dct], 25)] w
          have g0 := hkX 0 _ rfl
          have g1 := hkX 1 _ rfl
          set_option linter.unusedSimpArgs false in
          simp only [allocs, List.foldl_cons, List.foldl_nil, Nat.add_zero, List.length_cons, List.length_nil, Nat.zero_add, Nat.reduceAdd] at hbX hsX g0 g1
          clear hkX
          generalize (w.alloc (.cells #[.int .i64 a.K, .int .i64 a.N, .string a.S, .slice am a.M.length acm, .slice al a.L.length acl, .slice at' a.T.length act] 25)).alloc (.cells #[.int .i64 d.K, .int .i64 d.N, .string d.S, .slice dm d.M.length dcm, .slice dl d.L.length dcl, .slice dt d.T.length dct] 25) = X0 at *
          have x0 : X0.cell? ⟨w.heap.size, 0, none⟩ = some (.int .i64 a.K) := (g0.cell 0).trans rfl
          have x1 : X0.cell? ⟨w.heap.size, 1, none⟩ = some (.int .i64 a.N) := (g0.cell 1).trans rfl
          have x2 : X0.cell? ⟨w.heap.size, 2, none⟩ = some (.string a.S) := (g0.cell 2).trans rfl
          have x3 : X0.cell? ⟨w.heap.size, 3, none⟩ = some (.slice am a.M.length acm) := (g0.cell 3).trans rfl
          have x4 : X0.cell? ⟨w.heap.size, 4, none⟩ = some (.slice al a.L.length acl) := (g0.cell 4).trans rfl
          have x5 : X0.cell? ⟨w.heap.size, 5, none⟩ = some (.slice at' a.T.length act) := (g0.cell 5).trans rfl
          have lt_x : w.heap.size < X0.heap.size := by omega
          have y0 : X0.cell? ⟨w.heap.size + 1, 0, none⟩ = some (.int .i64 d.K) := (g1.cell 0).trans rfl
          have y1 : X0.cell? ⟨w.heap.size + 1, 1, none⟩ = some (.int .i64 d.N) := (g1.cell 1).trans rfl
          have y2 : X0.cell? ⟨w.heap.size + 1, 2, none⟩ = some (.string d.S) := (g1.cell 2).trans rfl
          have y3 : X0.cell? ⟨w.heap.size + 1, 3, none⟩ = some (.slice dm d.M.length dcm) := (g1.cell 3).trans rfl
          have y4 : X0.cell? ⟨w.heap.size + 1, 4, none⟩ = some (.slice dl d.L.length dcl) := (g1.cell 4).trans rfl
          have y5 : X0.cell? ⟨w.heap.size + 1, 5, none⟩ = some (.slice dt d.T.length dct) := (g1.cell 5).trans rfl
          have lt_y : w.heap.size + 1 < X0.heap.size := by omega
          clear g0 g1 hsX
          replace TA := Lib.hid (TA.out.up hbX)
          replace TD := Lib.hid (TD.out.up hbX)
          replace HW := Lib.hid (HW.out.trans (hbX.mono HW.out.size))
          clear hbX
          refine (awake_any X0).mono ?_
          rintro e w0 ⟨rfl, hb⟩
          replace x0 := (hb.cell (p := ⟨w.heap.size, 0, none⟩) lt_x).trans x0
          replace x1 := (hb.cell (p := ⟨w.heap.size, 1, none⟩) lt_x).trans x1
          replace x2 := (hb.cell (p := ⟨w.heap.size, 2, none⟩) lt_x).trans x2
          replace x3 := (hb.cell (p := ⟨w.heap.size, 3, none⟩) lt_x).trans x3
          replace x4 := (hb.cell (p := ⟨w.heap.size, 4, none⟩) lt_x).trans x4
          replace x5 := (hb.cell (p := ⟨w.heap.size, 5, none⟩) lt_x).trans x5
          replace lt_x : w.heap.size < w0.heap.size := Nat.lt_of_lt_of_le lt_x hb.size
          replace y0 := (hb.cell (p := ⟨w.heap.size + 1, 0, none⟩) lt_y).trans y0
          replace y1 := (hb.cell (p := ⟨w.heap.size + 1, 1, none⟩) lt_y).trans y1
          replace y2 := (hb.cell (p := ⟨w.heap.size + 1, 2, none⟩) lt_y).trans y2
          replace y3 := (hb.cell (p := ⟨w.heap.size + 1, 3, none⟩) lt_y).trans y3
          replace y4 := (hb.cell (p := ⟨w.heap.size + 1, 4, none⟩) lt_y).trans y4
          replace y5 := (hb.cell (p := ⟨w.heap.size + 1, 5, none⟩) lt_y).trans y5
          replace lt_y : w.heap.size + 1 < w0.heap.size := Nat.lt_of_lt_of_le lt_y hb.size
          replace TA := Lib.hid (TA.out.up hb)
          replace TD := Lib.hid (TD.out.up hb)
          replace HW := Lib.hid (HW.out.trans (hb.mono HW.out.size))
          clear hb
          go_wp2_with fail
          refine (small_any a _ _ w0 (by exact TA.out) (Nat.le_refl _)).mono ?_
          rintro e w1 ⟨rfl, hb⟩
          rw [Sa.out]
          replace x0 := (hb.cell (p := ⟨w.heap.size, 0, none⟩) lt_x).trans x0
          replace x1 := (hb.cell (p := ⟨w.heap.size, 1, none⟩) lt_x).trans x1
          replace x2 := (hb.cell (p := ⟨w.heap.size, 2, none⟩) lt_x).trans x2
          replace x3 := (hb.cell (p := ⟨w.heap.size, 3, none⟩) lt_x).trans x3
          replace x4 := (hb.cell (p := ⟨w.heap.size, 4, none⟩) lt_x).trans x4
          replace x5 := (hb.cell (p := ⟨w.heap.size, 5, none⟩) lt_x).trans x5
          replace lt_x : w.heap.size < w1.heap.size := Nat.lt_of_lt_of_le lt_x hb.size
          replace y0 := (hb.cell (p := ⟨w.heap.size + 1, 0, none⟩) lt_y).trans y0
          replace y1 := (hb.cell (p := ⟨w.heap.size + 1, 1, none⟩) lt_y).trans y1
          replace y2 := (hb.cell (p := ⟨w.heap.size + 1, 2, none⟩) lt_y).trans y2
          replace y3 := (hb.cell (p := ⟨w.heap.size + 1, 3, none⟩) lt_y).trans y3
          replace y4 := (hb.cell (p := ⟨w.heap.size + 1, 4, none⟩) lt_y).trans y4
          replace y5 := (hb.cell (p := ⟨w.heap.size + 1, 5, none⟩) lt_y).trans y5
          replace lt_y : w.heap.size + 1 < w1.heap.size := Nat.lt_of_lt_of_le lt_y hb.size
          replace TA := Lib.hid (TA.out.up hb)
          replace TD := Lib.hid (TD.out.up hb)
          replace HW := Lib.hid (HW.out.trans (hb.mono HW.out.size))
          clear hb
          go_wp2_with fail
          refine (small_any d _ _ w1 (by exact TD.out) (Nat.le_refl _)).mono ?_
          rintro e w2 ⟨rfl, hb⟩
          rw [Sd.out]
          replace x0 := (hb.cell (p := ⟨w.heap.size, 0, none⟩) lt_x).trans x0
          replace x1 := (hb.cell (p := ⟨w.heap.size, 1, none⟩) lt_x).trans x1
          replace x2 := (hb.cell (p := ⟨w.heap.size, 2, none⟩) lt_x).trans x2
          replace x3 := (hb.cell (p := ⟨w.heap.size, 3, none⟩) lt_x).trans x3
          replace x4 := (hb.cell (p := ⟨w.heap.size, 4, none⟩) lt_x).trans x4
          replace x5 := (hb.cell (p := ⟨w.heap.size, 5, none⟩) lt_x).trans x5
          replace lt_x : w.heap.size < w2.heap.size := Nat.lt_of_lt_of_le lt_x hb.size
          replace y0 := (hb.cell (p := ⟨w.heap.size + 1, 0, none⟩) lt_y).trans y0
          replace y1 := (hb.cell (p := ⟨w.heap.size + 1, 1, none⟩) lt_y).trans y1
          replace y2 := (hb.cell (p := ⟨w.heap.size + 1, 2, none⟩) lt_y).trans y2
          replace y3 := (hb.cell (p := ⟨w.heap.size + 1, 3, none⟩) lt_y).trans y3
          replace y4 := (hb.cell (p := ⟨w.heap.size + 1, 4, none⟩) lt_y).trans y4
          replace y5 := (hb.cell (p := ⟨w.heap.size + 1, 5, none⟩) lt_y).trans y5
          replace lt_y : w.heap.size + 1 < w2.heap.size := Nat.lt_of_lt_of_le lt_y hb.size
          replace TA := Lib.hid (TA.out.up hb)
          replace TD := Lib.hid (TD.out.up hb)
          replace HW := Lib.hid (HW.out.trans (hb.mono HW.out.size))
          clear hb
          go_wp2_with fail
          refine (cons_any a d _ _ _ w2 (by exact TA.out) (by exact TD.out) (Nat.le_refl _)).mono ?_
          rw [Ce.out, Pd.out]
          intro e w3 hr
          obtain ⟨pv, rfl, hb, hz, hi⟩ := hr.lo (Nat.le_refl _)
          have hv := hz H0.out
          clear hi hz
          subst hv
          simp only [zeroV]
          replace x0 := (hb.cell (p := ⟨w.heap.size, 0, none⟩) lt_x).trans x0
          replace x1 := (hb.cell (p := ⟨w.heap.size, 1, none⟩) lt_x).trans x1
          replace x2 := (hb.cell (p := ⟨w.heap.size, 2, none⟩) lt_x).trans x2
          replace x3 := (hb.cell (p := ⟨w.heap.size, 3, none⟩) lt_x).trans x3
          replace x4 := (hb.cell (p := ⟨w.heap.size, 4, none⟩) lt_x).trans x4
          replace x5 := (hb.cell (p := ⟨w.heap.size, 5, none⟩) lt_x).trans x5
          replace lt_x : w.heap.size < w3.heap.size := Nat.lt_of_lt_of_le lt_x hb.size
          replace y0 := (hb.cell (p := ⟨w.heap.size + 1, 0, none⟩) lt_y).trans y0
          replace y1 := (hb.cell (p := ⟨w.heap.size + 1, 1, none⟩) lt_y).trans y1
          replace y2 := (hb.cell (p := ⟨w.heap.size + 1, 2, none⟩) lt_y).trans y2
          replace y3 := (hb.cell (p := ⟨w.heap.size + 1, 3, none⟩) lt_y).trans y3
          replace y4 := (hb.cell (p := ⟨w.heap.size + 1, 4, none⟩) lt_y).trans y4
          replace y5 := (hb.cell (p := ⟨w.heap.size + 1, 5, none⟩) lt_y).trans y5
          replace lt_y : w.heap.size + 1 < w3.heap.size := Nat.lt_of_lt_of_le lt_y hb.size
          replace TA := Lib.hid (TA.out.up hb)
          replace TD := Lib.hid (TD.out.up hb)
          replace HW := Lib.hid (HW.out.trans (hb.mono HW.out.size))
          clear hb
          go_wp2_with fail
          obtain ⟨hbX, hsX, hkX⟩ := start_allocs [(#[.int .i64 0, .int .i64 0, .string ⟨#[]⟩, .slice none 0 0, .slice none 0 0, .slice none 0 0], 25)] w3
          have g0 := hkX 0 _ rfl
          set_option linter.unusedSimpArgs false in
          simp only [allocs, List.foldl_cons, List.foldl_nil, Nat.add_zero, List.length_cons, List.length_nil, Nat.zero_add, Nat.reduceAdd] at hbX hsX g0
          clear hkX
          generalize w3.alloc (.cells #[.int .i64 0, .int .i64 0, .string ⟨#[]⟩, .slice none 0 0, .slice none 0 0, .slice none 0 0] 25) = X1 at *
          have z0 : X1.cell? ⟨w3.heap.size, 0, none⟩ = some (.int .i64 0) := (g0.cell 0).trans rfl
          have z1 : X1.cell? ⟨w3.heap.size, 1, none⟩ = some (.int .i64 0) := (g0.cell 1).trans rfl
          have z2 : X1.cell? ⟨w3.heap.size, 2, none⟩ = some (.string ⟨#[]⟩) := (g0.cell 2).trans rfl
          have z3 : X1.cell? ⟨w3.heap.size, 3, none⟩ = some (.slice none 0 0) := (g0.cell 3).trans rfl
          have z4 : X1.cell? ⟨w3.heap.size, 4, none⟩ = some (.slice none 0 0) := (g0.cell 4).trans rfl
          have z5 : X1.cell? ⟨w3.heap.size, 5, none⟩ = some (.slice none 0 0) := (g0.cell 5).trans rfl
          have lt_z : w3.heap.size < X1.heap.size := by omega
          clear g0 hsX
          replace x0 := (hbX.cell (p := ⟨w.heap.size, 0, none⟩) lt_x).trans x0
          replace x1 := (hbX.cell (p := ⟨w.heap.size, 1, none⟩) lt_x).trans x1
          replace x2 := (hbX.cell (p := ⟨w.heap.size, 2, none⟩) lt_x).trans x2
          replace x3 := (hbX.cell (p := ⟨w.heap.size, 3, none⟩) lt_x).trans x3
          replace x4 := (hbX.cell (p := ⟨w.heap.size, 4, none⟩) lt_x).trans x4
          replace x5 := (hbX.cell (p := ⟨w.heap.size, 5, none⟩) lt_x).trans x5
          replace lt_x : w.heap.size < X1.heap.size := Nat.lt_of_lt_of_le lt_x hbX.size
          replace y0 := (hbX.cell (p := ⟨w.heap.size + 1, 0, none⟩) lt_y).trans y0
          replace y1 := (hbX.cell (p := ⟨w.heap.size + 1, 1, none⟩) lt_y).trans y1
          replace y2 := (hbX.cell (p := ⟨w.heap.size + 1, 2, none⟩) lt_y).trans y2
          replace y3 := (hbX.cell (p := ⟨w.heap.size + 1, 3, none⟩) lt_y).trans y3
          replace y4 := (hbX.cell (p := ⟨w.heap.size + 1, 4, none⟩) lt_y).trans y4
          replace y5 := (hbX.cell (p := ⟨w.heap.size + 1, 5, none⟩) lt_y).trans y5
          replace lt_y : w.heap.size + 1 < X1.heap.size := Nat.lt_of_lt_of_le lt_y hbX.size
          replace TA := Lib.hid (TA.out.up hbX)
          replace TD := Lib.hid (TD.out.up hbX)
          replace HW := Lib.hid (HW.out.trans (hbX.mono HW.out.size))
          clear hbX
          refine (car_any d _ _ X1 (by exact TD.out) (Nat.le_refl _)).mono ?_
          rw [Pe.out, Cx.out]
          intro e w4 hr
          obtain ⟨sv, rfl, hb, hz, hi⟩ := hr.lo (Nat.le_refl _)
          replace hi := hi rfl
          clear hz
          have hi2 := hi
          obtain ⟨sm, scm, sl, scl, st, sct, rfl, _⟩ := hi2.open_
          have TS := Lib.hid hi
          clear hi hi2
          replace x0 := (hb.cell (p := ⟨w.heap.size, 0, none⟩) lt_x).trans x0
          replace x1 := (hb.cell (p := ⟨w.heap.size, 1, none⟩) lt_x).trans x1
          replace x2 := (hb.cell (p := ⟨w.heap.size, 2, none⟩) lt_x).trans x2
          replace x3 := (hb.cell (p := ⟨w.heap.size, 3, none⟩) lt_x).trans x3
          replace x4 := (hb.cell (p := ⟨w.heap.size, 4, none⟩) lt_x).trans x4
          replace x5 := (hb.cell (p := ⟨w.heap.size, 5, none⟩) lt_x).trans x5
          replace lt_x : w.heap.size < w4.heap.size := Nat.lt_of_lt_of_le lt_x hb.size
          replace y0 := (hb.cell (p := ⟨w.heap.size + 1, 0, none⟩) lt_y).trans y0
          replace y1 := (hb.cell (p := ⟨w.heap.size + 1, 1, none⟩) lt_y).trans y1
          replace y2 := (hb.cell (p := ⟨w.heap.size + 1, 2, none⟩) lt_y).trans y2
          replace y3 := (hb.cell (p := ⟨w.heap.size + 1, 3, none⟩) lt_y).trans y3
          replace y4 := (hb.cell (p := ⟨w.heap.size + 1, 4, none⟩) lt_y).trans y4
          replace y5 := (hb.cell (p := ⟨w.heap.size + 1, 5, none⟩) lt_y).trans y5
          replace lt_y : w.heap.size + 1 < w4.heap.size := Nat.lt_of_lt_of_le lt_y hb.size
          replace z0 := (hb.cell (p := ⟨w3.heap.size, 0, none⟩) lt_z).trans z0
          replace z1 := (hb.cell (p := ⟨w3.heap.size, 1, none⟩) lt_z).trans z1
          replace z2 := (hb.cell (p := ⟨w3.heap.size, 2, none⟩) lt_z).trans z2
          replace z3 := (hb.cell (p := ⟨w3.heap.size, 3, none⟩) lt_z).trans z3
          replace z4 := (hb.cell (p := ⟨w3.heap.size, 4, none⟩) lt_z).trans z4
          replace z5 := (hb.cell (p := ⟨w3.heap.size, 5, none⟩) lt_z).trans z5
          replace lt_z : w3.heap.size < w4.heap.size := Nat.lt_of_lt_of_le lt_z hb.size
          replace TA := Lib.hid (TA.out.up hb)
          replace TD := Lib.hid (TD.out.up hb)
          replace HW := Lib.hid (HW.out.trans (hb.mono HW.out.size))
          clear hb
          go_wp2_with fail
          obtain ⟨hbX, hsX, hkX⟩ := start_allocs [(#[.int .i64 cx.K, .int .i64 cx.N, .string cx.S, .slice sm cx.M.length scm, .slice sl cx.L.length scl, .slice st cx.T.length sct], 25)] w4
          have g0 := hkX 0 _ rfl
          set_option linter.unusedSimpArgs false in
          simp only [allocs, List.foldl_cons, List.foldl_nil, Nat.add_zero, List.length_cons, List.length_nil, Nat.zero_add, Nat.reduceAdd] at hbX hsX g0
          clear hkX
          generalize w4.alloc (.cells #[.int .i64 cx.K, .int .i64 cx.N, .string cx.S, .slice sm cx.M.length scm, .slice sl cx.L.length scl, .slice st cx.T.length sct] 25) = X2 at *
          have e10 : X2.cell? ⟨w4.heap.size, 0, none⟩ = some (.int .i64 cx.K) := (g0.cell 0).trans rfl
          have e11 : X2.cell? ⟨w4.heap.size, 1, none⟩ = some (.int .i64 cx.N) := (g0.cell 1).trans rfl
          have e12 : X2.cell? ⟨w4.heap.size, 2, none⟩ = some (.string cx.S) := (g0.cell 2).trans rfl
          have e13 : X2.cell? ⟨w4.heap.size, 3, none⟩ = some (.slice sm cx.M.length scm) := (g0.cell 3).trans rfl
          have e14 : X2.cell? ⟨w4.heap.size, 4, none⟩ = some (.slice sl cx.L.length scl) := (g0.cell 4).trans rfl
          have e15 : X2.cell? ⟨w4.heap.size, 5, none⟩ = some (.slice st cx.T.length sct) := (g0.cell 5).trans rfl
          have lt_e1 : w4.heap.size < X2.heap.size := by omega
          clear g0 hsX
          replace x0 := (hbX.cell (p := ⟨w.heap.size, 0, none⟩) lt_x).trans x0
          replace x1 := (hbX.cell (p := ⟨w.heap.size, 1, none⟩) lt_x).trans x1
          replace x2 := (hbX.cell (p := ⟨w.heap.size, 2, none⟩) lt_x).trans x2
          replace x3 := (hbX.cell (p := ⟨w.heap.size, 3, none⟩) lt_x).trans x3
          replace x4 := (hbX.cell (p := ⟨w.heap.size, 4, none⟩) lt_x).trans x4
          replace x5 := (hbX.cell (p := ⟨w.heap.size, 5, none⟩) lt_x).trans x5
          replace lt_x : w.heap.size < X2.heap.size := Nat.lt_of_lt_of_le lt_x hbX.size
          replace y0 := (hbX.cell (p := ⟨w.heap.size + 1, 0, none⟩) lt_y).trans y0
          replace y1 := (hbX.cell (p := ⟨w.heap.size + 1, 1, none⟩) lt_y).trans y1
          replace y2 := (hbX.cell (p := ⟨w.heap.size + 1, 2, none⟩) lt_y).trans y2
          replace y3 := (hbX.cell (p := ⟨w.heap.size + 1, 3, none⟩) lt_y).trans y3
          replace y4 := (hbX.cell (p := ⟨w.heap.size + 1, 4, none⟩) lt_y).trans y4
          replace y5 := (hbX.cell (p := ⟨w.heap.size + 1, 5, none⟩) lt_y).trans y5
          replace lt_y : w.heap.size + 1 < X2.heap.size := Nat.lt_of_lt_of_le lt_y hbX.size
          replace z0 := (hbX.cell (p := ⟨w3.heap.size, 0, none⟩) lt_z).trans z0
          replace z1 := (hbX.cell (p := ⟨w3.heap.size, 1, none⟩) lt_z).trans z1
          replace z2 := (hbX.cell (p := ⟨w3.heap.size, 2, none⟩) lt_z).trans z2
          replace z3 := (hbX.cell (p := ⟨w3.heap.size, 3, none⟩) lt_z).trans z3
          replace z4 := (hbX.cell (p := ⟨w3.heap.size, 4, none⟩) lt_z).trans z4
          replace z5 := (hbX.cell (p := ⟨w3.heap.size, 5, none⟩) lt_z).trans z5
          replace lt_z : w3.heap.size < X2.heap.size := Nat.lt_of_lt_of_le lt_z hbX.size
          replace TA := Lib.hid (TA.out.up hbX)
          replace TD := Lib.hid (TD.out.up hbX)
          replace TS := Lib.hid (TS.out.up hbX)
          replace HW := Lib.hid (HW.out.trans (hbX.mono HW.out.size))
          clear hbX
          refine (cdr_any d _ _ X2 (by exact TD.out) (Nat.le_refl _)).mono ?_
          rw [Pe.out, Cy.out]
          intro e w5 hr
          obtain ⟨tv, rfl, hb, hz, hi⟩ := hr.lo (Nat.le_refl _)
          replace hi := hi rfl
          clear hz
          have hi2 := hi
          obtain ⟨tm, tcm, tl, tcl, tt, tct, rfl, _⟩ := hi2.open_
          have TT := Lib.hid hi
          clear hi hi2
          replace x0 := (hb.cell (p := ⟨w.heap.size, 0, none⟩) lt_x).trans x0
          replace x1 := (hb.cell (p := ⟨w.heap.size, 1, none⟩) lt_x).trans x1
          replace x2 := (hb.cell (p := ⟨w.heap.size, 2, none⟩) lt_x).trans x2
          replace x3 := (hb.cell (p := ⟨w.heap.size, 3, none⟩) lt_x).trans x3
          replace x4 := (hb.cell (p := ⟨w.heap.size, 4, none⟩) lt_x).trans x4
          replace x5 := (hb.cell (p := ⟨w.heap.size, 5, none⟩) lt_x).trans x5
          replace lt_x : w.heap.size < w5.heap.size := Nat.lt_of_lt_of_le lt_x hb.size
          replace y0 := (hb.cell (p := ⟨w.heap.size + 1, 0, none⟩) lt_y).trans y0
          replace y1 := (hb.cell (p := ⟨w.heap.size + 1, 1, none⟩) lt_y).trans y1
          replace y2 := (hb.cell (p := ⟨w.heap.size + 1, 2, none⟩) lt_y).trans y2
          replace y3 := (hb.cell (p := ⟨w.heap.size + 1, 3, none⟩) lt_y).trans y3
          replace y4 := (hb.cell (p := ⟨w.heap.size + 1, 4, none⟩) lt_y).trans y4
          replace y5 := (hb.cell (p := ⟨w.heap.size + 1, 5, none⟩) lt_y).trans y5
          replace lt_y : w.heap.size + 1 < w5.heap.size := Nat.lt_of_lt_of_le lt_y hb.size
          replace z0 := (hb.cell (p := ⟨w3.heap.size, 0, none⟩) lt_z).trans z0
          replace z1 := (hb.cell (p := ⟨w3.heap.size, 1, none⟩) lt_z).trans z1
          replace z2 := (hb.cell (p := ⟨w3.heap.size, 2, none⟩) lt_z).trans z2
          replace z3 := (hb.cell (p := ⟨w3.heap.size, 3, none⟩) lt_z).trans z3
          replace z4 := (hb.cell (p := ⟨w3.heap.size, 4, none⟩) lt_z).trans z4
          replace z5 := (hb.cell (p := ⟨w3.heap.size, 5, none⟩) lt_z).trans z5
          replace lt_z : w3.heap.size < w5.heap.size := Nat.lt_of_lt_of_le lt_z hb.size
          replace e10 := (hb.cell (p := ⟨w4.heap.size, 0, none⟩) lt_e1).trans e10
          replace e11 := (hb.cell (p := ⟨w4.heap.size, 1, none⟩) lt_e1).trans e11
          replace e12 := (hb.cell (p := ⟨w4.heap.size, 2, none⟩) lt_e1).trans e12
          replace e13 := (hb.cell (p := ⟨w4.heap.size, 3, none⟩) lt_e1).trans e13
          replace e14 := (hb.cell (p := ⟨w4.heap.size, 4, none⟩) lt_e1).trans e14
          replace e15 := (hb.cell (p := ⟨w4.heap.size, 5, none⟩) lt_e1).trans e15
          replace lt_e1 : w4.heap.size < w5.heap.size := Nat.lt_of_lt_of_le lt_e1 hb.size
          replace TA := Lib.hid (TA.out.up hb)
          replace TD := Lib.hid (TD.out.up hb)
          replace TS := Lib.hid (TS.out.up hb)
          replace HW := Lib.hid (HW.out.trans (hb.mono HW.out.size))
          clear hb
          go_wp2_with fail
          obtain ⟨hbX, hsX, hkX⟩ := start_allocs [(#[.int .i64 cy.K, .int .i64 cy.N, .string cy.S, .slice tm cy.M.length tcm, .slice tl cy.L.length tcl, .slice tt cy.T.length tct], 25)] w5
          have g0 := hkX 0 _ rfl
          set_option linter.unusedSimpArgs false in
          simp only [allocs, List.foldl_cons, List.foldl_nil, Nat.add_zero, List.length_cons, List.length_nil, Nat.zero_add, Nat.reduceAdd] at hbX hsX g0
          clear hkX
          generalize w5.alloc (.cells #[.int .i64 cy.K, .int .i64 cy.N, .string cy.S, .slice tm cy.M.length tcm, .slice tl cy.L.length tcl, .slice tt cy.T.length tct] 25) = X3 at *
          have e20 : X3.cell? ⟨w5.heap.size, 0, none⟩ = some (.int .i64 cy.K) := (g0.cell 0).trans rfl
          have e21 : X3.cell? ⟨w5.heap.size, 1, none⟩ = some (.int .i64 cy.N) := (g0.cell 1).trans rfl
          have e22 : X3.cell? ⟨w5.heap.size, 2, none⟩ = some (.string cy.S) := (g0.cell 2).trans rfl
          have e23 : X3.cell? ⟨w5.heap.size, 3, none⟩ = some (.slice tm cy.M.length tcm) := (g0.cell 3).trans rfl
          have e24 : X3.cell? ⟨w5.heap.size, 4, none⟩ = some (.slice tl cy.L.length tcl) := (g0.cell 4).trans rfl
          have e25 : X3.cell? ⟨w5.heap.size, 5, none⟩ = some (.slice tt cy.T.length tct) := (g0.cell 5).trans rfl
          have lt_e2 : w5.heap.size < X3.heap.size := by omega
          clear g0 hsX
          replace x0 := (hbX.cell (p := ⟨w.heap.size, 0, none⟩) lt_x).trans x0
          replace x1 := (hbX.cell (p := ⟨w.heap.size, 1, none⟩) lt_x).trans x1
          replace x2 := (hbX.cell (p := ⟨w.heap.size, 2, none⟩) lt_x).trans x2
          replace x3 := (hbX.cell (p := ⟨w.heap.size, 3, none⟩) lt_x).trans x3
          replace x4 := (hbX.cell (p := ⟨w.heap.size, 4, none⟩) lt_x).trans x4
          replace x5 := (hbX.cell (p := ⟨w.heap.size, 5, none⟩) lt_x).trans x5
          replace lt_x : w.heap.size < X3.heap.size := Nat.lt_of_lt_of_le lt_x hbX.size
          replace y0 := (hbX.cell (p := ⟨w.heap.size + 1, 0, none⟩) lt_y).trans y0
          replace y1 := (hbX.cell (p := ⟨w.heap.size + 1, 1, none⟩) lt_y).trans y1
          replace y2 := (hbX.cell (p := ⟨w.heap.size + 1, 2, none⟩) lt_y).trans y2
          replace y3 := (hbX.cell (p := ⟨w.heap.size + 1, 3, none⟩) lt_y).trans y3
          replace y4 := (hbX.cell (p := ⟨w.heap.size + 1, 4, none⟩) lt_y).trans y4
          replace y5 := (hbX.cell (p := ⟨w.heap.size + 1, 5, none⟩) lt_y).trans y5
          replace lt_y : w.heap.size + 1 < X3.heap.size := Nat.lt_of_lt_of_le lt_y hbX.size
          replace z0 := (hbX.cell (p := ⟨w3.heap.size, 0, none⟩) lt_z).trans z0
          replace z1 := (hbX.cell (p := ⟨w3.heap.size, 1, none⟩) lt_z).trans z1
          replace z2 := (hbX.cell (p := ⟨w3.heap.size, 2, none⟩) lt_z).trans z2
          replace z3 := (hbX.cell (p := ⟨w3.heap.size, 3, none⟩) lt_z).trans z3
          replace z4 := (hbX.cell (p := ⟨w3.heap.size, 4, none⟩) lt_z).trans z4
          replace z5 := (hbX.cell (p := ⟨w3.heap.size, 5, none⟩) lt_z).trans z5
          replace lt_z : w3.heap.size < X3.heap.size := Nat.lt_of_lt_of_le lt_z hbX.size
          replace e10 := (hbX.cell (p := ⟨w4.heap.size, 0, none⟩) lt_e1).trans e10
          replace e11 := (hbX.cell (p := ⟨w4.heap.size, 1, none⟩) lt_e1).trans e11
          replace e12 := (hbX.cell (p := ⟨w4.heap.size, 2, none⟩) lt_e1).trans e12
          replace e13 := (hbX.cell (p := ⟨w4.heap.size, 3, none⟩) lt_e1).trans e13
          replace e14 := (hbX.cell (p := ⟨w4.heap.size, 4, none⟩) lt_e1).trans e14
          replace e15 := (hbX.cell (p := ⟨w4.heap.size, 5, none⟩) lt_e1).trans e15
          replace lt_e1 : w4.heap.size < X3.heap.size := Nat.lt_of_lt_of_le lt_e1 hbX.size
          replace TA := Lib.hid (TA.out.up hbX)
          replace TD := Lib.hid (TD.out.up hbX)
          replace TS := Lib.hid (TS.out.up hbX)
          replace TT := Lib.hid (TT.out.up hbX)
          replace HW := Lib.hid (HW.out.trans (hbX.mono HW.out.size))
          clear hbX
          refine (cons_any cx cy _ _ _ X3 (by exact TS.out) (by exact TT.out) (Nat.le_refl _)).mono ?_
          rw [Take.out.1, Take.out.2]
          intro e w6 hr
          obtain ⟨ov, rfl, hb, hz, hi⟩ := hr.lo (Nat.le_refl _)
          replace hi := hi rfl
          clear hz
          have hi2 := hi
          obtain ⟨om, ocm, ol, ocl, ot, oct, rfl, _⟩ := hi2.open_
          have TO := Lib.hid hi
          clear hi hi2
          replace x0 := (hb.cell (p := ⟨w.heap.size, 0, none⟩) lt_x).trans x0
          replace x1 := (hb.cell (p := ⟨w.heap.size, 1, none⟩) lt_x).trans x1
          replace x2 := (hb.cell (p := ⟨w.heap.size, 2, none⟩) lt_x).trans x2
          replace x3 := (hb.cell (p := ⟨w.heap.size, 3, none⟩) lt_x).trans x3
          replace x4 := (hb.cell (p := ⟨w.heap.size, 4, none⟩) lt_x).trans x4
          replace x5 := (hb.cell (p := ⟨w.heap.size, 5, none⟩) lt_x).trans x5
          replace lt_x : w.heap.size < w6.heap.size := Nat.lt_of_lt_of_le lt_x hb.size
          replace y0 := (hb.cell (p := ⟨w.heap.size + 1, 0, none⟩) lt_y).trans y0
          replace y1 := (hb.cell (p := ⟨w.heap.size + 1, 1, none⟩) lt_y).trans y1
          replace y2 := (hb.cell (p := ⟨w.heap.size + 1, 2, none⟩) lt_y).trans y2
          replace y3 := (hb.cell (p := ⟨w.heap.size + 1, 3, none⟩) lt_y).trans y3
          replace y4 := (hb.cell (p := ⟨w.heap.size + 1, 4, none⟩) lt_y).trans y4
          replace y5 := (hb.cell (p := ⟨w.heap.size + 1, 5, none⟩) lt_y).trans y5
          replace lt_y : w.heap.size + 1 < w6.heap.size := Nat.lt_of_lt_of_le lt_y hb.size
          replace z0 := (hb.cell (p := ⟨w3.heap.size, 0, none⟩) lt_z).trans z0
          replace z1 := (hb.cell (p := ⟨w3.heap.size, 1, none⟩) lt_z).trans z1
          replace z2 := (hb.cell (p := ⟨w3.heap.size, 2, none⟩) lt_z).trans z2
          replace z3 := (hb.cell (p := ⟨w3.heap.size, 3, none⟩) lt_z).trans z3
          replace z4 := (hb.cell (p := ⟨w3.heap.size, 4, none⟩) lt_z).trans z4
          replace z5 := (hb.cell (p := ⟨w3.heap.size, 5, none⟩) lt_z).trans z5
          replace lt_z : w3.heap.size < w6.heap.size := Nat.lt_of_lt_of_le lt_z hb.size
          replace e10 := (hb.cell (p := ⟨w4.heap.size, 0, none⟩) lt_e1).trans e10
          replace e11 := (hb.cell (p := ⟨w4.heap.size, 1, none⟩) lt_e1).trans e11
          replace e12 := (hb.cell (p := ⟨w4.heap.size, 2, none⟩) lt_e1).trans e12
          replace e13 := (hb.cell (p := ⟨w4.heap.size, 3, none⟩) lt_e1).trans e13
          replace e14 := (hb.cell (p := ⟨w4.heap.size, 4, none⟩) lt_e1).trans e14
          replace e15 := (hb.cell (p := ⟨w4.heap.size, 5, none⟩) lt_e1).trans e15
          replace lt_e1 : w4.heap.size < w6.heap.size := Nat.lt_of_lt_of_le lt_e1 hb.size
          replace e20 := (hb.cell (p := ⟨w5.heap.size, 0, none⟩) lt_e2).trans e20
          replace e21 := (hb.cell (p := ⟨w5.heap.size, 1, none⟩) lt_e2).trans e21
          replace e22 := (hb.cell (p := ⟨w5.heap.size, 2, none⟩) lt_e2).trans e22
          replace e23 := (hb.cell (p := ⟨w5.heap.size, 3, none⟩) lt_e2).trans e23
          replace e24 := (hb.cell (p := ⟨w5.heap.size, 4, none⟩) lt_e2).trans e24
          replace e25 := (hb.cell (p := ⟨w5.heap.size, 5, none⟩) lt_e2).trans e25
          replace lt_e2 : w5.heap.size < w6.heap.size := Nat.lt_of_lt_of_le lt_e2 hb.size
          replace TA := Lib.hid (TA.out.up hb)
          replace TD := Lib.hid (TD.out.up hb)
          replace TS := Lib.hid (TS.out.up hb)
          replace TT := Lib.hid (TT.out.up hb)
          replace HW := Lib.hid (HW.out.trans (hb.mono HW.out.size))
          clear hb
          go_wp2_with fail
          obtain ⟨hbX, hsX, hkX⟩ := start_allocs [(#[.int .i64 d.K, .int .i64 d.N, .string d.S, .slice om d.M.length ocm, .slice ol d.L.length ocl, .slice ot d.T.length oct], 25)] w6
          have g0 := hkX 0 _ rfl
          set_option linter.unusedSimpArgs false in
          simp only [allocs, List.foldl_cons, List.foldl_nil, Nat.add_zero, List.length_cons, List.length_nil, Nat.zero_add, Nat.reduceAdd] at hbX hsX g0
          clear hkX
          generalize w6.alloc (.cells #[.int .i64 d.K, .int .i64 d.N, .string d.S, .slice om d.M.length ocm, .slice ol d.L.length ocl, .slice ot d.T.length oct] 25) = X4 at *
          have e30 : X4.cell? ⟨w6.heap.size, 0, none⟩ = some (.int .i64 d.K) := (g0.cell 0).trans rfl
          have e31 : X4.cell? ⟨w6.heap.size, 1, none⟩ = some (.int .i64 d.N) := (g0.cell 1).trans rfl
          have e32 : X4.cell? ⟨w6.heap.size, 2, none⟩ = some (.string d.S) := (g0.cell 2).trans rfl
          have e33 : X4.cell? ⟨w6.heap.size, 3, none⟩ = some (.slice om d.M.length ocm) := (g0.cell 3).trans rfl
          have e34 : X4.cell? ⟨w6.heap.size, 4, none⟩ = some (.slice ol d.L.length ocl) := (g0.cell 4).trans rfl
          have e35 : X4.cell? ⟨w6.heap.size, 5, none⟩ = some (.slice ot d.T.length oct) := (g0.cell 5).trans rfl
          have lt_e3 : w6.heap.size < X4.heap.size := by omega
          clear g0 hsX
          replace x0 := (hbX.cell (p := ⟨w.heap.size, 0, none⟩) lt_x).trans x0
          replace x1 := (hbX.cell (p := ⟨w.heap.size, 1, none⟩) lt_x).trans x1
          replace x2 := (hbX.cell (p := ⟨w.heap.size, 2, none⟩) lt_x).trans x2
          replace x3 := (hbX.cell (p := ⟨w.heap.size, 3, none⟩) lt_x).trans x3
          replace x4 := (hbX.cell (p := ⟨w.heap.size, 4, none⟩) lt_x).trans x4
          replace x5 := (hbX.cell (p := ⟨w.heap.size, 5, none⟩) lt_x).trans x5
          replace lt_x : w.heap.size < X4.heap.size := Nat.lt_of_lt_of_le lt_x hbX.size
          replace y0 := (hbX.cell (p := ⟨w.heap.size + 1, 0, none⟩) lt_y).trans y0
          replace y1 := (hbX.cell (p := ⟨w.heap.size + 1, 1, none⟩) lt_y).trans y1
          replace y2 := (hbX.cell (p := ⟨w.heap.size + 1, 2, none⟩) lt_y).trans y2
          replace y3 := (hbX.cell (p := ⟨w.heap.size + 1, 3, none⟩) lt_y).trans y3
          replace y4 := (hbX.cell (p := ⟨w.heap.size + 1, 4, none⟩) lt_y).trans y4
          replace y5 := (hbX.cell (p := ⟨w.heap.size + 1, 5, none⟩) lt_y).trans y5
          replace lt_y : w.heap.size + 1 < X4.heap.size := Nat.lt_of_lt_of_le lt_y hbX.size
          replace z0 := (hbX.cell (p := ⟨w3.heap.size, 0, none⟩) lt_z).trans z0
          replace z1 := (hbX.cell (p := ⟨w3.heap.size, 1, none⟩) lt_z).trans z1
          replace z2 := (hbX.cell (p := ⟨w3.heap.size, 2, none⟩) lt_z).trans z2
          replace z3 := (hbX.cell (p := ⟨w3.heap.size, 3, none⟩) lt_z).trans z3
          replace z4 := (hbX.cell (p := ⟨w3.heap.size, 4, none⟩) lt_z).trans z4
          replace z5 := (hbX.cell (p := ⟨w3.heap.size, 5, none⟩) lt_z).trans z5
          replace lt_z : w3.heap.size < X4.heap.size := Nat.lt_of_lt_of_le lt_z hbX.size
          replace e10 := (hbX.cell (p := ⟨w4.heap.size, 0, none⟩) lt_e1).trans e10
          replace e11 := (hbX.cell (p := ⟨w4.heap.size, 1, none⟩) lt_e1).trans e11
          replace e12 := (hbX.cell (p := ⟨w4.heap.size, 2, none⟩) lt_e1).trans e12
          replace e13 := (hbX.cell (p := ⟨w4.heap.size, 3, none⟩) lt_e1).trans e13
          replace e14 := (hbX.cell (p := ⟨w4.heap.size, 4, none⟩) lt_e1).trans e14
          replace e15 := (hbX.cell (p := ⟨w4.heap.size, 5, none⟩) lt_e1).trans e15
          replace lt_e1 : w4.heap.size < X4.heap.size := Nat.lt_of_lt_of_le lt_e1 hbX.size
          replace e20 := (hbX.cell (p := ⟨w5.heap.size, 0, none⟩) lt_e2).trans e20
          replace e21 := (hbX.cell (p := ⟨w5.heap.size, 1, none⟩) lt_e2).trans e21
          replace e22 := (hbX.cell (p := ⟨w5.heap.size, 2, none⟩) lt_e2).trans e22
          replace e23 := (hbX.cell (p := ⟨w5.heap.size, 3, none⟩) lt_e2).trans e23
          replace e24 := (hbX.cell (p := ⟨w5.heap.size, 4, none⟩) lt_e2).trans e24
          replace e25 := (hbX.cell (p := ⟨w5.heap.size, 5, none⟩) lt_e2).trans e25
          replace lt_e2 : w5.heap.size < X4.heap.size := Nat.lt_of_lt_of_le lt_e2 hbX.size
          replace TA := Lib.hid (TA.out.up hbX)
          replace TD := Lib.hid (TD.out.up hbX)
          replace TS := Lib.hid (TS.out.up hbX)
          replace TT := Lib.hid (TT.out.up hbX)
          replace TO := Lib.hid (TO.out.up hbX)
          replace HW := Lib.hid (HW.out.trans (hbX.mono HW.out.size))
          clear hbX
          refine (same_any d d _ _ _ X4 (by exact TO.out) (by exact TD.out) (Nat.le_refl _)).mono ?_
          rintro e w7 ⟨rfl, hb⟩
          rw [(show (chk d == 0 && eqD d d) = true by rw [eqD_refl, (pairE_zero Pe.out).1]; rfl)]
          replace x0 := (hb.cell (p := ⟨w.heap.size, 0, none⟩) lt_x).trans x0
          replace x1 := (hb.cell (p := ⟨w.heap.size, 1, none⟩) lt_x).trans x1
          replace x2 := (hb.cell (p := ⟨w.heap.size, 2, none⟩) lt_x).trans x2
          replace x3 := (hb.cell (p := ⟨w.heap.size, 3, none⟩) lt_x).trans x3
          replace x4 := (hb.cell (p := ⟨w.heap.size, 4, none⟩) lt_x).trans x4
          replace x5 := (hb.cell (p := ⟨w.heap.size, 5, none⟩) lt_x).trans x5
          replace lt_x : w.heap.size < w7.heap.size := Nat.lt_of_lt_of_le lt_x hb.size
          replace y0 := (hb.cell (p := ⟨w.heap.size + 1, 0, none⟩) lt_y).trans y0
          replace y1 := (hb.cell (p := ⟨w.heap.size + 1, 1, none⟩) lt_y).trans y1
          replace y2 := (hb.cell (p := ⟨w.heap.size + 1, 2, none⟩) lt_y).trans y2
          replace y3 := (hb.cell (p := ⟨w.heap.size + 1, 3, none⟩) lt_y).trans y3
          replace y4 := (hb.cell (p := ⟨w.heap.size + 1, 4, none⟩) lt_y).trans y4
          replace y5 := (hb.cell (p := ⟨w.heap.size + 1, 5, none⟩) lt_y).trans y5
          replace lt_y : w.heap.size + 1 < w7.heap.size := Nat.lt_of_lt_of_le lt_y hb.size
          replace z0 := (hb.cell (p := ⟨w3.heap.size, 0, none⟩) lt_z).trans z0
          replace z1 := (hb.cell (p := ⟨w3.heap.size, 1, none⟩) lt_z).trans z1
          replace z2 := (hb.cell (p := ⟨w3.heap.size, 2, none⟩) lt_z).trans z2
          replace z3 := (hb.cell (p := ⟨w3.heap.size, 3, none⟩) lt_z).trans z3
          replace z4 := (hb.cell (p := ⟨w3.heap.size, 4, none⟩) lt_z).trans z4
          replace z5 := (hb.cell (p := ⟨w3.heap.size, 5, none⟩) lt_z).trans z5
          replace lt_z : w3.heap.size < w7.heap.size := Nat.lt_of_lt_of_le lt_z hb.size
          replace e10 := (hb.cell (p := ⟨w4.heap.size, 0, none⟩) lt_e1).trans e10
          replace e11 := (hb.cell (p := ⟨w4.heap.size, 1, none⟩) lt_e1).trans e11
          replace e12 := (hb.cell (p := ⟨w4.heap.size, 2, none⟩) lt_e1).trans e12
          replace e13 := (hb.cell (p := ⟨w4.heap.size, 3, none⟩) lt_e1).trans e13
          replace e14 := (hb.cell (p := ⟨w4.heap.size, 4, none⟩) lt_e1).trans e14
          replace e15 := (hb.cell (p := ⟨w4.heap.size, 5, none⟩) lt_e1).trans e15
          replace lt_e1 : w4.heap.size < w7.heap.size := Nat.lt_of_lt_of_le lt_e1 hb.size
          replace e20 := (hb.cell (p := ⟨w5.heap.size, 0, none⟩) lt_e2).trans e20
          replace e21 := (hb.cell (p := ⟨w5.heap.size, 1, none⟩) lt_e2).trans e21
          replace e22 := (hb.cell (p := ⟨w5.heap.size, 2, none⟩) lt_e2).trans e22
          replace e23 := (hb.cell (p := ⟨w5.heap.size, 3, none⟩) lt_e2).trans e23
          replace e24 := (hb.cell (p := ⟨w5.heap.size, 4, none⟩) lt_e2).trans e24
          replace e25 := (hb.cell (p := ⟨w5.heap.size, 5, none⟩) lt_e2).trans e25
          replace lt_e2 : w5.heap.size < w7.heap.size := Nat.lt_of_lt_of_le lt_e2 hb.size
          replace e30 := (hb.cell (p := ⟨w6.heap.size, 0, none⟩) lt_e3).trans e30
          replace e31 := (hb.cell (p := ⟨w6.heap.size, 1, none⟩) lt_e3).trans e31
          replace e32 := (hb.cell (p := ⟨w6.heap.size, 2, none⟩) lt_e3).trans e32
          replace e33 := (hb.cell (p := ⟨w6.heap.size, 3, none⟩) lt_e3).trans e33
          replace e34 := (hb.cell (p := ⟨w6.heap.size, 4, none⟩) lt_e3).trans e34
          replace e35 := (hb.cell (p := ⟨w6.heap.size, 5, none⟩) lt_e3).trans e35
          replace lt_e3 : w6.heap.size < w7.heap.size := Nat.lt_of_lt_of_le lt_e3 hb.size
          replace TA := Lib.hid (TA.out.up hb)
          replace TD := Lib.hid (TD.out.up hb)
          replace TS := Lib.hid (TS.out.up hb)
          replace TT := Lib.hid (TT.out.up hb)
          replace TO := Lib.hid (TO.out.up hb)
          replace HW := Lib.hid (HW.out.trans (hb.mono HW.out.size))
          clear hb
          go_wp2_with fail
          go_ret
          exact ⟨rfl, HW.out⟩
        · have dn2 : (pe == 0) = false := by simp [g0]
          have dn3 : (pe != 0) = true := by simp [g0]
          have dn4 : (pe != pe) = false := by simp
          have G0 := Lib.hid g0
          clear g0
          have HW := Lib.hid (bel_refl w)
          go_enter Try.func7, Try.ntmps7
          go_wp2_with fail
          obtain ⟨hbX, hsX, hkX⟩ := start_allocs [(#[.int .i64 a.K, .int .i64 a.N, .string a.S, .slice am a.M.length acm, .slice al a.L.length acl, .slice at' a.T.length act], 25), (#[.int .i64 d.K, .int .i64 d.N, .string d.S, .slice dm d.M.length dcm, .slice dl d.L.length dcl, .slice dt d.T.length dct], 25)] w
          have g0 := hkX 0 _ rfl
          have g1 := hkX 1 _ rfl
          set_option linter.unusedSimpArgs false in
          simp only [allocs, List.foldl_cons, List.foldl_nil, Nat.add_zero, List.length_cons, List.length_nil, Nat.zero_add, Nat.reduceAdd] at hbX hsX g0 g1
          clear hkX
          generalize (w.alloc (.cells #[.int .i64 a.K, .int .i64 a.N, .string a.S, .slice am a.M.length acm, .slice al a.L.length acl, .slice at' a.T.length act] 25)).alloc (.cells #[.int .i64 d.K, .int .i64 d.N, .string d.S, .slice dm d.M.length dcm, .slice dl d.L.length dcl, .slice dt d.T.length dct] 25) = X0 at *
          have x0 : X0.cell? ⟨w.heap.size, 0, none⟩ = some (.int .i64 a.K) := (g0.cell 0).trans rfl
          have x1 : X0.cell? ⟨w.heap.size, 1, none⟩ = some (.int .i64 a.N) := (g0.cell 1).trans rfl
          have x2 : X0.cell? ⟨w.heap.size, 2, none⟩ = some (.string a.S) := (g0.cell 2).trans rfl
          have x3 : X0.cell? ⟨w.heap.size, 3, none⟩ = some (.slice am a.M.length acm) := (g0.cell 3).trans rfl
          have x4 : X0.cell? ⟨w.heap.size, 4, none⟩ = some (.slice al a.L.length acl) := (g0.cell 4).trans rfl
          have x5 : X0.cell? ⟨w.heap.size, 5, none⟩ = some (.slice at' a.T.length act) := (g0.cell 5).trans rfl
          have lt_x : w.heap.size < X0.heap.size := by omega
          have y0 : X0.cell? ⟨w.heap.size + 1, 0, none⟩ = some (.int .i64 d.K) := (g1.cell 0).trans rfl
          have y1 : X0.cell? ⟨w.heap.size + 1, 1, none⟩ = some (.int .i64 d.N) := (g1.cell 1).trans rfl
          have y2 : X0.cell? ⟨w.heap.size + 1, 2, none⟩ = some (.string d.S) := (g1.cell 2).trans rfl
          have y3 : X0.cell? ⟨w.heap.size + 1, 3, none⟩ = some (.slice dm d.M.length dcm) := (g1.cell 3).trans rfl
          have y4 : X0.cell? ⟨w.heap.size + 1, 4, none⟩ = some (.slice dl d.L.length dcl) := (g1.cell 4).trans rfl
          have y5 : X0.cell? ⟨w.heap.size + 1, 5, none⟩ = some (.slice dt d.T.length dct) := (g1.cell 5).trans rfl
          have lt_y : w.heap.size + 1 < X0.heap.size := by omega
          clear g0 g1 hsX
          replace TA := Lib.hid (TA.out.up hbX)
          replace TD := Lib.hid (TD.out.up hbX)
          replace HW := Lib.hid (HW.out.trans (hbX.mono HW.out.size))
          clear hbX
          refine (awake_any X0).mono ?_
          rintro e w0 ⟨rfl, hb⟩
          replace x0 := (hb.cell (p := ⟨w.heap.size, 0, none⟩) lt_x).trans x0
          replace x1 := (hb.cell (p := ⟨w.heap.size, 1, none⟩) lt_x).trans x1
          replace x2 := (hb.cell (p := ⟨w.heap.size, 2, none⟩) lt_x).trans x2
          replace x3 := (hb.cell (p := ⟨w.heap.size, 3, none⟩) lt_x).trans x3
          replace x4 := (hb.cell (p := ⟨w.heap.size, 4, none⟩) lt_x).trans x4
          replace x5 := (hb.cell (p := ⟨w.heap.size, 5, none⟩) lt_x).trans x5
          replace lt_x : w.heap.size < w0.heap.size := Nat.lt_of_lt_of_le lt_x hb.size
          replace y0 := (hb.cell (p := ⟨w.heap.size + 1, 0, none⟩) lt_y).trans y0
          replace y1 := (hb.cell (p := ⟨w.heap.size + 1, 1, none⟩) lt_y).trans y1
          replace y2 := (hb.cell (p := ⟨w.heap.size + 1, 2, none⟩) lt_y).trans y2
          replace y3 := (hb.cell (p := ⟨w.heap.size + 1, 3, none⟩) lt_y).trans y3
          replace y4 := (hb.cell (p := ⟨w.heap.size + 1, 4, none⟩) lt_y).trans y4
          replace y5 := (hb.cell (p := ⟨w.heap.size + 1, 5, none⟩) lt_y).trans y5
          replace lt_y : w.heap.size + 1 < w0.heap.size := Nat.lt_of_lt_of_le lt_y hb.size
          replace TA := Lib.hid (TA.out.up hb)
          replace TD := Lib.hid (TD.out.up hb)
          replace HW := Lib.hid (HW.out.trans (hb.mono HW.out.size))
          clear hb
          go_wp2_with fail
          refine (small_any a _ _ w0 (by exact TA.out) (Nat.le_refl _)).mono ?_
          rintro e w1 ⟨rfl, hb⟩
          rw [Sa.out]
          replace x0 := (hb.cell (p := ⟨w.heap.size, 0, none⟩) lt_x).trans x0
          replace x1 := (hb.cell (p := ⟨w.heap.size, 1, none⟩) lt_x).trans x1
          replace x2 := (hb.cell (p := ⟨w.heap.size, 2, none⟩) lt_x).trans x2
          replace x3 := (hb.cell (p := ⟨w.heap.size, 3, none⟩) lt_x).trans x3
          replace x4 := (hb.cell (p := ⟨w.heap.size, 4, none⟩) lt_x).trans x4
          replace x5 := (hb.cell (p := ⟨w.heap.size, 5, none⟩) lt_x).trans x5
          replace lt_x : w.heap.size < w1.heap.size := Nat.lt_of_lt_of_le lt_x hb.size
          replace y0 := (hb.cell (p := ⟨w.heap.size + 1, 0, none⟩) lt_y).trans y0
          replace y1 := (hb.cell (p := ⟨w.heap.size + 1, 1, none⟩) lt_y).trans y1
          replace y2 := (hb.cell (p := ⟨w.heap.size + 1, 2, none⟩) lt_y).trans y2
          replace y3 := (hb.cell (p := ⟨w.heap.size + 1, 3, none⟩) lt_y).trans y3
          replace y4 := (hb.cell (p := ⟨w.heap.size + 1, 4, none⟩) lt_y).trans y4
          replace y5 := (hb.cell (p := ⟨w.heap.size + 1, 5, none⟩) lt_y).trans y5
          replace lt_y : w.heap.size + 1 < w1.heap.size := Nat.lt_of_lt_of_le lt_y hb.size
          replace TA := Lib.hid (TA.out.up hb)
          replace TD := Lib.hid (TD.out.up hb)
          replace HW := Lib.hid (HW.out.trans (hb.mono HW.out.size))
          clear hb
          go_wp2_with fail
          refine (small_any d _ _ w1 (by exact TD.out) (Nat.le_refl _)).mono ?_
          rintro e w2 ⟨rfl, hb⟩
          rw [Sd.out]
          replace x0 := (hb.cell (p := ⟨w.heap.size, 0, none⟩) lt_x).trans x0
          replace x1 := (hb.cell (p := ⟨w.heap.size, 1, none⟩) lt_x).trans x1
          replace x2 := (hb.cell (p := ⟨w.heap.size, 2, none⟩) lt_x).trans x2
          replace x3 := (hb.cell (p := ⟨w.heap.size, 3, none⟩) lt_x).trans x3
          replace x4 := (hb.cell (p := ⟨w.heap.size, 4, none⟩) lt_x).trans x4
          replace x5 := (hb.cell (p := ⟨w.heap.size, 5, none⟩) lt_x).trans x5
          replace lt_x : w.heap.size < w2.heap.size := Nat.lt_of_lt_of_le lt_x hb.size
          replace y0 := (hb.cell (p := ⟨w.heap.size + 1, 0, none⟩) lt_y).trans y0
          replace y1 := (hb.cell (p := ⟨w.heap.size + 1, 1, none⟩) lt_y).trans y1
          replace y2 := (hb.cell (p := ⟨w.heap.size + 1, 2, none⟩) lt_y).trans y2
          replace y3 := (hb.cell (p := ⟨w.heap.size + 1, 3, none⟩) lt_y).trans y3
          replace y4 := (hb.cell (p := ⟨w.heap.size + 1, 4, none⟩) lt_y).trans y4
          replace y5 := (hb.cell (p := ⟨w.heap.size + 1, 5, none⟩) lt_y).trans y5
          replace lt_y : w.heap.size + 1 < w2.heap.size := Nat.lt_of_lt_of_le lt_y hb.size
          replace TA := Lib.hid (TA.out.up hb)
          replace TD := Lib.hid (TD.out.up hb)
          replace HW := Lib.hid (HW.out.trans (hb.mono HW.out.size))
          clear hb
          go_wp2_with fail
          refine (cons_any a d _ _ _ w2 (by exact TA.out) (by exact TD.out) (Nat.le_refl _)).mono ?_
          rw [Ce.out, Pd.out]
          intro e w3 hr
          obtain ⟨pv, rfl, hb, hz, hi⟩ := hr.lo (Nat.le_refl _)
          have hv := hz H0.out
          clear hi hz
          subst hv
          simp only [zeroV]
          replace x0 := (hb.cell (p := ⟨w.heap.size, 0, none⟩) lt_x).trans x0
          replace x1 := (hb.cell (p := ⟨w.heap.size, 1, none⟩) lt_x).trans x1
          replace x2 := (hb.cell (p := ⟨w.heap.size, 2, none⟩) lt_x).trans x2
          replace x3 := (hb.cell (p := ⟨w.heap.size, 3, none⟩) lt_x).trans x3
          replace x4 := (hb.cell (p := ⟨w.heap.size, 4, none⟩) lt_x).trans x4
          replace x5 := (hb.cell (p := ⟨w.heap.size, 5, none⟩) lt_x).trans x5
          replace lt_x : w.heap.size < w3.heap.size := Nat.lt_of_lt_of_le lt_x hb.size
          replace y0 := (hb.cell (p := ⟨w.heap.size + 1, 0, none⟩) lt_y).trans y0
          replace y1 := (hb.cell (p := ⟨w.heap.size + 1, 1, none⟩) lt_y).trans y1
          replace y2 := (hb.cell (p := ⟨w.heap.size + 1, 2, none⟩) lt_y).trans y2
          replace y3 := (hb.cell (p := ⟨w.heap.size + 1, 3, none⟩) lt_y).trans y3
          replace y4 := (hb.cell (p := ⟨w.heap.size + 1, 4, none⟩) lt_y).trans y4
          replace y5 := (hb.cell (p := ⟨w.heap.size + 1, 5, none⟩) lt_y).trans y5
          replace lt_y : w.heap.size + 1 < w3.heap.size := Nat.lt_of_lt_of_le lt_y hb.size
          replace TA := Lib.hid (TA.out.up hb)
          replace TD := Lib.hid (TD.out.up hb)
          replace HW := Lib.hid (HW.out.trans (hb.mono HW.out.size))
          clear hb
          go_wp2_with fail
          obtain ⟨hbX, hsX, hkX⟩ := start_allocs [(#[.int .i64 0, .int .i64 0, .string ⟨#[]⟩, .slice none 0 0, .slice none 0 0, .slice none 0 0], 25)] w3
          have g0 := hkX 0 _ rfl
          set_option linter.unusedSimpArgs false in
          simp only [allocs, List.foldl_cons, List.foldl_nil, Nat.add_zero, List.length_cons, List.length_nil, Nat.zero_add, Nat.reduceAdd] at hbX hsX g0
          clear hkX
          generalize w3.alloc (.cells #[.int .i64 0, .int .i64 0, .string ⟨#[]⟩, .slice none 0 0, .slice none 0 0, .slice none 0 0] 25) = X1 at *
          have z0 : X1.cell? ⟨w3.heap.size, 0, none⟩ = some (.int .i64 0) := (g0.cell 0).trans rfl
          have z1 : X1.cell? ⟨w3.heap.size, 1, none⟩ = some (.int .i64 0) := (g0.cell 1).trans rfl
          have z2 : X1.cell? ⟨w3.heap.size, 2, none⟩ = some (.string ⟨#[]⟩) := (g0.cell 2).trans rfl
          have z3 : X1.cell? ⟨w3.heap.size, 3, none⟩ = some (.slice none 0 0) := (g0.cell 3).trans rfl
          have z4 : X1.cell? ⟨w3.heap.size, 4, none⟩ = some (.slice none 0 0) := (g0.cell 4).trans rfl
          have z5 : X1.cell? ⟨w3.heap.size, 5, none⟩ = some (.slice none 0 0) := (g0.cell 5).trans rfl
          have lt_z : w3.heap.size < X1.heap.size := by omega
          clear g0 hsX
          replace x0 := (hbX.cell (p := ⟨w.heap.size, 0, none⟩) lt_x).trans x0
          replace x1 := (hbX.cell (p := ⟨w.heap.size, 1, none⟩) lt_x).trans x1
          replace x2 := (hbX.cell (p := ⟨w.heap.size, 2, none⟩) lt_x).trans x2
          replace x3 := (hbX.cell (p := ⟨w.heap.size, 3, none⟩) lt_x).trans x3
          replace x4 := (hbX.cell (p := ⟨w.heap.size, 4, none⟩) lt_x).trans x4
          replace x5 := (hbX.cell (p := ⟨w.heap.size, 5, none⟩) lt_x).trans x5
          replace lt_x : w.heap.size < X1.heap.size := Nat.lt_of_lt_of_le lt_x hbX.size
          replace y0 := (hbX.cell (p := ⟨w.heap.size + 1, 0, none⟩) lt_y).trans y0
          replace y1 := (hbX.cell (p := ⟨w.heap.size + 1, 1, none⟩) lt_y).trans y1
          replace y2 := (hbX.cell (p := ⟨w.heap.size + 1, 2, none⟩) lt_y).trans y2
          replace y3 := (hbX.cell (p := ⟨w.heap.size + 1, 3, none⟩) lt_y).trans y3
          replace y4 := (hbX.cell (p := ⟨w.heap.size + 1, 4, none⟩) lt_y).trans y4
          replace y5 := (hbX.cell (p := ⟨w.heap.size + 1, 5, none⟩) lt_y).trans y5
          replace lt_y : w.heap.size + 1 < X1.heap.size := Nat.lt_of_lt_of_le lt_y hbX.size
          replace TA := Lib.hid (TA.out.up hbX)
          replace TD := Lib.hid (TD.out.up hbX)
          replace HW := Lib.hid (HW.out.trans (hbX.mono HW.out.size))
          clear hbX
          refine (car_any d _ _ X1 (by exact TD.out) (Nat.le_refl _)).mono ?_
          rw [Pe.out, Cx.out]
          intro e w4 hr
          obtain ⟨sv, rfl, hb, hz, hi⟩ := hr.lo (Nat.le_refl _)
          have hv := hz G0.out
          clear hi hz
          subst hv
          simp only [zeroV]
          replace x0 := (hb.cell (p := ⟨w.heap.size, 0, none⟩) lt_x).trans x0
          replace x1 := (hb.cell (p := ⟨w.heap.size, 1, none⟩) lt_x).trans x1
          replace x2 := (hb.cell (p := ⟨w.heap.size, 2, none⟩) lt_x).trans x2
          replace x3 := (hb.cell (p := ⟨w.heap.size, 3, none⟩) lt_x).trans x3
          replace x4 := (hb.cell (p := ⟨w.heap.size, 4, none⟩) lt_x).trans x4
          replace x5 := (hb.cell (p := ⟨w.heap.size, 5, none⟩) lt_x).trans x5
          replace lt_x : w.heap.size < w4.heap.size := Nat.lt_of_lt_of_le lt_x hb.size
          replace y0 := (hb.cell (p := ⟨w.heap.size + 1, 0, none⟩) lt_y).trans y0
          replace y1 := (hb.cell (p := ⟨w.heap.size + 1, 1, none⟩) lt_y).trans y1
          replace y2 := (hb.cell (p := ⟨w.heap.size + 1, 2, none⟩) lt_y).trans y2
          replace y3 := (hb.cell (p := ⟨w.heap.size + 1, 3, none⟩) lt_y).trans y3
          replace y4 := (hb.cell (p := ⟨w.heap.size + 1, 4, none⟩) lt_y).trans y4
          replace y5 := (hb.cell (p := ⟨w.heap.size + 1, 5, none⟩) lt_y).trans y5
          replace lt_y : w.heap.size + 1 < w4.heap.size := Nat.lt_of_lt_of_le lt_y hb.size
          replace z0 := (hb.cell (p := ⟨w3.heap.size, 0, none⟩) lt_z).trans z0
          replace z1 := (hb.cell (p := ⟨w3.heap.size, 1, none⟩) lt_z).trans z1
          replace z2 := (hb.cell (p := ⟨w3.heap.size, 2, none⟩) lt_z).trans z2
          replace z3 := (hb.cell (p := ⟨w3.heap.size, 3, none⟩) lt_z).trans z3
          replace z4 := (hb.cell (p := ⟨w3.heap.size, 4, none⟩) lt_z).trans z4
          replace z5 := (hb.cell (p := ⟨w3.heap.size, 5, none⟩) lt_z).trans z5
          replace lt_z : w3.heap.size < w4.heap.size := Nat.lt_of_lt_of_le lt_z hb.size
          replace TA := Lib.hid (TA.out.up hb)
          replace TD := Lib.hid (TD.out.up hb)
          replace HW := Lib.hid (HW.out.trans (hb.mono HW.out.size))
          clear hb
          go_wp2_with fail
          obtain ⟨hbX, hsX, hkX⟩ := start_allocs [(#[.int .i64 0, .int .i64 0, .string ⟨#[]⟩, .slice none 0 0, .slice none 0 0, .slice none 0 0], 25)] w4
          have g0 := hkX 0 _ rfl
          set_option linter.unusedSimpArgs false in
          simp only [allocs, List.foldl_cons, List.foldl_nil, Nat.add_zero, List.length_cons, List.length_nil, Nat.zero_add, Nat.reduceAdd] at hbX hsX g0
          clear hkX
          generalize w4.alloc (.cells #[.int .i64 0, .int .i64 0, .string ⟨#[]⟩, .slice none 0 0, .slice none 0 0, .slice none 0 0] 25) = X2 at *
          have e10 : X2.cell? ⟨w4.heap.size, 0, none⟩ = some (.int .i64 0) := (g0.cell 0).trans rfl
          have e11 : X2.cell? ⟨w4.heap.size, 1, none⟩ = some (.int .i64 0) := (g0.cell 1).trans rfl
          have e12 : X2.cell? ⟨w4.heap.size, 2, none⟩ = some (.string ⟨#[]⟩) := (g0.cell 2).trans rfl
          have e13 : X2.cell? ⟨w4.heap.size, 3, none⟩ = some (.slice none 0 0) := (g0.cell 3).trans rfl
          have e14 : X2.cell? ⟨w4.heap.size, 4, none⟩ = some (.slice none 0 0) := (g0.cell 4).trans rfl
          have e15 : X2.cell? ⟨w4.heap.size, 5, none⟩ = some (.slice none 0 0) := (g0.cell 5).trans rfl
          have lt_e1 : w4.heap.size < X2.heap.size := by omega
          clear g0 hsX
          replace x0 := (hbX.cell (p := ⟨w.heap.size, 0, none⟩) lt_x).trans x0
          replace x1 := (hbX.cell (p := ⟨w.heap.size, 1, none⟩) lt_x).trans x1
          replace x2 := (hbX.cell (p := ⟨w.heap.size, 2, none⟩) lt_x).trans x2
          replace x3 := (hbX.cell (p := ⟨w.heap.size, 3, none⟩) lt_x).trans x3
          replace x4 := (hbX.cell (p := ⟨w.heap.size, 4, none⟩) lt_x).trans x4
          replace x5 := (hbX.cell (p := ⟨w.heap.size, 5, none⟩) lt_x).trans x5
          replace lt_x : w.heap.size < X2.heap.size := Nat.lt_of_lt_of_le lt_x hbX.size
          replace y0 := (hbX.cell (p := ⟨w.heap.size + 1, 0, none⟩) lt_y).trans y0
          replace y1 := (hbX.cell (p := ⟨w.heap.size + 1, 1, none⟩) lt_y).trans y1
          replace y2 := (hbX.cell (p := ⟨w.heap.size + 1, 2, none⟩) lt_y).trans y2
          replace y3 := (hbX.cell (p := ⟨w.heap.size + 1, 3, none⟩) lt_y).trans y3
          replace y4 := (hbX.cell (p := ⟨w.heap.size + 1, 4, none⟩) lt_y).trans y4
          replace y5 := (hbX.cell (p := ⟨w.heap.size + 1, 5, none⟩) lt_y).trans y5
          replace lt_y : w.heap.size + 1 < X2.heap.size := Nat.lt_of_lt_of_le lt_y hbX.size
          replace z0 := (hbX.cell (p := ⟨w3.heap.size, 0, none⟩) lt_z).trans z0
          replace z1 := (hbX.cell (p := ⟨w3.heap.size, 1, none⟩) lt_z).trans z1
          replace z2 := (hbX.cell (p := ⟨w3.heap.size, 2, none⟩) lt_z).trans z2
          replace z3 := (hbX.cell (p := ⟨w3.heap.size, 3, none⟩) lt_z).trans z3
          replace z4 := (hbX.cell (p := ⟨w3.heap.size, 4, none⟩) lt_z).trans z4
          replace z5 := (hbX.cell (p := ⟨w3.heap.size, 5, none⟩) lt_z).trans z5
          replace lt_z : w3.heap.size < X2.heap.size := Nat.lt_of_lt_of_le lt_z hbX.size
          replace TA := Lib.hid (TA.out.up hbX)
          replace TD := Lib.hid (TD.out.up hbX)
          replace HW := Lib.hid (HW.out.trans (hbX.mono HW.out.size))
          clear hbX
          refine (cdr_any d _ _ X2 (by exact TD.out) (Nat.le_refl _)).mono ?_
          rw [Pe.out, Cy.out]
          intro e w5 hr
          obtain ⟨tv, rfl, hb, hz, hi⟩ := hr.lo (Nat.le_refl _)
          have hv := hz G0.out
          clear hi hz
          subst hv
          simp only [zeroV]
          replace x0 := (hb.cell (p := ⟨w.heap.size, 0, none⟩) lt_x).trans x0
          replace x1 := (hb.cell (p := ⟨w.heap.size, 1, none⟩) lt_x).trans x1
          replace x2 := (hb.cell (p := ⟨w.heap.size, 2, none⟩) lt_x).trans x2
          replace x3 := (hb.cell (p := ⟨w.heap.size, 3, none⟩) lt_x).trans x3
          replace x4 := (hb.cell (p := ⟨w.heap.size, 4, none⟩) lt_x).trans x4
          replace x5 := (hb.cell (p := ⟨w.heap.size, 5, none⟩) lt_x).trans x5
          replace lt_x : w.heap.size < w5.heap.size := Nat.lt_of_lt_of_le lt_x hb.size
          replace y0 := (hb.cell (p := ⟨w.heap.size + 1, 0, none⟩) lt_y).trans y0
          replace y1 := (hb.cell (p := ⟨w.heap.size + 1, 1, none⟩) lt_y).trans y1
          replace y2 := (hb.cell (p := ⟨w.heap.size + 1, 2, none⟩) lt_y).trans y2
          replace y3 := (hb.cell (p := ⟨w.heap.size + 1, 3, none⟩) lt_y).trans y3
          replace y4 := (hb.cell (p := ⟨w.heap.size + 1, 4, none⟩) lt_y).trans y4
          replace y5 := (hb.cell (p := ⟨w.heap.size + 1, 5, none⟩) lt_y).trans y5
          replace lt_y : w.heap.size + 1 < w5.heap.size := Nat.lt_of_lt_of_le lt_y hb.size
          replace z0 := (hb.cell (p := ⟨w3.heap.size, 0, none⟩) lt_z).trans z0
          replace z1 := (hb.cell (p := ⟨w3.heap.size, 1, none⟩) lt_z).trans z1
          replace z2 := (hb.cell (p := ⟨w3.heap.size, 2, none⟩) lt_z).trans z2
          replace z3 := (hb.cell (p := ⟨w3.heap.size, 3, none⟩) lt_z).trans z3
          replace z4 := (hb.cell (p := ⟨w3.heap.size, 4, none⟩) lt_z).trans z4
          replace z5 := (hb.cell (p := ⟨w3.heap.size, 5, none⟩) lt_z).trans z5
          replace lt_z : w3.heap.size < w5.heap.size := Nat.lt_of_lt_of_le lt_z hb.size
          replace e10 := (hb.cell (p := ⟨w4.heap.size, 0, none⟩) lt_e1).trans e10
          replace e11 := (hb.cell (p := ⟨w4.heap.size, 1, none⟩) lt_e1).trans e11
          replace e12 := (hb.cell (p := ⟨w4.heap.size, 2, none⟩) lt_e1).trans e12
          replace e13 := (hb.cell (p := ⟨w4.heap.size, 3, none⟩) lt_e1).trans e13
          replace e14 := (hb.cell (p := ⟨w4.heap.size, 4, none⟩) lt_e1).trans e14
          replace e15 := (hb.cell (p := ⟨w4.heap.size, 5, none⟩) lt_e1).trans e15
          replace lt_e1 : w4.heap.size < w5.heap.size := Nat.lt_of_lt_of_le lt_e1 hb.size
          replace TA := Lib.hid (TA.out.up hb)
          replace TD := Lib.hid (TD.out.up hb)
          replace HW := Lib.hid (HW.out.trans (hb.mono HW.out.size))
          clear hb
          go_wp2_with fail
          go_ret
          exact ⟨rfl, HW.out.trans ((bel_alloc _ _).mono HW.out.size)⟩
end Go.Proofs.Ytjmchodddobleaa.Da
