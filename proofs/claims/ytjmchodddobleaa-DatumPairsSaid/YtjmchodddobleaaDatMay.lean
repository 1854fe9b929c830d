/- Which texts are symbols', which data may be (P2.1): the walk. -/
import Derived.Test.YtjmchodddobleaaDatRWalk
import Derived.Deep.RegionHeld3
namespace Go.Proofs.Ytjmchodddobleaa.Da
open Go.ChangeShapes Go.WideShapes Go.ChangeAt Go.RowKit

theorem bel_drew (w : World) : Below w.heap.size w w.drew := ((Fr.refl (fun _ => False) w).drew).bel (fun _ _ h => h)
set_option maxRecDepth 100000 in
set_option maxHeartbeats 4000000 in
theorem may_any (d : Dt) (v : Value) (s : ByteArray) (w : World) (hd : IsDt w (Lo w.heap.size) d v) (hs : s.size ≤ maxLen) :
    Calls Try.prog 3 #[v, .string s] w fun e w' => e = .returned (.bool true) ∧ Below w.heap.size w w' := by
  have hd' := hd
  obtain ⟨dm, dcm, dl, dcl, dt, dct, rfl, _⟩ := hd'.open_
  have TD := Lib.hid hd
  clear hd hd'
  obtain ⟨sd, hsd⟩ : ∃ c, smallB d = c := ⟨_, rfl⟩
  have Sd := Lib.hid hsd
  obtain ⟨cs, hcs⟩ : ∃ c, symB s = c := ⟨_, rfl⟩
  have Cs := Lib.hid hcs
  obtain ⟨cd, hcd⟩ : ∃ c, chk d = c := ⟨_, rfl⟩
  have Cd := Lib.hid hcd
  have hbb : (cs == cs) = true := by simp
  have hcc : (cd == cd) = true := by simp
  clear hsd hcs hcd
  cases sd
  · have HW := Lib.hid (bel_refl w)
    go_enter Try.func3, Try.ntmps3
    go_wp2_with fail
    obtain ⟨hbX, hsX, hkX⟩ := start_allocs [(#[.int .i64 d.K, .int .i64 d.N, .string d.S, .slice dm d.M.length dcm, .slice dl d.L.length dcl, .slice dt d.T.length dct], 25)] w
    have g0 := hkX 0 _ rfl
    set_option linter.unusedSimpArgs false in
    simp only [allocs, List.foldl_cons, List.foldl_nil, Nat.add_zero, List.length_cons, List.length_nil, Nat.zero_add, Nat.reduceAdd] at hbX hsX g0
    clear hkX
    generalize w.alloc (.cells #[.int .i64 d.K, .int .i64 d.N, .string d.S, .slice dm d.M.length dcm, .slice dl d.L.length dcl, .slice dt d.T.length dct] 25) = X0 at *
    have y0 : X0.cell? ⟨w.heap.size, 0, none⟩ = some (.int .i64 d.K) := (g0.cell 0).trans rfl
    have y1 : X0.cell? ⟨w.heap.size, 1, none⟩ = some (.int .i64 d.N) := (g0.cell 1).trans rfl
    have y2 : X0.cell? ⟨w.heap.size, 2, none⟩ = some (.string d.S) := (g0.cell 2).trans rfl
    have y3 : X0.cell? ⟨w.heap.size, 3, none⟩ = some (.slice dm d.M.length dcm) := (g0.cell 3).trans rfl
    have y4 : X0.cell? ⟨w.heap.size, 4, none⟩ = some (.slice dl d.L.length dcl) := (g0.cell 4).trans rfl
    have y5 : X0.cell? ⟨w.heap.size, 5, none⟩ = some (.slice dt d.T.length dct) := (g0.cell 5).trans rfl
    have lt_y : w.heap.size < X0.heap.size := by omega
    clear g0 hsX
    replace TD := Lib.hid (TD.out.up hbX)
    replace HW := Lib.hid (HW.out.trans (hbX.mono HW.out.size))
    clear hbX
    refine (awake_any X0).mono ?_
    rintro e w0 ⟨rfl, hb⟩
    replace y0 := (hb.cell (p := ⟨w.heap.size, 0, none⟩) lt_y).trans y0
    replace y1 := (hb.cell (p := ⟨w.heap.size, 1, none⟩) lt_y).trans y1
    replace y2 := (hb.cell (p := ⟨w.heap.size, 2, none⟩) lt_y).trans y2
    replace y3 := (hb.cell (p := ⟨w.heap.size, 3, none⟩) lt_y).trans y3
    replace y4 := (hb.cell (p := ⟨w.heap.size, 4, none⟩) lt_y).trans y4
    replace y5 := (hb.cell (p := ⟨w.heap.size, 5, none⟩) lt_y).trans y5
    replace lt_y : w.heap.size < w0.heap.size := Nat.lt_of_lt_of_le lt_y hb.size
    replace TD := Lib.hid (TD.out.up hb)
    replace HW := Lib.hid (HW.out.trans (hb.mono HW.out.size))
    clear hb
    go_wp2_with fail
    refine (small_any d _ _ w0 (by exact TD.out) (Nat.le_refl _)).mono ?_
    rintro e w1 ⟨rfl, hb⟩
    rw [Sd.out]
    replace y0 := (hb.cell (p := ⟨w.heap.size, 0, none⟩) lt_y).trans y0
    replace y1 := (hb.cell (p := ⟨w.heap.size, 1, none⟩) lt_y).trans y1
    replace y2 := (hb.cell (p := ⟨w.heap.size, 2, none⟩) lt_y).trans y2
    replace y3 := (hb.cell (p := ⟨w.heap.size, 3, none⟩) lt_y).trans y3
    replace y4 := (hb.cell (p := ⟨w.heap.size, 4, none⟩) lt_y).trans y4
    replace y5 := (hb.cell (p := ⟨w.heap.size, 5, none⟩) lt_y).trans y5
    replace lt_y : w.heap.size < w1.heap.size := Nat.lt_of_lt_of_le lt_y hb.size
    replace TD := Lib.hid (TD.out.up hb)
    replace HW := Lib.hid (HW.out.trans (hb.mono HW.out.size))
    clear hb
    go_wp2_with fail
    refine (awake_any w1).mono ?_
    rintro e w2 ⟨rfl, hb⟩
    replace y0 := (hb.cell (p := ⟨w.heap.size, 0, none⟩) lt_y).trans y0
    replace y1 := (hb.cell (p := ⟨w.heap.size, 1, none⟩) lt_y).trans y1
    replace y2 := (hb.cell (p := ⟨w.heap.size, 2, none⟩) lt_y).trans y2
    replace y3 := (hb.cell (p := ⟨w.heap.size, 3, none⟩) lt_y).trans y3
    replace y4 := (hb.cell (p := ⟨w.heap.size, 4, none⟩) lt_y).trans y4
    replace y5 := (hb.cell (p := ⟨w.heap.size, 5, none⟩) lt_y).trans y5
    replace lt_y : w.heap.size < w2.heap.size := Nat.lt_of_lt_of_le lt_y hb.size
    replace TD := Lib.hid (TD.out.up hb)
    replace HW := Lib.hid (HW.out.trans (hb.mono HW.out.size))
    clear hb
    go_wp2_with fail
    go_ret
    exact ⟨rfl, HW.out⟩
  · have HW := Lib.hid (bel_refl w)
    go_enter Try.func3, Try.ntmps3
    go_wp2_with fail
    obtain ⟨hbX, hsX, hkX⟩ := start_allocs [(#[.int .i64 d.K, .int .i64 d.N, .string d.S, .slice dm d.M.length dcm, .slice dl d.L.length dcl, .slice dt d.T.length dct], 25)] w
    have g0 := hkX 0 _ rfl
    set_option linter.unusedSimpArgs false in
    simp only [allocs, List.foldl_cons, List.foldl_nil, Nat.add_zero, List.length_cons, List.length_nil, Nat.zero_add, Nat.reduceAdd] at hbX hsX g0
    clear hkX
    generalize w.alloc (.cells #[.int .i64 d.K, .int .i64 d.N, .string d.S, .slice dm d.M.length dcm, .slice dl d.L.length dcl, .slice dt d.T.length dct] 25) = X0 at *
    have y0 : X0.cell? ⟨w.heap.size, 0, none⟩ = some (.int .i64 d.K) := (g0.cell 0).trans rfl
    have y1 : X0.cell? ⟨w.heap.size, 1, none⟩ = some (.int .i64 d.N) := (g0.cell 1).trans rfl
    have y2 : X0.cell? ⟨w.heap.size, 2, none⟩ = some (.string d.S) := (g0.cell 2).trans rfl
    have y3 : X0.cell? ⟨w.heap.size, 3, none⟩ = some (.slice dm d.M.length dcm) := (g0.cell 3).trans rfl
    have y4 : X0.cell? ⟨w.heap.size, 4, none⟩ = some (.slice dl d.L.length dcl) := (g0.cell 4).trans rfl
    have y5 : X0.cell? ⟨w.heap.size, 5, none⟩ = some (.slice dt d.T.length dct) := (g0.cell 5).trans rfl
    have lt_y : w.heap.size < X0.heap.size := by omega
    clear g0 hsX
    replace TD := Lib.hid (TD.out.up hbX)
    replace HW := Lib.hid (HW.out.trans (hbX.mono HW.out.size))
    clear hbX
    refine (awake_any X0).mono ?_
    rintro e w0 ⟨rfl, hb⟩
    replace y0 := (hb.cell (p := ⟨w.heap.size, 0, none⟩) lt_y).trans y0
    replace y1 := (hb.cell (p := ⟨w.heap.size, 1, none⟩) lt_y).trans y1
    replace y2 := (hb.cell (p := ⟨w.heap.size, 2, none⟩) lt_y).trans y2
    replace y3 := (hb.cell (p := ⟨w.heap.size, 3, none⟩) lt_y).trans y3
    replace y4 := (hb.cell (p := ⟨w.heap.size, 4, none⟩) lt_y).trans y4
    replace y5 := (hb.cell (p := ⟨w.heap.size, 5, none⟩) lt_y).trans y5
    replace lt_y : w.heap.size < w0.heap.size := Nat.lt_of_lt_of_le lt_y hb.size
    replace TD := Lib.hid (TD.out.up hb)
    replace HW := Lib.hid (HW.out.trans (hb.mono HW.out.size))
    clear hb
    go_wp2_with fail
    refine (small_any d _ _ w0 (by exact TD.out) (Nat.le_refl _)).mono ?_
    rintro e w1 ⟨rfl, hb⟩
    rw [Sd.out]
    replace y0 := (hb.cell (p := ⟨w.heap.size, 0, none⟩) lt_y).trans y0
    replace y1 := (hb.cell (p := ⟨w.heap.size, 1, none⟩) lt_y).trans y1
    replace y2 := (hb.cell (p := ⟨w.heap.size, 2, none⟩) lt_y).trans y2
    replace y3 := (hb.cell (p := ⟨w.heap.size, 3, none⟩) lt_y).trans y3
    replace y4 := (hb.cell (p := ⟨w.heap.size, 4, none⟩) lt_y).trans y4
    replace y5 := (hb.cell (p := ⟨w.heap.size, 5, none⟩) lt_y).trans y5
    replace lt_y : w.heap.size < w1.heap.size := Nat.lt_of_lt_of_le lt_y hb.size
    replace TD := Lib.hid (TD.out.up hb)
    replace HW := Lib.hid (HW.out.trans (hb.mono HW.out.size))
    clear hb
    go_wp2_with fail
    have hb := bel_drew w1
    replace y0 := (hb.cell (p := ⟨w.heap.size, 0, none⟩) lt_y).trans y0
    replace y1 := (hb.cell (p := ⟨w.heap.size, 1, none⟩) lt_y).trans y1
    replace y2 := (hb.cell (p := ⟨w.heap.size, 2, none⟩) lt_y).trans y2
    replace y3 := (hb.cell (p := ⟨w.heap.size, 3, none⟩) lt_y).trans y3
    replace y4 := (hb.cell (p := ⟨w.heap.size, 4, none⟩) lt_y).trans y4
    replace y5 := (hb.cell (p := ⟨w.heap.size, 5, none⟩) lt_y).trans y5
    replace lt_y : w.heap.size < w1.drew.heap.size := Nat.lt_of_lt_of_le lt_y hb.size
    replace TD := Lib.hid (TD.out.up hb)
    replace HW := Lib.hid (HW.out.trans (hb.mono HW.out.size))
    clear hb
    go_region_held3 (fun w' => w'.cell? ⟨w.heap.size, 0, none⟩ = some (.int .i64 d.K) ∧ w'.cell? ⟨w.heap.size, 1, none⟩ = some (.int .i64 d.N) ∧ w'.cell? ⟨w.heap.size, 2, none⟩ = some (.string d.S) ∧ w'.cell? ⟨w.heap.size, 3, none⟩ = some (.slice dm d.M.length dcm) ∧ w'.cell? ⟨w.heap.size, 4, none⟩ = some (.slice dl d.L.length dcl) ∧ w'.cell? ⟨w.heap.size, 5, none⟩ = some (.slice dt d.T.length dct)) (first | (with_reducible exact ⟨y0, y1, y2, y3, y4, y5⟩) | go_keep)
      (first
        | (go_at_call 12
           refine (symbol_any s _ hs).mono ?_
           rintro e w9 ⟨rfl, rfl⟩
           rw [Cs.out])
        | (go_at_call 13
           refine (rsymbol_any s _ hs).mono ?_
           rintro e w9 ⟨rfl, rfl⟩
           rw [Cs.out])
        | (go_at_call 14
           refine (check_any d _ _ _ (by exact TD.out) (Nat.le_refl _)).mono ?_
           rintro e w2 ⟨rfl, hb⟩
           rw [Cd.out]
           replace y0 := (hb.cell (p := ⟨w.heap.size, 0, none⟩) lt_y).trans y0
           replace y1 := (hb.cell (p := ⟨w.heap.size, 1, none⟩) lt_y).trans y1
           replace y2 := (hb.cell (p := ⟨w.heap.size, 2, none⟩) lt_y).trans y2
           replace y3 := (hb.cell (p := ⟨w.heap.size, 3, none⟩) lt_y).trans y3
           replace y4 := (hb.cell (p := ⟨w.heap.size, 4, none⟩) lt_y).trans y4
           replace y5 := (hb.cell (p := ⟨w.heap.size, 5, none⟩) lt_y).trans y5
           replace lt_y : w.heap.size < w2.heap.size := Nat.lt_of_lt_of_le lt_y hb.size
           replace TD := Lib.hid (TD.out.up hb)
           replace HW := Lib.hid (HW.out.trans (hb.mono HW.out.size))
           clear hb
           skip)
        | (go_at_call 15
           refine (rcheck_any d _ _ _ (by exact TD.out) (Nat.le_refl _)).mono ?_
           rintro e w3 ⟨rfl, hb⟩
           rw [Cd.out]
           replace y0 := (hb.cell (p := ⟨w.heap.size, 0, none⟩) lt_y).trans y0
           replace y1 := (hb.cell (p := ⟨w.heap.size, 1, none⟩) lt_y).trans y1
           replace y2 := (hb.cell (p := ⟨w.heap.size, 2, none⟩) lt_y).trans y2
           replace y3 := (hb.cell (p := ⟨w.heap.size, 3, none⟩) lt_y).trans y3
           replace y4 := (hb.cell (p := ⟨w.heap.size, 4, none⟩) lt_y).trans y4
           replace y5 := (hb.cell (p := ⟨w.heap.size, 5, none⟩) lt_y).trans y5
           replace lt_y : w.heap.size < w3.heap.size := Nat.lt_of_lt_of_le lt_y hb.size
           replace TD := Lib.hid (TD.out.up hb)
           replace HW := Lib.hid (HW.out.trans (hb.mono HW.out.size))
           clear hb
           skip))
    go_wp2_with fail
    go_ret
    exact ⟨rfl, HW.out⟩
end Go.Proofs.Ytjmchodddobleaa.Da
