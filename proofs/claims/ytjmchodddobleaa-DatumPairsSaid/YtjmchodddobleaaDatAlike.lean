/- Data that are alike: the law's own word. -/
import Derived.Test.YtjmchodddobleaaDatRSame
import Derived.Test.YtjmchodddobleaaDatMay
namespace Go.Proofs.Ytjmchodddobleaa.Da
open Go.ChangeShapes Go.WideShapes Go.ChangeAt Go.RowKit
set_option maxRecDepth 100000

def alikeB (a b : Dt) : Bool := (chk a == 0 && eqD a b) || (zeroB a && zeroB b)
set_option maxHeartbeats 2000000 in
theorem alike_any (a b : Dt) (va vb : Value) (w : World) (ha : IsDt w (Lo w.heap.size) a va) (hb : IsDt w (Lo w.heap.size) b vb) :
    Calls Try.prog 24 #[va, vb] w fun e w' => e = .returned (.bool (alikeB a b)) ∧ Below w.heap.size w w' := by
  have ha' := ha
  have hb' := hb
  obtain ⟨am, acm, al, acl, at', act, rfl, _⟩ := ha'.open_
  obtain ⟨dm, dcm, dl, dcl, dt, dct, rfl, _⟩ := hb'.open_
  have TA := Lib.hid ha
  have TD := Lib.hid hb
  clear ha hb ha' hb'
  unfold alikeB
  obtain ⟨c1, h1⟩ : ∃ c, (chk a == 0 && eqD a b) = c := ⟨_, rfl⟩
  obtain ⟨c2, h2⟩ : ∃ c, zeroB a = c := ⟨_, rfl⟩
  obtain ⟨c3, h3⟩ : ∃ c, zeroB b = c := ⟨_, rfl⟩
  rw [h1, h2, h3]
  have H1 := Lib.hid h1
  have H2 := Lib.hid h2
  have H3 := Lib.hid h3
  clear h1 h2 h3
  cases c1
  · cases c2
    · have HW := Lib.hid (bel_refl w)
      go_enter Try.func24, Try.ntmps24
      go_wp2_with fail
      obtain ⟨hbX, hsX, hkX⟩ := start_allocs [(#[.int .i64 a.K, .int .i64 a.N, .string a.S, .slice am a.M.length acm, .slice al a.L.length acl, .slice at' a.T.length act], 25), (#[.int .i64 b.K, .int .i64 b.N, .string b.S, .slice dm b.M.length dcm, .slice dl b.L.length dcl, .slice dt b.T.length dct], 25)] w
      have g0 := hkX 0 _ rfl
      have g1 := hkX 1 _ rfl
      set_option linter.unusedSimpArgs false in
      simp only [allocs, List.foldl_cons, List.foldl_nil, Nat.add_zero, List.length_cons, List.length_nil, Nat.zero_add, Nat.reduceAdd] at hbX hsX g0 g1
      clear hkX
      generalize (w.alloc (.cells #[.int .i64 a.K, .int .i64 a.N, .string a.S, .slice am a.M.length acm, .slice al a.L.length acl, .slice at' a.T.length act] 25)).alloc (.cells #[.int .i64 b.K, .int .i64 b.N, .string b.S, .slice dm b.M.length dcm, .slice dl b.L.length dcl, .slice dt b.T.length dct] 25) = X0 at *
      have x0 : X0.cell? ⟨w.heap.size, 0, none⟩ = some (.int .i64 a.K) := (g0.cell 0).trans rfl
      have x1 : X0.cell? ⟨w.heap.size, 1, none⟩ = some (.int .i64 a.N) := (g0.cell 1).trans rfl
      have x2 : X0.cell? ⟨w.heap.size, 2, none⟩ = some (.string a.S) := (g0.cell 2).trans rfl
      have x3 : X0.cell? ⟨w.heap.size, 3, none⟩ = some (.slice am a.M.length acm) := (g0.cell 3).trans rfl
      have x4 : X0.cell? ⟨w.heap.size, 4, none⟩ = some (.slice al a.L.length acl) := (g0.cell 4).trans rfl
      have x5 : X0.cell? ⟨w.heap.size, 5, none⟩ = some (.slice at' a.T.length act) := (g0.cell 5).trans rfl
      have lt_x : w.heap.size < X0.heap.size := by omega
      have y0 : X0.cell? ⟨w.heap.size + 1, 0, none⟩ = some (.int .i64 b.K) := (g1.cell 0).trans rfl
      have y1 : X0.cell? ⟨w.heap.size + 1, 1, none⟩ = some (.int .i64 b.N) := (g1.cell 1).trans rfl
      have y2 : X0.cell? ⟨w.heap.size + 1, 2, none⟩ = some (.string b.S) := (g1.cell 2).trans rfl
      have y3 : X0.cell? ⟨w.heap.size + 1, 3, none⟩ = some (.slice dm b.M.length dcm) := (g1.cell 3).trans rfl
      have y4 : X0.cell? ⟨w.heap.size + 1, 4, none⟩ = some (.slice dl b.L.length dcl) := (g1.cell 4).trans rfl
      have y5 : X0.cell? ⟨w.heap.size + 1, 5, none⟩ = some (.slice dt b.T.length dct) := (g1.cell 5).trans rfl
      have lt_y : w.heap.size + 1 < X0.heap.size := by omega
      clear g0 g1 hsX
      replace TA := Lib.hid (TA.out.up hbX)
      replace TD := Lib.hid (TD.out.up hbX)
      replace HW := Lib.hid (HW.out.trans (hbX.mono HW.out.size))
      clear hbX
      refine (rsame_any a b _ _ _ X0 (by exact TA.out) (by exact TD.out) (Nat.le_refl _)).mono ?_
      rintro e w0 ⟨rfl, hb⟩
      rw [H1.out]
      replace x0 := (hb.cell (p := ⟨w.heap.size, 0, none⟩) lt_x).trans x0
      replace x1 := (hb.cell (p := ⟨w.heap.size, 1, none⟩) lt_x).trans x1
      replace x2 := (hb.cell (p := ⟨w.heap.size, 2, none⟩) lt_x).trans x2
      replace x3 := (hb.cell (p := ⟨w.heap.size, 3, none⟩) lt_x).trans x3
      replace x4 := (hb.cell (p := ⟨w.heap.size, 4, none⟩) lt_x).trans x4
      replace x5 := (hb.cell (p := ⟨w.heap.size, 5, none⟩) lt_x).trans x5
      replace lt_x : w.heap.size < w0.heap.size := Nat.lt_of_lt_of_le lt_x hb.size
      replace y0 := (hb.cell (p := ⟨w.heap.size + 1, 0, none⟩) lt_y).trans y0
      replace y1 := (hb.cell (p := ⟨w.heap.size + 1, 1, none⟩) lt_y).trans y1
      replace y2 := (hb.cell (p := ⟨w.heap.size + 1, 2, none⟩) lt_y).trans y2
      replace y3 := (hb.cell (p := ⟨w.heap.size + 1, 3, none⟩) lt_y).trans y3
      replace y4 := (hb.cell (p := ⟨w.heap.size + 1, 4, none⟩) lt_y).trans y4
      replace y5 := (hb.cell (p := ⟨w.heap.size + 1, 5, none⟩) lt_y).trans y5
      replace lt_y : w.heap.size + 1 < w0.heap.size := Nat.lt_of_lt_of_le lt_y hb.size
      replace TA := Lib.hid (TA.out.up hb)
      replace TD := Lib.hid (TD.out.up hb)
      replace HW := Lib.hid (HW.out.trans (hb.mono HW.out.size))
      clear hb
      go_wp2_with fail
      refine (zero_any a _ _ w0 (by exact TA.out) (Nat.le_refl _)).mono ?_
      rintro e w1 ⟨rfl, hb⟩
      rw [H2.out]
      replace x0 := (hb.cell (p := ⟨w.heap.size, 0, none⟩) lt_x).trans x0
      replace x1 := (hb.cell (p := ⟨w.heap.size, 1, none⟩) lt_x).trans x1
      replace x2 := (hb.cell (p := ⟨w.heap.size, 2, none⟩) lt_x).trans x2
      replace x3 := (hb.cell (p := ⟨w.heap.size, 3, none⟩) lt_x).trans x3
      replace x4 := (hb.cell (p := ⟨w.heap.size, 4, none⟩) lt_x).trans x4
      replace x5 := (hb.cell (p := ⟨w.heap.size, 5, none⟩) lt_x).trans x5
      replace lt_x : w.heap.size < w1.heap.size := Nat.lt_of_lt_of_le lt_x hb.size
      replace y0 := (hb.cell (p := ⟨w.heap.size + 1, 0, none⟩) lt_y).trans y0
      replace y1 := (hb.cell (p := ⟨w.heap.size + 1, 1, none⟩) lt_y).trans y1
      replace y2 := (hb.cell (p := ⟨w.heap.size + 1, 2, none⟩) lt_y).trans y2
      replace y3 := (hb.cell (p := ⟨w.heap.size + 1, 3, none⟩) lt_y).trans y3
      replace y4 := (hb.cell (p := ⟨w.heap.size + 1, 4, none⟩) lt_y).trans y4
      replace y5 := (hb.cell (p := ⟨w.heap.size + 1, 5, none⟩) lt_y).trans y5
      replace lt_y : w.heap.size + 1 < w1.heap.size := Nat.lt_of_lt_of_le lt_y hb.size
      replace TA := Lib.hid (TA.out.up hb)
      replace TD := Lib.hid (TD.out.up hb)
      replace HW := Lib.hid (HW.out.trans (hb.mono HW.out.size))
      clear hb
      go_wp2_with fail
      go_ret
      exact ⟨rfl, HW.out⟩
    · have HW := Lib.hid (bel_refl w)
      go_enter Try.func24, Try.ntmps24
      go_wp2_with fail
      obtain ⟨hbX, hsX, hkX⟩ := start_allocs [(#[.int .i64 a.K, .int .i64 a.N, .string a.S, .slice am a.M.length acm, .slice al a.L.length acl, .slice at' a.T.length act], 25), (#[.int .i64 b.K, .int .i64 b.N, .string b.S, .slice dm b.M.length dcm, .slice dl b.L.length dcl, .slice dt b.T.length dct], 25)] w
      have g0 := hkX 0 _ rfl
      have g1 := hkX 1 _ rfl
      set_option linter.unusedSimpArgs false in
      simp only [allocs, List.foldl_cons, List.foldl_nil, Nat.add_zero, List.length_cons, List.length_nil, Nat.zero_add, Nat.reduceAdd] at hbX hsX g0 g1
      clear hkX
      generalize (w.alloc (.cells #[.int .i64 a.K, .int .i64 a.N, .string a.S, .slice am a.M.length acm, .slice al a.L.length acl, .slice at' a.T.length act] 25)).alloc (.cells #[.int .i64 b.K, .int .i64 b.N, .string b.S, .slice dm b.M.length dcm, .slice dl b.L.length dcl, .slice dt b.T.length dct] 25) = X0 at *
      have x0 : X0.cell? ⟨w.heap.size, 0, none⟩ = some (.int .i64 a.K) := (g0.cell 0).trans rfl
      have x1 : X0.cell? ⟨w.heap.size, 1, none⟩ = some (.int .i64 a.N) := (g0.cell 1).trans rfl
      have x2 : X0.cell? ⟨w.heap.size, 2, none⟩ = some (.string a.S) := (g0.cell 2).trans rfl
      have x3 : X0.cell? ⟨w.heap.size, 3, none⟩ = some (.slice am a.M.length acm) := (g0.cell 3).trans rfl
      have x4 : X0.cell? ⟨w.heap.size, 4, none⟩ = some (.slice al a.L.length acl) := (g0.cell 4).trans rfl
      have x5 : X0.cell? ⟨w.heap.size, 5, none⟩ = some (.slice at' a.T.length act) := (g0.cell 5).trans rfl
      have lt_x : w.heap.size < X0.heap.size := by omega
      have y0 : X0.cell? ⟨w.heap.size + 1, 0, none⟩ = some (.int .i64 b.K) := (g1.cell 0).trans rfl
      have y1 : X0.cell? ⟨w.heap.size + 1, 1, none⟩ = some (.int .i64 b.N) := (g1.cell 1).trans rfl
      have y2 : X0.cell? ⟨w.heap.size + 1, 2, none⟩ = some (.string b.S) := (g1.cell 2).trans rfl
      have y3 : X0.cell? ⟨w.heap.size + 1, 3, none⟩ = some (.slice dm b.M.length dcm) := (g1.cell 3).trans rfl
      have y4 : X0.cell? ⟨w.heap.size + 1, 4, none⟩ = some (.slice dl b.L.length dcl) := (g1.cell 4).trans rfl
      have y5 : X0.cell? ⟨w.heap.size + 1, 5, none⟩ = some (.slice dt b.T.length dct) := (g1.cell 5).trans rfl
      have lt_y : w.heap.size + 1 < X0.heap.size := by omega
      clear g0 g1 hsX
      replace TA := Lib.hid (TA.out.up hbX)
      replace TD := Lib.hid (TD.out.up hbX)
      replace HW := Lib.hid (HW.out.trans (hbX.mono HW.out.size))
      clear hbX
      refine (rsame_any a b _ _ _ X0 (by exact TA.out) (by exact TD.out) (Nat.le_refl _)).mono ?_
      rintro e w0 ⟨rfl, hb⟩
      rw [H1.out]
      replace x0 := (hb.cell (p := ⟨w.heap.size, 0, none⟩) lt_x).trans x0
      replace x1 := (hb.cell (p := ⟨w.heap.size, 1, none⟩) lt_x).trans x1
      replace x2 := (hb.cell (p := ⟨w.heap.size, 2, none⟩) lt_x).trans x2
      replace x3 := (hb.cell (p := ⟨w.heap.size, 3, none⟩) lt_x).trans x3
      replace x4 := (hb.cell (p := ⟨w.heap.size, 4, none⟩) lt_x).trans x4
      replace x5 := (hb.cell (p := ⟨w.heap.size, 5, none⟩) lt_x).trans x5
      replace lt_x : w.heap.size < w0.heap.size := Nat.lt_of_lt_of_le lt_x hb.size
      replace y0 := (hb.cell (p := ⟨w.heap.size + 1, 0, none⟩) lt_y).trans y0
      replace y1 := (hb.cell (p := ⟨w.heap.size + 1, 1, none⟩) lt_y).trans y1
      replace y2 := (hb.cell (p := ⟨w.heap.size + 1, 2, none⟩) lt_y).trans y2
      replace y3 := (hb.cell (p := ⟨w.heap.size + 1, 3, none⟩) lt_y).trans y3
      replace y4 := (hb.cell (p := ⟨w.heap.size + 1, 4, none⟩) lt_y).trans y4
      replace y5 := (hb.cell (p := ⟨w.heap.size + 1, 5, none⟩) lt_y).trans y5
      replace lt_y : w.heap.size + 1 < w0.heap.size := Nat.lt_of_lt_of_le lt_y hb.size
      replace TA := Lib.hid (TA.out.up hb)
      replace TD := Lib.hid (TD.out.up hb)
      replace HW := Lib.hid (HW.out.trans (hb.mono HW.out.size))
      clear hb
      go_wp2_with fail
      refine (zero_any a _ _ w0 (by exact TA.out) (Nat.le_refl _)).mono ?_
      rintro e w1 ⟨rfl, hb⟩
      rw [H2.out]
      replace x0 := (hb.cell (p := ⟨w.heap.size, 0, none⟩) lt_x).trans x0
      replace x1 := (hb.cell (p := ⟨w.heap.size, 1, none⟩) lt_x).trans x1
      replace x2 := (hb.cell (p := ⟨w.heap.size, 2, none⟩) lt_x).trans x2
      replace x3 := (hb.cell (p := ⟨w.heap.size, 3, none⟩) lt_x).trans x3
      replace x4 := (hb.cell (p := ⟨w.heap.size, 4, none⟩) lt_x).trans x4
      replace x5 := (hb.cell (p := ⟨w.heap.size, 5, none⟩) lt_x).trans x5
      replace lt_x : w.heap.size < w1.heap.size := Nat.lt_of_lt_of_le lt_x hb.size
      replace y0 := (hb.cell (p := ⟨w.heap.size + 1, 0, none⟩) lt_y).trans y0
      replace y1 := (hb.cell (p := ⟨w.heap.size + 1, 1, none⟩) lt_y).trans y1
      replace y2 := (hb.cell (p := ⟨w.heap.size + 1, 2, none⟩) lt_y).trans y2
      replace y3 := (hb.cell (p := ⟨w.heap.size + 1, 3, none⟩) lt_y).trans y3
      replace y4 := (hb.cell (p := ⟨w.heap.size + 1, 4, none⟩) lt_y).trans y4
      replace y5 := (hb.cell (p := ⟨w.heap.size + 1, 5, none⟩) lt_y).trans y5
      replace lt_y : w.heap.size + 1 < w1.heap.size := Nat.lt_of_lt_of_le lt_y hb.size
      replace TA := Lib.hid (TA.out.up hb)
      replace TD := Lib.hid (TD.out.up hb)
      replace HW := Lib.hid (HW.out.trans (hb.mono HW.out.size))
      clear hb
      go_wp2_with fail
      refine (zero_any b _ _ w1 (by exact TD.out) (Nat.le_refl _)).mono ?_
      rintro e w2 ⟨rfl, hb⟩
      rw [H3.out]
      replace x0 := (hb.cell (p := ⟨w.heap.size, 0, none⟩) lt_x).trans x0
      replace x1 := (hb.cell (p := ⟨w.heap.size, 1, none⟩) lt_x).trans x1
      replace x2 := (hb.cell (p := ⟨w.heap.size, 2, none⟩) lt_x).trans x2
      replace x3 := (hb.cell (p := ⟨w.heap.size, 3, none⟩) lt_x).trans x3
      replace x4 := (hb.cell (p := ⟨w.heap.size, 4, none⟩) lt_x).trans x4
      replace x5 := (hb.cell (p := ⟨w.heap.size, 5, none⟩) lt_x).trans x5
      replace lt_x : w.heap.size < w2.heap.size := Nat.lt_of_lt_of_le lt_x hb.size
      replace y0 := (hb.cell (p := ⟨w.heap.size + 1, 0, none⟩) lt_y).trans y0
      replace y1 := (hb.cell (p := ⟨w.heap.size + 1, 1, none⟩) lt_y).trans y1
      replace y2 := (hb.cell (p := ⟨w.heap.size + 1, 2, none⟩) lt_y).trans y2
      replace y3 := (hb.cell (p := ⟨w.heap.size + 1, 3, none⟩) lt_y).trans y3
      replace y4 := (hb.cell (p := ⟨w.heap.size + 1, 4, none⟩) lt_y).trans y4
      replace y5 := (hb.cell (p := ⟨w.heap.size + 1, 5, none⟩) lt_y).trans y5
      replace lt_y : w.heap.size + 1 < w2.heap.size := Nat.lt_of_lt_of_le lt_y hb.size
      replace TA := Lib.hid (TA.out.up hb)
      replace TD := Lib.hid (TD.out.up hb)
      replace HW := Lib.hid (HW.out.trans (hb.mono HW.out.size))
      clear hb
      go_wp2_with fail
      go_ret
      exact ⟨rfl, HW.out⟩
  · have HW := Lib.hid (bel_refl w)
    go_enter Try.func24, Try.ntmps24
    go_wp2_with fail
    obtain ⟨hbX, hsX, hkX⟩ := start_allocs [(#[.int .i64 a.K, .int .i64 a.N, .string a.S, .slice am a.M.length acm, .slice al a.L.length acl, .slice at' a.T.length act], 25), (#[.int .i64 b.K, .int .i64 b.N, .string b.S, .slice dm b.M.length dcm, .slice dl b.L.length dcl, .slice dt b.T.length dct], 25)] w
    have g0 := hkX 0 _ rfl
    have g1 := hkX 1 _ rfl
    set_option linter.unusedSimpArgs false in
    simp only [allocs, List.foldl_cons, List.foldl_nil, Nat.add_zero, List.length_cons, List.length_nil, Nat.zero_add, Nat.reduceAdd] at hbX hsX g0 g1
    clear hkX
    generalize (w.alloc (.cells #[.int .i64 a.K, .int .i64 a.N, .string a.S, .slice am a.M.length acm, .slice al a.L.length acl, .slice at' a.T.length act] 25)).alloc (.cells #[.int .i64 b.K, .int .i64 b.N, .string b.S, .slice dm b.M.length dcm, .slice dl b.L.length dcl, .slice dt b.T.length dct] 25) = X0 at *
    have x0 : X0.cell? ⟨w.heap.size, 0, none⟩ = some (.int .i64 a.K) := (g0.cell 0).trans rfl
    have x1 : X0.cell? ⟨w.heap.size, 1, none⟩ = some (.int .i64 a.N) := (g0.cell 1).trans rfl
    have x2 : X0.cell? ⟨w.heap.size, 2, none⟩ = some (.string a.S) := (g0.cell 2).trans rfl
    have x3 : X0.cell? ⟨w.heap.size, 3, none⟩ = some (.slice am a.M.length acm) := (g0.cell 3).trans rfl
    have x4 : X0.cell? ⟨w.heap.size, 4, none⟩ = some (.slice al a.L.length acl) := (g0.cell 4).trans rfl
    have x5 : X0.cell? ⟨w.heap.size, 5, none⟩ = some (.slice at' a.T.length act) := (g0.cell 5).trans rfl
    have lt_x : w.heap.size < X0.heap.size := by omega
    have y0 : X0.cell? ⟨w.heap.size + 1, 0, none⟩ = some (.int .i64 b.K) := (g1.cell 0).trans rfl
    have y1 : X0.cell? ⟨w.heap.size + 1, 1, none⟩ = some (.int .i64 b.N) := (g1.cell 1).trans rfl
    have y2 : X0.cell? ⟨w.heap.size + 1, 2, none⟩ = some (.string b.S) := (g1.cell 2).trans rfl
    have y3 : X0.cell? ⟨w.heap.size + 1, 3, none⟩ = some (.slice dm b.M.length dcm) := (g1.cell 3).trans rfl
    have y4 : X0.cell? ⟨w.heap.size + 1, 4, none⟩ = some (.slice dl b.L.length dcl) := (g1.cell 4).trans rfl
    have y5 : X0.cell? ⟨w.heap.size + 1, 5, none⟩ = some (.slice dt b.T.length dct) := (g1.cell 5).trans rfl
    have lt_y : w.heap.size + 1 < X0.heap.size := by omega
    clear g0 g1 hsX
    replace TA := Lib.hid (TA.out.up hbX)
    replace TD := Lib.hid (TD.out.up hbX)
    replace HW := Lib.hid (HW.out.trans (hbX.mono HW.out.size))
    clear hbX
    refine (rsame_any a b _ _ _ X0 (by exact TA.out) (by exact TD.out) (Nat.le_refl _)).mono ?_
    rintro e w0 ⟨rfl, hb⟩
    rw [H1.out]
    replace x0 := (hb.cell (p := ⟨w.heap.size, 0, none⟩) lt_x).trans x0
    replace x1 := (hb.cell (p := ⟨w.heap.size, 1, none⟩) lt_x).trans x1
    replace x2 := (hb.cell (p := ⟨w.heap.size, 2, none⟩) lt_x).trans x2
    replace x3 := (hb.cell (p := ⟨w.heap.size, 3, none⟩) lt_x).trans x3
    replace x4 := (hb.cell (p := ⟨w.heap.size, 4, none⟩) lt_x).trans x4
    replace x5 := (hb.cell (p := ⟨w.heap.size, 5, none⟩) lt_x).trans x5
    replace lt_x : w.heap.size < w0.heap.size := Nat.lt_of_lt_of_le lt_x hb.size
    replace y0 := (hb.cell (p := ⟨w.heap.size + 1, 0, none⟩) lt_y).trans y0
    replace y1 := (hb.cell (p := ⟨w.heap.size + 1, 1, none⟩) lt_y).trans y1
    replace y2 := (hb.cell (p := ⟨w.heap.size + 1, 2, none⟩) lt_y).trans y2
    replace y3 := (hb.cell (p := ⟨w.heap.size + 1, 3, none⟩) lt_y).trans y3
    replace y4 := (hb.cell (p := ⟨w.heap.size + 1, 4, none⟩) lt_y).trans y4
    replace y5 := (hb.cell (p := ⟨w.heap.size + 1, 5, none⟩) lt_y).trans y5
    replace lt_y : w.heap.size + 1 < w0.heap.size := Nat.lt_of_lt_of_le lt_y hb.size
    replace TA := Lib.hid (TA.out.up hb)
    replace TD := Lib.hid (TD.out.up hb)
    replace HW := Lib.hid (HW.out.trans (hb.mono HW.out.size))
    clear hb
    go_wp2_with fail
    go_ret
    exact ⟨rfl, HW.out⟩
end Go.Proofs.Ytjmchodddobleaa.Da
