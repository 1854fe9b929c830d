/- How many parts, how deep, what is the same; copies (P2.2, R3): the walk. -/
import Derived.Test.YtlppjiogbbchpaaDatAlike
import Derived.Test.YtlppjiogbbchpaaDatRClone
import Derived.Test.YtlppjiogbbchpaaDatCountsMath
import Derived.Deep.RegionHeld3
namespace Go.Proofs.Ytlppjiogbbchpaa.Da
open Go.ChangeShapes Go.WideShapes Go.ChangeAt Go.RowKit
set_option maxRecDepth 100000

theorem alike_refl (d : Dt) : alikeB (cloneD d) (cloneD d) = true := by
  unfold cloneD
  by_cases h : chk d = 0
  · rw [if_pos h]; unfold alikeB; rw [h, eqD_refl]; rfl
  · rw [if_neg h]; decide +kernel
theorem plain_zero : plainD zeroD = zeroD := rfl
theorem alike_plain (d : Dt) : alikeB (plainD (cloneD d)) (plainD (cloneD d)) = true := by
  unfold cloneD
  by_cases h : chk d = 0
  · rw [if_pos h]; unfold alikeB; rw [(plain_valid h).1, eqD_refl]; rfl
  · rw [if_neg h]; decide +kernel
theorem own_le {w : World} {d : Dt} {lo hi : Nat} {v : Value} (h : OwnDt w d lo hi v) : lo ≤ hi := by
  obtain ⟨_, _, _, _, _, _, _, _, _, h1, h2, _, o1, o2, o3, _⟩ := own_open h
  omega
theorem own_lens {w : World} {d : Dt} {lo hi : Nat} {v : Value} (h : OwnDt w d lo hi v) : (d.M.length : Int) ≤ 17592186044416 ∧ (d.L.length : Int) ≤ 17592186044416 := by
  obtain ⟨am, cm, al, cl, at_, ct, _, _, _, _, hm, hl, _⟩ := (OwnDt.isDt d lo hi v h).open_
  exact ⟨by have a := hm.2.1; have b := hm.2.2.2.1; omega, by have a := hl.1; have b := hl.2.2.1; omega⟩
/-- The marks of a copy, in whatever world. -/
def MarksAtW (lo hi : Nat) (am : Option Addr) (n : Nat) (w : World) : Prop :=
  ∀ k, k < n → ∃ g z, am = some ⟨g, 0, none⟩ ∧ lo ≤ g ∧ g < hi ∧ w.cell? ⟨g, k, none⟩ = some (.int .i64 z) ∧ w.frozen? ⟨g, k, none⟩ = false
def XorAt (lo hi : Nat) (am : Option Addr) (n : Nat) (W : World) (i : Value) (wr : World) : Prop := ∃ j : Nat, j ≤ n ∧ i = .int .i64 (j : Int) ∧ Fr (Rg lo hi) W wr ∧ MarksAtW lo hi am n wr
theorem MarksAtW.set {lo hi n : Nat} {am : Option Addr} {w : World} (h : MarksAtW lo hi am n w) (p : Addr) (u : Int) (hp : ∃ z, w.cell? p = some (.int .i64 z)) : MarksAtW lo hi am n (w.setCell p (.int .i64 u)) := fun k hk => by
  obtain ⟨g, z, ha, h1, h2, hc, hf⟩ := h k hk
  obtain ⟨z', hp⟩ := hp
  by_cases he : (⟨g, k, none⟩ : Addr) = p
  · subst he
    exact ⟨g, u, ha, h1, h2, World.cell?_setCell_same' _ _ _ (by rw [hc]; rfl), by rw [World.frozen?_setCell]; exact hf⟩
  · exact ⟨g, z, ha, h1, h2, (World.cell?_setCell_other _ _ _ _ (fun e => he e.symm)).trans hc, by rw [World.frozen?_setCell]; exact hf⟩
theorem MarksAtW.far {lo hi n g : Nat} {am : Option Addr} {w w' : World} (h : MarksAtW lo hi am n w) (hf : Fr (fun i => i = g) w w') (hne : ∀ gm, am = some ⟨gm, 0, none⟩ → gm ≠ g) : MarksAtW lo hi am n w' := fun k hk => by
  obtain ⟨gm, z, ha, h1, h2, hc, hz⟩ := h k hk
  have hlt := World.block_lt_of_cell? w _ hc
  exact ⟨gm, z, ha, h1, h2, (hf.cell hlt (hne gm ha)).trans hc, (hf.frozen hlt (hne gm ha)).trans hz⟩
theorem own_parts {w : World} {d : Dt} {lo hi cm cl ct : Nat} {am al at_ : Option Addr} (h : OwnDt w d lo hi (.agg #[.int .i64 d.K, .int .i64 d.N, .string d.S, .slice am d.M.length cm, .slice al d.L.length cl, .slice at_ d.T.length ct])) :
    (∀ x, d.L[0]? = some x → ∃ g v0 n1 v2 v3 v4 v5, al = some ⟨g, 0, none⟩ ∧ lo ≤ g ∧ g < hi ∧ w.cell? ⟨g, 0, none⟩ = some v0 ∧ w.cell? ⟨g, 1, none⟩ = some (.int .i64 n1) ∧ w.cell? ⟨g, 2, none⟩ = some v2 ∧ w.cell? ⟨g, 3, none⟩ = some v3 ∧ w.cell? ⟨g, 4, none⟩ = some v4 ∧ w.cell? ⟨g, 5, none⟩ = some v5 ∧
      (∀ j, w.frozen? ⟨g, j, none⟩ = false) ∧ ∀ gm, am = some ⟨gm, 0, none⟩ → gm ≠ g) ∧ MarksAtW lo hi am d.M.length w := by
  obtain ⟨k, n, s, m, l, t⟩ := d
  simp only [OwnDt, Dt.K, Dt.N, Dt.S, Dt.M, Dt.L, Dt.T] at h ⊢
  obtain ⟨_, _, _, am', cm', al', cl', at', ct', h1, h2, hv, o1, o2, o3, hM, hL, hLs, _⟩ := h
  injection hv with hv
  simp only [Array.mk.injEq, List.cons.injEq, Value.slice.injEq, and_true, true_and] at hv
  obtain ⟨⟨rfl, rfl⟩, ⟨rfl, rfl⟩, rfl, rfl⟩ := hv
  refine ⟨fun x hx => ?_, fun k hk => ?_⟩
  · cases l with
    | nil => simp at hx
    | cons y r =>
      simp only [OwnDts] at hLs
      obtain ⟨mid, g, x0, x1, x2, x3, x4, x5, ha, _, _, _, hs, hd, _⟩ := hLs
      obtain ⟨am2, cm2, al2, cl2, at2, ct2, hv2, _⟩ := (OwnDt.isDt _ _ _ _ hd).open_
      injection hv2 with hv2
      simp only [Array.mk.injEq, List.cons.injEq, and_true] at hv2
      obtain ⟨rfl, rfl, rfl, rfl, rfl, rfl⟩ := hv2
      obtain ⟨e0, e1, e2, e3, e4, e5⟩ := hs
      rcases hL with ⟨h0, _⟩ | ⟨g', ha', hg1, hg2, _, _, _, hfz⟩
      · rw [h0] at ha; cases ha
      · rw [ha'] at ha
        simp only [Option.some.injEq, Addr.mk.injEq, and_true] at ha
        subst ha
        rw [Nat.zero_mul] at e0 e1 e2 e3 e4 e5
        refine ⟨g', _, _, _, _, _, _, ha', by omega, by omega, e0, by simpa using e1, by simpa using e2, by simpa using e3, by simpa using e4, by simpa using e5, hfz, fun gm hgm e => ?_⟩
        obtain ⟨g3, hg3, _, hlt, _⟩ := hM.2 _ hgm
        simp only [Addr.mk.injEq, and_true] at hg3
        omega
  · obtain ⟨b, off, ha, hb, hc⟩ := hM.1.2.2.2.2.2.2 k hk
    obtain ⟨g3, hg3, hlo, hlt, hfz⟩ := hM.2 _ ha
    simp only [Addr.mk.injEq, and_true] at hg3
    obtain ⟨rfl, rfl⟩ := hg3
    rw [Nat.zero_add] at hc
    exact ⟨b, _, ha, hlo, by omega, hc, hfz k⟩
set_option maxHeartbeats 16000000 in
theorem dsame_any (a b : Dt) (va vb : Value) (w : World) (ha : IsDt w (Lo w.heap.size) a va) (hb : IsDt w (Lo w.heap.size) b vb) :
    Calls Try.prog 4 #[va, vb] w fun e w' => e = .returned (.bool true) ∧ Below w.heap.size w w' := by
  have ha' := ha
  have hb' := hb
  obtain ⟨am, acm, al, acl, at', act, rfl, _⟩ := ha'.open_
  obtain ⟨dm, dcm, dl, dcl, dt, dct, rfl, _⟩ := hb'.open_
  have TA := Lib.hid ha
  have TD := Lib.hid hb
  clear ha hb ha' hb'
  obtain ⟨sa, hsa⟩ : ∃ c, smallB a = c := ⟨_, rfl⟩
  obtain ⟨sd, hsd⟩ : ∃ c, smallB b = c := ⟨_, rfl⟩
  have Sa := Lib.hid hsa
  have Sd := Lib.hid hsd
  clear hsa hsd
  cases sa
  · have HW := Lib.hid (bel_refl w)
    go_enter Try.func4, Try.ntmps4
    go_wp2_with fail
    obtain ⟨hbX, hsX, hkX⟩ := start_allocs [(#[.int .i64 a.K, .int .i64 a.N, .string a.S, .slice am a.M.length acm, .slice al a.L.length acl, .slice at' a.T.length act], 25), (#[.int .i64 b.K, .int .i64 b.N, .string b.S, .slice dm b.M.length dcm, .slice dl b.L.length dcl, .slice dt b.T.length dct], 25)] w
    have g0 := hkX 0 _ rfl
    have g1 := hkX 1 _ rfl
    set_option linter.unusedSimpArgs false in
    simp only [allocs, List.foldl_cons, List.foldl_nil, Nat.add_zero, List.length_cons, List.length_nil, Nat.zero_add, Nat.reduceAdd] at hbX hsX g0 g1
    clear hkX
    generalize (w.alloc (.cells #[.int .i64 a.K, .int .i64 a.N, .string a.S, .slice am a.M.length acm, .slice al a.L.length acl, .slice at' a.T.length act] 25)).alloc (.cells #[.int .i64 b.K, .int .i64 b.N, .string b.S, .slice dm b.M.length dcm, .slice dl b.L.length dcl, .slice dt b.T.length dct] 25) = X0 at *
    have x0 : X0.cell? ⟨w.heap.size, 0, none⟩ = some (.int .i64 a.K) := (g0.cell 0).trans rfl
    have x1 : X0.cell? ⟨w.heap.size, 1, none⟩ = some (.int .i64 a.N) := (g0.cell 1).trans rfl
    have x2 : X0.cell? ⟨w.heap.size, 2, none⟩ = some (.string a.S) := (g0.cell 2).trans rfl
    have x3 : X0.cell? ⟨w.heap.size, 3, none⟩ = some (.slice am a.M.length acm) := (g0.cell 3).trans rfl
    have x4 : X0.cell? ⟨w.heap.size, 4, none⟩ = some (.slice al a.L.length acl) := (g0.cell 4).trans rfl
    have x5 : X0.cell? ⟨w.heap.size, 5, none⟩ = some (.slice at' a.T.length act) := (g0.cell 5).trans rfl
    have lt_x : w.heap.size < X0.heap.size := by omega
    have y0 : X0.cell? ⟨w.heap.size + 1, 0, none⟩ = some (.int .i64 b.K) := (g1.cell 0).trans rfl
    have y1 : X0.cell? ⟨w.heap.size + 1, 1, none⟩ = some (.int .i64 b.N) := (g1.cell 1).trans rfl
    have y2 : X0.cell? ⟨w.heap.size + 1, 2, none⟩ = some (.string b.S) := (g1.cell 2).trans rfl
    have y3 : X0.cell? ⟨w.heap.size + 1, 3, none⟩ = some (.slice dm b.M.length dcm) := (g1.cell 3).trans rfl
    have y4 : X0.cell? ⟨w.heap.size + 1, 4, none⟩ = some (.slice dl b.L.length dcl) := (g1.cell 4).trans rfl
    have y5 : X0.cell? ⟨w.heap.size + 1, 5, none⟩ = some (.slice dt b.T.length dct) := (g1.cell 5).trans rfl
    have lt_y : w.heap.size + 1 < X0.heap.size := by omega
    clear g0 g1 hsX
    replace TA := Lib.hid (TA.out.up hbX)
    replace TD := Lib.hid (TD.out.up hbX)
    replace HW := Lib.hid (HW.out.trans (hbX.mono HW.out.size))
    clear hbX
    refine (awake_any X0).mono ?_
    rintro e w0 ⟨rfl, hb⟩
    replace x0 := (hb.cell (p := ⟨w.heap.size, 0, none⟩) lt_x).trans x0
    replace x1 := (hb.cell (p := ⟨w.heap.size, 1, none⟩) lt_x).trans x1
    replace x2 := (hb.cell (p := ⟨w.heap.size, 2, none⟩) lt_x).trans x2
    replace x3 := (hb.cell (p := ⟨w.heap.size, 3, none⟩) lt_x).trans x3
    replace x4 := (hb.cell (p := ⟨w.heap.size, 4, none⟩) lt_x).trans x4
    replace x5 := (hb.cell (p := ⟨w.heap.size, 5, none⟩) lt_x).trans x5
    replace lt_x : w.heap.size < w0.heap.size := Nat.lt_of_lt_of_le lt_x hb.size
    replace y0 := (hb.cell (p := ⟨w.heap.size + 1, 0, none⟩) lt_y).trans y0
    replace y1 := (hb.cell (p := ⟨w.heap.size + 1, 1, none⟩) lt_y).trans y1
    replace y2 := (hb.cell (p := ⟨w.heap.size + 1, 2, none⟩) lt_y).trans y2
    replace y3 := (hb.cell (p := ⟨w.heap.size + 1, 3, none⟩) lt_y).trans y3
    replace y4 := (hb.cell (p := ⟨w.heap.size + 1, 4, none⟩) lt_y).trans y4
    replace y5 := (hb.cell (p := ⟨w.heap.size + 1, 5, none⟩) lt_y).trans y5
    replace lt_y : w.heap.size + 1 < w0.heap.size := Nat.lt_of_lt_of_le lt_y hb.size
    replace TA := Lib.hid (TA.out.up hb)
    replace TD := Lib.hid (TD.out.up hb)
    replace HW := Lib.hid (HW.out.trans (hb.mono HW.out.size))
    clear hb
    go_wp2_with fail
    refine (small_any a _ _ w0 (by exact TA.out) (Nat.le_refl _)).mono ?_
    rintro e w1 ⟨rfl, hb⟩
    rw [Sa.out]
    replace x0 := (hb.cell (p := ⟨w.heap.size, 0, none⟩) lt_x).trans x0
    replace x1 := (hb.cell (p := ⟨w.heap.size, 1, none⟩) lt_x).trans x1
    replace x2 := (hb.cell (p := ⟨w.heap.size, 2, none⟩) lt_x).trans x2
    replace x3 := (hb.cell (p := ⟨w.heap.size, 3, none⟩) lt_x).trans x3
    replace x4 := (hb.cell (p := ⟨w.heap.size, 4, none⟩) lt_x).trans x4
    replace x5 := (hb.cell (p := ⟨w.heap.size, 5, none⟩) lt_x).trans x5
    replace lt_x : w.heap.size < w1.heap.size := Nat.lt_of_lt_of_le lt_x hb.size
    replace y0 := (hb.cell (p := ⟨w.heap.size + 1, 0, none⟩) lt_y).trans y0
    replace y1 := (hb.cell (p := ⟨w.heap.size + 1, 1, none⟩) lt_y).trans y1
    replace y2 := (hb.cell (p := ⟨w.heap.size + 1, 2, none⟩) lt_y).trans y2
    replace y3 := (hb.cell (p := ⟨w.heap.size + 1, 3, none⟩) lt_y).trans y3
    replace y4 := (hb.cell (p := ⟨w.heap.size + 1, 4, none⟩) lt_y).trans y4
    replace y5 := (hb.cell (p := ⟨w.heap.size + 1, 5, none⟩) lt_y).trans y5
    replace lt_y : w.heap.size + 1 < w1.heap.size := Nat.lt_of_lt_of_le lt_y hb.size
    replace TA := Lib.hid (TA.out.up hb)
    replace TD := Lib.hid (TD.out.up hb)
    replace HW := Lib.hid (HW.out.trans (hb.mono HW.out.size))
    clear hb
    go_wp2_with fail
    refine (awake_any w1).mono ?_
    rintro e w2 ⟨rfl, hb⟩
    replace x0 := (hb.cell (p := ⟨w.heap.size, 0, none⟩) lt_x).trans x0
    replace x1 := (hb.cell (p := ⟨w.heap.size, 1, none⟩) lt_x).trans x1
    replace x2 := (hb.cell (p := ⟨w.heap.size, 2, none⟩) lt_x).trans x2
    replace x3 := (hb.cell (p := ⟨w.heap.size, 3, none⟩) lt_x).trans x3
    replace x4 := (hb.cell (p := ⟨w.heap.size, 4, none⟩) lt_x).trans x4
    replace x5 := (hb.cell (p := ⟨w.heap.size, 5, none⟩) lt_x).trans x5
    replace lt_x : w.heap.size < w2.heap.size := Nat.lt_of_lt_of_le lt_x hb.size
    replace y0 := (hb.cell (p := ⟨w.heap.size + 1, 0, none⟩) lt_y).trans y0
    replace y1 := (hb.cell (p := ⟨w.heap.size + 1, 1, none⟩) lt_y).trans y1
    replace y2 := (hb.cell (p := ⟨w.heap.size + 1, 2, none⟩) lt_y).trans y2
    replace y3 := (hb.cell (p := ⟨w.heap.size + 1, 3, none⟩) lt_y).trans y3
    replace y4 := (hb.cell (p := ⟨w.heap.size + 1, 4, none⟩) lt_y).trans y4
    replace y5 := (hb.cell (p := ⟨w.heap.size + 1, 5, none⟩) lt_y).trans y5
    replace lt_y : w.heap.size + 1 < w2.heap.size := Nat.lt_of_lt_of_le lt_y hb.size
    replace TA := Lib.hid (TA.out.up hb)
    replace TD := Lib.hid (TD.out.up hb)
    replace HW := Lib.hid (HW.out.trans (hb.mono HW.out.size))
    clear hb
    go_wp2_with fail
    go_ret
    exact ⟨rfl, HW.out⟩
  cases sd
  · have HW := Lib.hid (bel_refl w)
    go_enter Try.func4, Try.ntmps4
    go_wp2_with fail
    obtain ⟨hbX, hsX, hkX⟩ := start_allocs [(#[.int .i64 a.K, .int .i64 a.N, .string a.S, .slice am a.M.length acm, .slice al a.L.length acl, .slice at' a.T.length act], 25), (#[.int .i64 b.K, .int .i64 b.N, .string b.S, .slice dm b.M.length dcm, .slice dl b.L.length dcl, .slice dt b.T.length dct], 25)] w
    have g0 := hkX 0 _ rfl
    have g1 := hkX 1 _ rfl
    set_option linter.unusedSimpArgs false in
    simp only [allocs, List.foldl_cons, List.foldl_nil, Nat.add_zero, List.length_cons, List.length_nil, Nat.zero_add, Nat.reduceAdd] at hbX hsX g0 g1
    clear hkX
    generalize (w.alloc (.cells #[.int .i64 a.K, .int .i64 a.N, .string a.S, .slice am a.M.length acm, .slice al a.L.length acl, .slice at' a.T.length act] 25)).alloc (.cells #[.int .i64 b.K, .int .i64 b.N, .string b.S, .slice dm b.M.length dcm, .slice dl b.L.length dcl, .slice dt b.T.length dct] 25) = X0 at *
    have x0 : X0.cell? ⟨w.heap.size, 0, none⟩ = some (.int .i64 a.K) := (g0.cell 0).trans rfl
    have x1 : X0.cell? ⟨w.heap.size, 1, none⟩ = some (.int .i64 a.N) := (g0.cell 1).trans rfl
    have x2 : X0.cell? ⟨w.heap.size, 2, none⟩ = some (.string a.S) := (g0.cell 2).trans rfl
    have x3 : X0.cell? ⟨w.heap.size, 3, none⟩ = some (.slice am a.M.length acm) := (g0.cell 3).trans rfl
    have x4 : X0.cell? ⟨w.heap.size, 4, none⟩ = some (.slice al a.L.length acl) := (g0.cell 4).trans rfl
    have x5 : X0.cell? ⟨w.heap.size, 5, none⟩ = some (.slice at' a.T.length act) := (g0.cell 5).trans rfl
    have lt_x : w.heap.size < X0.heap.size := by omega
    have y0 : X0.cell? ⟨w.heap.size + 1, 0, none⟩ = some (.int .i64 b.K) := (g1.cell 0).trans rfl
    have y1 : X0.cell? ⟨w.heap.size + 1, 1, none⟩ = some (.int .i64 b.N) := (g1.cell 1).trans rfl
    have y2 : X0.cell? ⟨w.heap.size + 1, 2, none⟩ = some (.string b.S) := (g1.cell 2).trans rfl
    have y3 : X0.cell? ⟨w.heap.size + 1, 3, none⟩ = some (.slice dm b.M.length dcm) := (g1.cell 3).trans rfl
    have y4 : X0.cell? ⟨w.heap.size + 1, 4, none⟩ = some (.slice dl b.L.length dcl) := (g1.cell 4).trans rfl
    have y5 : X0.cell? ⟨w.heap.size + 1, 5, none⟩ = some (.slice dt b.T.length dct) := (g1.cell 5).trans rfl
    have lt_y : w.heap.size + 1 < X0.heap.size := by omega
    clear g0 g1 hsX
    replace TA := Lib.hid (TA.out.up hbX)
    replace TD := Lib.hid (TD.out.up hbX)
    replace HW := Lib.hid (HW.out.trans (hbX.mono HW.out.size))
    clear hbX
    refine (awake_any X0).mono ?_
    rintro e w0 ⟨rfl, hb⟩
    replace x0 := (hb.cell (p := ⟨w.heap.size, 0, none⟩) lt_x).trans x0
    replace x1 := (hb.cell (p := ⟨w.heap.size, 1, none⟩) lt_x).trans x1
    replace x2 := (hb.cell (p := ⟨w.heap.size, 2, none⟩) lt_x).trans x2
    replace x3 := (hb.cell (p := ⟨w.heap.size, 3, none⟩) lt_x).trans x3
    replace x4 := (hb.cell (p := ⟨w.heap.size, 4, none⟩) lt_x).trans x4
    replace x5 := (hb.cell (p := ⟨w.heap.size, 5, none⟩) lt_x).trans x5
    replace lt_x : w.heap.size < w0.heap.size := Nat.lt_of_lt_of_le lt_x hb.size
    replace y0 := (hb.cell (p := ⟨w.heap.size + 1, 0, none⟩) lt_y).trans y0
    replace y1 := (hb.cell (p := ⟨w.heap.size + 1, 1, none⟩) lt_y).trans y1
    replace y2 := (hb.cell (p := ⟨w.heap.size + 1, 2, none⟩) lt_y).trans y2
    replace y3 := (hb.cell (p := ⟨w.heap.size + 1, 3, none⟩) lt_y).trans y3
    replace y4 := (hb.cell (p := ⟨w.heap.size + 1, 4, none⟩) lt_y).trans y4
    replace y5 := (hb.cell (p := ⟨w.heap.size + 1, 5, none⟩) lt_y).trans y5
    replace lt_y : w.heap.size + 1 < w0.heap.size := Nat.lt_of_lt_of_le lt_y hb.size
    replace TA := Lib.hid (TA.out.up hb)
    replace TD := Lib.hid (TD.out.up hb)
    replace HW := Lib.hid (HW.out.trans (hb.mono HW.out.size))
    clear hb
    go_wp2_with fail
    refine (small_any a _ _ w0 (by exact TA.out) (Nat.le_refl _)).mono ?_
    rintro e w1 ⟨rfl, hb⟩
    rw [Sa.out]
    replace x0 := (hb.cell (p := ⟨w.heap.size, 0, none⟩) lt_x).trans x0
    replace x1 := (hb.cell (p := ⟨w.heap.size, 1, none⟩) lt_x).trans x1
    replace x2 := (hb.cell (p := ⟨w.heap.size, 2, none⟩) lt_x).trans x2
    replace x3 := (hb.cell (p := ⟨w.heap.size, 3, none⟩) lt_x).trans x3
    replace x4 := (hb.cell (p := ⟨w.heap.size, 4, none⟩) lt_x).trans x4
    replace x5 := (hb.cell (p := ⟨w.heap.size, 5, none⟩) lt_x).trans x5
    replace lt_x : w.heap.size < w1.heap.size := Nat.lt_of_lt_of_le lt_x hb.size
    replace y0 := (hb.cell (p := ⟨w.heap.size + 1, 0, none⟩) lt_y).trans y0
    replace y1 := (hb.cell (p := ⟨w.heap.size + 1, 1, none⟩) lt_y).trans y1
    replace y2 := (hb.cell (p := ⟨w.heap.size + 1, 2, none⟩) lt_y).trans y2
    replace y3 := (hb.cell (p := ⟨w.heap.size + 1, 3, none⟩) lt_y).trans y3
    replace y4 := (hb.cell (p := ⟨w.heap.size + 1, 4, none⟩) lt_y).trans y4
    replace y5 := (hb.cell (p := ⟨w.heap.size + 1, 5, none⟩) lt_y).trans y5
    replace lt_y : w.heap.size + 1 < w1.heap.size := Nat.lt_of_lt_of_le lt_y hb.size
    replace TA := Lib.hid (TA.out.up hb)
    replace TD := Lib.hid (TD.out.up hb)
    replace HW := Lib.hid (HW.out.trans (hb.mono HW.out.size))
    clear hb
    go_wp2_with fail
    refine (small_any b _ _ w1 (by exact TD.out) (Nat.le_refl _)).mono ?_
    rintro e w2 ⟨rfl, hb⟩
    rw [Sd.out]
    replace x0 := (hb.cell (p := ⟨w.heap.size, 0, none⟩) lt_x).trans x0
    replace x1 := (hb.cell (p := ⟨w.heap.size, 1, none⟩) lt_x).trans x1
    replace x2 := (hb.cell (p := ⟨w.heap.size, 2, none⟩) lt_x).trans x2
    replace x3 := (hb.cell (p := ⟨w.heap.size, 3, none⟩) lt_x).trans x3
    replace x4 := (hb.cell (p := ⟨w.heap.size, 4, none⟩) lt_x).trans x4
    replace x5 := (hb.cell (p := ⟨w.heap.size, 5, none⟩) lt_x).trans x5
    replace lt_x : w.heap.size < w2.heap.size := Nat.lt_of_lt_of_le lt_x hb.size
    replace y0 := (hb.cell (p := ⟨w.heap.size + 1, 0, none⟩) lt_y).trans y0
    replace y1 := (hb.cell (p := ⟨w.heap.size + 1, 1, none⟩) lt_y).trans y1
    replace y2 := (hb.cell (p := ⟨w.heap.size + 1, 2, none⟩) lt_y).trans y2
    replace y3 := (hb.cell (p := ⟨w.heap.size + 1, 3, none⟩) lt_y).trans y3
    replace y4 := (hb.cell (p := ⟨w.heap.size + 1, 4, none⟩) lt_y).trans y4
    replace y5 := (hb.cell (p := ⟨w.heap.size + 1, 5, none⟩) lt_y).trans y5
    replace lt_y : w.heap.size + 1 < w2.heap.size := Nat.lt_of_lt_of_le lt_y hb.size
    replace TA := Lib.hid (TA.out.up hb)
    replace TD := Lib.hid (TD.out.up hb)
    replace HW := Lib.hid (HW.out.trans (hb.mono HW.out.size))
    clear hb
    go_wp2_with fail
    refine (awake_any w2).mono ?_
    rintro e w3 ⟨rfl, hb⟩
    replace x0 := (hb.cell (p := ⟨w.heap.size, 0, none⟩) lt_x).trans x0
    replace x1 := (hb.cell (p := ⟨w.heap.size, 1, none⟩) lt_x).trans x1
    replace x2 := (hb.cell (p := ⟨w.heap.size, 2, none⟩) lt_x).trans x2
    replace x3 := (hb.cell (p := ⟨w.heap.size, 3, none⟩) lt_x).trans x3
    replace x4 := (hb.cell (p := ⟨w.heap.size, 4, none⟩) lt_x).trans x4
    replace x5 := (hb.cell (p := ⟨w.heap.size, 5, none⟩) lt_x).trans x5
    replace lt_x : w.heap.size < w3.heap.size := Nat.lt_of_lt_of_le lt_x hb.size
    replace y0 := (hb.cell (p := ⟨w.heap.size + 1, 0, none⟩) lt_y).trans y0
    replace y1 := (hb.cell (p := ⟨w.heap.size + 1, 1, none⟩) lt_y).trans y1
    replace y2 := (hb.cell (p := ⟨w.heap.size + 1, 2, none⟩) lt_y).trans y2
    replace y3 := (hb.cell (p := ⟨w.heap.size + 1, 3, none⟩) lt_y).trans y3
    replace y4 := (hb.cell (p := ⟨w.heap.size + 1, 4, none⟩) lt_y).trans y4
    replace y5 := (hb.cell (p := ⟨w.heap.size + 1, 5, none⟩) lt_y).trans y5
    replace lt_y : w.heap.size + 1 < w3.heap.size := Nat.lt_of_lt_of_le lt_y hb.size
    replace TA := Lib.hid (TA.out.up hb)
    replace TD := Lib.hid (TD.out.up hb)
    replace HW := Lib.hid (HW.out.trans (hb.mono HW.out.size))
    clear hb
    go_wp2_with fail
    go_ret
    exact ⟨rfl, HW.out⟩
  obtain ⟨cd, hcd⟩ : ∃ c, chk a = c := ⟨_, rfl⟩
  have Hcd := Lib.hid hcd
  clear hcd
  obtain ⟨z, hz⟩ : ∃ z, sizeD a = z := ⟨_, rfl⟩
  obtain ⟨dp, hdp⟩ : ∃ z, deepD a = z := ⟨_, rfl⟩
  obtain ⟨sm, hsm⟩ : ∃ z, (chk a == 0 && eqD a b) = z := ⟨_, rfl⟩
  obtain ⟨ca, hca⟩ : ∃ z, cloneD a = z := ⟨_, rfl⟩
  obtain ⟨pa, hpa⟩ : ∃ z, plainD ca = z := ⟨_, rfl⟩
  have al1 : alikeB ca ca = true := by rw [← hca]; exact alike_refl a
  have al2 : alikeB pa pa = true := by rw [← hpa, ← hca]; exact alike_plain a
  have Hz := Lib.hid hz
  have Hdp := Lib.hid hdp
  have Hsm := Lib.hid hsm
  have Hca := Lib.hid hca
  have Hpa := Lib.hid hpa
  have Al1 := Lib.hid al1
  have Al2 := Lib.hid al2
  have tok1 : True := trivial
  have dz : (z != z) = false := by simp
  have ddp : (dp != dp) = false := by simp
  have dsm : (sm != sm) = false := by simp
  clear hz hdp hsm hca hpa al1 al2
  have HW := Lib.hid (bel_refl w)
  go_enter Try.func4, Try.ntmps4
  go_wp2_with fail
  obtain ⟨hbX, hsX, hkX⟩ := start_allocs [(#[.int .i64 a.K, .int .i64 a.N, .string a.S, .slice am a.M.length acm, .slice al a.L.length acl, .slice at' a.T.length act], 25), (#[.int .i64 b.K, .int .i64 b.N, .string b.S, .slice dm b.M.length dcm, .slice dl b.L.length dcl, .slice dt b.T.length dct], 25)] w
  have g0 := hkX 0 _ rfl
  have g1 := hkX 1 _ rfl
  set_option linter.unusedSimpArgs false in
  simp only [allocs, List.foldl_cons, List.foldl_nil, Nat.add_zero, List.length_cons, List.length_nil, Nat.zero_add, Nat.reduceAdd] at hbX hsX g0 g1
  clear hkX
  generalize (w.alloc (.cells #[.int .i64 a.K, .int .i64 a.N, .string a.S, .slice am a.M.length acm, .slice al a.L.length acl, .slice at' a.T.length act] 25)).alloc (.cells #[.int .i64 b.K, .int .i64 b.N, .string b.S, .slice dm b.M.length dcm, .slice dl b.L.length dcl, .slice dt b.T.length dct] 25) = X0 at *
  have x0 : X0.cell? ⟨w.heap.size, 0, none⟩ = some (.int .i64 a.K) := (g0.cell 0).trans rfl
  have x1 : X0.cell? ⟨w.heap.size, 1, none⟩ = some (.int .i64 a.N) := (g0.cell 1).trans rfl
  have x2 : X0.cell? ⟨w.heap.size, 2, none⟩ = some (.string a.S) := (g0.cell 2).trans rfl
  have x3 : X0.cell? ⟨w.heap.size, 3, none⟩ = some (.slice am a.M.length acm) := (g0.cell 3).trans rfl
  have x4 : X0.cell? ⟨w.heap.size, 4, none⟩ = some (.slice al a.L.length acl) := (g0.cell 4).trans rfl
  have x5 : X0.cell? ⟨w.heap.size, 5, none⟩ = some (.slice at' a.T.length act) := (g0.cell 5).trans rfl
  have lt_x : w.heap.size < X0.heap.size := by omega
  have y0 : X0.cell? ⟨w.heap.size + 1, 0, none⟩ = some (.int .i64 b.K) := (g1.cell 0).trans rfl
  have y1 : X0.cell? ⟨w.heap.size + 1, 1, none⟩ = some (.int .i64 b.N) := (g1.cell 1).trans rfl
  have y2 : X0.cell? ⟨w.heap.size + 1, 2, none⟩ = some (.string b.S) := (g1.cell 2).trans rfl
  have y3 : X0.cell? ⟨w.heap.size + 1, 3, none⟩ = some (.slice dm b.M.length dcm) := (g1.cell 3).trans rfl
  have y4 : X0.cell? ⟨w.heap.size + 1, 4, none⟩ = some (.slice dl b.L.length dcl) := (g1.cell 4).trans rfl
  have y5 : X0.cell? ⟨w.heap.size + 1, 5, none⟩ = some (.slice dt b.T.length dct) := (g1.cell 5).trans rfl
  have lt_y : w.heap.size + 1 < X0.heap.size := by omega
  clear g0 g1 hsX
  replace TA := Lib.hid (TA.out.up hbX)
  replace TD := Lib.hid (TD.out.up hbX)
  replace HW := Lib.hid (HW.out.trans (hbX.mono HW.out.size))
  clear hbX
  refine (awake_any X0).mono ?_
  rintro e w0 ⟨rfl, hb⟩
  replace x0 := (hb.cell (p := ⟨w.heap.size, 0, none⟩) lt_x).trans x0
  replace x1 := (hb.cell (p := ⟨w.heap.size, 1, none⟩) lt_x).trans x1
  replace x2 := (hb.cell (p := ⟨w.heap.size, 2, none⟩) lt_x).trans x2
  replace x3 := (hb.cell (p := ⟨w.heap.size, 3, none⟩) lt_x).trans x3
  replace x4 := (hb.cell (p := ⟨w.heap.size, 4, none⟩) lt_x).trans x4
  replace x5 := (hb.cell (p := ⟨w.heap.size, 5, none⟩) lt_x).trans x5
  replace lt_x : w.heap.size < w0.heap.size := Nat.lt_of_lt_of_le lt_x hb.size
  replace y0 := (hb.cell (p := ⟨w.heap.size + 1, 0, none⟩) lt_y).trans y0
  replace y1 := (hb.cell (p := ⟨w.heap.size + 1, 1, none⟩) lt_y).trans y1
  replace y2 := (hb.cell (p := ⟨w.heap.size + 1, 2, none⟩) lt_y).trans y2
  replace y3 := (hb.cell (p := ⟨w.heap.size + 1, 3, none⟩) lt_y).trans y3
  replace y4 := (hb.cell (p := ⟨w.heap.size + 1, 4, none⟩) lt_y).trans y4
  replace y5 := (hb.cell (p := ⟨w.heap.size + 1, 5, none⟩) lt_y).trans y5
  replace lt_y : w.heap.size + 1 < w0.heap.size := Nat.lt_of_lt_of_le lt_y hb.size
  replace TA := Lib.hid (TA.out.up hb)
  replace TD := Lib.hid (TD.out.up hb)
  replace HW := Lib.hid (HW.out.trans (hb.mono HW.out.size))
  clear hb
  go_wp2_with fail
  refine (small_any a _ _ w0 (by exact TA.out) (Nat.le_refl _)).mono ?_
  rintro e w1 ⟨rfl, hb⟩
  rw [Sa.out]
  replace x0 := (hb.cell (p := ⟨w.heap.size, 0, none⟩) lt_x).trans x0
  replace x1 := (hb.cell (p := ⟨w.heap.size, 1, none⟩) lt_x).trans x1
  replace x2 := (hb.cell (p := ⟨w.heap.size, 2, none⟩) lt_x).trans x2
  replace x3 := (hb.cell (p := ⟨w.heap.size, 3, none⟩) lt_x).trans x3
  replace x4 := (hb.cell (p := ⟨w.heap.size, 4, none⟩) lt_x).trans x4
  replace x5 := (hb.cell (p := ⟨w.heap.size, 5, none⟩) lt_x).trans x5
  replace lt_x : w.heap.size < w1.heap.size := Nat.lt_of_lt_of_le lt_x hb.size
  replace y0 := (hb.cell (p := ⟨w.heap.size + 1, 0, none⟩) lt_y).trans y0
  replace y1 := (hb.cell (p := ⟨w.heap.size + 1, 1, none⟩) lt_y).trans y1
  replace y2 := (hb.cell (p := ⟨w.heap.size + 1, 2, none⟩) lt_y).trans y2
  replace y3 := (hb.cell (p := ⟨w.heap.size + 1, 3, none⟩) lt_y).trans y3
  replace y4 := (hb.cell (p := ⟨w.heap.size + 1, 4, none⟩) lt_y).trans y4
  replace y5 := (hb.cell (p := ⟨w.heap.size + 1, 5, none⟩) lt_y).trans y5
  replace lt_y : w.heap.size + 1 < w1.heap.size := Nat.lt_of_lt_of_le lt_y hb.size
  replace TA := Lib.hid (TA.out.up hb)
  replace TD := Lib.hid (TD.out.up hb)
  replace HW := Lib.hid (HW.out.trans (hb.mono HW.out.size))
  clear hb
  go_wp2_with fail
  refine (small_any b _ _ w1 (by exact TD.out) (Nat.le_refl _)).mono ?_
  rintro e w2 ⟨rfl, hb⟩
  rw [Sd.out]
  replace x0 := (hb.cell (p := ⟨w.heap.size, 0, none⟩) lt_x).trans x0
  replace x1 := (hb.cell (p := ⟨w.heap.size, 1, none⟩) lt_x).trans x1
  replace x2 := (hb.cell (p := ⟨w.heap.size, 2, none⟩) lt_x).trans x2
  replace x3 := (hb.cell (p := ⟨w.heap.size, 3, none⟩) lt_x).trans x3
  replace x4 := (hb.cell (p := ⟨w.heap.size, 4, none⟩) lt_x).trans x4
  replace x5 := (hb.cell (p := ⟨w.heap.size, 5, none⟩) lt_x).trans x5
  replace lt_x : w.heap.size < w2.heap.size := Nat.lt_of_lt_of_le lt_x hb.size
  replace y0 := (hb.cell (p := ⟨w.heap.size + 1, 0, none⟩) lt_y).trans y0
  replace y1 := (hb.cell (p := ⟨w.heap.size + 1, 1, none⟩) lt_y).trans y1
  replace y2 := (hb.cell (p := ⟨w.heap.size + 1, 2, none⟩) lt_y).trans y2
  replace y3 := (hb.cell (p := ⟨w.heap.size + 1, 3, none⟩) lt_y).trans y3
  replace y4 := (hb.cell (p := ⟨w.heap.size + 1, 4, none⟩) lt_y).trans y4
  replace y5 := (hb.cell (p := ⟨w.heap.size + 1, 5, none⟩) lt_y).trans y5
  replace lt_y : w.heap.size + 1 < w2.heap.size := Nat.lt_of_lt_of_le lt_y hb.size
  replace TA := Lib.hid (TA.out.up hb)
  replace TD := Lib.hid (TD.out.up hb)
  replace HW := Lib.hid (HW.out.trans (hb.mono HW.out.size))
  clear hb
  go_wp2_with fail
  refine (rclone_any a _ _ w2 (by exact TA.out) (Nat.le_refl _)).mono ?_
  rintro e w90 ⟨v', rfl, hb, hi⟩
  rw [show madeD true (cloneD a) = ca from Hca.out] at hi
  have hi2 := hi
  obtain ⟨sm_, scm, sl, scl, st, sct, rfl, _⟩ := hi2.open_
  have TS := Lib.hid (hi.more (Q' := Lo w90.heap.size) (fun b hb => hb.2))
  clear hi hi2
  replace x0 := (hb.cell (p := ⟨w.heap.size, 0, none⟩) lt_x).trans x0
  replace x1 := (hb.cell (p := ⟨w.heap.size, 1, none⟩) lt_x).trans x1
  replace x2 := (hb.cell (p := ⟨w.heap.size, 2, none⟩) lt_x).trans x2
  replace x3 := (hb.cell (p := ⟨w.heap.size, 3, none⟩) lt_x).trans x3
  replace x4 := (hb.cell (p := ⟨w.heap.size, 4, none⟩) lt_x).trans x4
  replace x5 := (hb.cell (p := ⟨w.heap.size, 5, none⟩) lt_x).trans x5
  replace lt_x : w.heap.size < w90.heap.size := Nat.lt_of_lt_of_le lt_x hb.size
  replace y0 := (hb.cell (p := ⟨w.heap.size + 1, 0, none⟩) lt_y).trans y0
  replace y1 := (hb.cell (p := ⟨w.heap.size + 1, 1, none⟩) lt_y).trans y1
  replace y2 := (hb.cell (p := ⟨w.heap.size + 1, 2, none⟩) lt_y).trans y2
  replace y3 := (hb.cell (p := ⟨w.heap.size + 1, 3, none⟩) lt_y).trans y3
  replace y4 := (hb.cell (p := ⟨w.heap.size + 1, 4, none⟩) lt_y).trans y4
  replace y5 := (hb.cell (p := ⟨w.heap.size + 1, 5, none⟩) lt_y).trans y5
  replace lt_y : w.heap.size + 1 < w90.heap.size := Nat.lt_of_lt_of_le lt_y hb.size
  replace TA := Lib.hid (TA.out.up hb)
  replace TD := Lib.hid (TD.out.up hb)
  replace HW := Lib.hid (HW.out.trans (hb.mono HW.out.size))
  clear hb
  go_wp2_with fail
  obtain ⟨hbX, hsX, hkX⟩ := start_allocs [(#[.int .i64 ca.K, .int .i64 ca.N, .string ca.S, .slice sm_ ca.M.length scm, .slice sl ca.L.length scl, .slice st ca.T.length sct], 25)] w90
  have g0 := hkX 0 _ rfl
  set_option linter.unusedSimpArgs false in
  simp only [allocs, List.foldl_cons, List.foldl_nil, Nat.add_zero, List.length_cons, List.length_nil, Nat.zero_add, Nat.reduceAdd] at hbX hsX g0
  clear hkX
  generalize w90.alloc (.cells #[.int .i64 ca.K, .int .i64 ca.N, .string ca.S, .slice sm_ ca.M.length scm, .slice sl ca.L.length scl, .slice st ca.T.length sct] 25) = X1 at *
  have s0 : X1.cell? ⟨w90.heap.size, 0, none⟩ = some (.int .i64 ca.K) := (g0.cell 0).trans rfl
  have s1 : X1.cell? ⟨w90.heap.size, 1, none⟩ = some (.int .i64 ca.N) := (g0.cell 1).trans rfl
  have s2 : X1.cell? ⟨w90.heap.size, 2, none⟩ = some (.string ca.S) := (g0.cell 2).trans rfl
  have s3 : X1.cell? ⟨w90.heap.size, 3, none⟩ = some (.slice sm_ ca.M.length scm) := (g0.cell 3).trans rfl
  have s4 : X1.cell? ⟨w90.heap.size, 4, none⟩ = some (.slice sl ca.L.length scl) := (g0.cell 4).trans rfl
  have s5 : X1.cell? ⟨w90.heap.size, 5, none⟩ = some (.slice st ca.T.length sct) := (g0.cell 5).trans rfl
  have lt_s : w90.heap.size < X1.heap.size := by omega
  clear g0 hsX
  replace x0 := (hbX.cell (p := ⟨w.heap.size, 0, none⟩) lt_x).trans x0
  replace x1 := (hbX.cell (p := ⟨w.heap.size, 1, none⟩) lt_x).trans x1
  replace x2 := (hbX.cell (p := ⟨w.heap.size, 2, none⟩) lt_x).trans x2
  replace x3 := (hbX.cell (p := ⟨w.heap.size, 3, none⟩) lt_x).trans x3
  replace x4 := (hbX.cell (p := ⟨w.heap.size, 4, none⟩) lt_x).trans x4
  replace x5 := (hbX.cell (p := ⟨w.heap.size, 5, none⟩) lt_x).trans x5
  replace lt_x : w.heap.size < X1.heap.size := Nat.lt_of_lt_of_le lt_x hbX.size
  replace y0 := (hbX.cell (p := ⟨w.heap.size + 1, 0, none⟩) lt_y).trans y0
  replace y1 := (hbX.cell (p := ⟨w.heap.size + 1, 1, none⟩) lt_y).trans y1
  replace y2 := (hbX.cell (p := ⟨w.heap.size + 1, 2, none⟩) lt_y).trans y2
  replace y3 := (hbX.cell (p := ⟨w.heap.size + 1, 3, none⟩) lt_y).trans y3
  replace y4 := (hbX.cell (p := ⟨w.heap.size + 1, 4, none⟩) lt_y).trans y4
  replace y5 := (hbX.cell (p := ⟨w.heap.size + 1, 5, none⟩) lt_y).trans y5
  replace lt_y : w.heap.size + 1 < X1.heap.size := Nat.lt_of_lt_of_le lt_y hbX.size
  replace TA := Lib.hid (TA.out.up hbX)
  replace TD := Lib.hid (TD.out.up hbX)
  replace TS := Lib.hid (TS.out.up hbX)
  replace HW := Lib.hid (HW.out.trans (hbX.mono HW.out.size))
  clear hbX
  have PA := TA
  have PS := TS
  have HP := Lib.hid (bel_refl X1)
  have lpx := lt_x
  have lps := lt_s
  refine (copy_any a _ X1 (by exact TA.out)).mono ?_
  rintro e w91 ⟨v', rfl, hb, hi, ho⟩
  rw [Hca.out] at hi ho
  have hi2 := hi
  obtain ⟨cm, ccm, cl, ccl, ct, cct, rfl, _⟩ := hi2.open_
  have TC := Lib.hid hi
  have OC := Lib.hid ho
  clear hi hi2 ho
  replace x0 := (hb.cell (p := ⟨w.heap.size, 0, none⟩) lt_x).trans x0
  replace x1 := (hb.cell (p := ⟨w.heap.size, 1, none⟩) lt_x).trans x1
  replace x2 := (hb.cell (p := ⟨w.heap.size, 2, none⟩) lt_x).trans x2
  replace x3 := (hb.cell (p := ⟨w.heap.size, 3, none⟩) lt_x).trans x3
  replace x4 := (hb.cell (p := ⟨w.heap.size, 4, none⟩) lt_x).trans x4
  replace x5 := (hb.cell (p := ⟨w.heap.size, 5, none⟩) lt_x).trans x5
  replace lt_x : w.heap.size < w91.heap.size := Nat.lt_of_lt_of_le lt_x hb.size
  replace y0 := (hb.cell (p := ⟨w.heap.size + 1, 0, none⟩) lt_y).trans y0
  replace y1 := (hb.cell (p := ⟨w.heap.size + 1, 1, none⟩) lt_y).trans y1
  replace y2 := (hb.cell (p := ⟨w.heap.size + 1, 2, none⟩) lt_y).trans y2
  replace y3 := (hb.cell (p := ⟨w.heap.size + 1, 3, none⟩) lt_y).trans y3
  replace y4 := (hb.cell (p := ⟨w.heap.size + 1, 4, none⟩) lt_y).trans y4
  replace y5 := (hb.cell (p := ⟨w.heap.size + 1, 5, none⟩) lt_y).trans y5
  replace lt_y : w.heap.size + 1 < w91.heap.size := Nat.lt_of_lt_of_le lt_y hb.size
  replace s0 := (hb.cell (p := ⟨w90.heap.size, 0, none⟩) lt_s).trans s0
  replace s1 := (hb.cell (p := ⟨w90.heap.size, 1, none⟩) lt_s).trans s1
  replace s2 := (hb.cell (p := ⟨w90.heap.size, 2, none⟩) lt_s).trans s2
  replace s3 := (hb.cell (p := ⟨w90.heap.size, 3, none⟩) lt_s).trans s3
  replace s4 := (hb.cell (p := ⟨w90.heap.size, 4, none⟩) lt_s).trans s4
  replace s5 := (hb.cell (p := ⟨w90.heap.size, 5, none⟩) lt_s).trans s5
  replace lt_s : w90.heap.size < w91.heap.size := Nat.lt_of_lt_of_le lt_s hb.size
  replace TA := Lib.hid (TA.out.up hb)
  replace TD := Lib.hid (TD.out.up hb)
  replace TS := Lib.hid (TS.out.up hb)
  replace HW := Lib.hid (HW.out.trans (hb.mono HW.out.size))
  replace HP := Lib.hid (HP.out.trans (hb.mono HP.out.size))
  clear hb
  go_wp2_with fail
  have HC := Lib.hid (bel_refl w91)
  obtain ⟨hbX, hsX, hkX⟩ := start_allocs [(#[.int .i64 ca.K, .int .i64 ca.N, .string ca.S, .slice cm ca.M.length ccm, .slice cl ca.L.length ccl, .slice ct ca.T.length cct], 25)] w91
  have g0 := hkX 0 _ rfl
  set_option linter.unusedSimpArgs false in
  simp only [allocs, List.foldl_cons, List.foldl_nil, Nat.add_zero, List.length_cons, List.length_nil, Nat.zero_add, Nat.reduceAdd] at hbX hsX g0
  clear hkX
  generalize w91.alloc (.cells #[.int .i64 ca.K, .int .i64 ca.N, .string ca.S, .slice cm ca.M.length ccm, .slice cl ca.L.length ccl, .slice ct ca.T.length cct] 25) = X2 at *
  have c0 : X2.cell? ⟨w91.heap.size, 0, none⟩ = some (.int .i64 ca.K) := (g0.cell 0).trans rfl
  have c1 : X2.cell? ⟨w91.heap.size, 1, none⟩ = some (.int .i64 ca.N) := (g0.cell 1).trans rfl
  have c2 : X2.cell? ⟨w91.heap.size, 2, none⟩ = some (.string ca.S) := (g0.cell 2).trans rfl
  have c3 : X2.cell? ⟨w91.heap.size, 3, none⟩ = some (.slice cm ca.M.length ccm) := (g0.cell 3).trans rfl
  have c4 : X2.cell? ⟨w91.heap.size, 4, none⟩ = some (.slice cl ca.L.length ccl) := (g0.cell 4).trans rfl
  have c5 : X2.cell? ⟨w91.heap.size, 5, none⟩ = some (.slice ct ca.T.length cct) := (g0.cell 5).trans rfl
  have lt_c : w91.heap.size < X2.heap.size := by omega
  clear g0 hsX
  replace x0 := (hbX.cell (p := ⟨w.heap.size, 0, none⟩) lt_x).trans x0
  replace x1 := (hbX.cell (p := ⟨w.heap.size, 1, none⟩) lt_x).trans x1
  replace x2 := (hbX.cell (p := ⟨w.heap.size, 2, none⟩) lt_x).trans x2
  replace x3 := (hbX.cell (p := ⟨w.heap.size, 3, none⟩) lt_x).trans x3
  replace x4 := (hbX.cell (p := ⟨w.heap.size, 4, none⟩) lt_x).trans x4
  replace x5 := (hbX.cell (p := ⟨w.heap.size, 5, none⟩) lt_x).trans x5
  replace lt_x : w.heap.size < X2.heap.size := Nat.lt_of_lt_of_le lt_x hbX.size
  replace y0 := (hbX.cell (p := ⟨w.heap.size + 1, 0, none⟩) lt_y).trans y0
  replace y1 := (hbX.cell (p := ⟨w.heap.size + 1, 1, none⟩) lt_y).trans y1
  replace y2 := (hbX.cell (p := ⟨w.heap.size + 1, 2, none⟩) lt_y).trans y2
  replace y3 := (hbX.cell (p := ⟨w.heap.size + 1, 3, none⟩) lt_y).trans y3
  replace y4 := (hbX.cell (p := ⟨w.heap.size + 1, 4, none⟩) lt_y).trans y4
  replace y5 := (hbX.cell (p := ⟨w.heap.size + 1, 5, none⟩) lt_y).trans y5
  replace lt_y : w.heap.size + 1 < X2.heap.size := Nat.lt_of_lt_of_le lt_y hbX.size
  replace s0 := (hbX.cell (p := ⟨w90.heap.size, 0, none⟩) lt_s).trans s0
  replace s1 := (hbX.cell (p := ⟨w90.heap.size, 1, none⟩) lt_s).trans s1
  replace s2 := (hbX.cell (p := ⟨w90.heap.size, 2, none⟩) lt_s).trans s2
  replace s3 := (hbX.cell (p := ⟨w90.heap.size, 3, none⟩) lt_s).trans s3
  replace s4 := (hbX.cell (p := ⟨w90.heap.size, 4, none⟩) lt_s).trans s4
  replace s5 := (hbX.cell (p := ⟨w90.heap.size, 5, none⟩) lt_s).trans s5
  replace lt_s : w90.heap.size < X2.heap.size := Nat.lt_of_lt_of_le lt_s hbX.size
  replace TA := Lib.hid (TA.out.up hbX)
  replace TD := Lib.hid (TD.out.up hbX)
  replace TS := Lib.hid (TS.out.up hbX)
  replace TC := Lib.hid (TC.out.up hbX)
  replace HW := Lib.hid (HW.out.trans (hbX.mono HW.out.size))
  replace HP := Lib.hid (HP.out.trans (hbX.mono HP.out.size))
  replace HC := Lib.hid (HC.out.trans (hbX.mono HC.out.size))
  clear hbX
  have hb := bel_drew X2
  replace x0 := (hb.cell (p := ⟨w.heap.size, 0, none⟩) lt_x).trans x0
  replace x1 := (hb.cell (p := ⟨w.heap.size, 1, none⟩) lt_x).trans x1
  replace x2 := (hb.cell (p := ⟨w.heap.size, 2, none⟩) lt_x).trans x2
  replace x3 := (hb.cell (p := ⟨w.heap.size, 3, none⟩) lt_x).trans x3
  replace x4 := (hb.cell (p := ⟨w.heap.size, 4, none⟩) lt_x).trans x4
  replace x5 := (hb.cell (p := ⟨w.heap.size, 5, none⟩) lt_x).trans x5
  replace lt_x : w.heap.size < X2.drew.heap.size := Nat.lt_of_lt_of_le lt_x hb.size
  replace y0 := (hb.cell (p := ⟨w.heap.size + 1, 0, none⟩) lt_y).trans y0
  replace y1 := (hb.cell (p := ⟨w.heap.size + 1, 1, none⟩) lt_y).trans y1
  replace y2 := (hb.cell (p := ⟨w.heap.size + 1, 2, none⟩) lt_y).trans y2
  replace y3 := (hb.cell (p := ⟨w.heap.size + 1, 3, none⟩) lt_y).trans y3
  replace y4 := (hb.cell (p := ⟨w.heap.size + 1, 4, none⟩) lt_y).trans y4
  replace y5 := (hb.cell (p := ⟨w.heap.size + 1, 5, none⟩) lt_y).trans y5
  replace lt_y : w.heap.size + 1 < X2.drew.heap.size := Nat.lt_of_lt_of_le lt_y hb.size
  replace s0 := (hb.cell (p := ⟨w90.heap.size, 0, none⟩) lt_s).trans s0
  replace s1 := (hb.cell (p := ⟨w90.heap.size, 1, none⟩) lt_s).trans s1
  replace s2 := (hb.cell (p := ⟨w90.heap.size, 2, none⟩) lt_s).trans s2
  replace s3 := (hb.cell (p := ⟨w90.heap.size, 3, none⟩) lt_s).trans s3
  replace s4 := (hb.cell (p := ⟨w90.heap.size, 4, none⟩) lt_s).trans s4
  replace s5 := (hb.cell (p := ⟨w90.heap.size, 5, none⟩) lt_s).trans s5
  replace lt_s : w90.heap.size < X2.drew.heap.size := Nat.lt_of_lt_of_le lt_s hb.size
  replace c0 := (hb.cell (p := ⟨w91.heap.size, 0, none⟩) lt_c).trans c0
  replace c1 := (hb.cell (p := ⟨w91.heap.size, 1, none⟩) lt_c).trans c1
  replace c2 := (hb.cell (p := ⟨w91.heap.size, 2, none⟩) lt_c).trans c2
  replace c3 := (hb.cell (p := ⟨w91.heap.size, 3, none⟩) lt_c).trans c3
  replace c4 := (hb.cell (p := ⟨w91.heap.size, 4, none⟩) lt_c).trans c4
  replace c5 := (hb.cell (p := ⟨w91.heap.size, 5, none⟩) lt_c).trans c5
  replace lt_c : w91.heap.size < X2.drew.heap.size := Nat.lt_of_lt_of_le lt_c hb.size
  replace TA := Lib.hid (TA.out.up hb)
  replace TD := Lib.hid (TD.out.up hb)
  replace TS := Lib.hid (TS.out.up hb)
  replace TC := Lib.hid (TC.out.up hb)
  replace HW := Lib.hid (HW.out.trans (hb.mono HW.out.size))
  replace HP := Lib.hid (HP.out.trans (hb.mono HP.out.size))
  replace HC := Lib.hid (HC.out.trans (hb.mono HC.out.size))
  clear hb
  go_region_held3 (fun w' => w'.cell? ⟨w.heap.size, 0, none⟩ = some (.int .i64 a.K) ∧ w'.cell? ⟨w.heap.size, 1, none⟩ = some (.int .i64 a.N) ∧ w'.cell? ⟨w.heap.size, 2, none⟩ = some (.string a.S) ∧ w'.cell? ⟨w.heap.size, 3, none⟩ = some (.slice am a.M.length acm) ∧ w'.cell? ⟨w.heap.size, 4, none⟩ = some (.slice al a.L.length acl) ∧ w'.cell? ⟨w.heap.size, 5, none⟩ = some (.slice at' a.T.length act) ∧ w'.cell? ⟨w.heap.size + 1, 0, none⟩ = some (.int .i64 b.K) ∧ w'.cell? ⟨w.heap.size + 1, 1, none⟩ = some (.int .i64 b.N) ∧ w'.cell? ⟨w.heap.size + 1, 2, none⟩ = some (.string b.S) ∧ w'.cell? ⟨w.heap.size + 1, 3, none⟩ = some (.slice dm b.M.length dcm) ∧ w'.cell? ⟨w.heap.size + 1, 4, none⟩ = some (.slice dl b.L.length dcl) ∧ w'.cell? ⟨w.heap.size + 1, 5, none⟩ = some (.slice dt b.T.length dct) ∧ w'.cell? ⟨w90.heap.size, 0, none⟩ = some (.int .i64 ca.K) ∧ w'.cell? ⟨w90.heap.size, 1, none⟩ = some (.int .i64 ca.N) ∧ w'.cell? ⟨w90.heap.size, 2, none⟩ = some (.string ca.S) ∧ w'.cell? ⟨w90.heap.size, 3, none⟩ = some (.slice sm_ ca.M.length scm) ∧ w'.cell? ⟨w90.heap.size, 4, none⟩ = some (.slice sl ca.L.length scl) ∧ w'.cell? ⟨w90.heap.size, 5, none⟩ = some (.slice st ca.T.length sct) ∧ w'.cell? ⟨w91.heap.size, 0, none⟩ = some (.int .i64 ca.K) ∧ w'.cell? ⟨w91.heap.size, 1, none⟩ = some (.int .i64 ca.N) ∧ w'.cell? ⟨w91.heap.size, 2, none⟩ = some (.string ca.S) ∧ w'.cell? ⟨w91.heap.size, 3, none⟩ = some (.slice cm ca.M.length ccm) ∧ w'.cell? ⟨w91.heap.size, 4, none⟩ = some (.slice cl ca.L.length ccl) ∧ w'.cell? ⟨w91.heap.size, 5, none⟩ = some (.slice ct ca.T.length cct)) (first | (with_reducible exact ⟨x0, x1, x2, x3, x4, x5, y0, y1, y2, y3, y4, y5, s0, s1, s2, s3, s4, s5, c0, c1, c2, c3, c4, c5⟩) | go_keep)
    (first
      | (go_at_call 23
         refine (size_any a _ _ _ (by exact TA.out) (Nat.le_refl _)).mono ?_
         rintro e w3 ⟨rfl, hb⟩
         rw [Hz.out]
         replace x0 := (hb.cell (p := ⟨w.heap.size, 0, none⟩) lt_x).trans x0
         replace x1 := (hb.cell (p := ⟨w.heap.size, 1, none⟩) lt_x).trans x1
         replace x2 := (hb.cell (p := ⟨w.heap.size, 2, none⟩) lt_x).trans x2
         replace x3 := (hb.cell (p := ⟨w.heap.size, 3, none⟩) lt_x).trans x3
         replace x4 := (hb.cell (p := ⟨w.heap.size, 4, none⟩) lt_x).trans x4
         replace x5 := (hb.cell (p := ⟨w.heap.size, 5, none⟩) lt_x).trans x5
         replace lt_x : w.heap.size < w3.heap.size := Nat.lt_of_lt_of_le lt_x hb.size
         replace y0 := (hb.cell (p := ⟨w.heap.size + 1, 0, none⟩) lt_y).trans y0
         replace y1 := (hb.cell (p := ⟨w.heap.size + 1, 1, none⟩) lt_y).trans y1
         replace y2 := (hb.cell (p := ⟨w.heap.size + 1, 2, none⟩) lt_y).trans y2
         replace y3 := (hb.cell (p := ⟨w.heap.size + 1, 3, none⟩) lt_y).trans y3
         replace y4 := (hb.cell (p := ⟨w.heap.size + 1, 4, none⟩) lt_y).trans y4
         replace y5 := (hb.cell (p := ⟨w.heap.size + 1, 5, none⟩) lt_y).trans y5
         replace lt_y : w.heap.size + 1 < w3.heap.size := Nat.lt_of_lt_of_le lt_y hb.size
         replace s0 := (hb.cell (p := ⟨w90.heap.size, 0, none⟩) lt_s).trans s0
         replace s1 := (hb.cell (p := ⟨w90.heap.size, 1, none⟩) lt_s).trans s1
         replace s2 := (hb.cell (p := ⟨w90.heap.size, 2, none⟩) lt_s).trans s2
         replace s3 := (hb.cell (p := ⟨w90.heap.size, 3, none⟩) lt_s).trans s3
         replace s4 := (hb.cell (p := ⟨w90.heap.size, 4, none⟩) lt_s).trans s4
         replace s5 := (hb.cell (p := ⟨w90.heap.size, 5, none⟩) lt_s).trans s5
         replace lt_s : w90.heap.size < w3.heap.size := Nat.lt_of_lt_of_le lt_s hb.size
         replace c0 := (hb.cell (p := ⟨w91.heap.size, 0, none⟩) lt_c).trans c0
         replace c1 := (hb.cell (p := ⟨w91.heap.size, 1, none⟩) lt_c).trans c1
         replace c2 := (hb.cell (p := ⟨w91.heap.size, 2, none⟩) lt_c).trans c2
         replace c3 := (hb.cell (p := ⟨w91.heap.size, 3, none⟩) lt_c).trans c3
         replace c4 := (hb.cell (p := ⟨w91.heap.size, 4, none⟩) lt_c).trans c4
         replace c5 := (hb.cell (p := ⟨w91.heap.size, 5, none⟩) lt_c).trans c5
         replace lt_c : w91.heap.size < w3.heap.size := Nat.lt_of_lt_of_le lt_c hb.size
         replace TA := Lib.hid (TA.out.up hb)
         replace TD := Lib.hid (TD.out.up hb)
         replace TS := Lib.hid (TS.out.up hb)
         replace TC := Lib.hid (TC.out.up hb)
         replace HW := Lib.hid (HW.out.trans (hb.mono HW.out.size))
         replace HP := Lib.hid (HP.out.trans (hb.mono HP.out.size))
         replace HC := Lib.hid (HC.out.trans (hb.mono HC.out.size))
         clear hb
         skip)
      | (go_at_call 24
         refine (rsize_any a _ _ _ (by exact TA.out) (Nat.le_refl _)).mono ?_
         rintro e w4 ⟨rfl, hb⟩
         rw [Hz.out]
         replace x0 := (hb.cell (p := ⟨w.heap.size, 0, none⟩) lt_x).trans x0
         replace x1 := (hb.cell (p := ⟨w.heap.size, 1, none⟩) lt_x).trans x1
         replace x2 := (hb.cell (p := ⟨w.heap.size, 2, none⟩) lt_x).trans x2
         replace x3 := (hb.cell (p := ⟨w.heap.size, 3, none⟩) lt_x).trans x3
         replace x4 := (hb.cell (p := ⟨w.heap.size, 4, none⟩) lt_x).trans x4
         replace x5 := (hb.cell (p := ⟨w.heap.size, 5, none⟩) lt_x).trans x5
         replace lt_x : w.heap.size < w4.heap.size := Nat.lt_of_lt_of_le lt_x hb.size
         replace y0 := (hb.cell (p := ⟨w.heap.size + 1, 0, none⟩) lt_y).trans y0
         replace y1 := (hb.cell (p := ⟨w.heap.size + 1, 1, none⟩) lt_y).trans y1
         replace y2 := (hb.cell (p := ⟨w.heap.size + 1, 2, none⟩) lt_y).trans y2
         replace y3 := (hb.cell (p := ⟨w.heap.size + 1, 3, none⟩) lt_y).trans y3
         replace y4 := (hb.cell (p := ⟨w.heap.size + 1, 4, none⟩) lt_y).trans y4
         replace y5 := (hb.cell (p := ⟨w.heap.size + 1, 5, none⟩) lt_y).trans y5
         replace lt_y : w.heap.size + 1 < w4.heap.size := Nat.lt_of_lt_of_le lt_y hb.size
         replace s0 := (hb.cell (p := ⟨w90.heap.size, 0, none⟩) lt_s).trans s0
         replace s1 := (hb.cell (p := ⟨w90.heap.size, 1, none⟩) lt_s).trans s1
         replace s2 := (hb.cell (p := ⟨w90.heap.size, 2, none⟩) lt_s).trans s2
         replace s3 := (hb.cell (p := ⟨w90.heap.size, 3, none⟩) lt_s).trans s3
         replace s4 := (hb.cell (p := ⟨w90.heap.size, 4, none⟩) lt_s).trans s4
         replace s5 := (hb.cell (p := ⟨w90.heap.size, 5, none⟩) lt_s).trans s5
         replace lt_s : w90.heap.size < w4.heap.size := Nat.lt_of_lt_of_le lt_s hb.size
         replace c0 := (hb.cell (p := ⟨w91.heap.size, 0, none⟩) lt_c).trans c0
         replace c1 := (hb.cell (p := ⟨w91.heap.size, 1, none⟩) lt_c).trans c1
         replace c2 := (hb.cell (p := ⟨w91.heap.size, 2, none⟩) lt_c).trans c2
         replace c3 := (hb.cell (p := ⟨w91.heap.size, 3, none⟩) lt_c).trans c3
         replace c4 := (hb.cell (p := ⟨w91.heap.size, 4, none⟩) lt_c).trans c4
         replace c5 := (hb.cell (p := ⟨w91.heap.size, 5, none⟩) lt_c).trans c5
         replace lt_c : w91.heap.size < w4.heap.size := Nat.lt_of_lt_of_le lt_c hb.size
         replace TA := Lib.hid (TA.out.up hb)
         replace TD := Lib.hid (TD.out.up hb)
         replace TS := Lib.hid (TS.out.up hb)
         replace TC := Lib.hid (TC.out.up hb)
         replace HW := Lib.hid (HW.out.trans (hb.mono HW.out.size))
         replace HP := Lib.hid (HP.out.trans (hb.mono HP.out.size))
         replace HC := Lib.hid (HC.out.trans (hb.mono HC.out.size))
         clear hb
         skip)
      | (go_at_call 25
         refine (deep_any a _ _ _ (by exact TA.out) (Nat.le_refl _)).mono ?_
         rintro e w5 ⟨rfl, hb⟩
         rw [Hdp.out]
         replace x0 := (hb.cell (p := ⟨w.heap.size, 0, none⟩) lt_x).trans x0
         replace x1 := (hb.cell (p := ⟨w.heap.size, 1, none⟩) lt_x).trans x1
         replace x2 := (hb.cell (p := ⟨w.heap.size, 2, none⟩) lt_x).trans x2
         replace x3 := (hb.cell (p := ⟨w.heap.size, 3, none⟩) lt_x).trans x3
         replace x4 := (hb.cell (p := ⟨w.heap.size, 4, none⟩) lt_x).trans x4
         replace x5 := (hb.cell (p := ⟨w.heap.size, 5, none⟩) lt_x).trans x5
         replace lt_x : w.heap.size < w5.heap.size := Nat.lt_of_lt_of_le lt_x hb.size
         replace y0 := (hb.cell (p := ⟨w.heap.size + 1, 0, none⟩) lt_y).trans y0
         replace y1 := (hb.cell (p := ⟨w.heap.size + 1, 1, none⟩) lt_y).trans y1
         replace y2 := (hb.cell (p := ⟨w.heap.size + 1, 2, none⟩) lt_y).trans y2
         replace y3 := (hb.cell (p := ⟨w.heap.size + 1, 3, none⟩) lt_y).trans y3
         replace y4 := (hb.cell (p := ⟨w.heap.size + 1, 4, none⟩) lt_y).trans y4
         replace y5 := (hb.cell (p := ⟨w.heap.size + 1, 5, none⟩) lt_y).trans y5
         replace lt_y : w.heap.size + 1 < w5.heap.size := Nat.lt_of_lt_of_le lt_y hb.size
         replace s0 := (hb.cell (p := ⟨w90.heap.size, 0, none⟩) lt_s).trans s0
         replace s1 := (hb.cell (p := ⟨w90.heap.size, 1, none⟩) lt_s).trans s1
         replace s2 := (hb.cell (p := ⟨w90.heap.size, 2, none⟩) lt_s).trans s2
         replace s3 := (hb.cell (p := ⟨w90.heap.size, 3, none⟩) lt_s).trans s3
         replace s4 := (hb.cell (p := ⟨w90.heap.size, 4, none⟩) lt_s).trans s4
         replace s5 := (hb.cell (p := ⟨w90.heap.size, 5, none⟩) lt_s).trans s5
         replace lt_s : w90.heap.size < w5.heap.size := Nat.lt_of_lt_of_le lt_s hb.size
         replace c0 := (hb.cell (p := ⟨w91.heap.size, 0, none⟩) lt_c).trans c0
         replace c1 := (hb.cell (p := ⟨w91.heap.size, 1, none⟩) lt_c).trans c1
         replace c2 := (hb.cell (p := ⟨w91.heap.size, 2, none⟩) lt_c).trans c2
         replace c3 := (hb.cell (p := ⟨w91.heap.size, 3, none⟩) lt_c).trans c3
         replace c4 := (hb.cell (p := ⟨w91.heap.size, 4, none⟩) lt_c).trans c4
         replace c5 := (hb.cell (p := ⟨w91.heap.size, 5, none⟩) lt_c).trans c5
         replace lt_c : w91.heap.size < w5.heap.size := Nat.lt_of_lt_of_le lt_c hb.size
         replace TA := Lib.hid (TA.out.up hb)
         replace TD := Lib.hid (TD.out.up hb)
         replace TS := Lib.hid (TS.out.up hb)
         replace TC := Lib.hid (TC.out.up hb)
         replace HW := Lib.hid (HW.out.trans (hb.mono HW.out.size))
         replace HP := Lib.hid (HP.out.trans (hb.mono HP.out.size))
         replace HC := Lib.hid (HC.out.trans (hb.mono HC.out.size))
         clear hb
         skip)
      | (go_at_call 26
         refine (rdeep_any a _ _ _ (by exact TA.out) (Nat.le_refl _)).mono ?_
         rintro e w6 ⟨rfl, hb⟩
         rw [Hdp.out]
         replace x0 := (hb.cell (p := ⟨w.heap.size, 0, none⟩) lt_x).trans x0
         replace x1 := (hb.cell (p := ⟨w.heap.size, 1, none⟩) lt_x).trans x1
         replace x2 := (hb.cell (p := ⟨w.heap.size, 2, none⟩) lt_x).trans x2
         replace x3 := (hb.cell (p := ⟨w.heap.size, 3, none⟩) lt_x).trans x3
         replace x4 := (hb.cell (p := ⟨w.heap.size, 4, none⟩) lt_x).trans x4
         replace x5 := (hb.cell (p := ⟨w.heap.size, 5, none⟩) lt_x).trans x5
         replace lt_x : w.heap.size < w6.heap.size := Nat.lt_of_lt_of_le lt_x hb.size
         replace y0 := (hb.cell (p := ⟨w.heap.size + 1, 0, none⟩) lt_y).trans y0
         replace y1 := (hb.cell (p := ⟨w.heap.size + 1, 1, none⟩) lt_y).trans y1
         replace y2 := (hb.cell (p := ⟨w.heap.size + 1, 2, none⟩) lt_y).trans y2
         replace y3 := (hb.cell (p := ⟨w.heap.size + 1, 3, none⟩) lt_y).trans y3
         replace y4 := (hb.cell (p := ⟨w.heap.size + 1, 4, none⟩) lt_y).trans y4
         replace y5 := (hb.cell (p := ⟨w.heap.size + 1, 5, none⟩) lt_y).trans y5
         replace lt_y : w.heap.size + 1 < w6.heap.size := Nat.lt_of_lt_of_le lt_y hb.size
         replace s0 := (hb.cell (p := ⟨w90.heap.size, 0, none⟩) lt_s).trans s0
         replace s1 := (hb.cell (p := ⟨w90.heap.size, 1, none⟩) lt_s).trans s1
         replace s2 := (hb.cell (p := ⟨w90.heap.size, 2, none⟩) lt_s).trans s2
         replace s3 := (hb.cell (p := ⟨w90.heap.size, 3, none⟩) lt_s).trans s3
         replace s4 := (hb.cell (p := ⟨w90.heap.size, 4, none⟩) lt_s).trans s4
         replace s5 := (hb.cell (p := ⟨w90.heap.size, 5, none⟩) lt_s).trans s5
         replace lt_s : w90.heap.size < w6.heap.size := Nat.lt_of_lt_of_le lt_s hb.size
         replace c0 := (hb.cell (p := ⟨w91.heap.size, 0, none⟩) lt_c).trans c0
         replace c1 := (hb.cell (p := ⟨w91.heap.size, 1, none⟩) lt_c).trans c1
         replace c2 := (hb.cell (p := ⟨w91.heap.size, 2, none⟩) lt_c).trans c2
         replace c3 := (hb.cell (p := ⟨w91.heap.size, 3, none⟩) lt_c).trans c3
         replace c4 := (hb.cell (p := ⟨w91.heap.size, 4, none⟩) lt_c).trans c4
         replace c5 := (hb.cell (p := ⟨w91.heap.size, 5, none⟩) lt_c).trans c5
         replace lt_c : w91.heap.size < w6.heap.size := Nat.lt_of_lt_of_le lt_c hb.size
         replace TA := Lib.hid (TA.out.up hb)
         replace TD := Lib.hid (TD.out.up hb)
         replace TS := Lib.hid (TS.out.up hb)
         replace TC := Lib.hid (TC.out.up hb)
         replace HW := Lib.hid (HW.out.trans (hb.mono HW.out.size))
         replace HP := Lib.hid (HP.out.trans (hb.mono HP.out.size))
         replace HC := Lib.hid (HC.out.trans (hb.mono HC.out.size))
         clear hb
         skip)
      | (go_at_call 27
         refine (same_any a b _ _ _ _ (by exact TA.out) (by exact TD.out) (Nat.le_refl _)).mono ?_
         rintro e w7 ⟨rfl, hb⟩
         rw [Hsm.out]
         replace x0 := (hb.cell (p := ⟨w.heap.size, 0, none⟩) lt_x).trans x0
         replace x1 := (hb.cell (p := ⟨w.heap.size, 1, none⟩) lt_x).trans x1
         replace x2 := (hb.cell (p := ⟨w.heap.size, 2, none⟩) lt_x).trans x2
         replace x3 := (hb.cell (p := ⟨w.heap.size, 3, none⟩) lt_x).trans x3
         replace x4 := (hb.cell (p := ⟨w.heap.size, 4, none⟩) lt_x).trans x4
         replace x5 := (hb.cell (p := ⟨w.heap.size, 5, none⟩) lt_x).trans x5
         replace lt_x : w.heap.size < w7.heap.size := Nat.lt_of_lt_of_le lt_x hb.size
         replace y0 := (hb.cell (p := ⟨w.heap.size + 1, 0, none⟩) lt_y).trans y0
         replace y1 := (hb.cell (p := ⟨w.heap.size + 1, 1, none⟩) lt_y).trans y1
         replace y2 := (hb.cell (p := ⟨w.heap.size + 1, 2, none⟩) lt_y).trans y2
         replace y3 := (hb.cell (p := ⟨w.heap.size + 1, 3, none⟩) lt_y).trans y3
         replace y4 := (hb.cell (p := ⟨w.heap.size + 1, 4, none⟩) lt_y).trans y4
         replace y5 := (hb.cell (p := ⟨w.heap.size + 1, 5, none⟩) lt_y).trans y5
         replace lt_y : w.heap.size + 1 < w7.heap.size := Nat.lt_of_lt_of_le lt_y hb.size
         replace s0 := (hb.cell (p := ⟨w90.heap.size, 0, none⟩) lt_s).trans s0
         replace s1 := (hb.cell (p := ⟨w90.heap.size, 1, none⟩) lt_s).trans s1
         replace s2 := (hb.cell (p := ⟨w90.heap.size, 2, none⟩) lt_s).trans s2
         replace s3 := (hb.cell (p := ⟨w90.heap.size, 3, none⟩) lt_s).trans s3
         replace s4 := (hb.cell (p := ⟨w90.heap.size, 4, none⟩) lt_s).trans s4
         replace s5 := (hb.cell (p := ⟨w90.heap.size, 5, none⟩) lt_s).trans s5
         replace lt_s : w90.heap.size < w7.heap.size := Nat.lt_of_lt_of_le lt_s hb.size
         replace c0 := (hb.cell (p := ⟨w91.heap.size, 0, none⟩) lt_c).trans c0
         replace c1 := (hb.cell (p := ⟨w91.heap.size, 1, none⟩) lt_c).trans c1
         replace c2 := (hb.cell (p := ⟨w91.heap.size, 2, none⟩) lt_c).trans c2
         replace c3 := (hb.cell (p := ⟨w91.heap.size, 3, none⟩) lt_c).trans c3
         replace c4 := (hb.cell (p := ⟨w91.heap.size, 4, none⟩) lt_c).trans c4
         replace c5 := (hb.cell (p := ⟨w91.heap.size, 5, none⟩) lt_c).trans c5
         replace lt_c : w91.heap.size < w7.heap.size := Nat.lt_of_lt_of_le lt_c hb.size
         replace TA := Lib.hid (TA.out.up hb)
         replace TD := Lib.hid (TD.out.up hb)
         replace TS := Lib.hid (TS.out.up hb)
         replace TC := Lib.hid (TC.out.up hb)
         replace HW := Lib.hid (HW.out.trans (hb.mono HW.out.size))
         replace HP := Lib.hid (HP.out.trans (hb.mono HP.out.size))
         replace HC := Lib.hid (HC.out.trans (hb.mono HC.out.size))
         clear hb
         skip)
      | (go_at_call 28
         refine (rsame_any a b _ _ _ _ (by exact TA.out) (by exact TD.out) (Nat.le_refl _)).mono ?_
         rintro e w8 ⟨rfl, hb⟩
         rw [Hsm.out]
         replace x0 := (hb.cell (p := ⟨w.heap.size, 0, none⟩) lt_x).trans x0
         replace x1 := (hb.cell (p := ⟨w.heap.size, 1, none⟩) lt_x).trans x1
         replace x2 := (hb.cell (p := ⟨w.heap.size, 2, none⟩) lt_x).trans x2
         replace x3 := (hb.cell (p := ⟨w.heap.size, 3, none⟩) lt_x).trans x3
         replace x4 := (hb.cell (p := ⟨w.heap.size, 4, none⟩) lt_x).trans x4
         replace x5 := (hb.cell (p := ⟨w.heap.size, 5, none⟩) lt_x).trans x5
         replace lt_x : w.heap.size < w8.heap.size := Nat.lt_of_lt_of_le lt_x hb.size
         replace y0 := (hb.cell (p := ⟨w.heap.size + 1, 0, none⟩) lt_y).trans y0
         replace y1 := (hb.cell (p := ⟨w.heap.size + 1, 1, none⟩) lt_y).trans y1
         replace y2 := (hb.cell (p := ⟨w.heap.size + 1, 2, none⟩) lt_y).trans y2
         replace y3 := (hb.cell (p := ⟨w.heap.size + 1, 3, none⟩) lt_y).trans y3
         replace y4 := (hb.cell (p := ⟨w.heap.size + 1, 4, none⟩) lt_y).trans y4
         replace y5 := (hb.cell (p := ⟨w.heap.size + 1, 5, none⟩) lt_y).trans y5
         replace lt_y : w.heap.size + 1 < w8.heap.size := Nat.lt_of_lt_of_le lt_y hb.size
         replace s0 := (hb.cell (p := ⟨w90.heap.size, 0, none⟩) lt_s).trans s0
         replace s1 := (hb.cell (p := ⟨w90.heap.size, 1, none⟩) lt_s).trans s1
         replace s2 := (hb.cell (p := ⟨w90.heap.size, 2, none⟩) lt_s).trans s2
         replace s3 := (hb.cell (p := ⟨w90.heap.size, 3, none⟩) lt_s).trans s3
         replace s4 := (hb.cell (p := ⟨w90.heap.size, 4, none⟩) lt_s).trans s4
         replace s5 := (hb.cell (p := ⟨w90.heap.size, 5, none⟩) lt_s).trans s5
         replace lt_s : w90.heap.size < w8.heap.size := Nat.lt_of_lt_of_le lt_s hb.size
         replace c0 := (hb.cell (p := ⟨w91.heap.size, 0, none⟩) lt_c).trans c0
         replace c1 := (hb.cell (p := ⟨w91.heap.size, 1, none⟩) lt_c).trans c1
         replace c2 := (hb.cell (p := ⟨w91.heap.size, 2, none⟩) lt_c).trans c2
         replace c3 := (hb.cell (p := ⟨w91.heap.size, 3, none⟩) lt_c).trans c3
         replace c4 := (hb.cell (p := ⟨w91.heap.size, 4, none⟩) lt_c).trans c4
         replace c5 := (hb.cell (p := ⟨w91.heap.size, 5, none⟩) lt_c).trans c5
         replace lt_c : w91.heap.size < w8.heap.size := Nat.lt_of_lt_of_le lt_c hb.size
         replace TA := Lib.hid (TA.out.up hb)
         replace TD := Lib.hid (TD.out.up hb)
         replace TS := Lib.hid (TS.out.up hb)
         replace TC := Lib.hid (TC.out.up hb)
         replace HW := Lib.hid (HW.out.trans (hb.mono HW.out.size))
         replace HP := Lib.hid (HP.out.trans (hb.mono HP.out.size))
         replace HC := Lib.hid (HC.out.trans (hb.mono HC.out.size))
         clear hb
         skip)
      | (go_at_call 29
         have _t := tok1
         refine (alike_any ca ca _ _ _ (by exact TC.out) (by exact TS.out)).mono ?_
         rintro e w9 ⟨rfl, hb⟩
         rw [Al1.out]
         replace x0 := (hb.cell (p := ⟨w.heap.size, 0, none⟩) lt_x).trans x0
         replace x1 := (hb.cell (p := ⟨w.heap.size, 1, none⟩) lt_x).trans x1
         replace x2 := (hb.cell (p := ⟨w.heap.size, 2, none⟩) lt_x).trans x2
         replace x3 := (hb.cell (p := ⟨w.heap.size, 3, none⟩) lt_x).trans x3
         replace x4 := (hb.cell (p := ⟨w.heap.size, 4, none⟩) lt_x).trans x4
         replace x5 := (hb.cell (p := ⟨w.heap.size, 5, none⟩) lt_x).trans x5
         replace lt_x : w.heap.size < w9.heap.size := Nat.lt_of_lt_of_le lt_x hb.size
         replace y0 := (hb.cell (p := ⟨w.heap.size + 1, 0, none⟩) lt_y).trans y0
         replace y1 := (hb.cell (p := ⟨w.heap.size + 1, 1, none⟩) lt_y).trans y1
         replace y2 := (hb.cell (p := ⟨w.heap.size + 1, 2, none⟩) lt_y).trans y2
         replace y3 := (hb.cell (p := ⟨w.heap.size + 1, 3, none⟩) lt_y).trans y3
         replace y4 := (hb.cell (p := ⟨w.heap.size + 1, 4, none⟩) lt_y).trans y4
         replace y5 := (hb.cell (p := ⟨w.heap.size + 1, 5, none⟩) lt_y).trans y5
         replace lt_y : w.heap.size + 1 < w9.heap.size := Nat.lt_of_lt_of_le lt_y hb.size
         replace s0 := (hb.cell (p := ⟨w90.heap.size, 0, none⟩) lt_s).trans s0
         replace s1 := (hb.cell (p := ⟨w90.heap.size, 1, none⟩) lt_s).trans s1
         replace s2 := (hb.cell (p := ⟨w90.heap.size, 2, none⟩) lt_s).trans s2
         replace s3 := (hb.cell (p := ⟨w90.heap.size, 3, none⟩) lt_s).trans s3
         replace s4 := (hb.cell (p := ⟨w90.heap.size, 4, none⟩) lt_s).trans s4
         replace s5 := (hb.cell (p := ⟨w90.heap.size, 5, none⟩) lt_s).trans s5
         replace lt_s : w90.heap.size < w9.heap.size := Nat.lt_of_lt_of_le lt_s hb.size
         replace c0 := (hb.cell (p := ⟨w91.heap.size, 0, none⟩) lt_c).trans c0
         replace c1 := (hb.cell (p := ⟨w91.heap.size, 1, none⟩) lt_c).trans c1
         replace c2 := (hb.cell (p := ⟨w91.heap.size, 2, none⟩) lt_c).trans c2
         replace c3 := (hb.cell (p := ⟨w91.heap.size, 3, none⟩) lt_c).trans c3
         replace c4 := (hb.cell (p := ⟨w91.heap.size, 4, none⟩) lt_c).trans c4
         replace c5 := (hb.cell (p := ⟨w91.heap.size, 5, none⟩) lt_c).trans c5
         replace lt_c : w91.heap.size < w9.heap.size := Nat.lt_of_lt_of_le lt_c hb.size
         replace TA := Lib.hid (TA.out.up hb)
         replace TD := Lib.hid (TD.out.up hb)
         replace TS := Lib.hid (TS.out.up hb)
         replace TC := Lib.hid (TC.out.up hb)
         replace HW := Lib.hid (HW.out.trans (hb.mono HW.out.size))
         replace HP := Lib.hid (HP.out.trans (hb.mono HP.out.size))
         replace HC := Lib.hid (HC.out.trans (hb.mono HC.out.size))
         clear hb
         clear tok1 _t
         skip)
      | (go_at_call 30
         refine (plain_any a _ _ (by exact TA.out)).mono ?_
         rintro e w10 ⟨v', rfl, hb, hi⟩
         rw [Hca.out, Hpa.out] at hi
         have hi2 := hi
         obtain ⟨qm, qcm, ql, qcl, qt, qct, rfl, _⟩ := hi2.open_
         have TQ := Lib.hid hi
         clear hi hi2
         replace x0 := (hb.cell (p := ⟨w.heap.size, 0, none⟩) lt_x).trans x0
         replace x1 := (hb.cell (p := ⟨w.heap.size, 1, none⟩) lt_x).trans x1
         replace x2 := (hb.cell (p := ⟨w.heap.size, 2, none⟩) lt_x).trans x2
         replace x3 := (hb.cell (p := ⟨w.heap.size, 3, none⟩) lt_x).trans x3
         replace x4 := (hb.cell (p := ⟨w.heap.size, 4, none⟩) lt_x).trans x4
         replace x5 := (hb.cell (p := ⟨w.heap.size, 5, none⟩) lt_x).trans x5
         replace lt_x : w.heap.size < w10.heap.size := Nat.lt_of_lt_of_le lt_x hb.size
         replace y0 := (hb.cell (p := ⟨w.heap.size + 1, 0, none⟩) lt_y).trans y0
         replace y1 := (hb.cell (p := ⟨w.heap.size + 1, 1, none⟩) lt_y).trans y1
         replace y2 := (hb.cell (p := ⟨w.heap.size + 1, 2, none⟩) lt_y).trans y2
         replace y3 := (hb.cell (p := ⟨w.heap.size + 1, 3, none⟩) lt_y).trans y3
         replace y4 := (hb.cell (p := ⟨w.heap.size + 1, 4, none⟩) lt_y).trans y4
         replace y5 := (hb.cell (p := ⟨w.heap.size + 1, 5, none⟩) lt_y).trans y5
         replace lt_y : w.heap.size + 1 < w10.heap.size := Nat.lt_of_lt_of_le lt_y hb.size
         replace s0 := (hb.cell (p := ⟨w90.heap.size, 0, none⟩) lt_s).trans s0
         replace s1 := (hb.cell (p := ⟨w90.heap.size, 1, none⟩) lt_s).trans s1
         replace s2 := (hb.cell (p := ⟨w90.heap.size, 2, none⟩) lt_s).trans s2
         replace s3 := (hb.cell (p := ⟨w90.heap.size, 3, none⟩) lt_s).trans s3
         replace s4 := (hb.cell (p := ⟨w90.heap.size, 4, none⟩) lt_s).trans s4
         replace s5 := (hb.cell (p := ⟨w90.heap.size, 5, none⟩) lt_s).trans s5
         replace lt_s : w90.heap.size < w10.heap.size := Nat.lt_of_lt_of_le lt_s hb.size
         replace c0 := (hb.cell (p := ⟨w91.heap.size, 0, none⟩) lt_c).trans c0
         replace c1 := (hb.cell (p := ⟨w91.heap.size, 1, none⟩) lt_c).trans c1
         replace c2 := (hb.cell (p := ⟨w91.heap.size, 2, none⟩) lt_c).trans c2
         replace c3 := (hb.cell (p := ⟨w91.heap.size, 3, none⟩) lt_c).trans c3
         replace c4 := (hb.cell (p := ⟨w91.heap.size, 4, none⟩) lt_c).trans c4
         replace c5 := (hb.cell (p := ⟨w91.heap.size, 5, none⟩) lt_c).trans c5
         replace lt_c : w91.heap.size < w10.heap.size := Nat.lt_of_lt_of_le lt_c hb.size
         replace TA := Lib.hid (TA.out.up hb)
         replace TD := Lib.hid (TD.out.up hb)
         replace TS := Lib.hid (TS.out.up hb)
         replace TC := Lib.hid (TC.out.up hb)
         replace HW := Lib.hid (HW.out.trans (hb.mono HW.out.size))
         replace HP := Lib.hid (HP.out.trans (hb.mono HP.out.size))
         replace HC := Lib.hid (HC.out.trans (hb.mono HC.out.size))
         clear hb
         skip)
      | (go_at_call 31
         refine (rplain_any a _ _ _ (by exact TA.out) (Nat.le_refl _)).mono ?_
         rintro e w11 ⟨v', rfl, hb, hi⟩
         replace hi := hi.more (Q' := Lo w11.heap.size) (fun b hb => hb.2)
         rw [show madeD false (cloneD a) = pa from (by rw [Hca.out]; exact Hpa.out)] at hi
         have hi2 := hi
         obtain ⟨rm, rcm, rl, rcl, rt, rct, rfl, _⟩ := hi2.open_
         have TR := Lib.hid hi
         clear hi hi2
         replace x0 := (hb.cell (p := ⟨w.heap.size, 0, none⟩) lt_x).trans x0
         replace x1 := (hb.cell (p := ⟨w.heap.size, 1, none⟩) lt_x).trans x1
         replace x2 := (hb.cell (p := ⟨w.heap.size, 2, none⟩) lt_x).trans x2
         replace x3 := (hb.cell (p := ⟨w.heap.size, 3, none⟩) lt_x).trans x3
         replace x4 := (hb.cell (p := ⟨w.heap.size, 4, none⟩) lt_x).trans x4
         replace x5 := (hb.cell (p := ⟨w.heap.size, 5, none⟩) lt_x).trans x5
         replace lt_x : w.heap.size < w11.heap.size := Nat.lt_of_lt_of_le lt_x hb.size
         replace y0 := (hb.cell (p := ⟨w.heap.size + 1, 0, none⟩) lt_y).trans y0
         replace y1 := (hb.cell (p := ⟨w.heap.size + 1, 1, none⟩) lt_y).trans y1
         replace y2 := (hb.cell (p := ⟨w.heap.size + 1, 2, none⟩) lt_y).trans y2
         replace y3 := (hb.cell (p := ⟨w.heap.size + 1, 3, none⟩) lt_y).trans y3
         replace y4 := (hb.cell (p := ⟨w.heap.size + 1, 4, none⟩) lt_y).trans y4
         replace y5 := (hb.cell (p := ⟨w.heap.size + 1, 5, none⟩) lt_y).trans y5
         replace lt_y : w.heap.size + 1 < w11.heap.size := Nat.lt_of_lt_of_le lt_y hb.size
         replace s0 := (hb.cell (p := ⟨w90.heap.size, 0, none⟩) lt_s).trans s0
         replace s1 := (hb.cell (p := ⟨w90.heap.size, 1, none⟩) lt_s).trans s1
         replace s2 := (hb.cell (p := ⟨w90.heap.size, 2, none⟩) lt_s).trans s2
         replace s3 := (hb.cell (p := ⟨w90.heap.size, 3, none⟩) lt_s).trans s3
         replace s4 := (hb.cell (p := ⟨w90.heap.size, 4, none⟩) lt_s).trans s4
         replace s5 := (hb.cell (p := ⟨w90.heap.size, 5, none⟩) lt_s).trans s5
         replace lt_s : w90.heap.size < w11.heap.size := Nat.lt_of_lt_of_le lt_s hb.size
         replace c0 := (hb.cell (p := ⟨w91.heap.size, 0, none⟩) lt_c).trans c0
         replace c1 := (hb.cell (p := ⟨w91.heap.size, 1, none⟩) lt_c).trans c1
         replace c2 := (hb.cell (p := ⟨w91.heap.size, 2, none⟩) lt_c).trans c2
         replace c3 := (hb.cell (p := ⟨w91.heap.size, 3, none⟩) lt_c).trans c3
         replace c4 := (hb.cell (p := ⟨w91.heap.size, 4, none⟩) lt_c).trans c4
         replace c5 := (hb.cell (p := ⟨w91.heap.size, 5, none⟩) lt_c).trans c5
         replace lt_c : w91.heap.size < w11.heap.size := Nat.lt_of_lt_of_le lt_c hb.size
         replace TA := Lib.hid (TA.out.up hb)
         replace TD := Lib.hid (TD.out.up hb)
         replace TS := Lib.hid (TS.out.up hb)
         replace TC := Lib.hid (TC.out.up hb)
         replace TQ := Lib.hid (TQ.out.up hb)
         replace HW := Lib.hid (HW.out.trans (hb.mono HW.out.size))
         replace HP := Lib.hid (HP.out.trans (hb.mono HP.out.size))
         replace HC := Lib.hid (HC.out.trans (hb.mono HC.out.size))
         clear hb
         skip)
      | (go_at_call 29
         refine (alike_any pa pa _ _ _ (by exact TQ.out) (by exact TR.out)).mono ?_
         rintro e w12 ⟨rfl, hb⟩
         rw [Al2.out]
         replace x0 := (hb.cell (p := ⟨w.heap.size, 0, none⟩) lt_x).trans x0
         replace x1 := (hb.cell (p := ⟨w.heap.size, 1, none⟩) lt_x).trans x1
         replace x2 := (hb.cell (p := ⟨w.heap.size, 2, none⟩) lt_x).trans x2
         replace x3 := (hb.cell (p := ⟨w.heap.size, 3, none⟩) lt_x).trans x3
         replace x4 := (hb.cell (p := ⟨w.heap.size, 4, none⟩) lt_x).trans x4
         replace x5 := (hb.cell (p := ⟨w.heap.size, 5, none⟩) lt_x).trans x5
         replace lt_x : w.heap.size < w12.heap.size := Nat.lt_of_lt_of_le lt_x hb.size
         replace y0 := (hb.cell (p := ⟨w.heap.size + 1, 0, none⟩) lt_y).trans y0
         replace y1 := (hb.cell (p := ⟨w.heap.size + 1, 1, none⟩) lt_y).trans y1
         replace y2 := (hb.cell (p := ⟨w.heap.size + 1, 2, none⟩) lt_y).trans y2
         replace y3 := (hb.cell (p := ⟨w.heap.size + 1, 3, none⟩) lt_y).trans y3
         replace y4 := (hb.cell (p := ⟨w.heap.size + 1, 4, none⟩) lt_y).trans y4
         replace y5 := (hb.cell (p := ⟨w.heap.size + 1, 5, none⟩) lt_y).trans y5
         replace lt_y : w.heap.size + 1 < w12.heap.size := Nat.lt_of_lt_of_le lt_y hb.size
         replace s0 := (hb.cell (p := ⟨w90.heap.size, 0, none⟩) lt_s).trans s0
         replace s1 := (hb.cell (p := ⟨w90.heap.size, 1, none⟩) lt_s).trans s1
         replace s2 := (hb.cell (p := ⟨w90.heap.size, 2, none⟩) lt_s).trans s2
         replace s3 := (hb.cell (p := ⟨w90.heap.size, 3, none⟩) lt_s).trans s3
         replace s4 := (hb.cell (p := ⟨w90.heap.size, 4, none⟩) lt_s).trans s4
         replace s5 := (hb.cell (p := ⟨w90.heap.size, 5, none⟩) lt_s).trans s5
         replace lt_s : w90.heap.size < w12.heap.size := Nat.lt_of_lt_of_le lt_s hb.size
         replace c0 := (hb.cell (p := ⟨w91.heap.size, 0, none⟩) lt_c).trans c0
         replace c1 := (hb.cell (p := ⟨w91.heap.size, 1, none⟩) lt_c).trans c1
         replace c2 := (hb.cell (p := ⟨w91.heap.size, 2, none⟩) lt_c).trans c2
         replace c3 := (hb.cell (p := ⟨w91.heap.size, 3, none⟩) lt_c).trans c3
         replace c4 := (hb.cell (p := ⟨w91.heap.size, 4, none⟩) lt_c).trans c4
         replace c5 := (hb.cell (p := ⟨w91.heap.size, 5, none⟩) lt_c).trans c5
         replace lt_c : w91.heap.size < w12.heap.size := Nat.lt_of_lt_of_le lt_c hb.size
         replace TA := Lib.hid (TA.out.up hb)
         replace TD := Lib.hid (TD.out.up hb)
         replace TS := Lib.hid (TS.out.up hb)
         replace TC := Lib.hid (TC.out.up hb)
         replace TQ := Lib.hid (TQ.out.up hb)
         replace TR := Lib.hid (TR.out.up hb)
         replace HW := Lib.hid (HW.out.trans (hb.mono HW.out.size))
         replace HP := Lib.hid (HP.out.trans (hb.mono HP.out.size))
         replace HC := Lib.hid (HC.out.trans (hb.mono HC.out.size))
         clear hb
         skip))
  have hoc : OwnDt w12 ca X1.heap.size w91.heap.size _ := OwnDt.keep ca _ _ _ ((Eqv.of_fr (Fr.of_bel HC.out (fun _ => False))).mono fun c hq => ⟨hq.2, fun h => h⟩) OC.out
  have hlo : w91.heap.size ≤ w12.heap.size := HC.out.size
  have hpl : X1.heap.size ≤ w91.heap.size := own_le hoc
  obtain ⟨hrL, hrM⟩ := own_parts hoc
  have RM := Lib.hid hrM
  have Wend := Lib.hid HW.out
  obtain ⟨lenM, lenL⟩ := own_lens hoc
  clear hoc hrM
  by_cases hL : 0 < ca.L.length
  · obtain ⟨x, hx⟩ : ∃ x, ca.L[0]? = some x := ⟨ca.L[0], by simp [hL]⟩
    obtain ⟨g, v0, n1, v2, v3, v4, v5, rfl, hg1, hg2, e0, e1, e2, e3, e4, e5, hgf, hgne⟩ := hrL x hx
    have f0 := hgf 0
    have f1 := hgf 1
    have f2 := hgf 2
    have f3 := hgf 3
    have f4 := hgf 4
    have f5 := hgf 5
    have dL : decide ((ca.L.length : Int) > 0) = true := by simp; omega
    have HNE := Lib.hid hgne
    clear hrL hx hgf hgne
    go_wp2_with fail
    have hw1 : Fr (Rg X1.heap.size w91.heap.size) w12 (((((((w12.setCell ⟨g, 1, none⟩ (.int .i64 (bits .xor .i64 n1 1))).setCell ⟨g, 0, none⟩ (.int .i64 0)).setCell ⟨g, 1, none⟩ (.int .i64 0)).setCell ⟨g, 2, none⟩ (.string ⟨#[]⟩)).setCell ⟨g, 3, none⟩ (.slice none 0 0)).setCell ⟨g, 4, none⟩ (.slice none 0 0)).setCell ⟨g, 5, none⟩ (.slice none 0 0)) := ((((((((Fr.refl (Rg X1.heap.size w91.heap.size) _).setCell (p := ⟨g, 1, none⟩) (.inl ⟨hg1, hg2⟩) _).setCell (p := ⟨g, 0, none⟩) (.inl ⟨hg1, hg2⟩) _).setCell (p := ⟨g, 1, none⟩) (.inl ⟨hg1, hg2⟩) _).setCell (p := ⟨g, 2, none⟩) (.inl ⟨hg1, hg2⟩) _).setCell (p := ⟨g, 3, none⟩) (.inl ⟨hg1, hg2⟩) _).setCell (p := ⟨g, 4, none⟩) (.inl ⟨hg1, hg2⟩) _).setCell (p := ⟨g, 5, none⟩) (.inl ⟨hg1, hg2⟩) _)
    have hm1 : MarksAtW X1.heap.size w91.heap.size cm ca.M.length (((((((w12.setCell ⟨g, 1, none⟩ (.int .i64 (bits .xor .i64 n1 1))).setCell ⟨g, 0, none⟩ (.int .i64 0)).setCell ⟨g, 1, none⟩ (.int .i64 0)).setCell ⟨g, 2, none⟩ (.string ⟨#[]⟩)).setCell ⟨g, 3, none⟩ (.slice none 0 0)).setCell ⟨g, 4, none⟩ (.slice none 0 0)).setCell ⟨g, 5, none⟩ (.slice none 0 0)) := RM.out.far (g := g) ((((((((Fr.refl (fun i => i = g) _).setCell (p := ⟨g, 1, none⟩) (.inl rfl) _).setCell (p := ⟨g, 0, none⟩) (.inl rfl) _).setCell (p := ⟨g, 1, none⟩) (.inl rfl) _).setCell (p := ⟨g, 2, none⟩) (.inl rfl) _).setCell (p := ⟨g, 3, none⟩) (.inl rfl) _).setCell (p := ⟨g, 4, none⟩) (.inl rfl) _).setCell (p := ⟨g, 5, none⟩) (.inl rfl) _) HNE.out
    have HW1 := Lib.hid hw1
    have HM1 := Lib.hid hm1
    clear hw1 hm1
    generalize ((((((w12.setCell ⟨g, 1, none⟩ (.int .i64 (bits .xor .i64 n1 1))).setCell ⟨g, 0, none⟩ (.int .i64 0)).setCell ⟨g, 1, none⟩ (.int .i64 0)).setCell ⟨g, 2, none⟩ (.string ⟨#[]⟩)).setCell ⟨g, 3, none⟩ (.slice none 0 0)).setCell ⟨g, 4, none⟩ (.slice none 0 0)).setCell ⟨g, 5, none⟩ (.slice none 0 0) = Wl at *
    go_loopw [79] (fun i wr => XorAt X1.heap.size w91.heap.size cm ca.M.length w12 i wr) (fun i _ => ca.M.length - (intOf i).toNat)
    case atStart => exact ⟨0, Nat.zero_le _, rfl, HW1.out, HM1.out⟩
    case round =>
      obtain ⟨j, hj, rfl, hf, hmk⟩ := hrel
      have hsz := hf.size
      have HF := Lib.hid hf
      have HMK := Lib.hid hmk
      have cb3 : wr.cell? ⟨w91.heap.size, 3, none⟩ = some (.slice cm ca.M.length ccm) := (hf.cell (p := ⟨w91.heap.size, 3, none⟩) lt_c (by intro h; have h2 : w91.heap.size < w91.heap.size := h.2; omega)).trans c3
      have lcb : w91.heap.size < wr.heap.size := Nat.lt_of_lt_of_le lt_c hsz
      by_cases hlj : j < ca.M.length
      · have dl : decide ((j : Int) < (ca.M.length : Int)) = true := by simp [hlj]
        obtain ⟨g, z, rfl, hg1, hg2, hcz, hfz⟩ := hmk j hlj
        have k0 : (0 : Int) ≤ (j : Int) := Int.natCast_nonneg _
        have k1 : (j : Int) < (ca.M.length : Int) := by omega
        clear hf hmk
        go_wp2_with fail
        go_roundw
        case rel => exact ⟨j + 1, by omega, by go_num, HF.out.setCell (.inl ⟨hg1, hg2⟩) _, HMK.out.set _ _ ⟨z, hcz⟩⟩
        case measure => simp [intOf]; omega
      · have dl : decide ((j : Int) < (ca.M.length : Int)) = false := by simp [hlj]
        have hbel : Below X1.heap.size X1 wr := HP.out.trans (hf.below (by omega) (fun i hi hs => by have := hs.1; omega))
        have p0 : wr.cell? ⟨w.heap.size, 0, none⟩ = some (.int .i64 a.K) := (hf.cell (p := ⟨w.heap.size, 0, none⟩) lt_x (by intro h; have h1 : X1.heap.size ≤ w.heap.size := h.1; omega)).trans x0
        have p1 : wr.cell? ⟨w.heap.size, 1, none⟩ = some (.int .i64 a.N) := (hf.cell (p := ⟨w.heap.size, 1, none⟩) lt_x (by intro h; have h1 : X1.heap.size ≤ w.heap.size := h.1; omega)).trans x1
        have p2 : wr.cell? ⟨w.heap.size, 2, none⟩ = some (.string a.S) := (hf.cell (p := ⟨w.heap.size, 2, none⟩) lt_x (by intro h; have h1 : X1.heap.size ≤ w.heap.size := h.1; omega)).trans x2
        have p3 : wr.cell? ⟨w.heap.size, 3, none⟩ = some (.slice am a.M.length acm) := (hf.cell (p := ⟨w.heap.size, 3, none⟩) lt_x (by intro h; have h1 : X1.heap.size ≤ w.heap.size := h.1; omega)).trans x3
        have p4 : wr.cell? ⟨w.heap.size, 4, none⟩ = some (.slice al a.L.length acl) := (hf.cell (p := ⟨w.heap.size, 4, none⟩) lt_x (by intro h; have h1 : X1.heap.size ≤ w.heap.size := h.1; omega)).trans x4
        have p5 : wr.cell? ⟨w.heap.size, 5, none⟩ = some (.slice at' a.T.length act) := (hf.cell (p := ⟨w.heap.size, 5, none⟩) lt_x (by intro h; have h1 : X1.heap.size ≤ w.heap.size := h.1; omega)).trans x5
        have t0 : wr.cell? ⟨w90.heap.size, 0, none⟩ = some (.int .i64 ca.K) := (hf.cell (p := ⟨w90.heap.size, 0, none⟩) lt_s (by intro h; have h1 : X1.heap.size ≤ w90.heap.size := h.1; omega)).trans s0
        have t1 : wr.cell? ⟨w90.heap.size, 1, none⟩ = some (.int .i64 ca.N) := (hf.cell (p := ⟨w90.heap.size, 1, none⟩) lt_s (by intro h; have h1 : X1.heap.size ≤ w90.heap.size := h.1; omega)).trans s1
        have t2 : wr.cell? ⟨w90.heap.size, 2, none⟩ = some (.string ca.S) := (hf.cell (p := ⟨w90.heap.size, 2, none⟩) lt_s (by intro h; have h1 : X1.heap.size ≤ w90.heap.size := h.1; omega)).trans s2
        have t3 : wr.cell? ⟨w90.heap.size, 3, none⟩ = some (.slice sm_ ca.M.length scm) := (hf.cell (p := ⟨w90.heap.size, 3, none⟩) lt_s (by intro h; have h1 : X1.heap.size ≤ w90.heap.size := h.1; omega)).trans s3
        have t4 : wr.cell? ⟨w90.heap.size, 4, none⟩ = some (.slice sl ca.L.length scl) := (hf.cell (p := ⟨w90.heap.size, 4, none⟩) lt_s (by intro h; have h1 : X1.heap.size ≤ w90.heap.size := h.1; omega)).trans s4
        have t5 : wr.cell? ⟨w90.heap.size, 5, none⟩ = some (.slice st ca.T.length sct) := (hf.cell (p := ⟨w90.heap.size, 5, none⟩) lt_s (by intro h; have h1 : X1.heap.size ≤ w90.heap.size := h.1; omega)).trans s5
        have lp : w.heap.size < wr.heap.size := Nat.lt_of_lt_of_le lt_x hsz
        have ls : w90.heap.size < wr.heap.size := Nat.lt_of_lt_of_le lt_s hsz
        have TA2 := Lib.hid ((PA.out.below hbel).more (Q' := Lo wr.heap.size) (fun b hb => by have h1 : b < X1.heap.size := hb; show b < wr.heap.size; omega))
        have TS2 := Lib.hid ((PS.out.below hbel).more (Q' := Lo wr.heap.size) (fun b hb => by have h1 : b < X1.heap.size := hb; show b < wr.heap.size; omega))
        have HW2 := Lib.hid (Wend.out.trans (hf.below Wend.out.size (fun i hi hs => by have := hs.1; omega)))
        clear hf hmk hbel x0 x1 x2 x3 x4 x5 s0 s1 s2 s3 s4 s5 y0 y1 y2 y3 y4 y5
        by_cases h0 : cd = 0
        · subst h0
          have hca2 : ca = a := by rw [← Hca.out]; unfold cloneD; rw [if_pos Hcd.out]
          have hsame : (chk a == 0 && eqD a ca) = true := by rw [hca2, eqD_refl, Hcd.out]; rfl
          have HS := Lib.hid hsame
          clear hca2 hsame
          go_wp2_with fail
          refine (rcheck_any a _ _ _ (by exact TA2.out) (Nat.le_refl _)).mono ?_
          rintro e wz ⟨rfl, hb⟩
          rw [Hcd.out]
          replace p0 := (hb.cell (p := ⟨w.heap.size, 0, none⟩) lp).trans p0
          replace p1 := (hb.cell (p := ⟨w.heap.size, 1, none⟩) lp).trans p1
          replace p2 := (hb.cell (p := ⟨w.heap.size, 2, none⟩) lp).trans p2
          replace p3 := (hb.cell (p := ⟨w.heap.size, 3, none⟩) lp).trans p3
          replace p4 := (hb.cell (p := ⟨w.heap.size, 4, none⟩) lp).trans p4
          replace p5 := (hb.cell (p := ⟨w.heap.size, 5, none⟩) lp).trans p5
          replace t0 := (hb.cell (p := ⟨w90.heap.size, 0, none⟩) ls).trans t0
          replace t1 := (hb.cell (p := ⟨w90.heap.size, 1, none⟩) ls).trans t1
          replace t2 := (hb.cell (p := ⟨w90.heap.size, 2, none⟩) ls).trans t2
          replace t3 := (hb.cell (p := ⟨w90.heap.size, 3, none⟩) ls).trans t3
          replace t4 := (hb.cell (p := ⟨w90.heap.size, 4, none⟩) ls).trans t4
          replace t5 := (hb.cell (p := ⟨w90.heap.size, 5, none⟩) ls).trans t5
          replace TA2 := Lib.hid (TA2.out.up hb)
          replace TS2 := Lib.hid (TS2.out.up hb)
          replace HW2 := Lib.hid (HW2.out.trans (hb.mono HW2.out.size))
          clear hb
          go_wp2_with fail
          refine (rsame_any a ca _ _ _ _ (by exact TA2.out) (by exact TS2.out) (Nat.le_refl _)).mono ?_
          rintro e wy ⟨rfl, hb⟩
          rw [HS.out]
          replace HW2 := Lib.hid (HW2.out.trans (hb.mono HW2.out.size))
          clear hb
          go_wp2_with fail
          go_ret
          exact ⟨rfl, HW2.out⟩
        · have dn : (cd != 0) = true := by simp [h0]
          go_wp2_with fail
          refine (rcheck_any a _ _ _ (by exact TA2.out) (Nat.le_refl _)).mono ?_
          rintro e wz ⟨rfl, hb⟩
          rw [Hcd.out]
          replace HW2 := Lib.hid (HW2.out.trans (hb.mono HW2.out.size))
          clear hb
          go_wp2_with fail
          go_ret
          exact ⟨rfl, HW2.out⟩
  · have dL : decide ((ca.L.length : Int) > 0) = false := decide_eq_false (by omega)
    clear hrL
    go_wp2_with fail
    obtain ⟨Wl, hWl⟩ : ∃ Wl : World, Wl = w12 := ⟨_, rfl⟩
    have HW1 := Lib.hid (show Fr (Rg X1.heap.size w91.heap.size) w12 Wl from by rw [hWl]; exact Fr.refl _ _)
    have HM1 := Lib.hid (show MarksAtW X1.heap.size w91.heap.size cm ca.M.length Wl from by rw [hWl]; exact RM.out)
    rw [← hWl]
    clear hWl
    go_loopw [79] (fun i wr => XorAt X1.heap.size w91.heap.size cm ca.M.length w12 i wr) (fun i _ => ca.M.length - (intOf i).toNat)
    case atStart => exact ⟨0, Nat.zero_le _, rfl, HW1.out, HM1.out⟩
    case round =>
      obtain ⟨j, hj, rfl, hf, hmk⟩ := hrel
      have hsz := hf.size
      have HF := Lib.hid hf
      have HMK := Lib.hid hmk
      have cb3 : wr.cell? ⟨w91.heap.size, 3, none⟩ = some (.slice cm ca.M.length ccm) := (hf.cell (p := ⟨w91.heap.size, 3, none⟩) lt_c (by intro h; have h2 : w91.heap.size < w91.heap.size := h.2; omega)).trans c3
      have lcb : w91.heap.size < wr.heap.size := Nat.lt_of_lt_of_le lt_c hsz
      by_cases hlj : j < ca.M.length
      · have dl : decide ((j : Int) < (ca.M.length : Int)) = true := by simp [hlj]
        obtain ⟨g, z, rfl, hg1, hg2, hcz, hfz⟩ := hmk j hlj
        have k0 : (0 : Int) ≤ (j : Int) := Int.natCast_nonneg _
        have k1 : (j : Int) < (ca.M.length : Int) := by omega
        clear hf hmk
        go_wp2_with fail
        go_roundw
        case rel => exact ⟨j + 1, by omega, by go_num, HF.out.setCell (.inl ⟨hg1, hg2⟩) _, HMK.out.set _ _ ⟨z, hcz⟩⟩
        case measure => simp [intOf]; omega
      · have dl : decide ((j : Int) < (ca.M.length : Int)) = false := by simp [hlj]
        have hbel : Below X1.heap.size X1 wr := HP.out.trans (hf.below (by omega) (fun i hi hs => by have := hs.1; omega))
        have p0 : wr.cell? ⟨w.heap.size, 0, none⟩ = some (.int .i64 a.K) := (hf.cell (p := ⟨w.heap.size, 0, none⟩) lt_x (by intro h; have h1 : X1.heap.size ≤ w.heap.size := h.1; omega)).trans x0
        have p1 : wr.cell? ⟨w.heap.size, 1, none⟩ = some (.int .i64 a.N) := (hf.cell (p := ⟨w.heap.size, 1, none⟩) lt_x (by intro h; have h1 : X1.heap.size ≤ w.heap.size := h.1; omega)).trans x1
        have p2 : wr.cell? ⟨w.heap.size, 2, none⟩ = some (.string a.S) := (hf.cell (p := ⟨w.heap.size, 2, none⟩) lt_x (by intro h; have h1 : X1.heap.size ≤ w.heap.size := h.1; omega)).trans x2
        have p3 : wr.cell? ⟨w.heap.size, 3, none⟩ = some (.slice am a.M.length acm) := (hf.cell (p := ⟨w.heap.size, 3, none⟩) lt_x (by intro h; have h1 : X1.heap.size ≤ w.heap.size := h.1; omega)).trans x3
        have p4 : wr.cell? ⟨w.heap.size, 4, none⟩ = some (.slice al a.L.length acl) := (hf.cell (p := ⟨w.heap.size, 4, none⟩) lt_x (by intro h; have h1 : X1.heap.size ≤ w.heap.size := h.1; omega)).trans x4
        have p5 : wr.cell? ⟨w.heap.size, 5, none⟩ = some (.slice at' a.T.length act) := (hf.cell (p := ⟨w.heap.size, 5, none⟩) lt_x (by intro h; have h1 : X1.heap.size ≤ w.heap.size := h.1; omega)).trans x5
        have t0 : wr.cell? ⟨w90.heap.size, 0, none⟩ = some (.int .i64 ca.K) := (hf.cell (p := ⟨w90.heap.size, 0, none⟩) lt_s (by intro h; have h1 : X1.heap.size ≤ w90.heap.size := h.1; omega)).trans s0
        have t1 : wr.cell? ⟨w90.heap.size, 1, none⟩ = some (.int .i64 ca.N) := (hf.cell (p := ⟨w90.heap.size, 1, none⟩) lt_s (by intro h; have h1 : X1.heap.size ≤ w90.heap.size := h.1; omega)).trans s1
        have t2 : wr.cell? ⟨w90.heap.size, 2, none⟩ = some (.string ca.S) := (hf.cell (p := ⟨w90.heap.size, 2, none⟩) lt_s (by intro h; have h1 : X1.heap.size ≤ w90.heap.size := h.1; omega)).trans s2
        have t3 : wr.cell? ⟨w90.heap.size, 3, none⟩ = some (.slice sm_ ca.M.length scm) := (hf.cell (p := ⟨w90.heap.size, 3, none⟩) lt_s (by intro h; have h1 : X1.heap.size ≤ w90.heap.size := h.1; omega)).trans s3
        have t4 : wr.cell? ⟨w90.heap.size, 4, none⟩ = some (.slice sl ca.L.length scl) := (hf.cell (p := ⟨w90.heap.size, 4, none⟩) lt_s (by intro h; have h1 : X1.heap.size ≤ w90.heap.size := h.1; omega)).trans s4
        have t5 : wr.cell? ⟨w90.heap.size, 5, none⟩ = some (.slice st ca.T.length sct) := (hf.cell (p := ⟨w90.heap.size, 5, none⟩) lt_s (by intro h; have h1 : X1.heap.size ≤ w90.heap.size := h.1; omega)).trans s5
        have lp : w.heap.size < wr.heap.size := Nat.lt_of_lt_of_le lt_x hsz
        have ls : w90.heap.size < wr.heap.size := Nat.lt_of_lt_of_le lt_s hsz
        have TA2 := Lib.hid ((PA.out.below hbel).more (Q' := Lo wr.heap.size) (fun b hb => by have h1 : b < X1.heap.size := hb; show b < wr.heap.size; omega))
        have TS2 := Lib.hid ((PS.out.below hbel).more (Q' := Lo wr.heap.size) (fun b hb => by have h1 : b < X1.heap.size := hb; show b < wr.heap.size; omega))
        have HW2 := Lib.hid (Wend.out.trans (hf.below Wend.out.size (fun i hi hs => by have := hs.1; omega)))
        clear hf hmk hbel x0 x1 x2 x3 x4 x5 s0 s1 s2 s3 s4 s5 y0 y1 y2 y3 y4 y5
        by_cases h0 : cd = 0
        · subst h0
          have hca2 : ca = a := by rw [← Hca.out]; unfold cloneD; rw [if_pos Hcd.out]
          have hsame : (chk a == 0 && eqD a ca) = true := by rw [hca2, eqD_refl, Hcd.out]; rfl
          have HS := Lib.hid hsame
          clear hca2 hsame
          go_wp2_with fail
          refine (rcheck_any a _ _ _ (by exact TA2.out) (Nat.le_refl _)).mono ?_
          rintro e wz ⟨rfl, hb⟩
          rw [Hcd.out]
          replace p0 := (hb.cell (p := ⟨w.heap.size, 0, none⟩) lp).trans p0
          replace p1 := (hb.cell (p := ⟨w.heap.size, 1, none⟩) lp).trans p1
          replace p2 := (hb.cell (p := ⟨w.heap.size, 2, none⟩) lp).trans p2
          replace p3 := (hb.cell (p := ⟨w.heap.size, 3, none⟩) lp).trans p3
          replace p4 := (hb.cell (p := ⟨w.heap.size, 4, none⟩) lp).trans p4
          replace p5 := (hb.cell (p := ⟨w.heap.size, 5, none⟩) lp).trans p5
          replace t0 := (hb.cell (p := ⟨w90.heap.size, 0, none⟩) ls).trans t0
          replace t1 := (hb.cell (p := ⟨w90.heap.size, 1, none⟩) ls).trans t1
          replace t2 := (hb.cell (p := ⟨w90.heap.size, 2, none⟩) ls).trans t2
          replace t3 := (hb.cell (p := ⟨w90.heap.size, 3, none⟩) ls).trans t3
          replace t4 := (hb.cell (p := ⟨w90.heap.size, 4, none⟩) ls).trans t4
          replace t5 := (hb.cell (p := ⟨w90.heap.size, 5, none⟩) ls).trans t5
          replace TA2 := Lib.hid (TA2.out.up hb)
          replace TS2 := Lib.hid (TS2.out.up hb)
          replace HW2 := Lib.hid (HW2.out.trans (hb.mono HW2.out.size))
          clear hb
          go_wp2_with fail
          refine (rsame_any a ca _ _ _ _ (by exact TA2.out) (by exact TS2.out) (Nat.le_refl _)).mono ?_
          rintro e wy ⟨rfl, hb⟩
          rw [HS.out]
          replace HW2 := Lib.hid (HW2.out.trans (hb.mono HW2.out.size))
          clear hb
          go_wp2_with fail
          go_ret
          exact ⟨rfl, HW2.out⟩
        · have dn : (cd != 0) = true := by simp [h0]
          go_wp2_with fail
          refine (rcheck_any a _ _ _ (by exact TA2.out) (Nat.le_refl _)).mono ?_
          rintro e wz ⟨rfl, hb⟩
          rw [Hcd.out]
          replace HW2 := Lib.hid (HW2.out.trans (hb.mono HW2.out.size))
          clear hb
          go_wp2_with fail
          go_ret
          exact ⟨rfl, HW2.out⟩
end Go.Proofs.Ytlppjiogbbchpaa.Da
