/- The document's Clone and Plain. -/
import Derived.Test.YtjmchodddobleaaDatMade
import Derived.Test.YtjmchodddobleaaDatSmall
namespace Go.Proofs.Ytjmchodddobleaa.Da
open Go.ChangeShapes Go.WideShapes Go.ChangeAt Go.RowKit
set_option maxRecDepth 100000

def RCopyR (mk : Bool) (d : Dt) (w : World) (e : Ending) (w' : World) : Prop :=
  ∃ v', e = .returned v' ∧ Below w.heap.size w w' ∧ IsDt w' (Rg w.heap.size w'.heap.size) (madeD mk (cloneD d)) v'
theorem madeD_zero (mk : Bool) : madeD mk zeroD = zeroD := by cases mk <;> rfl
theorem rcopy_end {mk : Bool} {w w2 w3 Wf : World} {b : Nat} {d : Dt} {v : Value} (hb0 : w.heap.size ≤ b) (hb1 : b < w2.heap.size) (h2 : Below w.heap.size w w2) (h3 : Below w2.heap.size w2 w3) (hf : Fr (fun i => i = b) w3 Wf) (hc : chk d = 0) (ho : IsDt w3 (Rg w2.heap.size w3.heap.size) (madeD mk d) v) : RCopyR mk d w (.returned v) Wf := by
  have s2 := h2.size
  have s3 := h3.size
  have sf := hf.size
  refine ⟨v, rfl, (h2.trans (h3.mono s2)).trans (hf.below (by omega) (fun i hi h => by omega)), ?_⟩
  unfold cloneD
  rw [if_pos hc]
  refine IsDt.keep (w := w3) (fun c hc => ⟨by have := hc.1; omega, by have := hc.2; omega⟩) (fun c o hc => hf.cell (p := ⟨c, o, none⟩) hc.2 (by show ¬ c = b; have := hc.1; omega)) _ _ ho
theorem rcopy_bad {mk : Bool} {w w2 Wf : World} {b : Nat} {d : Dt} (hb0 : w.heap.size ≤ b) (hw2 : Below w.heap.size w w2) (hf : Fr (fun i => i = b) w2 Wf) (hc : chk d ≠ 0) : RCopyR mk d w (.returned zeroV) Wf := by
  refine ⟨_, rfl, hw2.trans (hf.below hw2.size (fun i hi h => by omega)), ?_⟩
  unfold cloneD
  rw [if_neg hc, madeD_zero]
  exact zero_isDt _ _
set_option maxHeartbeats 2000000 in
theorem rclone_any (d : Dt) (v : Value) (B : Nat) (w : World) (hd : IsDt w (Lo B) d v) (hB : B ≤ w.heap.size) :
    Calls Try.prog 16 #[v] w (RCopyR true d w) := by
  have hd' := hd
  obtain ⟨pm, pcm, pl, pcl, pt, pct, rfl, _⟩ := hd'.open_
  have TD := Lib.hid (hd.more (Q' := Lo w.heap.size) (fun b hb => Nat.lt_of_lt_of_le hb hB))
  clear hd hd'
  obtain ⟨cd, hcd⟩ : ∃ c, chk d = c := ⟨_, rfl⟩
  have HC := Lib.hid hcd
  clear hcd
  by_cases h0 : cd = 0
  · subst h0
    have HW := Lib.hid (bel_refl w)
    go_enter Try.func16, Try.ntmps16
    go_wp2_with fail
    obtain ⟨hbX, hsX, hkX⟩ := start_allocs [(#[.int .i64 d.K, .int .i64 d.N, .string d.S, .slice pm d.M.length pcm, .slice pl d.L.length pcl, .slice pt d.T.length pct], 25), (#[.int .i64 0, .int .i64 0, .string ⟨#[]⟩, .slice none 0 0, .slice none 0 0, .slice none 0 0], 25)] w
    have g0 := hkX 0 _ rfl
    have g1 := hkX 1 _ rfl
    set_option linter.unusedSimpArgs false in
    simp only [allocs, List.foldl_cons, List.foldl_nil, Nat.add_zero, List.length_cons, List.length_nil, Nat.zero_add, Nat.reduceAdd] at hbX hsX g0 g1
    clear hkX
    generalize (w.alloc (.cells #[.int .i64 d.K, .int .i64 d.N, .string d.S, .slice pm d.M.length pcm, .slice pl d.L.length pcl, .slice pt d.T.length pct] 25)).alloc (.cells #[.int .i64 0, .int .i64 0, .string ⟨#[]⟩, .slice none 0 0, .slice none 0 0, .slice none 0 0] 25) = X0 at *
    have x0 : X0.cell? ⟨w.heap.size, 0, none⟩ = some (.int .i64 d.K) := (g0.cell 0).trans rfl
    have x1 : X0.cell? ⟨w.heap.size, 1, none⟩ = some (.int .i64 d.N) := (g0.cell 1).trans rfl
    have x2 : X0.cell? ⟨w.heap.size, 2, none⟩ = some (.string d.S) := (g0.cell 2).trans rfl
    have x3 : X0.cell? ⟨w.heap.size, 3, none⟩ = some (.slice pm d.M.length pcm) := (g0.cell 3).trans rfl
    have x4 : X0.cell? ⟨w.heap.size, 4, none⟩ = some (.slice pl d.L.length pcl) := (g0.cell 4).trans rfl
    have x5 : X0.cell? ⟨w.heap.size, 5, none⟩ = some (.slice pt d.T.length pct) := (g0.cell 5).trans rfl
    have lt_x : w.heap.size < X0.heap.size := by omega
    have z0 : X0.cell? ⟨w.heap.size + 1, 0, none⟩ = some (.int .i64 0) := (g1.cell 0).trans rfl
    have z1 : X0.cell? ⟨w.heap.size + 1, 1, none⟩ = some (.int .i64 0) := (g1.cell 1).trans rfl
    have z2 : X0.cell? ⟨w.heap.size + 1, 2, none⟩ = some (.string ⟨#[]⟩) := (g1.cell 2).trans rfl
    have z3 : X0.cell? ⟨w.heap.size + 1, 3, none⟩ = some (.slice none 0 0) := (g1.cell 3).trans rfl
    have z4 : X0.cell? ⟨w.heap.size + 1, 4, none⟩ = some (.slice none 0 0) := (g1.cell 4).trans rfl
    have z5 : X0.cell? ⟨w.heap.size + 1, 5, none⟩ = some (.slice none 0 0) := (g1.cell 5).trans rfl
    have fzz0 := g1.frozen 0
    have fzz1 := g1.frozen 1
    have fzz2 := g1.frozen 2
    have fzz3 := g1.frozen 3
    have fzz4 := g1.frozen 4
    have fzz5 := g1.frozen 5
    have lt_z : w.heap.size + 1 < X0.heap.size := by omega
    clear g0 g1 hsX
    replace TD := Lib.hid (TD.out.up hbX)
    replace HW := Lib.hid (HW.out.trans (hbX.mono HW.out.size))
    clear hbX
    refine (rcheck_any d _ _ X0 (by exact TD.out) (Nat.le_refl _)).mono ?_
    rintro e w0 ⟨rfl, hb⟩
    rw [HC.out]
    replace x0 := (hb.cell (p := ⟨w.heap.size, 0, none⟩) lt_x).trans x0
    replace x1 := (hb.cell (p := ⟨w.heap.size, 1, none⟩) lt_x).trans x1
    replace x2 := (hb.cell (p := ⟨w.heap.size, 2, none⟩) lt_x).trans x2
    replace x3 := (hb.cell (p := ⟨w.heap.size, 3, none⟩) lt_x).trans x3
    replace x4 := (hb.cell (p := ⟨w.heap.size, 4, none⟩) lt_x).trans x4
    replace x5 := (hb.cell (p := ⟨w.heap.size, 5, none⟩) lt_x).trans x5
    replace lt_x : w.heap.size < w0.heap.size := Nat.lt_of_lt_of_le lt_x hb.size
    replace fzz0 := (hb.frozen (p := ⟨w.heap.size + 1, 0, none⟩) lt_z).trans fzz0
    replace fzz1 := (hb.frozen (p := ⟨w.heap.size + 1, 1, none⟩) lt_z).trans fzz1
    replace fzz2 := (hb.frozen (p := ⟨w.heap.size + 1, 2, none⟩) lt_z).trans fzz2
    replace fzz3 := (hb.frozen (p := ⟨w.heap.size + 1, 3, none⟩) lt_z).trans fzz3
    replace fzz4 := (hb.frozen (p := ⟨w.heap.size + 1, 4, none⟩) lt_z).trans fzz4
    replace fzz5 := (hb.frozen (p := ⟨w.heap.size + 1, 5, none⟩) lt_z).trans fzz5
    replace z0 := (hb.cell (p := ⟨w.heap.size + 1, 0, none⟩) lt_z).trans z0
    replace z1 := (hb.cell (p := ⟨w.heap.size + 1, 1, none⟩) lt_z).trans z1
    replace z2 := (hb.cell (p := ⟨w.heap.size + 1, 2, none⟩) lt_z).trans z2
    replace z3 := (hb.cell (p := ⟨w.heap.size + 1, 3, none⟩) lt_z).trans z3
    replace z4 := (hb.cell (p := ⟨w.heap.size + 1, 4, none⟩) lt_z).trans z4
    replace z5 := (hb.cell (p := ⟨w.heap.size + 1, 5, none⟩) lt_z).trans z5
    replace lt_z : w.heap.size + 1 < w0.heap.size := Nat.lt_of_lt_of_le lt_z hb.size
    replace TD := Lib.hid (TD.out.up hb)
    replace HW := Lib.hid (HW.out.trans (hb.mono HW.out.size))
    clear hb
    go_wp2_with fail
    refine (made_all true d _ _ w0 (by exact TD.out) (Nat.le_refl _)).mono ?_
    rintro e w9 ⟨v', rfl, hb, hi⟩
    have hi' := hi
    obtain ⟨qm, qcm, ql, qcl, qt, qct, rfl, _⟩ := hi'.open_
    have HI := Lib.hid hi
    have HBM := Lib.hid hb
    have zz0 : w9.cell? ⟨w.heap.size + 1, 0, none⟩ = some (.int .i64 0) := (hb.cell (p := ⟨w.heap.size + 1, 0, none⟩) lt_z).trans z0
    have zz1 : w9.cell? ⟨w.heap.size + 1, 1, none⟩ = some (.int .i64 0) := (hb.cell (p := ⟨w.heap.size + 1, 1, none⟩) lt_z).trans z1
    have zz2 : w9.cell? ⟨w.heap.size + 1, 2, none⟩ = some (.string ⟨#[]⟩) := (hb.cell (p := ⟨w.heap.size + 1, 2, none⟩) lt_z).trans z2
    have zz3 : w9.cell? ⟨w.heap.size + 1, 3, none⟩ = some (.slice none 0 0) := (hb.cell (p := ⟨w.heap.size + 1, 3, none⟩) lt_z).trans z3
    have zz4 : w9.cell? ⟨w.heap.size + 1, 4, none⟩ = some (.slice none 0 0) := (hb.cell (p := ⟨w.heap.size + 1, 4, none⟩) lt_z).trans z4
    have zz5 : w9.cell? ⟨w.heap.size + 1, 5, none⟩ = some (.slice none 0 0) := (hb.cell (p := ⟨w.heap.size + 1, 5, none⟩) lt_z).trans z5
    have zf0 : w9.frozen? ⟨w.heap.size + 1, 0, none⟩ = false := (hb.frozen (p := ⟨w.heap.size + 1, 0, none⟩) lt_z).trans fzz0
    have zf1 : w9.frozen? ⟨w.heap.size + 1, 1, none⟩ = false := (hb.frozen (p := ⟨w.heap.size + 1, 1, none⟩) lt_z).trans fzz1
    have zf2 : w9.frozen? ⟨w.heap.size + 1, 2, none⟩ = false := (hb.frozen (p := ⟨w.heap.size + 1, 2, none⟩) lt_z).trans fzz2
    have zf3 : w9.frozen? ⟨w.heap.size + 1, 3, none⟩ = false := (hb.frozen (p := ⟨w.heap.size + 1, 3, none⟩) lt_z).trans fzz3
    have zf4 : w9.frozen? ⟨w.heap.size + 1, 4, none⟩ = false := (hb.frozen (p := ⟨w.heap.size + 1, 4, none⟩) lt_z).trans fzz4
    have zf5 : w9.frozen? ⟨w.heap.size + 1, 5, none⟩ = false := (hb.frozen (p := ⟨w.heap.size + 1, 5, none⟩) lt_z).trans fzz5
    have hlz : w.heap.size + 1 < w9.heap.size := Nat.lt_of_lt_of_le lt_z hb.size
    clear hi hi' hb
    go_wp2_with fail
    refine bodyPost_ret (v := .agg #[.int .i64 (madeD true d).K, .int .i64 (madeD true d).N, .string (madeD true d).S, .slice qm (madeD true d).M.length qcm, .slice ql (madeD true d).L.length qcl, .slice qt (madeD true d).T.length qct]) ?_ rfl ?_
    · simp [results, Try.results16, go_sem, hlz, zz0, zz1, zz2, zz3, zz4, zz5]
    · exact rcopy_end (b := w.heap.size + 1) (by omega) lt_z HW.out HBM.out (set6_fr w9 (w.heap.size + 1) 0 _ _ _ _ _ _) HC.out HI.out
  · have dn : (cd != 0) = true := by simp [h0]
    have H0 := Lib.hid h0
    clear h0
    have HW := Lib.hid (bel_refl w)
    go_enter Try.func16, Try.ntmps16
    go_wp2_with fail
    obtain ⟨hbX, hsX, hkX⟩ := start_allocs [(#[.int .i64 d.K, .int .i64 d.N, .string d.S, .slice pm d.M.length pcm, .slice pl d.L.length pcl, .slice pt d.T.length pct], 25), (#[.int .i64 0, .int .i64 0, .string ⟨#[]⟩, .slice none 0 0, .slice none 0 0, .slice none 0 0], 25)] w
    have g0 := hkX 0 _ rfl
    have g1 := hkX 1 _ rfl
    set_option linter.unusedSimpArgs false in
    simp only [allocs, List.foldl_cons, List.foldl_nil, Nat.add_zero, List.length_cons, List.length_nil, Nat.zero_add, Nat.reduceAdd] at hbX hsX g0 g1
    clear hkX
    generalize (w.alloc (.cells #[.int .i64 d.K, .int .i64 d.N, .string d.S, .slice pm d.M.length pcm, .slice pl d.L.length pcl, .slice pt d.T.length pct] 25)).alloc (.cells #[.int .i64 0, .int .i64 0, .string ⟨#[]⟩, .slice none 0 0, .slice none 0 0, .slice none 0 0] 25) = X0 at *
    have x0 : X0.cell? ⟨w.heap.size, 0, none⟩ = some (.int .i64 d.K) := (g0.cell 0).trans rfl
    have x1 : X0.cell? ⟨w.heap.size, 1, none⟩ = some (.int .i64 d.N) := (g0.cell 1).trans rfl
    have x2 : X0.cell? ⟨w.heap.size, 2, none⟩ = some (.string d.S) := (g0.cell 2).trans rfl
    have x3 : X0.cell? ⟨w.heap.size, 3, none⟩ = some (.slice pm d.M.length pcm) := (g0.cell 3).trans rfl
    have x4 : X0.cell? ⟨w.heap.size, 4, none⟩ = some (.slice pl d.L.length pcl) := (g0.cell 4).trans rfl
    have x5 : X0.cell? ⟨w.heap.size, 5, none⟩ = some (.slice pt d.T.length pct) := (g0.cell 5).trans rfl
    have lt_x : w.heap.size < X0.heap.size := by omega
    have z0 : X0.cell? ⟨w.heap.size + 1, 0, none⟩ = some (.int .i64 0) := (g1.cell 0).trans rfl
    have z1 : X0.cell? ⟨w.heap.size + 1, 1, none⟩ = some (.int .i64 0) := (g1.cell 1).trans rfl
    have z2 : X0.cell? ⟨w.heap.size + 1, 2, none⟩ = some (.string ⟨#[]⟩) := (g1.cell 2).trans rfl
    have z3 : X0.cell? ⟨w.heap.size + 1, 3, none⟩ = some (.slice none 0 0) := (g1.cell 3).trans rfl
    have z4 : X0.cell? ⟨w.heap.size + 1, 4, none⟩ = some (.slice none 0 0) := (g1.cell 4).trans rfl
    have z5 : X0.cell? ⟨w.heap.size + 1, 5, none⟩ = some (.slice none 0 0) := (g1.cell 5).trans rfl
    have fzz0 := g1.frozen 0
    have fzz1 := g1.frozen 1
    have fzz2 := g1.frozen 2
    have fzz3 := g1.frozen 3
    have fzz4 := g1.frozen 4
    have fzz5 := g1.frozen 5
    have lt_z : w.heap.size + 1 < X0.heap.size := by omega
    clear g0 g1 hsX
    replace TD := Lib.hid (TD.out.up hbX)
    replace HW := Lib.hid (HW.out.trans (hbX.mono HW.out.size))
    clear hbX
    refine (rcheck_any d _ _ X0 (by exact TD.out) (Nat.le_refl _)).mono ?_
    rintro e w0 ⟨rfl, hb⟩
    rw [HC.out]
    replace x0 := (hb.cell (p := ⟨w.heap.size, 0, none⟩) lt_x).trans x0
    replace x1 := (hb.cell (p := ⟨w.heap.size, 1, none⟩) lt_x).trans x1
    replace x2 := (hb.cell (p := ⟨w.heap.size, 2, none⟩) lt_x).trans x2
    replace x3 := (hb.cell (p := ⟨w.heap.size, 3, none⟩) lt_x).trans x3
    replace x4 := (hb.cell (p := ⟨w.heap.size, 4, none⟩) lt_x).trans x4
    replace x5 := (hb.cell (p := ⟨w.heap.size, 5, none⟩) lt_x).trans x5
    replace lt_x : w.heap.size < w0.heap.size := Nat.lt_of_lt_of_le lt_x hb.size
    replace fzz0 := (hb.frozen (p := ⟨w.heap.size + 1, 0, none⟩) lt_z).trans fzz0
    replace fzz1 := (hb.frozen (p := ⟨w.heap.size + 1, 1, none⟩) lt_z).trans fzz1
    replace fzz2 := (hb.frozen (p := ⟨w.heap.size + 1, 2, none⟩) lt_z).trans fzz2
    replace fzz3 := (hb.frozen (p := ⟨w.heap.size + 1, 3, none⟩) lt_z).trans fzz3
    replace fzz4 := (hb.frozen (p := ⟨w.heap.size + 1, 4, none⟩) lt_z).trans fzz4
    replace fzz5 := (hb.frozen (p := ⟨w.heap.size + 1, 5, none⟩) lt_z).trans fzz5
    replace z0 := (hb.cell (p := ⟨w.heap.size + 1, 0, none⟩) lt_z).trans z0
    replace z1 := (hb.cell (p := ⟨w.heap.size + 1, 1, none⟩) lt_z).trans z1
    replace z2 := (hb.cell (p := ⟨w.heap.size + 1, 2, none⟩) lt_z).trans z2
    replace z3 := (hb.cell (p := ⟨w.heap.size + 1, 3, none⟩) lt_z).trans z3
    replace z4 := (hb.cell (p := ⟨w.heap.size + 1, 4, none⟩) lt_z).trans z4
    replace z5 := (hb.cell (p := ⟨w.heap.size + 1, 5, none⟩) lt_z).trans z5
    replace lt_z : w.heap.size + 1 < w0.heap.size := Nat.lt_of_lt_of_le lt_z hb.size
    replace TD := Lib.hid (TD.out.up hb)
    replace HW := Lib.hid (HW.out.trans (hb.mono HW.out.size))
    clear hb
    go_wp2_with fail
    refine bodyPost_ret (v := zeroV) ?_ rfl ?_
    · simp [results, Try.results16, go_sem, zeroV, lt_z, z0, z1, z2, z3, z4, z5]
    · exact rcopy_bad (b := w.heap.size + 1) (by omega) HW.out (set6_fr w0 (w.heap.size + 1) 0 _ _ _ _ _ _) (by rw [HC.out]; exact H0.out)
set_option maxHeartbeats 2000000 in
theorem rplain_any (d : Dt) (v : Value) (B : Nat) (w : World) (hd : IsDt w (Lo B) d v) (hB : B ≤ w.heap.size) :
    Calls Try.prog 26 #[v] w (RCopyR false d w) := by
  have hd' := hd
  obtain ⟨pm, pcm, pl, pcl, pt, pct, rfl, _⟩ := hd'.open_
  have TD := Lib.hid (hd.more (Q' := Lo w.heap.size) (fun b hb => Nat.lt_of_lt_of_le hb hB))
  clear hd hd'
  obtain ⟨cd, hcd⟩ : ∃ c, chk d = c := ⟨_, rfl⟩
  have HC := Lib.hid hcd
  clear hcd
  by_cases h0 : cd = 0
  · subst h0
    have HW := Lib.hid (bel_refl w)
    go_enter Try.func26, Try.ntmps26
    go_wp2_with fail
    obtain ⟨hbX, hsX, hkX⟩ := start_allocs [(#[.int .i64 d.K, .int .i64 d.N, .string d.S, .slice pm d.M.length pcm, .slice pl d.L.length pcl, .slice pt d.T.length pct], 25), (#[.int .i64 0, .int .i64 0, .string ⟨#[]⟩, .slice none 0 0, .slice none 0 0, .slice none 0 0], 25)] w
    have g0 := hkX 0 _ rfl
    have g1 := hkX 1 _ rfl
    set_option linter.unusedSimpArgs false in
    simp only [allocs, List.foldl_cons, List.foldl_nil, Nat.add_zero, List.length_cons, List.length_nil, Nat.zero_add, Nat.reduceAdd] at hbX hsX g0 g1
    clear hkX
    generalize (w.alloc (.cells #[.int .i64 d.K, .int .i64 d.N, .string d.S, .slice pm d.M.length pcm, .slice pl d.L.length pcl, .slice pt d.T.length pct] 25)).alloc (.cells #[.int .i64 0, .int .i64 0, .string ⟨#[]⟩, .slice none 0 0, .slice none 0 0, .slice none 0 0] 25) = X0 at *
    have x0 : X0.cell? ⟨w.heap.size, 0, none⟩ = some (.int .i64 d.K) := (g0.cell 0).trans rfl
    have x1 : X0.cell? ⟨w.heap.size, 1, none⟩ = some (.int .i64 d.N) := (g0.cell 1).trans rfl
    have x2 : X0.cell? ⟨w.heap.size, 2, none⟩ = some (.string d.S) := (g0.cell 2).trans rfl
    have x3 : X0.cell? ⟨w.heap.size, 3, none⟩ = some (.slice pm d.M.length pcm) := (g0.cell 3).trans rfl
    have x4 : X0.cell? ⟨w.heap.size, 4, none⟩ = some (.slice pl d.L.length pcl) := (g0.cell 4).trans rfl
    have x5 : X0.cell? ⟨w.heap.size, 5, none⟩ = some (.slice pt d.T.length pct) := (g0.cell 5).trans rfl
    have lt_x : w.heap.size < X0.heap.size := by omega
    have z0 : X0.cell? ⟨w.heap.size + 1, 0, none⟩ = some (.int .i64 0) := (g1.cell 0).trans rfl
    have z1 : X0.cell? ⟨w.heap.size + 1, 1, none⟩ = some (.int .i64 0) := (g1.cell 1).trans rfl
    have z2 : X0.cell? ⟨w.heap.size + 1, 2, none⟩ = some (.string ⟨#[]⟩) := (g1.cell 2).trans rfl
    have z3 : X0.cell? ⟨w.heap.size + 1, 3, none⟩ = some (.slice none 0 0) := (g1.cell 3).trans rfl
    have z4 : X0.cell? ⟨w.heap.size + 1, 4, none⟩ = some (.slice none 0 0) := (g1.cell 4).trans rfl
    have z5 : X0.cell? ⟨w.heap.size + 1, 5, none⟩ = some (.slice none 0 0) := (g1.cell 5).trans rfl
    have fzz0 := g1.frozen 0
    have fzz1 := g1.frozen 1
    have fzz2 := g1.frozen 2
    have fzz3 := g1.frozen 3
    have fzz4 := g1.frozen 4
    have fzz5 := g1.frozen 5
    have lt_z : w.heap.size + 1 < X0.heap.size := by omega
    clear g0 g1 hsX
    replace TD := Lib.hid (TD.out.up hbX)
    replace HW := Lib.hid (HW.out.trans (hbX.mono HW.out.size))
    clear hbX
    refine (rcheck_any d _ _ X0 (by exact TD.out) (Nat.le_refl _)).mono ?_
    rintro e w0 ⟨rfl, hb⟩
    rw [HC.out]
    replace x0 := (hb.cell (p := ⟨w.heap.size, 0, none⟩) lt_x).trans x0
    replace x1 := (hb.cell (p := ⟨w.heap.size, 1, none⟩) lt_x).trans x1
    replace x2 := (hb.cell (p := ⟨w.heap.size, 2, none⟩) lt_x).trans x2
    replace x3 := (hb.cell (p := ⟨w.heap.size, 3, none⟩) lt_x).trans x3
    replace x4 := (hb.cell (p := ⟨w.heap.size, 4, none⟩) lt_x).trans x4
    replace x5 := (hb.cell (p := ⟨w.heap.size, 5, none⟩) lt_x).trans x5
    replace lt_x : w.heap.size < w0.heap.size := Nat.lt_of_lt_of_le lt_x hb.size
    replace fzz0 := (hb.frozen (p := ⟨w.heap.size + 1, 0, none⟩) lt_z).trans fzz0
    replace fzz1 := (hb.frozen (p := ⟨w.heap.size + 1, 1, none⟩) lt_z).trans fzz1
    replace fzz2 := (hb.frozen (p := ⟨w.heap.size + 1, 2, none⟩) lt_z).trans fzz2
    replace fzz3 := (hb.frozen (p := ⟨w.heap.size + 1, 3, none⟩) lt_z).trans fzz3
    replace fzz4 := (hb.frozen (p := ⟨w.heap.size + 1, 4, none⟩) lt_z).trans fzz4
    replace fzz5 := (hb.frozen (p := ⟨w.heap.size + 1, 5, none⟩) lt_z).trans fzz5
    replace z0 := (hb.cell (p := ⟨w.heap.size + 1, 0, none⟩) lt_z).trans z0
    replace z1 := (hb.cell (p := ⟨w.heap.size + 1, 1, none⟩) lt_z).trans z1
    replace z2 := (hb.cell (p := ⟨w.heap.size + 1, 2, none⟩) lt_z).trans z2
    replace z3 := (hb.cell (p := ⟨w.heap.size + 1, 3, none⟩) lt_z).trans z3
    replace z4 := (hb.cell (p := ⟨w.heap.size + 1, 4, none⟩) lt_z).trans z4
    replace z5 := (hb.cell (p := ⟨w.heap.size + 1, 5, none⟩) lt_z).trans z5
    replace lt_z : w.heap.size + 1 < w0.heap.size := Nat.lt_of_lt_of_le lt_z hb.size
    replace TD := Lib.hid (TD.out.up hb)
    replace HW := Lib.hid (HW.out.trans (hb.mono HW.out.size))
    clear hb
    go_wp2_with fail
    refine (made_all false d _ _ w0 (by exact TD.out) (Nat.le_refl _)).mono ?_
    rintro e w9 ⟨v', rfl, hb, hi⟩
    have hi' := hi
    obtain ⟨qm, qcm, ql, qcl, qt, qct, rfl, _⟩ := hi'.open_
    have HI := Lib.hid hi
    have HBM := Lib.hid hb
    have zz0 : w9.cell? ⟨w.heap.size + 1, 0, none⟩ = some (.int .i64 0) := (hb.cell (p := ⟨w.heap.size + 1, 0, none⟩) lt_z).trans z0
    have zz1 : w9.cell? ⟨w.heap.size + 1, 1, none⟩ = some (.int .i64 0) := (hb.cell (p := ⟨w.heap.size + 1, 1, none⟩) lt_z).trans z1
    have zz2 : w9.cell? ⟨w.heap.size + 1, 2, none⟩ = some (.string ⟨#[]⟩) := (hb.cell (p := ⟨w.heap.size + 1, 2, none⟩) lt_z).trans z2
    have zz3 : w9.cell? ⟨w.heap.size + 1, 3, none⟩ = some (.slice none 0 0) := (hb.cell (p := ⟨w.heap.size + 1, 3, none⟩) lt_z).trans z3
    have zz4 : w9.cell? ⟨w.heap.size + 1, 4, none⟩ = some (.slice none 0 0) := (hb.cell (p := ⟨w.heap.size + 1, 4, none⟩) lt_z).trans z4
    have zz5 : w9.cell? ⟨w.heap.size + 1, 5, none⟩ = some (.slice none 0 0) := (hb.cell (p := ⟨w.heap.size + 1, 5, none⟩) lt_z).trans z5
    have zf0 : w9.frozen? ⟨w.heap.size + 1, 0, none⟩ = false := (hb.frozen (p := ⟨w.heap.size + 1, 0, none⟩) lt_z).trans fzz0
    have zf1 : w9.frozen? ⟨w.heap.size + 1, 1, none⟩ = false := (hb.frozen (p := ⟨w.heap.size + 1, 1, none⟩) lt_z).trans fzz1
    have zf2 : w9.frozen? ⟨w.heap.size + 1, 2, none⟩ = false := (hb.frozen (p := ⟨w.heap.size + 1, 2, none⟩) lt_z).trans fzz2
    have zf3 : w9.frozen? ⟨w.heap.size + 1, 3, none⟩ = false := (hb.frozen (p := ⟨w.heap.size + 1, 3, none⟩) lt_z).trans fzz3
    have zf4 : w9.frozen? ⟨w.heap.size + 1, 4, none⟩ = false := (hb.frozen (p := ⟨w.heap.size + 1, 4, none⟩) lt_z).trans fzz4
    have zf5 : w9.frozen? ⟨w.heap.size + 1, 5, none⟩ = false := (hb.frozen (p := ⟨w.heap.size + 1, 5, none⟩) lt_z).trans fzz5
    have hlz : w.heap.size + 1 < w9.heap.size := Nat.lt_of_lt_of_le lt_z hb.size
    clear hi hi' hb
    go_wp2_with fail
    refine bodyPost_ret (v := .agg #[.int .i64 (madeD false d).K, .int .i64 (madeD false d).N, .string (madeD false d).S, .slice qm (madeD false d).M.length qcm, .slice ql (madeD false d).L.length qcl, .slice qt (madeD false d).T.length qct]) ?_ rfl ?_
    · simp [results, Try.results26, go_sem, hlz, zz0, zz1, zz2, zz3, zz4, zz5]
    · exact rcopy_end (b := w.heap.size + 1) (by omega) lt_z HW.out HBM.out (set6_fr w9 (w.heap.size + 1) 0 _ _ _ _ _ _) HC.out HI.out
  · have dn : (cd != 0) = true := by simp [h0]
    have H0 := Lib.hid h0
    clear h0
    have HW := Lib.hid (bel_refl w)
    go_enter Try.func26, Try.ntmps26
    go_wp2_with fail
    obtain ⟨hbX, hsX, hkX⟩ := start_allocs [(#[.int .i64 d.K, .int .i64 d.N, .string d.S, .slice pm d.M.length pcm, .slice pl d.L.length pcl, .slice pt d.T.length pct], 25), (#[.int .i64 0, .int .i64 0, .string ⟨#[]⟩, .slice none 0 0, .slice none 0 0, .slice none 0 0], 25)] w
    have g0 := hkX 0 _ rfl
    have g1 := hkX 1 _ rfl
    set_option linter.unusedSimpArgs false in
    simp only [allocs, List.foldl_cons, List.foldl_nil, Nat.add_zero, List.length_cons, List.length_nil, Nat.zero_add, Nat.reduceAdd] at hbX hsX g0 g1
    clear hkX
    generalize (w.alloc (.cells #[.int .i64 d.K, .int .i64 d.N, .string d.S, .slice pm d.M.length pcm, .slice pl d.L.length pcl, .slice pt d.T.length pct] 25)).alloc (.cells #[.int .i64 0, .int .i64 0, .string ⟨#[]⟩, .slice none 0 0, .slice none 0 0, .slice none 0 0] 25) = X0 at *
    have x0 : X0.cell? ⟨w.heap.size, 0, none⟩ = some (.int .i64 d.K) := (g0.cell 0).trans rfl
    have x1 : X0.cell? ⟨w.heap.size, 1, none⟩ = some (.int .i64 d.N) := (g0.cell 1).trans rfl
    have x2 : X0.cell? ⟨w.heap.size, 2, none⟩ = some (.string d.S) := (g0.cell 2).trans rfl
    have x3 : X0.cell? ⟨w.heap.size, 3, none⟩ = some (.slice pm d.M.length pcm) := (g0.cell 3).trans rfl
    have x4 : X0.cell? ⟨w.heap.size, 4, none⟩ = some (.slice pl d.L.length pcl) := (g0.cell 4).trans rfl
    have x5 : X0.cell? ⟨w.heap.size, 5, none⟩ = some (.slice pt d.T.length pct) := (g0.cell 5).trans rfl
    have lt_x : w.heap.size < X0.heap.size := by omega
    have z0 : X0.cell? ⟨w.heap.size + 1, 0, none⟩ = some (.int .i64 0) := (g1.cell 0).trans rfl
    have z1 : X0.cell? ⟨w.heap.size + 1, 1, none⟩ = some (.int .i64 0) := (g1.cell 1).trans rfl
    have z2 : X0.cell? ⟨w.heap.size + 1, 2, none⟩ = some (.string ⟨#[]⟩) := (g1.cell 2).trans rfl
    have z3 : X0.cell? ⟨w.heap.size + 1, 3, none⟩ = some (.slice none 0 0) := (g1.cell 3).trans rfl
    have z4 : X0.cell? ⟨w.heap.size + 1, 4, none⟩ = some (.slice none 0 0) := (g1.cell 4).trans rfl
    have z5 : X0.cell? ⟨w.heap.size + 1, 5, none⟩ = some (.slice none 0 0) := (g1.cell 5).trans rfl
    have fzz0 := g1.frozen 0
    have fzz1 := g1.frozen 1
    have fzz2 := g1.frozen 2
    have fzz3 := g1.frozen 3
    have fzz4 := g1.frozen 4
    have fzz5 := g1.frozen 5
    have lt_z : w.heap.size + 1 < X0.heap.size := by omega
    clear g0 g1 hsX
    replace TD := Lib.hid (TD.out.up hbX)
    replace HW := Lib.hid (HW.out.trans (hbX.mono HW.out.size))
    clear hbX
    refine (rcheck_any d _ _ X0 (by exact TD.out) (Nat.le_refl _)).mono ?_
    rintro e w0 ⟨rfl, hb⟩
    rw [HC.out]
    replace x0 := (hb.cell (p := ⟨w.heap.size, 0, none⟩) lt_x).trans x0
    replace x1 := (hb.cell (p := ⟨w.heap.size, 1, none⟩) lt_x).trans x1
    replace x2 := (hb.cell (p := ⟨w.heap.size, 2, none⟩) lt_x).trans x2
    replace x3 := (hb.cell (p := ⟨w.heap.size, 3, none⟩) lt_x).trans x3
    replace x4 := (hb.cell (p := ⟨w.heap.size, 4, none⟩) lt_x).trans x4
    replace x5 := (hb.cell (p := ⟨w.heap.size, 5, none⟩) lt_x).trans x5
    replace lt_x : w.heap.size < w0.heap.size := Nat.lt_of_lt_of_le lt_x hb.size
    replace fzz0 := (hb.frozen (p := ⟨w.heap.size + 1, 0, none⟩) lt_z).trans fzz0
    replace fzz1 := (hb.frozen (p := ⟨w.heap.size + 1, 1, none⟩) lt_z).trans fzz1
    replace fzz2 := (hb.frozen (p := ⟨w.heap.size + 1, 2, none⟩) lt_z).trans fzz2
    replace fzz3 := (hb.frozen (p := ⟨w.heap.size + 1, 3, none⟩) lt_z).trans fzz3
    replace fzz4 := (hb.frozen (p := ⟨w.heap.size + 1, 4, none⟩) lt_z).trans fzz4
    replace fzz5 := (hb.frozen (p := ⟨w.heap.size + 1, 5, none⟩) lt_z).trans fzz5
    replace z0 := (hb.cell (p := ⟨w.heap.size + 1, 0, none⟩) lt_z).trans z0
    replace z1 := (hb.cell (p := ⟨w.heap.size + 1, 1, none⟩) lt_z).trans z1
    replace z2 := (hb.cell (p := ⟨w.heap.size + 1, 2, none⟩) lt_z).trans z2
    replace z3 := (hb.cell (p := ⟨w.heap.size + 1, 3, none⟩) lt_z).trans z3
    replace z4 := (hb.cell (p := ⟨w.heap.size + 1, 4, none⟩) lt_z).trans z4
    replace z5 := (hb.cell (p := ⟨w.heap.size + 1, 5, none⟩) lt_z).trans z5
    replace lt_z : w.heap.size + 1 < w0.heap.size := Nat.lt_of_lt_of_le lt_z hb.size
    replace TD := Lib.hid (TD.out.up hb)
    replace HW := Lib.hid (HW.out.trans (hb.mono HW.out.size))
    clear hb
    go_wp2_with fail
    refine bodyPost_ret (v := zeroV) ?_ rfl ?_
    · simp [results, Try.results26, go_sem, zeroV, lt_z, z0, z1, z2, z3, z4, z5]
    · exact rcopy_bad (b := w.heap.size + 1) (by omega) HW.out (set6_fr w0 (w.heap.size + 1) 0 _ _ _ _ _ _) (by rw [HC.out]; exact H0.out)
end Go.Proofs.Ytjmchodddobleaa.Da
