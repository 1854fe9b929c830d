/- A copy of a datum by the program; what is nothing; marks that are the same. -/
import Derived.Test.YteddfdhbpgbloaaDatHalves
namespace Go.Proofs.Yteddfdhbpgbloaa.Da
open Go.ChangeShapes Go.WideShapes Go.ChangeAt Go.RowKit

def zeroD : Dt := .mk 0 0 ⟨#[]⟩ [] [] []
theorem zero_isDt (w : World) (Q : Nat → Prop) : IsDt w Q zeroD zeroV := by
  unfold zeroD zeroV
  simp only [IsDt, IsDts]
  exact ⟨rfl, rfl, by show (0 : Nat) ≤ _; exact Nat.zero_le _, none, 0, _, 0, _, 0, rfl, ⟨rfl, Nat.le_refl _, by simp [maxLen], by simp, fun _ => rfl, by simp, fun k hk => absurd hk (Nat.not_lt_zero _)⟩, ⟨Nat.le_refl _, by simp [maxLen], by simp, fun _ => rfl⟩, trivial, ⟨Nat.le_refl _, by simp [maxLen], by simp, fun _ => rfl⟩, trivial⟩
theorem zero_own (w : World) (lo hi : Nat) (h : lo ≤ hi) : OwnDt w zeroD lo hi zeroV := by
  unfold zeroD zeroV
  simp only [OwnDt]
  exact ⟨rfl, rfl, by show (0 : Nat) ≤ _; exact Nat.zero_le _, none, 0, none, 0, none, 0, lo, lo, rfl, Nat.le_refl _, Nat.le_refl _, h, ⟨⟨rfl, Nat.le_refl _, by simp [maxLen], by simp, fun _ => rfl, by simp, fun k hk => absurd hk (Nat.not_lt_zero _)⟩, fun ad h => by cases h⟩, .inl ⟨rfl, rfl, rfl⟩, by simp only [OwnDts], .inl ⟨rfl, rfl, rfl⟩, by simp only [OwnDts]⟩
def cloneD (d : Dt) : Dt := if chk d = 0 then d else zeroD
def CopyR (w : World) (d : Dt) (e : Ending) (w' : World) : Prop :=
  ∃ v', e = .returned v' ∧ Below w.heap.size w w' ∧ IsDt w' (Lo w'.heap.size) (cloneD d) v' ∧ OwnDt w' (cloneD d) w.heap.size w'.heap.size v'
theorem copy_end {w w2 Wf : World} {b : Nat} {d : Dt} {v : Value} {lo : Nat} (hb0 : w.heap.size ≤ b) (hb1 : b < lo) (hw2 : Below w.heap.size w w2) (hf : Fr (fun i => i = b) w2 Wf) (hc : chk d = 0) (ho : OwnDt w2 d lo w2.heap.size v) : CopyR w d (.returned v) Wf := by
  have s2 := hw2.size
  have sf := hf.size
  have ho2 : OwnDt Wf d lo w2.heap.size v := OwnDt.keep d _ _ v ((Eqv.of_fr hf).mono fun c hq => ⟨hq.2, by have := hq.1; show ¬ c = b; omega⟩) ho
  refine ⟨v, rfl, hw2.trans (hf.below s2 (fun i hi h => by omega)), ?_, by unfold cloneD; rw [if_pos hc]; exact ho2.wide d (by omega) sf⟩
  unfold cloneD
  rw [if_pos hc]
  exact (ho2.isDt d _ _ _).more fun c hq => by have := hq.2; show c < Wf.heap.size; omega
theorem copy_bad {w w2 Wf : World} {b : Nat} {d : Dt} (hb0 : w.heap.size ≤ b) (hw2 : Below w.heap.size w w2) (hf : Fr (fun i => i = b) w2 Wf) (hc : chk d ≠ 0) : CopyR w d (.returned zeroV) Wf := by
  refine ⟨_, rfl, hw2.trans (hf.below hw2.size (fun i hi h => by omega)), ?_, by unfold cloneD; rw [if_neg hc]; exact zero_own _ _ _ (hw2.trans (hf.below hw2.size (fun i hi h => by omega))).size⟩
  unfold cloneD
  rw [if_neg hc]
  exact zero_isDt _ _
set_option maxRecDepth 100000 in
set_option maxHeartbeats 2000000 in
theorem copy_any (d : Dt) (v : Value) (w : World) (hd : IsDt w (Lo w.heap.size) d v) :
    Calls Try.prog 44 #[v] w (CopyR w d) := by
  have hd' := hd
  obtain ⟨pm, pcm, pl, pcl, pt, pct, rfl, _⟩ := hd'.open_
  have TD := Lib.hid hd
  clear hd hd'
  obtain ⟨cd, hcd⟩ : ∃ c, chk d = c := ⟨_, rfl⟩
  have HC := Lib.hid hcd
  clear hcd
  by_cases h0 : cd = 0
  · subst h0
    have HW := Lib.hid (bel_refl w)
    go_enter Try.func44, Try.ntmps44
    go_wp2_with fail
    obtain ⟨hbX, hsX, hkX⟩ := start_allocs [(#[.int .i64 d.K, .int .i64 d.N, .string d.S, .slice pm d.M.length pcm, .slice pl d.L.length pcl, .slice pt d.T.length pct], 25), (#[.int .i64 0, .int .i64 0, .string ⟨#[]⟩, .slice none 0 0, .slice none 0 0, .slice none 0 0], 25)] w
    have g0 := hkX 0 _ rfl
    have g1 := hkX 1 _ rfl
    set_option linter.unusedSimpArgs false in
    simp only [allocs, List.foldl_cons, List.foldl_nil, Nat.add_zero, List.length_cons, List.length_nil, Nat.zero_add, Nat.reduceAdd] at hbX hsX g0 g1
    clear hkX
    generalize (w.alloc (.cells #[.int .i64 d.K, .int .i64 d.N, .string d.S, .slice pm d.M.length pcm, .slice pl d.L.length pcl, .slice pt d.T.length pct] 25)).alloc (.cells #[.int .i64 0, .int .i64 0, .string ⟨#[]⟩, .slice none 0 0, .slice none 0 0, .slice none 0 0] 25) = X0 at *
    have x0 : X0.cell? ⟨w.heap.size, 0, none⟩ = some (.int .i64 d.K) := (g0.cell 0).trans rfl
    have x1 : X0.cell? ⟨w.heap.size, 1, none⟩ = some (.int .i64 d.N) := (g0.cell 1).trans rfl
    have x2 : X0.cell? ⟨w.heap.size, 2, none⟩ = some (.string d.S) := (g0.cell 2).trans rfl
    have x3 : X0.cell? ⟨w.heap.size, 3, none⟩ = some (.slice pm d.M.length pcm) := (g0.cell 3).trans rfl
    have x4 : X0.cell? ⟨w.heap.size, 4, none⟩ = some (.slice pl d.L.length pcl) := (g0.cell 4).trans rfl
    have x5 : X0.cell? ⟨w.heap.size, 5, none⟩ = some (.slice pt d.T.length pct) := (g0.cell 5).trans rfl
    have lt_x : w.heap.size < X0.heap.size := by omega
    have z0 : X0.cell? ⟨w.heap.size + 1, 0, none⟩ = some (.int .i64 0) := (g1.cell 0).trans rfl
    have z1 : X0.cell? ⟨w.heap.size + 1, 1, none⟩ = some (.int .i64 0) := (g1.cell 1).trans rfl
    have z2 : X0.cell? ⟨w.heap.size + 1, 2, none⟩ = some (.string ⟨#[]⟩) := (g1.cell 2).trans rfl
    have z3 : X0.cell? ⟨w.heap.size + 1, 3, none⟩ = some (.slice none 0 0) := (g1.cell 3).trans rfl
    have z4 : X0.cell? ⟨w.heap.size + 1, 4, none⟩ = some (.slice none 0 0) := (g1.cell 4).trans rfl
    have z5 : X0.cell? ⟨w.heap.size + 1, 5, none⟩ = some (.slice none 0 0) := (g1.cell 5).trans rfl
    have fzz0 := g1.frozen 0
    have fzz1 := g1.frozen 1
    have fzz2 := g1.frozen 2
    have fzz3 := g1.frozen 3
    have fzz4 := g1.frozen 4
    have fzz5 := g1.frozen 5
    have lt_z : w.heap.size + 1 < X0.heap.size := by omega
    clear g0 g1 hsX
    replace TD := Lib.hid (TD.out.up hbX)
    replace HW := Lib.hid (HW.out.trans (hbX.mono HW.out.size))
    clear hbX
    refine (check_any d _ _ X0 (by exact TD.out) (Nat.le_refl _)).mono ?_
    rintro e w0 ⟨rfl, hb⟩
    rw [HC.out]
    replace x0 := (hb.cell (p := ⟨w.heap.size, 0, none⟩) lt_x).trans x0
    replace x1 := (hb.cell (p := ⟨w.heap.size, 1, none⟩) lt_x).trans x1
    replace x2 := (hb.cell (p := ⟨w.heap.size, 2, none⟩) lt_x).trans x2
    replace x3 := (hb.cell (p := ⟨w.heap.size, 3, none⟩) lt_x).trans x3
    replace x4 := (hb.cell (p := ⟨w.heap.size, 4, none⟩) lt_x).trans x4
    replace x5 := (hb.cell (p := ⟨w.heap.size, 5, none⟩) lt_x).trans x5
    replace lt_x : w.heap.size < w0.heap.size := Nat.lt_of_lt_of_le lt_x hb.size
    replace fzz0 := (hb.frozen (p := ⟨w.heap.size + 1, 0, none⟩) lt_z).trans fzz0
    replace fzz1 := (hb.frozen (p := ⟨w.heap.size + 1, 1, none⟩) lt_z).trans fzz1
    replace fzz2 := (hb.frozen (p := ⟨w.heap.size + 1, 2, none⟩) lt_z).trans fzz2
    replace fzz3 := (hb.frozen (p := ⟨w.heap.size + 1, 3, none⟩) lt_z).trans fzz3
    replace fzz4 := (hb.frozen (p := ⟨w.heap.size + 1, 4, none⟩) lt_z).trans fzz4
    replace fzz5 := (hb.frozen (p := ⟨w.heap.size + 1, 5, none⟩) lt_z).trans fzz5
    replace z0 := (hb.cell (p := ⟨w.heap.size + 1, 0, none⟩) lt_z).trans z0
    replace z1 := (hb.cell (p := ⟨w.heap.size + 1, 1, none⟩) lt_z).trans z1
    replace z2 := (hb.cell (p := ⟨w.heap.size + 1, 2, none⟩) lt_z).trans z2
    replace z3 := (hb.cell (p := ⟨w.heap.size + 1, 3, none⟩) lt_z).trans z3
    replace z4 := (hb.cell (p := ⟨w.heap.size + 1, 4, none⟩) lt_z).trans z4
    replace z5 := (hb.cell (p := ⟨w.heap.size + 1, 5, none⟩) lt_z).trans z5
    replace lt_z : w.heap.size + 1 < w0.heap.size := Nat.lt_of_lt_of_le lt_z hb.size
    replace TD := Lib.hid (TD.out.up hb)
    replace HW := Lib.hid (HW.out.trans (hb.mono HW.out.size))
    clear hb
    go_wp2_with fail
    refine (own_any d _ _ w0 (by exact TD.out) (Nat.le_refl _)).mono ?_
    rintro e w9 ⟨v', rfl, hb, hi, ho⟩
    have ho := Lib.hid (ho (chk_cnt HC.out))
    have HB := Lib.hid hb
    have hi' := hi
    obtain ⟨qm, qcm, ql, qcl, qt, qct, rfl, _⟩ := hi'.open_
    obtain ⟨hc9, hz9⟩ := bcell hb
    have s9 := hb.size
    have hlz : w.heap.size + 1 < w9.heap.size := by omega
    clear hi hi' hb
    go_wp2_with fail
    refine bodyPost_ret (v := .agg #[.int .i64 d.K, .int .i64 d.N, .string d.S, .slice qm d.M.length qcm, .slice ql d.L.length qcl, .slice qt d.T.length qct]) ?_ rfl ?_
    · simp [results, Try.results44, go_sem, hc9, hz9, hlz, lt_z, z0, z1, z2, z3, z4, z5]
    · exact copy_end (b := w.heap.size + 1) (lo := w0.heap.size) (by omega) lt_z (HW.out.trans (HB.out.mono HW.out.size)) (set6_fr w9 (w.heap.size + 1) 0 _ _ _ _ _ _) HC.out ho.out
  · have dn : (cd != 0) = true := by simp [h0]
    have H0 := Lib.hid h0
    clear h0
    have HW := Lib.hid (bel_refl w)
    go_enter Try.func44, Try.ntmps44
    go_wp2_with fail
    obtain ⟨hbX, hsX, hkX⟩ := start_allocs [(#[.int .i64 d.K, .int .i64 d.N, .string d.S, .slice pm d.M.length pcm, .slice pl d.L.length pcl, .slice pt d.T.length pct], 25), (#[.int .i64 0, .int .i64 0, .string ⟨#[]⟩, .slice none 0 0, .slice none 0 0, .slice none 0 0], 25)] w
    have g0 := hkX 0 _ rfl
    have g1 := hkX 1 _ rfl
    set_option linter.unusedSimpArgs false in
    simp only [allocs, List.foldl_cons, List.foldl_nil, Nat.add_zero, List.length_cons, List.length_nil, Nat.zero_add, Nat.reduceAdd] at hbX hsX g0 g1
    clear hkX
    generalize (w.alloc (.cells #[.int .i64 d.K, .int .i64 d.N, .string d.S, .slice pm d.M.length pcm, .slice pl d.L.length pcl, .slice pt d.T.length pct] 25)).alloc (.cells #[.int .i64 0, .int .i64 0, .string ⟨#[]⟩, .slice none 0 0, .slice none 0 0, .slice none 0 0] 25) = X0 at *
    have x0 : X0.cell? ⟨w.heap.size, 0, none⟩ = some (.int .i64 d.K) := (g0.cell 0).trans rfl
    have x1 : X0.cell? ⟨w.heap.size, 1, none⟩ = some (.int .i64 d.N) := (g0.cell 1).trans rfl
    have x2 : X0.cell? ⟨w.heap.size, 2, none⟩ = some (.string d.S) := (g0.cell 2).trans rfl
    have x3 : X0.cell? ⟨w.heap.size, 3, none⟩ = some (.slice pm d.M.length pcm) := (g0.cell 3).trans rfl
    have x4 : X0.cell? ⟨w.heap.size, 4, none⟩ = some (.slice pl d.L.length pcl) := (g0.cell 4).trans rfl
    have x5 : X0.cell? ⟨w.heap.size, 5, none⟩ = some (.slice pt d.T.length pct) := (g0.cell 5).trans rfl
    have lt_x : w.heap.size < X0.heap.size := by omega
    have z0 : X0.cell? ⟨w.heap.size + 1, 0, none⟩ = some (.int .i64 0) := (g1.cell 0).trans rfl
    have z1 : X0.cell? ⟨w.heap.size + 1, 1, none⟩ = some (.int .i64 0) := (g1.cell 1).trans rfl
    have z2 : X0.cell? ⟨w.heap.size + 1, 2, none⟩ = some (.string ⟨#[]⟩) := (g1.cell 2).trans rfl
    have z3 : X0.cell? ⟨w.heap.size + 1, 3, none⟩ = some (.slice none 0 0) := (g1.cell 3).trans rfl
    have z4 : X0.cell? ⟨w.heap.size + 1, 4, none⟩ = some (.slice none 0 0) := (g1.cell 4).trans rfl
    have z5 : X0.cell? ⟨w.heap.size + 1, 5, none⟩ = some (.slice none 0 0) := (g1.cell 5).trans rfl
    have fzz0 := g1.frozen 0
    have fzz1 := g1.frozen 1
    have fzz2 := g1.frozen 2
    have fzz3 := g1.frozen 3
    have fzz4 := g1.frozen 4
    have fzz5 := g1.frozen 5
    have lt_z : w.heap.size + 1 < X0.heap.size := by omega
    clear g0 g1 hsX
    replace TD := Lib.hid (TD.out.up hbX)
    replace HW := Lib.hid (HW.out.trans (hbX.mono HW.out.size))
    clear hbX
    refine (check_any d _ _ X0 (by exact TD.out) (Nat.le_refl _)).mono ?_
    rintro e w0 ⟨rfl, hb⟩
    rw [HC.out]
    replace x0 := (hb.cell (p := ⟨w.heap.size, 0, none⟩) lt_x).trans x0
    replace x1 := (hb.cell (p := ⟨w.heap.size, 1, none⟩) lt_x).trans x1
    replace x2 := (hb.cell (p := ⟨w.heap.size, 2, none⟩) lt_x).trans x2
    replace x3 := (hb.cell (p := ⟨w.heap.size, 3, none⟩) lt_x).trans x3
    replace x4 := (hb.cell (p := ⟨w.heap.size, 4, none⟩) lt_x).trans x4
    replace x5 := (hb.cell (p := ⟨w.heap.size, 5, none⟩) lt_x).trans x5
    replace lt_x : w.heap.size < w0.heap.size := Nat.lt_of_lt_of_le lt_x hb.size
    replace fzz0 := (hb.frozen (p := ⟨w.heap.size + 1, 0, none⟩) lt_z).trans fzz0
    replace fzz1 := (hb.frozen (p := ⟨w.heap.size + 1, 1, none⟩) lt_z).trans fzz1
    replace fzz2 := (hb.frozen (p := ⟨w.heap.size + 1, 2, none⟩) lt_z).trans fzz2
    replace fzz3 := (hb.frozen (p := ⟨w.heap.size + 1, 3, none⟩) lt_z).trans fzz3
    replace fzz4 := (hb.frozen (p := ⟨w.heap.size + 1, 4, none⟩) lt_z).trans fzz4
    replace fzz5 := (hb.frozen (p := ⟨w.heap.size + 1, 5, none⟩) lt_z).trans fzz5
    replace z0 := (hb.cell (p := ⟨w.heap.size + 1, 0, none⟩) lt_z).trans z0
    replace z1 := (hb.cell (p := ⟨w.heap.size + 1, 1, none⟩) lt_z).trans z1
    replace z2 := (hb.cell (p := ⟨w.heap.size + 1, 2, none⟩) lt_z).trans z2
    replace z3 := (hb.cell (p := ⟨w.heap.size + 1, 3, none⟩) lt_z).trans z3
    replace z4 := (hb.cell (p := ⟨w.heap.size + 1, 4, none⟩) lt_z).trans z4
    replace z5 := (hb.cell (p := ⟨w.heap.size + 1, 5, none⟩) lt_z).trans z5
    replace lt_z : w.heap.size + 1 < w0.heap.size := Nat.lt_of_lt_of_le lt_z hb.size
    replace TD := Lib.hid (TD.out.up hb)
    replace HW := Lib.hid (HW.out.trans (hb.mono HW.out.size))
    clear hb
    go_wp2_with fail
    refine bodyPost_ret (v := zeroV) ?_ rfl ?_
    · simp [results, Try.results44, go_sem, zeroV, lt_z, z0, z1, z2, z3, z4, z5]
    · exact copy_bad (b := w.heap.size + 1) (by omega) HW.out (set6_fr w0 (w.heap.size + 1) 0 _ _ _ _ _ _) (by rw [HC.out]; exact H0.out)
end Go.Proofs.Yteddfdhbpgbloaa.Da
