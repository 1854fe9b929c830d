/- A datum without marks: what the program returns. -/
import Derived.Test.YteddfdhbpgbloaaDatUnMath
namespace Go.Proofs.Yteddfdhbpgbloaa.Da
open Go.ChangeShapes Go.WideShapes Go.ChangeAt Go.RowKit

def OneIs (d : Dt) (g lo hi : Nat) (m3 : Option Addr) (l3 c3 : Nat) (al : Option Addr) (cl : Nat) (at_ : Option Addr) (ct : Nat) (d' : Dt) (w : World) : Prop :=
  Six w g 0 (.int .i64 d.K) (.int .i64 d.N) (.string d.S) (.slice m3 l3 c3) (.slice al d.L.length cl) (.slice at_ d.T.length ct) ∧
    OwnDt w d' lo hi (.agg #[.int .i64 d.K, .int .i64 d.N, .string d.S, .slice m3 l3 c3, .slice al d.L.length cl, .slice at_ d.T.length ct])
def UnOneAt (w : World) (d : Dt) (g lo hi : Nat) (al : Option Addr) (cl : Nat) (at_ : Option Addr) (ct : Nat) (i : Value) (wr : World) : Prop :=
  (i = .int .i64 0 ∧ wr = w) ∨ (i = .int .i64 1 ∧ Fr (fun b => b = g ∨ Rg lo hi b) w wr ∧ OneIs d g lo hi none 0 0 al cl at_ ct (plainD d) wr)
theorem one_end {wr W1 w2 w3 : World} {g lo hi h1 h2 : Nat} {d : Dt} {am al at_ : Option Addr} {cm cl ct : Nat} (hg : hi ≤ g) (hgw : g < wr.heap.size)
    (hW : W1 = wr.setCell ⟨g, 3, none⟩ (.slice none 0 0)) (f2 : Fr (Rg h1 h2) W1 w2) (f3 : Fr (Rg h2 hi) w2 w3) (o1 : lo ≤ h1) (o2 : h1 ≤ h2) (o3 : h2 ≤ hi)
    (ks : Six wr g 0 (.int .i64 d.K) (.int .i64 d.N) (.string d.S) (.slice am d.M.length cm) (.slice al d.L.length cl) (.slice at_ d.T.length ct))
    (w1 : (Lit.int .i64 d.K).wf = true) (wn : (Lit.int .i64 d.N).wf = true) (ws : d.S.size ≤ maxLen)
    (sL : OwnSl w2 h1 h2 al d.L.length cl) (dL : OwnDts w2 h2 al (plainL d.L) 0 (nx al)) (sT : OwnSl w3 h2 hi at_ d.T.length ct) (dT : OwnDts w3 hi at_ (plainL d.T) 0 (nx at_)) :
    Fr (fun b => b = g ∨ Rg lo hi b) wr w3 ∧ OneIs d g lo hi none 0 0 al cl at_ ct (plainD d) w3 := by
  have fW : Fr (fun i => i = g) wr W1 := by rw [hW]; exact (Fr.refl (fun i => i = g) wr).setCell (p := ⟨g, 3, none⟩) (.inl rfl) _
  have hs1 : W1.heap.size = wr.heap.size := by rw [hW]; simp [World.setCell]
  have s2 := f2.size
  have ng1 : ¬ Rg h1 h2 g := fun h => by have : g < h2 := h.2; omega
  have ng2 : ¬ Rg h2 hi g := fun h => by have : g < hi := h.2; omega
  have cg : ∀ o, w3.cell? ⟨g, o, none⟩ = W1.cell? ⟨g, o, none⟩ := fun o => (f3.cell (p := ⟨g, o, none⟩) (by show g < w2.heap.size; omega) ng2).trans (f2.cell (p := ⟨g, o, none⟩) (by show g < W1.heap.size; omega) ng1)
  have co : ∀ o, o ≠ 3 → w3.cell? ⟨g, o, none⟩ = wr.cell? ⟨g, o, none⟩ := fun o ho => (cg o).trans (by rw [hW]; exact set_ne _ _ _ _ _ _ (.inr ho))
  have e23 : Eqv w2 w3 (Rg h1 h2) := (Eqv.of_fr f3).mono fun b hb => ⟨by have : b < h2 := hb.2; omega, fun h => by have : b < h2 := hb.2; have : h2 ≤ b := h.1; omega⟩
  obtain ⟨sL3, dL3⟩ := row_keep (l := plainL d.L) (by rw [plainL_len]; exact sL) dL e23
  obtain ⟨c0, c1, c2, c3, c4, c5⟩ := ks
  refine ⟨((fW.mono fun i hi' _ => .inl hi').trans' f2 (fun i hi' _ => .inr ⟨by have : h1 ≤ i := hi'.1; omega, by have : i < h2 := hi'.2; omega⟩)).trans' f3 (fun i hi' _ => .inr ⟨by have : h2 ≤ i := hi'.1; omega, hi'.2⟩), ⟨(co _ (by omega)).trans c0, (co _ (by omega)).trans c1, (co _ (by omega)).trans c2, (cg _).trans (by rw [hW]; exact set_eq _ _ _ _ _ c3), (co _ (by omega)).trans c4, (co _ (by omega)).trans c5⟩, ?_⟩
  rw [plainD_mk]
  simp only [OwnDt]
  exact ⟨w1, wn, ws, none, 0, al, cl, at_, ct, h1, h2, by rw [plainL_len, plainL_len]; rfl, o1, o2, o3, ⟨⟨rfl, Nat.le_refl _, by simp [maxLen], by simp, fun _ => rfl, by simp, fun k hk => absurd hk (Nat.not_lt_zero _)⟩, fun ad h => by cases h⟩, sL3, dL3, by rw [plainL_len]; exact sT, dT⟩
set_option maxHeartbeats 2000000 in
theorem un_one (d : Dt) (g lo hi : Nat) (am al : Option Addr) (cm cl : Nat) (at_ : Option Addr) (ct cap : Nat) (w : World) (h : OneIs d g lo hi am d.M.length cm al cl at_ ct d w) (hz : ∀ o, w.frozen? ⟨g, o, none⟩ = false) (hg : hi ≤ g) (hgw : g < w.heap.size) :
    Calls Try.prog 45 #[.slice (some ⟨g, 0, none⟩) 1 cap] w fun e w' => e = .returned (.tuple #[]) ∧ Fr (fun b => b = g ∨ Rg lo hi b) w w' ∧ OneIs d g lo hi none 0 0 al cl at_ ct (plainD d) w' := by
  obtain ⟨⟨c0, c1, c2, c3, c4, c5⟩, ho⟩ := h
  obtain ⟨w1, wn, ws, am', cm', al', cl', at2, ct', h1, h2, hv, o1, o2, o3, sL, dL, sT, dT⟩ := own_open ho
  injection hv with hv
  simp only [Array.mk.injEq, List.cons.injEq, and_true, true_and, Value.slice.injEq] at hv
  obtain ⟨⟨rfl, rfl⟩, ⟨rfl, rfl⟩, rfl, rfl⟩ := hv
  have z3 := hz 3
  have r4 := (set_ne w g 3 g 4 (.slice none 0 0) (.inr (by omega))).trans c4
  have r5 := (set_ne w g 3 g 5 (.slice none 0 0) (.inr (by omega))).trans c5
  have Hs := Lib.hid (And.intro c0 (And.intro c1 (And.intro c2 (And.intro c3 (And.intro c4 c5)))))
  have Hk := Lib.hid (And.intro w1 (And.intro wn ws))
  have HL := Lib.hid (And.intro sL dL)
  have HT := Lib.hid (And.intro sT dT)
  clear c0 c1 c2 c4 c5 w1 wn ws sL dL sT dT ho hz
  go_enter Try.func45, Try.ntmps45
  go_wp2_with fail
  go_loopw [5] (fun i wr => UnOneAt w d g lo hi al cl at_ ct i wr) (fun i _ => 1 - (intOf i).toNat)
  case atStart => exact .inl ⟨rfl, rfl⟩
  case round =>
    rcases hrel with ⟨rfl, rfl⟩ | ⟨rfl, hfr, hone⟩
    · go_wp2_with fail
      have fW : Fr (fun i => i = g) wr (wr.setCell ⟨g, 3, none⟩ (.slice none 0 0)) := (Fr.refl (fun i => i = g) wr).setCell (p := ⟨g, 3, none⟩) (.inl rfl) _
      have hs1 : (wr.setCell ⟨g, 3, none⟩ (.slice none 0 0)).heap.size = wr.heap.size := by simp [World.setCell]
      obtain ⟨W1, hW1⟩ : ∃ W, wr.setCell ⟨g, 3, none⟩ (.slice none 0 0) = W := ⟨_, rfl⟩
      rw [hW1] at fW hs1 r4 r5 ⊢
      obtain ⟨sL, dL⟩ := HL.out
      obtain ⟨sL1, dL1⟩ := row_keep sL dL ((Eqv.of_fr fW).mono fun b hb => ⟨by have h : b < h2 := hb.2; omega, by have h : b < h2 := hb.2; show ¬ b = g; omega⟩)
      refine (unmark_any d.L al cl h1 h2 W1 sL1 dL1 (by omega)).mono ?_
      rintro e w2 ⟨rfl, f2, sL2, dL2⟩
      have s2 := f2.size
      have r6 := (f2.cell (p := ⟨g, 5, none⟩) (by show g < W1.heap.size; omega) (fun h => by have h' : g < h2 := h.2; omega)).trans r5
      have hgw2 : g < w2.heap.size := by omega
      have F2 := Lib.hid f2
      have L2 := Lib.hid (And.intro sL2 dL2)
      have FW := Lib.hid fW
      have HW1 := Lib.hid hW1
      clear f2 sL2 dL2 sL1 dL1 fW sL dL hW1 r4 r5
      go_wp2_with fail
      obtain ⟨sT, dT⟩ := HT.out
      have FWo := FW.out
      have F2o := F2.out
      have e2 : Eqv wr w2 (Rg h2 hi) := fun b hb o => by
        have p1 : h2 ≤ b := hb.1
        have p2 : b < hi := hb.2
        have n1 : ¬ Rg h1 h2 b := fun h => by have : b < h2 := h.2; omega
        exact ⟨(F2o.cell (p := ⟨b, o, none⟩) (by show b < W1.heap.size; omega) n1).trans (FWo.cell (p := ⟨b, o, none⟩) (by show b < wr.heap.size; omega) (by show ¬ b = g; omega)),
          (F2o.frozen (p := ⟨b, o, none⟩) (by show b < W1.heap.size; omega) n1).trans (FWo.frozen (p := ⟨b, o, none⟩) (by show b < wr.heap.size; omega) (by show ¬ b = g; omega))⟩
      obtain ⟨sT2, dT2⟩ := row_keep sT dT e2
      refine (unmark_any d.T at_ ct h2 hi w2 sT2 dT2 (by omega)).mono ?_
      rintro e w3 ⟨rfl, f3, sT3, dT3⟩
      have Hend := Lib.hid (one_end hg hgw HW1.out.symm F2.out f3 o1 o2 o3 Hs.out Hk.out.1 Hk.out.2.1 Hk.out.2.2 L2.out.1 L2.out.2 sT3 dT3)
      clear f3 sT3 dT3 sT2 dT2 e2 FWo F2o sT dT
      go_wp2_with fail
      go_roundw
      case rel => exact .inr ⟨by go_num, Hend.out.1, Hend.out.2⟩
      case measure => simp [intOf]
    · have HF := Lib.hid hfr
      have HO := Lib.hid hone
      clear hfr hone r4 r5 c3
      go_wp2_with fail
      go_end0
      exact ⟨rfl, HF.out, HO.out⟩
set_option maxRecDepth 100000 in
set_option maxHeartbeats 2000000 in
theorem plain_any (d : Dt) (v : Value) (w : World) (hd : IsDt w (Lo w.heap.size) d v) :
    Calls Try.prog 14 #[v] w fun e w' => ∃ v', e = .returned v' ∧ Below w.heap.size w w' ∧ IsDt w' (Lo w'.heap.size) (plainD (cloneD d)) v' := by
  obtain ⟨dd, hdd⟩ : ∃ dd, cloneD d = dd := ⟨_, rfl⟩
  rw [hdd]
  have Hdd := Lib.hid hdd
  clear hdd
  have hd' := hd
  obtain ⟨pm, pcm, pl, pcl, pt, pct, rfl, _⟩ := hd'.open_
  have TD := Lib.hid hd
  clear hd hd'
  have HW := Lib.hid (bel_refl w)
  go_enter Try.func14, Try.ntmps14
  go_wp2_with fail
  obtain ⟨hbX, hsX, hkX⟩ := start_allocs [(#[.int .i64 d.K, .int .i64 d.N, .string d.S, .slice pm d.M.length pcm, .slice pl d.L.length pcl, .slice pt d.T.length pct], 25), (#[.int .i64 0, .int .i64 0, .string ⟨#[]⟩, .slice none 0 0, .slice none 0 0, .slice none 0 0], 25)] w
  have g0 := hkX 0 _ rfl
  have g1 := hkX 1 _ rfl
  set_option linter.unusedSimpArgs false in
  simp only [allocs, List.foldl_cons, List.foldl_nil, Nat.add_zero, List.length_cons, List.length_nil, Nat.zero_add, Nat.reduceAdd] at hbX hsX g0 g1
  clear hkX
  generalize (w.alloc (.cells #[.int .i64 d.K, .int .i64 d.N, .string d.S, .slice pm d.M.length pcm, .slice pl d.L.length pcl, .slice pt d.T.length pct] 25)).alloc (.cells #[.int .i64 0, .int .i64 0, .string ⟨#[]⟩, .slice none 0 0, .slice none 0 0, .slice none 0 0] 25) = X0 at *
  have x0 : X0.cell? ⟨w.heap.size, 0, none⟩ = some (.int .i64 d.K) := (g0.cell 0).trans rfl
  have x1 : X0.cell? ⟨w.heap.size, 1, none⟩ = some (.int .i64 d.N) := (g0.cell 1).trans rfl
  have x2 : X0.cell? ⟨w.heap.size, 2, none⟩ = some (.string d.S) := (g0.cell 2).trans rfl
  have x3 : X0.cell? ⟨w.heap.size, 3, none⟩ = some (.slice pm d.M.length pcm) := (g0.cell 3).trans rfl
  have x4 : X0.cell? ⟨w.heap.size, 4, none⟩ = some (.slice pl d.L.length pcl) := (g0.cell 4).trans rfl
  have x5 : X0.cell? ⟨w.heap.size, 5, none⟩ = some (.slice pt d.T.length pct) := (g0.cell 5).trans rfl
  have lt_x : w.heap.size < X0.heap.size := by omega
  have z0 : X0.cell? ⟨w.heap.size + 1, 0, none⟩ = some (.int .i64 0) := (g1.cell 0).trans rfl
  have z1 : X0.cell? ⟨w.heap.size + 1, 1, none⟩ = some (.int .i64 0) := (g1.cell 1).trans rfl
  have z2 : X0.cell? ⟨w.heap.size + 1, 2, none⟩ = some (.string ⟨#[]⟩) := (g1.cell 2).trans rfl
  have z3 : X0.cell? ⟨w.heap.size + 1, 3, none⟩ = some (.slice none 0 0) := (g1.cell 3).trans rfl
  have z4 : X0.cell? ⟨w.heap.size + 1, 4, none⟩ = some (.slice none 0 0) := (g1.cell 4).trans rfl
  have z5 : X0.cell? ⟨w.heap.size + 1, 5, none⟩ = some (.slice none 0 0) := (g1.cell 5).trans rfl
  have fzz0 := g1.frozen 0
  have fzz1 := g1.frozen 1
  have fzz2 := g1.frozen 2
  have fzz3 := g1.frozen 3
  have fzz4 := g1.frozen 4
  have fzz5 := g1.frozen 5
  have lt_z : w.heap.size + 1 < X0.heap.size := by omega
  clear g0 g1 hsX
  replace TD := Lib.hid (TD.out.up hbX)
  replace HW := Lib.hid (HW.out.trans (hbX.mono HW.out.size))
  clear hbX
  refine (copy_any d _ X0 (by exact TD.out)).mono ?_
  rintro e w2 ⟨v', rfl, hb, hi, ho⟩
  have hi' := hi
  rw [Hdd.out] at hi hi' ho
  obtain ⟨qm, qcm, ql, qcl, qt, qct, rfl, _⟩ := hi'.open_
  obtain ⟨hc2, hz2⟩ := bcell hb
  have s2 := hb.size
  have HO := Lib.hid ho
  have HB := Lib.hid hb
  clear hi hi' ho hb
  go_wp2_with fail
  obtain ⟨hbZ, hsZ, hkZ⟩ := start_allocs [(#[.int .i64 dd.K, .int .i64 dd.N, .string dd.S, .slice qm dd.M.length qcm, .slice ql dd.L.length qcl, .slice qt dd.T.length qct], 25)] w2
  have g0 := hkZ 0 _ rfl
  simp only [allocs, List.foldl_cons, List.foldl_nil, Nat.add_zero, List.length_cons, List.length_nil, Nat.zero_add] at hbZ hsZ g0
  clear hkZ
  generalize w2.alloc (.cells #[.int .i64 dd.K, .int .i64 dd.N, .string dd.S, .slice qm dd.M.length qcm, .slice ql dd.L.length qcl, .slice qt dd.T.length qct] 25) = Z at *
  have hoZ : OwnDt Z dd X0.heap.size w2.heap.size (.agg #[.int .i64 dd.K, .int .i64 dd.N, .string dd.S, .slice qm dd.M.length qcm, .slice ql dd.L.length qcl, .slice qt dd.T.length qct]) := OwnDt.keep dd _ _ _ ((Eqv.of_fr (Fr.of_bel hbZ (fun _ => False))).mono fun b hb => ⟨hb.2, fun h => h⟩) HO.out
  refine (un_one dd w2.heap.size X0.heap.size w2.heap.size qm ql qcm qcl qt qct 1 Z ⟨⟨(g0.cell 0).trans rfl, (g0.cell 1).trans rfl, (g0.cell 2).trans rfl, (g0.cell 3).trans rfl, (g0.cell 4).trans rfl, (g0.cell 5).trans rfl⟩, hoZ⟩ (fun o => g0.frozen o) (Nat.le_refl _) (by omega)).mono ?_
  rintro e w3 ⟨rfl, f3, ⟨e0, e1, e2, e3, e4, e5⟩, ho3⟩
  have s3 := f3.size
  have ltz : w.heap.size + 1 < X0.heap.size := lt_z
  have no : ¬ (w.heap.size + 1 = w2.heap.size ∨ Rg X0.heap.size w2.heap.size (w.heap.size + 1)) := fun h => by
    rcases h with h | h
    · omega
    · have : X0.heap.size ≤ w.heap.size + 1 := h.1
      omega
  have fz0 : w3.frozen? ⟨w.heap.size + 1, 0, none⟩ = false := ((f3.frozen (p := ⟨w.heap.size + 1, 0, none⟩) (by show w.heap.size + 1 < Z.heap.size; omega) no).trans (hbZ.frozen (p := ⟨w.heap.size + 1, 0, none⟩) (by show w.heap.size + 1 < w2.heap.size; omega))).trans ((hz2 _ 0 lt_z).trans fzz0)
  have cz0 : w3.cell? ⟨w.heap.size + 1, 0, none⟩ = some (.int .i64 0) := ((f3.cell (p := ⟨w.heap.size + 1, 0, none⟩) (by show w.heap.size + 1 < Z.heap.size; omega) no).trans (hbZ.cell (p := ⟨w.heap.size + 1, 0, none⟩) (by show w.heap.size + 1 < w2.heap.size; omega))).trans ((hc2 _ 0 lt_z).trans z0)
  have fz1 : w3.frozen? ⟨w.heap.size + 1, 1, none⟩ = false := ((f3.frozen (p := ⟨w.heap.size + 1, 1, none⟩) (by show w.heap.size + 1 < Z.heap.size; omega) no).trans (hbZ.frozen (p := ⟨w.heap.size + 1, 1, none⟩) (by show w.heap.size + 1 < w2.heap.size; omega))).trans ((hz2 _ 1 lt_z).trans fzz1)
  have cz1 : w3.cell? ⟨w.heap.size + 1, 1, none⟩ = some (.int .i64 0) := ((f3.cell (p := ⟨w.heap.size + 1, 1, none⟩) (by show w.heap.size + 1 < Z.heap.size; omega) no).trans (hbZ.cell (p := ⟨w.heap.size + 1, 1, none⟩) (by show w.heap.size + 1 < w2.heap.size; omega))).trans ((hc2 _ 1 lt_z).trans z1)
  have fz2 : w3.frozen? ⟨w.heap.size + 1, 2, none⟩ = false := ((f3.frozen (p := ⟨w.heap.size + 1, 2, none⟩) (by show w.heap.size + 1 < Z.heap.size; omega) no).trans (hbZ.frozen (p := ⟨w.heap.size + 1, 2, none⟩) (by show w.heap.size + 1 < w2.heap.size; omega))).trans ((hz2 _ 2 lt_z).trans fzz2)
  have cz2 : w3.cell? ⟨w.heap.size + 1, 2, none⟩ = some (.string ⟨#[]⟩) := ((f3.cell (p := ⟨w.heap.size + 1, 2, none⟩) (by show w.heap.size + 1 < Z.heap.size; omega) no).trans (hbZ.cell (p := ⟨w.heap.size + 1, 2, none⟩) (by show w.heap.size + 1 < w2.heap.size; omega))).trans ((hc2 _ 2 lt_z).trans z2)
  have fz3 : w3.frozen? ⟨w.heap.size + 1, 3, none⟩ = false := ((f3.frozen (p := ⟨w.heap.size + 1, 3, none⟩) (by show w.heap.size + 1 < Z.heap.size; omega) no).trans (hbZ.frozen (p := ⟨w.heap.size + 1, 3, none⟩) (by show w.heap.size + 1 < w2.heap.size; omega))).trans ((hz2 _ 3 lt_z).trans fzz3)
  have cz3 : w3.cell? ⟨w.heap.size + 1, 3, none⟩ = some (.slice none 0 0) := ((f3.cell (p := ⟨w.heap.size + 1, 3, none⟩) (by show w.heap.size + 1 < Z.heap.size; omega) no).trans (hbZ.cell (p := ⟨w.heap.size + 1, 3, none⟩) (by show w.heap.size + 1 < w2.heap.size; omega))).trans ((hc2 _ 3 lt_z).trans z3)
  have fz4 : w3.frozen? ⟨w.heap.size + 1, 4, none⟩ = false := ((f3.frozen (p := ⟨w.heap.size + 1, 4, none⟩) (by show w.heap.size + 1 < Z.heap.size; omega) no).trans (hbZ.frozen (p := ⟨w.heap.size + 1, 4, none⟩) (by show w.heap.size + 1 < w2.heap.size; omega))).trans ((hz2 _ 4 lt_z).trans fzz4)
  have cz4 : w3.cell? ⟨w.heap.size + 1, 4, none⟩ = some (.slice none 0 0) := ((f3.cell (p := ⟨w.heap.size + 1, 4, none⟩) (by show w.heap.size + 1 < Z.heap.size; omega) no).trans (hbZ.cell (p := ⟨w.heap.size + 1, 4, none⟩) (by show w.heap.size + 1 < w2.heap.size; omega))).trans ((hc2 _ 4 lt_z).trans z4)
  have fz5 : w3.frozen? ⟨w.heap.size + 1, 5, none⟩ = false := ((f3.frozen (p := ⟨w.heap.size + 1, 5, none⟩) (by show w.heap.size + 1 < Z.heap.size; omega) no).trans (hbZ.frozen (p := ⟨w.heap.size + 1, 5, none⟩) (by show w.heap.size + 1 < w2.heap.size; omega))).trans ((hz2 _ 5 lt_z).trans fzz5)
  have cz5 : w3.cell? ⟨w.heap.size + 1, 5, none⟩ = some (.slice none 0 0) := ((f3.cell (p := ⟨w.heap.size + 1, 5, none⟩) (by show w.heap.size + 1 < Z.heap.size; omega) no).trans (hbZ.cell (p := ⟨w.heap.size + 1, 5, none⟩) (by show w.heap.size + 1 < w2.heap.size; omega))).trans ((hc2 _ 5 lt_z).trans z5)
  have hgl : w2.heap.size < w3.heap.size := by omega
  have hzl : w.heap.size + 1 < w3.heap.size := by omega
  have HO3 := Lib.hid ho3
  have HW3 : Below w.heap.size w w3 := (HW.out.trans ((HB.out.trans (hbZ.mono HB.out.size)).mono HW.out.size)).trans (f3.below (by have := HW.out.size; omega) (fun i hi h => by
    rcases h with h | h
    · have := HW.out.size; omega
    · have : X0.heap.size ≤ i := h.1
      have := HW.out.size; omega))
  have H3 := Lib.hid HW3
  clear f3 ho3 HW3 hbZ g0 hoZ hc2 hz2
  go_wp2_with fail
  refine bodyPost_ret (v := .agg #[.int .i64 dd.K, .int .i64 dd.N, .string dd.S, .slice none 0 0, .slice ql dd.L.length qcl, .slice qt dd.T.length qct]) ?_ rfl ?_
  · simp [results, Try.results14, go_sem, cz0, cz1, cz2, cz3, cz4, cz5, hzl]
  · have hf := set6_fr w3 (w.heap.size + 1) 0 (.int .i64 dd.K) (.int .i64 dd.N) (.string dd.S) (.slice none 0 0) (.slice ql dd.L.length qcl) (.slice qt dd.T.length qct)
    have sf := hf.size
    refine ⟨_, rfl, H3.out.trans (hf.below H3.out.size (fun i hi h => by omega)), ?_⟩
    have hb2 := HB.out.size
    have hk : OwnDt (set6 w3 (w.heap.size + 1) 0 (.int .i64 dd.K) (.int .i64 dd.N) (.string dd.S) (.slice none 0 0) (.slice ql dd.L.length qcl) (.slice qt dd.T.length qct)) (plainD dd) X0.heap.size w2.heap.size _ :=
      OwnDt.keep (plainD dd) _ _ _ ((Eqv.of_fr hf).mono fun b hb => ⟨by have : b < w2.heap.size := hb.2; omega, by have : X0.heap.size ≤ b := hb.1; show ¬ b = w.heap.size + 1; omega⟩) HO3.out
    exact (hk.isDt _ _ _ _).more fun b hb => by
      have h1 : b < w2.heap.size := hb.2
      show b < (set6 w3 (w.heap.size + 1) 0 (.int .i64 dd.K) (.int .i64 dd.N) (.string dd.S) (.slice none 0 0) (.slice ql dd.L.length qcl) (.slice qt dd.T.length qct)).heap.size
      omega
end Go.Proofs.Yteddfdhbpgbloaa.Da
