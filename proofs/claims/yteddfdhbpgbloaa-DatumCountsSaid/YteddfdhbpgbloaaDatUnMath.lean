/- Marks struck from a copy that owns its memory: what is reckoned without a walk. -/
import Derived.Test.YteddfdhbpgbloaaDatMarks
namespace Go.Proofs.Yteddfdhbpgbloaa.Da
open Go.ChangeShapes Go.WideShapes Go.ChangeAt Go.RowKit

mutual
def plainD : Dt → Dt
  | .mk k n s _ l t => .mk k n s [] (plainL l) (plainL t)
def plainL : List Dt → List Dt
  | [] => []
  | d :: r => plainD d :: plainL r
end
theorem plainL_len : ∀ l : List Dt, (plainL l).length = l.length
  | [] => by simp only [plainL]
  | d :: r => by simp only [plainL, List.length_cons, plainL_len r]
theorem plainL_append : ∀ a b : List Dt, plainL (a ++ b) = plainL a ++ plainL b
  | [], b => by simp only [plainL, List.nil_append]
  | d :: r, b => by simp only [List.cons_append, plainL, plainL_append r b]
theorem plainD_mk (d : Dt) : plainD d = .mk d.K d.N d.S [] (plainL d.L) (plainL d.T) := by
  cases d; simp only [plainD, Dt.K, Dt.N, Dt.S, Dt.L, Dt.T]
/-- One element of a row that owns its memory. -/
theorem own_split {w : World} {g : Nat} {d : Dt} {l2 : List Dt} {hi : Nat} : ∀ (l1 : List Dt) (i lo : Nat), OwnDts w hi (some ⟨g, 0, none⟩) (l1 ++ d :: l2) i lo →
    ∃ lo' mid x0 x1 x2 x3 x4 x5, lo ≤ lo' ∧ g < lo' ∧ lo' ≤ mid ∧ mid ≤ hi ∧ OwnDts w lo' (some ⟨g, 0, none⟩) l1 i lo ∧ Six w g ((i + l1.length) * 6) x0 x1 x2 x3 x4 x5 ∧ OwnDt w d lo' mid (.agg #[x0, x1, x2, x3, x4, x5]) ∧ OwnDts w hi (some ⟨g, 0, none⟩) l2 (i + l1.length + 1) mid
  | [], i, lo, h => by
    simp only [List.nil_append, OwnDts] at h
    obtain ⟨mid, g', x0, x1, x2, x3, x4, x5, ha, h0, h1, h2, hs, hd, hr⟩ := h
    injection ha with ha
    injection ha with ha
    subst ha
    exact ⟨lo, mid, x0, x1, x2, x3, x4, x5, Nat.le_refl _, h0, h1, h2, by simp only [OwnDts], hs, hd, hr⟩
  | e :: r, i, lo, h => by
    simp only [List.cons_append, OwnDts] at h
    obtain ⟨m0, g', y0, y1, y2, y3, y4, y5, ha, h0, h1, h2, hs, hd, hr⟩ := h
    injection ha with ha
    injection ha with ha
    subst ha
    obtain ⟨lo', mid, x0, x1, x2, x3, x4, x5, k1, k2, k3, k4, k5, k6, k7, k8⟩ := own_split r (i + 1) m0 hr
    have e1 : i + 1 + r.length = i + (e :: r).length := by rw [List.length_cons]; omega
    rw [e1] at k6 k8
    refine ⟨lo', mid, x0, x1, x2, x3, x4, x5, by omega, k2, k3, k4, ?_, k6, k7, k8⟩
    simp only [OwnDts]
    exact ⟨m0, g, y0, y1, y2, y3, y4, y5, rfl, h0, h1, k1, hs, hd, k5⟩
theorem own_join {w : World} {g : Nat} {d : Dt} {l2 : List Dt} {hi lo' mid : Nat} {x0 x1 x2 x3 x4 x5 : Value} : ∀ (l1 : List Dt) (i lo : Nat), OwnDts w lo' (some ⟨g, 0, none⟩) l1 i lo → lo ≤ lo' → g < lo → lo' ≤ mid → mid ≤ hi →
    Six w g ((i + l1.length) * 6) x0 x1 x2 x3 x4 x5 → OwnDt w d lo' mid (.agg #[x0, x1, x2, x3, x4, x5]) → OwnDts w hi (some ⟨g, 0, none⟩) l2 (i + l1.length + 1) mid → OwnDts w hi (some ⟨g, 0, none⟩) (l1 ++ d :: l2) i lo
  | [], i, lo, _, k1, k2, k3, k4, k6, k7, k8 => by
    simp only [List.nil_append, OwnDts]
    exact ⟨mid, g, x0, x1, x2, x3, x4, x5, rfl, k2, by omega, k4, k6, k7.wide d k1 (Nat.le_refl _), k8⟩
  | e :: r, i, lo, h, k1, k2, k3, k4, k6, k7, k8 => by
    simp only [List.cons_append, OwnDts] at h ⊢
    obtain ⟨m0, g', y0, y1, y2, y3, y4, y5, ha, h0, h1, h2, hs, hd, hr⟩ := h
    injection ha with ha
    injection ha with ha
    subst ha
    have e1 : i + (e :: r).length = i + 1 + r.length := by rw [List.length_cons]; omega
    rw [e1] at k6 k8
    exact ⟨m0, g, y0, y1, y2, y3, y4, y5, rfl, h0, h1, by omega, hs, hd, own_join r (i + 1) m0 hr h2 (by omega) k3 k4 k6 k7 k8⟩
theorem own_keepG {w w' : World} {g : Nat} : ∀ (l : List Dt) (i lo hi : Nat), (∀ o, i * 6 ≤ o → o < (i + l.length) * 6 → w'.cell? ⟨g, o, none⟩ = w.cell? ⟨g, o, none⟩) → Eqv w w' (Rg lo hi) → OwnDts w hi (some ⟨g, 0, none⟩) l i lo → OwnDts w' hi (some ⟨g, 0, none⟩) l i lo
  | [], _, _, _, _, _, _ => by simp only [OwnDts]
  | d :: r, i, lo, hi, hc, hk, h => by
    simp only [OwnDts] at h ⊢
    obtain ⟨mid, g', x0, x1, x2, x3, x4, x5, ha, h0, h1, h2, ⟨s0, s1, s2, s3, s4, s5⟩, hd, hr⟩ := h
    injection ha with ha
    injection ha with ha
    subst ha
    rw [List.length_cons] at hc
    refine ⟨mid, g, x0, x1, x2, x3, x4, x5, rfl, h0, h1, h2, ⟨?_, ?_, ?_, ?_, ?_, ?_⟩, OwnDt.keep d lo mid _ (hk.mono fun b hb => ⟨hb.1, by have := hb.2; omega⟩) hd, own_keepG r (i + 1) mid hi (fun o ho1 ho2 => hc o (by omega) (by omega)) (hk.mono fun b hb => ⟨by have := hb.1; omega, hb.2⟩) hr⟩
    · exact (hc _ (by omega) (by omega)).trans s0
    · exact (hc _ (by omega) (by omega)).trans s1
    · exact (hc _ (by omega) (by omega)).trans s2
    · exact (hc _ (by omega) (by omega)).trans s3
    · exact (hc _ (by omega) (by omega)).trans s4
    · exact (hc _ (by omega) (by omega)).trans s5
def UnR (w : World) (l : List Dt) (a : Option Addr) (cap lo hi : Nat) (e : Ending) (w' : World) : Prop :=
  e = .returned (.tuple #[]) ∧ Fr (Rg lo hi) w w' ∧ OwnSl w' lo hi a l.length cap ∧ OwnDts w' hi a (plainL l) 0 (nx a)
def UnIs (l : List Dt) : Prop := ∀ (a : Option Addr) (cap lo hi : Nat) (w : World), OwnSl w lo hi a l.length cap → OwnDts w hi a l 0 (nx a) → hi ≤ w.heap.size →
  Calls Try.prog 45 #[.slice a l.length cap] w (UnR w l a cap lo hi)
def UnAt (w : World) (l : List Dt) (g lo hi : Nat) (i : Value) (wr : World) : Prop :=
  ∃ j : Nat, j ≤ l.length ∧ i = .int .i64 (j : Int) ∧ Fr (Rg lo hi) w wr ∧ (∀ o, wr.frozen? ⟨g, o, none⟩ = false) ∧ OwnDts wr hi (some ⟨g, 0, none⟩) (plainL (l.take j) ++ l.drop j) 0 (g + 1)
theorem own_open {w : World} {d : Dt} {lo hi : Nat} {v : Value} (h : OwnDt w d lo hi v) : (Lit.int .i64 d.K).wf = true ∧ (Lit.int .i64 d.N).wf = true ∧ d.S.size ≤ maxLen ∧
    ∃ am cm al cl at_ ct h1 h2, v = .agg #[.int .i64 d.K, .int .i64 d.N, .string d.S, .slice am d.M.length cm, .slice al d.L.length cl, .slice at_ d.T.length ct] ∧ lo ≤ h1 ∧ h1 ≤ h2 ∧ h2 ≤ hi ∧
      OwnSl w h1 h2 al d.L.length cl ∧ OwnDts w h2 al d.L 0 (nx al) ∧ OwnSl w h2 hi at_ d.T.length ct ∧ OwnDts w hi at_ d.T 0 (nx at_) := by
  obtain ⟨k, n, s, m, l, t⟩ := d
  simp only [OwnDt] at h
  obtain ⟨q1, q2, q3, am, cm, al, cl, at_, ct, h1, h2, hv, o1, o2, o3, _, r1, r2, r3, r4⟩ := h
  exact ⟨q1, q2, q3, am, cm, al, cl, at_, ct, h1, h2, hv, o1, o2, o3, r1, r2, r3, r4⟩
/-- A row of its own and what lies in it, where its region has not turned. -/
theorem row_keep {w w' : World} {lo hi : Nat} {a : Option Addr} {cap : Nat} {l : List Dt} (hs : OwnSl w lo hi a l.length cap) (hd : OwnDts w hi a l 0 (nx a)) (hk : Eqv w w' (Rg lo hi)) : OwnSl w' lo hi a l.length cap ∧ OwnDts w' hi a l 0 (nx a) := by
  refine ⟨hs.keep hk, ?_⟩
  rcases hs with ⟨rfl, hz, _⟩ | ⟨g, rfl, g1, g2, _⟩
  · have hl : l = [] := List.eq_nil_of_length_eq_zero hz
    subst hl
    simp only [OwnDts]
  · refine OwnDts.keep l 0 _ hi _ (hk.mono fun b hb => ?_) hd
    rcases hb with hb | ⟨hb1, hb2⟩
    · injection hb with hb; injection hb with hb; subst hb; exact ⟨g1, g2⟩
    · simp only [nx] at hb1; exact ⟨by omega, hb2⟩
/-- One element's marks struck, and those of all that is in it. -/
theorem un_end {wr W1 w2 w3 : World} {g j hi lo' mid h1 h2 : Nat} {d : Dt} {p q : List Dt} {am al at_ : Option Addr} {cm cl ct : Nat} (hg : g < wr.heap.size) (hhi : hi ≤ wr.heap.size) (hgl : g < lo') (hpl : p.length = j)
    (hW : W1 = wr.setCell ⟨g, j * 6 + 3, none⟩ (.slice none 0 0)) (f2 : Fr (Rg h1 h2) W1 w2) (f3 : Fr (Rg h2 mid) w2 w3) (o1 : lo' ≤ h1) (o2 : h1 ≤ h2) (o3 : h2 ≤ mid) (o4 : mid ≤ hi) (o5 : g + 1 ≤ lo')
    (kp : OwnDts wr lo' (some ⟨g, 0, none⟩) p 0 (g + 1)) (ks : Six wr g (j * 6) (.int .i64 d.K) (.int .i64 d.N) (.string d.S) (.slice am d.M.length cm) (.slice al d.L.length cl) (.slice at_ d.T.length ct))
    (kq : OwnDts wr hi (some ⟨g, 0, none⟩) q (j + 1) mid) (w1 : (Lit.int .i64 d.K).wf = true) (wn : (Lit.int .i64 d.N).wf = true) (ws : d.S.size ≤ maxLen)
    (sL : OwnSl w2 h1 h2 al d.L.length cl) (dL : OwnDts w2 h2 al (plainL d.L) 0 (nx al)) (sT : OwnSl w3 h2 mid at_ d.T.length ct) (dT : OwnDts w3 mid at_ (plainL d.T) 0 (nx at_)) :
    OwnDts w3 hi (some ⟨g, 0, none⟩) (p ++ plainD d :: q) 0 (g + 1) ∧ (∀ o, w3.frozen? ⟨g, o, none⟩ = wr.frozen? ⟨g, o, none⟩) := by
  have fW : Fr (fun i => i = g) wr W1 := by rw [hW]; exact (Fr.refl (fun i => i = g) wr).setCell (p := ⟨g, j * 6 + 3, none⟩) (.inl rfl) _
  have hs1 : W1.heap.size = wr.heap.size := by rw [hW]; simp [World.setCell]
  have s2 := f2.size
  have zW : ∀ o, W1.frozen? ⟨g, o, none⟩ = wr.frozen? ⟨g, o, none⟩ := fun o => by rw [hW, World.frozen?_setCell]
  have ng1 : ¬ Rg h1 h2 g := fun h => by have := h.1; omega
  have ng2 : ¬ Rg h2 mid g := fun h => by have := h.1; omega
  have cg : ∀ o, w3.cell? ⟨g, o, none⟩ = W1.cell? ⟨g, o, none⟩ := fun o => (f3.cell (p := ⟨g, o, none⟩) (by show g < w2.heap.size; omega) ng2).trans (f2.cell (p := ⟨g, o, none⟩) (by show g < W1.heap.size; omega) ng1)
  have co : ∀ o, o ≠ j * 6 + 3 → w3.cell? ⟨g, o, none⟩ = wr.cell? ⟨g, o, none⟩ := fun o ho => (cg o).trans (by rw [hW]; exact set_ne _ _ _ _ _ _ (.inr ho))
  have zg : ∀ o, w3.frozen? ⟨g, o, none⟩ = wr.frozen? ⟨g, o, none⟩ := fun o => ((f3.frozen (p := ⟨g, o, none⟩) (by show g < w2.heap.size; omega) ng2).trans (f2.frozen (p := ⟨g, o, none⟩) (by show g < W1.heap.size; omega) ng1)).trans (zW o)
  have far : Eqv wr w3 (fun b => b < wr.heap.size ∧ b ≠ g ∧ ¬ Rg h1 h2 b ∧ ¬ Rg h2 mid b) := fun b hb o =>
    ⟨((f3.cell (p := ⟨b, o, none⟩) (by show b < w2.heap.size; have := hb.1; omega) hb.2.2.2).trans (f2.cell (p := ⟨b, o, none⟩) (by show b < W1.heap.size; have := hb.1; omega) hb.2.2.1)).trans (fW.cell (p := ⟨b, o, none⟩) hb.1 hb.2.1),
     ((f3.frozen (p := ⟨b, o, none⟩) (by show b < w2.heap.size; have := hb.1; omega) hb.2.2.2).trans (f2.frozen (p := ⟨b, o, none⟩) (by show b < W1.heap.size; have := hb.1; omega) hb.2.2.1)).trans (fW.frozen (p := ⟨b, o, none⟩) hb.1 hb.2.1)⟩
  have e23 : Eqv w2 w3 (Rg h1 h2) := (Eqv.of_fr f3).mono fun b hb => ⟨by have := hb.2; omega, fun h => by have := hb.2; have := h.1; omega⟩
  obtain ⟨sL3, dL3⟩ := row_keep (l := plainL d.L) (by rw [plainL_len]; exact sL) dL e23
  obtain ⟨c0, c1, c2, c3, c4, c5⟩ := ks
  have hp0 : (0 + p.length) * 6 = j * 6 := by rw [hpl]; omega
  refine ⟨own_join (lo' := lo') (mid := mid) (x0 := .int .i64 d.K) (x1 := .int .i64 d.N) (x2 := .string d.S) (x3 := .slice none 0 0) (x4 := .slice al d.L.length cl) (x5 := .slice at_ d.T.length ct) p 0 (g + 1) ?_ o5 (by omega) (by omega) o4 ?_ ?_ ?_, zg⟩
  · exact own_keepG p 0 (g + 1) lo' (fun o _ ho => co o (by rw [Nat.zero_add, hpl] at ho; omega)) (far.mono fun b hb => ⟨by have := hb.2; omega, by have := hb.1; omega, fun h => by have := h.1; have := hb.2; omega, fun h => by have := h.1; have := hb.2; omega⟩) kp
  · rw [hp0]
    exact ⟨(co _ (by omega)).trans c0, (co _ (by omega)).trans c1, (co _ (by omega)).trans c2, (cg _).trans (by rw [hW]; exact set_eq _ _ _ _ _ c3), (co _ (by omega)).trans c4, (co _ (by omega)).trans c5⟩
  · rw [plainD_mk]
    simp only [OwnDt]
    refine ⟨w1, wn, ws, none, 0, al, cl, at_, ct, h1, h2, by rw [plainL_len, plainL_len]; rfl, o1, o2, o3, ⟨⟨rfl, Nat.le_refl _, by simp [maxLen], by simp, fun _ => rfl, by simp, fun k hk => absurd hk (Nat.not_lt_zero _)⟩, fun ad h => by cases h⟩, sL3, dL3, by rw [plainL_len]; exact sT, dT⟩
  · rw [show 0 + p.length + 1 = j + 1 by omega]
    exact own_keepG q (j + 1) mid hi (fun o ho _ => co o (by omega)) (far.mono fun b hb => ⟨by have := hb.2; omega, by have := hb.1; omega, fun h => by have := h.2; have := hb.1; omega, fun h => by have := h.2; have := hb.1; omega⟩) kq
set_option maxHeartbeats 2000000 in
theorem un_step (l : List Dt) (ih : ∀ d ∈ l, UnIs d.L ∧ UnIs d.T) : UnIs l := by
  intro a cap lo hi w hs hd hhi
  have b1 : (l.length : Int) ≤ 17592186044416 := by have a := hs.sl.1; have b := hs.sl.2.2.1; omega
  rcases hs with ⟨rfl, hz, rfl⟩ | ⟨g, rfl, g1, g2, hcap, hmx, h104, hfz⟩
  · have hl : l = [] := List.eq_nil_of_length_eq_zero hz
    subst hl
    have dl : decide ((0 : Int) < 0) = false := by decide
    go_enter Try.func45, Try.ntmps45
    go_wp2_with fail
    go_loopw [5] (fun i wr => i = .int .i64 0 ∧ wr = w) (fun _ _ => 0)
    case atStart => exact ⟨rfl, rfl⟩
    case round =>
      obtain ⟨rfl, rfl⟩ := hrel
      go_wp2_with fail
      go_end0
      exact ⟨rfl, Fr.refl _ _, .inl ⟨rfl, rfl, rfl⟩, by simp only [plainL, OwnDts]⟩
  · have Hd := Lib.hid hd
    have Hf := Lib.hid hfz
    have HS := Lib.hid (And.intro hcap (And.intro hmx h104))
    clear hd hfz hmx h104 hcap
    go_enter Try.func45, Try.ntmps45
    go_wp2_with fail
    go_loopw [5] (fun i wr => UnAt w l g lo hi i wr) (fun i _ => l.length - (intOf i).toNat)
    case atStart => exact ⟨0, Nat.zero_le _, rfl, Fr.refl _ _, Hf.out, Hd.out⟩
    case round =>
      obtain ⟨j, hj, rfl, hfr, hz, ho⟩ := hrel
      have Hfr := Lib.hid hfr
      have Hz := Lib.hid hz
      have Ho := Lib.hid ho
      clear hfr hz ho
      by_cases hlt : j < l.length
      · have dl : decide ((j : Int) < (l.length : Int)) = true := by simp [hlt]
        obtain ⟨d, hx⟩ : ∃ d, l[j]? = some d := ⟨l[j], by simp⟩
        have hdr : l.drop j = d :: l.drop (j + 1) := by
          rw [List.drop_eq_getElem_cons hlt]
          congr 1
          simpa [hlt] using hx
        have ho := Ho.out
        rw [hdr] at ho
        obtain ⟨lo', mid, x0, x1, x2, x3, x4, x5, k1, k2, k3, k4, kp, ks, kd, kq⟩ := own_split _ 0 (g + 1) ho
        have hpl : (plainL (l.take j)).length = j := by rw [plainL_len, List.length_take]; omega
        rw [hpl, Nat.zero_add] at ks kq
        obtain ⟨w1, wn, ws, am, cm, al, cl, at_, ct, h1, h2, hv, o1, o2, o3, sL, dL, sT, dT⟩ := own_open kd
        injection hv with hv
        simp only [Array.mk.injEq, List.cons.injEq, and_true] at hv
        obtain ⟨rfl, rfl, rfl, rfl, rfl, rfl⟩ := hv
        have hgw : g < wr.heap.size := by have := Hfr.out.size; omega
        obtain ⟨c0, c1, c2, c3, c4, c5⟩ := ks
        have z3 := Hz.out (j * 6 + 3)
        have k0 : (0 : Int) ≤ (j : Int) := Int.natCast_nonneg _
        have kk1 : (j : Int) < (l.length : Int) := by omega
        have r4 := (set_ne wr g (j * 6 + 3) g (j * 6 + 4) (.slice none 0 0) (.inr (by omega))).trans c4
        have r5 := (set_ne wr g (j * 6 + 3) g (j * 6 + 5) (.slice none 0 0) (.inr (by omega))).trans c5
        have Hs := Lib.hid (And.intro c0 (And.intro c1 (And.intro c2 (And.intro c3 (And.intro c4 c5)))))
        have Hk := Lib.hid (And.intro kp (And.intro kq (And.intro w1 (And.intro wn ws))))
        have HL := Lib.hid (And.intro sL dL)
        have HT := Lib.hid (And.intro sT dT)
        have Hx := Lib.hid hx
        have Ih := Lib.hid (ih d (List.mem_of_getElem? hx))
        have hord := Lib.hid (And.intro k1 (And.intro k2 (And.intro k3 (And.intro k4 (And.intro o1 (And.intro o2 o3))))))
        clear c0 c1 c2 c4 c5 kp kq kd w1 wn ws sL dL sT dT hx ho hdr k1 k2 k3 k4 o1 o2 o3
        go_wp2_with fail
        obtain ⟨k1, k2, k3, k4, o1, o2, o3⟩ := hord.out
        obtain ⟨sL, dL⟩ := HL.out
        obtain ⟨sT, dT⟩ := HT.out
        obtain ⟨q0, q1, q2, q3, q4, q5⟩ := Hs.out
        obtain ⟨kp, kq, w1, wn, ws⟩ := Hk.out
        have swr := Hfr.out.size
        have fW : Fr (fun i => i = g) wr (wr.setCell ⟨g, j * 6 + 3, none⟩ (.slice none 0 0)) := (Fr.refl (fun i => i = g) wr).setCell (p := ⟨g, j * 6 + 3, none⟩) (.inl rfl) _
        have hs1 : (wr.setCell ⟨g, j * 6 + 3, none⟩ (.slice none 0 0)).heap.size = wr.heap.size := by simp [World.setCell]
        obtain ⟨W1, hW1⟩ : ∃ W, wr.setCell ⟨g, j * 6 + 3, none⟩ (.slice none 0 0) = W := ⟨_, rfl⟩
        rw [hW1] at fW hs1 r4 r5 ⊢
        obtain ⟨sL1, dL1⟩ := row_keep sL dL ((Eqv.of_fr fW).mono fun b hb => ⟨by have := hb.2; omega, by have h : h1 ≤ b := hb.1; show ¬ b = g; omega⟩)
        refine (Ih.out.1 al cl h1 h2 W1 sL1 dL1 (by omega)).mono ?_
        rintro e w2 ⟨rfl, f2, sL2, dL2⟩
        have s2 := f2.size
        have r6 := (f2.cell (p := ⟨g, j * 6 + 5, none⟩) (by show g < W1.heap.size; omega) (fun h => by have h' : h1 ≤ g := h.1; omega)).trans r5
        have hgw2 : g < w2.heap.size := by omega
        have F2 := Lib.hid f2
        have L2 := Lib.hid (And.intro sL2 dL2)
        have FW := Lib.hid fW
        have HW1 := Lib.hid hW1
        clear f2 sL2 dL2 sL1 dL1 fW q0 q1 q2 q3 q4 q5 kp kq sL dL sT dT w1 wn ws hW1 r4 r5
        go_wp2_with fail
        obtain ⟨sT, dT⟩ := HT.out
        have FWo := FW.out
        have F2o := F2.out
        have e2 : Eqv wr w2 (Rg h2 mid) := fun b hb o => by
          have p1 : h2 ≤ b := hb.1
          have p2 : b < mid := hb.2
          have n1 : ¬ Rg h1 h2 b := fun h => by have : b < h2 := h.2; omega
          exact ⟨(F2o.cell (p := ⟨b, o, none⟩) (by show b < W1.heap.size; omega) n1).trans (FWo.cell (p := ⟨b, o, none⟩) (by show b < wr.heap.size; omega) (by show ¬ b = g; omega)),
            (F2o.frozen (p := ⟨b, o, none⟩) (by show b < W1.heap.size; omega) n1).trans (FWo.frozen (p := ⟨b, o, none⟩) (by show b < wr.heap.size; omega) (by show ¬ b = g; omega))⟩
        obtain ⟨sT2, dT2⟩ := row_keep sT dT e2
        refine (Ih.out.2 at_ ct h2 mid w2 sT2 dT2 (by omega)).mono ?_
        rintro e w3 ⟨rfl, f3, sT3, dT3⟩
        have hend := un_end (p := plainL (l.take j)) (q := l.drop (j + 1)) (hi := hi) hgw (by omega) k2 hpl HW1.out.symm F2.out f3 o1 o2 o3 k4 k1 Hk.out.1 Hs.out Hk.out.2.1 Hk.out.2.2.1 Hk.out.2.2.2.1 Hk.out.2.2.2.2 L2.out.1 L2.out.2 sT3 dT3
        have hfin : Fr (Rg lo hi) w w3 := ((Hfr.out.trans' FWo (fun i hi' _ => ⟨by have : i = g := hi'; omega, by have : i = g := hi'; omega⟩)).trans' F2o (fun i hi' _ => ⟨by have : h1 ≤ i := hi'.1; omega, by have : i < h2 := hi'.2; omega⟩)).trans' f3 (fun i hi' _ => ⟨by have : h2 ≤ i := hi'.1; omega, by have : i < mid := hi'.2; omega⟩)
        have Hend := Lib.hid hend
        have Hfin := Lib.hid hfin
        clear hend hfin f3 sT3 dT3 sT2 dT2 e2 FWo F2o sT dT
        go_wp2_with fail
        go_roundw
        case rel =>
          refine ⟨j + 1, by omega, by go_num, Hfin.out, fun o => (Hend.out.2 o).trans (Hz.out o), ?_⟩
          rw [take_snoc_dt l j d Hx.out, plainL_append, List.append_assoc]
          exact Hend.out.1
        case measure => simp [intOf]; omega
      · obtain rfl : j = l.length := by omega
        have dl : decide ((l.length : Int) < (l.length : Int)) = false := by simp
        have ho := Ho.out
        rw [List.take_length, List.drop_length, List.append_nil] at ho
        have Ho2 := Lib.hid ho
        clear ho
        go_wp2_with fail
        go_end0
        exact ⟨rfl, Hfr.out, .inr ⟨g, rfl, g1, g2, HS.out.1, HS.out.2.1, HS.out.2.2, Hz.out⟩, Ho2.out⟩
theorem un_all (d : Dt) : UnIs d.L ∧ UnIs d.T :=
  Dt.ind (P := fun d => UnIs d.L ∧ UnIs d.T) (fun _ _ _ _ l t hl ht => ⟨un_step l hl, un_step t ht⟩) d
theorem unmark_any (l : List Dt) : UnIs l := un_step l fun d _ => un_all d
end Go.Proofs.Yteddfdhbpgbloaa.Da
