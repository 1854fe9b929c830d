/- Small help for walks over acts: as in ScAlike, for texts that do not import it. -/
import Derived.Test.YtapnighankepjaaDatMarks
import Derived.Test.YtapnighankepjaaDatRWalk
import Derived.ChangeSlices
import Derived.SizedLaws
import Derived.Test.YtapnighankepjaaDatText
import Derived.Test.YtapnighankepjaaDatRead
import Derived.Test.YtapnighankepjaaDatSmall
import Derived.Laws.StructEq
import Derived.Deep.Cut
import Derived.Test.YtapnighankepjaaMG0
import Derived.Maps.AppendAt
import Derived.Test.YtapnighankepjaaDatRSameMath
import Derived.Laws.AppendOwnNone
section
namespace Go.Proofs.Ytapnighankepjaa.Da
open Go.ChangeShapes Go.WideShapes Go.ChangeAt Go.RowKit

mutual
def plainD : Dt → Dt
  | .mk k n s _ l t => .mk k n s [] (plainL l) (plainL t)
def plainL : List Dt → List Dt
  | [] => []
  | d :: r => plainD d :: plainL r
end
theorem plainL_len : ∀ l : List Dt, (plainL l).length = l.length
  | [] => by simp only [plainL]
  | d :: r => by simp only [plainL, List.length_cons, plainL_len r]
theorem plainL_append : ∀ a b : List Dt, plainL (a ++ b) = plainL a ++ plainL b
  | [], b => by simp only [plainL, List.nil_append]
  | d :: r, b => by simp only [List.cons_append, plainL, plainL_append r b]
theorem plainD_mk (d : Dt) : plainD d = .mk d.K d.N d.S [] (plainL d.L) (plainL d.T) := by
  cases d; simp only [plainD, Dt.K, Dt.N, Dt.S, Dt.L, Dt.T]
/-- One element of a row that owns its memory. -/
theorem own_split {w : World} {g : Nat} {d : Dt} {l2 : List Dt} {hi : Nat} : ∀ (l1 : List Dt) (i lo : Nat), OwnDts w hi (some ⟨g, 0, none⟩) (l1 ++ d :: l2) i lo →
    ∃ lo' mid x0 x1 x2 x3 x4 x5, lo ≤ lo' ∧ g < lo' ∧ lo' ≤ mid ∧ mid ≤ hi ∧ OwnDts w lo' (some ⟨g, 0, none⟩) l1 i lo ∧ Six w g ((i + l1.length) * 6) x0 x1 x2 x3 x4 x5 ∧ OwnDt w d lo' mid (.agg #[x0, x1, x2, x3, x4, x5]) ∧ OwnDts w hi (some ⟨g, 0, none⟩) l2 (i + l1.length + 1) mid
  | [], i, lo, h => by
    simp only [List.nil_append, OwnDts] at h
    obtain ⟨mid, g', x0, x1, x2, x3, x4, x5, ha, h0, h1, h2, hs, hd, hr⟩ := h
    injection ha with ha
    injection ha with ha
    subst ha
    exact ⟨lo, mid, x0, x1, x2, x3, x4, x5, Nat.le_refl _, h0, h1, h2, by simp only [OwnDts], hs, hd, hr⟩
  | e :: r, i, lo, h => by
    simp only [List.cons_append, OwnDts] at h
    obtain ⟨m0, g', y0, y1, y2, y3, y4, y5, ha, h0, h1, h2, hs, hd, hr⟩ := h
    injection ha with ha
    injection ha with ha
    subst ha
    obtain ⟨lo', mid, x0, x1, x2, x3, x4, x5, k1, k2, k3, k4, k5, k6, k7, k8⟩ := own_split r (i + 1) m0 hr
    have e1 : i + 1 + r.length = i + (e :: r).length := by rw [List.length_cons]; omega
    rw [e1] at k6 k8
    refine ⟨lo', mid, x0, x1, x2, x3, x4, x5, by omega, k2, k3, k4, ?_, k6, k7, k8⟩
    simp only [OwnDts]
    exact ⟨m0, g, y0, y1, y2, y3, y4, y5, rfl, h0, h1, k1, hs, hd, k5⟩
theorem own_join {w : World} {g : Nat} {d : Dt} {l2 : List Dt} {hi lo' mid : Nat} {x0 x1 x2 x3 x4 x5 : Value} : ∀ (l1 : List Dt) (i lo : Nat), OwnDts w lo' (some ⟨g, 0, none⟩) l1 i lo → lo ≤ lo' → g < lo → lo' ≤ mid → mid ≤ hi →
    Six w g ((i + l1.length) * 6) x0 x1 x2 x3 x4 x5 → OwnDt w d lo' mid (.agg #[x0, x1, x2, x3, x4, x5]) → OwnDts w hi (some ⟨g, 0, none⟩) l2 (i + l1.length + 1) mid → OwnDts w hi (some ⟨g, 0, none⟩) (l1 ++ d :: l2) i lo
  | [], i, lo, _, k1, k2, k3, k4, k6, k7, k8 => by
    simp only [List.nil_append, OwnDts]
    exact ⟨mid, g, x0, x1, x2, x3, x4, x5, rfl, k2, by omega, k4, k6, k7.wide d k1 (Nat.le_refl _), k8⟩
  | e :: r, i, lo, h, k1, k2, k3, k4, k6, k7, k8 => by
    simp only [List.cons_append, OwnDts] at h ⊢
    obtain ⟨m0, g', y0, y1, y2, y3, y4, y5, ha, h0, h1, h2, hs, hd, hr⟩ := h
    injection ha with ha
    injection ha with ha
    subst ha
    have e1 : i + (e :: r).length = i + 1 + r.length := by rw [List.length_cons]; omega
    rw [e1] at k6 k8
    exact ⟨m0, g, y0, y1, y2, y3, y4, y5, rfl, h0, h1, by omega, hs, hd, own_join r (i + 1) m0 hr h2 (by omega) k3 k4 k6 k7 k8⟩
theorem own_keepG {w w' : World} {g : Nat} : ∀ (l : List Dt) (i lo hi : Nat), (∀ o, i * 6 ≤ o → o < (i + l.length) * 6 → w'.cell? ⟨g, o, none⟩ = w.cell? ⟨g, o, none⟩) → Eqv w w' (Rg lo hi) → OwnDts w hi (some ⟨g, 0, none⟩) l i lo → OwnDts w' hi (some ⟨g, 0, none⟩) l i lo
  | [], _, _, _, _, _, _ => by simp only [OwnDts]
  | d :: r, i, lo, hi, hc, hk, h => by
    simp only [OwnDts] at h ⊢
    obtain ⟨mid, g', x0, x1, x2, x3, x4, x5, ha, h0, h1, h2, ⟨s0, s1, s2, s3, s4, s5⟩, hd, hr⟩ := h
    injection ha with ha
    injection ha with ha
    subst ha
    rw [List.length_cons] at hc
    refine ⟨mid, g, x0, x1, x2, x3, x4, x5, rfl, h0, h1, h2, ⟨?_, ?_, ?_, ?_, ?_, ?_⟩, OwnDt.keep d lo mid _ (hk.mono fun b hb => ⟨hb.1, by have := hb.2; omega⟩) hd, own_keepG r (i + 1) mid hi (fun o ho1 ho2 => hc o (by omega) (by omega)) (hk.mono fun b hb => ⟨by have := hb.1; omega, hb.2⟩) hr⟩
    · exact (hc _ (by omega) (by omega)).trans s0
    · exact (hc _ (by omega) (by omega)).trans s1
    · exact (hc _ (by omega) (by omega)).trans s2
    · exact (hc _ (by omega) (by omega)).trans s3
    · exact (hc _ (by omega) (by omega)).trans s4
    · exact (hc _ (by omega) (by omega)).trans s5
def UnR (w : World) (l : List Dt) (a : Option Addr) (cap lo hi : Nat) (e : Ending) (w' : World) : Prop :=
  e = .returned (.tuple #[]) ∧ Fr (Rg lo hi) w w' ∧ OwnSl w' lo hi a l.length cap ∧ OwnDts w' hi a (plainL l) 0 (nx a)
def UnAt (w : World) (l : List Dt) (g lo hi : Nat) (i : Value) (wr : World) : Prop :=
  ∃ j : Nat, j ≤ l.length ∧ i = .int .i64 (j : Int) ∧ Fr (Rg lo hi) w wr ∧ (∀ o, wr.frozen? ⟨g, o, none⟩ = false) ∧ OwnDts wr hi (some ⟨g, 0, none⟩) (plainL (l.take j) ++ l.drop j) 0 (g + 1)
theorem own_open {w : World} {d : Dt} {lo hi : Nat} {v : Value} (h : OwnDt w d lo hi v) : (Lit.int .i64 d.K).wf = true ∧ (Lit.int .i64 d.N).wf = true ∧ d.S.size ≤ maxLen ∧
    ∃ am cm al cl at_ ct h1 h2, v = .agg #[.int .i64 d.K, .int .i64 d.N, .string d.S, .slice am d.M.length cm, .slice al d.L.length cl, .slice at_ d.T.length ct] ∧ lo ≤ h1 ∧ h1 ≤ h2 ∧ h2 ≤ hi ∧
      OwnSl w h1 h2 al d.L.length cl ∧ OwnDts w h2 al d.L 0 (nx al) ∧ OwnSl w h2 hi at_ d.T.length ct ∧ OwnDts w hi at_ d.T 0 (nx at_) := by
  obtain ⟨k, n, s, m, l, t⟩ := d
  simp only [OwnDt] at h
  obtain ⟨q1, q2, q3, am, cm, al, cl, at_, ct, h1, h2, hv, o1, o2, o3, _, r1, r2, r3, r4⟩ := h
  exact ⟨q1, q2, q3, am, cm, al, cl, at_, ct, h1, h2, hv, o1, o2, o3, r1, r2, r3, r4⟩
/-- A row of its own and what lies in it, where its region has not turned. -/
theorem row_keep {w w' : World} {lo hi : Nat} {a : Option Addr} {cap : Nat} {l : List Dt} (hs : OwnSl w lo hi a l.length cap) (hd : OwnDts w hi a l 0 (nx a)) (hk : Eqv w w' (Rg lo hi)) : OwnSl w' lo hi a l.length cap ∧ OwnDts w' hi a l 0 (nx a) := by
  refine ⟨hs.keep hk, ?_⟩
  rcases hs with ⟨rfl, hz, _⟩ | ⟨g, rfl, g1, g2, _⟩
  · have hl : l = [] := List.eq_nil_of_length_eq_zero hz
    subst hl
    simp only [OwnDts]
  · refine OwnDts.keep l 0 _ hi _ (hk.mono fun b hb => ?_) hd
    rcases hb with hb | ⟨hb1, hb2⟩
    · injection hb with hb; injection hb with hb; subst hb; exact ⟨g1, g2⟩
    · simp only [nx] at hb1; exact ⟨by omega, hb2⟩
/-- One element's marks struck, and those of all that is in it. -/
theorem un_end {wr W1 w2 w3 : World} {g j hi lo' mid h1 h2 : Nat} {d : Dt} {p q : List Dt} {am al at_ : Option Addr} {cm cl ct : Nat} (hg : g < wr.heap.size) (hhi : hi ≤ wr.heap.size) (hgl : g < lo') (hpl : p.length = j)
    (hW : W1 = wr.setCell ⟨g, j * 6 + 3, none⟩ (.slice none 0 0)) (f2 : Fr (Rg h1 h2) W1 w2) (f3 : Fr (Rg h2 mid) w2 w3) (o1 : lo' ≤ h1) (o2 : h1 ≤ h2) (o3 : h2 ≤ mid) (o4 : mid ≤ hi) (o5 : g + 1 ≤ lo')
    (kp : OwnDts wr lo' (some ⟨g, 0, none⟩) p 0 (g + 1)) (ks : Six wr g (j * 6) (.int .i64 d.K) (.int .i64 d.N) (.string d.S) (.slice am d.M.length cm) (.slice al d.L.length cl) (.slice at_ d.T.length ct))
    (kq : OwnDts wr hi (some ⟨g, 0, none⟩) q (j + 1) mid) (w1 : (Lit.int .i64 d.K).wf = true) (wn : (Lit.int .i64 d.N).wf = true) (ws : d.S.size ≤ maxLen)
    (sL : OwnSl w2 h1 h2 al d.L.length cl) (dL : OwnDts w2 h2 al (plainL d.L) 0 (nx al)) (sT : OwnSl w3 h2 mid at_ d.T.length ct) (dT : OwnDts w3 mid at_ (plainL d.T) 0 (nx at_)) :
    OwnDts w3 hi (some ⟨g, 0, none⟩) (p ++ plainD d :: q) 0 (g + 1) ∧ (∀ o, w3.frozen? ⟨g, o, none⟩ = wr.frozen? ⟨g, o, none⟩) := by
  have fW : Fr (fun i => i = g) wr W1 := by rw [hW]; exact (Fr.refl (fun i => i = g) wr).setCell (p := ⟨g, j * 6 + 3, none⟩) (.inl rfl) _
  have hs1 : W1.heap.size = wr.heap.size := by rw [hW]; simp [World.setCell]
  have s2 := f2.size
  have zW : ∀ o, W1.frozen? ⟨g, o, none⟩ = wr.frozen? ⟨g, o, none⟩ := fun o => by rw [hW, World.frozen?_setCell]
  have ng1 : ¬ Rg h1 h2 g := fun h => by have := h.1; omega
  have ng2 : ¬ Rg h2 mid g := fun h => by have := h.1; omega
  have cg : ∀ o, w3.cell? ⟨g, o, none⟩ = W1.cell? ⟨g, o, none⟩ := fun o => (f3.cell (p := ⟨g, o, none⟩) (by show g < w2.heap.size; omega) ng2).trans (f2.cell (p := ⟨g, o, none⟩) (by show g < W1.heap.size; omega) ng1)
  have co : ∀ o, o ≠ j * 6 + 3 → w3.cell? ⟨g, o, none⟩ = wr.cell? ⟨g, o, none⟩ := fun o ho => (cg o).trans (by rw [hW]; exact set_ne _ _ _ _ _ _ (.inr ho))
  have zg : ∀ o, w3.frozen? ⟨g, o, none⟩ = wr.frozen? ⟨g, o, none⟩ := fun o => ((f3.frozen (p := ⟨g, o, none⟩) (by show g < w2.heap.size; omega) ng2).trans (f2.frozen (p := ⟨g, o, none⟩) (by show g < W1.heap.size; omega) ng1)).trans (zW o)
  have far : Eqv wr w3 (fun b => b < wr.heap.size ∧ b ≠ g ∧ ¬ Rg h1 h2 b ∧ ¬ Rg h2 mid b) := fun b hb o =>
    ⟨((f3.cell (p := ⟨b, o, none⟩) (by show b < w2.heap.size; have := hb.1; omega) hb.2.2.2).trans (f2.cell (p := ⟨b, o, none⟩) (by show b < W1.heap.size; have := hb.1; omega) hb.2.2.1)).trans (fW.cell (p := ⟨b, o, none⟩) hb.1 hb.2.1),
     ((f3.frozen (p := ⟨b, o, none⟩) (by show b < w2.heap.size; have := hb.1; omega) hb.2.2.2).trans (f2.frozen (p := ⟨b, o, none⟩) (by show b < W1.heap.size; have := hb.1; omega) hb.2.2.1)).trans (fW.frozen (p := ⟨b, o, none⟩) hb.1 hb.2.1)⟩
  have e23 : Eqv w2 w3 (Rg h1 h2) := (Eqv.of_fr f3).mono fun b hb => ⟨by have := hb.2; omega, fun h => by have := hb.2; have := h.1; omega⟩
  obtain ⟨sL3, dL3⟩ := row_keep (l := plainL d.L) (by rw [plainL_len]; exact sL) dL e23
  obtain ⟨c0, c1, c2, c3, c4, c5⟩ := ks
  have hp0 : (0 + p.length) * 6 = j * 6 := by rw [hpl]; omega
  refine ⟨own_join (lo' := lo') (mid := mid) (x0 := .int .i64 d.K) (x1 := .int .i64 d.N) (x2 := .string d.S) (x3 := .slice none 0 0) (x4 := .slice al d.L.length cl) (x5 := .slice at_ d.T.length ct) p 0 (g + 1) ?_ o5 (by omega) (by omega) o4 ?_ ?_ ?_, zg⟩
  · exact own_keepG p 0 (g + 1) lo' (fun o _ ho => co o (by rw [Nat.zero_add, hpl] at ho; omega)) (far.mono fun b hb => ⟨by have := hb.2; omega, by have := hb.1; omega, fun h => by have := h.1; have := hb.2; omega, fun h => by have := h.1; have := hb.2; omega⟩) kp
  · rw [hp0]
    exact ⟨(co _ (by omega)).trans c0, (co _ (by omega)).trans c1, (co _ (by omega)).trans c2, (cg _).trans (by rw [hW]; exact set_eq _ _ _ _ _ c3), (co _ (by omega)).trans c4, (co _ (by omega)).trans c5⟩
  · rw [plainD_mk]
    simp only [OwnDt]
    refine ⟨w1, wn, ws, none, 0, al, cl, at_, ct, h1, h2, by rw [plainL_len, plainL_len]; rfl, o1, o2, o3, ⟨⟨rfl, Nat.le_refl _, by simp [maxLen], by simp, fun _ => rfl, by simp, fun k hk => absurd hk (Nat.not_lt_zero _)⟩, fun ad h => by cases h⟩, sL3, dL3, by rw [plainL_len]; exact sT, dT⟩
  · rw [show 0 + p.length + 1 = j + 1 by omega]
    exact own_keepG q (j + 1) mid hi (fun o ho _ => co o (by omega)) (far.mono fun b hb => ⟨by have := hb.2; omega, by have := hb.1; omega, fun h => by have := h.2; have := hb.1; omega, fun h => by have := h.2; have := hb.1; omega⟩) kq
end Go.Proofs.Ytapnighankepjaa.Da
end
section
namespace Go.Proofs.Ytapnighankepjaa.Da
open Go.ChangeShapes Go.WideShapes Go.ChangeAt Go.RowKit
set_option maxRecDepth 100000

/-- Cells in a row that read as data. -/
def RowIs (w : World) (Q : Nat → Prop) (l : List Dt) (xs : List Value) : Prop :=
  ∀ i x, l[i]? = some x → ∃ x0 x1 x2 x3 x4 x5, xs[i * 6]? = some x0 ∧ xs[i * 6 + 1]? = some x1 ∧ xs[i * 6 + 2]? = some x2 ∧ xs[i * 6 + 3]? = some x3 ∧ xs[i * 6 + 4]? = some x4 ∧ xs[i * 6 + 5]? = some x5 ∧ IsDt w Q x (.agg #[x0, x1, x2, x3, x4, x5])
theorem RowIs.keep {w w' : World} {Q Q' : Nat → Prop} {l : List Dt} {xs : List Value} (h : RowIs w Q l xs) (hQ : ∀ b, Q b → Q' b) (hk : ∀ b o, Q b → w'.cell? ⟨b, o, none⟩ = w.cell? ⟨b, o, none⟩) : RowIs w' Q' l xs := fun i x hx => by
  obtain ⟨x0, x1, x2, x3, x4, x5, h0, h1, h2, h3, h4, h5, hd⟩ := h i x hx
  exact ⟨x0, x1, x2, x3, x4, x5, h0, h1, h2, h3, h4, h5, IsDt.keep hQ hk _ _ hd⟩
theorem RowIs.nil (w : World) (Q : Nat → Prop) : RowIs w Q [] [] := fun i x hx => by simp at hx
theorem RowIs.snoc {w : World} {Q : Nat → Prop} {l : List Dt} {xs : List Value} {d : Dt} {y0 y1 y2 y3 y4 y5 : Value} (h : RowIs w Q l xs) (hl : xs.length = l.length * 6) (hd : IsDt w Q d (.agg #[y0, y1, y2, y3, y4, y5])) :
    RowIs w Q (l ++ [d]) (xs ++ [y0, y1, y2, y3, y4, y5]) := fun i x hx => by
  by_cases hi : i < l.length
  · rw [List.getElem?_append_left hi] at hx
    obtain ⟨x0, x1, x2, x3, x4, x5, h0, h1, h2, h3, h4, h5, hd⟩ := h i x hx
    refine ⟨x0, x1, x2, x3, x4, x5, ?_, ?_, ?_, ?_, ?_, ?_, hd⟩ <;> rw [List.getElem?_append_left (by omega)] <;> assumption
  · have hi2 : i = l.length := by
      have := (List.getElem?_eq_some_iff.1 hx).1
      simp at this
      omega
    subst hi2
    rw [List.getElem?_append_right (Nat.le_refl _)] at hx
    simp at hx
    subst hx
    refine ⟨y0, y1, y2, y3, y4, y5, ?_, ?_, ?_, ?_, ?_, ?_, hd⟩ <;> (rw [List.getElem?_append_right (by omega), hl]; simp)
/-- A row that a call owns, read as data. -/
theorem RowIs.dts {w : World} {Q : Nat → Prop} {base g cap : Nat} {l : List Dt} {xs : List Value} (h : RowIs w Q l xs) (ho : w.ownsRow base 33 6 (.slice (some ⟨g, 0, none⟩) l.length cap) l.length xs) (hg : Q g) : IsDts w Q (some ⟨g, 0, none⟩) 0 l :=
  IsDts.of_at fun k d hd => by
    have hk : k < l.length := (List.getElem?_eq_some_iff.1 hd).1
    obtain ⟨x0, x1, x2, x3, x4, x5, h0, h1, h2, h3, h4, h5, hi⟩ := h k d hd
    refine ⟨g, 0, x0, x1, x2, x3, x4, x5, rfl, hg, ?_, hi⟩
    rw [Nat.zero_add, Nat.zero_add]
    exact ⟨(ho.cellAt _ (by omega)).trans h0, (ho.cellAt _ (by omega)).trans h1, (ho.cellAt _ (by omega)).trans h2, (ho.cellAt _ (by omega)).trans h3, (ho.cellAt _ (by omega)).trans h4, (ho.cellAt _ (by omega)).trans h5⟩
/-- What is made of a datum: with its marks, or without. -/
def madeD (mk : Bool) (d : Dt) : Dt := if mk = true then d else plainD d
theorem plainL_map : ∀ l : List Dt, plainL l = l.map plainD
  | [] => by simp only [plainL, List.map_nil]
  | d :: r => by simp only [plainL, List.map_cons]; rw [plainL_map r]
theorem madeD_eq (mk : Bool) (d : Dt) : madeD mk d = .mk d.K d.N d.S (if mk = true then d.M else []) (d.L.map (madeD mk)) (d.T.map (madeD mk)) := by
  cases mk
  · have h : madeD false = plainD := by funext x; rfl
    rw [h, plainD_mk, plainL_map, plainL_map]; rfl
  · have h : madeD true = id := by funext x; rfl
    rw [h, List.map_id, List.map_id]; cases d; rfl
def MadeR (mk : Bool) (d : Dt) (w : World) (e : Ending) (w' : World) : Prop :=
  ∃ v', e = .returned v' ∧ Below w.heap.size w w' ∧ IsDt w' (Rg w.heap.size w'.heap.size) (madeD mk d) v'
def MadeIs (mk : Bool) (d : Dt) : Prop := ∀ (v : Value) (B : Nat) (w : World), IsDt w (Lo B) d v → B ≤ w.heap.size → Calls Try.prog 51 #[v, .bool mk] w (MadeR mk d w)
/-- A builtin append whose run is known. -/
theorem wpList_append_run {P : Program} {w w' : World} {ops : Array Oper} {rest : List Oper} {o : Oper} {a : Act} {Q : Exit → Act → World → Prop} (hgd : o.guard = none) (s x : Operand) (t : TypeId)
    (ho : o.op = .call { callee := .builtin .append, args := #[s, x], argTypes := #[t, t] }) (v u r : Value) (hs : a.eval s = v) (hx : a.eval x = u) (hrun : (Builtin.append_ #[t, t] o.type #[v, u]).run P w = .ok r w')
    (h : wpList P ops Q rest (a.put o.dst r) w') : wpList P ops Q (o :: rest) a w := by
  refine wpList_plain hgd fun K hK => ?_
  unfold Oper.wp
  simp [execOp, ho, resolve, invoke, builtin, hs, hx, hrun, Result.andThen]
  exact hK _ _ h
theorem append_ints {w : World} {Q : Nat → Prop} {am : Option Addr} {cm : Nat} {m : List Int} (ty : TypeId) (h : IntRow w Q am m.length cm m) :
    ∃ a' c' w', (Builtin.append_ #[30, 30] ty #[.slice none 0 0, .slice am m.length cm]).run Try.prog w = .ok (.slice a' m.length c') w' ∧ Below w.heap.size w w' ∧ IntRow w' (Rg w.heap.size w'.heap.size) a' m.length c' m := by
  obtain ⟨i0, hi, hz0, hz1, hz2⟩ := info_parts int_info
  obtain ⟨_, hlc, hcm, hb, hnil, hz, hc⟩ := h
  cases am with
  | none =>
    have h0 := hnil rfl
    have hm0 : m.length = 0 := by omega
    subst h0
    rw [hm0]
    obtain rfl := List.eq_nil_of_length_eq_zero hm0
    exact ⟨none, 0, w, run_append_owned_none (P := Try.prog) (w := w) w.heap.size 30 ty 3 i0 1 Try.underlying30 hi _ 0 [] (World.ownsRow_nil _ _ _ _), Below.refl _ _, ⟨rfl, Nat.le_refl _, by simp [maxLen], by omega, fun _ => rfl, by simp, fun k hk => by omega⟩⟩
  | some ad =>
    have hcell : ∀ j u, (m.map (Value.int .i64))[j]? = some u → w.cell? (ad.add j) = some u := fun j u hu => by
      obtain ⟨hj, hu'⟩ := List.getElem?_eq_some_iff.1 hu
      simp only [List.length_map] at hj
      obtain ⟨b, off, he, _, hcl⟩ := hc j hj
      injection he with he
      subst he
      rw [add_plain, hcl, ← hu]
      simp [hj]
    obtain ⟨v', w', hr, ho, hg, hiff⟩ := run_append_own (P := Try.prog) w w.heap.size 30 ty 3 i0 _ 1 8 Try.underlying30 hi hz0 hz1 hz2 rfl (by omega) (.slice none 0 0) 0 [] (World.ownsRow_nil _ _ _ _) ad m.length cm (m.map (Value.int .i64)) (by simp) hcell (by simp [Value.oneCell']) (by omega) (by omega) (Nat.le_refl _)
    have hbel : Below w.heap.size w w' := ⟨hg.os, hg.tape, hg.output, hg.size, fun k hk => hg.block k hk (fun e => by cases e)⟩
    rw [Nat.zero_add] at ho
    by_cases hv : v' = .slice none 0 0
    · have hm0 := (hiff.1 hv).2
      obtain rfl := List.eq_nil_of_length_eq_zero hm0
      subst hv
      exact ⟨none, 0, w', hr, hbel, ⟨rfl, Nat.le_refl _, by simp [maxLen], by simp, fun _ => rfl, by simp, fun k hk => by simp at hk⟩⟩
    · obtain ⟨g, cap, rfl, hbg, hlt, hnc, hcm2⟩ := own_form ho hv
      refine ⟨_, cap, w', hr, hbel, ⟨rfl, hnc, hcm2, hb, (fun h => by cases h), hz, fun k hk => ⟨g, 0, rfl, ⟨hbg, hlt⟩, ?_⟩⟩⟩
      rw [Nat.zero_add, ho.cellAt k (by omega)]
      simp [hk]
/-- So many have been made and put behind each other; o: the datum that is made, f: its field. -/
def RowAt (mk : Bool) (W2 : World) (o f : Nat) (cs : Array Value) (l : List Dt) (wr : World) : Prop :=
  ∃ pv pc xs, Fr (fun i => i = o) W2 wr ∧ Blk wr o 33 (cs.setIfInBounds f (.slice pv l.length pc)) ∧ wr.ownsRow W2.heap.size 33 6 (.slice pv l.length pc) l.length xs ∧ RowIs wr (fun b => W2.heap.size ≤ b ∧ b < wr.heap.size ∧ ob pv ≠ some b) (l.map (madeD mk)) xs
def MadeAt (mk : Bool) (W2 : World) (o f : Nat) (cs : Array Value) (l : List Dt) (i : Value) (wr : World) : Prop := ∃ j : Nat, j ≤ l.length ∧ i = .int .i64 (j : Int) ∧ RowAt mk W2 o f cs (l.take j) wr
/-- One more. wr: ahead; w2: behind the call; X: behind the new cell; w4: behind the append. -/
theorem made_end {mk : Bool} {W2 wr w2 X w4 : World} {o f n g cap : Nat} {cs : Array Value} {l : List Dt} {x : Dt} {pv : Option Addr} {pc : Nat} {xs : List Value} {y0 y1 y2 y3 y4 y5 : Value}
    (hn : l.length = n) (hf2 : Fr (fun i => i = o) W2 wr) (hblk : Blk wr o 33 (cs.setIfInBounds f (.slice pv n pc))) (hoW : o < W2.heap.size) (hown : wr.ownsRow W2.heap.size 33 6 (.slice pv n pc) n xs) (hrow : RowIs wr (fun b => W2.heap.size ≤ b ∧ b < wr.heap.size ∧ ob pv ≠ some b) (l.map (madeD mk)) xs)
    (h2 : Below wr.heap.size wr w2) (hx : IsDt w2 (Rg wr.heap.size w2.heap.size) (madeD mk x) (.agg #[y0, y1, y2, y3, y4, y5])) (hX : Below w2.heap.size w2 X)
    (ho4 : w4.ownsRow W2.heap.size 33 6 (.slice (some ⟨g, 0, none⟩) (n + 1) cap) (n + 1) (xs ++ [y0, y1, y2, y3, y4, y5])) (hg : X.grownBy w4 (ob pv)) (hat : ob pv = some g ∨ g = X.heap.size) :
    RowAt mk W2 o f cs (l ++ [x]) (w4.setCell ⟨o, f, none⟩ (.slice (some ⟨g, 0, none⟩) (n + 1) cap)) := by
  have s1 := hf2.size
  have s2 := h2.size
  have s3 := hX.size
  have s4 := hg.size
  have hpv : ∀ i, ob pv = some i → W2.heap.size ≤ i ∧ i < wr.heap.size := fun i hi => hown.lt i (by rw [ob_slice]; exact hi)
  have hgo : g ≠ o := by
    rcases hat with h | h
    · have := hpv g h; omega
    · omega
  have fX : Fr (fun i => i = o) W2 X := hf2.trans ((Fr.of_bel h2 _).trans (Fr.of_bel hX _))
  have f4 : Fr (fun i => i = o) W2 w4 := fX.trans' (T := fun i => ob pv = some i) ⟨hg.os, hg.tape, hg.output, hg.size, fun i hi hs => hg.block i hi (fun e => hs e.symm)⟩ (fun i hi hlt => by have := (hpv i hi).1; omega)
  have b4 : Blk w4 o 33 (cs.setIfInBounds f (.slice pv n pc)) := (hg.block o (by omega) (fun e => by have := (hpv o e.symm).1; omega)).trans ((hX.block o (by omega)).trans ((h2.block o (by omega)).trans hblk))
  have hlen : (l ++ [x]).length = n + 1 := by simp [hn]
  refine ⟨some ⟨g, 0, none⟩, cap, xs ++ [y0, y1, y2, y3, y4, y5], f4.setCell (.inl rfl) _, ?_, ?_, ?_⟩
  · rw [hlen]
    refine (blk_set b4 f _).trans ?_
    rw [Array.setIfInBounds_setIfInBounds]
  · rw [hlen]
    exact ownsRow_setCell_other ho4 (by simpa [Value.ownBlock] using hgo) _
  · rw [List.map_append]
    have hsz : (w4.setCell ⟨o, f, none⟩ (.slice (some ⟨g, 0, none⟩) (n + 1) cap)).heap.size = w4.heap.size := by simp [World.setCell]
    have q1 : ∀ b, (W2.heap.size ≤ b ∧ b < wr.heap.size ∧ ob pv ≠ some b) → ob (some (⟨g, 0, none⟩ : Addr)) ≠ some b := fun b hb e => by
      have e2 : g = b := by simpa [ob] using e
      subst e2
      rcases hat with h | h
      · exact hb.2.2 h
      · have := hb.2.1; omega
    have q2 : ∀ b p, (W2.heap.size ≤ b ∧ b < wr.heap.size ∧ ob pv ≠ some b) → (w4.setCell ⟨o, f, none⟩ (.slice (some ⟨g, 0, none⟩) (n + 1) cap)).cell? ⟨b, p, none⟩ = wr.cell? ⟨b, p, none⟩ := fun b p hb => by
      have hb1 := hb.1
      have hb2 := hb.2.1
      rw [World.cell?_setCell_other _ _ _ _ (fun e => by cases e; omega)]
      exact (World.cell?_of_block (a := ⟨b, p, none⟩) (hg.block b (by omega) (fun e => hb.2.2 e.symm))).trans ((hX.cell (p := ⟨b, p, none⟩) (by show b < _; omega)).trans (h2.cell (p := ⟨b, p, none⟩) (by show b < _; omega)))
    have q3 : ∀ b, Rg wr.heap.size w2.heap.size b → ob (some (⟨g, 0, none⟩ : Addr)) ≠ some b := fun b hb e => by
      have e2 : g = b := by simpa [ob] using e
      subst e2
      rcases hat with h | h
      · have := (hpv g h).2; have := hb.1; omega
      · have := hb.2; omega
    have q4 : ∀ b p, Rg wr.heap.size w2.heap.size b → (w4.setCell ⟨o, f, none⟩ (.slice (some ⟨g, 0, none⟩) (n + 1) cap)).cell? ⟨b, p, none⟩ = w2.cell? ⟨b, p, none⟩ := fun b p hb => by
      have hb1 := hb.1
      have hb2 := hb.2
      rw [World.cell?_setCell_other _ _ _ _ (fun e => by cases e; omega)]
      exact (World.cell?_of_block (a := ⟨b, p, none⟩) (hg.block b (by omega) (fun e => by have := (hpv b e.symm).2; omega))).trans (hX.cell (p := ⟨b, p, none⟩) (by show b < _; omega))
    exact RowIs.snoc (RowIs.keep hrow (fun b hb => ⟨hb.1, by rw [hsz]; have := hb.2.1; omega, q1 b hb⟩) q2) (by rw [hown.1, List.length_map, hn]) (IsDt.keep (w := w2) (fun b hb => ⟨by have := hb.1; omega, by rw [hsz]; have := hb.2; omega, q3 b hb⟩) q4 _ _ hx)
/-- All have been made. -/
theorem RowAt.dts {mk : Bool} {W2 wr : World} {o f : Nat} {cs : Array Value} {l : List Dt} (h : RowAt mk W2 o f cs l wr) (hl : l.length * 104 ≤ 140737488351232) :
    ∃ a c, Blk wr o 33 (cs.setIfInBounds f (.slice a l.length c)) ∧ Fr (fun i => i = o) W2 wr ∧ IsSl a l.length c ∧ IsDts wr (Rg W2.heap.size wr.heap.size) a 0 (l.map (madeD mk)) := by
  obtain ⟨pv, pc, xs, hf, hb, ho, hr⟩ := h
  rcases ho.2 with ⟨hv, h0⟩ | ⟨g, cap, cur, hv, hbg, hc, hnc, hcm, _⟩
  · simp only [Value.slice.injEq] at hv
    obtain ⟨rfl, _, rfl⟩ := hv
    obtain rfl := List.eq_nil_of_length_eq_zero h0
    exact ⟨none, 0, hb, hf, ⟨Nat.le_refl _, by simp [maxLen], by simp, fun _ => rfl⟩, by simp only [List.map_nil, IsDts]⟩
  · simp only [Value.slice.injEq] at hv
    obtain ⟨rfl, _, rfl⟩ := hv
    have hlt : g < wr.heap.size := (Array.getElem?_eq_some_iff.1 hc).1
    have hlm : (l.map (madeD mk)).length = l.length := by simp
    refine ⟨_, pc, hb, hf, ⟨hnc, hcm, hl, fun h => by cases h⟩, ?_⟩
    exact RowIs.dts (hr.keep (Q' := Rg W2.heap.size wr.heap.size) (fun b hb => ⟨hb.1, hb.2.1⟩) (fun _ _ _ => rfl)) (by rw [hlm]; exact ho) ⟨hbg, hlt⟩
end Go.Proofs.Ytapnighankepjaa.Da
end
section
namespace Go.Proofs.Ytapnighankepjaa.Da
open Go.ChangeShapes Go.WideShapes Go.ChangeAt Go.RowKit
set_option maxRecDepth 100000

section
variable {H : Type} {enc : TypeId × Value → H} {w : World} {base : Nat} {spare : Nat → Bool} {held : Bool}

theorem in_heap {w : World} {a : Addr} {v : Value} (h : w.cell? a = some v) : a.block < w.heap.size := by
  rcases Nat.lt_or_ge a.block w.heap.size with h' | h'
  · exact h'
  · simp [World.cell?, Array.getElem?_eq_none h'] at h
theorem weights_of {P : Program} {e : TypeId} {p : Nat → Bool} : ∀ {l : List (DataW H)}, (DataW.weightsAll P e l).all p = true → ∀ d ∈ l, (d.weights P e).all p = true
  | x :: r, h, d, hd => by
    simp only [DataW.weightsAll, List.all_append, Bool.and_eq_true] at h
    rcases List.mem_cons.1 hd with rfl | hd
    · exact h.1
    · exact weights_of h.2 d hd
theorem bytes_int : Try.prog.bytesOf 3 = 8 := by kernel_rfl
theorem bytes_dat : Try.prog.bytesOf 33 = 104 := by kernel_rfl
theorem cells_dat : Try.prog.cellsOf 33 = 6 := by kernel_rfl
theorem cells_int : Try.prog.cellsOf 3 = 1 := by kernel_rfl
theorem cells_int64 : Try.prog.cellsOf 2 = 1 := by kernel_rfl
theorem cells_string : Try.prog.cellsOf 9 = 1 := by kernel_rfl
theorem cells_ints : Try.prog.cellsOf 30 = 1 := by kernel_rfl
theorem cells_data : Try.prog.cellsOf 31 = 1 := by kernel_rfl

theorem open_marks {n : Nat} {cs : List Value} {x : DataW H × List MemPlace} (h : DataW.trod enc Try.prog w base spare held n 30 cs = some x) (hw : (x.1.weights Try.prog 30).all (· ≤ reachBytes) = true) :
    ∃ a cap m, cs = [.slice a m.length cap] ∧ IntRow w (Lo w.heap.size) a m.length cap m := by
  rcases open_ints Try.underlying30 Try.underlying3 cells_int h with ⟨rfl, _⟩ | ⟨a, len, cap, zs, rfl, _, hl, hm, hz, rfl, hcell, hwz⟩
  · exact ⟨none, 0, [], rfl, rfl, Nat.le_refl _, by simp [maxLen], by simp, fun _ => rfl, by simp, fun k hk => absurd hk (Nat.not_lt_zero _)⟩
  · have hlen : len ≤ zs.length := by rw [hz]; split <;> omega
    have hb : zs.length * 8 ≤ 140737488351232 := by
      simp only [DataW.weights, Try.underlying30, List.all_cons, Bool.and_eq_true, decide_eq_true_eq, bytes_int] at hw
      have h1 := hw.1
      simp only [lits, List.length_map, List.length_take, List.length_drop, reachBytes] at h1
      omega
    have ht : (zs.take len).length = len := by rw [List.length_take]; omega
    refine ⟨some a, cap, zs.take len, by rw [ht], rfl, by rw [ht]; exact hl, hm, by rw [ht]; omega, (fun h => by cases h), fun z hz => hwz z (List.mem_of_mem_take hz), fun k hk => ?_⟩
    rw [ht] at hk
    have hc := hcell k (by omega)
    obtain ⟨b, off, sp⟩ := a
    have h0 := hcell 0 (by omega)
    have hsp : sp = none := by simpa [Addr.add] using World.cell?_spot h0
    subst hsp
    rw [add_plain] at hc
    exact ⟨b, off, rfl, in_heap hc, by rw [hc]; simp [List.getD, hk]⟩

instance : Inhabited Dt := ⟨.mk 0 0 ⟨#[]⟩ [] [] []⟩
def OpenAt (enc : TypeId × Value → H) (w : World) (base : Nat) (spare : Nat → Bool) (held : Bool) (n : Nat) : Prop :=
  ∀ (cs : List Value) (x : DataW H × List MemPlace), DataW.trod enc Try.prog w base spare held n 33 cs = some x → (x.1.weights Try.prog 33).all (· ≤ reachBytes) = true →
    ∃ d x0 x1 x2 x3 x4 x5, cs = [x0, x1, x2, x3, x4, x5] ∧ IsDt w (Lo w.heap.size) d (.agg #[x0, x1, x2, x3, x4, x5])
theorem open_data {n : Nat} (ih : ∀ m, m < n → OpenAt enc w base spare held m) {cs : List Value} {x : DataW H × List MemPlace} (h : DataW.trod enc Try.prog w base spare held n 31 cs = some x) (hw : (x.1.weights Try.prog 31).all (· ≤ reachBytes) = true) :
    ∃ a cap l, cs = [.slice a l.length cap] ∧ IsSl a l.length cap ∧ IsDts w (Lo w.heap.size) a 0 l := by
  rcases DataW.trod_slice Try.underlying31 h with ⟨rfl, _⟩ | ⟨a, len, cap, elems, rest, m, rfl, rfl, rfl, _, hl, hm, hlen, hel, _, _⟩
  · exact ⟨none, 0, [], rfl, ⟨Nat.le_refl _, by simp [maxLen], by simp, fun _ => rfl⟩, by simp only [IsDts]⟩
  · simp only [DataW.weights, Try.underlying31, List.all_cons, List.all_append, Bool.and_eq_true, decide_eq_true_eq, bytes_dat, List.length_map] at hw
    obtain ⟨hb, hwe, _⟩ := hw
    simp only [reachBytes] at hb
    have hspot : 0 < len → a.spot = none := by
      intro h0
      have he := hel 0 h0
      rw [List.getElem?_eq_getElem (show 0 < elems.length by omega), Option.bind_eq_some_iff] at he
      obtain ⟨cs', h1, h2⟩ := he
      obtain ⟨d, x0, x1, x2, x3, x4, x5, rfl, hd⟩ := ih m (by omega) cs' _ h2 (weights_of hwe _ (List.mem_map_of_mem (List.getElem_mem (show 0 < elems.length by omega))))
      obtain ⟨_, _, hc⟩ := World.cells?_some h1
      rw [cells_dat] at hc
      simpa [Addr.add] using World.cell?_spot ((hc 0 (by omega)).trans rfl)
    have key : ∀ i, i < len → ∃ d, ∃ x0 x1 x2 x3 x4 x5, (∃ b off, a = ⟨b, off, none⟩ ∧ b < w.heap.size ∧ Six w b (off + i * 6) x0 x1 x2 x3 x4 x5) ∧ IsDt w (Lo w.heap.size) d (.agg #[x0, x1, x2, x3, x4, x5]) := by
      intro i hi
      have he := hel i hi
      have hi' : i < elems.length := by omega
      rw [List.getElem?_eq_getElem hi', Option.bind_eq_some_iff] at he
      obtain ⟨cs', h1, h2⟩ := he
      obtain ⟨d, x0, x1, x2, x3, x4, x5, rfl, hd⟩ := ih m (by omega) cs' _ h2 (weights_of hwe _ (List.mem_map_of_mem (List.getElem_mem hi')))
      obtain ⟨_, _, hc⟩ := World.cells?_some h1
      rw [cells_dat] at hc
      obtain ⟨b, off, sp⟩ := a
      obtain rfl : sp = none := hspot (by omega)
      have c : ∀ j v, j < 6 → [x0, x1, x2, x3, x4, x5][j]? = some v → w.cell? ⟨b, off + i * 6 + j, none⟩ = some v := fun j v hj hv => by
        have := hc j hj
        rw [hv, add_plain, add_plain] at this
        exact this
      exact ⟨d, x0, x1, x2, x3, x4, x5, ⟨b, off, rfl, in_heap (c 0 x0 (by omega) rfl), c 0 _ (by omega) rfl, c 1 _ (by omega) rfl, c 2 _ (by omega) rfl, c 3 _ (by omega) rfl, c 4 _ (by omega) rfl, c 5 _ (by omega) rfl⟩, hd⟩
    obtain ⟨f, hf⟩ : ∃ f : Nat → Dt, ∀ i, i < len → ∃ x0 x1 x2 x3 x4 x5, (∃ b off, a = ⟨b, off, none⟩ ∧ b < w.heap.size ∧ Six w b (off + i * 6) x0 x1 x2 x3 x4 x5) ∧ IsDt w (Lo w.heap.size) (f i) (.agg #[x0, x1, x2, x3, x4, x5]) := by
      classical
      refine ⟨fun i => if hi : i < len then Classical.choose (key i hi) else default, fun i hi => ?_⟩
      simp only [dif_pos hi]
      exact Classical.choose_spec (key i hi)
    have hll : ((List.range len).map f).length = len := by simp
    refine ⟨some a, cap, (List.range len).map f, by rw [hll], by rw [hll]; exact ⟨hl, hm, by omega, fun h => by cases h⟩, IsDts.of_at (fun k d hd => ?_)⟩
    simp only [List.getElem?_map, Option.map_eq_some_iff] at hd
    obtain ⟨k', hk, rfl⟩ := hd
    obtain ⟨hk1, hk2⟩ := List.getElem?_eq_some_iff.1 hk
    rw [List.getElem_range] at hk2
    subst hk2
    rw [List.length_range] at hk1
    obtain ⟨x0, x1, x2, x3, x4, x5, ⟨b, off, rfl, hb', hs⟩, hi⟩ := hf k hk1
    exact ⟨b, off, x0, x1, x2, x3, x4, x5, rfl, hb', by rw [Nat.zero_add]; exact hs, hi⟩
set_option linter.unusedSimpArgs false in
theorem open_dt : ∀ n, OpenAt enc w base spare held n := by
  intro n
  induction n using Nat.strongRecOn with
  | ind n ih =>
    intro cs x h hw
    obtain ⟨xs, m, rfl, rfl, hl, hxl, hf⟩ := DataW.trod_struct Try.underlying33 h
    rw [cells_dat] at hl
    match cs, hl with
    | [x0, x1, x2, x3, x4, x5], _ =>
      match xs, hxl with
      | [y0, y1, y2, y3, y4, y5], _ =>
        have f0 := hf 0 _ rfl
        have f1 := hf 1 _ rfl
        have f2 := hf 2 _ rfl
        have f3 := hf 3 _ rfl
        have f4 := hf 4 _ rfl
        have f5 := hf 5 _ rfl
        simp [cells_int, cells_int64, cells_string, cells_ints, cells_data] at f0 f1 f2 f3 f4 f5
        simp only [DataW.weights, Try.underlying33, List.map_cons, List.map_nil, DataW.weightsEach, List.all_append, Bool.and_eq_true] at hw
        obtain ⟨_, _, _, hw3, hw4, hw5, _⟩ := hw
        obtain ⟨k, hk, _, wk⟩ := DataW.trod_int Try.underlying3 f0
        obtain ⟨nn, hn, _, wn⟩ := DataW.trod_int Try.underlying2 f1
        obtain ⟨s, hs, _, ws⟩ := DataW.trod_string Try.underlying9 f2
        obtain ⟨am, cm, ms, hm, wm⟩ := open_marks f3 hw3
        obtain ⟨al, cl, l, hl', sl, dl⟩ := open_data (fun j hj => ih j (by omega)) f4 hw4
        obtain ⟨at_, ct, t, ht', st, dt⟩ := open_data (fun j hj => ih j (by omega)) f5 hw5
        simp only [List.cons.injEq, and_true] at hk hn hs hm hl' ht'
        subst hk hn hs hm hl' ht'
        refine ⟨.mk k nn s ms l t, _, _, _, _, _, _, rfl, ?_⟩
        simp only [IsDt]
        exact ⟨wk, wn, ws, am, cm, al, cl, at_, ct, rfl, wm, sl, dl, st, dt⟩
/-- A datum that comes in by value. -/
theorem open_one {r : Reach} {b0 : Nat} {v : Value} {x : DataW H} {p : List MemPlace} (hv : Value.okWide Try.prog w r b0 33 v) (h : DataW.Trod enc Try.prog w base spare held 33 v x p) (hw : (x.weights Try.prog 33).all (· ≤ reachBytes) = true) :
    ∃ z, IsDt w (Lo w.heap.size) z v := by
  obtain ⟨cs, rfl, _⟩ := okWide_struct Try.underlying33 hv
  obtain ⟨fuel, hf⟩ := h
  obtain ⟨d, x0, x1, x2, x3, x4, x5, hcs, hd⟩ := open_dt fuel _ _ hf hw
  have hcs' : cs.toList = [x0, x1, x2, x3, x4, x5] := hcs
  obtain rfl : cs = #[x0, x1, x2, x3, x4, x5] := by rw [← Array.toArray_toList (xs := cs), hcs']
  exact ⟨d, hd⟩
end
end Go.Proofs.Ytapnighankepjaa.Da
end
section
namespace Go.Proofs.Ytapnighankepjaa.Da
open Go.ChangeShapes Go.WideShapes Go.ChangeAt Go.RowKit
set_option maxRecDepth 100000

structure MadeSt (w W2 : World) : Prop where
  below : Below w.heap.size w W2
  size : w.heap.size + 3 ≤ W2.heap.size
theorem MadeSt.more {w W2 W3 : World} (h : MadeSt w W2) (hf : Fr (fun i => i = w.heap.size + 2) W2 W3) : MadeSt w W3 := ⟨h.below.trans (hf.below (by have := h.size; omega) (fun i hi hs => by omega)), by have := h.size; have := hf.size; omega⟩
theorem made_fin {mk : Bool} {d : Dt} {w W2 W3 W4 Wf : World} {ma la ta : Option Addr} {mc lc tc : Nat} (h2 : MadeSt w W2) (hm : IntRow W2 (Rg (w.heap.size + 3) W2.heap.size) ma (if mk = true then d.M else []).length mc (if mk = true then d.M else []))
    (hf3 : Fr (fun i => i = w.heap.size + 2) W2 W3) (hsl : IsSl la d.L.length lc) (hld : IsDts W3 (Rg W2.heap.size W3.heap.size) la 0 (d.L.map (madeD mk))) (hf4 : Fr (fun i => i = w.heap.size + 2) W3 W4) (hst : IsSl ta d.T.length tc) (htd : IsDts W4 (Rg W3.heap.size W4.heap.size) ta 0 (d.T.map (madeD mk)))
    (k1 : (Lit.int .i64 d.K).wf = true) (k2 : (Lit.int .i64 d.N).wf = true) (k3 : d.S.size ≤ maxLen) (hf : Fr (fun i => i = w.heap.size + 1) W4 Wf) :
    MadeR mk d w (.returned (.agg #[.int .i64 d.K, .int .i64 d.N, .string d.S, .slice ma (if mk = true then d.M else []).length mc, .slice la d.L.length lc, .slice ta d.T.length tc])) Wf := by
  have s2 := h2.size
  have s3 := hf3.size
  have s4 := hf4.size
  have sf := hf.size
  have h3 := h2.more hf3
  have h4 := h3.more hf4
  refine ⟨_, rfl, h4.below.trans (hf.below (by omega) (fun i hi hs => by omega)), ?_⟩
  rw [madeD_eq]
  simp only [IsDt, List.length_map]
  refine ⟨k1, k2, k3, ma, mc, la, lc, ta, tc, rfl, ?_, hsl, ?_, hst, ?_⟩
  · refine hm.keep (fun b hb => ⟨by have := hb.1; omega, by have := hb.2; omega⟩) (fun b o hb => ?_)
    have hb1 := hb.1
    have hb2 := hb.2
    exact (hf.cell (p := ⟨b, o, none⟩) (by show b < _; omega) (by show ¬ b = _; omega)).trans ((hf4.cell (p := ⟨b, o, none⟩) (by show b < _; omega) (by show ¬ b = _; omega)).trans (hf3.cell (p := ⟨b, o, none⟩) (by show b < _; omega) (by show ¬ b = _; omega)))
  · refine IsDts.keep (fun b hb => ⟨by have := hb.1; omega, by have := hb.2; omega⟩) (fun b o hb => ?_) _ _ _ hld
    have hb1 := hb.1
    have hb2 := hb.2
    exact (hf.cell (p := ⟨b, o, none⟩) (by show b < _; omega) (by show ¬ b = _; omega)).trans (hf4.cell (p := ⟨b, o, none⟩) (by show b < _; omega) (by show ¬ b = _; omega))
  · refine IsDts.keep (fun b hb => ⟨by have := hb.1; omega, by have := hb.2; omega⟩) (fun b o hb => ?_) _ _ _ htd
    have hb1 := hb.1
    have hb2 := hb.2
    exact hf.cell (p := ⟨b, o, none⟩) (by show b < _; omega) (by show ¬ b = _; omega)
theorem RowAt.start (mk : Bool) (W2 : World) (o f : Nat) (cs : Array Value) (l : List Dt) (h : Blk W2 o 33 (cs.setIfInBounds f (.slice none 0 0))) : MadeAt mk W2 o f cs l (.int .i64 0) W2 :=
  ⟨0, Nat.zero_le _, rfl, none, 0, [], Fr.refl _ _, h, World.ownsRow_nil _ _ _ _, RowIs.nil _ _⟩
set_option maxHeartbeats 4000000 in
theorem made_step (mk : Bool) (d : Dt) (ihL : ∀ x ∈ d.L, MadeIs mk x) (ihT : ∀ x ∈ d.T, MadeIs mk x) : MadeIs mk d := by
  intro v B w hd hBw
  have hd' := hd
  obtain ⟨am, cm, al, cl, at_, ct, rfl, wk, wn, ws, hm, hl, hls, ht, hts⟩ := hd'.open_
  have HD := Lib.hid hd
  have Hm := Lib.hid hm
  have Hls := Lib.hid hls
  have Hts := Lib.hid hts
  have IHL := Lib.hid ihL
  have IHT := Lib.hid ihT
  have Hl := Lib.hid hl
  have Ht := Lib.hid ht
  have hl1 : d.L.length * 104 ≤ 140737488351232 := hl.2.2.1
  have ht1 : d.T.length * 104 ≤ 140737488351232 := ht.2.2.1
  have hl2 : (d.L.length : Int) ≤ 17592186044416 := by omega
  have ht2 : (d.T.length : Int) ≤ 17592186044416 := by omega
  clear hd hd' hm hls hts ihL ihT hl ht
  obtain ⟨hb0, hs0, hk0⟩ := start_allocs [(#[.int .i64 d.K, .int .i64 d.N, .string d.S, .slice am d.M.length cm, .slice al d.L.length cl, .slice at_ d.T.length ct], 33), (#[.int .i64 0, .int .i64 0, .string ⟨#[]⟩, .slice none 0 0, .slice none 0 0, .slice none 0 0], 33), (#[.int .i64 d.K, .int .i64 d.N, .string d.S, .slice none 0 0, .slice none 0 0, .slice none 0 0], 33)] w
  have g0 := hk0 0 _ rfl
  have g1 := hk0 1 _ rfl
  have g2 := hk0 2 _ rfl
  set_option linter.unusedSimpArgs false in
  simp only [allocs, List.foldl_cons, List.foldl_nil, Nat.add_zero, List.length_cons, List.length_nil, Nat.zero_add, Nat.reduceAdd] at hb0 hs0 g0 g1 g2
  clear hk0
  cases mk
  · have H0 := Lib.hid (And.intro hb0 (And.intro hs0 (And.intro g0 (And.intro g1 g2))))
    clear hb0 hs0 g0 g1 g2
    go_enter Try.func51, Try.ntmps51
    go_wp2_with fail
    obtain ⟨hb0, hs0, g0, g1, g2⟩ := H0.out
    clear H0
    generalize ((w.alloc (.cells #[.int .i64 d.K, .int .i64 d.N, .string d.S, .slice am d.M.length cm, .slice al d.L.length cl, .slice at_ d.T.length ct] 33)).alloc (.cells #[.int .i64 0, .int .i64 0, .string ⟨#[]⟩, .slice none 0 0, .slice none 0 0, .slice none 0 0] 33)).alloc (.cells #[.int .i64 d.K, .int .i64 d.N, .string d.S, .slice none 0 0, .slice none 0 0, .slice none 0 0] 33) = W2 at *
    have H2 := Lib.hid (show MadeSt w W2 from ⟨hb0, by omega⟩)
    have HQ := Lib.hid g0
    have HR0 := Lib.hid g1
    have HO := Lib.hid g2
    have HMR := Lib.hid (show IntRow W2 (Rg (w.heap.size + 3) W2.heap.size) none 0 0 (if false = true then d.M else []) from ⟨rfl, Nat.le_refl _, by simp [maxLen], by omega, fun _ => rfl, by simp, fun k hk => by omega⟩)
    clear hb0 hs0 g0 g1 g2
    go_loopw [6] (fun i wr => MadeAt false W2 (w.heap.size + 2) 4 #[.int .i64 d.K, .int .i64 d.N, .string d.S, .slice none 0 0, .slice none 0 0, .slice none 0 0] d.L i wr) (fun i _ => d.L.length - (intOf i).toNat)
    case atStart => exact RowAt.start _ _ _ _ _ _ HO.out
    case round =>
      obtain ⟨j, hj, rfl, pv, pc, xs, hf, hb, ho, hr⟩ := hrel
      have htl : (d.L.take j).length = j := by rw [List.length_take]; omega
      rw [htl] at hb ho
      have hsr := hf.size
      have pr : Blk wr w.heap.size 33 #[.int .i64 d.K, .int .i64 d.N, .string d.S, .slice am d.M.length cm, .slice al d.L.length cl, .slice at_ d.T.length ct] := (hf.block _ (by have := H2.out.size; omega) (by omega)).trans HQ.out
      have pr4 : wr.cell? ⟨w.heap.size, 4, none⟩ = some (.slice al d.L.length cl) := (pr.cell 4).trans rfl
      have or : wr.cell? ⟨w.heap.size + 2, 4, none⟩ = some (.slice pv j pc) := (hb.cell 4).trans rfl
      have orf : wr.frozen? ⟨w.heap.size + 2, 4, none⟩ = false := hb.frozen 4
      have hqr : w.heap.size + 2 < wr.heap.size := by have := H2.out.size; omega
      have hqr0 : w.heap.size < wr.heap.size := by omega
      have hbr : Below w.heap.size w wr := H2.out.below.trans (hf.below (by have := H2.out.size; omega) (fun i hi hs => by omega))
      have HR := Lib.hid (And.intro hf (And.intro hb (And.intro ho hr)))
      have Hbr := Lib.hid hbr
      have HTL := Lib.hid htl
      clear hf hb ho hr hbr pr htl
      by_cases hlj : j < d.L.length
      · have dl : decide ((j : Int) < (d.L.length : Int)) = true := by simp [hlj]
        obtain ⟨x, hx⟩ : ∃ x, d.L[j]? = some x := ⟨d.L[j], by simp [hlj]⟩
        obtain ⟨b', off, am2, cm2, al2, cl2, at2, ct2, rfl, hb', hsix, hix⟩ := Hls.out.at6 j x hx
        have hbw : b' < w.heap.size := Nat.lt_of_lt_of_le hb' hBw
        obtain ⟨c0, c1, c2, c3, c4, c5⟩ := hsix.keep (w' := wr) (fun o => Hbr.out.cell (p := ⟨b', o, none⟩) hbw)
        have k0 : (0 : Int) ≤ (j : Int) := Int.natCast_nonneg _
        have k1 : (j : Int) < (d.L.length : Int) := by omega
        have Hx := Lib.hid hx
        have Hix := Lib.hid (hix.below (Hbr.out.mono hBw))
        have hjm : j * 104 ≤ 140737488351232 := by omega
        clear hx hix hsix
        go_wp2_with fail
        refine Od.till_region 12 (fun w' : World => w'.cell? ⟨w.heap.size + 2, 4, none⟩ = some (.slice pv j pc)) (fun w' : World => w'.cell? ⟨w.heap.size, 4, none⟩ = some (.slice (some ⟨b', off, none⟩) d.L.length cl) ∧ w'.cell? ⟨b', off + j * 6, none⟩ = some (.int .i64 x.K) ∧ w'.cell? ⟨b', off + j * 6 + 1, none⟩ = some (.int .i64 x.N) ∧ w'.cell? ⟨b', off + j * 6 + 2, none⟩ = some (.string x.S) ∧ w'.cell? ⟨b', off + j * 6 + 3, none⟩ = some (.slice am2 x.M.length cm2) ∧ w'.cell? ⟨b', off + j * 6 + 4, none⟩ = some (.slice al2 x.L.length cl2) ∧ w'.cell? ⟨b', off + j * 6 + 5, none⟩ = some (.slice at2 x.T.length ct2)) 13 (by kernel_rfl) rfl ?_
        simp only [Array.replicate_succ, Array.replicate_zero, List.push_toArray, List.nil_append, List.cons_append]
        have hS0 : (fun w' : World => w'.cell? ⟨w.heap.size + 2, 4, none⟩ = some (.slice pv j pc)) wr.drew := or
        have hT0 : (fun w' : World => w'.cell? ⟨w.heap.size, 4, none⟩ = some (.slice (some ⟨b', off, none⟩) d.L.length cl) ∧ w'.cell? ⟨b', off + j * 6, none⟩ = some (.int .i64 x.K) ∧ w'.cell? ⟨b', off + j * 6 + 1, none⟩ = some (.int .i64 x.N) ∧ w'.cell? ⟨b', off + j * 6 + 2, none⟩ = some (.string x.S) ∧ w'.cell? ⟨b', off + j * 6 + 3, none⟩ = some (.slice am2 x.M.length cm2) ∧ w'.cell? ⟨b', off + j * 6 + 4, none⟩ = some (.slice al2 x.L.length cl2) ∧ w'.cell? ⟨b', off + j * 6 + 5, none⟩ = some (.slice at2 x.T.length ct2)) wr.drew := ⟨pr4, c0, c1, c2, c3, c4, c5⟩
        refine Od.Till.take (i := 0) (d := 29) (v := .pointer (some ⟨w.heap.size + 2, 4, none⟩)) rfl rfl (by kernel_rfl) (by kernel_rfl) (by kernel_rfl) (by kernel_rfl) (fun _ _ _ h => h) (.inl ⟨by rfl, ?_⟩) hS0 hT0 ?_
        · intro wx hSw
          have j0 := hSw
          go_simp
        simp only [Act.put, List.setIfInBounds_toArray, List.set_cons_zero, List.set_cons_succ]
        refine Od.Till.take (i := 1) (d := 30) (v := .slice pv j pc) rfl rfl (by kernel_rfl) (by kernel_rfl) (by kernel_rfl) (by kernel_rfl) (fun _ _ _ h => h) (.inl ⟨by rfl, ?_⟩) hS0 hT0 ?_
        · intro wx hSw
          have j0 := hSw
          go_simp
        simp only [Act.put, List.setIfInBounds_toArray, List.set_cons_zero, List.set_cons_succ]
        refine Od.Till.takeT (i := 2) (d := 31) (v := .pointer (some ⟨w.heap.size, 4, none⟩)) rfl rfl (by kernel_rfl) (by kernel_rfl) (by kernel_rfl) (by kernel_rfl) (fun _ _ _ h => h) (.inl ⟨by rfl, ?_⟩) hS0 hT0 ?_
        · intro wx hSw
          obtain ⟨j0, j1, j2, j3, j4, j5, j6⟩ := hSw
          go_simp
        simp only [Act.put, List.setIfInBounds_toArray, List.set_cons_zero, List.set_cons_succ]
        refine Od.Till.takeT (i := 3) (d := 32) (v := .slice (some ⟨b', off, none⟩) d.L.length cl) rfl rfl (by kernel_rfl) (by kernel_rfl) (by kernel_rfl) (by kernel_rfl) (fun _ _ _ h => h) (.inl ⟨by rfl, ?_⟩) hS0 hT0 ?_
        · intro wx hSw
          obtain ⟨j0, j1, j2, j3, j4, j5, j6⟩ := hSw
          go_simp
        simp only [Act.put, List.setIfInBounds_toArray, List.set_cons_zero, List.set_cons_succ]
        refine Od.Till.takeT (i := 4) (d := 33) (v := .int .i64 (j : Int)) rfl rfl (by kernel_rfl) (by kernel_rfl) (by kernel_rfl) (by kernel_rfl) (fun _ _ _ h => h) (.inl ⟨by rfl, ?_⟩) hS0 hT0 ?_
        · intro wx hSw
          obtain ⟨j0, j1, j2, j3, j4, j5, j6⟩ := hSw
          go_simp
        simp only [Act.put, List.setIfInBounds_toArray, List.set_cons_zero, List.set_cons_succ]
        refine Od.Till.takeT (i := 5) (d := 34) (v := .pointer (some ⟨b', off + j * 6, none⟩)) rfl rfl (by kernel_rfl) (by kernel_rfl) (by kernel_rfl) (by kernel_rfl) (fun _ _ _ h => h) (.inl ⟨by rfl, ?_⟩) hS0 hT0 ?_
        · intro wx hSw
          obtain ⟨j0, j1, j2, j3, j4, j5, j6⟩ := hSw
          go_simp
          try (intro h; omega)
        simp only [Act.put, List.setIfInBounds_toArray, List.set_cons_zero, List.set_cons_succ]
        refine Od.Till.takeT (i := 6) (d := 35) (v := .agg #[.int .i64 x.K, .int .i64 x.N, .string x.S, .slice am2 x.M.length cm2, .slice al2 x.L.length cl2, .slice at2 x.T.length ct2]) rfl rfl (by kernel_rfl) (by kernel_rfl) (by kernel_rfl) (by kernel_rfl) (fun _ _ _ h => h) (.inl ⟨by rfl, ?_⟩) hS0 hT0 ?_
        · intro wx hSw
          obtain ⟨j0, j1, j2, j3, j4, j5, j6⟩ := hSw
          go_simp
        simp only [Act.put, List.setIfInBounds_toArray, List.set_cons_zero, List.set_cons_succ]
        refine Od.Till.takeT (i := 7) (d := 36) (v := .bool false) rfl rfl (by kernel_rfl) (by kernel_rfl) (by kernel_rfl) (by kernel_rfl) (fun _ _ _ h => h) (.inl ⟨by rfl, ?_⟩) hS0 hT0 ?_
        · intro wx hSw
          obtain ⟨j0, j1, j2, j3, j4, j5, j6⟩ := hSw
          go_simp
        simp only [Act.put, List.setIfInBounds_toArray, List.set_cons_zero, List.set_cons_succ]
        refine Od.Till.one (i := 8) (by kernel_rfl) rfl (fun K hK => ?_)
        go_simp
        refine (IHL.out x (List.mem_of_getElem? Hx.out) _ B wr.drew (IsDt.keep (w := wr) (w' := wr.drew) (fun _ h => h) (fun _ _ _ => rfl) _ _ Hix.out) (by show B ≤ wr.heap.size; omega)).mono ?_
        rintro e w2 ⟨v', rfl, hb2, hi2⟩
        have hi' := hi2
        obtain ⟨am3, cm3, al3, cl3, at3, ct3, rfl, _⟩ := hi'.open_
        replace hb2 : Below wr.heap.size wr w2 := ⟨hb2.os, hb2.tape, hb2.output, hb2.size, hb2.block⟩
        replace hi2 : IsDt w2 (Rg wr.heap.size w2.heap.size) _ _ := hi2
        have hS2 : (fun w' : World => w'.cell? ⟨w.heap.size + 2, 4, none⟩ = some (.slice pv j pc)) w2 := (hb2.cell (p := ⟨w.heap.size + 2, 4, none⟩) hqr).trans or
        have hT2 : (fun w' : World => w'.cell? ⟨w.heap.size, 4, none⟩ = some (.slice (some ⟨b', off, none⟩) d.L.length cl) ∧ w'.cell? ⟨b', off + j * 6, none⟩ = some (.int .i64 x.K) ∧ w'.cell? ⟨b', off + j * 6 + 1, none⟩ = some (.int .i64 x.N) ∧ w'.cell? ⟨b', off + j * 6 + 2, none⟩ = some (.string x.S) ∧ w'.cell? ⟨b', off + j * 6 + 3, none⟩ = some (.slice am2 x.M.length cm2) ∧ w'.cell? ⟨b', off + j * 6 + 4, none⟩ = some (.slice al2 x.L.length cl2) ∧ w'.cell? ⟨b', off + j * 6 + 5, none⟩ = some (.slice at2 x.T.length ct2)) w2 := ⟨(hb2.cell (p := ⟨w.heap.size, 4, none⟩) hqr0).trans pr4, (hb2.cell (by show b' < wr.heap.size; omega)).trans c0, (hb2.cell (by show b' < wr.heap.size; omega)).trans c1, (hb2.cell (by show b' < wr.heap.size; omega)).trans c2, (hb2.cell (by show b' < wr.heap.size; omega)).trans c3, (hb2.cell (by show b' < wr.heap.size; omega)).trans c4, (hb2.cell (by show b' < wr.heap.size; omega)).trans c5⟩
        have Hb2 := Lib.hid hb2
        have Hi2 := Lib.hid hi2
        clear hi2 hi'
        refine hK.out _ _ ⟨fun _ => hS2, hT2⟩ ?_
        clear hK K
        simp only [Act.put, List.setIfInBounds_toArray, List.set_cons_zero, List.set_cons_succ]
        refine Od.Till.one (i := 9) (by kernel_rfl) rfl (fun K hK => ?_)
        go_simp
        obtain ⟨i0, hi, hy0, hy1, hy2⟩ := info_parts datum_info
        have hX : Below w2.heap.size w2 (w2.alloc (.cells #[.int .i64 (madeD false x).K, .int .i64 (madeD false x).N, .string (madeD false x).S, .slice am3 (madeD false x).M.length cm3, .slice al3 (madeD false x).L.length cl3, .slice at3 (madeD false x).T.length ct3] 33)) := bel_alloc _ _
        have gX : Blk (w2.alloc (.cells #[.int .i64 (madeD false x).K, .int .i64 (madeD false x).N, .string (madeD false x).S, .slice am3 (madeD false x).M.length cm3, .slice al3 (madeD false x).L.length cl3, .slice at3 (madeD false x).T.length ct3] 33)) w2.heap.size 33 #[.int .i64 (madeD false x).K, .int .i64 (madeD false x).N, .string (madeD false x).S, .slice am3 (madeD false x).M.length cm3, .slice al3 (madeD false x).L.length cl3, .slice at3 (madeD false x).T.length ct3] := heap_alloc_new w2 _
        have sX : (w2.alloc (.cells #[.int .i64 (madeD false x).K, .int .i64 (madeD false x).N, .string (madeD false x).S, .slice am3 (madeD false x).M.length cm3, .slice al3 (madeD false x).L.length cl3, .slice at3 (madeD false x).T.length ct3] 33)).heap.size = w2.heap.size + 1 := by simp
        generalize w2.alloc (.cells #[.int .i64 (madeD false x).K, .int .i64 (madeD false x).N, .string (madeD false x).S, .slice am3 (madeD false x).M.length cm3, .slice al3 (madeD false x).L.length cl3, .slice at3 (madeD false x).T.length ct3] 33) = X at *
        have hrX : Below wr.heap.size wr X := hb2.trans (hX.mono hb2.size)
        have hSX : (fun w' : World => w'.cell? ⟨w.heap.size + 2, 4, none⟩ = some (.slice pv j pc)) X := (hrX.cell (p := ⟨w.heap.size + 2, 4, none⟩) hqr).trans or
        have hTX : (fun w' : World => w'.cell? ⟨w.heap.size, 4, none⟩ = some (.slice (some ⟨b', off, none⟩) d.L.length cl) ∧ w'.cell? ⟨b', off + j * 6, none⟩ = some (.int .i64 x.K) ∧ w'.cell? ⟨b', off + j * 6 + 1, none⟩ = some (.int .i64 x.N) ∧ w'.cell? ⟨b', off + j * 6 + 2, none⟩ = some (.string x.S) ∧ w'.cell? ⟨b', off + j * 6 + 3, none⟩ = some (.slice am2 x.M.length cm2) ∧ w'.cell? ⟨b', off + j * 6 + 4, none⟩ = some (.slice al2 x.L.length cl2) ∧ w'.cell? ⟨b', off + j * 6 + 5, none⟩ = some (.slice at2 x.T.length ct2)) X := ⟨(hrX.cell (p := ⟨w.heap.size, 4, none⟩) hqr0).trans pr4, (hrX.cell (by show b' < wr.heap.size; omega)).trans c0, (hrX.cell (by show b' < wr.heap.size; omega)).trans c1, (hrX.cell (by show b' < wr.heap.size; omega)).trans c2, (hrX.cell (by show b' < wr.heap.size; omega)).trans c3, (hrX.cell (by show b' < wr.heap.size; omega)).trans c4, (hrX.cell (by show b' < wr.heap.size; omega)).trans c5⟩
        have ownX : X.ownsRow W2.heap.size 33 6 (.slice pv j pc) j xs := own_stay HR.out.2.2.1 (fun g _ hg => hrX.block g hg)
        refine hK.out _ _ ⟨fun _ => hSX, hTX⟩ ?_
        clear hK K
        refine Od.Till.one (i := 10) (by kernel_rfl) rfl (fun K hK => ?_)
        rw [if_pos (by kernel_rfl)]
        refine wp_append_lies X (.tmp 30) (.tmp 38) 31 (by rfl) W2.heap.size 33 i0 _ 6 104 Try.underlying31 hi hy0 hy1 hy2 rfl (by omega) (.slice pv j pc) j xs (by rfl) ownX ⟨w2.heap.size, 0, none⟩ 1 1 [.int .i64 (madeD false x).K, .int .i64 (madeD false x).N, .string (madeD false x).S, .slice am3 (madeD false x).M.length cm3, .slice al3 (madeD false x).L.length cl3, .slice at3 (madeD false x).T.length ct3] (by rfl) rfl (fun i u hu => by rw [add_plain, Nat.zero_add, gX.cell i, ← hu]; simp) (by simp [Value.oneCell']) (by omega) (by simp only [maxLen]; omega) (by omega) (by have := hrX.size; omega) X.heap.size rfl ?_
        intro g' cap2 w4 hown1 hg1 hat hlt1
        rw [ob_slice] at hat hg1
        have hm := made_end HTL.out HR.out.1 HR.out.2.1 (by have := H2.out.size; omega) HR.out.2.2.1 HR.out.2.2.2 Hb2.out Hi2.out hX hown1 hg1 hat
        have hpo : ob pv ≠ some (w.heap.size + 2) := fun e => by have := (HR.out.2.2.1.lt (w.heap.size + 2) (by rw [ob_slice]; exact e)).1; have := H2.out.size; omega
        have hpq : ob pv ≠ some w.heap.size := fun e => by have := (HR.out.2.2.1.lt w.heap.size (by rw [ob_slice]; exact e)).1; have := H2.out.size; omega
        have hpb : ob pv ≠ some b' := fun e => by have := (HR.out.2.2.1.lt b' (by rw [ob_slice]; exact e)).1; have := H2.out.size; omega
        have far : ∀ q o, q < X.heap.size → ob pv ≠ some q → w4.cell? ⟨q, o, none⟩ = X.cell? ⟨q, o, none⟩ := fun q o hq hd => hg1.cell_far _ hq (fun h => hd h.symm)
        have sX2 := hrX.size
        have hS4 : (fun w' : World => w'.cell? ⟨w.heap.size + 2, 4, none⟩ = some (.slice pv j pc)) w4 := (far _ 4 (by omega) hpo).trans hSX
        have hT4 : (fun w' : World => w'.cell? ⟨w.heap.size, 4, none⟩ = some (.slice (some ⟨b', off, none⟩) d.L.length cl) ∧ w'.cell? ⟨b', off + j * 6, none⟩ = some (.int .i64 x.K) ∧ w'.cell? ⟨b', off + j * 6 + 1, none⟩ = some (.int .i64 x.N) ∧ w'.cell? ⟨b', off + j * 6 + 2, none⟩ = some (.string x.S) ∧ w'.cell? ⟨b', off + j * 6 + 3, none⟩ = some (.slice am2 x.M.length cm2) ∧ w'.cell? ⟨b', off + j * 6 + 4, none⟩ = some (.slice al2 x.L.length cl2) ∧ w'.cell? ⟨b', off + j * 6 + 5, none⟩ = some (.slice at2 x.T.length ct2)) w4 := ⟨(far _ 4 (by omega) hpq).trans hTX.1, (far b' _ (by omega) hpb).trans hTX.2.1, (far b' _ (by omega) hpb).trans hTX.2.2.1, (far b' _ (by omega) hpb).trans hTX.2.2.2.1, (far b' _ (by omega) hpb).trans hTX.2.2.2.2.1, (far b' _ (by omega) hpb).trans hTX.2.2.2.2.2.1, (far b' _ (by omega) hpb).trans hTX.2.2.2.2.2.2⟩
        have or4 : w4.cell? ⟨w.heap.size + 2, 4, none⟩ = some (.slice pv j pc) := hS4
        have orf4 : w4.frozen? ⟨w.heap.size + 2, 4, none⟩ = false := (hg1.frozen_far (a := ⟨w.heap.size + 2, 4, none⟩) (by show w.heap.size + 2 < _; omega) (fun h => hpo h.symm)).trans ((hrX.frozen (p := ⟨w.heap.size + 2, 4, none⟩) hqr).trans orf)
        refine hK.out _ _ ⟨fun _ => hS4, hT4⟩ ?_
        clear hK K
        simp only [Act.put, List.setIfInBounds_toArray, List.set_cons_zero, List.set_cons_succ]
        refine Od.Till.takeT (i := 11) (d := 40) (v := .pointer (some ⟨w.heap.size + 2, 4, none⟩)) rfl rfl (by kernel_rfl) (by kernel_rfl) (by kernel_rfl) (by kernel_rfl) (fun _ _ _ h => h) (.inl ⟨by rfl, ?_⟩) hS4 hT4 ?_
        · intro wx hSw
          obtain ⟨j0, j1, j2, j3, j4, j5, j6⟩ := hSw
          go_simp
        simp only [Act.put, List.setIfInBounds_toArray, List.set_cons_zero, List.set_cons_succ]
        have HM := Lib.hid hm
        clear hm hS0 hT0 hS2 hT2 hSX hTX hT4 hS4 ownX hown1 far
        refine Od.Till.one (i := 12) (by kernel_rfl) rfl (fun K hK => ?_)
        rw [if_pos (by kernel_rfl)]
        go_simp
        refine hK.out _ _ ⟨fun h => absurd h (by decide), ⟨(set_ne _ _ _ _ _ _ (.inl (by omega))).trans ((hg1.cell_far _ (by show w.heap.size < _; omega) (fun h => hpq h.symm)).trans ((hrX.cell (p := ⟨w.heap.size, 4, none⟩) hqr0).trans pr4)), (set_ne _ _ _ _ _ _ (.inl (by omega))).trans ((hg1.cell_far _ (by show b' < _; omega) (fun h => hpb h.symm)).trans ((hrX.cell (by show b' < wr.heap.size; omega)).trans c0)), (set_ne _ _ _ _ _ _ (.inl (by omega))).trans ((hg1.cell_far _ (by show b' < _; omega) (fun h => hpb h.symm)).trans ((hrX.cell (by show b' < wr.heap.size; omega)).trans c1)), (set_ne _ _ _ _ _ _ (.inl (by omega))).trans ((hg1.cell_far _ (by show b' < _; omega) (fun h => hpb h.symm)).trans ((hrX.cell (by show b' < wr.heap.size; omega)).trans c2)), (set_ne _ _ _ _ _ _ (.inl (by omega))).trans ((hg1.cell_far _ (by show b' < _; omega) (fun h => hpb h.symm)).trans ((hrX.cell (by show b' < wr.heap.size; omega)).trans c3)), (set_ne _ _ _ _ _ _ (.inl (by omega))).trans ((hg1.cell_far _ (by show b' < _; omega) (fun h => hpb h.symm)).trans ((hrX.cell (by show b' < wr.heap.size; omega)).trans c4)), (set_ne _ _ _ _ _ _ (.inl (by omega))).trans ((hg1.cell_far _ (by show b' < _; omega) (fun h => hpb h.symm)).trans ((hrX.cell (by show b' < wr.heap.size; omega)).trans c5))⟩⟩ (Od.Till.done (by kernel_rfl) ?_)
        clear hK K
        generalize w4.setCell ⟨w.heap.size + 2, 4, none⟩ (.slice (some ⟨g', 0, none⟩) (j + 1) cap2) = W5 at *
        go_wp2_with fail
        go_roundw
        case rel => exact ⟨j + 1, by omega, by go_num, by rw [take_snoc_dt _ _ _ Hx.out]; exact HM.out⟩
        case measure => simp [intOf]; omega
      · have dl : decide ((j : Int) < (d.L.length : Int)) = false := by simp [hlj]
        have hje : d.L.take j = d.L := List.take_of_length_le (by omega)
        have hfin : RowAt false W2 (w.heap.size + 2) 4 #[.int .i64 d.K, .int .i64 d.N, .string d.S, .slice none 0 0, .slice none 0 0, .slice none 0 0] d.L wr := ⟨pv, pc, xs, HR.out.1, by have h := HR.out.2.1; rw [← HTL.out, hje] at h; exact h, by have h := HR.out.2.2.1; rw [← HTL.out, hje] at h; exact h, by have h := HR.out.2.2.2; rw [hje] at h; exact h⟩
        have HF := Lib.hid hfin
        clear hje hfin HR
        obtain ⟨la, lc, hbo, hf3, hls1, hld⟩ := HF.out.dts hl1
        have hsz := hf3.size
        have bo : Blk wr (w.heap.size + 2) 33 #[.int .i64 d.K, .int .i64 d.N, .string d.S, .slice none 0 0, .slice la d.L.length lc, .slice none 0 0] := hbo.trans rfl
        have bq : Blk wr w.heap.size 33 #[.int .i64 d.K, .int .i64 d.N, .string d.S, .slice am d.M.length cm, .slice al d.L.length cl, .slice at_ d.T.length ct] := (hf3.block _ (by have := H2.out.size; omega) (by omega)).trans HQ.out
        have br : Blk wr (w.heap.size + 1) 33 #[.int .i64 0, .int .i64 0, .string ⟨#[]⟩, .slice none 0 0, .slice none 0 0, .slice none 0 0] := (hf3.block _ (by have := H2.out.size; omega) (by omega)).trans HR0.out
        have HQ3 := Lib.hid bq
        have HR3 := Lib.hid br
        have HO3 := Lib.hid bo
        have H3 := Lib.hid (MadeSt.more H2.out hf3)
        have HLD := Lib.hid (And.intro hf3 (And.intro hls1 hld))
        clear hbo hf3 hls1 hld bo bq br HF
        go_wp2_with fail
        clear or orf pr4 Hbr hqr hqr0
        obtain ⟨W3, hW3⟩ : ∃ W3 : World, W3 = wr := ⟨_, rfl⟩
        subst hW3
        go_loopw [7] (fun i wr => MadeAt false W3 (w.heap.size + 2) 5 #[.int .i64 d.K, .int .i64 d.N, .string d.S, .slice none 0 0, .slice la d.L.length lc, .slice none 0 0] d.T i wr) (fun i _ => d.T.length - (intOf i).toNat)
        case atStart => exact RowAt.start _ _ _ _ _ _ HO3.out
        case round =>
          obtain ⟨j, hj, rfl, pv, pc, xs, hf, hb, ho, hr⟩ := hrel
          have htl : (d.T.take j).length = j := by rw [List.length_take]; omega
          rw [htl] at hb ho
          have hsr := hf.size
          have pr : Blk wr w.heap.size 33 #[.int .i64 d.K, .int .i64 d.N, .string d.S, .slice am d.M.length cm, .slice al d.L.length cl, .slice at_ d.T.length ct] := (hf.block _ (by have := H3.out.size; omega) (by omega)).trans HQ3.out
          have pr5 : wr.cell? ⟨w.heap.size, 5, none⟩ = some (.slice at_ d.T.length ct) := (pr.cell 5).trans rfl
          have or : wr.cell? ⟨w.heap.size + 2, 5, none⟩ = some (.slice pv j pc) := (hb.cell 5).trans rfl
          have orf : wr.frozen? ⟨w.heap.size + 2, 5, none⟩ = false := hb.frozen 5
          have hqr : w.heap.size + 2 < wr.heap.size := by have := H3.out.size; omega
          have hqr0 : w.heap.size < wr.heap.size := by omega
          have hbr : Below w.heap.size w wr := H3.out.below.trans (hf.below (by have := H3.out.size; omega) (fun i hi hs => by omega))
          have HR := Lib.hid (And.intro hf (And.intro hb (And.intro ho hr)))
          have Hbr := Lib.hid hbr
          have HTL := Lib.hid htl
          clear hf hb ho hr hbr pr htl
          by_cases hlj : j < d.T.length
          · have dl : decide ((j : Int) < (d.T.length : Int)) = true := by simp [hlj]
            obtain ⟨x, hx⟩ : ∃ x, d.T[j]? = some x := ⟨d.T[j], by simp [hlj]⟩
            obtain ⟨b', off, am2, cm2, al2, cl2, at2, ct2, rfl, hb', hsix, hix⟩ := Hts.out.at6 j x hx
            have hbw : b' < w.heap.size := Nat.lt_of_lt_of_le hb' hBw
            obtain ⟨c0, c1, c2, c3, c4, c5⟩ := hsix.keep (w' := wr) (fun o => Hbr.out.cell (p := ⟨b', o, none⟩) hbw)
            have k0 : (0 : Int) ≤ (j : Int) := Int.natCast_nonneg _
            have k1 : (j : Int) < (d.T.length : Int) := by omega
            have Hx := Lib.hid hx
            have Hix := Lib.hid (hix.below (Hbr.out.mono hBw))
            have hjm : j * 104 ≤ 140737488351232 := by omega
            clear hx hix hsix
            go_wp2_with fail
            refine Od.till_region 12 (fun w' : World => w'.cell? ⟨w.heap.size + 2, 5, none⟩ = some (.slice pv j pc)) (fun w' : World => w'.cell? ⟨w.heap.size, 5, none⟩ = some (.slice (some ⟨b', off, none⟩) d.T.length ct) ∧ w'.cell? ⟨b', off + j * 6, none⟩ = some (.int .i64 x.K) ∧ w'.cell? ⟨b', off + j * 6 + 1, none⟩ = some (.int .i64 x.N) ∧ w'.cell? ⟨b', off + j * 6 + 2, none⟩ = some (.string x.S) ∧ w'.cell? ⟨b', off + j * 6 + 3, none⟩ = some (.slice am2 x.M.length cm2) ∧ w'.cell? ⟨b', off + j * 6 + 4, none⟩ = some (.slice al2 x.L.length cl2) ∧ w'.cell? ⟨b', off + j * 6 + 5, none⟩ = some (.slice at2 x.T.length ct2)) 13 (by kernel_rfl) rfl ?_
            simp only [Array.replicate_succ, Array.replicate_zero, List.push_toArray, List.nil_append, List.cons_append]
            have hS0 : (fun w' : World => w'.cell? ⟨w.heap.size + 2, 5, none⟩ = some (.slice pv j pc)) wr.drew := or
            have hT0 : (fun w' : World => w'.cell? ⟨w.heap.size, 5, none⟩ = some (.slice (some ⟨b', off, none⟩) d.T.length ct) ∧ w'.cell? ⟨b', off + j * 6, none⟩ = some (.int .i64 x.K) ∧ w'.cell? ⟨b', off + j * 6 + 1, none⟩ = some (.int .i64 x.N) ∧ w'.cell? ⟨b', off + j * 6 + 2, none⟩ = some (.string x.S) ∧ w'.cell? ⟨b', off + j * 6 + 3, none⟩ = some (.slice am2 x.M.length cm2) ∧ w'.cell? ⟨b', off + j * 6 + 4, none⟩ = some (.slice al2 x.L.length cl2) ∧ w'.cell? ⟨b', off + j * 6 + 5, none⟩ = some (.slice at2 x.T.length ct2)) wr.drew := ⟨pr5, c0, c1, c2, c3, c4, c5⟩
            refine Od.Till.take (i := 0) (d := 48) (v := .pointer (some ⟨w.heap.size + 2, 5, none⟩)) rfl rfl (by kernel_rfl) (by kernel_rfl) (by kernel_rfl) (by kernel_rfl) (fun _ _ _ h => h) (.inl ⟨by rfl, ?_⟩) hS0 hT0 ?_
            · intro wx hSw
              have j0 := hSw
              go_simp
            simp only [Act.put, List.setIfInBounds_toArray, List.set_cons_zero, List.set_cons_succ]
            refine Od.Till.take (i := 1) (d := 49) (v := .slice pv j pc) rfl rfl (by kernel_rfl) (by kernel_rfl) (by kernel_rfl) (by kernel_rfl) (fun _ _ _ h => h) (.inl ⟨by rfl, ?_⟩) hS0 hT0 ?_
            · intro wx hSw
              have j0 := hSw
              go_simp
            simp only [Act.put, List.setIfInBounds_toArray, List.set_cons_zero, List.set_cons_succ]
            refine Od.Till.takeT (i := 2) (d := 50) (v := .pointer (some ⟨w.heap.size, 5, none⟩)) rfl rfl (by kernel_rfl) (by kernel_rfl) (by kernel_rfl) (by kernel_rfl) (fun _ _ _ h => h) (.inl ⟨by rfl, ?_⟩) hS0 hT0 ?_
            · intro wx hSw
              obtain ⟨j0, j1, j2, j3, j4, j5, j6⟩ := hSw
              go_simp
            simp only [Act.put, List.setIfInBounds_toArray, List.set_cons_zero, List.set_cons_succ]
            refine Od.Till.takeT (i := 3) (d := 51) (v := .slice (some ⟨b', off, none⟩) d.T.length ct) rfl rfl (by kernel_rfl) (by kernel_rfl) (by kernel_rfl) (by kernel_rfl) (fun _ _ _ h => h) (.inl ⟨by rfl, ?_⟩) hS0 hT0 ?_
            · intro wx hSw
              obtain ⟨j0, j1, j2, j3, j4, j5, j6⟩ := hSw
              go_simp
            simp only [Act.put, List.setIfInBounds_toArray, List.set_cons_zero, List.set_cons_succ]
            refine Od.Till.takeT (i := 4) (d := 52) (v := .int .i64 (j : Int)) rfl rfl (by kernel_rfl) (by kernel_rfl) (by kernel_rfl) (by kernel_rfl) (fun _ _ _ h => h) (.inl ⟨by rfl, ?_⟩) hS0 hT0 ?_
            · intro wx hSw
              obtain ⟨j0, j1, j2, j3, j4, j5, j6⟩ := hSw
              go_simp
            simp only [Act.put, List.setIfInBounds_toArray, List.set_cons_zero, List.set_cons_succ]
            refine Od.Till.takeT (i := 5) (d := 53) (v := .pointer (some ⟨b', off + j * 6, none⟩)) rfl rfl (by kernel_rfl) (by kernel_rfl) (by kernel_rfl) (by kernel_rfl) (fun _ _ _ h => h) (.inl ⟨by rfl, ?_⟩) hS0 hT0 ?_
            · intro wx hSw
              obtain ⟨j0, j1, j2, j3, j4, j5, j6⟩ := hSw
              go_simp
              try (intro h; omega)
            simp only [Act.put, List.setIfInBounds_toArray, List.set_cons_zero, List.set_cons_succ]
            refine Od.Till.takeT (i := 6) (d := 54) (v := .agg #[.int .i64 x.K, .int .i64 x.N, .string x.S, .slice am2 x.M.length cm2, .slice al2 x.L.length cl2, .slice at2 x.T.length ct2]) rfl rfl (by kernel_rfl) (by kernel_rfl) (by kernel_rfl) (by kernel_rfl) (fun _ _ _ h => h) (.inl ⟨by rfl, ?_⟩) hS0 hT0 ?_
            · intro wx hSw
              obtain ⟨j0, j1, j2, j3, j4, j5, j6⟩ := hSw
              go_simp
            simp only [Act.put, List.setIfInBounds_toArray, List.set_cons_zero, List.set_cons_succ]
            refine Od.Till.takeT (i := 7) (d := 55) (v := .bool false) rfl rfl (by kernel_rfl) (by kernel_rfl) (by kernel_rfl) (by kernel_rfl) (fun _ _ _ h => h) (.inl ⟨by rfl, ?_⟩) hS0 hT0 ?_
            · intro wx hSw
              obtain ⟨j0, j1, j2, j3, j4, j5, j6⟩ := hSw
              go_simp
            simp only [Act.put, List.setIfInBounds_toArray, List.set_cons_zero, List.set_cons_succ]
            refine Od.Till.one (i := 8) (by kernel_rfl) rfl (fun K hK => ?_)
            go_simp
            refine (IHT.out x (List.mem_of_getElem? Hx.out) _ B wr.drew (IsDt.keep (w := wr) (w' := wr.drew) (fun _ h => h) (fun _ _ _ => rfl) _ _ Hix.out) (by show B ≤ wr.heap.size; omega)).mono ?_
            rintro e w2 ⟨v', rfl, hb2, hi2⟩
            have hi' := hi2
            obtain ⟨am3, cm3, al3, cl3, at3, ct3, rfl, _⟩ := hi'.open_
            replace hb2 : Below wr.heap.size wr w2 := ⟨hb2.os, hb2.tape, hb2.output, hb2.size, hb2.block⟩
            replace hi2 : IsDt w2 (Rg wr.heap.size w2.heap.size) _ _ := hi2
            have hS2 : (fun w' : World => w'.cell? ⟨w.heap.size + 2, 5, none⟩ = some (.slice pv j pc)) w2 := (hb2.cell (p := ⟨w.heap.size + 2, 5, none⟩) hqr).trans or
            have hT2 : (fun w' : World => w'.cell? ⟨w.heap.size, 5, none⟩ = some (.slice (some ⟨b', off, none⟩) d.T.length ct) ∧ w'.cell? ⟨b', off + j * 6, none⟩ = some (.int .i64 x.K) ∧ w'.cell? ⟨b', off + j * 6 + 1, none⟩ = some (.int .i64 x.N) ∧ w'.cell? ⟨b', off + j * 6 + 2, none⟩ = some (.string x.S) ∧ w'.cell? ⟨b', off + j * 6 + 3, none⟩ = some (.slice am2 x.M.length cm2) ∧ w'.cell? ⟨b', off + j * 6 + 4, none⟩ = some (.slice al2 x.L.length cl2) ∧ w'.cell? ⟨b', off + j * 6 + 5, none⟩ = some (.slice at2 x.T.length ct2)) w2 := ⟨(hb2.cell (p := ⟨w.heap.size, 5, none⟩) hqr0).trans pr5, (hb2.cell (by show b' < wr.heap.size; omega)).trans c0, (hb2.cell (by show b' < wr.heap.size; omega)).trans c1, (hb2.cell (by show b' < wr.heap.size; omega)).trans c2, (hb2.cell (by show b' < wr.heap.size; omega)).trans c3, (hb2.cell (by show b' < wr.heap.size; omega)).trans c4, (hb2.cell (by show b' < wr.heap.size; omega)).trans c5⟩
            have Hb2 := Lib.hid hb2
            have Hi2 := Lib.hid hi2
            clear hi2 hi'
            refine hK.out _ _ ⟨fun _ => hS2, hT2⟩ ?_
            clear hK K
            simp only [Act.put, List.setIfInBounds_toArray, List.set_cons_zero, List.set_cons_succ]
            refine Od.Till.one (i := 9) (by kernel_rfl) rfl (fun K hK => ?_)
            go_simp
            obtain ⟨i0, hi, hy0, hy1, hy2⟩ := info_parts datum_info
            have hX : Below w2.heap.size w2 (w2.alloc (.cells #[.int .i64 (madeD false x).K, .int .i64 (madeD false x).N, .string (madeD false x).S, .slice am3 (madeD false x).M.length cm3, .slice al3 (madeD false x).L.length cl3, .slice at3 (madeD false x).T.length ct3] 33)) := bel_alloc _ _
            have gX : Blk (w2.alloc (.cells #[.int .i64 (madeD false x).K, .int .i64 (madeD false x).N, .string (madeD false x).S, .slice am3 (madeD false x).M.length cm3, .slice al3 (madeD false x).L.length cl3, .slice at3 (madeD false x).T.length ct3] 33)) w2.heap.size 33 #[.int .i64 (madeD false x).K, .int .i64 (madeD false x).N, .string (madeD false x).S, .slice am3 (madeD false x).M.length cm3, .slice al3 (madeD false x).L.length cl3, .slice at3 (madeD false x).T.length ct3] := heap_alloc_new w2 _
            have sX : (w2.alloc (.cells #[.int .i64 (madeD false x).K, .int .i64 (madeD false x).N, .string (madeD false x).S, .slice am3 (madeD false x).M.length cm3, .slice al3 (madeD false x).L.length cl3, .slice at3 (madeD false x).T.length ct3] 33)).heap.size = w2.heap.size + 1 := by simp
            generalize w2.alloc (.cells #[.int .i64 (madeD false x).K, .int .i64 (madeD false x).N, .string (madeD false x).S, .slice am3 (madeD false x).M.length cm3, .slice al3 (madeD false x).L.length cl3, .slice at3 (madeD false x).T.length ct3] 33) = X at *
            have hrX : Below wr.heap.size wr X := hb2.trans (hX.mono hb2.size)
            have hSX : (fun w' : World => w'.cell? ⟨w.heap.size + 2, 5, none⟩ = some (.slice pv j pc)) X := (hrX.cell (p := ⟨w.heap.size + 2, 5, none⟩) hqr).trans or
            have hTX : (fun w' : World => w'.cell? ⟨w.heap.size, 5, none⟩ = some (.slice (some ⟨b', off, none⟩) d.T.length ct) ∧ w'.cell? ⟨b', off + j * 6, none⟩ = some (.int .i64 x.K) ∧ w'.cell? ⟨b', off + j * 6 + 1, none⟩ = some (.int .i64 x.N) ∧ w'.cell? ⟨b', off + j * 6 + 2, none⟩ = some (.string x.S) ∧ w'.cell? ⟨b', off + j * 6 + 3, none⟩ = some (.slice am2 x.M.length cm2) ∧ w'.cell? ⟨b', off + j * 6 + 4, none⟩ = some (.slice al2 x.L.length cl2) ∧ w'.cell? ⟨b', off + j * 6 + 5, none⟩ = some (.slice at2 x.T.length ct2)) X := ⟨(hrX.cell (p := ⟨w.heap.size, 5, none⟩) hqr0).trans pr5, (hrX.cell (by show b' < wr.heap.size; omega)).trans c0, (hrX.cell (by show b' < wr.heap.size; omega)).trans c1, (hrX.cell (by show b' < wr.heap.size; omega)).trans c2, (hrX.cell (by show b' < wr.heap.size; omega)).trans c3, (hrX.cell (by show b' < wr.heap.size; omega)).trans c4, (hrX.cell (by show b' < wr.heap.size; omega)).trans c5⟩
            have ownX : X.ownsRow W3.heap.size 33 6 (.slice pv j pc) j xs := own_stay HR.out.2.2.1 (fun g _ hg => hrX.block g hg)
            refine hK.out _ _ ⟨fun _ => hSX, hTX⟩ ?_
            clear hK K
            refine Od.Till.one (i := 10) (by kernel_rfl) rfl (fun K hK => ?_)
            rw [if_pos (by kernel_rfl)]
            refine wp_append_lies X (.tmp 49) (.tmp 57) 31 (by rfl) W3.heap.size 33 i0 _ 6 104 Try.underlying31 hi hy0 hy1 hy2 rfl (by omega) (.slice pv j pc) j xs (by rfl) ownX ⟨w2.heap.size, 0, none⟩ 1 1 [.int .i64 (madeD false x).K, .int .i64 (madeD false x).N, .string (madeD false x).S, .slice am3 (madeD false x).M.length cm3, .slice al3 (madeD false x).L.length cl3, .slice at3 (madeD false x).T.length ct3] (by rfl) rfl (fun i u hu => by rw [add_plain, Nat.zero_add, gX.cell i, ← hu]; simp) (by simp [Value.oneCell']) (by omega) (by simp only [maxLen]; omega) (by omega) (by have := hrX.size; omega) X.heap.size rfl ?_
            intro g' cap2 w4 hown1 hg1 hat hlt1
            rw [ob_slice] at hat hg1
            have hm := made_end HTL.out HR.out.1 HR.out.2.1 (by have := H3.out.size; omega) HR.out.2.2.1 HR.out.2.2.2 Hb2.out Hi2.out hX hown1 hg1 hat
            have hpo : ob pv ≠ some (w.heap.size + 2) := fun e => by have := (HR.out.2.2.1.lt (w.heap.size + 2) (by rw [ob_slice]; exact e)).1; have := H3.out.size; omega
            have hpq : ob pv ≠ some w.heap.size := fun e => by have := (HR.out.2.2.1.lt w.heap.size (by rw [ob_slice]; exact e)).1; have := H3.out.size; omega
            have hpb : ob pv ≠ some b' := fun e => by have := (HR.out.2.2.1.lt b' (by rw [ob_slice]; exact e)).1; have := H3.out.size; omega
            have far : ∀ q o, q < X.heap.size → ob pv ≠ some q → w4.cell? ⟨q, o, none⟩ = X.cell? ⟨q, o, none⟩ := fun q o hq hd => hg1.cell_far _ hq (fun h => hd h.symm)
            have sX2 := hrX.size
            have hS4 : (fun w' : World => w'.cell? ⟨w.heap.size + 2, 5, none⟩ = some (.slice pv j pc)) w4 := (far _ 5 (by omega) hpo).trans hSX
            have hT4 : (fun w' : World => w'.cell? ⟨w.heap.size, 5, none⟩ = some (.slice (some ⟨b', off, none⟩) d.T.length ct) ∧ w'.cell? ⟨b', off + j * 6, none⟩ = some (.int .i64 x.K) ∧ w'.cell? ⟨b', off + j * 6 + 1, none⟩ = some (.int .i64 x.N) ∧ w'.cell? ⟨b', off + j * 6 + 2, none⟩ = some (.string x.S) ∧ w'.cell? ⟨b', off + j * 6 + 3, none⟩ = some (.slice am2 x.M.length cm2) ∧ w'.cell? ⟨b', off + j * 6 + 4, none⟩ = some (.slice al2 x.L.length cl2) ∧ w'.cell? ⟨b', off + j * 6 + 5, none⟩ = some (.slice at2 x.T.length ct2)) w4 := ⟨(far _ 5 (by omega) hpq).trans hTX.1, (far b' _ (by omega) hpb).trans hTX.2.1, (far b' _ (by omega) hpb).trans hTX.2.2.1, (far b' _ (by omega) hpb).trans hTX.2.2.2.1, (far b' _ (by omega) hpb).trans hTX.2.2.2.2.1, (far b' _ (by omega) hpb).trans hTX.2.2.2.2.2.1, (far b' _ (by omega) hpb).trans hTX.2.2.2.2.2.2⟩
            have or4 : w4.cell? ⟨w.heap.size + 2, 5, none⟩ = some (.slice pv j pc) := hS4
            have orf4 : w4.frozen? ⟨w.heap.size + 2, 5, none⟩ = false := (hg1.frozen_far (a := ⟨w.heap.size + 2, 5, none⟩) (by show w.heap.size + 2 < _; omega) (fun h => hpo h.symm)).trans ((hrX.frozen (p := ⟨w.heap.size + 2, 5, none⟩) hqr).trans orf)
            refine hK.out _ _ ⟨fun _ => hS4, hT4⟩ ?_
            clear hK K
            simp only [Act.put, List.setIfInBounds_toArray, List.set_cons_zero, List.set_cons_succ]
            refine Od.Till.takeT (i := 11) (d := 59) (v := .pointer (some ⟨w.heap.size + 2, 5, none⟩)) rfl rfl (by kernel_rfl) (by kernel_rfl) (by kernel_rfl) (by kernel_rfl) (fun _ _ _ h => h) (.inl ⟨by rfl, ?_⟩) hS4 hT4 ?_
            · intro wx hSw
              obtain ⟨j0, j1, j2, j3, j4, j5, j6⟩ := hSw
              go_simp
            simp only [Act.put, List.setIfInBounds_toArray, List.set_cons_zero, List.set_cons_succ]
            have HM := Lib.hid hm
            clear hm hS0 hT0 hS2 hT2 hSX hTX hT4 hS4 ownX hown1 far
            refine Od.Till.one (i := 12) (by kernel_rfl) rfl (fun K hK => ?_)
            rw [if_pos (by kernel_rfl)]
            go_simp
            refine hK.out _ _ ⟨fun h => absurd h (by decide), ⟨(set_ne _ _ _ _ _ _ (.inl (by omega))).trans ((hg1.cell_far _ (by show w.heap.size < _; omega) (fun h => hpq h.symm)).trans ((hrX.cell (p := ⟨w.heap.size, 5, none⟩) hqr0).trans pr5)), (set_ne _ _ _ _ _ _ (.inl (by omega))).trans ((hg1.cell_far _ (by show b' < _; omega) (fun h => hpb h.symm)).trans ((hrX.cell (by show b' < wr.heap.size; omega)).trans c0)), (set_ne _ _ _ _ _ _ (.inl (by omega))).trans ((hg1.cell_far _ (by show b' < _; omega) (fun h => hpb h.symm)).trans ((hrX.cell (by show b' < wr.heap.size; omega)).trans c1)), (set_ne _ _ _ _ _ _ (.inl (by omega))).trans ((hg1.cell_far _ (by show b' < _; omega) (fun h => hpb h.symm)).trans ((hrX.cell (by show b' < wr.heap.size; omega)).trans c2)), (set_ne _ _ _ _ _ _ (.inl (by omega))).trans ((hg1.cell_far _ (by show b' < _; omega) (fun h => hpb h.symm)).trans ((hrX.cell (by show b' < wr.heap.size; omega)).trans c3)), (set_ne _ _ _ _ _ _ (.inl (by omega))).trans ((hg1.cell_far _ (by show b' < _; omega) (fun h => hpb h.symm)).trans ((hrX.cell (by show b' < wr.heap.size; omega)).trans c4)), (set_ne _ _ _ _ _ _ (.inl (by omega))).trans ((hg1.cell_far _ (by show b' < _; omega) (fun h => hpb h.symm)).trans ((hrX.cell (by show b' < wr.heap.size; omega)).trans c5))⟩⟩ (Od.Till.done (by kernel_rfl) ?_)
            clear hK K
            generalize w4.setCell ⟨w.heap.size + 2, 5, none⟩ (.slice (some ⟨g', 0, none⟩) (j + 1) cap2) = W5 at *
            go_wp2_with fail
            go_roundw
            case rel => exact ⟨j + 1, by omega, by go_num, by rw [take_snoc_dt _ _ _ Hx.out]; exact HM.out⟩
            case measure => simp [intOf]; omega
          · have dl : decide ((j : Int) < (d.T.length : Int)) = false := by simp [hlj]
            have hje : d.T.take j = d.T := List.take_of_length_le (by omega)
            have hfin : RowAt false W3 (w.heap.size + 2) 5 #[.int .i64 d.K, .int .i64 d.N, .string d.S, .slice none 0 0, .slice la d.L.length lc, .slice none 0 0] d.T wr := ⟨pv, pc, xs, HR.out.1, by have h := HR.out.2.1; rw [← HTL.out, hje] at h; exact h, by have h := HR.out.2.2.1; rw [← HTL.out, hje] at h; exact h, by have h := HR.out.2.2.2; rw [hje] at h; exact h⟩
            have HF := Lib.hid hfin
            clear hje hfin HR
            obtain ⟨ta, tc, hbo, hf3, hts1, htd⟩ := HF.out.dts ht1
            have hsz := hf3.size
            have br : Blk wr (w.heap.size + 1) 33 #[.int .i64 0, .int .i64 0, .string ⟨#[]⟩, .slice none 0 0, .slice none 0 0, .slice none 0 0] := (hf3.block _ (by have := H3.out.size; omega) (by omega)).trans HR3.out
            have bo : Blk wr (w.heap.size + 2) 33 #[.int .i64 d.K, .int .i64 d.N, .string d.S, .slice none 0 0, .slice la d.L.length lc, .slice ta d.T.length tc] := hbo.trans rfl
            have r0 : wr.cell? ⟨w.heap.size + 1, 0, none⟩ = some (.int .i64 0) := (br.cell 0).trans rfl
            have rf0 := br.frozen 0
            have o0 : wr.cell? ⟨w.heap.size + 2, 0, none⟩ = some (.int .i64 d.K) := (bo.cell 0).trans rfl
            have r1 : wr.cell? ⟨w.heap.size + 1, 1, none⟩ = some (.int .i64 0) := (br.cell 1).trans rfl
            have rf1 := br.frozen 1
            have o1 : wr.cell? ⟨w.heap.size + 2, 1, none⟩ = some (.int .i64 d.N) := (bo.cell 1).trans rfl
            have r2 : wr.cell? ⟨w.heap.size + 1, 2, none⟩ = some (.string ⟨#[]⟩) := (br.cell 2).trans rfl
            have rf2 := br.frozen 2
            have o2 : wr.cell? ⟨w.heap.size + 2, 2, none⟩ = some (.string d.S) := (bo.cell 2).trans rfl
            have r3 : wr.cell? ⟨w.heap.size + 1, 3, none⟩ = some (.slice none 0 0) := (br.cell 3).trans rfl
            have rf3 := br.frozen 3
            have o3 : wr.cell? ⟨w.heap.size + 2, 3, none⟩ = some (.slice none 0 0) := (bo.cell 3).trans rfl
            have r4 : wr.cell? ⟨w.heap.size + 1, 4, none⟩ = some (.slice none 0 0) := (br.cell 4).trans rfl
            have rf4 := br.frozen 4
            have o4 : wr.cell? ⟨w.heap.size + 2, 4, none⟩ = some (.slice la d.L.length lc) := (bo.cell 4).trans rfl
            have r5 : wr.cell? ⟨w.heap.size + 1, 5, none⟩ = some (.slice none 0 0) := (br.cell 5).trans rfl
            have rf5 := br.frozen 5
            have o5 : wr.cell? ⟨w.heap.size + 2, 5, none⟩ = some (.slice ta d.T.length tc) := (bo.cell 5).trans rfl
            have hlr : w.heap.size + 1 < wr.heap.size := by omega
            have HBO := Lib.hid (And.intro hf3 (And.intro hts1 htd))
            clear hbo hf3 hts1 htd br bo or orf
            go_wp2_with fail
            obtain ⟨hsf, hss⟩ := HBO.out
            refine bodyPost_ret (v := .agg #[.int .i64 d.K, .int .i64 d.N, .string d.S, .slice none 0 0, .slice la d.L.length lc, .slice ta d.T.length tc]) ?_ rfl ?_
            · simp [results, Try.results51, go_sem, r0, r1, r2, r3, r4, r5, hlr]
            · exact made_fin (mk := false) H2.out HMR.out HLD.out.1 HLD.out.2.1 HLD.out.2.2 HBO.out.1 HBO.out.2.1 HBO.out.2.2 wk wn ws (set6_fr wr (w.heap.size + 1) 0 _ _ _ _ _ _)
  · have hmX : IntRow (((w.alloc (.cells #[.int .i64 d.K, .int .i64 d.N, .string d.S, .slice am d.M.length cm, .slice al d.L.length cl, .slice at_ d.T.length ct] 33)).alloc (.cells #[.int .i64 0, .int .i64 0, .string ⟨#[]⟩, .slice none 0 0, .slice none 0 0, .slice none 0 0] 33)).alloc (.cells #[.int .i64 d.K, .int .i64 d.N, .string d.S, .slice none 0 0, .slice none 0 0, .slice none 0 0] 33)) (Lo B) am d.M.length cm d.M := Hm.out.keep (fun _ h => h) (fun b o hb => hb0.cell (p := ⟨b, o, none⟩) (Nat.lt_of_lt_of_le hb hBw))
    obtain ⟨a', c', w', hrun, hbm, him⟩ := append_ints 30 hmX
    have h2 : Blk w' (w.heap.size + 2) 33 #[.int .i64 d.K, .int .i64 d.N, .string d.S, .slice none 0 0, .slice none 0 0, .slice none 0 0] := (hbm.block _ (by omega)).trans g2
    have h1 : Blk w' (w.heap.size + 1) 33 #[.int .i64 0, .int .i64 0, .string ⟨#[]⟩, .slice none 0 0, .slice none 0 0, .slice none 0 0] := (hbm.block _ (by omega)).trans g1
    have h0 : Blk w' w.heap.size 33 #[.int .i64 d.K, .int .i64 d.N, .string d.S, .slice am d.M.length cm, .slice al d.L.length cl, .slice at_ d.T.length ct] := (hbm.block _ (by omega)).trans g0
    have o3 : w'.cell? ⟨w.heap.size + 2, 3, none⟩ = some (.slice none 0 0) := (h2.cell 3).trans rfl
    have f3 := h2.frozen 3
    have hszm := hbm.size
    have l3 : w.heap.size + 2 < w'.heap.size := by omega
    rw [hs0] at him hbm hszm
    have Hrun := Lib.hid hrun
    have H0 := Lib.hid (And.intro (hb0.trans (hbm.mono (by omega))) (And.intro hszm (And.intro h0 (And.intro h1 (And.intro h2 him)))))
    clear hb0 hs0 g0 g1 g2 hmX hrun hbm him h0 h1 h2 hszm
    go_enter Try.func51, Try.ntmps51
    go_wp2_with (at_builtin; refine wpList_append_run rfl _ _ _ rfl _ _ _ rfl rfl Hrun.out ?_)
    obtain ⟨hb0, hs0, g0, g1, g2, him⟩ := H0.out
    clear H0
    have e2 : Blk (w'.setCell ⟨w.heap.size + 2, 3, none⟩ (.slice a' d.M.length c')) (w.heap.size + 2) 33 #[.int .i64 d.K, .int .i64 d.N, .string d.S, .slice a' d.M.length c', .slice none 0 0, .slice none 0 0] := (blk_set g2 3 _).trans rfl
    have e1 : Blk (w'.setCell ⟨w.heap.size + 2, 3, none⟩ (.slice a' d.M.length c')) (w.heap.size + 1) 33 #[.int .i64 0, .int .i64 0, .string ⟨#[]⟩, .slice none 0 0, .slice none 0 0, .slice none 0 0] := (Below.heap_setCell _ _ _ _ (by show w.heap.size + 1 ≠ w.heap.size + 2; omega)).trans g1
    have e0 : Blk (w'.setCell ⟨w.heap.size + 2, 3, none⟩ (.slice a' d.M.length c')) w.heap.size 33 #[.int .i64 d.K, .int .i64 d.N, .string d.S, .slice am d.M.length cm, .slice al d.L.length cl, .slice at_ d.T.length ct] := (Below.heap_setCell _ _ _ _ (by show w.heap.size ≠ w.heap.size + 2; omega)).trans g0
    have eb : Below w.heap.size w (w'.setCell ⟨w.heap.size + 2, 3, none⟩ (.slice a' d.M.length c')) := hb0.setCell (p := ⟨w.heap.size + 2, 3, none⟩) (by show w.heap.size ≤ w.heap.size + 2; omega) _
    have es : (w'.setCell ⟨w.heap.size + 2, 3, none⟩ (.slice a' d.M.length c')).heap.size = w'.heap.size := by simp [World.setCell]
    have em : IntRow (w'.setCell ⟨w.heap.size + 2, 3, none⟩ (.slice a' d.M.length c')) (Rg (w.heap.size + 3) w'.heap.size) a' d.M.length c' d.M := him.keep (fun _ h => h) (fun b o hb => World.cell?_setCell_other _ _ _ _ (fun e => by cases e; have := hb.1; omega))
    rw [← es] at em
    clear o3 f3 l3 g0 g1 g2 hb0 him Hrun
    generalize w'.setCell ⟨w.heap.size + 2, 3, none⟩ (.slice a' d.M.length c') = W2 at *
    have H2 := Lib.hid (show MadeSt w W2 from ⟨eb, by omega⟩)
    have HQ := Lib.hid e0
    have HR0 := Lib.hid e1
    have HO := Lib.hid e2
    have HMR := Lib.hid (show IntRow W2 (Rg (w.heap.size + 3) W2.heap.size) a' (if true = true then d.M else []).length c' (if true = true then d.M else []) from em)
    clear e0 e1 e2 eb em es
    go_loopw [6] (fun i wr => MadeAt true W2 (w.heap.size + 2) 4 #[.int .i64 d.K, .int .i64 d.N, .string d.S, .slice a' d.M.length c', .slice none 0 0, .slice none 0 0] d.L i wr) (fun i _ => d.L.length - (intOf i).toNat)
    case atStart => exact RowAt.start _ _ _ _ _ _ HO.out
    case round =>
      obtain ⟨j, hj, rfl, pv, pc, xs, hf, hb, ho, hr⟩ := hrel
      have htl : (d.L.take j).length = j := by rw [List.length_take]; omega
      rw [htl] at hb ho
      have hsr := hf.size
      have pr : Blk wr w.heap.size 33 #[.int .i64 d.K, .int .i64 d.N, .string d.S, .slice am d.M.length cm, .slice al d.L.length cl, .slice at_ d.T.length ct] := (hf.block _ (by have := H2.out.size; omega) (by omega)).trans HQ.out
      have pr4 : wr.cell? ⟨w.heap.size, 4, none⟩ = some (.slice al d.L.length cl) := (pr.cell 4).trans rfl
      have or : wr.cell? ⟨w.heap.size + 2, 4, none⟩ = some (.slice pv j pc) := (hb.cell 4).trans rfl
      have orf : wr.frozen? ⟨w.heap.size + 2, 4, none⟩ = false := hb.frozen 4
      have hqr : w.heap.size + 2 < wr.heap.size := by have := H2.out.size; omega
      have hqr0 : w.heap.size < wr.heap.size := by omega
      have hbr : Below w.heap.size w wr := H2.out.below.trans (hf.below (by have := H2.out.size; omega) (fun i hi hs => by omega))
      have HR := Lib.hid (And.intro hf (And.intro hb (And.intro ho hr)))
      have Hbr := Lib.hid hbr
      have HTL := Lib.hid htl
      clear hf hb ho hr hbr pr htl
      by_cases hlj : j < d.L.length
      · have dl : decide ((j : Int) < (d.L.length : Int)) = true := by simp [hlj]
        obtain ⟨x, hx⟩ : ∃ x, d.L[j]? = some x := ⟨d.L[j], by simp [hlj]⟩
        obtain ⟨b', off, am2, cm2, al2, cl2, at2, ct2, rfl, hb', hsix, hix⟩ := Hls.out.at6 j x hx
        have hbw : b' < w.heap.size := Nat.lt_of_lt_of_le hb' hBw
        obtain ⟨c0, c1, c2, c3, c4, c5⟩ := hsix.keep (w' := wr) (fun o => Hbr.out.cell (p := ⟨b', o, none⟩) hbw)
        have k0 : (0 : Int) ≤ (j : Int) := Int.natCast_nonneg _
        have k1 : (j : Int) < (d.L.length : Int) := by omega
        have Hx := Lib.hid hx
        have Hix := Lib.hid (hix.below (Hbr.out.mono hBw))
        have hjm : j * 104 ≤ 140737488351232 := by omega
        clear hx hix hsix
        go_wp2_with fail
        refine Od.till_region 12 (fun w' : World => w'.cell? ⟨w.heap.size + 2, 4, none⟩ = some (.slice pv j pc)) (fun w' : World => w'.cell? ⟨w.heap.size, 4, none⟩ = some (.slice (some ⟨b', off, none⟩) d.L.length cl) ∧ w'.cell? ⟨b', off + j * 6, none⟩ = some (.int .i64 x.K) ∧ w'.cell? ⟨b', off + j * 6 + 1, none⟩ = some (.int .i64 x.N) ∧ w'.cell? ⟨b', off + j * 6 + 2, none⟩ = some (.string x.S) ∧ w'.cell? ⟨b', off + j * 6 + 3, none⟩ = some (.slice am2 x.M.length cm2) ∧ w'.cell? ⟨b', off + j * 6 + 4, none⟩ = some (.slice al2 x.L.length cl2) ∧ w'.cell? ⟨b', off + j * 6 + 5, none⟩ = some (.slice at2 x.T.length ct2)) 13 (by kernel_rfl) rfl ?_
        simp only [Array.replicate_succ, Array.replicate_zero, List.push_toArray, List.nil_append, List.cons_append]
        have hS0 : (fun w' : World => w'.cell? ⟨w.heap.size + 2, 4, none⟩ = some (.slice pv j pc)) wr.drew := or
        have hT0 : (fun w' : World => w'.cell? ⟨w.heap.size, 4, none⟩ = some (.slice (some ⟨b', off, none⟩) d.L.length cl) ∧ w'.cell? ⟨b', off + j * 6, none⟩ = some (.int .i64 x.K) ∧ w'.cell? ⟨b', off + j * 6 + 1, none⟩ = some (.int .i64 x.N) ∧ w'.cell? ⟨b', off + j * 6 + 2, none⟩ = some (.string x.S) ∧ w'.cell? ⟨b', off + j * 6 + 3, none⟩ = some (.slice am2 x.M.length cm2) ∧ w'.cell? ⟨b', off + j * 6 + 4, none⟩ = some (.slice al2 x.L.length cl2) ∧ w'.cell? ⟨b', off + j * 6 + 5, none⟩ = some (.slice at2 x.T.length ct2)) wr.drew := ⟨pr4, c0, c1, c2, c3, c4, c5⟩
        refine Od.Till.take (i := 0) (d := 29) (v := .pointer (some ⟨w.heap.size + 2, 4, none⟩)) rfl rfl (by kernel_rfl) (by kernel_rfl) (by kernel_rfl) (by kernel_rfl) (fun _ _ _ h => h) (.inl ⟨by rfl, ?_⟩) hS0 hT0 ?_
        · intro wx hSw
          have j0 := hSw
          go_simp
        simp only [Act.put, List.setIfInBounds_toArray, List.set_cons_zero, List.set_cons_succ]
        refine Od.Till.take (i := 1) (d := 30) (v := .slice pv j pc) rfl rfl (by kernel_rfl) (by kernel_rfl) (by kernel_rfl) (by kernel_rfl) (fun _ _ _ h => h) (.inl ⟨by rfl, ?_⟩) hS0 hT0 ?_
        · intro wx hSw
          have j0 := hSw
          go_simp
        simp only [Act.put, List.setIfInBounds_toArray, List.set_cons_zero, List.set_cons_succ]
        refine Od.Till.takeT (i := 2) (d := 31) (v := .pointer (some ⟨w.heap.size, 4, none⟩)) rfl rfl (by kernel_rfl) (by kernel_rfl) (by kernel_rfl) (by kernel_rfl) (fun _ _ _ h => h) (.inl ⟨by rfl, ?_⟩) hS0 hT0 ?_
        · intro wx hSw
          obtain ⟨j0, j1, j2, j3, j4, j5, j6⟩ := hSw
          go_simp
        simp only [Act.put, List.setIfInBounds_toArray, List.set_cons_zero, List.set_cons_succ]
        refine Od.Till.takeT (i := 3) (d := 32) (v := .slice (some ⟨b', off, none⟩) d.L.length cl) rfl rfl (by kernel_rfl) (by kernel_rfl) (by kernel_rfl) (by kernel_rfl) (fun _ _ _ h => h) (.inl ⟨by rfl, ?_⟩) hS0 hT0 ?_
        · intro wx hSw
          obtain ⟨j0, j1, j2, j3, j4, j5, j6⟩ := hSw
          go_simp
        simp only [Act.put, List.setIfInBounds_toArray, List.set_cons_zero, List.set_cons_succ]
        refine Od.Till.takeT (i := 4) (d := 33) (v := .int .i64 (j : Int)) rfl rfl (by kernel_rfl) (by kernel_rfl) (by kernel_rfl) (by kernel_rfl) (fun _ _ _ h => h) (.inl ⟨by rfl, ?_⟩) hS0 hT0 ?_
        · intro wx hSw
          obtain ⟨j0, j1, j2, j3, j4, j5, j6⟩ := hSw
          go_simp
        simp only [Act.put, List.setIfInBounds_toArray, List.set_cons_zero, List.set_cons_succ]
        refine Od.Till.takeT (i := 5) (d := 34) (v := .pointer (some ⟨b', off + j * 6, none⟩)) rfl rfl (by kernel_rfl) (by kernel_rfl) (by kernel_rfl) (by kernel_rfl) (fun _ _ _ h => h) (.inl ⟨by rfl, ?_⟩) hS0 hT0 ?_
        · intro wx hSw
          obtain ⟨j0, j1, j2, j3, j4, j5, j6⟩ := hSw
          go_simp
          try (intro h; omega)
        simp only [Act.put, List.setIfInBounds_toArray, List.set_cons_zero, List.set_cons_succ]
        refine Od.Till.takeT (i := 6) (d := 35) (v := .agg #[.int .i64 x.K, .int .i64 x.N, .string x.S, .slice am2 x.M.length cm2, .slice al2 x.L.length cl2, .slice at2 x.T.length ct2]) rfl rfl (by kernel_rfl) (by kernel_rfl) (by kernel_rfl) (by kernel_rfl) (fun _ _ _ h => h) (.inl ⟨by rfl, ?_⟩) hS0 hT0 ?_
        · intro wx hSw
          obtain ⟨j0, j1, j2, j3, j4, j5, j6⟩ := hSw
          go_simp
        simp only [Act.put, List.setIfInBounds_toArray, List.set_cons_zero, List.set_cons_succ]
        refine Od.Till.takeT (i := 7) (d := 36) (v := .bool true) rfl rfl (by kernel_rfl) (by kernel_rfl) (by kernel_rfl) (by kernel_rfl) (fun _ _ _ h => h) (.inl ⟨by rfl, ?_⟩) hS0 hT0 ?_
        · intro wx hSw
          obtain ⟨j0, j1, j2, j3, j4, j5, j6⟩ := hSw
          go_simp
        simp only [Act.put, List.setIfInBounds_toArray, List.set_cons_zero, List.set_cons_succ]
        refine Od.Till.one (i := 8) (by kernel_rfl) rfl (fun K hK => ?_)
        go_simp
        refine (IHL.out x (List.mem_of_getElem? Hx.out) _ B wr.drew (IsDt.keep (w := wr) (w' := wr.drew) (fun _ h => h) (fun _ _ _ => rfl) _ _ Hix.out) (by show B ≤ wr.heap.size; omega)).mono ?_
        rintro e w2 ⟨v', rfl, hb2, hi2⟩
        have hi' := hi2
        obtain ⟨am3, cm3, al3, cl3, at3, ct3, rfl, _⟩ := hi'.open_
        replace hb2 : Below wr.heap.size wr w2 := ⟨hb2.os, hb2.tape, hb2.output, hb2.size, hb2.block⟩
        replace hi2 : IsDt w2 (Rg wr.heap.size w2.heap.size) _ _ := hi2
        have hS2 : (fun w' : World => w'.cell? ⟨w.heap.size + 2, 4, none⟩ = some (.slice pv j pc)) w2 := (hb2.cell (p := ⟨w.heap.size + 2, 4, none⟩) hqr).trans or
        have hT2 : (fun w' : World => w'.cell? ⟨w.heap.size, 4, none⟩ = some (.slice (some ⟨b', off, none⟩) d.L.length cl) ∧ w'.cell? ⟨b', off + j * 6, none⟩ = some (.int .i64 x.K) ∧ w'.cell? ⟨b', off + j * 6 + 1, none⟩ = some (.int .i64 x.N) ∧ w'.cell? ⟨b', off + j * 6 + 2, none⟩ = some (.string x.S) ∧ w'.cell? ⟨b', off + j * 6 + 3, none⟩ = some (.slice am2 x.M.length cm2) ∧ w'.cell? ⟨b', off + j * 6 + 4, none⟩ = some (.slice al2 x.L.length cl2) ∧ w'.cell? ⟨b', off + j * 6 + 5, none⟩ = some (.slice at2 x.T.length ct2)) w2 := ⟨(hb2.cell (p := ⟨w.heap.size, 4, none⟩) hqr0).trans pr4, (hb2.cell (by show b' < wr.heap.size; omega)).trans c0, (hb2.cell (by show b' < wr.heap.size; omega)).trans c1, (hb2.cell (by show b' < wr.heap.size; omega)).trans c2, (hb2.cell (by show b' < wr.heap.size; omega)).trans c3, (hb2.cell (by show b' < wr.heap.size; omega)).trans c4, (hb2.cell (by show b' < wr.heap.size; omega)).trans c5⟩
        have Hb2 := Lib.hid hb2
        have Hi2 := Lib.hid hi2
        clear hi2 hi'
        refine hK.out _ _ ⟨fun _ => hS2, hT2⟩ ?_
        clear hK K
        simp only [Act.put, List.setIfInBounds_toArray, List.set_cons_zero, List.set_cons_succ]
        refine Od.Till.one (i := 9) (by kernel_rfl) rfl (fun K hK => ?_)
        go_simp
        obtain ⟨i0, hi, hy0, hy1, hy2⟩ := info_parts datum_info
        have hX : Below w2.heap.size w2 (w2.alloc (.cells #[.int .i64 (madeD true x).K, .int .i64 (madeD true x).N, .string (madeD true x).S, .slice am3 (madeD true x).M.length cm3, .slice al3 (madeD true x).L.length cl3, .slice at3 (madeD true x).T.length ct3] 33)) := bel_alloc _ _
        have gX : Blk (w2.alloc (.cells #[.int .i64 (madeD true x).K, .int .i64 (madeD true x).N, .string (madeD true x).S, .slice am3 (madeD true x).M.length cm3, .slice al3 (madeD true x).L.length cl3, .slice at3 (madeD true x).T.length ct3] 33)) w2.heap.size 33 #[.int .i64 (madeD true x).K, .int .i64 (madeD true x).N, .string (madeD true x).S, .slice am3 (madeD true x).M.length cm3, .slice al3 (madeD true x).L.length cl3, .slice at3 (madeD true x).T.length ct3] := heap_alloc_new w2 _
        have sX : (w2.alloc (.cells #[.int .i64 (madeD true x).K, .int .i64 (madeD true x).N, .string (madeD true x).S, .slice am3 (madeD true x).M.length cm3, .slice al3 (madeD true x).L.length cl3, .slice at3 (madeD true x).T.length ct3] 33)).heap.size = w2.heap.size + 1 := by simp
        generalize w2.alloc (.cells #[.int .i64 (madeD true x).K, .int .i64 (madeD true x).N, .string (madeD true x).S, .slice am3 (madeD true x).M.length cm3, .slice al3 (madeD true x).L.length cl3, .slice at3 (madeD true x).T.length ct3] 33) = X at *
        have hrX : Below wr.heap.size wr X := hb2.trans (hX.mono hb2.size)
        have hSX : (fun w' : World => w'.cell? ⟨w.heap.size + 2, 4, none⟩ = some (.slice pv j pc)) X := (hrX.cell (p := ⟨w.heap.size + 2, 4, none⟩) hqr).trans or
        have hTX : (fun w' : World => w'.cell? ⟨w.heap.size, 4, none⟩ = some (.slice (some ⟨b', off, none⟩) d.L.length cl) ∧ w'.cell? ⟨b', off + j * 6, none⟩ = some (.int .i64 x.K) ∧ w'.cell? ⟨b', off + j * 6 + 1, none⟩ = some (.int .i64 x.N) ∧ w'.cell? ⟨b', off + j * 6 + 2, none⟩ = some (.string x.S) ∧ w'.cell? ⟨b', off + j * 6 + 3, none⟩ = some (.slice am2 x.M.length cm2) ∧ w'.cell? ⟨b', off + j * 6 + 4, none⟩ = some (.slice al2 x.L.length cl2) ∧ w'.cell? ⟨b', off + j * 6 + 5, none⟩ = some (.slice at2 x.T.length ct2)) X := ⟨(hrX.cell (p := ⟨w.heap.size, 4, none⟩) hqr0).trans pr4, (hrX.cell (by show b' < wr.heap.size; omega)).trans c0, (hrX.cell (by show b' < wr.heap.size; omega)).trans c1, (hrX.cell (by show b' < wr.heap.size; omega)).trans c2, (hrX.cell (by show b' < wr.heap.size; omega)).trans c3, (hrX.cell (by show b' < wr.heap.size; omega)).trans c4, (hrX.cell (by show b' < wr.heap.size; omega)).trans c5⟩
        have ownX : X.ownsRow W2.heap.size 33 6 (.slice pv j pc) j xs := own_stay HR.out.2.2.1 (fun g _ hg => hrX.block g hg)
        refine hK.out _ _ ⟨fun _ => hSX, hTX⟩ ?_
        clear hK K
        refine Od.Till.one (i := 10) (by kernel_rfl) rfl (fun K hK => ?_)
        rw [if_pos (by kernel_rfl)]
        refine wp_append_lies X (.tmp 30) (.tmp 38) 31 (by rfl) W2.heap.size 33 i0 _ 6 104 Try.underlying31 hi hy0 hy1 hy2 rfl (by omega) (.slice pv j pc) j xs (by rfl) ownX ⟨w2.heap.size, 0, none⟩ 1 1 [.int .i64 (madeD true x).K, .int .i64 (madeD true x).N, .string (madeD true x).S, .slice am3 (madeD true x).M.length cm3, .slice al3 (madeD true x).L.length cl3, .slice at3 (madeD true x).T.length ct3] (by rfl) rfl (fun i u hu => by rw [add_plain, Nat.zero_add, gX.cell i, ← hu]; simp) (by simp [Value.oneCell']) (by omega) (by simp only [maxLen]; omega) (by omega) (by have := hrX.size; omega) X.heap.size rfl ?_
        intro g' cap2 w4 hown1 hg1 hat hlt1
        rw [ob_slice] at hat hg1
        have hm := made_end HTL.out HR.out.1 HR.out.2.1 (by have := H2.out.size; omega) HR.out.2.2.1 HR.out.2.2.2 Hb2.out Hi2.out hX hown1 hg1 hat
        have hpo : ob pv ≠ some (w.heap.size + 2) := fun e => by have := (HR.out.2.2.1.lt (w.heap.size + 2) (by rw [ob_slice]; exact e)).1; have := H2.out.size; omega
        have hpq : ob pv ≠ some w.heap.size := fun e => by have := (HR.out.2.2.1.lt w.heap.size (by rw [ob_slice]; exact e)).1; have := H2.out.size; omega
        have hpb : ob pv ≠ some b' := fun e => by have := (HR.out.2.2.1.lt b' (by rw [ob_slice]; exact e)).1; have := H2.out.size; omega
        have far : ∀ q o, q < X.heap.size → ob pv ≠ some q → w4.cell? ⟨q, o, none⟩ = X.cell? ⟨q, o, none⟩ := fun q o hq hd => hg1.cell_far _ hq (fun h => hd h.symm)
        have sX2 := hrX.size
        have hS4 : (fun w' : World => w'.cell? ⟨w.heap.size + 2, 4, none⟩ = some (.slice pv j pc)) w4 := (far _ 4 (by omega) hpo).trans hSX
        have hT4 : (fun w' : World => w'.cell? ⟨w.heap.size, 4, none⟩ = some (.slice (some ⟨b', off, none⟩) d.L.length cl) ∧ w'.cell? ⟨b', off + j * 6, none⟩ = some (.int .i64 x.K) ∧ w'.cell? ⟨b', off + j * 6 + 1, none⟩ = some (.int .i64 x.N) ∧ w'.cell? ⟨b', off + j * 6 + 2, none⟩ = some (.string x.S) ∧ w'.cell? ⟨b', off + j * 6 + 3, none⟩ = some (.slice am2 x.M.length cm2) ∧ w'.cell? ⟨b', off + j * 6 + 4, none⟩ = some (.slice al2 x.L.length cl2) ∧ w'.cell? ⟨b', off + j * 6 + 5, none⟩ = some (.slice at2 x.T.length ct2)) w4 := ⟨(far _ 4 (by omega) hpq).trans hTX.1, (far b' _ (by omega) hpb).trans hTX.2.1, (far b' _ (by omega) hpb).trans hTX.2.2.1, (far b' _ (by omega) hpb).trans hTX.2.2.2.1, (far b' _ (by omega) hpb).trans hTX.2.2.2.2.1, (far b' _ (by omega) hpb).trans hTX.2.2.2.2.2.1, (far b' _ (by omega) hpb).trans hTX.2.2.2.2.2.2⟩
        have or4 : w4.cell? ⟨w.heap.size + 2, 4, none⟩ = some (.slice pv j pc) := hS4
        have orf4 : w4.frozen? ⟨w.heap.size + 2, 4, none⟩ = false := (hg1.frozen_far (a := ⟨w.heap.size + 2, 4, none⟩) (by show w.heap.size + 2 < _; omega) (fun h => hpo h.symm)).trans ((hrX.frozen (p := ⟨w.heap.size + 2, 4, none⟩) hqr).trans orf)
        refine hK.out _ _ ⟨fun _ => hS4, hT4⟩ ?_
        clear hK K
        simp only [Act.put, List.setIfInBounds_toArray, List.set_cons_zero, List.set_cons_succ]
        refine Od.Till.takeT (i := 11) (d := 40) (v := .pointer (some ⟨w.heap.size + 2, 4, none⟩)) rfl rfl (by kernel_rfl) (by kernel_rfl) (by kernel_rfl) (by kernel_rfl) (fun _ _ _ h => h) (.inl ⟨by rfl, ?_⟩) hS4 hT4 ?_
        · intro wx hSw
          obtain ⟨j0, j1, j2, j3, j4, j5, j6⟩ := hSw
          go_simp
        simp only [Act.put, List.setIfInBounds_toArray, List.set_cons_zero, List.set_cons_succ]
        have HM := Lib.hid hm
        clear hm hS0 hT0 hS2 hT2 hSX hTX hT4 hS4 ownX hown1 far
        refine Od.Till.one (i := 12) (by kernel_rfl) rfl (fun K hK => ?_)
        rw [if_pos (by kernel_rfl)]
        go_simp
        refine hK.out _ _ ⟨fun h => absurd h (by decide), ⟨(set_ne _ _ _ _ _ _ (.inl (by omega))).trans ((hg1.cell_far _ (by show w.heap.size < _; omega) (fun h => hpq h.symm)).trans ((hrX.cell (p := ⟨w.heap.size, 4, none⟩) hqr0).trans pr4)), (set_ne _ _ _ _ _ _ (.inl (by omega))).trans ((hg1.cell_far _ (by show b' < _; omega) (fun h => hpb h.symm)).trans ((hrX.cell (by show b' < wr.heap.size; omega)).trans c0)), (set_ne _ _ _ _ _ _ (.inl (by omega))).trans ((hg1.cell_far _ (by show b' < _; omega) (fun h => hpb h.symm)).trans ((hrX.cell (by show b' < wr.heap.size; omega)).trans c1)), (set_ne _ _ _ _ _ _ (.inl (by omega))).trans ((hg1.cell_far _ (by show b' < _; omega) (fun h => hpb h.symm)).trans ((hrX.cell (by show b' < wr.heap.size; omega)).trans c2)), (set_ne _ _ _ _ _ _ (.inl (by omega))).trans ((hg1.cell_far _ (by show b' < _; omega) (fun h => hpb h.symm)).trans ((hrX.cell (by show b' < wr.heap.size; omega)).trans c3)), (set_ne _ _ _ _ _ _ (.inl (by omega))).trans ((hg1.cell_far _ (by show b' < _; omega) (fun h => hpb h.symm)).trans ((hrX.cell (by show b' < wr.heap.size; omega)).trans c4)), (set_ne _ _ _ _ _ _ (.inl (by omega))).trans ((hg1.cell_far _ (by show b' < _; omega) (fun h => hpb h.symm)).trans ((hrX.cell (by show b' < wr.heap.size; omega)).trans c5))⟩⟩ (Od.Till.done (by kernel_rfl) ?_)
        clear hK K
        generalize w4.setCell ⟨w.heap.size + 2, 4, none⟩ (.slice (some ⟨g', 0, none⟩) (j + 1) cap2) = W5 at *
        go_wp2_with fail
        go_roundw
        case rel => exact ⟨j + 1, by omega, by go_num, by rw [take_snoc_dt _ _ _ Hx.out]; exact HM.out⟩
        case measure => simp [intOf]; omega
      · have dl : decide ((j : Int) < (d.L.length : Int)) = false := by simp [hlj]
        have hje : d.L.take j = d.L := List.take_of_length_le (by omega)
        have hfin : RowAt true W2 (w.heap.size + 2) 4 #[.int .i64 d.K, .int .i64 d.N, .string d.S, .slice a' d.M.length c', .slice none 0 0, .slice none 0 0] d.L wr := ⟨pv, pc, xs, HR.out.1, by have h := HR.out.2.1; rw [← HTL.out, hje] at h; exact h, by have h := HR.out.2.2.1; rw [← HTL.out, hje] at h; exact h, by have h := HR.out.2.2.2; rw [hje] at h; exact h⟩
        have HF := Lib.hid hfin
        clear hje hfin HR
        obtain ⟨la, lc, hbo, hf3, hls1, hld⟩ := HF.out.dts hl1
        have hsz := hf3.size
        have bo : Blk wr (w.heap.size + 2) 33 #[.int .i64 d.K, .int .i64 d.N, .string d.S, .slice a' d.M.length c', .slice la d.L.length lc, .slice none 0 0] := hbo.trans rfl
        have bq : Blk wr w.heap.size 33 #[.int .i64 d.K, .int .i64 d.N, .string d.S, .slice am d.M.length cm, .slice al d.L.length cl, .slice at_ d.T.length ct] := (hf3.block _ (by have := H2.out.size; omega) (by omega)).trans HQ.out
        have br : Blk wr (w.heap.size + 1) 33 #[.int .i64 0, .int .i64 0, .string ⟨#[]⟩, .slice none 0 0, .slice none 0 0, .slice none 0 0] := (hf3.block _ (by have := H2.out.size; omega) (by omega)).trans HR0.out
        have HQ3 := Lib.hid bq
        have HR3 := Lib.hid br
        have HO3 := Lib.hid bo
        have H3 := Lib.hid (MadeSt.more H2.out hf3)
        have HLD := Lib.hid (And.intro hf3 (And.intro hls1 hld))
        clear hbo hf3 hls1 hld bo bq br HF
        go_wp2_with fail
        clear or orf pr4 Hbr hqr hqr0
        obtain ⟨W3, hW3⟩ : ∃ W3 : World, W3 = wr := ⟨_, rfl⟩
        subst hW3
        go_loopw [7] (fun i wr => MadeAt true W3 (w.heap.size + 2) 5 #[.int .i64 d.K, .int .i64 d.N, .string d.S, .slice a' d.M.length c', .slice la d.L.length lc, .slice none 0 0] d.T i wr) (fun i _ => d.T.length - (intOf i).toNat)
        case atStart => exact RowAt.start _ _ _ _ _ _ HO3.out
        case round =>
          obtain ⟨j, hj, rfl, pv, pc, xs, hf, hb, ho, hr⟩ := hrel
          have htl : (d.T.take j).length = j := by rw [List.length_take]; omega
          rw [htl] at hb ho
          have hsr := hf.size
          have pr : Blk wr w.heap.size 33 #[.int .i64 d.K, .int .i64 d.N, .string d.S, .slice am d.M.length cm, .slice al d.L.length cl, .slice at_ d.T.length ct] := (hf.block _ (by have := H3.out.size; omega) (by omega)).trans HQ3.out
          have pr5 : wr.cell? ⟨w.heap.size, 5, none⟩ = some (.slice at_ d.T.length ct) := (pr.cell 5).trans rfl
          have or : wr.cell? ⟨w.heap.size + 2, 5, none⟩ = some (.slice pv j pc) := (hb.cell 5).trans rfl
          have orf : wr.frozen? ⟨w.heap.size + 2, 5, none⟩ = false := hb.frozen 5
          have hqr : w.heap.size + 2 < wr.heap.size := by have := H3.out.size; omega
          have hqr0 : w.heap.size < wr.heap.size := by omega
          have hbr : Below w.heap.size w wr := H3.out.below.trans (hf.below (by have := H3.out.size; omega) (fun i hi hs => by omega))
          have HR := Lib.hid (And.intro hf (And.intro hb (And.intro ho hr)))
          have Hbr := Lib.hid hbr
          have HTL := Lib.hid htl
          clear hf hb ho hr hbr pr htl
          by_cases hlj : j < d.T.length
          · have dl : decide ((j : Int) < (d.T.length : Int)) = true := by simp [hlj]
            obtain ⟨x, hx⟩ : ∃ x, d.T[j]? = some x := ⟨d.T[j], by simp [hlj]⟩
            obtain ⟨b', off, am2, cm2, al2, cl2, at2, ct2, rfl, hb', hsix, hix⟩ := Hts.out.at6 j x hx
            have hbw : b' < w.heap.size := Nat.lt_of_lt_of_le hb' hBw
            obtain ⟨c0, c1, c2, c3, c4, c5⟩ := hsix.keep (w' := wr) (fun o => Hbr.out.cell (p := ⟨b', o, none⟩) hbw)
            have k0 : (0 : Int) ≤ (j : Int) := Int.natCast_nonneg _
            have k1 : (j : Int) < (d.T.length : Int) := by omega
            have Hx := Lib.hid hx
            have Hix := Lib.hid (hix.below (Hbr.out.mono hBw))
            have hjm : j * 104 ≤ 140737488351232 := by omega
            clear hx hix hsix
            go_wp2_with fail
            refine Od.till_region 12 (fun w' : World => w'.cell? ⟨w.heap.size + 2, 5, none⟩ = some (.slice pv j pc)) (fun w' : World => w'.cell? ⟨w.heap.size, 5, none⟩ = some (.slice (some ⟨b', off, none⟩) d.T.length ct) ∧ w'.cell? ⟨b', off + j * 6, none⟩ = some (.int .i64 x.K) ∧ w'.cell? ⟨b', off + j * 6 + 1, none⟩ = some (.int .i64 x.N) ∧ w'.cell? ⟨b', off + j * 6 + 2, none⟩ = some (.string x.S) ∧ w'.cell? ⟨b', off + j * 6 + 3, none⟩ = some (.slice am2 x.M.length cm2) ∧ w'.cell? ⟨b', off + j * 6 + 4, none⟩ = some (.slice al2 x.L.length cl2) ∧ w'.cell? ⟨b', off + j * 6 + 5, none⟩ = some (.slice at2 x.T.length ct2)) 13 (by kernel_rfl) rfl ?_
            simp only [Array.replicate_succ, Array.replicate_zero, List.push_toArray, List.nil_append, List.cons_append]
            have hS0 : (fun w' : World => w'.cell? ⟨w.heap.size + 2, 5, none⟩ = some (.slice pv j pc)) wr.drew := or
            have hT0 : (fun w' : World => w'.cell? ⟨w.heap.size, 5, none⟩ = some (.slice (some ⟨b', off, none⟩) d.T.length ct) ∧ w'.cell? ⟨b', off + j * 6, none⟩ = some (.int .i64 x.K) ∧ w'.cell? ⟨b', off + j * 6 + 1, none⟩ = some (.int .i64 x.N) ∧ w'.cell? ⟨b', off + j * 6 + 2, none⟩ = some (.string x.S) ∧ w'.cell? ⟨b', off + j * 6 + 3, none⟩ = some (.slice am2 x.M.length cm2) ∧ w'.cell? ⟨b', off + j * 6 + 4, none⟩ = some (.slice al2 x.L.length cl2) ∧ w'.cell? ⟨b', off + j * 6 + 5, none⟩ = some (.slice at2 x.T.length ct2)) wr.drew := ⟨pr5, c0, c1, c2, c3, c4, c5⟩
            refine Od.Till.take (i := 0) (d := 48) (v := .pointer (some ⟨w.heap.size + 2, 5, none⟩)) rfl rfl (by kernel_rfl) (by kernel_rfl) (by kernel_rfl) (by kernel_rfl) (fun _ _ _ h => h) (.inl ⟨by rfl, ?_⟩) hS0 hT0 ?_
            · intro wx hSw
              have j0 := hSw
              go_simp
            simp only [Act.put, List.setIfInBounds_toArray, List.set_cons_zero, List.set_cons_succ]
            refine Od.Till.take (i := 1) (d := 49) (v := .slice pv j pc) rfl rfl (by kernel_rfl) (by kernel_rfl) (by kernel_rfl) (by kernel_rfl) (fun _ _ _ h => h) (.inl ⟨by rfl, ?_⟩) hS0 hT0 ?_
            · intro wx hSw
              have j0 := hSw
              go_simp
            simp only [Act.put, List.setIfInBounds_toArray, List.set_cons_zero, List.set_cons_succ]
            refine Od.Till.takeT (i := 2) (d := 50) (v := .pointer (some ⟨w.heap.size, 5, none⟩)) rfl rfl (by kernel_rfl) (by kernel_rfl) (by kernel_rfl) (by kernel_rfl) (fun _ _ _ h => h) (.inl ⟨by rfl, ?_⟩) hS0 hT0 ?_
            · intro wx hSw
              obtain ⟨j0, j1, j2, j3, j4, j5, j6⟩ := hSw
              go_simp
            simp only [Act.put, List.setIfInBounds_toArray, List.set_cons_zero, List.set_cons_succ]
            refine Od.Till.takeT (i := 3) (d := 51) (v := .slice (some ⟨b', off, none⟩) d.T.length ct) rfl rfl (by kernel_rfl) (by kernel_rfl) (by kernel_rfl) (by kernel_rfl) (fun _ _ _ h => h) (.inl ⟨by rfl, ?_⟩) hS0 hT0 ?_
            · intro wx hSw
              obtain ⟨j0, j1, j2, j3, j4, j5, j6⟩ := hSw
              go_simp
            simp only [Act.put, List.setIfInBounds_toArray, List.set_cons_zero, List.set_cons_succ]
            refine Od.Till.takeT (i := 4) (d := 52) (v := .int .i64 (j : Int)) rfl rfl (by kernel_rfl) (by kernel_rfl) (by kernel_rfl) (by kernel_rfl) (fun _ _ _ h => h) (.inl ⟨by rfl, ?_⟩) hS0 hT0 ?_
            · intro wx hSw
              obtain ⟨j0, j1, j2, j3, j4, j5, j6⟩ := hSw
              go_simp
            simp only [Act.put, List.setIfInBounds_toArray, List.set_cons_zero, List.set_cons_succ]
            refine Od.Till.takeT (i := 5) (d := 53) (v := .pointer (some ⟨b', off + j * 6, none⟩)) rfl rfl (by kernel_rfl) (by kernel_rfl) (by kernel_rfl) (by kernel_rfl) (fun _ _ _ h => h) (.inl ⟨by rfl, ?_⟩) hS0 hT0 ?_
            · intro wx hSw
              obtain ⟨j0, j1, j2, j3, j4, j5, j6⟩ := hSw
              go_simp
              try (intro h; omega)
            simp only [Act.put, List.setIfInBounds_toArray, List.set_cons_zero, List.set_cons_succ]
            refine Od.Till.takeT (i := 6) (d := 54) (v := .agg #[.int .i64 x.K, .int .i64 x.N, .string x.S, .slice am2 x.M.length cm2, .slice al2 x.L.length cl2, .slice at2 x.T.length ct2]) rfl rfl (by kernel_rfl) (by kernel_rfl) (by kernel_rfl) (by kernel_rfl) (fun _ _ _ h => h) (.inl ⟨by rfl, ?_⟩) hS0 hT0 ?_
            · intro wx hSw
              obtain ⟨j0, j1, j2, j3, j4, j5, j6⟩ := hSw
              go_simp
            simp only [Act.put, List.setIfInBounds_toArray, List.set_cons_zero, List.set_cons_succ]
            refine Od.Till.takeT (i := 7) (d := 55) (v := .bool true) rfl rfl (by kernel_rfl) (by kernel_rfl) (by kernel_rfl) (by kernel_rfl) (fun _ _ _ h => h) (.inl ⟨by rfl, ?_⟩) hS0 hT0 ?_
            · intro wx hSw
              obtain ⟨j0, j1, j2, j3, j4, j5, j6⟩ := hSw
              go_simp
            simp only [Act.put, List.setIfInBounds_toArray, List.set_cons_zero, List.set_cons_succ]
            refine Od.Till.one (i := 8) (by kernel_rfl) rfl (fun K hK => ?_)
            go_simp
            refine (IHT.out x (List.mem_of_getElem? Hx.out) _ B wr.drew (IsDt.keep (w := wr) (w' := wr.drew) (fun _ h => h) (fun _ _ _ => rfl) _ _ Hix.out) (by show B ≤ wr.heap.size; omega)).mono ?_
            rintro e w2 ⟨v', rfl, hb2, hi2⟩
            have hi' := hi2
            obtain ⟨am3, cm3, al3, cl3, at3, ct3, rfl, _⟩ := hi'.open_
            replace hb2 : Below wr.heap.size wr w2 := ⟨hb2.os, hb2.tape, hb2.output, hb2.size, hb2.block⟩
            replace hi2 : IsDt w2 (Rg wr.heap.size w2.heap.size) _ _ := hi2
            have hS2 : (fun w' : World => w'.cell? ⟨w.heap.size + 2, 5, none⟩ = some (.slice pv j pc)) w2 := (hb2.cell (p := ⟨w.heap.size + 2, 5, none⟩) hqr).trans or
            have hT2 : (fun w' : World => w'.cell? ⟨w.heap.size, 5, none⟩ = some (.slice (some ⟨b', off, none⟩) d.T.length ct) ∧ w'.cell? ⟨b', off + j * 6, none⟩ = some (.int .i64 x.K) ∧ w'.cell? ⟨b', off + j * 6 + 1, none⟩ = some (.int .i64 x.N) ∧ w'.cell? ⟨b', off + j * 6 + 2, none⟩ = some (.string x.S) ∧ w'.cell? ⟨b', off + j * 6 + 3, none⟩ = some (.slice am2 x.M.length cm2) ∧ w'.cell? ⟨b', off + j * 6 + 4, none⟩ = some (.slice al2 x.L.length cl2) ∧ w'.cell? ⟨b', off + j * 6 + 5, none⟩ = some (.slice at2 x.T.length ct2)) w2 := ⟨(hb2.cell (p := ⟨w.heap.size, 5, none⟩) hqr0).trans pr5, (hb2.cell (by show b' < wr.heap.size; omega)).trans c0, (hb2.cell (by show b' < wr.heap.size; omega)).trans c1, (hb2.cell (by show b' < wr.heap.size; omega)).trans c2, (hb2.cell (by show b' < wr.heap.size; omega)).trans c3, (hb2.cell (by show b' < wr.heap.size; omega)).trans c4, (hb2.cell (by show b' < wr.heap.size; omega)).trans c5⟩
            have Hb2 := Lib.hid hb2
            have Hi2 := Lib.hid hi2
            clear hi2 hi'
            refine hK.out _ _ ⟨fun _ => hS2, hT2⟩ ?_
            clear hK K
            simp only [Act.put, List.setIfInBounds_toArray, List.set_cons_zero, List.set_cons_succ]
            refine Od.Till.one (i := 9) (by kernel_rfl) rfl (fun K hK => ?_)
            go_simp
            obtain ⟨i0, hi, hy0, hy1, hy2⟩ := info_parts datum_info
            have hX : Below w2.heap.size w2 (w2.alloc (.cells #[.int .i64 (madeD true x).K, .int .i64 (madeD true x).N, .string (madeD true x).S, .slice am3 (madeD true x).M.length cm3, .slice al3 (madeD true x).L.length cl3, .slice at3 (madeD true x).T.length ct3] 33)) := bel_alloc _ _
            have gX : Blk (w2.alloc (.cells #[.int .i64 (madeD true x).K, .int .i64 (madeD true x).N, .string (madeD true x).S, .slice am3 (madeD true x).M.length cm3, .slice al3 (madeD true x).L.length cl3, .slice at3 (madeD true x).T.length ct3] 33)) w2.heap.size 33 #[.int .i64 (madeD true x).K, .int .i64 (madeD true x).N, .string (madeD true x).S, .slice am3 (madeD true x).M.length cm3, .slice al3 (madeD true x).L.length cl3, .slice at3 (madeD true x).T.length ct3] := heap_alloc_new w2 _
            have sX : (w2.alloc (.cells #[.int .i64 (madeD true x).K, .int .i64 (madeD true x).N, .string (madeD true x).S, .slice am3 (madeD true x).M.length cm3, .slice al3 (madeD true x).L.length cl3, .slice at3 (madeD true x).T.length ct3] 33)).heap.size = w2.heap.size + 1 := by simp
            generalize w2.alloc (.cells #[.int .i64 (madeD true x).K, .int .i64 (madeD true x).N, .string (madeD true x).S, .slice am3 (madeD true x).M.length cm3, .slice al3 (madeD true x).L.length cl3, .slice at3 (madeD true x).T.length ct3] 33) = X at *
            have hrX : Below wr.heap.size wr X := hb2.trans (hX.mono hb2.size)
            have hSX : (fun w' : World => w'.cell? ⟨w.heap.size + 2, 5, none⟩ = some (.slice pv j pc)) X := (hrX.cell (p := ⟨w.heap.size + 2, 5, none⟩) hqr).trans or
            have hTX : (fun w' : World => w'.cell? ⟨w.heap.size, 5, none⟩ = some (.slice (some ⟨b', off, none⟩) d.T.length ct) ∧ w'.cell? ⟨b', off + j * 6, none⟩ = some (.int .i64 x.K) ∧ w'.cell? ⟨b', off + j * 6 + 1, none⟩ = some (.int .i64 x.N) ∧ w'.cell? ⟨b', off + j * 6 + 2, none⟩ = some (.string x.S) ∧ w'.cell? ⟨b', off + j * 6 + 3, none⟩ = some (.slice am2 x.M.length cm2) ∧ w'.cell? ⟨b', off + j * 6 + 4, none⟩ = some (.slice al2 x.L.length cl2) ∧ w'.cell? ⟨b', off + j * 6 + 5, none⟩ = some (.slice at2 x.T.length ct2)) X := ⟨(hrX.cell (p := ⟨w.heap.size, 5, none⟩) hqr0).trans pr5, (hrX.cell (by show b' < wr.heap.size; omega)).trans c0, (hrX.cell (by show b' < wr.heap.size; omega)).trans c1, (hrX.cell (by show b' < wr.heap.size; omega)).trans c2, (hrX.cell (by show b' < wr.heap.size; omega)).trans c3, (hrX.cell (by show b' < wr.heap.size; omega)).trans c4, (hrX.cell (by show b' < wr.heap.size; omega)).trans c5⟩
            have ownX : X.ownsRow W3.heap.size 33 6 (.slice pv j pc) j xs := own_stay HR.out.2.2.1 (fun g _ hg => hrX.block g hg)
            refine hK.out _ _ ⟨fun _ => hSX, hTX⟩ ?_
            clear hK K
            refine Od.Till.one (i := 10) (by kernel_rfl) rfl (fun K hK => ?_)
            rw [if_pos (by kernel_rfl)]
            refine wp_append_lies X (.tmp 49) (.tmp 57) 31 (by rfl) W3.heap.size 33 i0 _ 6 104 Try.underlying31 hi hy0 hy1 hy2 rfl (by omega) (.slice pv j pc) j xs (by rfl) ownX ⟨w2.heap.size, 0, none⟩ 1 1 [.int .i64 (madeD true x).K, .int .i64 (madeD true x).N, .string (madeD true x).S, .slice am3 (madeD true x).M.length cm3, .slice al3 (madeD true x).L.length cl3, .slice at3 (madeD true x).T.length ct3] (by rfl) rfl (fun i u hu => by rw [add_plain, Nat.zero_add, gX.cell i, ← hu]; simp) (by simp [Value.oneCell']) (by omega) (by simp only [maxLen]; omega) (by omega) (by have := hrX.size; omega) X.heap.size rfl ?_
            intro g' cap2 w4 hown1 hg1 hat hlt1
            rw [ob_slice] at hat hg1
            have hm := made_end HTL.out HR.out.1 HR.out.2.1 (by have := H3.out.size; omega) HR.out.2.2.1 HR.out.2.2.2 Hb2.out Hi2.out hX hown1 hg1 hat
            have hpo : ob pv ≠ some (w.heap.size + 2) := fun e => by have := (HR.out.2.2.1.lt (w.heap.size + 2) (by rw [ob_slice]; exact e)).1; have := H3.out.size; omega
            have hpq : ob pv ≠ some w.heap.size := fun e => by have := (HR.out.2.2.1.lt w.heap.size (by rw [ob_slice]; exact e)).1; have := H3.out.size; omega
            have hpb : ob pv ≠ some b' := fun e => by have := (HR.out.2.2.1.lt b' (by rw [ob_slice]; exact e)).1; have := H3.out.size; omega
            have far : ∀ q o, q < X.heap.size → ob pv ≠ some q → w4.cell? ⟨q, o, none⟩ = X.cell? ⟨q, o, none⟩ := fun q o hq hd => hg1.cell_far _ hq (fun h => hd h.symm)
            have sX2 := hrX.size
            have hS4 : (fun w' : World => w'.cell? ⟨w.heap.size + 2, 5, none⟩ = some (.slice pv j pc)) w4 := (far _ 5 (by omega) hpo).trans hSX
            have hT4 : (fun w' : World => w'.cell? ⟨w.heap.size, 5, none⟩ = some (.slice (some ⟨b', off, none⟩) d.T.length ct) ∧ w'.cell? ⟨b', off + j * 6, none⟩ = some (.int .i64 x.K) ∧ w'.cell? ⟨b', off + j * 6 + 1, none⟩ = some (.int .i64 x.N) ∧ w'.cell? ⟨b', off + j * 6 + 2, none⟩ = some (.string x.S) ∧ w'.cell? ⟨b', off + j * 6 + 3, none⟩ = some (.slice am2 x.M.length cm2) ∧ w'.cell? ⟨b', off + j * 6 + 4, none⟩ = some (.slice al2 x.L.length cl2) ∧ w'.cell? ⟨b', off + j * 6 + 5, none⟩ = some (.slice at2 x.T.length ct2)) w4 := ⟨(far _ 5 (by omega) hpq).trans hTX.1, (far b' _ (by omega) hpb).trans hTX.2.1, (far b' _ (by omega) hpb).trans hTX.2.2.1, (far b' _ (by omega) hpb).trans hTX.2.2.2.1, (far b' _ (by omega) hpb).trans hTX.2.2.2.2.1, (far b' _ (by omega) hpb).trans hTX.2.2.2.2.2.1, (far b' _ (by omega) hpb).trans hTX.2.2.2.2.2.2⟩
            have or4 : w4.cell? ⟨w.heap.size + 2, 5, none⟩ = some (.slice pv j pc) := hS4
            have orf4 : w4.frozen? ⟨w.heap.size + 2, 5, none⟩ = false := (hg1.frozen_far (a := ⟨w.heap.size + 2, 5, none⟩) (by show w.heap.size + 2 < _; omega) (fun h => hpo h.symm)).trans ((hrX.frozen (p := ⟨w.heap.size + 2, 5, none⟩) hqr).trans orf)
            refine hK.out _ _ ⟨fun _ => hS4, hT4⟩ ?_
            clear hK K
            simp only [Act.put, List.setIfInBounds_toArray, List.set_cons_zero, List.set_cons_succ]
            refine Od.Till.takeT (i := 11) (d := 59) (v := .pointer (some ⟨w.heap.size + 2, 5, none⟩)) rfl rfl (by kernel_rfl) (by kernel_rfl) (by kernel_rfl) (by kernel_rfl) (fun _ _ _ h => h) (.inl ⟨by rfl, ?_⟩) hS4 hT4 ?_
            · intro wx hSw
              obtain ⟨j0, j1, j2, j3, j4, j5, j6⟩ := hSw
              go_simp
            simp only [Act.put, List.setIfInBounds_toArray, List.set_cons_zero, List.set_cons_succ]
            have HM := Lib.hid hm
            clear hm hS0 hT0 hS2 hT2 hSX hTX hT4 hS4 ownX hown1 far
            refine Od.Till.one (i := 12) (by kernel_rfl) rfl (fun K hK => ?_)
            rw [if_pos (by kernel_rfl)]
            go_simp
            refine hK.out _ _ ⟨fun h => absurd h (by decide), ⟨(set_ne _ _ _ _ _ _ (.inl (by omega))).trans ((hg1.cell_far _ (by show w.heap.size < _; omega) (fun h => hpq h.symm)).trans ((hrX.cell (p := ⟨w.heap.size, 5, none⟩) hqr0).trans pr5)), (set_ne _ _ _ _ _ _ (.inl (by omega))).trans ((hg1.cell_far _ (by show b' < _; omega) (fun h => hpb h.symm)).trans ((hrX.cell (by show b' < wr.heap.size; omega)).trans c0)), (set_ne _ _ _ _ _ _ (.inl (by omega))).trans ((hg1.cell_far _ (by show b' < _; omega) (fun h => hpb h.symm)).trans ((hrX.cell (by show b' < wr.heap.size; omega)).trans c1)), (set_ne _ _ _ _ _ _ (.inl (by omega))).trans ((hg1.cell_far _ (by show b' < _; omega) (fun h => hpb h.symm)).trans ((hrX.cell (by show b' < wr.heap.size; omega)).trans c2)), (set_ne _ _ _ _ _ _ (.inl (by omega))).trans ((hg1.cell_far _ (by show b' < _; omega) (fun h => hpb h.symm)).trans ((hrX.cell (by show b' < wr.heap.size; omega)).trans c3)), (set_ne _ _ _ _ _ _ (.inl (by omega))).trans ((hg1.cell_far _ (by show b' < _; omega) (fun h => hpb h.symm)).trans ((hrX.cell (by show b' < wr.heap.size; omega)).trans c4)), (set_ne _ _ _ _ _ _ (.inl (by omega))).trans ((hg1.cell_far _ (by show b' < _; omega) (fun h => hpb h.symm)).trans ((hrX.cell (by show b' < wr.heap.size; omega)).trans c5))⟩⟩ (Od.Till.done (by kernel_rfl) ?_)
            clear hK K
            generalize w4.setCell ⟨w.heap.size + 2, 5, none⟩ (.slice (some ⟨g', 0, none⟩) (j + 1) cap2) = W5 at *
            go_wp2_with fail
            go_roundw
            case rel => exact ⟨j + 1, by omega, by go_num, by rw [take_snoc_dt _ _ _ Hx.out]; exact HM.out⟩
            case measure => simp [intOf]; omega
          · have dl : decide ((j : Int) < (d.T.length : Int)) = false := by simp [hlj]
            have hje : d.T.take j = d.T := List.take_of_length_le (by omega)
            have hfin : RowAt true W3 (w.heap.size + 2) 5 #[.int .i64 d.K, .int .i64 d.N, .string d.S, .slice a' d.M.length c', .slice la d.L.length lc, .slice none 0 0] d.T wr := ⟨pv, pc, xs, HR.out.1, by have h := HR.out.2.1; rw [← HTL.out, hje] at h; exact h, by have h := HR.out.2.2.1; rw [← HTL.out, hje] at h; exact h, by have h := HR.out.2.2.2; rw [hje] at h; exact h⟩
            have HF := Lib.hid hfin
            clear hje hfin HR
            obtain ⟨ta, tc, hbo, hf3, hts1, htd⟩ := HF.out.dts ht1
            have hsz := hf3.size
            have br : Blk wr (w.heap.size + 1) 33 #[.int .i64 0, .int .i64 0, .string ⟨#[]⟩, .slice none 0 0, .slice none 0 0, .slice none 0 0] := (hf3.block _ (by have := H3.out.size; omega) (by omega)).trans HR3.out
            have bo : Blk wr (w.heap.size + 2) 33 #[.int .i64 d.K, .int .i64 d.N, .string d.S, .slice a' d.M.length c', .slice la d.L.length lc, .slice ta d.T.length tc] := hbo.trans rfl
            have r0 : wr.cell? ⟨w.heap.size + 1, 0, none⟩ = some (.int .i64 0) := (br.cell 0).trans rfl
            have rf0 := br.frozen 0
            have o0 : wr.cell? ⟨w.heap.size + 2, 0, none⟩ = some (.int .i64 d.K) := (bo.cell 0).trans rfl
            have r1 : wr.cell? ⟨w.heap.size + 1, 1, none⟩ = some (.int .i64 0) := (br.cell 1).trans rfl
            have rf1 := br.frozen 1
            have o1 : wr.cell? ⟨w.heap.size + 2, 1, none⟩ = some (.int .i64 d.N) := (bo.cell 1).trans rfl
            have r2 : wr.cell? ⟨w.heap.size + 1, 2, none⟩ = some (.string ⟨#[]⟩) := (br.cell 2).trans rfl
            have rf2 := br.frozen 2
            have o2 : wr.cell? ⟨w.heap.size + 2, 2, none⟩ = some (.string d.S) := (bo.cell 2).trans rfl
            have r3 : wr.cell? ⟨w.heap.size + 1, 3, none⟩ = some (.slice none 0 0) := (br.cell 3).trans rfl
            have rf3 := br.frozen 3
            have o3 : wr.cell? ⟨w.heap.size + 2, 3, none⟩ = some (.slice a' d.M.length c') := (bo.cell 3).trans rfl
            have r4 : wr.cell? ⟨w.heap.size + 1, 4, none⟩ = some (.slice none 0 0) := (br.cell 4).trans rfl
            have rf4 := br.frozen 4
            have o4 : wr.cell? ⟨w.heap.size + 2, 4, none⟩ = some (.slice la d.L.length lc) := (bo.cell 4).trans rfl
            have r5 : wr.cell? ⟨w.heap.size + 1, 5, none⟩ = some (.slice none 0 0) := (br.cell 5).trans rfl
            have rf5 := br.frozen 5
            have o5 : wr.cell? ⟨w.heap.size + 2, 5, none⟩ = some (.slice ta d.T.length tc) := (bo.cell 5).trans rfl
            have hlr : w.heap.size + 1 < wr.heap.size := by omega
            have HBO := Lib.hid (And.intro hf3 (And.intro hts1 htd))
            clear hbo hf3 hts1 htd br bo or orf
            go_wp2_with fail
            obtain ⟨hsf, hss⟩ := HBO.out
            refine bodyPost_ret (v := .agg #[.int .i64 d.K, .int .i64 d.N, .string d.S, .slice a' d.M.length c', .slice la d.L.length lc, .slice ta d.T.length tc]) ?_ rfl ?_
            · simp [results, Try.results51, go_sem, r0, r1, r2, r3, r4, r5, hlr]
            · exact made_fin (mk := true) H2.out HMR.out HLD.out.1 HLD.out.2.1 HLD.out.2.2 HBO.out.1 HBO.out.2.1 HBO.out.2.2 wk wn ws (set6_fr wr (w.heap.size + 1) 0 _ _ _ _ _ _)
theorem made_all (mk : Bool) (d : Dt) : MadeIs mk d := Dt.ind (fun k n s m l t hl ht => made_step mk (.mk k n s m l t) hl ht) d
end Go.Proofs.Ytapnighankepjaa.Da
end
section
namespace Go.Proofs.Ytapnighankepjaa.Da
open Go.ChangeShapes Go.WideShapes Go.ChangeAt Go.RowKit
set_option maxRecDepth 100000

def RCopyR (mk : Bool) (d : Dt) (w : World) (e : Ending) (w' : World) : Prop :=
  ∃ v', e = .returned v' ∧ Below w.heap.size w w' ∧ IsDt w' (Rg w.heap.size w'.heap.size) (madeD mk (cloneD d)) v'
theorem madeD_zero (mk : Bool) : madeD mk zeroD = zeroD := by cases mk <;> rfl
theorem rcopy_end {mk : Bool} {w w2 w3 Wf : World} {b : Nat} {d : Dt} {v : Value} (hb0 : w.heap.size ≤ b) (hb1 : b < w2.heap.size) (h2 : Below w.heap.size w w2) (h3 : Below w2.heap.size w2 w3) (hf : Fr (fun i => i = b) w3 Wf) (hc : chk d = 0) (ho : IsDt w3 (Rg w2.heap.size w3.heap.size) (madeD mk d) v) : RCopyR mk d w (.returned v) Wf := by
  have s2 := h2.size
  have s3 := h3.size
  have sf := hf.size
  refine ⟨v, rfl, (h2.trans (h3.mono s2)).trans (hf.below (by omega) (fun i hi h => by omega)), ?_⟩
  unfold cloneD
  rw [if_pos hc]
  refine IsDt.keep (w := w3) (fun c hc => ⟨by have := hc.1; omega, by have := hc.2; omega⟩) (fun c o hc => hf.cell (p := ⟨c, o, none⟩) hc.2 (by show ¬ c = b; have := hc.1; omega)) _ _ ho
theorem rcopy_bad {mk : Bool} {w w2 Wf : World} {b : Nat} {d : Dt} (hb0 : w.heap.size ≤ b) (hw2 : Below w.heap.size w w2) (hf : Fr (fun i => i = b) w2 Wf) (hc : chk d ≠ 0) : RCopyR mk d w (.returned zeroV) Wf := by
  refine ⟨_, rfl, hw2.trans (hf.below hw2.size (fun i hi h => by omega)), ?_⟩
  unfold cloneD
  rw [if_neg hc, madeD_zero]
  exact zero_isDt _ _
set_option maxHeartbeats 2000000 in
theorem rclone_any (d : Dt) (v : Value) (B : Nat) (w : World) (hd : IsDt w (Lo B) d v) (hB : B ≤ w.heap.size) :
    Calls Try.prog 42 #[v] w (RCopyR true d w) := by
  have hd' := hd
  obtain ⟨pm, pcm, pl, pcl, pt, pct, rfl, _⟩ := hd'.open_
  have TD := Lib.hid (hd.more (Q' := Lo w.heap.size) (fun b hb => Nat.lt_of_lt_of_le hb hB))
  clear hd hd'
  obtain ⟨cd, hcd⟩ : ∃ c, chk d = c := ⟨_, rfl⟩
  have HC := Lib.hid hcd
  clear hcd
  by_cases h0 : cd = 0
  · subst h0
    have HW := Lib.hid (bel_refl w)
    go_enter Try.func42, Try.ntmps42
    go_wp2_with fail
    obtain ⟨hbX, hsX, hkX⟩ := start_allocs [(#[.int .i64 d.K, .int .i64 d.N, .string d.S, .slice pm d.M.length pcm, .slice pl d.L.length pcl, .slice pt d.T.length pct], 33), (#[.int .i64 0, .int .i64 0, .string ⟨#[]⟩, .slice none 0 0, .slice none 0 0, .slice none 0 0], 33)] w
    have g0 := hkX 0 _ rfl
    have g1 := hkX 1 _ rfl
    set_option linter.unusedSimpArgs false in
    simp only [allocs, List.foldl_cons, List.foldl_nil, Nat.add_zero, List.length_cons, List.length_nil, Nat.zero_add, Nat.reduceAdd] at hbX hsX g0 g1
    clear hkX
    generalize (w.alloc (.cells #[.int .i64 d.K, .int .i64 d.N, .string d.S, .slice pm d.M.length pcm, .slice pl d.L.length pcl, .slice pt d.T.length pct] 33)).alloc (.cells #[.int .i64 0, .int .i64 0, .string ⟨#[]⟩, .slice none 0 0, .slice none 0 0, .slice none 0 0] 33) = X0 at *
    have x0 : X0.cell? ⟨w.heap.size, 0, none⟩ = some (.int .i64 d.K) := (g0.cell 0).trans rfl
    have x1 : X0.cell? ⟨w.heap.size, 1, none⟩ = some (.int .i64 d.N) := (g0.cell 1).trans rfl
    have x2 : X0.cell? ⟨w.heap.size, 2, none⟩ = some (.string d.S) := (g0.cell 2).trans rfl
    have x3 : X0.cell? ⟨w.heap.size, 3, none⟩ = some (.slice pm d.M.length pcm) := (g0.cell 3).trans rfl
    have x4 : X0.cell? ⟨w.heap.size, 4, none⟩ = some (.slice pl d.L.length pcl) := (g0.cell 4).trans rfl
    have x5 : X0.cell? ⟨w.heap.size, 5, none⟩ = some (.slice pt d.T.length pct) := (g0.cell 5).trans rfl
    have lt_x : w.heap.size < X0.heap.size := by omega
    have z0 : X0.cell? ⟨w.heap.size + 1, 0, none⟩ = some (.int .i64 0) := (g1.cell 0).trans rfl
    have z1 : X0.cell? ⟨w.heap.size + 1, 1, none⟩ = some (.int .i64 0) := (g1.cell 1).trans rfl
    have z2 : X0.cell? ⟨w.heap.size + 1, 2, none⟩ = some (.string ⟨#[]⟩) := (g1.cell 2).trans rfl
    have z3 : X0.cell? ⟨w.heap.size + 1, 3, none⟩ = some (.slice none 0 0) := (g1.cell 3).trans rfl
    have z4 : X0.cell? ⟨w.heap.size + 1, 4, none⟩ = some (.slice none 0 0) := (g1.cell 4).trans rfl
    have z5 : X0.cell? ⟨w.heap.size + 1, 5, none⟩ = some (.slice none 0 0) := (g1.cell 5).trans rfl
    have fzz0 := g1.frozen 0
    have fzz1 := g1.frozen 1
    have fzz2 := g1.frozen 2
    have fzz3 := g1.frozen 3
    have fzz4 := g1.frozen 4
    have fzz5 := g1.frozen 5
    have lt_z : w.heap.size + 1 < X0.heap.size := by omega
    clear g0 g1 hsX
    replace TD := Lib.hid (TD.out.up hbX)
    replace HW := Lib.hid (HW.out.trans (hbX.mono HW.out.size))
    clear hbX
    refine (rcheck_any d _ _ X0 (by exact TD.out) (Nat.le_refl _)).mono ?_
    rintro e w0 ⟨rfl, hb⟩
    rw [HC.out]
    replace x0 := (hb.cell (p := ⟨w.heap.size, 0, none⟩) lt_x).trans x0
    replace x1 := (hb.cell (p := ⟨w.heap.size, 1, none⟩) lt_x).trans x1
    replace x2 := (hb.cell (p := ⟨w.heap.size, 2, none⟩) lt_x).trans x2
    replace x3 := (hb.cell (p := ⟨w.heap.size, 3, none⟩) lt_x).trans x3
    replace x4 := (hb.cell (p := ⟨w.heap.size, 4, none⟩) lt_x).trans x4
    replace x5 := (hb.cell (p := ⟨w.heap.size, 5, none⟩) lt_x).trans x5
    replace lt_x : w.heap.size < w0.heap.size := Nat.lt_of_lt_of_le lt_x hb.size
    replace fzz0 := (hb.frozen (p := ⟨w.heap.size + 1, 0, none⟩) lt_z).trans fzz0
    replace fzz1 := (hb.frozen (p := ⟨w.heap.size + 1, 1, none⟩) lt_z).trans fzz1
    replace fzz2 := (hb.frozen (p := ⟨w.heap.size + 1, 2, none⟩) lt_z).trans fzz2
    replace fzz3 := (hb.frozen (p := ⟨w.heap.size + 1, 3, none⟩) lt_z).trans fzz3
    replace fzz4 := (hb.frozen (p := ⟨w.heap.size + 1, 4, none⟩) lt_z).trans fzz4
    replace fzz5 := (hb.frozen (p := ⟨w.heap.size + 1, 5, none⟩) lt_z).trans fzz5
    replace z0 := (hb.cell (p := ⟨w.heap.size + 1, 0, none⟩) lt_z).trans z0
    replace z1 := (hb.cell (p := ⟨w.heap.size + 1, 1, none⟩) lt_z).trans z1
    replace z2 := (hb.cell (p := ⟨w.heap.size + 1, 2, none⟩) lt_z).trans z2
    replace z3 := (hb.cell (p := ⟨w.heap.size + 1, 3, none⟩) lt_z).trans z3
    replace z4 := (hb.cell (p := ⟨w.heap.size + 1, 4, none⟩) lt_z).trans z4
    replace z5 := (hb.cell (p := ⟨w.heap.size + 1, 5, none⟩) lt_z).trans z5
    replace lt_z : w.heap.size + 1 < w0.heap.size := Nat.lt_of_lt_of_le lt_z hb.size
    replace TD := Lib.hid (TD.out.up hb)
    replace HW := Lib.hid (HW.out.trans (hb.mono HW.out.size))
    clear hb
    go_wp2_with fail
    refine (made_all true d _ _ w0 (by exact TD.out) (Nat.le_refl _)).mono ?_
    rintro e w9 ⟨v', rfl, hb, hi⟩
    have hi' := hi
    obtain ⟨qm, qcm, ql, qcl, qt, qct, rfl, _⟩ := hi'.open_
    have HI := Lib.hid hi
    have HBM := Lib.hid hb
    have zz0 : w9.cell? ⟨w.heap.size + 1, 0, none⟩ = some (.int .i64 0) := (hb.cell (p := ⟨w.heap.size + 1, 0, none⟩) lt_z).trans z0
    have zz1 : w9.cell? ⟨w.heap.size + 1, 1, none⟩ = some (.int .i64 0) := (hb.cell (p := ⟨w.heap.size + 1, 1, none⟩) lt_z).trans z1
    have zz2 : w9.cell? ⟨w.heap.size + 1, 2, none⟩ = some (.string ⟨#[]⟩) := (hb.cell (p := ⟨w.heap.size + 1, 2, none⟩) lt_z).trans z2
    have zz3 : w9.cell? ⟨w.heap.size + 1, 3, none⟩ = some (.slice none 0 0) := (hb.cell (p := ⟨w.heap.size + 1, 3, none⟩) lt_z).trans z3
    have zz4 : w9.cell? ⟨w.heap.size + 1, 4, none⟩ = some (.slice none 0 0) := (hb.cell (p := ⟨w.heap.size + 1, 4, none⟩) lt_z).trans z4
    have zz5 : w9.cell? ⟨w.heap.size + 1, 5, none⟩ = some (.slice none 0 0) := (hb.cell (p := ⟨w.heap.size + 1, 5, none⟩) lt_z).trans z5
    have zf0 : w9.frozen? ⟨w.heap.size + 1, 0, none⟩ = false := (hb.frozen (p := ⟨w.heap.size + 1, 0, none⟩) lt_z).trans fzz0
    have zf1 : w9.frozen? ⟨w.heap.size + 1, 1, none⟩ = false := (hb.frozen (p := ⟨w.heap.size + 1, 1, none⟩) lt_z).trans fzz1
    have zf2 : w9.frozen? ⟨w.heap.size + 1, 2, none⟩ = false := (hb.frozen (p := ⟨w.heap.size + 1, 2, none⟩) lt_z).trans fzz2
    have zf3 : w9.frozen? ⟨w.heap.size + 1, 3, none⟩ = false := (hb.frozen (p := ⟨w.heap.size + 1, 3, none⟩) lt_z).trans fzz3
    have zf4 : w9.frozen? ⟨w.heap.size + 1, 4, none⟩ = false := (hb.frozen (p := ⟨w.heap.size + 1, 4, none⟩) lt_z).trans fzz4
    have zf5 : w9.frozen? ⟨w.heap.size + 1, 5, none⟩ = false := (hb.frozen (p := ⟨w.heap.size + 1, 5, none⟩) lt_z).trans fzz5
    have hlz : w.heap.size + 1 < w9.heap.size := Nat.lt_of_lt_of_le lt_z hb.size
    clear hi hi' hb
    go_wp2_with fail
    refine bodyPost_ret (v := .agg #[.int .i64 (madeD true d).K, .int .i64 (madeD true d).N, .string (madeD true d).S, .slice qm (madeD true d).M.length qcm, .slice ql (madeD true d).L.length qcl, .slice qt (madeD true d).T.length qct]) ?_ rfl ?_
    · simp [results, Try.results42, go_sem, hlz, zz0, zz1, zz2, zz3, zz4, zz5]
    · exact rcopy_end (b := w.heap.size + 1) (by omega) lt_z HW.out HBM.out (set6_fr w9 (w.heap.size + 1) 0 _ _ _ _ _ _) HC.out HI.out
  · have dn : (cd != 0) = true := by simp [h0]
    have H0 := Lib.hid h0
    clear h0
    have HW := Lib.hid (bel_refl w)
    go_enter Try.func42, Try.ntmps42
    go_wp2_with fail
    obtain ⟨hbX, hsX, hkX⟩ := start_allocs [(#[.int .i64 d.K, .int .i64 d.N, .string d.S, .slice pm d.M.length pcm, .slice pl d.L.length pcl, .slice pt d.T.length pct], 33), (#[.int .i64 0, .int .i64 0, .string ⟨#[]⟩, .slice none 0 0, .slice none 0 0, .slice none 0 0], 33)] w
    have g0 := hkX 0 _ rfl
    have g1 := hkX 1 _ rfl
    set_option linter.unusedSimpArgs false in
    simp only [allocs, List.foldl_cons, List.foldl_nil, Nat.add_zero, List.length_cons, List.length_nil, Nat.zero_add, Nat.reduceAdd] at hbX hsX g0 g1
    clear hkX
    generalize (w.alloc (.cells #[.int .i64 d.K, .int .i64 d.N, .string d.S, .slice pm d.M.length pcm, .slice pl d.L.length pcl, .slice pt d.T.length pct] 33)).alloc (.cells #[.int .i64 0, .int .i64 0, .string ⟨#[]⟩, .slice none 0 0, .slice none 0 0, .slice none 0 0] 33) = X0 at *
    have x0 : X0.cell? ⟨w.heap.size, 0, none⟩ = some (.int .i64 d.K) := (g0.cell 0).trans rfl
    have x1 : X0.cell? ⟨w.heap.size, 1, none⟩ = some (.int .i64 d.N) := (g0.cell 1).trans rfl
    have x2 : X0.cell? ⟨w.heap.size, 2, none⟩ = some (.string d.S) := (g0.cell 2).trans rfl
    have x3 : X0.cell? ⟨w.heap.size, 3, none⟩ = some (.slice pm d.M.length pcm) := (g0.cell 3).trans rfl
    have x4 : X0.cell? ⟨w.heap.size, 4, none⟩ = some (.slice pl d.L.length pcl) := (g0.cell 4).trans rfl
    have x5 : X0.cell? ⟨w.heap.size, 5, none⟩ = some (.slice pt d.T.length pct) := (g0.cell 5).trans rfl
    have lt_x : w.heap.size < X0.heap.size := by omega
    have z0 : X0.cell? ⟨w.heap.size + 1, 0, none⟩ = some (.int .i64 0) := (g1.cell 0).trans rfl
    have z1 : X0.cell? ⟨w.heap.size + 1, 1, none⟩ = some (.int .i64 0) := (g1.cell 1).trans rfl
    have z2 : X0.cell? ⟨w.heap.size + 1, 2, none⟩ = some (.string ⟨#[]⟩) := (g1.cell 2).trans rfl
    have z3 : X0.cell? ⟨w.heap.size + 1, 3, none⟩ = some (.slice none 0 0) := (g1.cell 3).trans rfl
    have z4 : X0.cell? ⟨w.heap.size + 1, 4, none⟩ = some (.slice none 0 0) := (g1.cell 4).trans rfl
    have z5 : X0.cell? ⟨w.heap.size + 1, 5, none⟩ = some (.slice none 0 0) := (g1.cell 5).trans rfl
    have fzz0 := g1.frozen 0
    have fzz1 := g1.frozen 1
    have fzz2 := g1.frozen 2
    have fzz3 := g1.frozen 3
    have fzz4 := g1.frozen 4
    have fzz5 := g1.frozen 5
    have lt_z : w.heap.size + 1 < X0.heap.size := by omega
    clear g0 g1 hsX
    replace TD := Lib.hid (TD.out.up hbX)
    replace HW := Lib.hid (HW.out.trans (hbX.mono HW.out.size))
    clear hbX
    refine (rcheck_any d _ _ X0 (by exact TD.out) (Nat.le_refl _)).mono ?_
    rintro e w0 ⟨rfl, hb⟩
    rw [HC.out]
    replace x0 := (hb.cell (p := ⟨w.heap.size, 0, none⟩) lt_x).trans x0
    replace x1 := (hb.cell (p := ⟨w.heap.size, 1, none⟩) lt_x).trans x1
    replace x2 := (hb.cell (p := ⟨w.heap.size, 2, none⟩) lt_x).trans x2
    replace x3 := (hb.cell (p := ⟨w.heap.size, 3, none⟩) lt_x).trans x3
    replace x4 := (hb.cell (p := ⟨w.heap.size, 4, none⟩) lt_x).trans x4
    replace x5 := (hb.cell (p := ⟨w.heap.size, 5, none⟩) lt_x).trans x5
    replace lt_x : w.heap.size < w0.heap.size := Nat.lt_of_lt_of_le lt_x hb.size
    replace fzz0 := (hb.frozen (p := ⟨w.heap.size + 1, 0, none⟩) lt_z).trans fzz0
    replace fzz1 := (hb.frozen (p := ⟨w.heap.size + 1, 1, none⟩) lt_z).trans fzz1
    replace fzz2 := (hb.frozen (p := ⟨w.heap.size + 1, 2, none⟩) lt_z).trans fzz2
    replace fzz3 := (hb.frozen (p := ⟨w.heap.size + 1, 3, none⟩) lt_z).trans fzz3
    replace fzz4 := (hb.frozen (p := ⟨w.heap.size + 1, 4, none⟩) lt_z).trans fzz4
    replace fzz5 := (hb.frozen (p := ⟨w.heap.size + 1, 5, none⟩) lt_z).trans fzz5
    replace z0 := (hb.cell (p := ⟨w.heap.size + 1, 0, none⟩) lt_z).trans z0
    replace z1 := (hb.cell (p := ⟨w.heap.size + 1, 1, none⟩) lt_z).trans z1
    replace z2 := (hb.cell (p := ⟨w.heap.size + 1, 2, none⟩) lt_z).trans z2
    replace z3 := (hb.cell (p := ⟨w.heap.size + 1, 3, none⟩) lt_z).trans z3
    replace z4 := (hb.cell (p := ⟨w.heap.size + 1, 4, none⟩) lt_z).trans z4
    replace z5 := (hb.cell (p := ⟨w.heap.size + 1, 5, none⟩) lt_z).trans z5
    replace lt_z : w.heap.size + 1 < w0.heap.size := Nat.lt_of_lt_of_le lt_z hb.size
    replace TD := Lib.hid (TD.out.up hb)
    replace HW := Lib.hid (HW.out.trans (hb.mono HW.out.size))
    clear hb
    go_wp2_with fail
    refine bodyPost_ret (v := zeroV) ?_ rfl ?_
    · simp [results, Try.results42, go_sem, zeroV, lt_z, z0, z1, z2, z3, z4, z5]
    · exact rcopy_bad (b := w.heap.size + 1) (by omega) HW.out (set6_fr w0 (w.heap.size + 1) 0 _ _ _ _ _ _) (by rw [HC.out]; exact H0.out)
end Go.Proofs.Ytapnighankepjaa.Da
end
section
namespace Go.Proofs.Ytapnighankepjaa.Sc
open Go.ChangeShapes Go.WideShapes Go.ChangeAt Go.RowKit
set_option linter.unusedVariables false
set_option linter.unusedSimpArgs false

def Seen.same (z u : Seen) : Bool := ((z.scope : Int) == (u.scope : Int)) && (z.what == u.what) && (z.name == u.name)
theorem Seen.same_iff (z u : Seen) : z.same u = true ↔ z = u := by
  unfold Seen.same
  rcases z with ⟨a, b, c⟩
  rcases u with ⟨a', b', c'⟩
  simp only [Bool.and_eq_true, beq_iff_eq, Seen.mk.injEq]
  constructor
  · rintro ⟨⟨h1, h2⟩, h3⟩
    exact ⟨by omega, h2, h3⟩
  · rintro ⟨h1, h2, h3⟩
    exact ⟨⟨by omega, h2⟩, h3⟩
set_option maxRecDepth 100000 in
theorem eq_seen (z u : Seen) (w : World) : (binOp BinOp.eql 49 z.V u.V).run Try.prog w = .ok (.bool (z.same u)) w := by
  have e : binOp BinOp.eql 49 z.V u.V = Value.bool <$> Op.equal 49 z.V u.V := rfl
  rw [e]
  unfold Seen.V Seen.same
  obtain ⟨d, hd⟩ : ∃ d, Op.maxDepth = d + 1 + 1 := ⟨Op.maxDepth - 2, by decide⟩
  simp only [Op.equal, hd]
  have h1 := run_equalIn_struct (P := Try.prog) w (d + 1) 49 #[.int .i64 (z.scope : Int), .int .i64 z.what, .string ⟨z.name.toArray⟩] #[.int .i64 (u.scope : Int), .int .i64 u.what, .string ⟨u.name.toArray⟩] (by kernel_rfl) (by kernel_rfl)
  simp [go_sem, h1, Try.underlying49]
  by_cases c1 : (z.scope : Int) = (u.scope : Int)
  · by_cases c2 : z.what = u.what
    · by_cases c3 : z.name = u.name
      · rw [if_pos c1, if_pos c2, if_pos c3]; simp [c1, c2, c3]
      · rw [if_pos c1, if_pos c2, if_neg c3]; simp [c1, c2, c3]
    · rw [if_pos c1, if_neg c2]; simp [c1, c2]
  · rw [if_neg c1]; simp [c1]
theorem no_guard_seen : Try.prog.eqGuardType Try.prog.depth 49 = false := by kernel_rfl
theorem guard_seen (op : BinOp) (a b : Operand) (z u : Seen) (w : World) : (eqGuard op 49 a b z.V u.V).run Try.prog w = .ok () w := by
  unfold Seen.V
  cases op <;> simp [eqGuard, Sem.run_bind, run_program, no_guard_seen, go_sem]
theorem load_seen {ops : Array Oper} {rest : List Oper} {o : Oper} {a : Act} {w : World} {Q : Exit → Act → World → Prop} (x : Operand) (g : Nat) (z : Seen) (hgd : o.guard = none) (ho : o.op = .load 49 x)
    (hx : a.eval x = .pointer (some ⟨g, 0, none⟩)) (hb : Da.Blk w g 49 (seenC z)) (h : wpList Try.prog ops Q rest (a.put o.dst z.V) w) : wpList Try.prog ops Q (o :: rest) a w :=
  Ld.wpList_at hgd 49 x ho g 0 hx (seenC z).toList _ (Ld.At.of_blk hb) Try.underlying49 rfl info_seen h
theorem info_dat6 : (Try.prog.info? 33).map (·.size) = some 6 := by kernel_rfl
theorem load_dt {ops : Array Oper} {rest : List Oper} {o : Oper} {a : Act} {w : World} {Q : Exit → Act → World → Prop} (x : Operand) (g : Nat) (d : Da.Dt) (am : Option Addr) (cm : Nat) (al : Option Addr) (cl : Nat) (at_ : Option Addr) (ct : Nat) (hgd : o.guard = none) (ho : o.op = .load 33 x)
    (hx : a.eval x = .pointer (some ⟨g, 0, none⟩)) (hb : Da.Blk w g 33 (six d am cm al cl at_ ct)) (h : wpList Try.prog ops Q rest (a.put o.dst (.agg (six d am cm al cl at_ ct))) w) : wpList Try.prog ops Q (o :: rest) a w :=
  Ld.wpList_at hgd 33 x ho g 0 hx (six d am cm al cl at_ ct).toList _ (Ld.At.of_blk hb) Try.underlying33 rfl info_dat6 h
/-- Same's two values. -/
def sameE (k1 k2 : Int) : Int := if k1 ≠ 0 then k1 else k2
def sameB (z1 z2 : Seen) (k1 k2 : Int) : Bool := if k1 ≠ 0 then false else if k2 ≠ 0 then false else z1.same z2
set_option maxRecDepth 100000 in
set_option maxHeartbeats 8000000 in
theorem same_of (p : Option Addr) (i j : Int) (x y : Da.Dt) (vx vy : Value) (B : Nat) (z1 z2 : Seen) (k1 k2 : Int) (w : World) (hB : B ≤ w.heap.size) (hx : Da.IsDt w (Da.Lo B) x vx) (hy : Da.IsDt w (Da.Lo B) y vy)
    (f1 : Hid (∀ w2, Below w.heap.size w w2 → Calls Try.prog 16 #[.pointer p, .int .i64 i, vx] w2 (FindIs z1 k1 w2))) (f2 : Hid (∀ w2, Below w.heap.size w w2 → Calls Try.prog 16 #[.pointer p, .int .i64 j, vy] w2 (FindIs z2 k2 w2))) :
    Calls Try.prog 24 #[.pointer p, .int .i64 i, vx, .int .i64 j, vy] w fun e w' => e = .returned (.tuple #[.bool (sameB z1 z2 k1 k2), .int .i64 (sameE k1 k2)]) ∧ Below w.heap.size w w' := by
  obtain ⟨am, cm, al, cl, at_, ct, rfl, _⟩ := hx.open_
  obtain ⟨am', cm', al', cl', at_', ct', rfl, _⟩ := hy.open_
  obtain ⟨n1, n2⟩ := two_new w (six x am cm al cl at_ ct) (six y am' cm' al' cl' at_' ct') 33 33
  have hbX := bel_two w (.cells (six x am cm al cl at_ ct) 33) (.cells (six y am' cm' al' cl' at_' ct') 33)
  obtain ⟨er, her⟩ : ∃ er, sameE k1 k2 = er := ⟨_, rfl⟩
  obtain ⟨br, hbr⟩ : ∃ br, sameB z1 z2 k1 k2 = br := ⟨_, rfl⟩
  rw [her, hbr]
  have HR := Lib.hid (And.intro her hbr)
  clear hx hy her hbr
  go_enter Try.func24, Try.ntmps24
  go_upto_region 1 with (fail)
  generalize hX : (World.alloc (World.alloc w _) _) = X
  replace n1 : Da.Blk X w.heap.size 33 (six x am cm al cl at_ ct) := by rw [← hX]; exact n1
  replace n2 : Da.Blk X (w.heap.size + 1) 33 (six y am' cm' al' cl' at_' ct') := by rw [← hX]; exact n2
  replace hbX : Below w.heap.size w X := by rw [← hX]; exact hbX
  clear hX
  have HN1 := Lib.hid n1
  have HN2 := Lib.hid n2
  have HBX := Lib.hid hbX
  clear n1 n2 hbX
  go_wp2_with (refine load_dt (.tmp 7) w.heap.size x am cm al cl at_ ct rfl rfl rfl HN1.out ?_)
  refine (f1.out X HBX.out).mono ?_
  rintro e w2 ⟨rfl, hb2⟩
  have HB2 := Lib.hid (HBX.out.trans (hb2.mono HBX.out.size))
  have HN22 := Lib.hid (show Da.Blk w2 (w.heap.size + 1) 33 (six y am' cm' al' cl' at_' ct') from (hb2.block _ (Array.getElem?_eq_some_iff.1 HN2.out).1).trans HN2.out)
  have hlt2 : w.heap.size + 1 < w2.heap.size := (Array.getElem?_eq_some_iff.1 HN22.out).1
  clear hb2
  by_cases hk1 : k1 = 0
  · have d1 : (k1 != 0) = false := by rw [hk1]; rfl
    have HK1 := Lib.hid hk1
    clear hk1
    go_upto_region 2 with (refine wpList_store_row rfl 49 (.tmp 12) (.tmp 20) rfl w2.heap.size (seenC z1) rfl rfl 49 (seenC Seen.zero) (heap_alloc_new w2 _) info_seen rfl (seenC_one _) ?_)
    generalize hX4 : (World.setRow (World.alloc w2 _) w2.heap.size (seenC z1)) = W4
    have hb4 : Below w2.heap.size w2 W4 := by rw [← hX4]; exact bel_row ((Below.refl _ _).alloc (Nat.le_refl _) _) _ _ (Nat.le_refl _)
    have hz1 : Da.Blk W4 w2.heap.size 49 (seenC z1) := by rw [← hX4]; exact setRow_heap _ _ (seenC Seen.zero) _ _ _ (heap_alloc_new w2 _)
    have HB4 := Lib.hid (HB2.out.trans (hb4.mono HB2.out.size))
    have HN4 := Lib.hid (show Da.Blk W4 (w.heap.size + 1) 33 (six y am' cm' al' cl' at_' ct') from (hb4.block _ hlt2).trans HN22.out)
    have HZ1 := Lib.hid hz1
    clear hX4 hb4 hz1
    go_wp2_with (refine load_dt (.tmp 9) (w.heap.size + 1) y am' cm' al' cl' at_' ct' rfl rfl rfl HN4.out ?_)
    refine (f2.out W4 HB4.out).mono ?_
    rintro e w5 ⟨rfl, hb5⟩
    have HB5 := Lib.hid (HB4.out.trans (hb5.mono HB4.out.size))
    have HZ5 := Lib.hid (show Da.Blk w5 w2.heap.size 49 (seenC z1) from (hb5.block _ (Array.getElem?_eq_some_iff.1 HZ1.out).1).trans HZ1.out)
    have hlt5 : w2.heap.size < w5.heap.size := (Array.getElem?_eq_some_iff.1 HZ5.out).1
    clear hb5
    go_upto_region 5 with (refine wpList_store_row rfl 49 (.tmp 14) (.tmp 30) rfl w5.heap.size (seenC z2) rfl rfl 49 (seenC Seen.zero) (heap_alloc_new w5 _) info_seen rfl (seenC_one _) ?_)
    generalize hX6 : (World.setRow (World.alloc w5 _) w5.heap.size (seenC z2)) = W6
    have hb6 : Below w5.heap.size w5 W6 := by rw [← hX6]; exact bel_row ((Below.refl _ _).alloc (Nat.le_refl _) _) _ _ (Nat.le_refl _)
    have hz2 : Da.Blk W6 w5.heap.size 49 (seenC z2) := by rw [← hX6]; exact setRow_heap _ _ (seenC Seen.zero) _ _ _ (heap_alloc_new w5 _)
    have HB6 := Lib.hid (HB5.out.trans (hb6.mono HB5.out.size))
    have HZ6 := Lib.hid (show Da.Blk W6 w2.heap.size 49 (seenC z1) from (hb6.block _ hlt5).trans HZ5.out)
    have HZ2 := Lib.hid hz2
    clear hX6 hb6 hz2
    by_cases hk2 : k2 = 0
    · have d2 : (k2 != 0) = false := by rw [hk2]; rfl
      have HK2 := Lib.hid hk2
      clear hk2
      have hes : ∀ w, (binOp BinOp.eql 49 z1.V z2.V).run Try.prog w = .ok (.bool (z1.same z2)) w := eq_seen z1 z2
      have hgd : ∀ w, (eqGuard BinOp.eql 49 (.tmp 35) (.tmp 36) z1.V z2.V).run Try.prog w = .ok () w := guard_seen _ _ _ z1 z2
      go_wp2_with (first | (refine load_seen (.tmp 12) w2.heap.size z1 rfl rfl rfl HZ6.out ?_) | (refine load_seen (.tmp 14) w5.heap.size z2 rfl rfl rfl HZ2.out ?_))
      go_ret2
      obtain ⟨h1, h2⟩ := HR.out
      unfold sameE at h1
      unfold sameB at h2
      rw [HK1.out, if_neg (by decide), HK2.out] at h1
      rw [HK1.out, HK2.out, if_neg (by decide), if_neg (by decide)] at h2
      rw [← h1, ← h2]
      exact ⟨rfl, HB6.out⟩
    · have d2 : (k2 != 0) = true := by simpa using hk2
      have HK2 := Lib.hid hk2
      clear hk2
      go_wp2_with fail
      go_ret2
      obtain ⟨h1, h2⟩ := HR.out
      unfold sameE at h1
      unfold sameB at h2
      rw [HK1.out, if_neg (by decide)] at h1
      rw [HK1.out, if_neg (by decide), if_pos HK2.out] at h2
      rw [← h1, ← h2]
      exact ⟨rfl, HB6.out⟩
  · have d1 : (k1 != 0) = true := by simpa using hk1
    have HK1 := Lib.hid hk1
    clear hk1
    go_wp2_with (refine wpList_store_row rfl 49 (.tmp 12) (.tmp 20) rfl w2.heap.size (seenC z1) rfl rfl 49 (seenC Seen.zero) (heap_alloc_new w2 _) info_seen rfl (seenC_one _) ?_)
    go_ret2
    obtain ⟨h1, h2⟩ := HR.out
    unfold sameE at h1
    unfold sameB at h2
    rw [if_pos HK1.out] at h1
    rw [if_pos HK1.out] at h2
    rw [← h1, ← h2]
    exact ⟨rfl, bel_row (HB2.out.alloc (by omega) _) _ _ (by omega)⟩
theorem same_all (tb : Nat) (T : Tab) (O : Nat → Prop) (i j : Int) (x y : Da.Dt) (vx vy : Value) (B : Nat) (w : World) (hB : B ≤ w.heap.size) (hx : Da.IsDt w (Da.Lo B) x vx) (hy : Da.IsDt w (Da.Lo B) y vy) (h : TabIn w tb T O) :
    Calls Try.prog 24 #[.pointer (some ⟨tb, 0, none⟩), .int .i64 i, vx, .int .i64 j, vy] w fun e w' => e = .returned (.tuple #[.bool (sameB (findZ T i x) (findZ T j y) (findE T i x) (findE T j y)), .int .i64 (sameE (findE T i x) (findE T j y))]) ∧ Below w.heap.size w w' :=
  same_of _ i j x y vx vy B _ _ _ _ w hB hx hy (Lib.hid (fun w2 hb => find_all tb T O i x vx B w2 (hx.below (hb.mono hB)) (Nat.le_trans hB hb.size) (h.bel hb))) (Lib.hid (fun w2 hb => find_all tb T O j y vy B w2 (hy.below (hb.mono hB)) (Nat.le_trans hB hb.size) (h.bel hb)))
end Go.Proofs.Ytapnighankepjaa.Sc
end
section
namespace Go.Proofs.Ytapnighankepjaa.Sc
open Go.ChangeShapes Go.WideShapes Go.ChangeAt Go.RowKit
set_option linter.unusedVariables false
set_option linter.unusedSimpArgs false

theorem dt_sym {w : World} {Q : Nat → Prop} {s : ByteArray} {m : List Int} {am : Option Addr} {cm : Nat} (hs : s.size ≤ maxLen) (hm : Da.IntRow w Q am m.length cm m) :
    Da.IsDt w Q (.mk 5 0 s m [] []) (.agg #[.int .i64 5, .int .i64 0, .string s, .slice am m.length cm, .slice none 0 0, .slice none 0 0]) := by
  simp only [Da.IsDt]
  exact ⟨by decide, by decide, hs, am, cm, none, 0, none, 0, rfl, hm, ⟨Nat.le_refl _, by simp [maxLen], by simp, fun _ => rfl⟩, by simp only [Da.IsDts], ⟨Nat.le_refl _, by simp [maxLen], by simp, fun _ => rfl⟩, by simp only [Da.IsDts]⟩
theorem row_nil (w : World) (Q : Nat → Prop) : Da.IntRow w Q none 0 0 [] := ⟨rfl, Nat.le_refl _, by simp [maxLen], by simp, fun _ => rfl, by simp, fun k hk => absurd hk (Nat.not_lt_zero _)⟩
set_option maxRecDepth 100000 in
theorem sym_any (s : ByteArray) (am : Option Addr) (n cm : Nat) (w : World) : Calls Try.prog 13 #[.string s, .slice am n cm] w fun e w' =>
    e = .returned (.agg #[.int .i64 5, .int .i64 0, .string s, .slice am n cm, .slice none 0 0, .slice none 0 0]) ∧ Below w.heap.size w w' := by
  go_enter Try.func13, Try.ntmps13
  go_wp2_with fail
  refine bodyPost_ret (v := .agg #[.int .i64 5, .int .i64 0, .string s, .slice am n cm, .slice none 0 0, .slice none 0 0]) (by simp [results, Try.results13, go_sem]) rfl ⟨rfl, (Below.refl _ _).alloc (Nat.le_refl _) _⟩
end Go.Proofs.Ytapnighankepjaa.Sc
end
section
namespace Go.Proofs.Ytapnighankepjaa.Sc
open Go.ChangeShapes Go.WideShapes Go.ChangeAt Go.RowKit
set_option linter.unusedVariables false
set_option linter.unusedSimpArgs false

def dX : Da.Dt := .mk 5 0 ⟨#[120]⟩ [] [] []
def dX1 : Da.Dt := .mk 5 0 ⟨#[120]⟩ [1] [] []
theorem sym_dX : IsSym dX := ⟨rfl, by kernel_rfl⟩
theorem sym_dX1 : IsSym dX1 := ⟨rfl, by kernel_rfl⟩
abbrev iX : Idn := ⟨[120], []⟩
abbrev iX1 : Idn := ⟨[120], [1]⟩
def aT1 : Tab := ⟨[default], [0]⟩
def aT2 : Tab := ⟨[default, ⟨0, iX, 7⟩], [0]⟩
def aT3 : Tab := ⟨[default, ⟨0, iX, 7⟩, ⟨1, iX1, 8⟩], [0]⟩
theorem aw1 : markE Tab.new 0 = 0 := rfl
theorem aw1t : markT Tab.new 0 = aT1 := rfl
theorem aw2 : extE aT1 0 dX = 0 := by unfold extE; rw [if_neg (by decide), if_neg (by simpa using sym_dX), if_neg (by decide)]
theorem aw2t : extT aT1 0 dX 7 = aT2 := by unfold extT; rw [aw2, if_pos rfl]; rfl
theorem aw3 : extE aT2 1 dX1 = 0 := by unfold extE; rw [if_neg (by decide), if_neg (by simpa using sym_dX1), if_neg (by decide)]
theorem aw3t : extT aT2 1 dX1 8 = aT3 := by unfold extT; rw [aw3, if_pos rfl]; rfl
theorem aw4 : findE aT3 2 dX = 0 := by unfold findE; rw [if_neg (by decide), if_neg (by simpa using sym_dX), if_pos (by decide)]
theorem aw4z : findZ aT3 2 dX = ⟨1, 7, []⟩ := by unfold findZ; rw [aw4, if_pos rfl]; rfl
theorem aw5 : findE aT3 1 dX1 = 0 := by unfold findE; rw [if_neg (by decide), if_neg (by simpa using sym_dX1), if_pos (by decide)]
theorem aw5z : findZ aT3 1 dX1 = ⟨0, 0, [120]⟩ := by unfold findZ; rw [aw5, if_pos rfl]; rfl
end Go.Proofs.Ytapnighankepjaa.Sc
end
section
namespace Go.Proofs.Ytapnighankepjaa.Sc
open Go.ChangeShapes Go.WideShapes Go.ChangeAt Go.RowKit
set_option linter.unusedVariables false
set_option linter.unusedSimpArgs false

theorem TabIn.step {w1 w2 : World} {tb B : Nat} {T : Tab} (h : TabIn w2 tb T (fun k => B ≤ k ∨ w1.heap.size ≤ k)) (hB : B ≤ w1.heap.size) : TabIn w2 tb T (fun k => B ≤ k) := h.more (fun k hk => by rcases hk with h | h <;> omega)
theorem row_one {w : World} {Q : Nat → Prop} {g : Nat} (hq : Q g) (hc : w.cell? ⟨g, 0, none⟩ = some (.int .i64 1)) : Da.IntRow w Q (some ⟨g, 0, none⟩) 1 1 [1] :=
  ⟨rfl, Nat.le_refl _, by simp [maxLen], by simp, (fun h => by cases h), (fun z hz => by (obtain rfl : z = 1 := by simpa using hz); decide), fun k hk => ⟨g, 0, rfl, hq, by (obtain rfl : k = 0 := by omega); exact hc⟩⟩
set_option maxRecDepth 100000 in
set_option maxHeartbeats 16000000 in
theorem awake_any (w : World) : Calls Try.prog 8 #[] w fun e w' => e = .returned (.bool true) ∧ Below w.heap.size w w' := by
  go_enter Try.func8, Try.ntmps8
  go_wp2_with fail
  refine (new_any w).mono ?_
  rintro e w1 ⟨rfl, h1, hb1⟩
  obtain ⟨tb, htb⟩ : ∃ tb, w.heap.size + 2 = tb := ⟨_, rfl⟩
  rw [htb] at h1 ⊢
  have H1 := Lib.hid h1
  have HB1 := Lib.hid hb1
  clear h1 hb1 htb
  go_wp2_with fail
  refine (mark_all tb _ _ 0 w1 H1.out).mono ?_
  rintro e w2 ⟨rfl, h2, hc2⟩
  rw [aw1t] at h2
  rw [aw1, show ((markN Tab.new 0 : Nat) : Int) = 1 from rfl]
  have H2 := Lib.hid (h2.step HB1.out.size)
  have HB2 := Lib.hid (HB1.out.trans (hc2.to_below HB1.out.size (fun k hk => hk)))
  clear h2 hc2
  go_wp2_with fail
  refine (sym_any _ none 0 0 w2).mono ?_
  rintro e w3 ⟨rfl, hb3⟩
  have H3 := Lib.hid (H2.out.bel hb3)
  have HB3 := Lib.hid (HB2.out.trans (hb3.mono HB2.out.size))
  clear hb3
  go_wp2_with fail
  refine (ext_all tb aT1 _ 0 7 dX _ w3.heap.size w3 (dt_sym (by decide) (row_nil _ _)) (Nat.le_refl _) H3.out (by decide)).mono ?_
  rintro e w4 ⟨rfl, h4, hc4⟩
  rw [aw2t] at h4
  rw [aw2, show ((extN aT1 0 dX : Nat) : Int) = 1 by unfold extN; rw [aw2]; rfl]
  have H4 := Lib.hid (h4.step HB3.out.size)
  have HB4 := Lib.hid (HB3.out.trans (hc4.to_below HB3.out.size (fun k hk => hk)))
  clear h4 hc4
  go_wp2_with fail
  have hone : Hid ((w4.alloc (.cells #[.int .i64 1] 3)).cell? ⟨w4.heap.size, 0, none⟩ = some (.int .i64 1)) := Lib.hid ((one_new w4 #[.int .i64 1] 3).cell 0)
  have H4a := Lib.hid (H4.out.bel ((Below.refl _ w4).alloc (Nat.le_refl _) (.cells #[.int .i64 1] 3)))
  have HB4a := Lib.hid (HB4.out.alloc HB4.out.size (.cells #[.int .i64 1] 3))
  have hsz4 : w4.heap.size < (w4.alloc (.cells #[.int .i64 1] 3)).heap.size := by simp
  generalize hg4 : w4.heap.size = g4 at hone hsz4 ⊢
  generalize w4.alloc (.cells #[.int .i64 1] 3) = X4 at *
  refine (sym_any _ (some ⟨g4, 0, none⟩) 1 1 X4).mono ?_
  rintro e w5 ⟨rfl, hb5⟩
  have H5 := Lib.hid (H4a.out.bel hb5)
  have HB5 := Lib.hid (HB4a.out.trans (hb5.mono HB4a.out.size))
  have hone5 : Hid (w5.cell? ⟨g4, 0, none⟩ = some (.int .i64 1)) := Lib.hid ((hb5.cell (p := ⟨g4, 0, none⟩) hsz4).trans hone.out)
  have hsz5 : g4 < w5.heap.size := Nat.lt_of_lt_of_le hsz4 hb5.size
  clear hb5 hg4 hsz4
  go_wp2_with fail
  refine (ext_all tb aT2 _ 1 8 dX1 _ w5.heap.size w5 (dt_sym (by decide) (row_one hsz5 hone5.out)) (Nat.le_refl _) H5.out (by decide)).mono ?_
  rintro e w6 ⟨rfl, h6, hc6⟩
  rw [aw3t] at h6
  rw [aw3, show ((extN aT2 1 dX1 : Nat) : Int) = 2 by unfold extN; rw [aw3]; rfl]
  have H6 := Lib.hid (h6.step HB5.out.size)
  have HB6 := Lib.hid (HB5.out.trans (hc6.to_below HB5.out.size (fun k hk => hk)))
  clear h6 hc6
  go_wp2_with fail
  refine (sym_any _ none 0 0 w6).mono ?_
  rintro e w7 ⟨rfl, hb7⟩
  have H7 := Lib.hid (H6.out.bel hb7)
  have HB7 := Lib.hid (HB6.out.trans (hb7.mono HB6.out.size))
  clear hb7
  go_wp2_with fail
  refine (find_all tb aT3 _ 2 dX _ w7.heap.size w7 (dt_sym (by decide) (row_nil _ _)) (Nat.le_refl _) H7.out).mono ?_
  rintro e w8 ⟨rfl, hb8⟩
  rw [aw4, aw4z]
  have H8 := Lib.hid (H7.out.bel hb8)
  have HB8 := Lib.hid (HB7.out.trans (hb8.mono HB7.out.size))
  clear hb8
  go_upto_region 8 with (refine wpList_store_row rfl 49 (.tmp 8) (.tmp 39) rfl w8.heap.size (seenC ⟨1, 7, []⟩) rfl rfl 49 (seenC Seen.zero) (heap_alloc_new w8 _) info_seen rfl (seenC_one _) ?_)
  generalize hX9 : (World.setRow (World.alloc w8 _) w8.heap.size (seenC ⟨1, 7, []⟩)) = W9
  have hb9 : Below w8.heap.size w8 W9 := by rw [← hX9]; exact bel_row ((Below.refl _ _).alloc (Nat.le_refl _) _) _ _ (Nat.le_refl _)
  have hz9 : Da.Blk W9 w8.heap.size 49 (seenC ⟨1, 7, []⟩) := by rw [← hX9]; exact setRow_heap _ _ (seenC Seen.zero) _ _ _ (heap_alloc_new w8 _)
  have H9 := Lib.hid (H8.out.bel hb9)
  have HB9 := Lib.hid (HB8.out.trans (hb9.mono HB8.out.size))
  have HZ9 := Lib.hid hz9
  clear hX9 hb9 hz9
  go_wp2_with fail
  have hone9 : Hid ((W9.alloc (.cells #[.int .i64 1] 3)).cell? ⟨W9.heap.size, 0, none⟩ = some (.int .i64 1)) := Lib.hid ((one_new W9 #[.int .i64 1] 3).cell 0)
  have H9a := Lib.hid (H9.out.bel ((Below.refl _ W9).alloc (Nat.le_refl _) (.cells #[.int .i64 1] 3)))
  have HB9a := Lib.hid (HB9.out.alloc HB9.out.size (.cells #[.int .i64 1] 3))
  have HZ9a := Lib.hid (show Da.Blk (W9.alloc (.cells #[.int .i64 1] 3)) w8.heap.size 49 (seenC ⟨1, 7, []⟩) from (Below.heap_alloc _ _ _ (Array.getElem?_eq_some_iff.1 HZ9.out).1).trans HZ9.out)
  have hsz9 : W9.heap.size < (W9.alloc (.cells #[.int .i64 1] 3)).heap.size := by simp
  generalize hg9 : W9.heap.size = g9 at hone9 hsz9 ⊢
  generalize W9.alloc (.cells #[.int .i64 1] 3) = X9 at *
  refine (sym_any _ (some ⟨g9, 0, none⟩) 1 1 X9).mono ?_
  rintro e w10 ⟨rfl, hb10⟩
  have H10 := Lib.hid (H9a.out.bel hb10)
  have HB10 := Lib.hid (HB9a.out.trans (hb10.mono HB9a.out.size))
  have hone10 : Hid (w10.cell? ⟨g9, 0, none⟩ = some (.int .i64 1)) := Lib.hid ((hb10.cell (p := ⟨g9, 0, none⟩) hsz9).trans hone9.out)
  have hsz10 : g9 < w10.heap.size := Nat.lt_of_lt_of_le hsz9 hb10.size
  have HZ10 := Lib.hid (show Da.Blk w10 w8.heap.size 49 (seenC ⟨1, 7, []⟩) from (hb10.block _ (Array.getElem?_eq_some_iff.1 HZ9a.out).1).trans HZ9a.out)
  clear hb10 hg9 hsz9
  go_wp2_with fail
  refine (find_all tb aT3 _ 1 dX1 _ w10.heap.size w10 (dt_sym (by decide) (row_one hsz10 hone10.out)) (Nat.le_refl _) H10.out).mono ?_
  rintro e w11 ⟨rfl, hb11⟩
  rw [aw5, aw5z]
  have HB11 := Lib.hid (HB10.out.trans (hb11.mono HB10.out.size))
  have HZ11 := Lib.hid (show Da.Blk w11 w8.heap.size 49 (seenC ⟨1, 7, []⟩) from (hb11.block _ (Array.getElem?_eq_some_iff.1 HZ10.out).1).trans HZ10.out)
  have hlt11 : w8.heap.size < w11.heap.size := (Array.getElem?_eq_some_iff.1 HZ11.out).1
  clear hb11
  go_upto_region 9 with (refine wpList_store_row rfl 49 (.tmp 10) (.tmp 47) rfl w11.heap.size (seenC ⟨0, 0, [120]⟩) rfl rfl 49 (seenC Seen.zero) (heap_alloc_new w11 _) info_seen rfl (seenC_one _) ?_)
  generalize hX12 : (World.setRow (World.alloc w11 _) w11.heap.size (seenC ⟨0, 0, [120]⟩)) = W12
  have hb12 : Below w11.heap.size w11 W12 := by rw [← hX12]; exact bel_row ((Below.refl _ _).alloc (Nat.le_refl _) _) _ _ (Nat.le_refl _)
  have hz12 : Da.Blk W12 w11.heap.size 49 (seenC ⟨0, 0, [120]⟩) := by rw [← hX12]; exact setRow_heap _ _ (seenC Seen.zero) _ _ _ (heap_alloc_new w11 _)
  have HB12 := Lib.hid (HB11.out.trans (hb12.mono HB11.out.size))
  have HZ12 := Lib.hid (show Da.Blk W12 w8.heap.size 49 (seenC ⟨1, 7, []⟩) from (hb12.block _ hlt11).trans HZ11.out)
  have HY12 := Lib.hid hz12
  clear hX12 hb12 hz12
  have e1 : ∀ w, (binOp BinOp.eql 49 (.agg #[.int .i64 1, .int .i64 7, .string ⟨#[]⟩]) (.agg #[.int .i64 1, .int .i64 7, .string ⟨#[]⟩])).run Try.prog w = .ok (.bool true) w := fun w => eq_seen ⟨1, 7, []⟩ ⟨1, 7, []⟩ w
  have e2 : ∀ w, (binOp BinOp.eql 49 (.agg #[.int .i64 0, .int .i64 0, .string ⟨#[120]⟩]) (.agg #[.int .i64 0, .int .i64 0, .string ⟨#[120]⟩])).run Try.prog w = .ok (.bool true) w := fun w => eq_seen ⟨0, 0, [120]⟩ ⟨0, 0, [120]⟩ w
  have g1 : ∀ w, (eqGuard BinOp.eql 49 (.tmp 64) (.tmp 65) (.agg #[.int .i64 1, .int .i64 7, .string ⟨#[]⟩]) (.agg #[.int .i64 1, .int .i64 7, .string ⟨#[]⟩])).run Try.prog w = .ok () w := guard_seen _ _ _ ⟨1, 7, []⟩ ⟨1, 7, []⟩
  have g2 : ∀ w, (eqGuard BinOp.eql 49 (.tmp 73) (.tmp 74) (.agg #[.int .i64 0, .int .i64 0, .string ⟨#[120]⟩]) (.agg #[.int .i64 0, .int .i64 0, .string ⟨#[120]⟩])).run Try.prog w = .ok () w := guard_seen _ _ _ ⟨0, 0, [120]⟩ ⟨0, 0, [120]⟩
  have q0 : W12.cell? ⟨w8.heap.size, 0, none⟩ = some (.int .i64 1) := (HZ12.out.cell 0).trans rfl
  have q1 : W12.cell? ⟨w8.heap.size, 1, none⟩ = some (.int .i64 7) := (HZ12.out.cell 1).trans rfl
  have q2 : W12.cell? ⟨w8.heap.size, 2, none⟩ = some (.string ⟨#[]⟩) := (HZ12.out.cell 2).trans rfl
  have q3 : W12.cell? ⟨w11.heap.size, 0, none⟩ = some (.int .i64 0) := (HY12.out.cell 0).trans rfl
  have q4 : W12.cell? ⟨w11.heap.size, 1, none⟩ = some (.int .i64 0) := (HY12.out.cell 1).trans rfl
  have q5 : W12.cell? ⟨w11.heap.size, 2, none⟩ = some (.string ⟨#[120]⟩) := (HY12.out.cell 2).trans rfl
  go_wp2_with fail
  go_ret
  exact ⟨rfl, HB12.out⟩
end Go.Proofs.Ytapnighankepjaa.Sc
end
section
namespace Go.Proofs.Ytapnighankepjaa.Sc
open Go.ChangeShapes Go.WideShapes Go.ChangeAt Go.RowKit
set_option linter.unusedVariables false
set_option linter.unusedSimpArgs false

/-- An act. -/
structure Opn where
  (k s t : Int) (id nd : Da.Dt) (n : Int)
/-- Where a datum's rows lie. -/
structure Sx where
  (m l t : Option Addr) (cm cl ct : Nat)
def sixL (d : Da.Dt) (x : Sx) : List Value := [.int .i64 d.K, .int .i64 d.N, .string d.S, .slice x.m d.M.length x.cm, .slice x.l d.L.length x.cl, .slice x.t d.T.length x.ct]
def opL (o : Opn) (x y : Sx) : List Value := [.int .i64 o.k, .int .i64 o.s, .int .i64 o.t] ++ sixL o.id x ++ sixL o.nd y ++ [.int .i64 o.n]
theorem opL_len (o : Opn) (x y : Sx) : (opL o x y).length = 16 := rfl
theorem opL_one (o : Opn) (x y : Sx) : ((opL o x y).toArray).all (·.oneCell') = true := by unfold opL sixL; simp [Value.oneCell']
theorem sixL_one (d : Da.Dt) (x : Sx) : ((sixL d x).toArray).all (·.oneCell') = true := by unfold sixL; simp [Value.oneCell']
theorem info_op : (Try.prog.info? 35).map (·.size) = some 16 := by kernel_rfl
/-- An act lies there. -/
def OpAt (w : World) (Q : Nat → Prop) (g off : Nat) (o : Opn) : Prop :=
  ∃ x y : Sx, Ld.At w g off (opL o x y) ∧ Da.IsDt w Q o.id (.agg (sixL o.id x).toArray) ∧ Da.IsDt w Q o.nd (.agg (sixL o.nd y).toArray) ∧ (Lit.int .i64 o.n).wf = true
def IsOps (w : World) (Q : Nat → Prop) (a : Option Addr) (l : List Opn) : Prop := ∀ i o, l[i]? = some o → ∃ g off, a = some ⟨g, off, none⟩ ∧ Q g ∧ OpAt w Q g (off + i * 16) o
theorem OpAt.below {w w' : World} {B g off : Nat} {o : Opn} (h : OpAt w (Da.Lo B) g off o) (hg : g < B) (hb : Below B w w') : OpAt w' (Da.Lo B) g off o := by
  obtain ⟨x, y, h1, h2, h3, h4⟩ := h
  exact ⟨x, y, h1.same (fun o u hu => (hb.cell (p := ⟨g, o, none⟩) hg).trans hu), h2.below hb, h3.below hb, h4⟩
theorem IsOps.below {w w' : World} {B : Nat} {a : Option Addr} {l : List Opn} (h : IsOps w (Da.Lo B) a l) (hb : Below B w w') : IsOps w' (Da.Lo B) a l := fun i o hi => by
  obtain ⟨g, off, h1, h2, h3⟩ := h i o hi
  exact ⟨g, off, h1, h2, h3.below h2 hb⟩
def dSmall (d : Da.Dt) : Bool := decide ((d.S.size : Int) ≤ 5000) && decide ((d.M.length : Int) ≤ 1000) && decide ((d.L.length : Int) + (d.T.length : Int) ≤ 100)
def opSmall (o : Opn) : Bool := dSmall o.id && dSmall o.nd
theorem load_list {P : Program} {ops : Array Oper} {rest : List Oper} {o : Oper} {a : Act} {w : World} {Q : Exit → Act → World → Prop} (x : Operand) (ty : TypeId) (g off : Nat) (cs : List Value) (d : TypeDesc) (hgd : o.guard = none) (ho : o.op = .load ty x)
    (hx : a.eval x = .pointer (some ⟨g, off, none⟩)) (hat : Ld.At w g off cs) (hu : P.underlying ty = some d) (hd : (match d with | .struct _ | .array _ _ => true | _ => false) = true) (hi : (P.info? ty).map (·.size) = some cs.length)
    (h : wpList P ops Q rest (a.put o.dst (.agg cs.toArray)) w) : wpList P ops Q (o :: rest) a w := Ld.wpList_at hgd ty x ho g off hx cs d hat hu hd hi h
theorem dt_lens {w : World} {Q : Nat → Prop} {d : Da.Dt} {x : Sx} (h : Da.IsDt w Q d (.agg (sixL d x).toArray)) : (d.S.size : Int) ≤ 9223372036854775807 ∧ (d.M.length : Int) ≤ 9223372036854775807 ∧ (d.L.length : Int) + (d.T.length : Int) ≤ 9223372036854775807 := by
  obtain ⟨am, cm, al, cl, at_, ct, _, _, _, hs, hm, hl, _, ht, _⟩ := h.open_
  have h1 := hm.2.1
  have h2 := hm.2.2.1
  have h3 := hl.2.2.1
  have h4 := ht.2.2.1
  unfold maxLen at hs h2
  omega
end Go.Proofs.Ytapnighankepjaa.Sc
end
section
namespace Go.Proofs.Ytapnighankepjaa.Sc
open Go.ChangeShapes Go.WideShapes Go.ChangeAt Go.RowKit
set_option linter.unusedVariables false
set_option linter.unusedSimpArgs false

theorem run_pre (a : Option Addr) (n c m : Nat) (h : m ≤ c) (w : World) : (Instr.slice 22 (.slice a n c) none (some (.int .i64 (m : Int))) none).run Try.prog w = .ok (.slice a m c) w := by
  have hb : (Instr.sliceBound (.int .i64 (m : Int)) c .sliceAcap).run Try.prog w = .ok m w := by
    have := run_sliceBound (P := Try.prog) w .i64 (m : Int) c .sliceAcap (by omega) (by omega)
    simpa using this
  simp [Instr.slice, run_underlying Try.underlying22, Instr.sliceBounds, Sem.run_bind, hb, go_sem]
def SmallIs (l : List Opn) (a : Option Addr) (n c : Nat) (w : World) (e : Ending) (w' : World) : Prop :=
  Below w.heap.size w w' ∧ (((l.take 60).all opSmall = true ∧ e = .returned (.tuple #[.slice a (min n 60) c, .bool true])) ∨ ((l.take 60).all opSmall = false ∧ e = .returned (.tuple #[.slice none 0 0, .bool false])))
def opSmallTill (l : List Opn) (k : Nat) : Prop := ∀ (j : Nat) (o : Opn), j < k → l[j]? = some o → opSmall o = true
theorem till_all {l : List Opn} {m : Nat} (hm : min l.length 60 = m) (h : opSmallTill l m) : (l.take 60).all opSmall = true := by
  rw [List.all_eq_true]
  intro o ho
  obtain ⟨j, hj, rfl⟩ := List.getElem_of_mem ho
  rw [List.length_take] at hj
  rw [List.getElem_take]
  exact h j _ (by omega) (List.getElem?_eq_getElem _)
theorem till_not {l : List Opn} {k : Nat} {o : Opn} (hk : k < 60) (ho : l[k]? = some o) (h : opSmall o = false) : (l.take 60).all opSmall = false := by
  rw [List.all_eq_false]
  obtain ⟨hlt, rfl⟩ := List.getElem?_eq_some_iff.1 ho
  exact ⟨l[k], List.mem_take_iff_getElem.2 ⟨k, by omega, rfl⟩, by rw [h]; decide⟩
theorem dsm_yes {d : Da.Dt} (h1 : ¬ ((d.S.size : Int) > 5000)) (h2 : ¬ ((d.M.length : Int) > 1000)) (h3 : ¬ ((d.L.length : Int) + (d.T.length : Int) > 100)) : dSmall d = true := by unfold dSmall; rw [decide_eq_true (by omega), decide_eq_true (by omega), decide_eq_true (by omega)]; rfl
theorem dsm_no1 {d : Da.Dt} (h : (d.S.size : Int) > 5000) : dSmall d = false := by unfold dSmall; rw [decide_eq_false (by omega)]; rfl
theorem dsm_no2 {d : Da.Dt} (h : (d.M.length : Int) > 1000) : dSmall d = false := by unfold dSmall; rw [decide_eq_false (p := (d.M.length : Int) ≤ 1000) (by omega), Bool.and_false]; rfl
theorem dsm_no3 {d : Da.Dt} (h : (d.L.length : Int) + (d.T.length : Int) > 100) : dSmall d = false := by unfold dSmall; rw [decide_eq_false (p := (d.L.length : Int) + (d.T.length : Int) ≤ 100) (by omega), Bool.and_false]
theorem op_not {o : Opn} {j : Nat} (h : dSmall (if j = 0 then o.id else o.nd) = false) : opSmall o = false := by
  unfold opSmall
  split at h
  · rw [h]; rfl
  · rw [h, Bool.and_false]
def SmIn (w : World) (e : Nat) (l0 : List Value) (d0 d1 : Da.Dt) (j : Nat) (wr : World) : Prop :=
  Da.Blk wr e 33 l0.toArray ∧ (0 < j → dSmall d0 = true) ∧ (1 < j → dSmall d1 = true) ∧ Below w.heap.size w wr
theorem at_six {w : World} {e : Nat} {x y : Sx} {d0 d1 : Da.Dt} (h : Da.Blk w e 33 (sixL d0 x ++ sixL d1 y).toArray) (j : Nat) (hj : j < 2) : Ld.At w e (j * 6) (sixL (if j = 0 then d0 else d1) (if j = 0 then x else y)) := fun k v hv => by
  rw [Da.Blk.cell h, ← Array.getElem?_toList]
  have hk : k < 6 := by
    rcases Nat.lt_or_ge k 6 with h1 | h1
    · exact h1
    · rw [List.getElem?_eq_none (by exact h1)] at hv; cases hv
  have : j = 0 ∨ j = 1 := by omega
  rcases this with rfl | rfl
  · rw [Nat.zero_mul, Nat.zero_add]
    show (sixL d0 x ++ sixL d1 y)[k]? = _
    rw [List.getElem?_append_left (by exact hk)]
    exact hv
  · show (sixL d0 x ++ sixL d1 y)[1 * 6 + k]? = _
    rw [List.getElem?_append_right (by show 6 ≤ _; omega), show 1 * 6 + k - (sixL d0 x).length = k by show 1 * 6 + k - 6 = k; omega]
    exact hv
theorem at_id {w : World} {b : Nat} {o : Opn} {x y : Sx} (h : Da.Blk w b 35 (opL o x y).toArray) : Ld.At w b 3 (sixL o.id x) := fun k v hv => by
  rw [Da.Blk.cell h, ← Array.getElem?_toList]
  have hk : k < 6 := by
    rcases Nat.lt_or_ge k 6 with h1 | h1
    · exact h1
    · rw [List.getElem?_eq_none (by exact h1)] at hv; cases hv
  show (([.int .i64 o.k, .int .i64 o.s, .int .i64 o.t] ++ sixL o.id x) ++ sixL o.nd y ++ [.int .i64 o.n])[3 + k]? = _
  rw [List.append_assoc, List.getElem?_append_left (by show 3 + k < 9; omega), List.getElem?_append_right (by show 3 ≤ 3 + k; omega), show 3 + k - [Value.int .i64 o.k, .int .i64 o.s, .int .i64 o.t].length = k by show 3 + k - 3 = k; omega]
  exact hv
theorem at_nd {w : World} {b : Nat} {o : Opn} {x y : Sx} (h : Da.Blk w b 35 (opL o x y).toArray) : Ld.At w b 9 (sixL o.nd y) := fun k v hv => by
  rw [Da.Blk.cell h, ← Array.getElem?_toList]
  have hk : k < 6 := by
    rcases Nat.lt_or_ge k 6 with h1 | h1
    · exact h1
    · rw [List.getElem?_eq_none (by exact h1)] at hv; cases hv
  show (([.int .i64 o.k, .int .i64 o.s, .int .i64 o.t] ++ sixL o.id x) ++ sixL o.nd y ++ [.int .i64 o.n])[9 + k]? = _
  rw [List.append_assoc, List.getElem?_append_right (by show 9 ≤ 9 + k; omega), show 9 + k - ([Value.int .i64 o.k, .int .i64 o.s, .int .i64 o.t] ++ sixL o.id x).length = k by show 9 + k - 9 = k; omega, List.getElem?_append_left (by exact hk)]
  exact hv
def opZ : Array Value := #[.int .i64 0, .int .i64 0, .int .i64 0, .int .i64 0, .int .i64 0, .string ⟨#[]⟩, .slice none 0 0, .slice none 0 0, .slice none 0 0, .int .i64 0, .int .i64 0, .string ⟨#[]⟩, .slice none 0 0, .slice none 0 0, .slice none 0 0, .int .i64 0]
def dtZ : Array Value := #[.int .i64 0, .int .i64 0, .string ⟨#[]⟩, .slice none 0 0, .slice none 0 0, .slice none 0 0]
set_option maxRecDepth 100000 in
set_option maxHeartbeats 16000000 in
theorem small_any (l : List Opn) (a : Option Addr) (c B : Nat) (w : World) (hc : l.length ≤ c) (hcm : c ≤ maxLen) (hB : B ≤ w.heap.size) (h : IsOps w (Da.Lo B) a l) :
    Calls Try.prog 5 #[.slice a l.length c] w (SmallIs l a l.length c w) := by
  unfold maxLen at hcm
  have HO := Lib.hid h
  clear h
  obtain ⟨m, hm⟩ : ∃ m, min l.length 60 = m := ⟨_, rfl⟩
  have hmi : min (l.length : Int) 60 = (m : Int) := by omega
  have hm60 : m ≤ 60 := by omega
  have hml : m ≤ l.length := by omega
  have HM : Hid (min l.length 60 = m) := Lib.hid hm
  have hrun : ∀ w, (Instr.slice 22 (.slice a l.length c) none (some (.int .i64 (m : Int))) none).run Try.prog w = .ok (.slice a m c) w := run_pre a _ c _ (by omega)
  clear hm
  go_enter Try.func5, Try.ntmps5
  go_wp2_with fail
  go_loopw [15] (fun i wr => ∃ k : Nat, k ≤ m ∧ i = .int .i64 (k : Int) ∧ Hid (opSmallTill l k) ∧ Below w.heap.size w wr) (fun i _ => m - (intOf i).toNat)
  case atStart => exact ⟨0, Nat.zero_le _, rfl, Lib.hid (fun j o hj _ => absurd hj (Nat.not_lt_zero _)), Below.refl _ _⟩
  case round =>
    obtain ⟨wo, rfl⟩ : ∃ wo : World, wo = wr := ⟨_, rfl⟩
    obtain ⟨k, hk, rfl, htill, hbel⟩ := hrel
    have HBL := Lib.hid hbel
    by_cases hlk : k < m
    · have dl : decide ((k : Int) < (m : Int)) = true := decide_eq_true (by omega)
      have i0 : (0 : Int) ≤ (k : Int) := Int.natCast_nonneg _
      have i1 : (k : Int) < (m : Int) := by omega
      obtain ⟨o, ho⟩ : ∃ o, l[k]? = some o := ⟨l[k]'(by omega), List.getElem?_eq_getElem _⟩
      obtain ⟨g, off, rfl, hg, x, y, hat, hid, hnd, hwn⟩ := (HO.out.below (hbel.mono hB)) k o ho
      have HAT := Lib.hid hat
      have HID := Lib.hid (And.intro hid hnd)
      have HOK := Lib.hid ho
      have hszr := hbel.size
      clear hat hid hnd hwn ho hbel
      go_upto_region 5 with (first | (refine load_list (.tmp 17) 35 g (off + k * 16) (opL o x y) _ rfl rfl rfl HAT.out Try.underlying35 rfl info_op ?_) | (refine wpList_store_row rfl 35 (.tmp 5) (.tmp 18) rfl wo.heap.size (opL o x y).toArray rfl rfl 35 opZ (heap_alloc_new wo _) info_op rfl (opL_one _ _ _) ?_))
      generalize hX4 : (World.setRow (World.alloc wo _) wo.heap.size (opL o x y).toArray) = W4
      have hb4 : Below wo.heap.size wo W4 := by rw [← hX4]; exact bel_row ((Below.refl _ _).alloc (Nat.le_refl _) _) _ _ (Nat.le_refl _)
      have hz4 : Da.Blk W4 wo.heap.size 35 (opL o x y).toArray := by rw [← hX4]; exact setRow_heap _ _ opZ _ _ _ (heap_alloc_new wo _)
      have HB4 := Lib.hid (HBL.out.trans (hb4.mono hszr))
      have HZ4 := Lib.hid hz4
      have hs4 : w.heap.size ≤ W4.heap.size := Nat.le_trans hszr hb4.size
      clear hX4 hb4 hz4
      go_upto_region 6 with (first | (refine load_list (.tmp 19) 33 wo.heap.size 3 [.int .i64 o.id.K, .int .i64 o.id.N, .string o.id.S, .slice x.m o.id.M.length x.cm, .slice x.l o.id.L.length x.cl, .slice x.t o.id.T.length x.ct] _ rfl rfl rfl (at_id HZ4.out) Try.underlying33 rfl info_dat6 ?_) | (refine load_list (.tmp 21) 33 wo.heap.size 9 [.int .i64 o.nd.K, .int .i64 o.nd.N, .string o.nd.S, .slice y.m o.nd.M.length y.cm, .slice y.l o.nd.L.length y.cl, .slice y.t o.nd.T.length y.ct] _ rfl rfl rfl (at_nd HZ4.out) Try.underlying33 rfl info_dat6 ?_))
      have hn5 : Da.Blk (W4.alloc (.cells #[.int .i64 o.id.K, .int .i64 o.id.N, .string o.id.S, .slice x.m o.id.M.length x.cm, .slice x.l o.id.L.length x.cl, .slice x.t o.id.T.length x.ct, .int .i64 o.nd.K, .int .i64 o.nd.N, .string o.nd.S, .slice y.m o.nd.M.length y.cm, .slice y.l o.nd.L.length y.cl, .slice y.t o.nd.T.length y.ct] 33)) W4.heap.size 33 (sixL o.id x ++ sixL o.nd y).toArray := one_new W4 _ _
      have hb5 := HB4.out.alloc hs4 (.cells #[.int .i64 o.id.K, .int .i64 o.id.N, .string o.id.S, .slice x.m o.id.M.length x.cm, .slice x.l o.id.L.length x.cl, .slice x.t o.id.T.length x.ct, .int .i64 o.nd.K, .int .i64 o.nd.N, .string o.nd.S, .slice y.m o.nd.M.length y.cm, .slice y.l o.nd.L.length y.cl, .slice y.t o.nd.T.length y.ct] 33)
      have hz5 : W4.heap.size < (W4.alloc (.cells #[.int .i64 o.id.K, .int .i64 o.id.N, .string o.id.S, .slice x.m o.id.M.length x.cm, .slice x.l o.id.L.length x.cl, .slice x.t o.id.T.length x.ct, .int .i64 o.nd.K, .int .i64 o.nd.N, .string o.nd.S, .slice y.m o.nd.M.length y.cm, .slice y.l o.nd.L.length y.cl, .slice y.t o.nd.T.length y.ct] 33)).heap.size := by simp
      generalize hV : W4.alloc (.cells #[.int .i64 o.id.K, .int .i64 o.id.N, .string o.id.S, .slice x.m o.id.M.length x.cm, .slice x.l o.id.L.length x.cl, .slice x.t o.id.T.length x.ct, .int .i64 o.nd.K, .int .i64 o.nd.N, .string o.nd.S, .slice y.m o.nd.M.length y.cm, .slice y.l o.nd.L.length y.cl, .slice y.t o.nd.T.length y.ct] 33) = V4 at *
      clear hV
      have HN5 := Lib.hid hn5
      have HB5 := Lib.hid hb5
      clear hn5 hb5
      go_wp2_with fail
      go_loopw [25] (fun i wv => ∃ j : Nat, j ≤ 2 ∧ i = .int .i64 (j : Int) ∧ SmIn w W4.heap.size (sixL o.id x ++ sixL o.nd y) o.id o.nd j wv) (fun i _ => 2 - (intOf i).toNat)
      case atStart => exact ⟨0, Nat.zero_le _, rfl, HN5.out, (fun h => absurd h (Nat.not_lt_zero _)), (fun h => absurd h (by decide)), HB5.out⟩
      case round =>
        obtain ⟨j, hj, rfl, hblk, hs0, hs1, hbv⟩ := hrel
        have HSM := Lib.hid (And.intro hs0 hs1)
        have HBV := Lib.hid hbv
        have HBK := Lib.hid hblk
        clear hs0 hs1
        by_cases hj2 : j < 2
        · have dj : decide ((j : Int) < 2) = true := decide_eq_true (by omega)
          have j0 : (0 : Int) ≤ (j : Int) := Int.natCast_nonneg _
          have j1 : (j : Int) < 2 := by omega
          have hat := at_six hblk j hj2
          have hsz := hbv.size
          obtain ⟨d, hd⟩ : ∃ d, (if j = 0 then o.id else o.nd) = d := ⟨_, rfl⟩
          obtain ⟨z, hz⟩ : ∃ z, (if j = 0 then x else y) = z := ⟨_, rfl⟩
          have hln : (d.S.size : Int) ≤ 9223372036854775807 ∧ (d.M.length : Int) ≤ 9223372036854775807 ∧ (d.L.length : Int) + (d.T.length : Int) ≤ 9223372036854775807 := by
            rw [← hd]
            split
            · exact dt_lens HID.out.1
            · exact dt_lens HID.out.2
          rw [hd, hz] at hat
          have HAT6 := Lib.hid hat
          have HD := Lib.hid hd
          have hlt4 : W4.heap.size < wr.heap.size := (Array.getElem?_eq_some_iff.1 hblk).1
          obtain ⟨l1, l2, l3⟩ := hln
          clear hblk hbv hat hd hz
          go_upto_region 8 with (first | (refine load_list (.tmp 27) 33 W4.heap.size (j * 6) [.int .i64 d.K, .int .i64 d.N, .string d.S, .slice z.m d.M.length z.cm, .slice z.l d.L.length z.cl, .slice z.t d.T.length z.ct] _ rfl rfl rfl HAT6.out Try.underlying33 rfl info_dat6 ?_) | (refine wpList_store_row rfl 33 (.tmp 7) (.tmp 28) rfl wr.heap.size (sixL d z).toArray rfl rfl 33 dtZ (heap_alloc_new wr _) info_dat6 rfl (sixL_one _ _) ?_))
          generalize hX6 : (World.setRow (World.alloc wr _) wr.heap.size (sixL d z).toArray) = W6
          have hb6 : Below wr.heap.size wr W6 := by rw [← hX6]; exact bel_row ((Below.refl _ _).alloc (Nat.le_refl _) _) _ _ (Nat.le_refl _)
          have hz6 : Da.Blk W6 wr.heap.size 33 (sixL d z).toArray := by rw [← hX6]; exact setRow_heap _ _ dtZ _ _ _ (heap_alloc_new wr _)
          have c2 : W6.cell? ⟨wr.heap.size, 2, none⟩ = some (.string d.S) := (hz6.cell 2).trans rfl
          have c3 : W6.cell? ⟨wr.heap.size, 3, none⟩ = some (.slice z.m d.M.length z.cm) := (hz6.cell 3).trans rfl
          have c4 : W6.cell? ⟨wr.heap.size, 4, none⟩ = some (.slice z.l d.L.length z.cl) := (hz6.cell 4).trans rfl
          have c5 : W6.cell? ⟨wr.heap.size, 5, none⟩ = some (.slice z.t d.T.length z.ct) := (hz6.cell 5).trans rfl
          have HB6 := Lib.hid (HBV.out.trans (hb6.mono hsz))
          have HK6 := Lib.hid ((hb6.block _ hlt4).trans HBK.out)
          clear hX6 hb6 hz6
          have a0 : (0 : Int) ≤ (d.L.length : Int) + (d.T.length : Int) := by omega
          have hno : ∀ b, dSmall d = b → Hid (dSmall (if j = 0 then o.id else o.nd) = b) := fun b hb => Lib.hid (by rw [HD.out]; exact hb)
          by_cases t1 : (d.S.size : Int) > 5000
          · have q1 : decide ((d.S.size : Int) > 5000) = true := decide_eq_true t1
            have HNO := hno _ (dsm_no1 t1)
            clear t1 hno
            go_wp2_with fail
            go_ret2
            exact ⟨HB6.out, .inr ⟨till_not (by omega) HOK.out (op_not HNO.out), rfl⟩⟩
          · have q1 : decide ((d.S.size : Int) > 5000) = false := decide_eq_false t1
            by_cases t2 : (d.M.length : Int) > 1000
            · have q2 : decide ((d.M.length : Int) > 1000) = true := decide_eq_true t2
              have HNO := hno _ (dsm_no2 t2)
              clear t1 t2 hno
              go_wp2_with fail
              go_ret2
              exact ⟨HB6.out, .inr ⟨till_not (by omega) HOK.out (op_not HNO.out), rfl⟩⟩
            · have q2 : decide ((d.M.length : Int) > 1000) = false := decide_eq_false t2
              by_cases t3 : (d.L.length : Int) + (d.T.length : Int) > 100
              · have q3 : decide ((d.L.length : Int) + (d.T.length : Int) > 100) = true := decide_eq_true t3
                have HNO := hno _ (dsm_no3 t3)
                clear t1 t2 t3 hno
                go_wp2_with fail
                go_ret2
                exact ⟨HB6.out, .inr ⟨till_not (by omega) HOK.out (op_not HNO.out), rfl⟩⟩
              · have q3 : decide ((d.L.length : Int) + (d.T.length : Int) > 100) = false := decide_eq_false t3
                have HNO := hno _ (dsm_yes t1 t2 t3)
                clear t1 t2 t3 hno
                go_wp2_with fail
                go_roundw
                case rel =>
                  refine ⟨j + 1, hj2, by go_num, HK6.out, fun _ => ?_, fun h => ?_, HB6.out⟩
                  · rcases Nat.eq_zero_or_pos j with h0 | h0
                    · have := HNO.out; rw [if_pos h0] at this; exact this
                    · exact HSM.out.1 h0
                  · have := HNO.out; rw [if_neg (by omega)] at this; exact this
                case measure => simp [intOf]; omega
        · have dj : decide ((j : Int) < 2) = false := decide_eq_false (by omega)
          have hos : opSmall o = true := by unfold opSmall; rw [HSM.out.1 (by omega), HSM.out.2 (by omega)]; rfl
          have hnx : Hid (opSmallTill l (k + 1)) := Lib.hid (fun i o' hi ho' => by
            rcases Nat.lt_or_ge i k with h | h
            · exact htill.out i o' h ho'
            · obtain rfl : i = k := by omega
              rw [HOK.out] at ho'
              obtain rfl := Option.some.inj ho'
              exact hos)
          obtain rfl : j = 2 := by omega
          clear hblk hbv hos hj2
          go_wp2_with fail
          go_roundw
          case rel => exact ⟨k + 1, hlk, by go_num, hnx, HBV.out⟩
          case measure => simp [intOf]; omega
    · have dl : decide ((k : Int) < (m : Int)) = false := decide_eq_false (by omega)
      obtain rfl : k = m := by omega
      have HT := Lib.hid (till_all HM.out htill.out)
      clear htill hbel
      go_wp2_with fail
      go_ret2
      exact ⟨HBL.out, .inl ⟨HT.out, by rw [HM.out]; rfl⟩⟩
end Go.Proofs.Ytapnighankepjaa.Sc
end
section
namespace Go.Proofs.Ytapnighankepjaa.Sc
open Go.ChangeShapes Go.WideShapes Go.ChangeAt Go.RowKit Go.Shelf
set_option linter.unusedVariables false
set_option linter.unusedSimpArgs false

theorem names_none (p : Option Addr) (s k : Int) (w : World) (hk : k ≠ 0)
    (hc : Hid (∀ w2, Below w.heap.size w w2 → Calls Try.prog 31 #[.pointer p, .int .i64 s] w2 fun e w' => e = .returned (.int .i64 k) ∧ w2 = w')) :
    Calls Try.prog 18 #[.pointer p, .int .i64 s] w fun e w' => e = .returned (.func (.func 34) #[] #[]) ∧ Below w.heap.size w w' := by
  have dk : (k != 0) = true := by simpa using hk
  have HB := Lib.hid (show Below w.heap.size w (w.alloc (.cells #[.int .i64 s] 3)) from (Below.refl _ _).alloc (Nat.le_refl _) _)
  clear hk
  go_enter Try.func18, Try.ntmps18
  go_wp2_with fail
  refine (hc.out _ HB.out).mono ?_
  rintro e w2 ⟨rfl, rfl⟩
  go_wp2_with fail
  go_ret
  exact ⟨rfl, HB.out⟩
theorem clone_nil (w : World) : Calls Try.prog 11 #[.pointer none] w fun e w' => e = .returned (.pointer none) ∧ w = w' := by
  go_enter Try.func11, Try.ntmps11
  go_wp2_with fail
  refine (made_nil _).mono ?_
  rintro e w2 ⟨rfl, rfl⟩
  go_wp2_with fail
  go_ret
  exact ⟨rfl, rfl⟩
theorem clone_zero (tb : Nat) (a : Option Addr) (c : Nat) (w : World) (h0 : w.cell? ⟨tb, 0, none⟩ = some (.slice a 0 c)) : Calls Try.prog 11 #[.pointer (some ⟨tb, 0, none⟩)] w fun e w' => e = .returned (.pointer none) ∧ w = w' := by
  have HM := Lib.hid (made_any tb a 0 c w h0)
  go_enter Try.func11, Try.ntmps11
  go_wp2_with fail
  refine HM.out.mono ?_
  rintro e w2 ⟨rfl, rfl⟩
  go_wp2_with fail
  go_ret
  exact ⟨rfl, rfl⟩
theorem sizes_zero (tb : Nat) (a : Option Addr) (c : Nat) (w : World) (h0 : w.cell? ⟨tb, 0, none⟩ = some (.slice a 0 c)) : Calls Try.prog 20 #[.pointer (some ⟨tb, 0, none⟩)] w fun e w' => e = .returned (.tuple #[.int .i64 0, .int .i64 0]) ∧ w = w' := by
  have HM := Lib.hid (made_any tb a 0 c w h0)
  go_enter Try.func20, Try.ntmps20
  go_wp2_with fail
  refine HM.out.mono ?_
  rintro e w2 ⟨rfl, rfl⟩
  go_wp2_with fail
  go_ret2
  exact ⟨rfl, rfl⟩
theorem none_stops (n : Nat) (Kp : World → World → Prop) (w : World) (encs : Empty → Array Value) : SeqStopsK Fence.wide n Try.prog 34 #[] encs Kp (fun ys => ys = []) (fun _ => False) 0 w := fun l J Jx W hW _ _ hY h0 => by
  refine callsIn_of_wp Try.func34 rfl trivial ?_ rfl
  simp only [Try.ntmps34, List.size_toArray, List.length_cons, List.length_nil, Nat.reduceAdd, Nat.reduceSub, Array.replicate_succ, Array.replicate_zero, List.push_toArray, List.append_toArray, List.nil_append, List.cons_append]
  gi_wp2_with fail
  go_end0
  exact ⟨⟨_, rfl⟩, .inl ⟨_, rfl, h0⟩⟩
set_option maxRecDepth 100000 in
set_option maxHeartbeats 4000000 in
theorem told_none (m : Int) (w : World) : Calls Try.prog 17 #[.func (.func 34) #[] #[], .int .i64 m] w fun e w' => e = .returned (.slice none 0 0) ∧ Below w.heap.size w w' := by
  have heq : ∀ w : World, (binOp BinOp.eql 55 (.func (.func 34) #[] #[]) .nilFunc).run Try.prog w = .ok (.bool false) w := fun _ => by kernel_rfl
  refine (callsIn_wide (n := 5)).1 ?_
  refine callsIn_of_wp_marks Try.func17 rfl trivial ?_ rfl
  simp only [Try.ntmps17, List.size_toArray, List.length_cons, List.length_nil, Nat.reduceAdd, Nat.reduceSub, Array.replicate_succ, Array.replicate_zero, List.push_toArray, List.append_toArray, List.nil_append, List.cons_append]
  gi_wp2_with fail
  obtain ⟨n1, n2⟩ := two_new w #[.int .i64 m] #[.slice none 0 0] 3 52
  have hb := bel_two w (.cells #[.int .i64 m] 3) (.cells #[.slice none 0 0] 52)
  have hsz : ((w.alloc (.cells #[.int .i64 m] 3)).alloc (.cells #[.slice none 0 0] 52)).heap.size = w.heap.size + 1 + 1 := by simp
  generalize (w.alloc (.cells #[.int .i64 m] 3)).alloc (.cells #[.slice none 0 0] 52) = X at *
  have HN := Lib.hid n2
  have HB := Lib.hid hb
  have HS := Lib.hid hsz
  clear n1 n2 hb hsz
  refine wpIn_rangeFunc_ownH rfl (by omega) (gf := 34) (lb := #[]) rfl trivial (enters_of Try.func34 (by kernel_rfl) rfl)
    (none_stops (5 - 1) (fun _ _ => True) X (fun x => x.elim)) (fun _ _ => trivial) (fun _ _ _ _ _ _ _ _ => trivial) (Below.refl _ _) (fun x => x.elim)
    (fun _ W => Below X.heap.size X W) (fun _ _ _ => False) (fun s A B row hs hg hr => ownFrom_below (β := Unit) (Nat.le_refl _) (Nat.le_refl _) () A B row hs hg hr) (fun _ _ _ _ _ hs _ _ => hs) (Below.refl _ _)
    (fun x _ _ => x.elim) (fun x => x.elim) (fun _ _ x => x.elim) (fun _ _ x => x.elim) ?done (fun _ _ _ _ _ hs => hs.elim)
  case done =>
    rintro D ys W hD rfl hbel hK
    have nW := (hbel.block _ (by have := HS.out; omega)).trans HN.out
    have c5 : W.cell? ⟨w.heap.size + 1, 0, none⟩ = some (.slice none 0 0) := (Da.Blk.cell (show Da.Blk W (w.heap.size + 1) 52 #[.slice none 0 0] from nW) 0).trans rfl
    have Hbel := Lib.hid hbel
    have hDw : w.heap.size ≤ D := by have := HS.out; omega
    clear hbel nW
    gi_wp2_with fail
    refine ⟨by simp, .inl ⟨_, _, rfl, run_takeDeferred hK, ?_⟩⟩
    exact ⟨_, results_tmp rfl _ _ _, rfl, (HB.out.trans (Hbel.out.mono (by have := HS.out; omega))).trans (belowK_b (w := w) (Nat.le_refl _) W D _ _ hDw hK rfl rfl)⟩
end Go.Proofs.Ytapnighankepjaa.Sc
end
section
namespace Go.Proofs.Ytapnighankepjaa.Sc
open Go.ChangeShapes Go.WideShapes Go.ChangeAt Go.RowKit Go.Shelf
set_option linter.unusedVariables false
set_option linter.unusedSimpArgs false

def dtNo : Da.Dt := .mk 0 0 ⟨#[]⟩ [] [] []
def sxNo : Sx := ⟨none, none, none, 0, 0, 0⟩
theorem dt_no (w : World) (Q : Nat → Prop) : Da.IsDt w Q dtNo (.agg (sixL dtNo sxNo).toArray) := by
  unfold dtNo
  simp only [Da.IsDt]
  exact ⟨by decide, by decide, by decide, none, 0, none, 0, none, 0, rfl, row_nil _ _, ⟨Nat.le_refl _, by simp [maxLen], by simp, fun _ => rfl⟩, by simp only [Da.IsDts], ⟨Nat.le_refl _, by simp [maxLen], by simp, fun _ => rfl⟩, by simp only [Da.IsDts]⟩
/-- One act in new memory. -/
theorem ops_one {w : World} {B g : Nat} {o : Opn} {x y : Sx} (hg : g < B) (hb : Da.Blk w g 35 (opL o x y).toArray) (h1 : Da.IsDt w (Da.Lo B) o.id (.agg (sixL o.id x).toArray)) (h2 : Da.IsDt w (Da.Lo B) o.nd (.agg (sixL o.nd y).toArray)) (h3 : (Lit.int .i64 o.n).wf = true) : IsOps w (Da.Lo B) (some ⟨g, 0, none⟩) [o] := fun i o' hi => by
  have : i = 0 := by
    rcases Nat.eq_zero_or_pos i with h | h
    · exact h
    · rw [List.getElem?_eq_none (by show 1 ≤ i; omega)] at hi; cases hi
  subst this
  obtain rfl : o = o' := by simpa using hi
  exact ⟨g, 0, rfl, hg, x, y, Ld.At.of_blk hb, h1, h2, h3⟩
theorem neq_seen0 (w : World) : (binOp BinOp.neq 49 (.agg #[.int .i64 0, .int .i64 0, .string ⟨#[]⟩]) (.agg #[.int .i64 0, .int .i64 0, .string ⟨#[]⟩])).run Try.prog w = .ok (.bool false) w := by kernel_rfl
def NoneIn (w : World) (tz sl db : Nat) (dc : Array Value) (wr : World) : Prop :=
  Below w.heap.size w wr ∧ Da.Blk wr tz 66 #[.slice none 0 0, .slice none 0 0, .map none] ∧ Da.Blk wr sl 25 #[.pointer none, .pointer (some ⟨tz, 0, none⟩)] ∧ Da.Blk wr db 33 dc
theorem NoneIn.bel {w : World} {tz sl db : Nat} {dc : Array Value} {W W' : World} (h : NoneIn w tz sl db dc W) (hb : Below W.heap.size W W') : NoneIn w tz sl db dc W' := by
  obtain ⟨h1, h2, h3, h4⟩ := h
  exact ⟨h1.trans (hb.mono h1.size), (hb.block _ (Array.getElem?_eq_some_iff.1 h2).1).trans h2, (hb.block _ (Array.getElem?_eq_some_iff.1 h3).1).trans h3, (hb.block _ (Array.getElem?_eq_some_iff.1 h4).1).trans h4⟩
end Go.Proofs.Ytapnighankepjaa.Sc
end
section
namespace Go.Proofs.Ytapnighankepjaa.Sc
open Go.ChangeShapes Go.WideShapes Go.ChangeAt Go.RowKit Go.Shelf
set_option linter.unusedVariables false
set_option linter.unusedSimpArgs false

/-- One act. -/
def stepT (T : Tab) (o : Opn) : Tab := if o.k = 0 then extT T o.s o.id o.n else if o.k = 1 then markT T o.s else T
def actsT (T : Tab) (l : List Opn) : Tab := l.foldl stepT T
theorem actsT_take {T : Tab} {l : List Opn} {k : Nat} {o : Opn} (h : l[k]? = some o) : actsT T (l.take (k + 1)) = stepT (actsT T (l.take k)) o := by
  obtain ⟨hlt, rfl⟩ := List.getElem?_eq_some_iff.1 h
  unfold actsT
  rw [List.take_succ_eq_append_getElem hlt, List.foldl_append]
  rfl
def MadeAt (l : List Opn) (n : Nat) (w : World) (tb : Nat) (T0 : Tab) (i : Value) (wr : World) : Prop :=
  ∃ k : Nat, k ≤ n ∧ i = .int .i64 (k : Int) ∧ TabIn wr tb (actsT T0 (l.take k)) (fun b => w.heap.size ≤ b) ∧ Below w.heap.size w wr
set_option maxRecDepth 100000 in
set_option maxHeartbeats 16000000 in
theorem made_acts (l : List Opn) (a : Option Addr) (c B : Nat) (w : World) (hB : B ≤ w.heap.size) (hcm : l.length ≤ maxLen) (h : IsOps w (Da.Lo B) a l) :
    Calls Try.prog 15 #[.slice a l.length c] w fun e w' => ∃ tb, e = .returned (.pointer (some ⟨tb, 0, none⟩)) ∧ TabIn w' tb (actsT Tab.new l) (fun b => w.heap.size ≤ b) ∧ Below w.heap.size w w' := by
  unfold maxLen at hcm
  have HO := Lib.hid h
  clear h
  go_enter Try.func15, Try.ntmps15
  go_wp2_with fail
  refine (new_any w).mono ?_
  rintro e w1 ⟨rfl, h1, hb1⟩
  obtain ⟨tb, htb⟩ : ∃ tb, w.heap.size + 2 = tb := ⟨_, rfl⟩
  rw [htb] at h1 ⊢
  have H1 := Lib.hid h1
  have HB1 := Lib.hid hb1
  clear h1 hb1 htb
  go_wp2_with fail
  go_loopw [11] (fun i wr => MadeAt l l.length w tb Tab.new i wr) (fun i _ => l.length - (intOf i).toNat)
  case atStart => exact ⟨0, Nat.zero_le _, rfl, H1.out, HB1.out⟩
  case round =>
    obtain ⟨k, hk, rfl, htab, hbel⟩ := hrel
    have HBL := Lib.hid hbel
    have HT := Lib.hid htab
    by_cases hlk : k < l.length
    · have dl : decide ((k : Int) < (l.length : Int)) = true := decide_eq_true (by omega)
      have i0 : (0 : Int) ≤ (k : Int) := Int.natCast_nonneg _
      have i1 : (k : Int) < (l.length : Int) := by omega
      obtain ⟨o, ho⟩ : ∃ o, l[k]? = some o := ⟨l[k], List.getElem?_eq_getElem _⟩
      obtain ⟨g, off, rfl, hg, x, y, hat, hid, hnd, hwn⟩ := (HO.out.below (hbel.mono hB)) k o ho
      have HAT := Lib.hid hat
      have HID := Lib.hid hid
      have HWN := Lib.hid hwn
      have HST := Lib.hid (actsT_take (T := Tab.new) ho)
      have hszr := hbel.size
      clear hat hid hnd hwn ho hbel htab
      go_upto_region 7 with (first | (refine load_list (.tmp 13) 35 g (off + k * 16) (opL o x y) _ rfl rfl rfl HAT.out Try.underlying35 rfl info_op ?_) | (refine wpList_store_row rfl 35 (.tmp 5) (.tmp 14) rfl wr.heap.size (opL o x y).toArray rfl rfl 35 opZ (heap_alloc_new wr _) info_op rfl (opL_one _ _ _) ?_))
      generalize hX4 : (World.setRow (World.alloc wr _) wr.heap.size (opL o x y).toArray) = W4
      have hb4 : Below wr.heap.size wr W4 := by rw [← hX4]; exact bel_row ((Below.refl _ _).alloc (Nat.le_refl _) _) _ _ (Nat.le_refl _)
      have hz4 : Da.Blk W4 wr.heap.size 35 (opL o x y).toArray := by rw [← hX4]; exact setRow_heap _ _ opZ _ _ _ (heap_alloc_new wr _)
      have HB4 := Lib.hid (HBL.out.trans (hb4.mono hszr))
      have HT4 := Lib.hid (HT.out.bel hb4)
      have HID4 := Lib.hid (HID.out.below (hb4.mono (Nat.le_trans hB hszr)))
      have hs4 : w.heap.size ≤ W4.heap.size := Nat.le_trans hszr hb4.size
      have c0 : W4.cell? ⟨wr.heap.size, 0, none⟩ = some (.int .i64 o.k) := (hz4.cell 0).trans rfl
      have c1 : W4.cell? ⟨wr.heap.size, 1, none⟩ = some (.int .i64 o.s) := (hz4.cell 1).trans rfl
      have c15 : W4.cell? ⟨wr.heap.size, 15, none⟩ = some (.int .i64 o.n) := (hz4.cell 15).trans rfl
      have HZ4 := Lib.hid hz4
      clear hX4 hb4 hz4
      by_cases hk0 : o.k = 0
      · have d0 : (o.k == 0) = true := by rw [hk0]; rfl
        have HK := Lib.hid hk0
        clear hk0
        go_wp2_with (refine load_list (.tmp 22) 33 wr.heap.size 3 (sixL o.id x) _ rfl rfl rfl (at_id HZ4.out) Try.underlying33 rfl info_dat6 ?_)
        refine (ext_all tb (actsT Tab.new (l.take k)) _ o.s o.n o.id _ B W4 HID4.out (Nat.le_trans hB hs4) HT4.out HWN.out).mono ?_
        rintro e w5 ⟨rfl, h5, hc5⟩
        have H5 := Lib.hid (h5.step hs4)
        have HB5 := Lib.hid (HB4.out.trans (hc5.to_below hs4 (fun j hj => hj)))
        clear h5 hc5
        go_wp2_with fail
        go_roundw
        case rel => exact ⟨k + 1, hlk, by go_num, by rw [HST.out, stepT, if_pos HK.out]; exact H5.out, HB5.out⟩
        case measure => simp [intOf]; omega
      · have d0 : (o.k == 0) = false := by rw [beq_eq_false_iff_ne]; exact hk0
        by_cases hk1 : o.k = 1
        · have d1 : (o.k == 1) = true := by rw [hk1]; rfl
          have HK := Lib.hid (And.intro hk0 hk1)
          clear hk0 hk1
          go_wp2_with fail
          refine (mark_all tb (actsT Tab.new (l.take k)) _ o.s W4 HT4.out).mono ?_
          rintro e w5 ⟨rfl, h5, hc5⟩
          have H5 := Lib.hid (h5.step hs4)
          have HB5 := Lib.hid (HB4.out.trans (hc5.to_below hs4 (fun j hj => hj)))
          clear h5 hc5
          go_wp2_with fail
          go_roundw
          case rel => exact ⟨k + 1, hlk, by go_num, by rw [HST.out, stepT, if_neg HK.out.1, if_pos HK.out.2]; exact H5.out, HB5.out⟩
          case measure => simp [intOf]; omega
        · have d1 : (o.k == 1) = false := by rw [beq_eq_false_iff_ne]; exact hk1
          have HK := Lib.hid (And.intro hk0 hk1)
          clear hk0 hk1
          go_wp2_with fail
          go_roundw
          case rel => exact ⟨k + 1, hlk, by go_num, by rw [HST.out, stepT, if_neg HK.out.1, if_neg HK.out.2]; exact HT4.out, HB4.out⟩
          case measure => simp [intOf]; omega
    · have dl : decide ((k : Int) < (l.length : Int)) = false := decide_eq_false (by omega)
      obtain rfl : k = l.length := by omega
      clear htab hbel
      go_wp2_with fail
      go_ret
      refine ⟨tb, rfl, ?_, HBL.out⟩
      have := HT.out
      rw [List.take_length] at this
      exact this
end Go.Proofs.Ytapnighankepjaa.Sc
end
section
namespace Go.Proofs.Ytapnighankepjaa.Sc
open Go.ChangeShapes Go.WideShapes Go.ChangeAt Go.RowKit
set_option linter.unusedVariables false
set_option linter.unusedSimpArgs false
set_option maxRecDepth 100000

section
variable {H : Type} {enc : TypeId × Value → H} {w : World} {base : Nat} {spare : Nat → Bool} {held : Bool}
theorem bytes_op : Try.prog.bytesOf 35 = 240 := by kernel_rfl
theorem cells_op : Try.prog.cellsOf 35 = 16 := by kernel_rfl
theorem sx_of {Q : Nat → Prop} {d : Da.Dt} {x0 x1 x2 x3 x4 x5 : Value} (h : Da.IsDt w Q d (.agg #[x0, x1, x2, x3, x4, x5])) : ∃ x : Sx, [x0, x1, x2, x3, x4, x5] = sixL d x ∧ Da.IsDt w Q d (.agg (sixL d x).toArray) := by
  have h' := h
  obtain ⟨am, cm, al, cl, at_, ct, hv, _⟩ := h'.open_
  injection hv with hv
  have hv := congrArg Array.toList hv
  simp only [List.cons.injEq, and_true] at hv
  obtain ⟨rfl, rfl, rfl, rfl, rfl, rfl⟩ := hv
  exact ⟨⟨am, al, at_, cm, cl, ct⟩, rfl, h⟩
/-- The cells of an act. -/
def OpD (w : World) (Q : Nat → Prop) (c : List Value) (o : Opn) : Prop :=
  ∃ x y : Sx, c = opL o x y ∧ Da.IsDt w Q o.id (.agg (sixL o.id x).toArray) ∧ Da.IsDt w Q o.nd (.agg (sixL o.nd y).toArray) ∧ (Lit.int .i64 o.n).wf = true
theorem open_op {n : Nat} {cs : List Value} {x : DataW H × List MemPlace} (h : DataW.trod enc Try.prog w base spare held n 35 cs = some x) (hw : (x.1.weights Try.prog 35).all (· ≤ reachBytes) = true) :
    ∃ o : Opn, OpD w (Da.Lo w.heap.size) cs o := by
  obtain ⟨xs, m, rfl, rfl, hl, hxl, hf⟩ := DataW.trod_struct Try.underlying35 h
  rw [cells_op] at hl
  match cs, hl with
  | [c0, c1, c2, c3, c4, c5, c6, c7, c8, c9, c10, c11, c12, c13, c14, c15], _ =>
    match xs, hxl with
    | [y0, y1, y2, y3, y4, y5], _ =>
      have f0 := hf 0 _ rfl
      have f1 := hf 1 _ rfl
      have f2 := hf 2 _ rfl
      have f3 := hf 3 _ rfl
      have f4 := hf 4 _ rfl
      have f5 := hf 5 _ rfl
      simp [Da.cells_int, Da.cells_int64, Da.cells_dat] at f0 f1 f2 f3 f4 f5
      simp only [DataW.weights, Try.underlying35, List.map_cons, List.map_nil, DataW.weightsEach, List.all_append, Bool.and_eq_true] at hw
      obtain ⟨_, _, _, hw3, hw4, _⟩ := hw
      obtain ⟨k, hk, _, wk⟩ := DataW.trod_int Try.underlying3 f0
      obtain ⟨s, hs, _, ws⟩ := DataW.trod_int Try.underlying3 f1
      obtain ⟨t, ht, _, wt⟩ := DataW.trod_int Try.underlying3 f2
      obtain ⟨d, x0, x1, x2, x3, x4, x5, he, hd⟩ := Da.open_dt _ _ _ f3 hw3
      obtain ⟨d', x0', x1', x2', x3', x4', x5', he', hd'⟩ := Da.open_dt _ _ _ f4 hw4
      obtain ⟨nn, hn, _, wn⟩ := DataW.trod_int Try.underlying2 f5
      simp only [List.cons.injEq, and_true] at hk hs ht hn he he'
      obtain ⟨rfl, rfl, rfl, rfl, rfl, rfl⟩ := he
      obtain ⟨rfl, rfl, rfl, rfl, rfl, rfl⟩ := he'
      subst hk hs ht hn
      obtain ⟨x, hx, hd1⟩ := sx_of hd
      obtain ⟨y, hy, hd2⟩ := sx_of hd'
      refine ⟨⟨k, s, t, d, d', nn⟩, x, y, ?_, hd1, hd2, wn⟩
      show _ = [_, _, _] ++ sixL d x ++ sixL d' y ++ [_]
      rw [← hx, ← hy]
      rfl
instance : Inhabited Opn := ⟨⟨0, 0, 0, default, default, 0⟩⟩
theorem open_ops {n : Nat} {cs : List Value} {x : DataW H × List MemPlace} (h : DataW.trod enc Try.prog w base spare held n 22 cs = some x) (hw : (x.1.weights Try.prog 22).all (· ≤ reachBytes) = true) :
    ∃ a cap l, cs = [.slice a l.length cap] ∧ l.length ≤ cap ∧ cap ≤ maxLen ∧ (a = none → cap = 0) ∧ IsOps w (Da.Lo w.heap.size) a l := by
  rcases DataW.trod_slice Try.underlying22 h with ⟨rfl, _⟩ | ⟨a, len, cap, elems, rest, m, rfl, rfl, rfl, _, hl, hm, hlen, hel, _, _⟩
  · exact ⟨none, 0, [], rfl, Nat.le_refl _, by simp [maxLen], fun _ => rfl, fun i o hi => by cases hi⟩
  · simp only [DataW.weights, Try.underlying22, List.all_cons, List.all_append, Bool.and_eq_true, decide_eq_true_eq, bytes_op, List.length_map] at hw
    obtain ⟨hb, hwe, _⟩ := hw
    have hspot : 0 < len → a.spot = none := by
      intro h0
      have he := hel 0 h0
      rw [List.getElem?_eq_getElem (show 0 < elems.length by omega), Option.bind_eq_some_iff] at he
      obtain ⟨cs', h1, h2⟩ := he
      obtain ⟨o, x, y, rfl, _⟩ := open_op h2 (Da.weights_of hwe _ (List.mem_map_of_mem (List.getElem_mem (show 0 < elems.length by omega))))
      obtain ⟨_, _, hc⟩ := World.cells?_some h1
      rw [cells_op] at hc
      simpa [Addr.add] using World.cell?_spot ((hc 0 (by omega)).trans rfl)
    have key : ∀ i, i < len → ∃ o : Opn, ∃ b off, a = ⟨b, off, none⟩ ∧ b < w.heap.size ∧ OpAt w (Da.Lo w.heap.size) b (off + i * 16) o := by
      intro i hi
      have he := hel i hi
      have hi' : i < elems.length := by omega
      rw [List.getElem?_eq_getElem hi', Option.bind_eq_some_iff] at he
      obtain ⟨cs', h1, h2⟩ := he
      obtain ⟨o, x, y, rfl, hx, hy, hn⟩ := open_op h2 (Da.weights_of hwe _ (List.mem_map_of_mem (List.getElem_mem hi')))
      obtain ⟨_, _, hc⟩ := World.cells?_some h1
      rw [cells_op] at hc
      obtain ⟨b, off, sp⟩ := a
      obtain rfl : sp = none := hspot (by omega)
      have c : ∀ j v, j < 16 → (opL o x y)[j]? = some v → w.cell? ⟨b, off + i * 16 + j, none⟩ = some v := fun j v hj hv => by
        have := hc j hj
        rw [hv, Ld.add_at, Ld.add_at] at this
        exact this
      exact ⟨o, b, off, rfl, Da.in_heap (c 0 _ (by omega) rfl), x, y, fun j v hv => c j v (by
        rcases Nat.lt_or_ge j 16 with h1 | h1
        · exact h1
        · rw [List.getElem?_eq_none (by rw [opL_len]; exact h1)] at hv; cases hv) hv, hx, hy, hn⟩
    obtain ⟨f, hf⟩ : ∃ f : Nat → Opn, ∀ i, i < len → ∃ b off, a = ⟨b, off, none⟩ ∧ b < w.heap.size ∧ OpAt w (Da.Lo w.heap.size) b (off + i * 16) (f i) := by
      classical
      refine ⟨fun i => if hi : i < len then Classical.choose (key i hi) else default, fun i hi => ?_⟩
      simp only [dif_pos hi]
      exact Classical.choose_spec (key i hi)
    have hll : ((List.range len).map f).length = len := by simp
    refine ⟨some a, cap, (List.range len).map f, by rw [hll], by rw [hll]; exact hl, hm, (fun h => by cases h), fun i o hi => ?_⟩
    simp only [List.getElem?_map, Option.map_eq_some_iff] at hi
    obtain ⟨k', hk, rfl⟩ := hi
    obtain ⟨hk1, hk2⟩ := List.getElem?_eq_some_iff.1 hk
    rw [List.getElem_range] at hk2
    subst hk2
    rw [List.length_range] at hk1
    obtain ⟨b, off, rfl, h2, h3⟩ := hf i hk1
    exact ⟨b, off, rfl, h2, h3⟩
theorem okWide_arr {P : Program} {r : Reach} {b0 n : Nat} {t e : TypeId} {v : Value} (ht : P.underlying t = some (.array n e)) (h : Value.okWide P w r b0 t v) : ∃ cs, v = .agg cs ∧ cs.size = P.cellsOf t := by
  simp only [Value.okWide, ht] at h
  obtain ⟨cs, h1, h2, _⟩ := h
  exact ⟨cs, h1, h2⟩
end
end Go.Proofs.Ytapnighankepjaa.Sc
end
section
namespace Go.Proofs.Ytapnighankepjaa.Sc
open Go Go.RowKit
set_option linter.unusedVariables false

/-- The table has more scopes and marks, perhaps. -/
def Sub (T U : Tab) : Prop := T.rows <+: U.rows ∧ T.marks <+: U.marks
theorem Sub.refl (T : Tab) : Sub T T := ⟨List.prefix_rfl, List.prefix_rfl⟩
theorem Sub.trans {T U V : Tab} (h : Sub T U) (k : Sub U V) : Sub T V := ⟨h.1.trans k.1, h.2.trans k.2⟩
theorem sub_step (T : Tab) (o : Opn) : Sub T (stepT T o) := by
  unfold stepT
  split
  · unfold extT
    split
    · exact ⟨⟨_, rfl⟩, List.prefix_rfl⟩
    · exact .refl T
  · split
    · unfold markT
      split
      · exact ⟨List.prefix_rfl, ⟨_, rfl⟩⟩
      · exact .refl T
    · exact .refl T
theorem sub_acts : ∀ (l : List Opn) (T : Tab), Sub T (actsT T l)
  | [], T => .refl T
  | o :: l, T => (sub_step T o).trans (sub_acts l (stepT T o))
theorem Sub.len {T U : Tab} (h : Sub T U) : T.rows.length ≤ U.rows.length := h.1.length_le
theorem Sub.row {T U : Tab} (h : Sub T U) {s : Nat} (hs : s < T.rows.length) : U.rows.getD s default = T.rows.getD s default := by
  obtain ⟨r, hr⟩ := h.1
  rw [← hr, List.getD_eq_getElem?_getD, List.getD_eq_getElem?_getD, List.getElem?_append_left hs]
theorem Sub.at_ {T U : Tab} (h : Sub T U) {s : Nat} (hs : s < T.rows.length) : U.id s = T.id s ∧ U.par s = T.par s ∧ U.what s = T.what s := by
  unfold Tab.id Tab.par Tab.what
  rw [h.row hs]
  exact ⟨rfl, rfl, rfl⟩
theorem chain_sub {T U : Tab} (h : Sub T U) (hT : T.Ok) (hU : U.Ok) : ∀ s, s < T.rows.length → U.chain s = T.chain s := by
  intro s
  induction s using Nat.strongRecOn with
  | ind s ih =>
    intro hs
    by_cases h0 : s = 0
    · subst h0; rfl
    · have hp := hT.par' s (by omega)
      rw [chain_step hU h0, chain_step hT h0, (h.at_ hs).2.1, ih _ hp (by omega)]
theorem find_congr {p q : Nat → Bool} : ∀ (l : List Nat), (∀ i ∈ l, p i = q i) → l.find? p = l.find? q
  | [], _ => rfl
  | i :: l, h => by rw [List.find?_cons, List.find?_cons, h i (List.mem_cons_self ..), find_congr l (fun j hj => h j (List.mem_cons_of_mem _ hj))]
theorem binder_sub {T U : Tab} (h : Sub T U) (hT : T.Ok) (hU : U.Ok) {s : Nat} (hs : s < T.rows.length) (x : Idn) : U.binder s x = T.binder s x := by
  unfold Tab.binder
  rw [chain_sub h hT hU s hs, find_congr _ (fun i hi => by rw [(h.at_ (chain_lt hT s hs i hi).2.2).1])]
theorem seenR_sub {T U : Tab} (h : Sub T U) (hT : T.Ok) (hU : U.Ok) (t : Bs) : ∀ (r : List Int) (s : Nat), s < T.rows.length → (∀ k ∈ r, 1 ≤ k ∧ k ≤ (T.marks.length : Int)) → U.seenR t r s = T.seenR t r s
  | [], s, hs, _ => by
    unfold Tab.seenR
    rw [binder_sub h hT hU hs]
    by_cases hb : T.binder s ⟨t, []⟩ = 0
    · rw [if_pos hb, if_pos hb]
    · rw [if_neg hb, if_neg hb, (h.at_ (binder_lt hT hs hb)).2.2]
  | m :: r, s, hs, hm => by
    unfold Tab.seenR
    rw [binder_sub h hT hU hs]
    by_cases hb : T.binder s ⟨t, (m :: r).reverse⟩ = 0
    · rw [if_pos hb, if_pos hb]
      have h1 := hm m (List.mem_cons_self ..)
      have hlt : m.toNat - 1 < T.marks.length := by omega
      have he : U.marks.getD (m.toNat - 1) 0 = T.marks.getD (m.toNat - 1) 0 := by
        obtain ⟨q, hq⟩ := h.2
        rw [← hq, List.getD_eq_getElem?_getD, List.getD_eq_getElem?_getD, List.getElem?_append_left hlt]
      rw [he]
      refine seenR_sub h hT hU t r _ ?_ (fun k hk => hm k (List.mem_cons_of_mem _ hk))
      rw [List.getD_eq_getElem?_getD, List.getElem?_eq_getElem hlt]
      exact hT.mark _ (List.getElem_mem hlt)
    · rw [if_neg hb, if_neg hb, (h.at_ (binder_lt hT hs hb)).2.2]
theorem findE_zero {T : Tab} {s : Int} {d : Da.Dt} (hpos : 0 < T.rows.length) (h : findE T s d = 0) : ∃ k : Nat, s = (k : Int) ∧ k < T.rows.length ∧ IsSym d ∧ markOk T.marks.length d.M = true := by
  unfold findE at h
  split at h
  · next h1 => exact absurd h h1
  · next h1 =>
    split at h
    · exact absurd h (by decide)
    · next h2 =>
      split at h
      · next h3 =>
        obtain ⟨k, hk, hl⟩ := chk_ok (n := T.rows.length) (Nat.pos_iff_ne_zero.1 hpos) (by simpa using h1)
        exact ⟨k, hk, hl, by simpa using h2, h3⟩
      · exact absurd h (by decide)
theorem findE_is {T : Tab} {k : Nat} {d : Da.Dt} (hk : k < T.rows.length) (hy : IsSym d) (hm : markOk T.marks.length d.M = true) : findE T (k : Int) d = 0 := by
  have hc : chkE T.rows.length (k : Int) = 0 := by unfold chkE; rw [if_neg (by omega), if_neg (by rintro (h | h) <;> omega)]
  unfold findE
  rw [if_neg (by simpa using hc), if_neg (by simpa using hy), if_pos hm]
/-- What was found is found. -/
theorem find_sub {T U : Tab} (h : Sub T U) (hT : T.Ok) (hU : U.Ok) {s : Int} {d : Da.Dt} (h0 : findE T s d = 0) : findE U s d = 0 ∧ findZ U s d = findZ T s d := by
  obtain ⟨k, rfl, hk, hy, hm⟩ := findE_zero hT.pos h0
  have hm' : markOk U.marks.length d.M = true := by
    rw [markOk, List.all_eq_true] at hm ⊢
    intro x hx
    have := hm x hx
    have hl := h.2.length_le
    simp only [decide_eq_true_eq] at this ⊢
    omega
  have h1 := findE_is (T := U) (k := k) (d := d) (by have := h.len; omega) hy hm'
  refine ⟨h1, ?_⟩
  unfold findZ
  rw [h1, h0, if_pos rfl, if_pos rfl]
  unfold Tab.seen
  refine seenR_sub h hT hU _ _ _ (by simpa using hk) (fun x hx => ?_)
  have hx' : x ∈ d.M := List.mem_reverse.1 hx
  exact ⟨((sym_facts hy.1 hy.2).1.mark x hx').1, markOk_made hm x hx'⟩
theorem same_symm (z u : Seen) : z.same u = u.same z := by
  rw [Bool.eq_iff_iff, Seen.same_iff, Seen.same_iff]
  exact ⟨fun h => h.symm, fun h => h.symm⟩
theorem same_trans {z u v : Seen} (h : z.same u = true) (k : u.same v = true) : z.same v = true := by
  rw [Seen.same_iff] at *
  exact h.trans k
end Go.Proofs.Ytapnighankepjaa.Sc
end
section
namespace Go.Proofs.Ytapnighankepjaa.Sc
open Go.ChangeShapes Go.WideShapes Go.ChangeAt Go.RowKit
set_option linter.unusedVariables false
set_option linter.unusedSimpArgs false

theorem OpD.len {w : World} {Q : Nat → Prop} {c : List Value} {o : Opn} (h : OpD w Q c o) : c.length = 16 := by
  obtain ⟨x, y, rfl, _⟩ := h
  exact opL_len o x y
theorem OpD.below {w w' : World} {B : Nat} {c : List Value} {o : Opn} (h : OpD w (Da.Lo B) c o) (hb : Below B w w') : OpD w' (Da.Lo B) c o := by
  obtain ⟨x, y, h1, h2, h3, h4⟩ := h
  exact ⟨x, y, h1, h2.below hb, h3.below hb, h4⟩
/-- The cells of acts, one behind the other, and which acts they are. -/
inductive OpsD (w : World) (Q : Nat → Prop) : List (List Value) → List Opn → Prop
  | nil : OpsD w Q [] []
  | cons {c : List Value} {o : Opn} {cs : List (List Value)} {l : List Opn} : OpD w Q c o → OpsD w Q cs l → OpsD w Q (c :: cs) (o :: l)
theorem OpsD.low {w w' : World} {B : Nat} {cs : List (List Value)} {l : List Opn} (h : OpsD w (Da.Lo B) cs l) (hb : Below B w w') : OpsD w' (Da.Lo B) cs l := by
  induction h with
  | nil => exact .nil
  | cons h1 _ ih => exact .cons (h1.below hb) ih
theorem OpsD.snoc {w : World} {Q : Nat → Prop} {cs : List (List Value)} {l : List Opn} {c : List Value} {o : Opn} (h : OpsD w Q cs l) (h1 : OpD w Q c o) : OpsD w Q (cs ++ [c]) (l ++ [o]) := by
  induction h with
  | nil => exact .cons h1 .nil
  | cons h2 _ ih => exact .cons h2 ih
theorem OpsD.flat {w : World} {Q : Nat → Prop} {cs : List (List Value)} {l : List Opn} (h : OpsD w Q cs l) : cs.flatten.length = l.length * 16 := by
  induction h with
  | nil => rfl
  | cons h1 _ ih => rw [List.flatten_cons, List.length_append, ih, h1.len, List.length_cons]; omega
theorem OpsD.at_ {w : World} {Q : Nat → Prop} {cs : List (List Value)} {l : List Opn} (h : OpsD w Q cs l) : ∀ (i : Nat) (o : Opn), l[i]? = some o → ∃ c, OpD w Q c o ∧ ∀ j, j < 16 → cs.flatten[i * 16 + j]? = c[j]? := by
  induction h with
  | nil => intro i o hi; cases hi
  | @cons c o cs l h1 h2 ih =>
    intro i o' hi
    cases i with
    | zero =>
      obtain rfl : o = o' := by simpa using hi
      refine ⟨c, h1, fun j hj => ?_⟩
      rw [List.flatten_cons, Nat.zero_mul, Nat.zero_add, List.getElem?_append_left (by rw [h1.len]; exact hj)]
    | succ i =>
      obtain ⟨c', h3, h4⟩ := ih i o' (by simpa using hi)
      refine ⟨c', h3, fun j hj => ?_⟩
      rw [List.flatten_cons, List.getElem?_append_right (by rw [h1.len]; omega), h1.len, show (i + 1) * 16 + j - 16 = i * 16 + j by omega]
      exact h4 j hj
theorem OpsD.one {w : World} {Q : Nat → Prop} {cs : List (List Value)} {l : List Opn} (h : OpsD w Q cs l) : ∀ u ∈ cs.flatten, u.oneCell' = true := by
  induction h with
  | nil => intro u hu; cases hu
  | @cons c o cs l h1 h2 ih =>
    intro u hu
    rw [List.flatten_cons] at hu
    rcases List.mem_append.1 hu with h | h
    · obtain ⟨x, y, rfl, _⟩ := h1
      have := opL_one o x y
      rw [List.all_toArray] at this
      exact List.all_eq_true.1 this u h
    · exact ih u h
/-- A slice that came in, as cells. -/
theorem ops_cells {w : World} {Q : Nat → Prop} {b off : Nat} : ∀ (l : List Opn) (k : Nat), (∀ i o, l[i]? = some o → OpAt w Q b (off + (k + i) * 16) o) → ∃ cs, OpsD w Q cs l ∧ ∀ j u, cs.flatten[j]? = some u → w.cell? ⟨b, off + k * 16 + j, none⟩ = some u
  | [], k, _ => ⟨[], .nil, fun j u hu => by cases hu⟩
  | o :: l, k, h => by
    obtain ⟨x, y, hat, h2, h3, h4⟩ := h 0 o rfl
    obtain ⟨cs, hc, hcell⟩ := ops_cells l (k + 1) (fun i o' hi => by have := h (i + 1) o' (by simpa using hi); rwa [show k + (i + 1) = k + 1 + i by omega] at this)
    refine ⟨opL o x y :: cs, .cons ⟨x, y, rfl, h2, h3, h4⟩ hc, fun j u hu => ?_⟩
    rw [List.flatten_cons] at hu
    rcases Nat.lt_or_ge j 16 with hj | hj
    · rw [List.getElem?_append_left (by rw [opL_len]; exact hj)] at hu
      have := hat j u hu
      rwa [Nat.add_zero] at this
    · rw [List.getElem?_append_right (by rw [opL_len]; exact hj), opL_len] at hu
      have := hcell _ u hu
      rwa [show off + (k + 1) * 16 + (j - 16) = off + k * 16 + j by omega] at this
/-- Acts in a row of one's own. -/
def RowOps (w : World) (N B : Nat) (v : Value) (l : List Opn) : Prop := ∃ cs, w.ownsRow N 35 16 v l.length cs.flatten ∧ OpsD w (Da.Lo B) cs l
theorem RowOps.bel {w w' : World} {N B : Nat} {v : Value} {l : List Opn} (h : RowOps w N B v l) (hB : B ≤ w.heap.size) (hb : Below w.heap.size w w') : RowOps w' N B v l := by
  obtain ⟨cs, h1, h2⟩ := h
  exact ⟨cs, ownsRow_same h1 (fun g hg => hb.block g (h1.lt g hg).2), h2.low (hb.mono hB)⟩
theorem RowOps.isOps {w : World} {N B : Nat} {a : Option Addr} {n c : Nat} {l : List Opn} (h : RowOps w N B (.slice a n c) l) (hB : B ≤ w.heap.size) : IsOps w (Da.Lo w.heap.size) a l := fun i o hi => by
  obtain ⟨cs, h1, h2⟩ := h
  have hpos : 0 < l.length := by
    obtain ⟨hlt, _⟩ := List.getElem?_eq_some_iff.1 hi
    omega
  have hn : n = l.length := by
    rcases h1.2 with ⟨h3, h4⟩ | ⟨g, cap, cur, h3, _⟩
    · omega
    · injection h3
  subst hn
  obtain ⟨g, rfl, hg, _, hc⟩ := row_cells h1 hpos
  obtain ⟨c', ⟨x, y, rfl, h5, h6, h7⟩, h8⟩ := h2.at_ i o hi
  refine ⟨g, 0, rfl, hg, x, y, fun j v hv => ?_, h5.more (fun b hb => Nat.lt_of_lt_of_le hb hB), h6.more (fun b hb => Nat.lt_of_lt_of_le hb hB), h7⟩
  have hj : j < 16 := by
    rcases Nat.lt_or_ge j 16 with h | h
    · exact h
    · rw [List.getElem?_eq_none (by rw [opL_len]; exact h)] at hv; cases hv
  rw [Nat.zero_add]
  exact hc _ _ ((h8 j hj).trans hv)
theorem RowOps.snoc {w w1 : World} {N B : Nat} {v v' : Value} {l : List Opn} {o : Opn} {cs : List (List Value)} {c : List Value} (h2 : OpsD w (Da.Lo B) cs l) (hc : OpD w (Da.Lo B) c o) (hb : Below B w w1) (h : w1.ownsRow N 35 16 v' (l.length + 1) (cs.flatten ++ c)) : RowOps w1 N B v' (l ++ [o]) :=
  ⟨cs ++ [c], by rw [List.flatten_append, List.length_append]; simpa using h, (h2.snoc hc).low hb⟩
theorem info_opz : (Try.prog.info? 35).map (fun i => (i.zero, i.size, i.bytes)) = some (some (.agg opZ), 16, 240) := by kernel_rfl
end Go.Proofs.Ytapnighankepjaa.Sc
end
section
namespace Go.Proofs.Ytapnighankepjaa.Sc
open Go Go.RowKit
set_option linter.unusedVariables false

theorem sub_ext (T : Tab) (s : Nat) (x : Idn) (v : Int) : Sub T (T.ext s x v) := ⟨List.prefix_append _ _, List.prefix_rfl⟩
theorem seen_self {T : Tab} (hT : T.Ok) {s : Nat} (hs : s < T.rows.length) (hf : T.rows.length < 16384) (x : Idn) (v : Int) : (T.ext s x v).seen T.rows.length x = ⟨T.rows.length, v, []⟩ := by
  have hpos := hT.pos
  have hb : (T.ext s x v).binder T.rows.length x = T.rows.length := binder_at (hT.ext hs hf x v) (by omega) ext_new.1
  have hne : ¬ T.rows.length = 0 := by omega
  obtain ⟨t, m⟩ := x
  unfold Tab.seen
  rcases hr : m.reverse with _ | ⟨k, r⟩
  · obtain rfl : m = [] := by simpa using hr
    show Tab.seenR _ t [] _ = _
    unfold Tab.seenR
    rw [hb, if_neg hne, ext_new.2.2]
  · have hm : (k :: r).reverse = m := by rw [← hr, List.reverse_reverse]
    show Tab.seenR _ t (k :: r) _ = _
    unfold Tab.seenR
    rw [hm, hb, if_neg hne, ext_new.2.2]
theorem seen_other {T : Tab} (hT : T.Ok) {s : Nat} (hs : s < T.rows.length) (hf : T.rows.length < 16384) (x y : Idn) (v : Int) (hxy : x ≠ y) (hm : ∀ k ∈ y.m, 1 ≤ k ∧ k ≤ (T.marks.length : Int)) : (T.ext s x v).seen T.rows.length y = T.seen s y := by
  have hU := hT.ext hs hf x v
  have hpos := hT.pos
  have hb : (T.ext s x v).binder T.rows.length y = T.binder s y := by
    rw [binder_on hU (by omega) (by rw [ext_new.1]; exact hxy), ext_new.2.1]
    exact binder_sub (sub_ext T s x v) hT hU hs y
  have hsub := sub_ext T s x v
  obtain ⟨t, m⟩ := y
  unfold Tab.seen
  rcases hr : m.reverse with _ | ⟨k, r⟩
  · obtain rfl : m = [] := by simpa using hr
    show Tab.seenR _ t [] _ = Tab.seenR _ t [] _
    unfold Tab.seenR
    rw [hb]
    by_cases h0 : T.binder s ⟨t, []⟩ = 0
    · rw [if_pos h0, if_pos h0]
    · rw [if_neg h0, if_neg h0, (hsub.at_ (binder_lt hT hs h0)).2.2]
  · have hmm : (k :: r).reverse = m := by rw [← hr, List.reverse_reverse]
    have hk : ∀ j ∈ k :: r, 1 ≤ j ∧ j ≤ (T.marks.length : Int) := fun j hj => hm j (by rw [← hmm]; exact List.mem_reverse.2 hj)
    show Tab.seenR _ t (k :: r) _ = Tab.seenR _ t (k :: r) _
    unfold Tab.seenR
    rw [hmm, hb]
    by_cases h0 : T.binder s ⟨t, m⟩ = 0
    · rw [if_pos h0, if_pos h0]
      have h1 := hk k (List.mem_cons_self ..)
      have hlt : k.toNat - 1 < T.marks.length := by omega
      have he : (T.ext s x v).marks.getD (k.toNat - 1) 0 = T.marks.getD (k.toNat - 1) 0 := rfl
      rw [he]
      refine seenR_sub hsub hT hU t r _ ?_ (fun j hj => hk j (List.mem_cons_of_mem _ hj))
      rw [List.getD_eq_getElem?_getD, List.getElem?_eq_getElem hlt]
      exact hT.mark _ (List.getElem_mem hlt)
    · rw [if_neg h0, if_neg h0, (hsub.at_ (binder_lt hT hs h0)).2.2]
/-- What an extension is, if it is one. -/
theorem extE_zero {T : Tab} {s : Int} {d : Da.Dt} (hT : T.Ok) (h : extE T s d = 0) : ∃ k : Nat, s = (k : Int) ∧ k < T.rows.length ∧ IsSym d ∧ T.rows.length < 16384 := by
  unfold extE at h
  split at h
  · next h1 => exact absurd h h1
  · next h1 =>
    split at h
    · exact absurd h (by decide)
    · next h2 =>
      split at h
      · exact absurd h (by decide)
      · next h3 =>
        obtain ⟨k, hk, hl⟩ := chk_ok (n := T.rows.length) (Nat.pos_iff_ne_zero.1 hT.pos) (by simpa using h1)
        exact ⟨k, hk, hl, by simpa using h2, by have := hT.few; omega⟩
/-- The name itself. -/
theorem inner_self {T : Tab} {s : Int} {d : Da.Dt} {v : Int} (hT : T.Ok) (h : extE T s d = 0) (hm : markOk T.marks.length d.M = true) :
    findE (extT T s d v) (extN T s d : Int) d = 0 ∧ findZ (extT T s d v) (extN T s d : Int) d = ⟨extN T s d, v, []⟩ := by
  obtain ⟨k, rfl, hk, hy, hf⟩ := extE_zero hT h
  have e1 : extT T (k : Int) d v = T.ext k (idn d) v := by unfold extT; rw [if_pos h]; rfl
  have e2 : extN T (k : Int) d = T.rows.length := by unfold extN; rw [if_pos h]
  rw [e1, e2]
  have h0 := findE_is (T := T.ext k (idn d) v) (k := T.rows.length) (d := d) (by rw [ext_len]; omega) hy hm
  refine ⟨h0, ?_⟩
  unfold findZ
  rw [if_pos h0]
  exact seen_self hT hk hf (idn d) v
/-- Another name. -/
theorem inner_other {T : Tab} {s : Int} {d x : Da.Dt} {v : Int} (hT : T.Ok) (h : extE T s d = 0) (hx : IsSym x → idn d ≠ idn x) :
    findE (extT T s d v) (extN T s d : Int) x = findE T s x ∧ findZ (extT T s d v) (extN T s d : Int) x = findZ T s x := by
  obtain ⟨k, rfl, hk, hy, hf⟩ := extE_zero hT h
  have e1 : extT T (k : Int) d v = T.ext k (idn d) v := by unfold extT; rw [if_pos h]; rfl
  have e2 : extN T (k : Int) d = T.rows.length := by unfold extN; rw [if_pos h]
  rw [e1, e2]
  have hpos := hT.pos
  have c1 : chkE T.rows.length (k : Int) = 0 := by unfold chkE; rw [if_neg (by omega), if_neg (by rintro (h | h) <;> omega)]
  have c2 : chkE (T.ext k (idn d) v).rows.length (T.rows.length : Int) = 0 := by rw [ext_len]; unfold chkE; rw [if_neg (by omega), if_neg (by rintro (h | h) <;> omega)]
  have e3 : findE (T.ext k (idn d) v) (T.rows.length : Int) x = findE T (k : Int) x := by
    unfold findE
    rw [c1, c2]
    rfl
  refine ⟨e3, ?_⟩
  unfold findZ
  rw [e3]
  by_cases h0 : findE T (k : Int) x = 0
  · rw [if_pos h0, if_pos h0]
    obtain ⟨k', _, _, hxs, hmk⟩ := findE_zero hT.pos h0
    exact seen_other hT hk hf (idn d) (idn x) v (hx hxs) (fun j hj => ⟨((sym_facts hxs.1 hxs.2).1.mark j hj).1, markOk_made hmk j hj⟩)
  · rw [if_neg h0, if_neg h0]
end Go.Proofs.Ytapnighankepjaa.Sc
end
section
namespace Go.Proofs.Ytapnighankepjaa.Sc
open Go Go.RowKit
set_option linter.unusedVariables false
set_option linter.unusedSimpArgs false

theorem sym_rest {d : Da.Dt} (h : IsSym d) : d.N = 0 ∧ d.L = [] ∧ d.T = [] := by
  have hp := Da.chk_self h.2
  unfold Da.properB Da.properOf at hp
  rw [h.1] at hp
  simp only [show ¬ (5 : Int) = 1 by decide, show ¬ (5 : Int) = 2 by decide, show ¬ (5 : Int) = 3 by decide, show ¬ (5 : Int) = 4 by decide, if_true, if_false, Bool.and_eq_true, beq_iff_eq] at hp
  obtain ⟨⟨⟨_, _⟩, hn⟩, ht⟩ := hp
  unfold Da.nil2 at ht
  simp only [Bool.and_eq_true, beq_iff_eq] at ht
  exact ⟨hn, List.eq_nil_of_length_eq_zero (by omega), List.eq_nil_of_length_eq_zero (by omega)⟩
theorem sym_eq {d x : Da.Dt} (hd : IsSym d) (hx : IsSym x) (h : idn d = idn x) : Da.eqD d x = true := by
  obtain ⟨n1, l1, t1⟩ := sym_rest hd
  obtain ⟨n2, l2, t2⟩ := sym_rest hx
  injection h with hs hm
  rw [Da.eqD_eq, hd.1, hx.1, n1, n2, l1, l2, t1, t2, hm, ByteArray.toList_eq, ByteArray.toList_eq, hs]
  simp [Da.eqL]
theorem sym_ne {d x : Da.Dt} (hd : IsSym d) (hq : ((Da.chk d == 0) && Da.eqD d x) = false) : IsSym x → idn d ≠ idn x := fun hx he => by
  rw [sym_eq hd hx he, hd.2] at hq
  cases hq
theorem sym_is {d x : Da.Dt} (hq : ((Da.chk d == 0) && Da.eqD d x) = true) : d = x := by
  rw [Bool.and_eq_true] at hq
  exact Da.eqD_is d x hq.2
/-- The name itself, whatever its marks are. -/
theorem inner_same {T : Tab} {s : Int} {d : Da.Dt} {v : Int} (hT : T.Ok) (h : extE T s d = 0) (h0 : findE (extT T s d v) (extN T s d : Int) d = 0) : findZ (extT T s d v) (extN T s d : Int) d = ⟨extN T s d, v, []⟩ := by
  obtain ⟨k, rfl, hk, hy, hf⟩ := extE_zero hT h
  have e1 : extT T (k : Int) d v = T.ext k (idn d) v := by unfold extT; rw [if_pos h]; rfl
  have e2 : extN T (k : Int) d = T.rows.length := by unfold extN; rw [if_pos h]
  rw [e1, e2] at h0 ⊢
  unfold findZ
  rw [if_pos h0]
  exact seen_self hT hk hf (idn d) v
theorem ext_marks {T : Tab} {s : Int} {d : Da.Dt} {v : Int} : (extT T s d v).marks = T.marks := by
  unfold extT
  split <;> rfl
set_option maxRecDepth 100000 in
theorem neq_seen (z u : Seen) (w : World) : (binOp BinOp.neq 49 z.V u.V).run Try.prog w = .ok (.bool (!(z.same u))) w := by
  have e : binOp BinOp.neq 49 z.V u.V = (fun b => Value.bool (!b)) <$> Op.equal 49 z.V u.V := rfl
  rw [e]
  unfold Seen.V Seen.same
  obtain ⟨d, hd⟩ : ∃ d, Op.maxDepth = d + 1 + 1 := ⟨Op.maxDepth - 2, by decide⟩
  simp only [Op.equal, hd]
  have h1 := run_equalIn_struct (P := Try.prog) w (d + 1) 49 #[.int .i64 (z.scope : Int), .int .i64 z.what, .string ⟨z.name.toArray⟩] #[.int .i64 (u.scope : Int), .int .i64 u.what, .string ⟨u.name.toArray⟩] (by kernel_rfl) (by kernel_rfl)
  simp [go_sem, h1, Try.underlying49]
  by_cases c1 : (z.scope : Int) = (u.scope : Int)
  · by_cases c2 : z.what = u.what
    · by_cases c3 : z.name = u.name
      · rw [if_pos c1, if_pos c2, if_pos c3]; simp [c1, c2, c3]
      · rw [if_pos c1, if_pos c2, if_neg c3]; simp [c1, c2, c3]
    · rw [if_pos c1, if_neg c2]; simp [c1, c2]
  · rw [if_neg c1]; simp [c1]
end Go.Proofs.Ytapnighankepjaa.Sc
end
section
namespace Go.Proofs.Ytapnighankepjaa.Sc
open Go.ChangeShapes Go.WideShapes Go.ChangeAt Go.RowKit
set_option linter.unusedVariables false
set_option linter.unusedSimpArgs false

theorem below_grown {w w' : World} {N B n sz : Nat} {e : TypeId} {v : Value} {xs : List Value} (h : w.ownsRow N e sz v n xs) (hg : w.grownBy w' v.ownBlock) (hB : B ≤ N) (hs : B ≤ w.heap.size) : Below B w w' :=
  ⟨hg.os, hg.tape, hg.output, hg.size, fun g hlt => hg.block g (Nat.lt_of_lt_of_le hlt hs) (fun e => by
    rcases h.2 with ⟨rfl, _⟩ | ⟨g', cap, cur, rfl, hge, _⟩
    · cases e
    · injection e with e
      have e : g = g' := e
      omega)⟩
theorem row_cap {w : World} {N sz n : Nat} {e : TypeId} {a : Option Addr} {c : Nat} {xs : List Value} (h : w.ownsRow N e sz (.slice a n c) n xs) : n ≤ c ∧ c ≤ maxLen := by
  rcases h.2 with ⟨h1, h0⟩ | ⟨g, cap, cur, h1, _, _, h4, h5, _⟩
  · injection h1 with _ _ h3
    subst h3
    exact ⟨by omega, by unfold maxLen; omega⟩
  · injection h1 with _ _ h3
    subst h3
    exact ⟨h4, h5⟩
theorem SmallIs.form {l : List Opn} {a : Option Addr} {c : Nat} {w w' : World} {e : Ending} (h : SmallIs l a l.length c w e w') : Below w.heap.size w w' ∧ ∃ s b, e = .returned (.tuple #[s, .bool b]) ∧ (b = true → s = .slice a (min l.length 60) c) := by
  obtain ⟨hb, ⟨_, rfl⟩ | ⟨_, rfl⟩⟩ := h
  · exact ⟨hb, _, _, rfl, fun _ => rfl⟩
  · exact ⟨hb, _, _, rfl, fun e => by cases e⟩
end Go.Proofs.Ytapnighankepjaa.Sc
end
