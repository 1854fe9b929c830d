/- A datum copied in new memory: what the program returns. -/
import Derived.Test.YteolfkkabhileaaM1
import Derived.Test.YteolfkkabhileaaM2
import Derived.LoopTactic
import Derived.Deep.RegionHeld3
import Derived.Deep.RegionLaw
import Derived.Deep.RegionWith
import Derived.StillTactics
import Derived.Laws.Pointers
import Derived.Test.YteolfkkabhileaaM0
section
namespace Go.Proofs.Yteolfkkabhileaa.Da
open Go.ChangeShapes Go.WideShapes Go.ChangeAt Go.RowKit

def Rg (lo hi : Nat) : Nat → Prop := fun b => lo ≤ b ∧ b < hi
/-- A slice of numbers in a row of its own, or nil. -/
def OwnI (w : World) (lo hi : Nat) (a : Option Addr) (len cap : Nat) (zs : List Int) : Prop :=
  IntRow w (Rg lo hi) a len cap zs ∧ ∀ ad, a = some ad → ∃ g, ad = ⟨g, 0, none⟩ ∧ lo ≤ g ∧ g < hi ∧ ∀ j, w.frozen? ⟨g, j, none⟩ = false
/-- A slice of data in a row of its own, or nil. -/
def OwnSl (w : World) (lo hi : Nat) (a : Option Addr) (len cap : Nat) : Prop :=
  (a = none ∧ len = 0 ∧ cap = 0) ∨ ∃ g, a = some ⟨g, 0, none⟩ ∧ lo ≤ g ∧ g < hi ∧ len ≤ cap ∧ cap ≤ maxLen ∧ len * 104 ≤ 140737488351232 ∧ ∀ j, w.frozen? ⟨g, j, none⟩ = false
def nx : Option Addr → Nat | some a => a.block + 1 | none => 0
mutual
def OwnDt (w : World) : Dt → Nat → Nat → Value → Prop
  | .mk k n s m l t, lo, hi, v => (Lit.int .i64 k).wf = true ∧ (Lit.int .i64 n).wf = true ∧ s.size ≤ maxLen ∧
    ∃ am cm al cl at_ ct h1 h2, v = .agg #[.int .i64 k, .int .i64 n, .string s, .slice am m.length cm, .slice al l.length cl, .slice at_ t.length ct] ∧ lo ≤ h1 ∧ h1 ≤ h2 ∧ h2 ≤ hi ∧
      OwnI w lo h1 am m.length cm m ∧ OwnSl w h1 h2 al l.length cl ∧ OwnDts w h2 al l 0 (nx al) ∧ OwnSl w h2 hi at_ t.length ct ∧ OwnDts w hi at_ t 0 (nx at_)
def OwnDts (w : World) (hi : Nat) (a : Option Addr) : List Dt → Nat → Nat → Prop
  | [], _, _ => True
  | d :: r, i, lo => (∃ mid g x0 x1 x2 x3 x4 x5, a = some ⟨g, 0, none⟩ ∧ g < lo ∧ lo ≤ mid ∧ mid ≤ hi ∧ Six w g (i * 6) x0 x1 x2 x3 x4 x5 ∧ OwnDt w d lo mid (.agg #[x0, x1, x2, x3, x4, x5]) ∧ OwnDts w hi a r (i + 1) mid)
end
/-- Two worlds are one at these blocks. -/
def Eqv (w w' : World) (P : Nat → Prop) : Prop := ∀ b, P b → ∀ o, w'.cell? ⟨b, o, none⟩ = w.cell? ⟨b, o, none⟩ ∧ w'.frozen? ⟨b, o, none⟩ = w.frozen? ⟨b, o, none⟩
theorem Eqv.of_fr {S : Nat → Prop} {w w' : World} (h : Fr S w w') : Eqv w w' (fun b => b < w.heap.size ∧ ¬ S b) :=
  fun b hb o => ⟨h.cell (p := ⟨b, o, none⟩) hb.1 hb.2, h.frozen (p := ⟨b, o, none⟩) hb.1 hb.2⟩
theorem Eqv.mono {w w' : World} {P P' : Nat → Prop} (h : Eqv w w' P) (hp : ∀ b, P' b → P b) : Eqv w w' P' := fun b hb => h b (hp b hb)
theorem OwnI.keep {w w' : World} {lo hi : Nat} {a : Option Addr} {len cap : Nat} {zs : List Int} (h : OwnI w lo hi a len cap zs) (hk : Eqv w w' (Rg lo hi)) : OwnI w' lo hi a len cap zs :=
  ⟨h.1.keep (fun _ h => h) (fun b o hb => (hk b hb o).1), fun ad ha => by
    obtain ⟨g, e, h1, h2, h3⟩ := h.2 ad ha
    exact ⟨g, e, h1, h2, fun j => ((hk g ⟨h1, h2⟩ j).2).trans (h3 j)⟩⟩
theorem OwnI.wide {w : World} {lo hi lo' hi' : Nat} {a : Option Addr} {len cap : Nat} {zs : List Int} (h : OwnI w lo hi a len cap zs) (h1 : lo' ≤ lo) (h2 : hi ≤ hi') : OwnI w lo' hi' a len cap zs :=
  ⟨h.1.keep (fun _ h => ⟨Nat.le_trans h1 h.1, Nat.lt_of_lt_of_le h.2 h2⟩) (fun _ _ _ => rfl), fun ad ha => by
    obtain ⟨g, e, h3, h4, h5⟩ := h.2 ad ha
    exact ⟨g, e, by omega, by omega, h5⟩⟩
theorem OwnSl.keep {w w' : World} {lo hi : Nat} {a : Option Addr} {len cap : Nat} (h : OwnSl w lo hi a len cap) (hk : Eqv w w' (Rg lo hi)) : OwnSl w' lo hi a len cap := by
  rcases h with h | ⟨g, h1, h2, h3, h4, h5, h6, h7⟩
  · exact .inl h
  · exact .inr ⟨g, h1, h2, h3, h4, h5, h6, fun j => ((hk g ⟨h2, h3⟩ j).2).trans (h7 j)⟩
theorem OwnSl.wide {w : World} {lo hi lo' hi' : Nat} {a : Option Addr} {len cap : Nat} (h : OwnSl w lo hi a len cap) (h1 : lo' ≤ lo) (h2 : hi ≤ hi') : OwnSl w lo' hi' a len cap := by
  rcases h with h | ⟨g, e1, e2, e3, r⟩
  · exact .inl h
  · exact .inr ⟨g, e1, by omega, by omega, r⟩
theorem OwnSl.sl {w : World} {lo hi : Nat} {a : Option Addr} {len cap : Nat} (h : OwnSl w lo hi a len cap) : IsSl a len cap := by
  rcases h with ⟨rfl, rfl, rfl⟩ | ⟨g, rfl, _, _, h4, h5, h6, _⟩
  · exact ⟨Nat.le_refl _, by simp [maxLen], by omega, fun _ => rfl⟩
  · exact ⟨h4, h5, h6, fun h => by cases h⟩
mutual
theorem OwnDt.keep {w w' : World} : ∀ (d : Dt) (lo hi : Nat) (v : Value), Eqv w w' (Rg lo hi) → OwnDt w d lo hi v → OwnDt w' d lo hi v
  | .mk k n s m l t, lo, hi, v, hk, h => by
    simp only [OwnDt] at h ⊢
    obtain ⟨h1, h2, h3, am, cm, al, cl, at_, ct, m1, m2, hv, o1, o2, o3, hm, hl, hls, ht, hts⟩ := h
    have k1 : Eqv w w' (Rg lo m1) := hk.mono fun b hb => ⟨hb.1, by have := hb.2; omega⟩
    have k2 : Eqv w w' (Rg m1 m2) := hk.mono fun b hb => ⟨by have := hb.1; omega, by have := hb.2; omega⟩
    have k3 : Eqv w w' (Rg m2 hi) := hk.mono fun b hb => ⟨by have := hb.1; omega, hb.2⟩
    refine ⟨h1, h2, h3, am, cm, al, cl, at_, ct, m1, m2, hv, o1, o2, o3, hm.keep k1, hl.keep k2, ?_, ht.keep k3, ?_⟩
    · rcases hl with ⟨rfl, hz, _⟩ | ⟨g, rfl, g1, g2, _⟩
      · obtain rfl := List.eq_nil_of_length_eq_zero hz
        simp only [OwnDts]
      · exact OwnDts.keep l 0 _ m2 _ (k2.mono fun b hb => by
          rcases hb with hb | ⟨hb1, hb2⟩
          · injection hb with hb; injection hb with hb; subst hb; exact ⟨g1, g2⟩
          · simp only [nx] at hb1; exact ⟨by omega, hb2⟩) hls
    · rcases ht with ⟨rfl, hz, _⟩ | ⟨g, rfl, g1, g2, _⟩
      · obtain rfl := List.eq_nil_of_length_eq_zero hz
        simp only [OwnDts]
      · exact OwnDts.keep t 0 _ hi _ (k3.mono fun b hb => by
          rcases hb with hb | ⟨hb1, hb2⟩
          · injection hb with hb; injection hb with hb; subst hb; exact ⟨g1, g2⟩
          · simp only [nx] at hb1; exact ⟨by omega, hb2⟩) hts
theorem OwnDts.keep {w w' : World} : ∀ (l : List Dt) (i lo hi : Nat) (a : Option Addr), Eqv w w' (fun b => a = some ⟨b, 0, none⟩ ∨ Rg lo hi b) → OwnDts w hi a l i lo → OwnDts w' hi a l i lo
  | [], _, _, _, _, _, _ => by simp only [OwnDts]
  | d :: r, i, lo, hi, a, hk, h => by
    simp only [OwnDts] at h ⊢
    obtain ⟨mid, g, x0, x1, x2, x3, x4, x5, ha, h0, h1, h2, hs, hd, hr⟩ := h
    exact ⟨mid, g, x0, x1, x2, x3, x4, x5, ha, h0, h1, h2, hs.keep (fun o => (hk g (.inl ha) o).1), OwnDt.keep d lo mid _ (hk.mono fun b hb => .inr ⟨hb.1, by have := hb.2; omega⟩) hd,
      OwnDts.keep r (i + 1) mid hi a (hk.mono fun b hb => by
        rcases hb with hb | hb
        · exact .inl hb
        · exact .inr ⟨by have := hb.1; omega, hb.2⟩) hr⟩
end
end Go.Proofs.Yteolfkkabhileaa.Da
end
section
namespace Go.Proofs.Yteolfkkabhileaa.Da
open Go.ChangeShapes Go.WideShapes Go.ChangeAt Go.RowKit

theorem OwnDts.hi {w : World} : ∀ (l : List Dt) (i lo hi hi' : Nat) (a : Option Addr), hi ≤ hi' → OwnDts w hi a l i lo → OwnDts w hi' a l i lo
  | [], _, _, _, _, _, _, _ => by simp only [OwnDts]
  | d :: r, i, lo, hi, hi', a, hh, h => by
    simp only [OwnDts] at h ⊢
    obtain ⟨mid, g, x0, x1, x2, x3, x4, x5, ha, h0, h1, h2, hs, hd, hr⟩ := h
    exact ⟨mid, g, x0, x1, x2, x3, x4, x5, ha, h0, h1, by omega, hs, hd, OwnDts.hi r (i + 1) mid hi hi' a hh hr⟩
theorem OwnDt.wide {w : World} (d : Dt) {lo hi lo' hi' : Nat} {v : Value} (h : OwnDt w d lo hi v) (h1 : lo' ≤ lo) (h2 : hi ≤ hi') : OwnDt w d lo' hi' v := by
  cases d with
  | mk k n s m l t =>
    simp only [OwnDt] at h ⊢
    obtain ⟨e1, e2, e3, am, cm, al, cl, at_, ct, m1, m2, hv, o1, o2, o3, hm, hl, hls, ht, hts⟩ := h
    exact ⟨e1, e2, e3, am, cm, al, cl, at_, ct, m1, m2, hv, by omega, o2, by omega, hm.wide h1 (Nat.le_refl _), hl, hls, ht.wide (Nat.le_refl _) h2, OwnDts.hi t 0 _ hi hi' at_ h2 hts⟩
theorem OwnDts.snoc {w : World} {g : Nat} {d : Dt} {x0 x1 x2 x3 x4 x5 : Value} {mid hi : Nat} : ∀ (l : List Dt) (i lo : Nat), OwnDts w mid (some ⟨g, 0, none⟩) l i lo → g < lo → lo ≤ mid → mid ≤ hi →
    Six w g ((i + l.length) * 6) x0 x1 x2 x3 x4 x5 → OwnDt w d mid hi (.agg #[x0, x1, x2, x3, x4, x5]) → OwnDts w hi (some ⟨g, 0, none⟩) (l ++ [d]) i lo
  | [], i, lo, _, hg, h1, h2, hs, hd => by
    simp only [List.nil_append, OwnDts]
    exact ⟨hi, g, x0, x1, x2, x3, x4, x5, rfl, hg, by omega, Nat.le_refl _, by simpa using hs, hd.wide d h1 (Nat.le_refl _), trivial⟩
  | y :: r, i, lo, h, hg, h1, h2, hs, hd => by
    simp only [List.cons_append, OwnDts] at h ⊢
    obtain ⟨mid', g', y0, y1, y2, y3, y4, y5, ha, e0, e1, e2, es, ed, er⟩ := h
    refine ⟨mid', g', y0, y1, y2, y3, y4, y5, ha, e0, e1, by omega, es, ed, OwnDts.snoc r (i + 1) mid' er (by omega) e2 h2 ?_ hd⟩
    rwa [show i + 1 + r.length = i + (y :: r).length by simp; omega]
mutual
theorem OwnDt.isDt {w : World} : ∀ (d : Dt) (lo hi : Nat) (v : Value), OwnDt w d lo hi v → IsDt w (Rg lo hi) d v
  | .mk k n s m l t, lo, hi, v, h => by
    simp only [OwnDt, IsDt] at h ⊢
    obtain ⟨h1, h2, h3, am, cm, al, cl, at_, ct, m1, m2, hv, o1, o2, o3, hm, hl, hls, ht, hts⟩ := h
    refine ⟨h1, h2, h3, am, cm, al, cl, at_, ct, hv, hm.1.keep (fun b hb => ⟨hb.1, by have := hb.2; omega⟩) (fun _ _ _ => rfl), hl.sl, ?_, ht.sl, ?_⟩
    · rcases hl with ⟨rfl, hz, _⟩ | ⟨g, rfl, g1, g2, _⟩
      · obtain rfl := List.eq_nil_of_length_eq_zero hz
        simp only [IsDts]
      · refine OwnDts.isDts l 0 _ m2 _ (Rg lo hi) (fun b hb => ?_) hls
        rcases hb with hb | ⟨hb1, hb2⟩
        · injection hb with hb; injection hb with hb; subst hb; exact ⟨by omega, by omega⟩
        · simp only [nx] at hb1; exact ⟨by omega, by omega⟩
    · rcases ht with ⟨rfl, hz, _⟩ | ⟨g, rfl, g1, g2, _⟩
      · obtain rfl := List.eq_nil_of_length_eq_zero hz
        simp only [IsDts]
      · refine OwnDts.isDts t 0 _ hi _ (Rg lo hi) (fun b hb => ?_) hts
        rcases hb with hb | ⟨hb1, hb2⟩
        · injection hb with hb; injection hb with hb; subst hb; exact ⟨by omega, by omega⟩
        · simp only [nx] at hb1; exact ⟨by omega, by omega⟩
theorem OwnDts.isDts {w : World} : ∀ (l : List Dt) (i lo hi : Nat) (a : Option Addr) (Q : Nat → Prop), (∀ b, (a = some ⟨b, 0, none⟩ ∨ Rg lo hi b) → Q b) → OwnDts w hi a l i lo → IsDts w Q a i l
  | [], _, _, _, _, _, _, _ => by simp only [IsDts]
  | d :: r, i, lo, hi, a, Q, hQ, h => by
    simp only [OwnDts, IsDts] at h ⊢
    obtain ⟨mid, g, x0, x1, x2, x3, x4, x5, ha, h0, h1, h2, hs, hd, hr⟩ := h
    refine ⟨⟨g, 0, x0, x1, x2, x3, x4, x5, ha, hQ g (.inl ha), by simpa using hs, (OwnDt.isDt d lo mid _ hd).more fun b hb => hQ b (.inr ⟨hb.1, by have := hb.2; omega⟩)⟩, OwnDts.isDts r (i + 1) mid hi a Q (fun b hb => hQ b ?_) hr⟩
    rcases hb with hb | hb
    · exact .inl hb
    · exact .inr ⟨by have := hb.1; omega, hb.2⟩
end
/-- A copy of a slice of marks. -/
def CloneI (w : World) (len : Nat) (zs : List Int) (e : Ending) (w' : World) : Prop :=
  ∃ a' c', e = .returned (.slice a' len c') ∧ OwnI w' w.heap.size w'.heap.size a' len c' zs ∧ Below w.heap.size w w'
theorem ownI_of_row {w w' : World} {v : Value} {n : Nat} {zs : List Int} (h : w'.ownsRow w.heap.size 3 1 v n (zs.map (Value.int .i64))) (hv : v ≠ .slice none 0 0) (hl : zs.length = n) (hn : n * 8 ≤ 140737488351232) (hz : ∀ z ∈ zs, (Lit.int .i64 z).wf = true) :
    ∃ a' c', v = .slice a' n c' ∧ OwnI w' w.heap.size w'.heap.size a' n c' zs := by
  obtain ⟨g, cap, rfl, hb, hlt, hnc, hcm⟩ := own_form h hv
  refine ⟨_, cap, rfl, ⟨hl, hnc, hcm, hn, (fun h => by cases h), hz, fun k hk => ⟨g, 0, rfl, ⟨hb, hlt⟩, ?_⟩⟩, fun ad ha => ?_⟩
  · rw [Nat.zero_add, h.cellAt k (by omega)]
    simp [hl, hk]
  · injection ha with ha
    subst ha
    exact ⟨g, rfl, hb, hlt, fun j => h.frozenAt j⟩
theorem clone_int (Q : Nat → Prop) (a : Option Addr) (len cap : Nat) (zs : List Int) (w : World) (h : IntRow w Q a len cap zs) :
    Calls Try.prog 33 #[.slice a len cap] w (CloneI w len zs) := by
  obtain ⟨hl, hlc, hcm, hb, hnil, hz, hc⟩ := h
  cases a with
  | none =>
    have h0 := hnil rfl
    obtain rfl : len = 0 := by omega
    obtain rfl := List.eq_nil_of_length_eq_zero hl
    refine (Try.slices_Clone_int_nil 0 cap w).mono ?_
    rintro e w' ⟨rfl, rfl⟩
    exact ⟨none, 0, rfl, ⟨⟨rfl, Nat.le_refl _, by simp [maxLen], by omega, fun _ => rfl, by simp, fun k hk => by omega⟩, fun ad h => by cases h⟩, Below.refl _ _⟩
  | some ad =>
    rcases Nat.eq_zero_or_pos len with rfl | hpos
    · obtain rfl := List.eq_nil_of_length_eq_zero hl
      refine (Try.slices_Clone_int_zero ad cap w).mono ?_
      rintro e w' ⟨v', rfl, hown, hne, hbel⟩
      obtain ⟨a', c', rfl, ho⟩ := ownI_of_row (zs := []) (by simpa using hown) hne rfl (by omega) (by simp)
      exact ⟨a', c', rfl, ho, hbel⟩
    · obtain ⟨b, off, he, _, _⟩ := hc 0 hpos
      injection he with he
      subst he
      refine (Try.slices_Clone_int b off len cap zs w (by omega) (by omega) (fun j hj => by
        obtain ⟨b', off', he, _, hcell⟩ := hc j (by omega)
        injection he with he
        injection he with h1 h2
        subst h1; subst h2
        exact hcell)).mono ?_
      rintro e w' ⟨v', rfl, hown, hne, hbel⟩
      rw [List.take_of_length_le (by omega)] at hown
      obtain ⟨a', c', rfl, ho⟩ := ownI_of_row hown hne hl (by omega) hz
      exact ⟨a', c', rfl, ho, hbel⟩
end Go.Proofs.Yteolfkkabhileaa.Da
end
section
namespace Go.Proofs.Yteolfkkabhileaa.Da
open Go.ChangeShapes Go.WideShapes Go.ChangeAt Go.RowKit

mutual
/-- How many nodes a datum has. -/
def cnt : Dt → Nat
  | .mk _ _ _ _ l t => 1 + (cntL l + cntL t)
def cntL : List Dt → Nat
  | [] => 0
  | d :: r => cnt d + cntL r
end
theorem cnt_eq (d : Dt) : cnt d = 1 + (cntL d.L + cntL d.T) := by cases d; simp only [cnt, Dt.L, Dt.T]
mutual
theorem nodes_len : ∀ (d : Dt) (i : Nat), (nodes d i).length = cnt d
  | .mk k n s m l t, i => by
    simp only [nodes, cnt, List.length_cons, List.length_append, nodesL_len l, nodesL_len t]
    omega
theorem nodesL_len : ∀ (l : List Dt) (i : Nat), (nodesL l i).length = cntL l
  | [], _ => by simp only [nodesL, cntL, List.length_nil]
  | d :: r, i => by simp only [nodesL, cntL, List.length_append, nodes_len d, nodesL_len r]
end
theorem cntL_append (a b : List Dt) : cntL (a ++ b) = cntL a + cntL b := by
  induction a with
  | nil => simp [cntL]
  | cons x r ih => simp only [List.cons_append, cntL, ih]; omega
theorem take_snoc_dt (l : List Dt) (k : Nat) (d : Dt) (h : l[k]? = some d) : l.take (k + 1) = l.take k ++ [d] := by
  rw [List.take_add_one, h]; rfl
theorem cntL_snoc (l : List Dt) (k : Nat) (d : Dt) (h : l[k]? = some d) : cntL (l.take (k + 1)) = cntL (l.take k) + cnt d := by
  rw [take_snoc_dt l k d h, cntL_append]; simp [cntL]
/-- The blocks of Q, and those that are new. -/
def Nw (w0 w' : World) (Q : Nat → Prop) : Nat → Prop := fun b => Q b ∨ (w0.heap.size ≤ b ∧ b < w'.heap.size)
/-- Six stores in a row. -/
def set6 (w : World) (g o : Nat) (x0 x1 x2 x3 x4 x5 : Value) : World :=
  (((((w.setCell ⟨g, o, none⟩ x0).setCell ⟨g, o + 1, none⟩ x1).setCell ⟨g, o + 2, none⟩ x2).setCell ⟨g, o + 3, none⟩ x3).setCell ⟨g, o + 4, none⟩ x4).setCell ⟨g, o + 5, none⟩ x5
theorem set_ne (w : World) (g o g' o' : Nat) (u : Value) (h : g' ≠ g ∨ o' ≠ o) : (w.setCell ⟨g, o, none⟩ u).cell? ⟨g', o', none⟩ = w.cell? ⟨g', o', none⟩ :=
  World.cell?_setCell_other w ⟨g, o, none⟩ ⟨g', o', none⟩ u (fun e => by cases e; simp at h)
theorem set_eq (w : World) (g o : Nat) (u v : Value) (h : w.cell? ⟨g, o, none⟩ = some v) : (w.setCell ⟨g, o, none⟩ u).cell? ⟨g, o, none⟩ = some u :=
  World.cell?_setCell_same' _ _ _ (by rw [h]; rfl)
theorem set6_ne (w : World) (g o g' o' : Nat) (x0 x1 x2 x3 x4 x5 : Value) (h : g' ≠ g ∨ o' < o ∨ o + 6 ≤ o') : (set6 w g o x0 x1 x2 x3 x4 x5).cell? ⟨g', o', none⟩ = w.cell? ⟨g', o', none⟩ := by
  unfold set6
  rw [set_ne _ _ _ _ _ _ (by omega), set_ne _ _ _ _ _ _ (by omega), set_ne _ _ _ _ _ _ (by omega), set_ne _ _ _ _ _ _ (by omega), set_ne _ _ _ _ _ _ (by omega), set_ne _ _ _ _ _ _ (by omega)]
theorem set6_six (w : World) (g o : Nat) (x0 x1 x2 x3 x4 x5 : Value) (h : ∀ r, r < 6 → ∃ u, w.cell? ⟨g, o + r, none⟩ = some u) : Six (set6 w g o x0 x1 x2 x3 x4 x5) g o x0 x1 x2 x3 x4 x5 := by
  obtain ⟨u0, h0⟩ := h 0 (by omega)
  obtain ⟨u1, h1⟩ := h 1 (by omega)
  obtain ⟨u2, h2⟩ := h 2 (by omega)
  obtain ⟨u3, h3⟩ := h 3 (by omega)
  obtain ⟨u4, h4⟩ := h 4 (by omega)
  obtain ⟨u5, h5⟩ := h 5 (by omega)
  rw [Nat.add_zero] at h0
  unfold set6
  refine ⟨?_, ?_, ?_, ?_, ?_, ?_⟩
  · rw [set_ne _ _ _ _ _ _ (by omega), set_ne _ _ _ _ _ _ (by omega), set_ne _ _ _ _ _ _ (by omega), set_ne _ _ _ _ _ _ (by omega), set_ne _ _ _ _ _ _ (by omega)]
    exact set_eq _ _ _ _ _ h0
  · rw [set_ne _ _ _ _ _ _ (by omega), set_ne _ _ _ _ _ _ (by omega), set_ne _ _ _ _ _ _ (by omega), set_ne _ _ _ _ _ _ (by omega)]
    exact set_eq _ _ _ _ u1 (by rw [set_ne _ _ _ _ _ _ (by omega)]; exact h1)
  · rw [set_ne _ _ _ _ _ _ (by omega), set_ne _ _ _ _ _ _ (by omega), set_ne _ _ _ _ _ _ (by omega)]
    exact set_eq _ _ _ _ u2 (by rw [set_ne _ _ _ _ _ _ (by omega), set_ne _ _ _ _ _ _ (by omega)]; exact h2)
  · rw [set_ne _ _ _ _ _ _ (by omega), set_ne _ _ _ _ _ _ (by omega)]
    exact set_eq _ _ _ _ u3 (by rw [set_ne _ _ _ _ _ _ (by omega), set_ne _ _ _ _ _ _ (by omega), set_ne _ _ _ _ _ _ (by omega)]; exact h3)
  · rw [set_ne _ _ _ _ _ _ (by omega)]
    exact set_eq _ _ _ _ u4 (by rw [set_ne _ _ _ _ _ _ (by omega), set_ne _ _ _ _ _ _ (by omega), set_ne _ _ _ _ _ _ (by omega), set_ne _ _ _ _ _ _ (by omega)]; exact h4)
  · exact set_eq _ _ _ _ u5 (by rw [set_ne _ _ _ _ _ _ (by omega), set_ne _ _ _ _ _ _ (by omega), set_ne _ _ _ _ _ _ (by omega), set_ne _ _ _ _ _ _ (by omega), set_ne _ _ _ _ _ _ (by omega)]; exact h5)
theorem set6_frozen (w : World) (g o : Nat) (x0 x1 x2 x3 x4 x5 : Value) (p : Addr) : (set6 w g o x0 x1 x2 x3 x4 x5).frozen? p = w.frozen? p := by
  unfold set6; simp only [World.frozen?_setCell]
theorem set6_fr (w : World) (g o : Nat) (x0 x1 x2 x3 x4 x5 : Value) : Fr (fun i => i = g) w (set6 w g o x0 x1 x2 x3 x4 x5) := by
  have h := Fr.refl (fun i => i = g) w
  unfold set6
  exact (((((h.setCell (p := ⟨g, o, none⟩) (.inl rfl) _).setCell (p := ⟨g, o + 1, none⟩) (.inl rfl) _).setCell (p := ⟨g, o + 2, none⟩) (.inl rfl) _).setCell (p := ⟨g, o + 3, none⟩) (.inl rfl) _).setCell (p := ⟨g, o + 4, none⟩) (.inl rfl) _).setCell (p := ⟨g, o + 5, none⟩) (.inl rfl) _
theorem set6_size (w : World) (g o : Nat) (x0 x1 x2 x3 x4 x5 : Value) : (set6 w g o x0 x1 x2 x3 x4 x5).heap.size = w.heap.size := by
  unfold set6; simp [World.setCell]
end Go.Proofs.Yteolfkkabhileaa.Da
end
section
namespace Go.Proofs.Yteolfkkabhileaa.Da
open Go.ChangeShapes Go.WideShapes Go.ChangeAt Go.RowKit

theorem OwnDts.keepAt {w w' : World} : ∀ (l : List Dt) (i lo hi : Nat) (a : Option Addr), (∀ g, a = some ⟨g, 0, none⟩ → ∀ o, o < (i + l.length) * 6 → w'.cell? ⟨g, o, none⟩ = w.cell? ⟨g, o, none⟩) → Eqv w w' (Rg lo hi) → OwnDts w hi a l i lo → OwnDts w' hi a l i lo
  | [], _, _, _, _, _, _, _ => by simp only [OwnDts]
  | d :: r, i, lo, hi, a, hg, hk, h => by
    simp only [OwnDts] at h ⊢
    obtain ⟨mid, g, x0, x1, x2, x3, x4, x5, ha, h0, h1, h2, hs, hd, hr⟩ := h
    have hl : (d :: r).length = r.length + 1 := rfl
    refine ⟨mid, g, x0, x1, x2, x3, x4, x5, ha, h0, h1, h2, ?_, OwnDt.keep d lo mid _ (hk.mono fun b hb => ⟨hb.1, by have := hb.2; omega⟩) hd,
      OwnDts.keepAt r (i + 1) mid hi a (fun g' hg' o ho => hg g' hg' o (by omega)) (hk.mono fun b hb => ⟨by have := hb.1; omega, hb.2⟩) hr⟩
    obtain ⟨s0, s1, s2, s3, s4, s5⟩ := hs
    exact ⟨(hg g ha _ (by omega)).trans s0, (hg g ha _ (by omega)).trans s1, (hg g ha _ (by omega)).trans s2, (hg g ha _ (by omega)).trans s3, (hg g ha _ (by omega)).trans s4, (hg g ha _ (by omega)).trans s5⟩
end Go.Proofs.Yteolfkkabhileaa.Da
end
section
namespace Go.Proofs.Yteolfkkabhileaa.Da
open Go.ChangeShapes Go.WideShapes Go.ChangeAt Go.RowKit

theorem src_cells {w : World} {Q : Nat → Prop} {ad : Addr} {l : List Dt} (h : IsDts w Q (some ad) 0 l) : ∀ j, j < l.length * 6 → ∃ u, w.cell? (ad.add j) = some u ∧ u.oneCell' = true := by
  intro j hj
  obtain ⟨b, off, am, cm, al, cl, at_, ct, he, _, ⟨h0, h1, h2, h3, h4, h5⟩, _⟩ := h.at6 (j / 6) (l[j / 6]'(by omega)) (by simp)
  injection he with he
  subst he
  rw [add_plain]
  have e : off + j = off + j / 6 * 6 + j % 6 := by omega
  have hr : j % 6 < 6 := Nat.mod_lt _ (by omega)
  rw [e]
  generalize j % 6 = r at hr
  match r, hr with
  | 0, _ => exact ⟨_, h0, rfl⟩
  | 1, _ => exact ⟨_, h1, rfl⟩
  | 2, _ => exact ⟨_, h2, rfl⟩
  | 3, _ => exact ⟨_, h3, rfl⟩
  | 4, _ => exact ⟨_, h4, rfl⟩
  | 5, _ => exact ⟨_, h5, rfl⟩
end Go.Proofs.Yteolfkkabhileaa.Da
end
section
namespace Go.Proofs.Yteolfkkabhileaa.Da
open Go.ChangeShapes Go.WideShapes Go.ChangeAt Go.RowKit

theorem own_keep {w w' : World} {lo hi lo' hi' : Nat} {a : Option Addr} {cap : Nat} {l : List Dt} (h1 : lo' ≤ lo) (h2 : hi ≤ hi') (hk : Eqv w w' (Rg lo hi)) (hs : OwnSl w lo hi a l.length cap) (hd : OwnDts w hi a l 0 (nx a)) :
    OwnSl w' lo' hi' a l.length cap ∧ OwnDts w' hi' a l 0 (nx a) := by
  refine ⟨(hs.keep hk).wide h1 h2, ?_⟩
  rcases hs with ⟨rfl, hz, _⟩ | ⟨g, rfl, g1, g2, _⟩
  · obtain rfl := List.eq_nil_of_length_eq_zero hz
    simp only [OwnDts]
  · refine OwnDts.hi l 0 _ hi hi' _ h2 (OwnDts.keep l 0 _ hi _ (hk.mono fun b hb => ?_) hd)
    rcases hb with hb | ⟨hb1, hb2⟩
    · obtain rfl : g = b := by simpa using hb
      exact ⟨g1, g2⟩
    · simp only [nx] at hb1
      exact ⟨by omega, hb2⟩
end Go.Proofs.Yteolfkkabhileaa.Da
end
section
namespace Go.Proofs.Yteolfkkabhileaa.Da
open Go.ChangeShapes Go.WideShapes Go.ChangeAt Go.RowKit

/-- A block that is known whole. -/
def Blk (w : World) (g : Nat) (t : TypeId) (cs : Array Value) : Prop := w.heap[g]? = some (.cells cs t (0, 0))
theorem Blk.cell {w : World} {g : Nat} {t : TypeId} {cs : Array Value} (h : Blk w g t cs) (i : Nat) : w.cell? ⟨g, i, none⟩ = cs[i]? := cell_of_row w g i cs t (0, 0) h
theorem Blk.frozen {w : World} {g : Nat} {t : TypeId} {cs : Array Value} (h : Blk w g t cs) (i : Nat) : w.frozen? ⟨g, i, none⟩ = false := by
  unfold Blk at h
  simp [World.frozen?, h]
theorem Blk.fr {S : Nat → Prop} {w w' : World} {g : Nat} {t : TypeId} {cs : Array Value} (h : Blk w g t cs) (hf : Fr S w w') (hs : ¬ S g) (hg : g < w.heap.size) : Blk w' g t cs := (hf.block g hg hs).trans h
theorem cnt_pos (d : Dt) : 0 < cnt d := by rw [cnt_eq]; omega
theorem bel2' (w : World) (o p : Obj) : Below w.heap.size w ((w.alloc o).alloc p) := ((Below.refl _ _).alloc (Nat.le_refl _) _).alloc (by simp) _
end Go.Proofs.Yteolfkkabhileaa.Da
end
