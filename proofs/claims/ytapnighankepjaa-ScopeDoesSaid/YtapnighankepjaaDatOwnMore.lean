/- Data in memory of their own: wider intervals, one more element, and that they read. -/
import Derived.Test.YtapnighankepjaaDatOwnBase
namespace Go.Proofs.Ytapnighankepjaa.Da
open Go.ChangeShapes Go.WideShapes Go.ChangeAt Go.RowKit

theorem OwnDts.hi {w : World} : ∀ (l : List Dt) (i lo hi hi' : Nat) (a : Option Addr), hi ≤ hi' → OwnDts w hi a l i lo → OwnDts w hi' a l i lo
  | [], _, _, _, _, _, _, _ => by simp only [OwnDts]
  | d :: r, i, lo, hi, hi', a, hh, h => by
    simp only [OwnDts] at h ⊢
    obtain ⟨mid, g, x0, x1, x2, x3, x4, x5, ha, h0, h1, h2, hs, hd, hr⟩ := h
    exact ⟨mid, g, x0, x1, x2, x3, x4, x5, ha, h0, h1, by omega, hs, hd, OwnDts.hi r (i + 1) mid hi hi' a hh hr⟩
theorem OwnDt.wide {w : World} (d : Dt) {lo hi lo' hi' : Nat} {v : Value} (h : OwnDt w d lo hi v) (h1 : lo' ≤ lo) (h2 : hi ≤ hi') : OwnDt w d lo' hi' v := by
  cases d with
  | mk k n s m l t =>
    simp only [OwnDt] at h ⊢
    obtain ⟨e1, e2, e3, am, cm, al, cl, at_, ct, m1, m2, hv, o1, o2, o3, hm, hl, hls, ht, hts⟩ := h
    exact ⟨e1, e2, e3, am, cm, al, cl, at_, ct, m1, m2, hv, by omega, o2, by omega, hm.wide h1 (Nat.le_refl _), hl, hls, ht.wide (Nat.le_refl _) h2, OwnDts.hi t 0 _ hi hi' at_ h2 hts⟩
theorem OwnDts.snoc {w : World} {g : Nat} {d : Dt} {x0 x1 x2 x3 x4 x5 : Value} {mid hi : Nat} : ∀ (l : List Dt) (i lo : Nat), OwnDts w mid (some ⟨g, 0, none⟩) l i lo → g < lo → lo ≤ mid → mid ≤ hi →
    Six w g ((i + l.length) * 6) x0 x1 x2 x3 x4 x5 → OwnDt w d mid hi (.agg #[x0, x1, x2, x3, x4, x5]) → OwnDts w hi (some ⟨g, 0, none⟩) (l ++ [d]) i lo
  | [], i, lo, _, hg, h1, h2, hs, hd => by
    simp only [List.nil_append, OwnDts]
    exact ⟨hi, g, x0, x1, x2, x3, x4, x5, rfl, hg, by omega, Nat.le_refl _, by simpa using hs, hd.wide d h1 (Nat.le_refl _), trivial⟩
  | y :: r, i, lo, h, hg, h1, h2, hs, hd => by
    simp only [List.cons_append, OwnDts] at h ⊢
    obtain ⟨mid', g', y0, y1, y2, y3, y4, y5, ha, e0, e1, e2, es, ed, er⟩ := h
    refine ⟨mid', g', y0, y1, y2, y3, y4, y5, ha, e0, e1, by omega, es, ed, OwnDts.snoc r (i + 1) mid' er (by omega) e2 h2 ?_ hd⟩
    rwa [show i + 1 + r.length = i + (y :: r).length by simp; omega]
mutual
theorem OwnDt.isDt {w : World} : ∀ (d : Dt) (lo hi : Nat) (v : Value), OwnDt w d lo hi v → IsDt w (Rg lo hi) d v
  | .mk k n s m l t, lo, hi, v, h => by
    simp only [OwnDt, IsDt] at h ⊢
    obtain ⟨h1, h2, h3, am, cm, al, cl, at_, ct, m1, m2, hv, o1, o2, o3, hm, hl, hls, ht, hts⟩ := h
    refine ⟨h1, h2, h3, am, cm, al, cl, at_, ct, hv, hm.1.keep (fun b hb => ⟨hb.1, by have := hb.2; omega⟩) (fun _ _ _ => rfl), hl.sl, ?_, ht.sl, ?_⟩
    · rcases hl with ⟨rfl, hz, _⟩ | ⟨g, rfl, g1, g2, _⟩
      · obtain rfl := List.eq_nil_of_length_eq_zero hz
        simp only [IsDts]
      · refine OwnDts.isDts l 0 _ m2 _ (Rg lo hi) (fun b hb => ?_) hls
        rcases hb with hb | ⟨hb1, hb2⟩
        · injection hb with hb; injection hb with hb; subst hb; exact ⟨by omega, by omega⟩
        · simp only [nx] at hb1; exact ⟨by omega, by omega⟩
    · rcases ht with ⟨rfl, hz, _⟩ | ⟨g, rfl, g1, g2, _⟩
      · obtain rfl := List.eq_nil_of_length_eq_zero hz
        simp only [IsDts]
      · refine OwnDts.isDts t 0 _ hi _ (Rg lo hi) (fun b hb => ?_) hts
        rcases hb with hb | ⟨hb1, hb2⟩
        · injection hb with hb; injection hb with hb; subst hb; exact ⟨by omega, by omega⟩
        · simp only [nx] at hb1; exact ⟨by omega, by omega⟩
theorem OwnDts.isDts {w : World} : ∀ (l : List Dt) (i lo hi : Nat) (a : Option Addr) (Q : Nat → Prop), (∀ b, (a = some ⟨b, 0, none⟩ ∨ Rg lo hi b) → Q b) → OwnDts w hi a l i lo → IsDts w Q a i l
  | [], _, _, _, _, _, _, _ => by simp only [IsDts]
  | d :: r, i, lo, hi, a, Q, hQ, h => by
    simp only [OwnDts, IsDts] at h ⊢
    obtain ⟨mid, g, x0, x1, x2, x3, x4, x5, ha, h0, h1, h2, hs, hd, hr⟩ := h
    refine ⟨⟨g, 0, x0, x1, x2, x3, x4, x5, ha, hQ g (.inl ha), by simpa using hs, (OwnDt.isDt d lo mid _ hd).more fun b hb => hQ b (.inr ⟨hb.1, by have := hb.2; omega⟩)⟩, OwnDts.isDts r (i + 1) mid hi a Q (fun b hb => hQ b ?_) hr⟩
    rcases hb with hb | hb
    · exact .inl hb
    · exact .inr ⟨by have := hb.1; omega, hb.2⟩
end
/-- A copy of a slice of marks. -/
def CloneI (w : World) (len : Nat) (zs : List Int) (e : Ending) (w' : World) : Prop :=
  ∃ a' c', e = .returned (.slice a' len c') ∧ OwnI w' w.heap.size w'.heap.size a' len c' zs ∧ Below w.heap.size w w'
theorem ownI_of_row {w w' : World} {v : Value} {n : Nat} {zs : List Int} (h : w'.ownsRow w.heap.size 3 1 v n (zs.map (Value.int .i64))) (hv : v ≠ .slice none 0 0) (hl : zs.length = n) (hn : n * 8 ≤ 140737488351232) (hz : ∀ z ∈ zs, (Lit.int .i64 z).wf = true) :
    ∃ a' c', v = .slice a' n c' ∧ OwnI w' w.heap.size w'.heap.size a' n c' zs := by
  obtain ⟨g, cap, rfl, hb, hlt, hnc, hcm⟩ := own_form h hv
  refine ⟨_, cap, rfl, ⟨hl, hnc, hcm, hn, (fun h => by cases h), hz, fun k hk => ⟨g, 0, rfl, ⟨hb, hlt⟩, ?_⟩⟩, fun ad ha => ?_⟩
  · rw [Nat.zero_add, h.cellAt k (by omega)]
    simp [hl, hk]
  · injection ha with ha
    subst ha
    exact ⟨g, rfl, hb, hlt, fun j => h.frozenAt j⟩
theorem clone_int (Q : Nat → Prop) (a : Option Addr) (len cap : Nat) (zs : List Int) (w : World) (h : IntRow w Q a len cap zs) :
    Calls Try.prog 29 #[.slice a len cap] w (CloneI w len zs) := by
  obtain ⟨hl, hlc, hcm, hb, hnil, hz, hc⟩ := h
  cases a with
  | none =>
    have h0 := hnil rfl
    obtain rfl : len = 0 := by omega
    obtain rfl := List.eq_nil_of_length_eq_zero hl
    refine (Try.slices_Clone_int_nil 0 cap w).mono ?_
    rintro e w' ⟨rfl, rfl⟩
    exact ⟨none, 0, rfl, ⟨⟨rfl, Nat.le_refl _, by simp [maxLen], by omega, fun _ => rfl, by simp, fun k hk => by omega⟩, fun ad h => by cases h⟩, Below.refl _ _⟩
  | some ad =>
    rcases Nat.eq_zero_or_pos len with rfl | hpos
    · obtain rfl := List.eq_nil_of_length_eq_zero hl
      refine (Try.slices_Clone_int_zero ad cap w).mono ?_
      rintro e w' ⟨v', rfl, hown, hne, hbel⟩
      obtain ⟨a', c', rfl, ho⟩ := ownI_of_row (zs := []) (by simpa using hown) hne rfl (by omega) (by simp)
      exact ⟨a', c', rfl, ho, hbel⟩
    · obtain ⟨b, off, he, _, _⟩ := hc 0 hpos
      injection he with he
      subst he
      refine (Try.slices_Clone_int b off len cap zs w (by omega) (by omega) (fun j hj => by
        obtain ⟨b', off', he, _, hcell⟩ := hc j (by omega)
        injection he with he
        injection he with h1 h2
        subst h1; subst h2
        exact hcell)).mono ?_
      rintro e w' ⟨v', rfl, hown, hne, hbel⟩
      rw [List.take_of_length_le (by omega)] at hown
      obtain ⟨a', c', rfl, ho⟩ := ownI_of_row hown hne hl (by omega) hz
      exact ⟨a', c', rfl, ho, hbel⟩
end Go.Proofs.Ytapnighankepjaa.Da
