/- Data in memory of their own: what is owned, by intervals of blocks. -/
import Derived.Test.YtapnighankepjaaDatClone
import Derived.Test.YtapnighankepjaaDatVisit
namespace Go.Proofs.Ytapnighankepjaa.Da
open Go.ChangeShapes Go.WideShapes Go.ChangeAt Go.RowKit

def Rg (lo hi : Nat) : Nat → Prop := fun b => lo ≤ b ∧ b < hi
/-- A slice of numbers in a row of its own, or nil. -/
def OwnI (w : World) (lo hi : Nat) (a : Option Addr) (len cap : Nat) (zs : List Int) : Prop :=
  IntRow w (Rg lo hi) a len cap zs ∧ ∀ ad, a = some ad → ∃ g, ad = ⟨g, 0, none⟩ ∧ lo ≤ g ∧ g < hi ∧ ∀ j, w.frozen? ⟨g, j, none⟩ = false
/-- A slice of data in a row of its own, or nil. -/
def OwnSl (w : World) (lo hi : Nat) (a : Option Addr) (len cap : Nat) : Prop :=
  (a = none ∧ len = 0 ∧ cap = 0) ∨ ∃ g, a = some ⟨g, 0, none⟩ ∧ lo ≤ g ∧ g < hi ∧ len ≤ cap ∧ cap ≤ maxLen ∧ len * 104 ≤ 140737488351232 ∧ ∀ j, w.frozen? ⟨g, j, none⟩ = false
def nx : Option Addr → Nat | some a => a.block + 1 | none => 0
mutual
def OwnDt (w : World) : Dt → Nat → Nat → Value → Prop
  | .mk k n s m l t, lo, hi, v => (Lit.int .i64 k).wf = true ∧ (Lit.int .i64 n).wf = true ∧ s.size ≤ maxLen ∧
    ∃ am cm al cl at_ ct h1 h2, v = .agg #[.int .i64 k, .int .i64 n, .string s, .slice am m.length cm, .slice al l.length cl, .slice at_ t.length ct] ∧ lo ≤ h1 ∧ h1 ≤ h2 ∧ h2 ≤ hi ∧
      OwnI w lo h1 am m.length cm m ∧ OwnSl w h1 h2 al l.length cl ∧ OwnDts w h2 al l 0 (nx al) ∧ OwnSl w h2 hi at_ t.length ct ∧ OwnDts w hi at_ t 0 (nx at_)
def OwnDts (w : World) (hi : Nat) (a : Option Addr) : List Dt → Nat → Nat → Prop
  | [], _, _ => True
  | d :: r, i, lo => (∃ mid g x0 x1 x2 x3 x4 x5, a = some ⟨g, 0, none⟩ ∧ g < lo ∧ lo ≤ mid ∧ mid ≤ hi ∧ Six w g (i * 6) x0 x1 x2 x3 x4 x5 ∧ OwnDt w d lo mid (.agg #[x0, x1, x2, x3, x4, x5]) ∧ OwnDts w hi a r (i + 1) mid)
end
/-- Two worlds are one at these blocks. -/
def Eqv (w w' : World) (P : Nat → Prop) : Prop := ∀ b, P b → ∀ o, w'.cell? ⟨b, o, none⟩ = w.cell? ⟨b, o, none⟩ ∧ w'.frozen? ⟨b, o, none⟩ = w.frozen? ⟨b, o, none⟩
theorem Eqv.of_fr {S : Nat → Prop} {w w' : World} (h : Fr S w w') : Eqv w w' (fun b => b < w.heap.size ∧ ¬ S b) :=
  fun b hb o => ⟨h.cell (p := ⟨b, o, none⟩) hb.1 hb.2, h.frozen (p := ⟨b, o, none⟩) hb.1 hb.2⟩
theorem Eqv.mono {w w' : World} {P P' : Nat → Prop} (h : Eqv w w' P) (hp : ∀ b, P' b → P b) : Eqv w w' P' := fun b hb => h b (hp b hb)
theorem OwnI.keep {w w' : World} {lo hi : Nat} {a : Option Addr} {len cap : Nat} {zs : List Int} (h : OwnI w lo hi a len cap zs) (hk : Eqv w w' (Rg lo hi)) : OwnI w' lo hi a len cap zs :=
  ⟨h.1.keep (fun _ h => h) (fun b o hb => (hk b hb o).1), fun ad ha => by
    obtain ⟨g, e, h1, h2, h3⟩ := h.2 ad ha
    exact ⟨g, e, h1, h2, fun j => ((hk g ⟨h1, h2⟩ j).2).trans (h3 j)⟩⟩
theorem OwnI.wide {w : World} {lo hi lo' hi' : Nat} {a : Option Addr} {len cap : Nat} {zs : List Int} (h : OwnI w lo hi a len cap zs) (h1 : lo' ≤ lo) (h2 : hi ≤ hi') : OwnI w lo' hi' a len cap zs :=
  ⟨h.1.keep (fun _ h => ⟨Nat.le_trans h1 h.1, Nat.lt_of_lt_of_le h.2 h2⟩) (fun _ _ _ => rfl), fun ad ha => by
    obtain ⟨g, e, h3, h4, h5⟩ := h.2 ad ha
    exact ⟨g, e, by omega, by omega, h5⟩⟩
theorem OwnSl.keep {w w' : World} {lo hi : Nat} {a : Option Addr} {len cap : Nat} (h : OwnSl w lo hi a len cap) (hk : Eqv w w' (Rg lo hi)) : OwnSl w' lo hi a len cap := by
  rcases h with h | ⟨g, h1, h2, h3, h4, h5, h6, h7⟩
  · exact .inl h
  · exact .inr ⟨g, h1, h2, h3, h4, h5, h6, fun j => ((hk g ⟨h2, h3⟩ j).2).trans (h7 j)⟩
theorem OwnSl.wide {w : World} {lo hi lo' hi' : Nat} {a : Option Addr} {len cap : Nat} (h : OwnSl w lo hi a len cap) (h1 : lo' ≤ lo) (h2 : hi ≤ hi') : OwnSl w lo' hi' a len cap := by
  rcases h with h | ⟨g, e1, e2, e3, r⟩
  · exact .inl h
  · exact .inr ⟨g, e1, by omega, by omega, r⟩
theorem OwnSl.sl {w : World} {lo hi : Nat} {a : Option Addr} {len cap : Nat} (h : OwnSl w lo hi a len cap) : IsSl a len cap := by
  rcases h with ⟨rfl, rfl, rfl⟩ | ⟨g, rfl, _, _, h4, h5, h6, _⟩
  · exact ⟨Nat.le_refl _, by simp [maxLen], by omega, fun _ => rfl⟩
  · exact ⟨h4, h5, h6, fun h => by cases h⟩
mutual
theorem OwnDt.keep {w w' : World} : ∀ (d : Dt) (lo hi : Nat) (v : Value), Eqv w w' (Rg lo hi) → OwnDt w d lo hi v → OwnDt w' d lo hi v
  | .mk k n s m l t, lo, hi, v, hk, h => by
    simp only [OwnDt] at h ⊢
    obtain ⟨h1, h2, h3, am, cm, al, cl, at_, ct, m1, m2, hv, o1, o2, o3, hm, hl, hls, ht, hts⟩ := h
    have k1 : Eqv w w' (Rg lo m1) := hk.mono fun b hb => ⟨hb.1, by have := hb.2; omega⟩
    have k2 : Eqv w w' (Rg m1 m2) := hk.mono fun b hb => ⟨by have := hb.1; omega, by have := hb.2; omega⟩
    have k3 : Eqv w w' (Rg m2 hi) := hk.mono fun b hb => ⟨by have := hb.1; omega, hb.2⟩
    refine ⟨h1, h2, h3, am, cm, al, cl, at_, ct, m1, m2, hv, o1, o2, o3, hm.keep k1, hl.keep k2, ?_, ht.keep k3, ?_⟩
    · rcases hl with ⟨rfl, hz, _⟩ | ⟨g, rfl, g1, g2, _⟩
      · obtain rfl := List.eq_nil_of_length_eq_zero hz
        simp only [OwnDts]
      · exact OwnDts.keep l 0 _ m2 _ (k2.mono fun b hb => by
          rcases hb with hb | ⟨hb1, hb2⟩
          · injection hb with hb; injection hb with hb; subst hb; exact ⟨g1, g2⟩
          · simp only [nx] at hb1; exact ⟨by omega, hb2⟩) hls
    · rcases ht with ⟨rfl, hz, _⟩ | ⟨g, rfl, g1, g2, _⟩
      · obtain rfl := List.eq_nil_of_length_eq_zero hz
        simp only [OwnDts]
      · exact OwnDts.keep t 0 _ hi _ (k3.mono fun b hb => by
          rcases hb with hb | ⟨hb1, hb2⟩
          · injection hb with hb; injection hb with hb; subst hb; exact ⟨g1, g2⟩
          · simp only [nx] at hb1; exact ⟨by omega, hb2⟩) hts
theorem OwnDts.keep {w w' : World} : ∀ (l : List Dt) (i lo hi : Nat) (a : Option Addr), Eqv w w' (fun b => a = some ⟨b, 0, none⟩ ∨ Rg lo hi b) → OwnDts w hi a l i lo → OwnDts w' hi a l i lo
  | [], _, _, _, _, _, _ => by simp only [OwnDts]
  | d :: r, i, lo, hi, a, hk, h => by
    simp only [OwnDts] at h ⊢
    obtain ⟨mid, g, x0, x1, x2, x3, x4, x5, ha, h0, h1, h2, hs, hd, hr⟩ := h
    exact ⟨mid, g, x0, x1, x2, x3, x4, x5, ha, h0, h1, h2, hs.keep (fun o => (hk g (.inl ha) o).1), OwnDt.keep d lo mid _ (hk.mono fun b hb => .inr ⟨hb.1, by have := hb.2; omega⟩) hd,
      OwnDts.keep r (i + 1) mid hi a (hk.mono fun b hb => by
        rcases hb with hb | hb
        · exact .inl hb
        · exact .inr ⟨by have := hb.1; omega, hb.2⟩) hr⟩
end
end Go.Proofs.Ytapnighankepjaa.Da
