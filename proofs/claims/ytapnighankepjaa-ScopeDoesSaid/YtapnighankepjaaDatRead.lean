/- What is kept of a datum that is read, and where its elements lie. -/
import Derived.Test.YtapnighankepjaaDatBase
namespace Go.Proofs.Ytapnighankepjaa.Da
open Go.ChangeShapes Go.WideShapes Go.ChangeAt Go.RowKit

theorem IntRow.keep {w w' : World} {Q Q' : Nat → Prop} {a : Option Addr} {len cap : Nat} {zs : List Int} (h : IntRow w Q a len cap zs) (hQ : ∀ b, Q b → Q' b)
    (hk : ∀ b o, Q b → w'.cell? ⟨b, o, none⟩ = w.cell? ⟨b, o, none⟩) : IntRow w' Q' a len cap zs := by
  obtain ⟨h1, h2, h3, h4, h5, h6, h7⟩ := h
  refine ⟨h1, h2, h3, h4, h5, h6, fun k hlt => ?_⟩
  obtain ⟨b, off, e, hb, hc⟩ := h7 k hlt
  exact ⟨b, off, e, hQ b hb, (hk b _ hb).trans hc⟩
theorem Six.keep {w w' : World} {b o : Nat} {x0 x1 x2 x3 x4 x5 : Value} (h : Six w b o x0 x1 x2 x3 x4 x5) (hk : ∀ o, w'.cell? ⟨b, o, none⟩ = w.cell? ⟨b, o, none⟩) : Six w' b o x0 x1 x2 x3 x4 x5 :=
  ⟨(hk _).trans h.1, (hk _).trans h.2.1, (hk _).trans h.2.2.1, (hk _).trans h.2.2.2.1, (hk _).trans h.2.2.2.2.1, (hk _).trans h.2.2.2.2.2⟩
mutual
theorem IsDt.keep {w w' : World} {Q Q' : Nat → Prop} (hQ : ∀ b, Q b → Q' b) (hk : ∀ b o, Q b → w'.cell? ⟨b, o, none⟩ = w.cell? ⟨b, o, none⟩) : ∀ (d : Dt) (v : Value), IsDt w Q d v → IsDt w' Q' d v
  | .mk k n s m l t, v, h => by
    simp only [IsDt] at h ⊢
    obtain ⟨h1, h2, h3, am, cm, al, cl, at_, ct, hv, hm, hl, hls, ht, hts⟩ := h
    exact ⟨h1, h2, h3, am, cm, al, cl, at_, ct, hv, hm.keep hQ hk, hl, IsDts.keep hQ hk al l 0 hls, ht, IsDts.keep hQ hk at_ t 0 hts⟩
theorem IsDts.keep {w w' : World} {Q Q' : Nat → Prop} (hQ : ∀ b, Q b → Q' b) (hk : ∀ b o, Q b → w'.cell? ⟨b, o, none⟩ = w.cell? ⟨b, o, none⟩) (a : Option Addr) : ∀ (l : List Dt) (i : Nat), IsDts w Q a i l → IsDts w' Q' a i l
  | [], _, _ => by simp only [IsDts]
  | d :: r, i, h => by
    simp only [IsDts] at h ⊢
    obtain ⟨⟨b, off, x0, x1, x2, x3, x4, x5, ha, hb, hx, hd⟩, hr⟩ := h
    exact ⟨⟨b, off, x0, x1, x2, x3, x4, x5, ha, hQ b hb, hx.keep (fun o => hk b o hb), IsDt.keep hQ hk d _ hd⟩, IsDts.keep hQ hk a r (i + 1) hr⟩
end
section
variable {w w' : World} {Q Q' : Nat → Prop} {B B' : Nat} {d : Dt} {v : Value}
theorem IsDt.below (h : IsDt w (Lo B) d v) (hb : Below B w w') : IsDt w' (Lo B) d v := IsDt.keep (fun _ h => h) (fun b o hlt => hb.cell (p := ⟨b, o, none⟩) hlt) d v h
theorem IsDt.fr {S : Nat → Prop} (h : IsDt w (Lo B) d v) (hb : Fr S w w') (hB : B ≤ w.heap.size) (hS : ∀ i, i < B → ¬ S i) : IsDt w' (Lo B) d v := h.below (hb.below hB hS)
theorem IsDts.below {a : Option Addr} {l : List Dt} {i : Nat} (h : IsDts w (Lo B) a i l) (hb : Below B w w') : IsDts w' (Lo B) a i l := IsDts.keep (fun _ h => h) (fun b o hlt => hb.cell (p := ⟨b, o, none⟩) hlt) a l i h
theorem IsDt.more (h : IsDt w Q d v) (hQ : ∀ b, Q b → Q' b) : IsDt w Q' d v := IsDt.keep hQ (fun _ _ _ => rfl) d v h
theorem IsDts.more {a : Option Addr} {l : List Dt} {i : Nat} (h : IsDts w Q a i l) (hQ : ∀ b, Q b → Q' b) : IsDts w Q' a i l := IsDts.keep hQ (fun _ _ _ => rfl) a l i h
end
/-- The element at an index. -/
theorem IsDts.at_ {w : World} {Q : Nat → Prop} {a : Option Addr} : ∀ {l : List Dt} {i : Nat}, IsDts w Q a i l → ∀ (k : Nat) (d : Dt), l[k]? = some d →
    ∃ b off x0 x1 x2 x3 x4 x5, a = some ⟨b, off, none⟩ ∧ Q b ∧ Six w b (off + (i + k) * 6) x0 x1 x2 x3 x4 x5 ∧ IsDt w Q d (.agg #[x0, x1, x2, x3, x4, x5])
  | [], _, _, k, d, hd => by simp at hd
  | x :: r, i, h, 0, d, hd => by
    simp only [IsDts] at h
    obtain rfl : x = d := by simpa using hd
    exact h.1
  | x :: r, i, h, k + 1, d, hd => by
    simp only [IsDts] at h
    have := IsDts.at_ h.2 k d (by simpa using hd)
    rwa [show i + 1 + k = i + (k + 1) by omega] at this
/-- From every element to all. -/
theorem IsDts.of_at {w : World} {Q : Nat → Prop} {a : Option Addr} : ∀ {l : List Dt} {i : Nat}, (∀ (k : Nat) (d : Dt), l[k]? = some d →
    ∃ b off x0 x1 x2 x3 x4 x5, a = some ⟨b, off, none⟩ ∧ Q b ∧ Six w b (off + (i + k) * 6) x0 x1 x2 x3 x4 x5 ∧ IsDt w Q d (.agg #[x0, x1, x2, x3, x4, x5])) → IsDts w Q a i l
  | [], _, _ => by simp only [IsDts]
  | x :: r, i, h => by
    simp only [IsDts]
    refine ⟨by simpa using h 0 x rfl, IsDts.of_at fun k d hd => ?_⟩
    have := h (k + 1) d (by simpa using hd)
    rwa [show i + (k + 1) = i + 1 + k by omega] at this
/-- A datum's value, opened. -/
theorem IsDt.open_ {w : World} {Q : Nat → Prop} {d : Dt} {v : Value} (h : IsDt w Q d v) : ∃ am cm al cl at_ ct, v = .agg #[.int .i64 d.K, .int .i64 d.N, .string d.S, .slice am d.M.length cm, .slice al d.L.length cl, .slice at_ d.T.length ct] ∧
    (Lit.int .i64 d.K).wf = true ∧ (Lit.int .i64 d.N).wf = true ∧ d.S.size ≤ maxLen ∧ IntRow w Q am d.M.length cm d.M ∧ IsSl al d.L.length cl ∧ IsDts w Q al 0 d.L ∧ IsSl at_ d.T.length ct ∧ IsDts w Q at_ 0 d.T := by
  cases d with
  | mk k n s m l t =>
    simp only [IsDt] at h
    obtain ⟨h1, h2, h3, am, cm, al, cl, at_, ct, hv, hm, hl, hls, ht, hts⟩ := h
    exact ⟨am, cm, al, cl, at_, ct, hv, h1, h2, h3, hm, hl, hls, ht, hts⟩
/-- The element at an index, its fields by their kinds. -/
theorem IsDts.at6 {w : World} {Q : Nat → Prop} {a : Option Addr} {l : List Dt} (h : IsDts w Q a 0 l) (k : Nat) (d : Dt) (hd : l[k]? = some d) :
    ∃ b off am cm al cl at_ ct, a = some ⟨b, off, none⟩ ∧ Q b ∧ Six w b (off + k * 6) (.int .i64 d.K) (.int .i64 d.N) (.string d.S) (.slice am d.M.length cm) (.slice al d.L.length cl) (.slice at_ d.T.length ct) ∧
      IsDt w Q d (.agg #[.int .i64 d.K, .int .i64 d.N, .string d.S, .slice am d.M.length cm, .slice al d.L.length cl, .slice at_ d.T.length ct]) := by
  obtain ⟨b, off, x0, x1, x2, x3, x4, x5, ha, hb, hs, hi⟩ := h.at_ k d hd
  rw [Nat.zero_add] at hs
  obtain ⟨am, cm, al, cl, at_, ct, hv, _⟩ := hi.open_
  injection hv with hv
  simp only [Array.mk.injEq, List.cons.injEq, and_true] at hv
  obtain ⟨rfl, rfl, rfl, rfl, rfl, rfl⟩ := hv
  exact ⟨b, off, am, cm, al, cl, at_, ct, ha, hb, hs, hi⟩
end Go.Proofs.Ytapnighankepjaa.Da
