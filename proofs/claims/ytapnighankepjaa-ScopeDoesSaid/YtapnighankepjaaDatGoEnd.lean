/- The document's walk: what lies in memory behind a part that is put behind the others. -/
import Derived.Test.YtapnighankepjaaDatGoMath
import Derived.Deep.AppendLies
import Derived.Laws.OwnMore
import Derived.OneCell
namespace Go.Proofs.Ytapnighankepjaa.Da
open Go.ChangeShapes Go.WideShapes Go.ChangeAt Go.RowKit

theorem set6_list (xs : List Value) (n : Nat) (h : xs.length = n * 6) (z0 z1 z2 z3 z4 z5 y0 y1 y2 y3 y4 y5 : Value) :
    ((((((xs ++ [z0, z1, z2, z3, z4, z5]).set (n * 6) y0).set (n * 6 + 1) y1).set (n * 6 + 2) y2).set (n * 6 + 3) y3).set (n * 6 + 4) y4).set (n * 6 + 5) y5 = xs ++ [y0, y1, y2, y3, y4, y5] := by
  rw [← h]
  simp
theorem set6_own {w : World} {base g cap n m : Nat} {xs : List Value} (h : w.ownsRow base 33 6 (.slice (some ⟨g, 0, none⟩) m cap) m xs) (y0 y1 y2 y3 y4 y5 : Value) :
    (set6 w g n y0 y1 y2 y3 y4 y5).ownsRow base 33 6 (.slice (some ⟨g, 0, none⟩) m cap) m ((((((xs.set n y0).set (n + 1) y1).set (n + 2) y2).set (n + 3) y3).set (n + 4) y4).set (n + 5) y5) := by
  unfold set6
  exact ((((((h.stored n y0).1.stored (n + 1) y1).1.stored (n + 2) y2).1.stored (n + 3) y3).1.stored (n + 4) y4).1.stored (n + 5) y5).1
theorem blk_set {w : World} {b : Nat} {t : TypeId} {c : Array Value} (h : Blk w b t c) (o : Nat) (u : Value) : Blk (w.setCell ⟨b, o, none⟩ u) b t (c.setIfInBounds o u) := heap_setCell_same w b o c t u h
/-- What lies behind the first append: the part's cells in the row, the row in the walk's block. -/
structure Mid (w W : World) (B b n g cap : Nat) (pre : List (Dt × Nat)) (pv dv : Option Addr) (dc : Nat) (q : Nat) (cs : Array Value) (ys : List Value) : Prop where
  blk : Blk W b 104 #[.slice (some ⟨g, 0, none⟩) (n + 1) cap, .slice dv n dc, .int .i64 0]
  own0 : W.ownsRow B 33 6 (.slice (some ⟨g, 0, none⟩) (n + 1) cap) (n + 1) ys
  own1 : W.ownsRow B 3 1 (.slice dv n dc) n (pre.map fun x => .int .i64 (x.2 : Int))
  prm : Blk W q 33 cs
  fr : Fr (WS b pv dv) w W
  at_ : ob pv = some g ∨ q < g
  gq : g ≠ q
theorem mid_of {w w2 : World} {B b n g cap : Nat} {pre : List (Dt × Nat)} {pv dv : Option Addr} {pc dc : Nat} {xs : List Value} {q : Nat} {cs : Array Value} {X : World} {z0 z1 z2 z3 z4 z5 : Value} (y0 y1 y2 y3 y4 y5 : Value)
    (hn : pre.length = n) (hk : Wk w B b (pre, 0) pv dv pc dc xs) (hq : q = w.heap.size) (hX : Below w.heap.size w X) (hqX : q + 1 < X.heap.size) (hcs : Blk X q 33 cs)
    (hown : w2.ownsRow B 33 6 (.slice (some ⟨g, 0, none⟩) (n + 1) cap) (n + 1) (xs ++ [z0, z1, z2, z3, z4, z5])) (hg : X.grownBy w2 (ob pv)) (hat : ob pv = some g ∨ g = X.heap.size) :
    Mid w ((set6 w2 g (n * 6) y0 y1 y2 y3 y4 y5).setCell ⟨b, 0, none⟩ (.slice (some ⟨g, 0, none⟩) (n + 1) cap)) B b n g cap pre pv dv dc q cs (xs ++ [y0, y1, y2, y3, y4, y5]) := by
  subst hn hq
  obtain ⟨n0, n1⟩ := hk.bLt
  have hbw := hk.blk.lt
  have hxl : xs.length = pre.length * 6 := hk.own0.1
  have hbX : Blk X b 104 _ := (hX.block b hbw).trans hk.blk
  have hb2 : Blk w2 b 104 #[.slice pv pre.length pc, .slice dv pre.length dc, .int .i64 0] := (hg.block b (Nat.lt_of_lt_of_le hbw hX.size) (fun e => (n0 b e.symm).2.2 rfl)).trans hbX
  have hgb : g ≠ b := fun e => by
    subst e
    exact row_ne hb2 (by decide) hown rfl
  have f6 := set6_fr w2 g (pre.length * 6) y0 y1 y2 y3 y4 y5
  have s6 := set6_size w2 g (pre.length * 6) y0 y1 y2 y3 y4 y5
  have o6 := set6_own (n := pre.length * 6) hown y0 y1 y2 y3 y4 y5
  rw [set6_list xs pre.length hxl] at o6
  generalize set6 w2 g (pre.length * 6) y0 y1 y2 y3 y4 y5 = W6 at *
  have hs2 := hg.size
  have hsX := hX.size
  have hb6 : Blk W6 b 104 #[.slice pv pre.length pc, .slice dv pre.length dc, .int .i64 0] := (f6.block b (by omega) (fun e => hgb e.symm)).trans hb2
  have hgq : g ≠ w.heap.size := by
    rcases hat with h | h
    · have := (n0 g h).2.1; omega
    · omega
  refine ⟨(blk_set hb6 0 _).trans rfl, ?_, ?_, ?_, ?_, ?_, hgq⟩
  · exact ownsRow_setCell_other o6 (by simpa [Value.ownBlock] using hgb) _
  · have hd2 : w2.ownsRow B 3 1 (.slice dv pre.length dc) pre.length (pre.map fun x => .int .i64 (x.2 : Int)) := own_stay hk.own1 fun i hi hlt => by
      rw [ob_slice] at hi
      refine (hg.block i (by omega) (fun e => ?_)).trans (hX.block i hlt)
      have h1 := hk.own0
      rcases h1.2 with ⟨hv, _⟩ | ⟨g0, cap0, cur0, hv, _, hc0, _⟩
      · simp at hv
        rw [hv.1] at e
        cases e
      · simp only [Value.slice.injEq] at hv
        rw [hv.1] at e
        have e1 : i = g0 := by simpa [ob] using e
        subst e1
        rcases hk.own1.2 with ⟨hv2, _⟩ | ⟨g3, cap3, cur3, hv2, _, hc3, _⟩
        · simp at hv2
          rw [hv2.1] at hi
          cases hi
        · simp only [Value.slice.injEq] at hv2
          rw [hv2.1] at hi
          have e3 : g3 = i := by simpa [ob] using hi
          subst e3
          rw [hc0] at hc3
          simp at hc3
    have hd6 : W6.ownsRow B 3 1 (.slice dv pre.length dc) pre.length (pre.map fun x => .int .i64 (x.2 : Int)) := own_stay hd2 fun i hi hlt => f6.block i hlt (fun e => by
      subst e
      rcases hown.2 with ⟨hv, _⟩ | ⟨g0, cap0, cur0, hv, _, hc0, _⟩
      · simp at hv
      · simp only [Value.slice.injEq, Option.some.injEq, Addr.mk.injEq, and_true, true_and] at hv
        obtain ⟨rfl, rfl⟩ := hv
        rcases hd2.2 with ⟨hv2, _⟩ | ⟨g3, cap3, cur3, hv2, _, hc3, _⟩
        · rw [hv2] at hi; cases hi
        · rw [hv2] at hi
          have e3 : g3 = i := by simpa [Value.ownBlock] using hi
          subst e3
          rw [hc0] at hc3
          simp at hc3)
    exact ownsRow_setCell_other hd6 (by rw [ob_slice]; exact fun e => (n1 b e).2.2 rfl) _
  · have p2 : Blk w2 w.heap.size 33 cs := (hg.block _ (by omega) (fun e => by have := (n0 _ e.symm).2.1; omega)).trans hcs
    have p6 : Blk W6 w.heap.size 33 cs := (f6.block _ (by omega) (fun e => hgq e.symm)).trans p2
    exact (Below.heap_setCell _ _ _ _ (by show w.heap.size ≠ b; omega)).trans p6
  · have f1 : Fr (WS b pv dv) w X := Fr.of_bel hX _
    have f2 : Fr (WS b pv dv) w w2 := ⟨hg.os.trans hX.os, hg.tape.trans hX.tape, hg.output.trans hX.output, by omega, fun i hi hs => (hg.block i (by omega) (fun e => hs (.inr (.inl e.symm)))).trans (hX.block i hi)⟩
    have f3 : Fr (WS b pv dv) w W6 := f2.trans' f6 (fun i hi hlt => by
      subst hi
      rcases hat with h | h
      · exact .inr (.inl h)
      · omega)
    exact f3.setCell (.inl (.inl rfl)) _
  · rcases hat with h | h
    · exact .inl h
    · exact .inr (by omega)
/-- What lies behind the second append. -/
theorem wk_of {w Wf W4 : World} {B b n g cap g2 cap2 k : Nat} {pre : List (Dt × Nat)} {pv dv : Option Addr} {pc dc : Nat} {xs : List Value} {d : Dt} {q : Nat} {cs : Array Value} {y0 y1 y2 y3 y4 y5 : Value} {X : World}
    (hn : pre.length = n) (h4096 : n + 1 ≤ 4096) (hk : Wk w B b (pre, 0) pv dv pc dc xs) (hq : q = w.heap.size) (hm : Mid w Wf B b n g cap pre pv dv dc q cs (xs ++ [y0, y1, y2, y3, y4, y5])) (hd : IsDt w (Lo B) d (.agg #[y0, y1, y2, y3, y4, y5])) (hX : Below Wf.heap.size Wf X) (hXs : X.heap.size = Wf.heap.size + 1)
    (hown : W4.ownsRow B 3 1 (.slice (some ⟨g2, 0, none⟩) (n + 1) cap2) (n + 1) (pre.map (fun x => .int .i64 (x.2 : Int)) ++ [.int .i64 (k : Int)])) (hg : X.grownBy W4 (ob dv)) (hat : ob dv = some g2 ∨ g2 = X.heap.size) :
    ∃ W5, W4.setCell ⟨b, 1, none⟩ (.slice (some ⟨g2, 0, none⟩) (n + 1) cap2) = W5 ∧ Wk W5 B b (pre ++ [(d, k)], 0) (some ⟨g, 0, none⟩) (some ⟨g2, 0, none⟩) cap cap2 (xs ++ [y0, y1, y2, y3, y4, y5]) ∧ Fr (WS b pv dv) w W5 ∧ Blk W5 q 33 cs ∧ q < W5.heap.size ∧ ¬ WS b (some ⟨g, 0, none⟩) (some ⟨g2, 0, none⟩) q ∧
      (∀ i, ob (some ⟨g, 0, none⟩) = some i → ob pv = some i ∨ w.heap.size ≤ i) ∧ (∀ i, ob (some ⟨g2, 0, none⟩) = some i → ob dv = some i ∨ w.heap.size ≤ i) := by
  subst hn hq
  obtain ⟨n0, n1⟩ := hk.bLt
  have hbw := hk.blk.lt
  have hBw := hk.hB
  have hbF := hm.blk.lt
  have hsX := hX.size
  have hs4 := hg.size
  have hsF := hm.fr.size
  have hbX : Blk X b 104 _ := (hX.block b hbF).trans hm.blk
  have hb4 : Blk W4 b 104 #[.slice (some ⟨g, 0, none⟩) (pre.length + 1) cap, .slice dv pre.length dc, .int .i64 0] := (hg.block b (by omega) (fun e => (n1 b e.symm).2.2 rfl)).trans hbX
  have hgb : g2 ≠ b := fun e => by
    subst e
    exact row_ne hb4 (by decide) hown rfl
  have hqF := hm.prm.lt
  have hq2 : g2 ≠ w.heap.size := by
    rcases hat with h | h
    · have := (n1 g2 h).2.1; omega
    · omega
  have f2 : Fr (WS b pv dv) w W4 := (hm.fr.trans (Fr.of_bel hX _)).trans' (T := fun i => ob dv = some i) ⟨hg.os, hg.tape, hg.output, hg.size, fun i hi hs => hg.block i hi (fun e => hs e.symm)⟩ (fun i hi _ => .inr (.inr hi))
  have o4 : W4.ownsRow B 33 6 (.slice (some ⟨g, 0, none⟩) (pre.length + 1) cap) (pre.length + 1) (xs ++ [y0, y1, y2, y3, y4, y5]) := own_stay hm.own0 fun i hi hlt => by
    refine (hg.block i (by omega) (fun e => ?_)).trans (hX.block i hlt)
    obtain rfl : g = i := by simpa [Value.ownBlock] using hi
    rcases hm.own0.2 with ⟨hv, _⟩ | ⟨g0, cap0, cur0, hv, _, hc0, _⟩
    · simp at hv
    · simp only [Value.slice.injEq, Option.some.injEq, Addr.mk.injEq, and_true, true_and] at hv
      obtain ⟨rfl, rfl⟩ := hv
      rcases hm.own1.2 with ⟨hv2, _⟩ | ⟨g3, cap3, cur3, hv2, _, hc3, _⟩
      · simp at hv2
        rw [hv2.1] at e
        cases e
      · simp only [Value.slice.injEq] at hv2
        rw [hv2.1] at e
        have e3 : g = g3 := by simpa [ob] using e
        subst e3
        rw [hc0] at hc3
        simp at hc3
  have hmap : (pre ++ [(d, k)]).map (fun x => Value.int .i64 (x.2 : Int)) = pre.map (fun x => .int .i64 (x.2 : Int)) ++ [.int .i64 (k : Int)] := by simp
  have hlen : (pre ++ [(d, k)]).length = pre.length + 1 := by simp
  refine ⟨_, rfl, ⟨hBw, ?_, ?_, ?_, ?_, ?_⟩, ?_, ?_, ?_, ?_, ?_, ?_⟩
  · rw [hlen]; exact (blk_set hb4 1 _).trans rfl
  · rw [hlen]; exact ownsRow_setCell_other o4 (by rw [ob_slice]; intro e; have e2 : g = b := by simpa [ob] using e
                                                  subst e2
                                                  exact row_ne hb4 (by decide) o4 rfl) _
  · rw [hlen, hmap]; exact ownsRow_setCell_other hown (by simpa [Value.ownBlock] using hgb) _
  · have hbel : Below B w (W4.setCell ⟨b, 1, none⟩ (.slice (some ⟨g2, 0, none⟩) (pre.length + 1) cap2)) := (f2.setCell (p := ⟨b, 1, none⟩) (.inl (.inl rfl)) _).below (by omega) (fun i hi hs => by
      rcases hs with rfl | h | h
      · omega
      · have := (n0 i h).1; omega
      · have := (n1 i h).1; omega)
    exact (hk.rows.below hbel).snoc hk.own0.1 (hd.below hbel)
  · rw [hlen]; omega
  · exact f2.setCell (.inl (.inl rfl)) _
  · refine (Below.heap_setCell _ _ _ _ (by show w.heap.size ≠ b; omega)).trans ?_
    exact (hg.block _ (by omega) (fun e => by have := (n1 _ e.symm).2.1; omega)).trans ((hX.block _ hqF).trans hm.prm)
  · simp only [World.setCell, Array.size_modify]; omega
  · rintro (h | h | h)
    · omega
    · simp [ob] at h; exact hm.gq h
    · simp [ob] at h; exact hq2 h
  · intro i hi
    obtain rfl : g = i := by simpa [ob] using hi
    rcases hm.at_ with h | h
    · exact .inl h
    · exact .inr (by omega)
  · intro i hi
    obtain rfl : g2 = i := by simpa [ob] using hi
    rcases hat with h | h
    · exact .inl h
    · exact .inr (by omega)
end Go.Proofs.Ytapnighankepjaa.Da
