/- Loops over an iterator that collect what comes: what a round of such a loop keeps. -/
import Derived.RangeFuncNested
import Derived.RangeFuncBound
import Derived.RangeFuncCalls
import Derived.RangeFuncLeaves
import Derived.RangeFuncBox
import Derived.Shelf.Abstract
import Derived.Shelf.RegionOpen
import Derived.WalkKit
import Derived.OwnWalkIn
import Derived.TacticsInMore
import Derived.LoopNIn
import Derived.LoopIn
import Derived.Maps.AppendAt
import Derived.Maps.OwnIn
import Derived.Lib.Hide
namespace Go.Proofs.Yteddfdhbpgbloaa.Rg
open Go Go.RowKit Go.Shelf

/-- Block k is the box b, or the row of the slice in it. -/
def Own1 (b : Nat) (W : World) (k : Nat) : Prop := k = b ∨ ∃ a n c, W.cell? ⟨b, 0, none⟩ = some (.slice (some a) n c) ∧ a.block = k
/-- What a round keeps: every block of cells but the box and the row of the slice in it. -/
structure Kp (b : Nat) (W W' : World) : Prop where
  size : W.heap.size ≤ W'.heap.size
  same : ∀ k o, W.heap[k]? = some o → o.isCells = true → ¬ Own1 b W k → W'.heap[k]? = some o
  own : ∀ k, Own1 b W' k → Own1 b W k ∨ (W.heap.size ≤ k ∧ k < W'.heap.size)
theorem lt_of_some {W : World} {k : Nat} {o : Obj} (h : W.heap[k]? = some o) : k < W.heap.size := (Array.getElem?_eq_some_iff.1 h).1
theorem Kp.refl (b : Nat) (W : World) : Kp b W W := ⟨Nat.le_refl _, fun _ _ h _ _ => h, fun _ h => .inl h⟩
theorem Kp.trans {b : Nat} {A B C : World} (h : Kp b A B) (k : Kp b B C) : Kp b A C :=
  ⟨Nat.le_trans h.size k.size, fun i o hi hc hn => k.same i o (h.same i o hi hc hn) hc (fun ho => by
      rcases h.own i ho with h1 | ⟨h1, _⟩
      · exact hn h1
      · have := lt_of_some hi; omega),
   fun i ho => by
    rcases k.own i ho with h1 | ⟨h1, h2⟩
    · rcases h.own i h1 with h3 | ⟨h3, h4⟩
      · exact .inl h3
      · exact .inr ⟨h3, Nat.lt_of_lt_of_le h4 k.size⟩
    · exact .inr ⟨Nat.le_trans h.size h1, h2⟩⟩
theorem own1_same {b k : Nat} {W W' : World} (h : W'.heap[b]? = W.heap[b]?) (ho : Own1 b W' k) : Own1 b W k := by
  rcases ho with rfl | ⟨a, n, c, hc, hk⟩
  · exact .inl rfl
  · exact .inr ⟨a, n, c, (World.cell?_of_block (a := ⟨b, 0, none⟩) (w := W) h).symm.trans hc, hk⟩
/-- A turn of a block that is no cells, or none at all. -/
theorem Kp.grown {b : Nat} {W W' : World} {row : Option Nat} (hb : b < W.heap.size) (hg : W.grownBy W' row) (hr : ∀ r, row = some r → r ≠ b ∧ ∀ o, W.heap[r]? = some o → o.isCells = false) : Kp b W W' :=
  ⟨hg.size, fun k o hk hc _ => (hg.block k (lt_of_some hk) (fun e => by
      have := (hr k e.symm).2 o hk
      rw [hc] at this; cases this)).trans hk,
   fun k ho => .inl (own1_same (hg.block b hb (fun e => (hr b e.symm).1 rfl)) ho)⟩
theorem Kp.alloc {b : Nat} (W : World) (hb : b < W.heap.size) (o : Obj) : Kp b W (W.alloc o) := .grown hb (World.grownBy_alloc W o none) (fun r e => by cases e)
theorem Kp.put {b : Nat} {w : World} (hb : b < w.heap.size) : ∀ (W : World) (l : Nat) (o o' : Obj), w.heap.size ≤ l → W.heap[l]? = some o → o.isCells = false → o.isWalk = false → Kp b W (W.putObj l o') := fun W l o o' hl ho hc _ =>
  .grown (Nat.lt_trans (Nat.lt_of_lt_of_le hb hl) (lt_of_some ho)) (grownBy_putObj' W l o') (fun r e => by cases e; exact ⟨by omega, fun o2 h2 => by rw [ho] at h2; cases h2; exact hc⟩)
theorem grown_of_below {W W' : World} (h : Below W.heap.size W W') : W.grownBy W' none := ⟨h.os, h.tape, h.output, h.size, fun k hk _ => h.block k hk⟩
theorem Kp.below {b : Nat} {W W' : World} (hb : b < W.heap.size) (h : Below W.heap.size W W') : Kp b W W' := .grown hb (grown_of_below h) (fun r e => by cases e)
theorem own_block {v : Value} {g : Nat} (h : v.ownBlock = some g) : ∃ a n c, v = .slice (some a) n c ∧ a.block = g := by
  unfold Value.ownBlock at h
  split at h
  · next a n c => exact ⟨a, n, c, rfl, Option.some.inj h⟩
  · cases h
/-- 'l = append(l, ..)'. -/
theorem Kp.app {W w1 : World} {b : Nat} {t : TypeId} {v v' : Value} {tmp : Obj} (hv : Boxed W b t v) (hgrow : (W.alloc tmp).grownBy w1 v.ownBlock) (hat : v'.ownBlock = v.ownBlock ∨ v'.ownBlock = some (W.alloc tmp).heap.size) (hne : some b ≠ v.ownBlock) (hin : ∀ g, v'.ownBlock = some g → g < w1.heap.size) :
    Kp b W (w1.setCell ⟨b, 0, none⟩ v') := by
  have hsz : W.heap.size ≤ w1.heap.size := Nat.le_trans (by simp) hgrow.size
  have hv1 : Boxed w1 b t v := (hv.alloc tmp).kept hgrow hne
  refine ⟨by simpa [World.setCell] using hsz, fun k o hk hc hn => ?_, fun k ho => ?_⟩
  · have hkb : k ≠ b := fun e => hn (.inl e)
    have hkv : some k ≠ v.ownBlock := by
      intro e
      obtain ⟨a, n, c, rfl, h1⟩ := own_block e.symm
      exact hn (.inr ⟨a, n, c, hv.cell, h1⟩)
    have hlt := lt_of_some hk
    rw [Below.heap_setCell _ _ _ _ (by simpa using hkb)]
    exact (hgrow.block k (by simp; omega) hkv).trans ((Below.heap_alloc _ _ _ hlt).trans hk)
  · rcases ho with rfl | ⟨a, n, c, hc, hk⟩
    · exact .inl (.inl rfl)
    · rw [World.cell?_setCell_same' _ _ _ (by rw [hv1.cell]; rfl)] at hc
      obtain rfl := Option.some.inj hc
      rcases hat with h | h
      · obtain ⟨a', n', c', rfl, h1⟩ := own_block (g := a.block) h.symm
        exact .inl (.inr ⟨a', n', c', hv.cell, h1.trans hk⟩)
      · have : a.block = (W.alloc tmp).heap.size := Option.some.inj h
        refine .inr ⟨by rw [← hk, this]; simp, ?_⟩
        rw [← hk]
        simpa [World.setCell] using hin a.block rfl
/-- A block of cells beyond the box, while the box holds nothing. -/
theorem Kp.block {b g : Nat} {W W' : World} {o : Obj} (h : Kp b W W') (hnil : W.cell? ⟨b, 0, none⟩ = some (.slice none 0 0)) (hg : W.heap[g]? = some o) (hc : o.isCells = true) (hne : g ≠ b) : W'.heap[g]? = some o :=
  h.same g o hg hc (fun ho => by
    rcases ho with h1 | ⟨a, n, c, h1, _⟩
    · exact hne h1
    · rw [hnil] at h1; cases h1)
/-- A row that was made since, in a round's world. -/
theorem own_after {w w' : World} {B e sz b : Nat} {a : Option Addr} {n c : Nat} {xs : List Value} (h : w.ownsRow B e sz (.slice a n c) n xs) (hn : 0 < n) (hK : Kp b w w') (hnil : w.cell? ⟨b, 0, none⟩ = some (.slice none 0 0)) (hb : b < B) :
    ∃ g, a = some ⟨g, 0, none⟩ ∧ n ≤ c ∧ ∀ j u, xs[j]? = some u → w'.cell? ⟨g, j, none⟩ = some u := by
  rcases h.2 with ⟨h1, h0⟩ | ⟨g, cap, cur, h1, h2, h3, h4, _⟩
  · omega
  · injection h1 with e1 e2 e3
    subst e1
    subst e3
    refine ⟨g, rfl, h4, fun j u hu => ?_⟩
    have h5 := h.cells rfl j u hu
    rw [show (⟨g, 0, none⟩ : Addr).add j = ⟨g, j, none⟩ by unfold Addr.add; split <;> simp_all] at h5
    have h6 := hK.block hnil h3 rfl (by omega)
    exact (World.cell?_of_block (a := ⟨g, j, none⟩) (w := w) (h6.trans h3.symm)).trans h5
/-- The row of the slice in the box is there. -/
def Wf (b : Nat) (W : World) : Prop := ∀ k, Own1 b W k → k < W.heap.size
/-- A block that rounds leave alone. -/
def Sf (b : Nat) (W : World) (g : Nat) : Prop := g < W.heap.size ∧ ¬ Own1 b W g
theorem Wf.nil {b : Nat} {W : World} (hb : b < W.heap.size) (hnil : W.cell? ⟨b, 0, none⟩ = some (.slice none 0 0)) : Wf b W := by
  rintro k (rfl | ⟨a, n, c, h, _⟩)
  · exact hb
  · rw [hnil] at h; cases h
theorem Sf.nil {b g : Nat} {W : World} (hg : g < W.heap.size) (hne : g ≠ b) (hnil : W.cell? ⟨b, 0, none⟩ = some (.slice none 0 0)) : Sf b W g := by
  refine ⟨hg, ?_⟩
  rintro (rfl | ⟨a, n, c, h, _⟩)
  · exact hne rfl
  · rw [hnil] at h; cases h
theorem Wf.kp {b : Nat} {W W' : World} (h : Wf b W) (hK : Kp b W W') : Wf b W' := fun k ho => by
  rcases hK.own k ho with h1 | h1
  · exact Nat.lt_of_lt_of_le (h k h1) hK.size
  · exact h1.2
theorem Sf.kp {b g : Nat} {W W' : World} (h : Sf b W g) (hK : Kp b W W') : Sf b W' g := ⟨Nat.lt_of_lt_of_le h.1 hK.size, fun ho => by
  rcases hK.own g ho with h1 | h1
  · exact h.2 h1
  · have := h.1; omega⟩
theorem Sf.new {b g : Nat} {W W' : World} (h : Wf b W) (hb : b < W.heap.size) (hB : Below W.heap.size W W') (h1 : W.heap.size ≤ g) (h2 : g < W'.heap.size) : Sf b W' g := ⟨h2, fun ho => by
  have := h g (own1_same (hB.block b hb) ho); omega⟩
theorem cells_of_cell {W : World} {p : Addr} {v : Value} (h : W.cell? p = some v) : ∃ o, W.heap[p.block]? = some o ∧ o.isCells = true := by
  unfold World.cell? at h
  split at h
  · next c t z e => exact ⟨_, e, rfl⟩
  · cases h
theorem Kp.cell {b g o : Nat} {W W' : World} (hK : Kp b W W') (hs : Sf b W g) {v : Value} (h : W.cell? ⟨g, o, none⟩ = some v) : W'.cell? ⟨g, o, none⟩ = some v := by
  obtain ⟨ob, h1, h2⟩ := cells_of_cell h
  exact (World.cell?_of_block (a := ⟨g, o, none⟩) (w := W) ((hK.same g ob h1 h2 hs.2).trans h1.symm)).trans h
theorem Kp.block' {b g : Nat} {W W' : World} (hK : Kp b W W') (hs : Sf b W g) {o : Obj} (h : W.heap[g]? = some o) (hc : o.isCells = true) : W'.heap[g]? = some o := hK.same g o h hc hs.2
end Go.Proofs.Yteddfdhbpgbloaa.Rg
