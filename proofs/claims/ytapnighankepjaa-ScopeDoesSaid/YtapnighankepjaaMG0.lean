/- Extend and Mark and Find, whatever they are handed (layer 5): the program's. -/
import Derived.Test.YtapnighankepjaaOrd2
import Derived.RangeFuncNested
import Derived.RangeFuncBound
import Derived.RangeFuncCalls
import Derived.RangeFuncLeaves
import Derived.RangeFuncBox
import Derived.Shelf.Abstract
import Derived.Shelf.RegionOpen
import Derived.WalkKit
import Derived.OwnWalkIn
import Derived.TacticsInMore
import Derived.LoopNIn
import Derived.LoopIn
import Derived.Maps.AppendAt
import Derived.Maps.OwnIn
import Derived.Lib.Hide
import Derived.OrdersHeld
import Derived.OrdersIn
import Derived.Laws.Rows
import Derived.Test.YtapnighankepjaaShelf
import Derived.ProofKit
import Derived.Deep.QuietTactic
import Derived.BigQuiet
import Derived.Test.YtapnighankepjaaScMath
import Derived.Maps.Own
import Derived.DeepKeys5
import Derived.Test.YtapnighankepjaaScIdent
import Derived.Maps.OwnOps
import Derived.Maps.Views
import Derived.Test.YtapnighankepjaaScIdent2
import Derived.Test.YtapnighankepjaaScUnmark1
import Derived.Test.YtapnighankepjaaScUnmark2
import Derived.Deep.LoopGhost
import Derived.Deep.Cut
import Derived.IntWalk
import Derived.Test.YtapnighankepjaaOrd
import Derived.Laws.ResultCell
import Derived.Test.YtapnighankepjaaScIdent4
section
namespace Go.Proofs.Ytapnighankepjaa.Od
open Go Go.RowKit
section
variable {P : Program} {ops : Array Oper} {Q : Exit → Act → World → Prop} {md : Region.Mode} {S T : World → Prop} {s : Nat}
theorem Till.either {i j : Nat} {o p : Oper} {n : Nat} {listed : Array Bool} {a : Act} {w : World} (hr : Region.ready md ops listed = [i, j]) (ho : ops[i]? = some o) (hp : ops[j]? = some p)
    (h1 : ∀ K' : Act → World → Prop, Hid (∀ a w, (((listed.setIfInBounds i true).getD s false = false → S w) ∧ T w) → Till P md ops Q S T s n (listed.setIfInBounds i true) a w → K' a w) →
      if Region.wanted o (yielded ops a.tmps) = true then Oper.wp P o a w K' Q else K' (a.put o.dst undef) w)
    (h2 : ∀ K' : Act → World → Prop, Hid (∀ a w, (((listed.setIfInBounds j true).getD s false = false → S w) ∧ T w) → Till P md ops Q S T s n (listed.setIfInBounds j true) a w → K' a w) →
      if Region.wanted p (yielded ops a.tmps) = true then Oper.wp P p a w K' Q else K' (a.put p.dst undef) w) : Till P md ops Q S T s (n + 1) listed a w := by
  refine ⟨fun h0 => (by rw [hr] at h0; cases h0), fun k hk => ?_⟩
  rw [hr] at hk
  simp only [List.mem_cons, List.not_mem_nil, or_false] at hk
  rcases hk with rfl | rfl
  · exact wpOp_step ho (fun K' hK => h1 K' (fun a w c1 c2 => hK a w ⟨c1, c2⟩))
  · exact wpOp_step hp (fun K' hK => h2 K' (fun a w c1 c2 => hK a w ⟨c1, c2⟩))
end
end Go.Proofs.Ytapnighankepjaa.Od
end
section
namespace Go.Proofs.Ytapnighankepjaa.Rg
open Go Go.RowKit Go.Shelf

/-- Block k is the box b, or the row of the slice in it. -/
def Own1 (b : Nat) (W : World) (k : Nat) : Prop := k = b ∨ ∃ a n c, W.cell? ⟨b, 0, none⟩ = some (.slice (some a) n c) ∧ a.block = k
/-- What a round keeps: every block of cells but the box and the row of the slice in it. -/
structure Kp (b : Nat) (W W' : World) : Prop where
  size : W.heap.size ≤ W'.heap.size
  same : ∀ k o, W.heap[k]? = some o → o.isCells = true → ¬ Own1 b W k → W'.heap[k]? = some o
  own : ∀ k, Own1 b W' k → Own1 b W k ∨ (W.heap.size ≤ k ∧ k < W'.heap.size)
theorem lt_of_some {W : World} {k : Nat} {o : Obj} (h : W.heap[k]? = some o) : k < W.heap.size := (Array.getElem?_eq_some_iff.1 h).1
theorem Kp.refl (b : Nat) (W : World) : Kp b W W := ⟨Nat.le_refl _, fun _ _ h _ _ => h, fun _ h => .inl h⟩
theorem Kp.trans {b : Nat} {A B C : World} (h : Kp b A B) (k : Kp b B C) : Kp b A C :=
  ⟨Nat.le_trans h.size k.size, fun i o hi hc hn => k.same i o (h.same i o hi hc hn) hc (fun ho => by
      rcases h.own i ho with h1 | ⟨h1, _⟩
      · exact hn h1
      · have := lt_of_some hi; omega),
   fun i ho => by
    rcases k.own i ho with h1 | ⟨h1, h2⟩
    · rcases h.own i h1 with h3 | ⟨h3, h4⟩
      · exact .inl h3
      · exact .inr ⟨h3, Nat.lt_of_lt_of_le h4 k.size⟩
    · exact .inr ⟨Nat.le_trans h.size h1, h2⟩⟩
theorem own1_same {b k : Nat} {W W' : World} (h : W'.heap[b]? = W.heap[b]?) (ho : Own1 b W' k) : Own1 b W k := by
  rcases ho with rfl | ⟨a, n, c, hc, hk⟩
  · exact .inl rfl
  · exact .inr ⟨a, n, c, (World.cell?_of_block (a := ⟨b, 0, none⟩) (w := W) h).symm.trans hc, hk⟩
/-- A turn of a block that is no cells, or none at all. -/
theorem Kp.grown {b : Nat} {W W' : World} {row : Option Nat} (hb : b < W.heap.size) (hg : W.grownBy W' row) (hr : ∀ r, row = some r → r ≠ b ∧ ∀ o, W.heap[r]? = some o → o.isCells = false) : Kp b W W' :=
  ⟨hg.size, fun k o hk hc _ => (hg.block k (lt_of_some hk) (fun e => by
      have := (hr k e.symm).2 o hk
      rw [hc] at this; cases this)).trans hk,
   fun k ho => .inl (own1_same (hg.block b hb (fun e => (hr b e.symm).1 rfl)) ho)⟩
theorem Kp.alloc {b : Nat} (W : World) (hb : b < W.heap.size) (o : Obj) : Kp b W (W.alloc o) := .grown hb (World.grownBy_alloc W o none) (fun r e => by cases e)
theorem Kp.put {b : Nat} {w : World} (hb : b < w.heap.size) : ∀ (W : World) (l : Nat) (o o' : Obj), w.heap.size ≤ l → W.heap[l]? = some o → o.isCells = false → o.isWalk = false → Kp b W (W.putObj l o') := fun W l o o' hl ho hc _ =>
  .grown (Nat.lt_trans (Nat.lt_of_lt_of_le hb hl) (lt_of_some ho)) (grownBy_putObj' W l o') (fun r e => by cases e; exact ⟨by omega, fun o2 h2 => by rw [ho] at h2; cases h2; exact hc⟩)
theorem grown_of_below {W W' : World} (h : Below W.heap.size W W') : W.grownBy W' none := ⟨h.os, h.tape, h.output, h.size, fun k hk _ => h.block k hk⟩
theorem Kp.below {b : Nat} {W W' : World} (hb : b < W.heap.size) (h : Below W.heap.size W W') : Kp b W W' := .grown hb (grown_of_below h) (fun r e => by cases e)
theorem own_block {v : Value} {g : Nat} (h : v.ownBlock = some g) : ∃ a n c, v = .slice (some a) n c ∧ a.block = g := by
  unfold Value.ownBlock at h
  split at h
  · next a n c => exact ⟨a, n, c, rfl, Option.some.inj h⟩
  · cases h
/-- 'l = append(l, ..)'. -/
theorem Kp.app {W w1 : World} {b : Nat} {t : TypeId} {v v' : Value} {tmp : Obj} (hv : Boxed W b t v) (hgrow : (W.alloc tmp).grownBy w1 v.ownBlock) (hat : v'.ownBlock = v.ownBlock ∨ v'.ownBlock = some (W.alloc tmp).heap.size) (hne : some b ≠ v.ownBlock) (hin : ∀ g, v'.ownBlock = some g → g < w1.heap.size) :
    Kp b W (w1.setCell ⟨b, 0, none⟩ v') := by
  have hsz : W.heap.size ≤ w1.heap.size := Nat.le_trans (by simp) hgrow.size
  have hv1 : Boxed w1 b t v := (hv.alloc tmp).kept hgrow hne
  refine ⟨by simpa [World.setCell] using hsz, fun k o hk hc hn => ?_, fun k ho => ?_⟩
  · have hkb : k ≠ b := fun e => hn (.inl e)
    have hkv : some k ≠ v.ownBlock := by
      intro e
      obtain ⟨a, n, c, rfl, h1⟩ := own_block e.symm
      exact hn (.inr ⟨a, n, c, hv.cell, h1⟩)
    have hlt := lt_of_some hk
    rw [Below.heap_setCell _ _ _ _ (by simpa using hkb)]
    exact (hgrow.block k (by simp; omega) hkv).trans ((Below.heap_alloc _ _ _ hlt).trans hk)
  · rcases ho with rfl | ⟨a, n, c, hc, hk⟩
    · exact .inl (.inl rfl)
    · rw [World.cell?_setCell_same' _ _ _ (by rw [hv1.cell]; rfl)] at hc
      obtain rfl := Option.some.inj hc
      rcases hat with h | h
      · obtain ⟨a', n', c', rfl, h1⟩ := own_block (g := a.block) h.symm
        exact .inl (.inr ⟨a', n', c', hv.cell, h1.trans hk⟩)
      · have : a.block = (W.alloc tmp).heap.size := Option.some.inj h
        refine .inr ⟨by rw [← hk, this]; simp, ?_⟩
        rw [← hk]
        simpa [World.setCell] using hin a.block rfl
/-- A block of cells beyond the box, while the box holds nothing. -/
theorem Kp.block {b g : Nat} {W W' : World} {o : Obj} (h : Kp b W W') (hnil : W.cell? ⟨b, 0, none⟩ = some (.slice none 0 0)) (hg : W.heap[g]? = some o) (hc : o.isCells = true) (hne : g ≠ b) : W'.heap[g]? = some o :=
  h.same g o hg hc (fun ho => by
    rcases ho with h1 | ⟨a, n, c, h1, _⟩
    · exact hne h1
    · rw [hnil] at h1; cases h1)
/-- A row that was made since, in a round's world. -/
theorem own_after {w w' : World} {B e sz b : Nat} {a : Option Addr} {n c : Nat} {xs : List Value} (h : w.ownsRow B e sz (.slice a n c) n xs) (hn : 0 < n) (hK : Kp b w w') (hnil : w.cell? ⟨b, 0, none⟩ = some (.slice none 0 0)) (hb : b < B) :
    ∃ g, a = some ⟨g, 0, none⟩ ∧ n ≤ c ∧ ∀ j u, xs[j]? = some u → w'.cell? ⟨g, j, none⟩ = some u := by
  rcases h.2 with ⟨h1, h0⟩ | ⟨g, cap, cur, h1, h2, h3, h4, _⟩
  · omega
  · injection h1 with e1 e2 e3
    subst e1
    subst e3
    refine ⟨g, rfl, h4, fun j u hu => ?_⟩
    have h5 := h.cells rfl j u hu
    rw [show (⟨g, 0, none⟩ : Addr).add j = ⟨g, j, none⟩ by unfold Addr.add; split <;> simp_all] at h5
    have h6 := hK.block hnil h3 rfl (by omega)
    exact (World.cell?_of_block (a := ⟨g, j, none⟩) (w := w) (h6.trans h3.symm)).trans h5
/-- The row of the slice in the box is there. -/
def Wf (b : Nat) (W : World) : Prop := ∀ k, Own1 b W k → k < W.heap.size
/-- A block that rounds leave alone. -/
def Sf (b : Nat) (W : World) (g : Nat) : Prop := g < W.heap.size ∧ ¬ Own1 b W g
theorem Wf.nil {b : Nat} {W : World} (hb : b < W.heap.size) (hnil : W.cell? ⟨b, 0, none⟩ = some (.slice none 0 0)) : Wf b W := by
  rintro k (rfl | ⟨a, n, c, h, _⟩)
  · exact hb
  · rw [hnil] at h; cases h
theorem Sf.nil {b g : Nat} {W : World} (hg : g < W.heap.size) (hne : g ≠ b) (hnil : W.cell? ⟨b, 0, none⟩ = some (.slice none 0 0)) : Sf b W g := by
  refine ⟨hg, ?_⟩
  rintro (rfl | ⟨a, n, c, h, _⟩)
  · exact hne rfl
  · rw [hnil] at h; cases h
theorem Wf.kp {b : Nat} {W W' : World} (h : Wf b W) (hK : Kp b W W') : Wf b W' := fun k ho => by
  rcases hK.own k ho with h1 | h1
  · exact Nat.lt_of_lt_of_le (h k h1) hK.size
  · exact h1.2
theorem Sf.kp {b g : Nat} {W W' : World} (h : Sf b W g) (hK : Kp b W W') : Sf b W' g := ⟨Nat.lt_of_lt_of_le h.1 hK.size, fun ho => by
  rcases hK.own g ho with h1 | h1
  · exact h.2 h1
  · have := h.1; omega⟩
theorem Sf.new {b g : Nat} {W W' : World} (h : Wf b W) (hb : b < W.heap.size) (hB : Below W.heap.size W W') (h1 : W.heap.size ≤ g) (h2 : g < W'.heap.size) : Sf b W' g := ⟨h2, fun ho => by
  have := h g (own1_same (hB.block b hb) ho); omega⟩
theorem cells_of_cell {W : World} {p : Addr} {v : Value} (h : W.cell? p = some v) : ∃ o, W.heap[p.block]? = some o ∧ o.isCells = true := by
  unfold World.cell? at h
  split at h
  · next c t z e => exact ⟨_, e, rfl⟩
  · cases h
theorem Kp.cell {b g o : Nat} {W W' : World} (hK : Kp b W W') (hs : Sf b W g) {v : Value} (h : W.cell? ⟨g, o, none⟩ = some v) : W'.cell? ⟨g, o, none⟩ = some v := by
  obtain ⟨ob, h1, h2⟩ := cells_of_cell h
  exact (World.cell?_of_block (a := ⟨g, o, none⟩) (w := W) ((hK.same g ob h1 h2 hs.2).trans h1.symm)).trans h
theorem Kp.block' {b g : Nat} {W W' : World} (hK : Kp b W W') (hs : Sf b W g) {o : Obj} (h : W.heap[g]? = some o) (hc : o.isCells = true) : W'.heap[g]? = some o := hK.same g o h hc hs.2
end Go.Proofs.Ytapnighankepjaa.Rg
end
section
namespace Go.Proofs.Ytapnighankepjaa.Rg
open Go Go.RowKit Go.Shelf

/-- Where no depth is asked for, any will do. -/
theorem anyDepth {k : Nat} (m : Nat) {P : Program} {l : Nat} {args : Array Value} {W : World} {R : Ending → World → Prop} (h : YieldAt Fence.wide k P l args W R) : YieldAt Fence.wide m P l args W R := by
  obtain ⟨fn, tmps, assign, body, hy, hR⟩ := h
  exact ⟨fn, tmps, assign, body, hy, hR.1, fun c cs _ => hR.2 c cs (fun d h => by cases h)⟩
/-- What an iterator promises: what has come, and what is so of it in the world that it leaves. -/
def Comes {α : Type} (n : Nat) (P : Program) (f : Nat) (caps : Array Value) (encs : α → Array Value) (K : World → World → Prop) (S Sp : List α → World → Prop) (w : World) : Prop :=
  ∀ (l : Nat) (J Jx : List α → World → Prop) (W : World), Below w.heap.size w W → AbidesFrom W.heap.size J → AbidesFrom W.heap.size Jx →
    (∀ pre x W1, J pre W1 → YieldAt Fence.wide (n - 1) P l (encs x) W1 fun e W' => (e = .returned (.bool true) ∧ J (pre ++ [x]) W' ∧ K W1 W') ∨ (e = .returned (.bool false) ∧ Jx (pre ++ [x]) W' ∧ K W1 W')) →
    J [] W → CallsIn Fence.wide n P f (#[.func (.yield l) #[] #[]] ++ caps) W fun e W' => (∃ v, e = .returned v) ∧ ((∃ xs, S xs W' ∧ J xs W') ∨ (∃ pre, Sp pre W' ∧ Jx pre W'))
/-- How a round may end. -/
def RoundEnd {α : Type} (B : Nat) (K : World → World → Prop) (I : List α → World → Prop) (Ix : Code → List α → World → Prop) (xs : List α) (W : World) : Exit → World → Prop
  | .normal, W' => KeepsFrom B W W' ∧ K W W' ∧ I xs W'
  | .exit id, W' => KeepsFrom B W W' ∧ K W W' ∧ Ix (.exit id) xs W'
  | _, _ => False
section
variable {α : Type} {P : Program} {g : Operand} {ps : Array Tmp} {assign body : Code} {Q : Exit → Act → World → Prop} {a : Act} {w : World} {n : Nat}
theorem range_comes (h1 : 1 ≤ n) {f : Nat} {caps : Array Value} (hg : a.eval g = .func (.func f) #[] caps) (eg : ∀ args w, (callFunc f args).run P w = .ok (.enter f args) w)
    {encs : α → Array Value} {K : World → World → Prop} {S Sp : List α → World → Prop} {w0 : World} (hseq : Comes (n - 1) P f caps encs K S Sp w0)
    (hKt : ∀ {A B C : World}, K A B → K B C → K A C) (hKb : ∀ (W : World) (l : Nat) (o o' : Obj), w.heap.size ≤ l → W.heap[l]? = some o → o.isCells = false → o.isWalk = false → K W (W.putObj l o')) (hb0 : Below w0.heap.size w0 w) (hps : ∀ x, (encs x).size = ps.size)
    (hS : OwnFrom w.heap.size S) (hSp : OwnFrom w.heap.size Sp)
    (I : List α → World → Prop) (Ix : Code → List α → World → Prop) (hI : OwnFrom w.heap.size I) (hIx : ∀ c, OwnFrom w.heap.size (Ix c)) (h0 : I [] w) (Ax : α → Act → World → Prop) (hAx : ∀ x a', OwnFrom w.heap.size (fun (_ : Unit) W => Ax x a' W))
    (hassign : ∀ (l : Nat) (pre : List α) (x : α) (W : World) (T : Act → World → Prop), I pre W → (∀ a' W', KeepsFrom w.heap.size W W' → K W W' → I pre W' → Ax x a' W' → T a' W') →
      assign.wpIn (Fence.wide.inRound l) (n - 1 - 1) P (Exit.then T (fun _ _ _ => False)) { tmps := (ps.zip (encs x)).foldl (fun t (p, v) => t.setIfInBounds p v) a.tmps, defers := [] } W)
    (hbody : ∀ (l : Nat) (pre : List α) (x : α) (a' : Act) (W : World), w.heap.size ≤ l → (∃ r, W.heap[l]? = some (.loop r)) → I pre W → Ax x a' W → body.wpIn (Fence.wide.inRound l) (n - 1 - 1) P (fun e _ W' => RoundEnd w.heap.size K I Ix (pre ++ [x]) W e W') a' W)
    (hdone : ∀ (D : Nat) (xs : List α) (W : World), w.heap.size ≤ D → S xs W → I xs W → W.heap[D]? = some (.deferred (some [])) → Q .normal { a with defers := { target := .collected D, args := #[] } :: a.defers } W)
    (hstop : ∀ (D : Nat) (c : Code) (pre : List α) (W : World), w.heap.size ≤ D → Sp pre W → Ix c pre W → W.heap[D]? = some (.deferred (some [])) → c.wpIn Fence.wide n P Q { a with defers := { target := .collected D, args := #[] } :: a.defers } W) :
    (Code.rangeFunc g ps assign body).wpIn Fence.wide n P Q a w := by
  obtain ⟨b, hb⟩ : ∃ b, w.heap.size = b := ⟨_, rfl⟩
  rw [hb] at hS hSp hI hIx hAx hKb hassign hbody hdone hstop
  refine wpIn_rangeFunc fun fn hfn => ?_
  -- the loop's record, in the state st, with a jump that is pending
  obtain ⟨rc, hrc⟩ : ∃ rc : LoopState → Option Code → Loop, rc = fun st j => { state := st, pending := j, fn, tmps := a.tmps, params := ps, assign, body, defers := b } := ⟨_, rfl⟩
  have kD : ∀ o, ((w.alloc (.deferred (some []))).alloc o).heap[b]? = some (.deferred (some [])) := fun o => by
    rw [← hb]; exact (Below.heap_alloc _ _ _ (by simp)).trans (World.alloc_heap_new w _)
  have kL : ∀ o, ((w.alloc (.deferred (some []))).alloc o).heap[b + 1]? = some o := fun o => by
    have := World.alloc_heap_new (w.alloc (.deferred (some []))) o
    rwa [World.size_alloc, hb] at this
  have hstart : Below w0.heap.size w0 ((w.alloc (.deferred (some []))).alloc (.loop (rc .ready none))) :=
    hb0.trans ((((Below.refl _ w).alloc (Nat.le_refl _) _).alloc (by simp) _).mono hb0.size)
  obtain ⟨W1, hW1⟩ : ∃ W1, (w.alloc (.deferred (some []))).alloc (.loop (rc .ready none)) = W1 := ⟨_, rfl⟩
  have kD' := kD (.loop (rc .ready none))
  have kL' := kL (.loop (rc .ready none))
  have h01 : I [] ((w.alloc (.deferred (some []))).alloc (.loop (rc .ready none))) := hI.alloc _ (hI.alloc _ h0)
  have hsz : b ≤ ((w.alloc (.deferred (some []))).alloc (.loop (rc .ready none))).heap.size := by simp; omega
  rw [hW1] at kD' kL' h01 hsz hstart
  refine ⟨b + 1, [{ target := .collected b, args := #[] }], W1, { target := .fn (.func f) caps, args := #[.func (.yield (b + 1)) #[] #[]] }, W1, f, #[.func (.yield (b + 1)) #[] #[]] ++ caps, W1,
    by rw [← hW1, hrc, ← hb]; exact run_enterLoop_outer _ _ _ _ _, by simp only [resolve, hg]; simp [go_sem], fun f' _ => trivial, by simp [invoke, go_sem, eg], fun _ => h1, ?_⟩
  have turn : ∀ {A : World} {row : Option Nat} {s : Nat}, b ≤ s → (∀ r, row = some r → s ≤ r ∧ ∃ o : Obj, A.heap[r]? = some o ∧ o.isWalk = true) → ∀ r, row = some r → b ≤ r ∧ ∃ o : Obj, A.heap[r]? = some o ∧ o.isCells = false :=
    fun hs hr r e => by obtain ⟨h1, o, h2, h3⟩ := hr r e; exact ⟨Nat.le_trans hs h1, o, h2, Obj.not_cells_of_walk h3⟩
  have start := hseq (b + 1)
    (fun pre W => I pre W ∧ W.heap[b]? = some (.deferred (some [])) ∧ W.heap[b + 1]? = some (.loop (rc .ready none)))
    (fun pre W => ∃ c, Ix c pre W ∧ W.heap[b]? = some (.deferred (some [])) ∧ W.heap[b + 1]? = some (.loop (rc .done (some c))))
    W1 hstart
    (fun s A B row ⟨h1, h2, h3⟩ hg hr => ⟨hI s A B row h1 hg (turn hsz hr), (grownBy_keeps hg (fun r e => (hr r e).2) h2 rfl).trans h2, (grownBy_keeps hg (fun r e => (hr r e).2) h3 rfl).trans h3⟩)
    (fun s A B row ⟨c, h1, h2, h3⟩ hg hr => ⟨c, hIx c s A B row h1 hg (turn hsz hr), (grownBy_keeps hg (fun r e => (hr r e).2) h2 rfl).trans h2, (grownBy_keeps hg (fun r e => (hr r e).2) h3 rfl).trans h3⟩)
    ?round ⟨h01, kD', kL'⟩
  · rw [hrc] at start
    refine start.mono ?_
    rintro e W2 ⟨⟨v, rfl⟩, ⟨xs, hs, hi, h2, h3⟩ | ⟨pre, hs, c, hi, h2, h3⟩⟩
    · refine ⟨none, _, run_endLoop h3 (by simp), hdone b xs _ (Nat.le_refl _) (hS.putObj _ hs (by omega) h3 rfl) (hI.putObj _ hi (by omega) h3 rfl) ((World.putObj_heap_other (by omega)).trans h2)⟩
    · refine ⟨some c, _, run_endLoop h3 (by simp), hstop b c pre _ (Nat.le_refl _) (hSp.putObj _ hs (by omega) h3 rfl) ((hIx c).putObj _ hi (by omega) h3 rfl) ((World.putObj_heap_other (by omega)).trans h2)⟩
  case round =>
    intro pre x W hJ
    obtain ⟨hi, h2, h3⟩ := hJ
    have hy := run_yield (P := P) (args := encs x) h3 (by rw [hrc]; exact hps x)
    rw [hrc] at hy
    refine ⟨fn, _, assign, body, hy, roundIn_of_wpIn hfn (hassign _ pre x W _ hi fun a' V hf hk hia hax => ?_)⟩
    have h2' := hf.same _ _ (Nat.le_refl _) h2 rfl
    have h3' := hf.same _ _ (by omega) h3 rfl
    have hlt := (Array.getElem?_eq_some_iff.1 h3').1
    refine ⟨_, run_beginRound h3' (by rw [hrc]), ?_⟩
    obtain ⟨V1, hV1⟩ : ∃ V1, V.putObj (b + 1) (.loop { rc .ready none with state := .busy }) = V1 := ⟨_, rfl⟩
    have g3 : V1.heap[b + 1]? = some (.loop { rc .ready none with state := .busy }) := by rw [← hV1]; exact World.putObj_heap_same hlt
    have g2 : V1.heap[b]? = some (.deferred (some [])) := by rw [← hV1]; exact (World.putObj_heap_other (by omega)).trans h2'
    have gk : K W V1 := by rw [← hV1]; exact hKt hk (hKb _ _ _ _ (by omega) h3' rfl rfl)
    have gi : I pre V1 := by rw [← hV1]; exact hI.putObj _ hia (by omega) h3' rfl
    have ga : Ax x a' V1 := by rw [← hV1]; exact (hAx x a').putObj (s := ()) _ hax (by omega) h3' rfl
    rw [hV1]
    refine wpIn_mono (hbody _ pre x a' V1 (by omega) ⟨_, g3⟩ gi ga) fun e a3 V2 he => ?_
    have fin : ∀ (j : Option Code), KeepsFrom b V1 V2 → ∃ V3, (Instr.endRound (b + 1) j).run P V2 = .ok (.bool j.isNone) V3 ∧ V3 = V2.putObj (b + 1) (.loop (rc (if j.isNone then .ready else .done) j)) ∧
        V2.heap[b + 1]? = some (.loop { rc .ready none with state := .busy }) ∧ V3.heap[b]? = some (.deferred (some [])) ∧ V3.heap[b + 1]? = some (.loop (rc (if j.isNone then .ready else .done) j)) := fun j hk2 => by
      have q3 := hk2.same _ _ (by omega) g3 rfl
      have q2 := hk2.same _ _ (Nat.le_refl _) g2 rfl
      have hr := run_endRound (P := P) j q3
      refine ⟨_, hr, by rw [hrc], q3, (World.putObj_heap_other (by omega)).trans q2, ?_⟩
      rw [World.putObj_heap_same (Array.getElem?_eq_some_iff.1 q3).1, hrc]
    cases e with
    | normal =>
      obtain ⟨hk2, hkk, hin⟩ := he
      obtain ⟨V3, r1, r2, r3, r4, r5⟩ := fin none hk2
      refine ⟨_, _, r1, .inl ⟨rfl, ⟨?_, r4, r5⟩, ?_⟩⟩
      · rw [r2]; exact hI.putObj _ hin (by omega) r3 rfl
      · rw [r2]; exact hKt gk (hKt hkk (hKb _ _ _ _ (by omega) r3 rfl rfl))
    | exit id =>
      obtain ⟨hk2, hkk, hin⟩ := he
      obtain ⟨V3, r1, r2, r3, r4, r5⟩ := fin (some (.exit id)) hk2
      refine ⟨_, _, r1, .inr ⟨rfl, ⟨.exit id, ?_, r4, r5⟩, ?_⟩⟩
      · rw [r2]; exact (hIx _).putObj _ hin (by omega) r3 rfl
      · rw [r2]; exact hKt gk (hKt hkk (hKb _ _ _ _ (by omega) r3 rfl rfl))
    | ret => exact he.elim
    | goto t => exact he.elim
    | panic ch => exact he.elim
    | outgrown => exact he.elim
end
end Go.Proofs.Ytapnighankepjaa.Rg
end
section
namespace Go.Proofs.Ytapnighankepjaa.Rg
open Go Go.RowKit Go.Shelf
set_option linter.unusedVariables false

theorem keeps_mono {B B' : Nat} {W W' : World} (h : KeepsFrom B W W') (hB : B ≤ B') : KeepsFrom B' W W' := ⟨h.size, fun k o hk => h.same k o (Nat.le_trans hB hk)⟩
theorem keeps_below {B : Nat} {W W' : World} (h : Below W.heap.size W W') : KeepsFrom B W W' := ⟨h.size, fun k o _ hk _ => (h.block k (lt_of_some hk)).trans hk⟩
theorem keeps_put {B l : Nat} (W : World) (o' : Obj) (hl : l < B) : KeepsFrom B W (W.putObj l o') := KeepsFrom.of_grownBy (grownBy_putObj' W l o') (fun j e => by cases e; exact hl)
/-- What an iterator promises: what has come, and what is so of it in the world that it leaves. -/
def ComesO {α : Type} (n : Nat) (P : Program) (f : Nat) (caps : Array Value) (encs : α → Array Value) (K : World → World → Prop) (S Sp : List α → World → Prop) (w : World) : Prop :=
  ∀ (l : Nat) (J Jx : List α → World → Prop) (W : World), Below w.heap.size w W → l < W.heap.size → OwnFrom W.heap.size J → OwnFrom W.heap.size Jx →
    (∀ pre x W1, J pre W1 → YieldAt Fence.wide (n - 1) P l (encs x) W1 fun e W' => (e = .returned (.bool true) ∧ J (pre ++ [x]) W' ∧ K W1 W' ∧ KeepsFrom (l + 1) W1 W') ∨ (e = .returned (.bool false) ∧ Jx (pre ++ [x]) W' ∧ K W1 W' ∧ KeepsFrom (l + 1) W1 W')) →
    J [] W → CallsIn Fence.wide n P f (#[.func (.yield l) #[] #[]] ++ caps) W fun e W' => (∃ v, e = .returned v) ∧ ((∃ xs, S xs W' ∧ J xs W') ∨ (∃ pre, Sp pre W' ∧ Jx pre W'))
/-- How a round may end. -/
def RoundEndO {α : Type} (B : Nat) (K : World → World → Prop) (I : List α → World → Prop) (Ix : Code → List α → World → Prop) (xs : List α) (W : World) : Exit → World → Prop
  | .normal, W' => KeepsFrom B W W' ∧ K W W' ∧ I xs W'
  | .exit id, W' => KeepsFrom B W W' ∧ K W W' ∧ Ix (.exit id) xs W'
  | .ret, W' => KeepsFrom B W W' ∧ K W W' ∧ Ix .ret xs W'
  | _, _ => False
section
variable {α : Type} {P : Program} {g : Operand} {ps : Array Tmp} {assign body : Code} {Q : Exit → Act → World → Prop} {a : Act} {w : World} {n : Nat}
theorem range_comesO (h1 : 1 ≤ n) {f : Nat} {caps : Array Value} (hg : a.eval g = .func (.func f) #[] caps) (eg : ∀ args w, (callFunc f args).run P w = .ok (.enter f args) w)
    {encs : α → Array Value} {K : World → World → Prop} {S Sp : List α → World → Prop} {w0 : World} (hseq : ComesO (n - 1) P f caps encs K S Sp w0)
    (hKt : ∀ {A B C : World}, K A B → K B C → K A C) (hKb : ∀ (W : World) (l : Nat) (o o' : Obj), w.heap.size ≤ l → W.heap[l]? = some o → o.isCells = false → o.isWalk = false → K W (W.putObj l o')) (hb0 : Below w0.heap.size w0 w) (hps : ∀ x, (encs x).size = ps.size)
    (hS : OwnFrom w.heap.size S) (hSp : OwnFrom w.heap.size Sp)
    (I : List α → World → Prop) (Ix : Code → List α → World → Prop) (hI : OwnFrom w.heap.size I) (hIx : ∀ c, OwnFrom w.heap.size (Ix c)) (h0 : I [] w) (Ax : α → Act → World → Prop) (hAx : ∀ x a', OwnFrom w.heap.size (fun (_ : Unit) W => Ax x a' W))
    (hassign : ∀ (l : Nat) (pre : List α) (x : α) (W : World) (T : Act → World → Prop), I pre W → (∀ a' W', KeepsFrom w.heap.size W W' → K W W' → I pre W' → Ax x a' W' → T a' W') →
      assign.wpIn (Fence.wide.inRound l) (n - 1 - 1) P (Exit.then T (fun _ _ _ => False)) { tmps := (ps.zip (encs x)).foldl (fun t (p, v) => t.setIfInBounds p v) a.tmps, defers := [] } W)
    (hbody : ∀ (l : Nat) (pre : List α) (x : α) (a' : Act) (W : World), w.heap.size ≤ l → (∃ r, W.heap[l]? = some (.loop r)) → I pre W → Ax x a' W → body.wpIn (Fence.wide.inRound l) (n - 1 - 1) P (fun e _ W' => RoundEndO w.heap.size K I Ix (pre ++ [x]) W e W') a' W)
    (hdone : ∀ (D : Nat) (xs : List α) (W : World), w.heap.size ≤ D → S xs W → I xs W → W.heap[D]? = some (.deferred (some [])) → Q .normal { a with defers := { target := .collected D, args := #[] } :: a.defers } W)
    (hstop : ∀ (D : Nat) (c : Code) (pre : List α) (W : World), w.heap.size ≤ D → Sp pre W → Ix c pre W → W.heap[D]? = some (.deferred (some [])) → c.wpIn Fence.wide n P Q { a with defers := { target := .collected D, args := #[] } :: a.defers } W) :
    (Code.rangeFunc g ps assign body).wpIn Fence.wide n P Q a w := by
  obtain ⟨b, hb⟩ : ∃ b, w.heap.size = b := ⟨_, rfl⟩
  rw [hb] at hS hSp hI hIx hAx hKb hassign hbody hdone hstop
  refine wpIn_rangeFunc fun fn hfn => ?_
  -- the loop's record, in the state st, with a jump that is pending
  obtain ⟨rc, hrc⟩ : ∃ rc : LoopState → Option Code → Loop, rc = fun st j => { state := st, pending := j, fn, tmps := a.tmps, params := ps, assign, body, defers := b } := ⟨_, rfl⟩
  have kD : ∀ o, ((w.alloc (.deferred (some []))).alloc o).heap[b]? = some (.deferred (some [])) := fun o => by
    rw [← hb]; exact (Below.heap_alloc _ _ _ (by simp)).trans (World.alloc_heap_new w _)
  have kL : ∀ o, ((w.alloc (.deferred (some []))).alloc o).heap[b + 1]? = some o := fun o => by
    have := World.alloc_heap_new (w.alloc (.deferred (some []))) o
    rwa [World.size_alloc, hb] at this
  have hstart : Below w0.heap.size w0 ((w.alloc (.deferred (some []))).alloc (.loop (rc .ready none))) :=
    hb0.trans ((((Below.refl _ w).alloc (Nat.le_refl _) _).alloc (by simp) _).mono hb0.size)
  obtain ⟨W1, hW1⟩ : ∃ W1, (w.alloc (.deferred (some []))).alloc (.loop (rc .ready none)) = W1 := ⟨_, rfl⟩
  have kD' := kD (.loop (rc .ready none))
  have kL' := kL (.loop (rc .ready none))
  have h01 : I [] ((w.alloc (.deferred (some []))).alloc (.loop (rc .ready none))) := hI.alloc _ (hI.alloc _ h0)
  have hsz : b ≤ ((w.alloc (.deferred (some []))).alloc (.loop (rc .ready none))).heap.size := by simp; omega
  have hsz2 : b + 2 ≤ ((w.alloc (.deferred (some []))).alloc (.loop (rc .ready none))).heap.size := by simp; omega
  rw [hW1] at kD' kL' h01 hsz hsz2 hstart
  refine ⟨b + 1, [{ target := .collected b, args := #[] }], W1, { target := .fn (.func f) caps, args := #[.func (.yield (b + 1)) #[] #[]] }, W1, f, #[.func (.yield (b + 1)) #[] #[]] ++ caps, W1,
    by rw [← hW1, hrc, ← hb]; exact run_enterLoop_outer _ _ _ _ _, by simp only [resolve, hg]; simp [go_sem], fun f' _ => trivial, by simp [invoke, go_sem, eg], fun _ => h1, ?_⟩
  have start := hseq (b + 1)
    (fun pre W => I pre W ∧ W.heap[b]? = some (.deferred (some [])) ∧ W.heap[b + 1]? = some (.loop (rc .ready none)))
    (fun pre W => ∃ c, Ix c pre W ∧ W.heap[b]? = some (.deferred (some [])) ∧ W.heap[b + 1]? = some (.loop (rc .done (some c))))
    W1 hstart (Array.getElem?_eq_some_iff.1 kL').1
    (fun s A B row ⟨h1, h2, h3⟩ hg hr => ⟨hI s A B row h1 hg (fun r e => ⟨Nat.le_trans hsz (hr r e).1, (hr r e).2⟩), (hg.block b (lt_of_some h2) (fun e => by have := (hr b e.symm).1; omega)).trans h2, (hg.block (b + 1) (lt_of_some h3) (fun e => by have := (hr (b + 1) e.symm).1; omega)).trans h3⟩)
    (fun s A B row ⟨c, h1, h2, h3⟩ hg hr => ⟨c, hIx c s A B row h1 hg (fun r e => ⟨Nat.le_trans hsz (hr r e).1, (hr r e).2⟩), (hg.block b (lt_of_some h2) (fun e => by have := (hr b e.symm).1; omega)).trans h2, (hg.block (b + 1) (lt_of_some h3) (fun e => by have := (hr (b + 1) e.symm).1; omega)).trans h3⟩)
    ?round ⟨h01, kD', kL'⟩
  · rw [hrc] at start
    refine start.mono ?_
    rintro e W2 ⟨⟨v, rfl⟩, ⟨xs, hs, hi, h2, h3⟩ | ⟨pre, hs, c, hi, h2, h3⟩⟩
    · refine ⟨none, _, run_endLoop h3 (by simp), hdone b xs _ (Nat.le_refl _) (hS.putObj _ hs (by omega) h3 rfl) (hI.putObj _ hi (by omega) h3 rfl) ((World.putObj_heap_other (by omega)).trans h2)⟩
    · refine ⟨some c, _, run_endLoop h3 (by simp), hstop b c pre _ (Nat.le_refl _) (hSp.putObj _ hs (by omega) h3 rfl) ((hIx c).putObj _ hi (by omega) h3 rfl) ((World.putObj_heap_other (by omega)).trans h2)⟩
  case round =>
    intro pre x W hJ
    obtain ⟨hi, h2, h3⟩ := hJ
    have hy := run_yield (P := P) (args := encs x) h3 (by rw [hrc]; exact hps x)
    rw [hrc] at hy
    refine ⟨fn, _, assign, body, hy, roundIn_of_wpIn hfn (hassign _ pre x W _ hi fun a' V hf hk hia hax => ?_)⟩
    have h2' := hf.same _ _ (Nat.le_refl _) h2 rfl
    have h3' := hf.same _ _ (by omega) h3 rfl
    have hlt := (Array.getElem?_eq_some_iff.1 h3').1
    refine ⟨_, run_beginRound h3' (by rw [hrc]), ?_⟩
    obtain ⟨V1, hV1⟩ : ∃ V1, V.putObj (b + 1) (.loop { rc .ready none with state := .busy }) = V1 := ⟨_, rfl⟩
    have g3 : V1.heap[b + 1]? = some (.loop { rc .ready none with state := .busy }) := by rw [← hV1]; exact World.putObj_heap_same hlt
    have g2 : V1.heap[b]? = some (.deferred (some [])) := by rw [← hV1]; exact (World.putObj_heap_other (by omega)).trans h2'
    have gk : K W V1 := by rw [← hV1]; exact hKt hk (hKb _ _ _ _ (by omega) h3' rfl rfl)
    have gq : KeepsFrom (b + 1 + 1) W V1 := by rw [← hV1]; exact (keeps_mono hf (by omega)).trans (keeps_put _ _ (by omega))
    have gi : I pre V1 := by rw [← hV1]; exact hI.putObj _ hia (by omega) h3' rfl
    have ga : Ax x a' V1 := by rw [← hV1]; exact (hAx x a').putObj (s := ()) _ hax (by omega) h3' rfl
    rw [hV1]
    refine wpIn_mono (hbody _ pre x a' V1 (by omega) ⟨_, g3⟩ gi ga) fun e a3 V2 he => ?_
    have fin : ∀ (j : Option Code), KeepsFrom b V1 V2 → ∃ V3, (Instr.endRound (b + 1) j).run P V2 = .ok (.bool j.isNone) V3 ∧ V3 = V2.putObj (b + 1) (.loop (rc (if j.isNone then .ready else .done) j)) ∧
        V2.heap[b + 1]? = some (.loop { rc .ready none with state := .busy }) ∧ V3.heap[b]? = some (.deferred (some [])) ∧ V3.heap[b + 1]? = some (.loop (rc (if j.isNone then .ready else .done) j)) := fun j hk2 => by
      have q3 := hk2.same _ _ (by omega) g3 rfl
      have q2 := hk2.same _ _ (Nat.le_refl _) g2 rfl
      have hr := run_endRound (P := P) j q3
      refine ⟨_, hr, by rw [hrc], q3, (World.putObj_heap_other (by omega)).trans q2, ?_⟩
      rw [World.putObj_heap_same (Array.getElem?_eq_some_iff.1 q3).1, hrc]
    cases e with
    | normal =>
      obtain ⟨hk2, hkk, hin⟩ := he
      obtain ⟨V3, r1, r2, r3, r4, r5⟩ := fin none hk2
      refine ⟨_, _, r1, .inl ⟨rfl, ⟨?_, r4, r5⟩, ?_, ?_⟩⟩
      · rw [r2]; exact hI.putObj _ hin (by omega) r3 rfl
      · rw [r2]; exact hKt gk (hKt hkk (hKb _ _ _ _ (by omega) r3 rfl rfl))
      · rw [r2]; exact gq.trans ((keeps_mono hk2 (by omega)).trans (keeps_put _ _ (by omega)))
    | exit id =>
      obtain ⟨hk2, hkk, hin⟩ := he
      obtain ⟨V3, r1, r2, r3, r4, r5⟩ := fin (some (.exit id)) hk2
      refine ⟨_, _, r1, .inr ⟨rfl, ⟨.exit id, ?_, r4, r5⟩, ?_, ?_⟩⟩
      · rw [r2]; exact (hIx _).putObj _ hin (by omega) r3 rfl
      · rw [r2]; exact hKt gk (hKt hkk (hKb _ _ _ _ (by omega) r3 rfl rfl))
      · rw [r2]; exact gq.trans ((keeps_mono hk2 (by omega)).trans (keeps_put _ _ (by omega)))
    | ret =>
      obtain ⟨hk2, hkk, hin⟩ := he
      obtain ⟨V3, r1, r2, r3, r4, r5⟩ := fin (some .ret) hk2
      refine ⟨_, _, r1, .inr ⟨rfl, ⟨.ret, ?_, r4, r5⟩, ?_, ?_⟩⟩
      · rw [r2]; exact (hIx _).putObj _ hin (by omega) r3 rfl
      · rw [r2]; exact hKt gk (hKt hkk (hKb _ _ _ _ (by omega) r3 rfl rfl))
      · rw [r2]; exact gq.trans ((keeps_mono hk2 (by omega)).trans (keeps_put _ _ (by omega)))
    | goto t => exact he.elim
    | panic ch => exact he.elim
    | outgrown => exact he.elim
end
end Go.Proofs.Ytapnighankepjaa.Rg
end
section
namespace Go.Proofs.Ytapnighankepjaa.Oi
open Go Go.RowKit

section
variable {F : Fence} {m : Nat} {P : Program} {ops : Array Oper} {Q : Exit → Act → World → Prop} {md : Region.Mode} {T : World → Prop}

/-- Nothing of the region is a defer or a select. -/
def plain (ops : Array Oper) : Bool := ops.all fun o => match o.op with
  | .defer _ => false
  | .select _ _ => false
  | _ => true
theorem plain_spec (h : plain ops = true) {j : Nat} {o : Oper} (hj : ops[j]? = some o) : (∀ c, o.op ≠ .defer c) ∧ (∀ cs b, o.op ≠ .select cs b) := by
  have hm : o ∈ ops := Array.mem_of_getElem? hj
  have h1 := Array.all_eq_true'.1 h o hm
  constructor
  · intro c e; rw [e] at h1; cases h1
  · intro cs b e; rw [e] at h1; cases h1
theorem sem_plain (h : plain ops = true) {j : Nat} {o : Oper} (hj : ops[j]? = some o) (ro : Option Nat) (ρ : Operand → Value) : o.semAt ro ρ = execOp ρ o := Oper.semAt_eq ro ρ o (plain_spec h hj).1

/-- Wherever T holds the operation yields v and leaves the world alone; it calls nothing. -/
def Yv (P : Program) (ops : Array Oper) (T : World → Prop) (o : Oper) (v : Value) (a : Act) : Prop := YieldsIf P ops T o v a ∧ ∀ w, o.about P w a.eval = none
theorem Yv.of_same {o : Oper} {v : Value} {a a' : Act} (hy : Yv P ops T o v a) (he : execOp a'.eval o = execOp a.eval o)
    (hw : Region.wanted o (yielded ops a'.tmps) = Region.wanted o (yielded ops a.tmps)) (hb : ∀ w, o.about P w a'.eval = o.about P w a.eval) : Yv P ops T o v a' :=
  ⟨hy.1.of_same he hw, fun w => by rw [hb w]; exact hy.2 w⟩
theorem Yv.step {i : Nat} {o : Oper} {v : Value} {a : Act} (hp : plain ops = true) (hi : ops[i]? = some o) (hy : Yv P ops T o v a) {K : Act → World → Prop} {w : World} (hT : T w) (h : K (a.put o.dst v) w) : wpOpIn F m P ops Q i K a w := by
  unfold wpOpIn
  simp only [hi]
  have hab : ∀ f, o.about P w a.eval = some f → F.fn f := fun f hf => by rw [hy.2 w] at hf; cases hf
  rcases hy.1 with ⟨hw, hv⟩ | ⟨hw, rfl⟩
  · simp only [hw, if_true, Oper.wpIn, sem_plain hp hi, hv w hT, Oper.uponIn]; exact ⟨hab, h⟩
  · simp only [hw, Bool.false_eq_true, if_false]; exact ⟨hab, h⟩
theorem step_put {i j : Nat} {oi oj : Oper} {v : Value} (hp : plain ops = true) (hi : ops[i]? = some oi) (hj : ops[j]? = some oj) (hap : oi.apart ops oj = true)
    (hQ : ∀ c a w, Q (.panic c) (a.put oi.dst v) w → Q (.panic c) a w) {K : Act → World → Prop} {a : Act} {w : World} (hy : Yv P ops T oi v a) (h : wpOpIn F m P ops Q j K (a.put oi.dst v) w) :
    wpOpIn F m P ops Q j (fun a' w' => Yv P ops T oi v a' ∧ K (a'.put oi.dst v) w') a w := by
  obtain ⟨h1, h2, h3⟩ := Oper.apart_spec hap
  have keep : ∀ (a : Act), Yv P ops T oi v a → ∀ u, Yv P ops T oi v (a.put oj.dst u) := fun a hy u =>
    hy.of_same (execOp_put oi (plain_spec hp hi).2 a oj.dst u h3) (wanted_put oi a oj.dst u h3) (fun w => about_put oi w a oj.dst u h3)
  unfold wpOpIn at h ⊢
  simp only [hj] at h ⊢
  rw [wanted_put oj a oi.dst v h1, about_put oj w a oi.dst v h1] at h
  by_cases hw : Region.wanted oj (yielded ops a.tmps) = true
  · rw [if_pos hw] at h ⊢
    unfold Oper.wpIn at *
    rw [about_put oj w a oi.dst v h1, sem_plain hp hj, execOp_put oj (plain_spec hp hj).2 a oi.dst v h1] at h
    rw [sem_plain hp hj]
    refine ⟨h.1, ?_⟩
    replace h := h.2
    generalize (execOp a.eval oj).run P w = r at *
    cases r with
    | ok x w' =>
      cases x <;> simp only [Oper.uponIn] at h ⊢
      case value u => exact ⟨keep a hy u, by rw [← Act.put_comm a v u h2]; exact h⟩
      case skip => exact ⟨keep a hy _, by rw [← Act.put_comm a v undef h2]; exact h⟩
      case defer d =>
        refine ⟨keep { a with defers := d :: a.defers } (hy.of_same rfl rfl (fun _ => rfl)) _, ?_⟩
        rw [← Act.put_comm _ v undef h2, ← Act.put_defers]
        exact h
      case enter f args =>
        refine ⟨h.1, CallsIn.mono h.2 fun e w'' he => ?_⟩
        cases e with
        | returned u => exact ⟨keep a hy u, by rw [← Act.put_comm a v u h2]; exact he⟩
        | panicked c => exact hQ _ _ _ he
        | outgrown => exact he
      case row row args => exact ⟨h.1, RowsIn.mono h.2 fun u w'' he => ⟨keep a hy u, by rw [← Act.put_comm a v u h2]; exact he⟩⟩
      case round l f tmps assign body =>
        refine ⟨h.1, RoundIn.mono h.2 fun e w'' he => ?_⟩
        cases e with
        | returned u => exact ⟨keep a hy u, by rw [← Act.put_comm a v u h2]; exact he⟩
        | panicked c => exact hQ _ _ _ he
        | outgrown => exact he
    | halt x w' =>
      cases x <;> simp only [Oper.uponIn] at h ⊢
      case panic u => exact hQ _ _ _ h
  · rw [if_neg hw] at h ⊢
    exact ⟨h.1, keep a hy _, by rw [← Act.put_comm a v undef h2]; exact h.2⟩

/-- In whatever order the rest is done: the condition holds behind each step. -/
def Till (F : Fence) (m : Nat) (P : Program) (md : Region.Mode) (ops : Array Oper) (Q : Exit → Act → World → Prop) (T : World → Prop) : Nat → Array Bool → Act → World → Prop
  | 0, listed, a, w => Region.ready md ops listed = [] ∧ Q .normal a w
  | n + 1, listed, a, w => (Region.ready md ops listed = [] → Q .normal a w) ∧
      ∀ i ∈ Region.ready md ops listed, wpOpIn F m P ops Q i (fun a' w' => T w' ∧ Till F m P md ops Q T n (listed.setIfInBounds i true) a' w') a w
theorem Till.any : ∀ (n : Nat) (listed : Array Bool) (a : Act) (w : World), Till F m P md ops Q T n listed a w → wpAnyIn F m P md ops Q n listed a w
  | 0, _, _, _, h => h
  | n + 1, _, _, _, h => ⟨h.1, fun i hi => wpOpIn_mono (fun a' w' k => Till.any n _ a' w' k.2) (h.2 i hi)⟩
theorem Till.first {i : Nat} {oi : Oper} {v : Value} (hp : plain ops = true) (hi : ops[i]? = some oi) (hQ : ∀ c a w, Q (.panic c) (a.put oi.dst v) w → Q (.panic c) a w) :
    ∀ (n : Nat) (listed : Array Bool) (a : Act) (w : World),
      (∀ j oj, ops[j]? = some oj → j ≠ i → listed.getD j true = false → (∀ e ∈ oj.after, Region.binds md e = true → e.on ≠ i) → oi.apart ops oj = true) →
      i ∈ Region.ready md ops listed → Yv P ops T oi v a → T w →
      Till F m P md ops Q T n (listed.setIfInBounds i true) (a.put oi.dst v) w → Till F m P md ops Q T (n + 1) listed a w := by
  intro n
  induction n with
  | zero =>
    intro listed a w _ hr hy hT H
    refine ⟨fun h => (by rw [h] at hr; cases hr), fun j hj => ?_⟩
    by_cases hji : j = i
    · subst hji
      exact hy.step hp hi hT ⟨hT, H⟩
    · have hm := ready_mono hj hji
      rw [H.1] at hm
      cases hm
  | succ n ih =>
    intro listed a w hfree hr hy hT H
    refine ⟨fun h => (by rw [h] at hr; cases hr), fun j hj => ?_⟩
    by_cases hji : j = i
    · subst hji
      exact hy.step hp hi hT ⟨hT, H⟩
    · have hun : listed.getD i true = false := (mem_ready.1 hr).1
      obtain ⟨hjun, oj, hoj, hall⟩ := mem_ready.1 hj
      have hnot : ∀ e ∈ oj.after, Region.binds md e = true → e.on ≠ i := fun e he hb heq => by
        have h1 := hall e he hb
        rw [heq] at h1
        rcases Nat.lt_or_ge i listed.size with h' | h'
        · simp [h'] at hun h1
          rw [hun] at h1
          cases h1
        · simp [Array.getElem?_eq_none h'] at hun
      have step := step_put hp hi hoj (hfree j oj hoj hji hjun hnot) hQ hy (H.2 j (ready_mono hj hji))
      have hfree' : ∀ k ok, ops[k]? = some ok → k ≠ i → (listed.setIfInBounds j true).getD k true = false → (∀ e ∈ ok.after, Region.binds md e = true → e.on ≠ i) → oi.apart ops ok = true := fun k ok hk hki hku hno => by
        refine hfree k ok hk hki ?_ hno
        by_cases hjk : j = k
        · subst hjk
          exact hjun
        · rw [getD_set_ne true hjk] at hku
          exact hku
      refine wpOpIn_mono (fun a' w' k => ?_) step
      refine ⟨k.2.1, ih (listed.setIfInBounds j true) a' w' hfree' (ready_mono hr (Ne.symm hji)) k.1 k.2.1 ?_⟩
      rw [Array.setIfInBounds_comm _ _ hji]
      exact k.2.2
/-- No panic is let by. -/
def Np (Q : Exit → Act → World → Prop) : Exit → Act → World → Prop := fun e a w => (∀ c, e ≠ .panic c) ∧ Q e a w
theorem Till.take {i : Nat} {oi : Oper} {v : Value} {n : Nat} {listed : Array Bool} {a : Act} {w : World} (d : Tmp) (hi : ops[i]? = some oi) (hd : oi.dst = some d) (hp : plain ops = true) (hf : Region.free md ops listed i = true)
    (hr : (Region.ready md ops listed).contains i = true) (hy : YieldsIf P ops T oi v a) (hab : ∀ w, oi.about P w a.eval = none) (hT : T w)
    (h : Till F m P md ops (Np Q) T n (listed.setIfInBounds i true) (a.put (some d) v) w) : Till F m P md ops (Np Q) T (n + 1) listed a w := by
  rw [← hd] at h
  exact Till.first hp hi (fun _ _ _ h => absurd rfl (h.1 _)) n listed a w (Region.free_spec hi hf) (by simpa using hr) ⟨hy, hab⟩ hT h
theorem Till.one {i : Nat} {o : Oper} {n : Nat} {listed : Array Bool} {a : Act} {w : World} (hr : Region.ready md ops listed = [i]) (ho : ops[i]? = some o)
    (h : ∀ K' : Act → World → Prop, Hid (∀ a w, T w → Till F m P md ops Q T n (listed.setIfInBounds i true) a w → K' a w) →
      if Region.wanted o (yielded ops a.tmps) = true then o.wpIn F m P a w K' Q else (∀ f, o.about P w a.eval = some f → F.fn f) ∧ K' (a.put o.dst undef) w) : Till F m P md ops Q T (n + 1) listed a w := by
  refine ⟨fun h0 => (by rw [hr] at h0; cases h0), fun j hj => ?_⟩
  rw [hr] at hj
  obtain rfl : j = i := by simpa using hj
  unfold wpOpIn
  simp only [ho]
  exact h _ (fun a w h1 h2 => ⟨h1, h2⟩)
theorem Till.done {n : Nat} {listed : Array Bool} {a : Act} {w : World} (hr : Region.ready md ops listed = []) (h : Q .normal a w) : Till F m P md ops (Np Q) T n listed a w := by
  have h' : Np Q .normal a w := ⟨(fun c e => by cases e), h⟩
  cases n with
  | zero => exact ⟨hr, h'⟩
  | succ n => exact ⟨fun _ => h', by rw [hr]; simp⟩
theorem till_region {id : Nat} {a : Act} {w : World} (T : World → Prop) (N : Nat) (hm : P.follows .mixedOrders = true) (hN : ops.size = N) (h : Till F m P .any ops (Np Q) T N (Array.replicate N false) a w.drew) : (Code.region id ops true).wpIn F m P Q a w :=
  by subst hN; exact wpIn_mono (wpIn_region_any hm (Till.any _ _ _ _ h)) (fun _ _ _ h => h.2)
end
end Go.Proofs.Ytapnighankepjaa.Oi
end
section
namespace Go.Proofs.Ytapnighankepjaa.Ld
open Go Go.RowKit

section
variable {P : Program}

theorem add_at (g off j : Nat) : (⟨g, off, none⟩ : Addr).add j = ⟨g, off + j, none⟩ := by unfold Addr.add; split <;> simp_all
/-- The cells from a place on. -/
def At (w : World) (g off : Nat) (cs : List Value) : Prop := ∀ j v, cs[j]? = some v → w.cell? ⟨g, off + j, none⟩ = some v
theorem At.of_blk {w : World} {g : Nat} {t : TypeId} {cs : Array Value} {fr : Nat × Nat} (h : w.heap[g]? = some (.cells cs t fr)) : At w g 0 cs.toList := fun j v hv => by
  rw [Nat.zero_add, cell_of_row w g j cs t fr h]
  simpa using hv
theorem At.same {w w' : World} {g off : Nat} {cs : List Value} (h : At w g off cs) (hk : ∀ o u, w.cell? ⟨g, o, none⟩ = some u → w'.cell? ⟨g, o, none⟩ = some u) : At w' g off cs := fun j v hv => hk _ _ (h j v hv)
theorem run_at {w : World} {g off : Nat} {ty : TypeId} {cs : List Value} (d : TypeDesc) (h : At w g off cs) (hu : P.underlying ty = some d) (hd : (match d with | .struct _ | .array _ _ => true | _ => false) = true) (hi : (P.info? ty).map (·.size) = some cs.length) :
    (loadVar ty ⟨g, off, none⟩).run P w = .ok (.agg cs.toArray) w := by
  have hl : (loadCells ⟨g, off, none⟩ cs.length).run P w = .ok cs.toArray w :=
    run_loadCells_list (P := P) w ⟨g, off, none⟩ cs (fun j v hv => by rw [add_at]; exact h j v hv)
  cases hq : P.info? ty with
  | none => simp [hq] at hi
  | some i =>
    have hs : i.size = cs.length := by simpa [hq] using hi
    have hagg : (isAgg ty).run P w = .ok true w := by
      unfold isAgg
      rw [Sem.run_bind, run_underlying hu w]
      cases d <;> simp_all
    simp [loadVar, Sem.run_bind, hagg, sizeOf, typeInfo, hq, hs, hl]
theorem exec_at {w : World} {ρ : Operand → Value} {o : Oper} (ty : TypeId) (x : Operand) (ho : o.op = .load ty x) (g off : Nat) (hx : ρ x = .pointer (some ⟨g, off, none⟩)) (cs : List Value) (d : TypeDesc) (h : At w g off cs)
    (hu : P.underlying ty = some d) (hd : (match d with | .struct _ | .array _ _ => true | _ => false) = true) (hi : (P.info? ty).map (·.size) = some cs.length) :
    (execOp ρ o).run P w = .ok (.value (.agg cs.toArray)) w := by
  unfold execOp
  simp only [ho, hx, Instr.loadAt, Instr.sureAddr, Sem.run_bind, Sem.run_pure, Result.andThen_ok, run_at d h hu hd hi]
theorem exec_build {w : World} {ρ : Operand → Value} {o : Oper} (t : TypeId) (parts : Array (Nat × Operand)) (ho : o.op = .build t parts) (cs : Array Value) (hf : P.built t (parts.map fun (i, x) => (i, ρ x)).toList = some cs) :
    (execOp ρ o).run P w = .ok (.value (.agg cs)) w := by
  unfold execOp
  simp only [ho, Sem.run_bind, run_build w t _ cs hf, Result.andThen_ok]
  rfl
theorem wpList_at {ops : Array Oper} {rest : List Oper} {o : Oper} {a : Act} {w : World} {Q : Exit → Act → World → Prop} (hgd : o.guard = none) (ty : TypeId) (x : Operand) (ho : o.op = .load ty x)
    (g off : Nat) (hx : a.eval x = .pointer (some ⟨g, off, none⟩)) (cs : List Value) (d : TypeDesc) (hat : At w g off cs) (hu : P.underlying ty = some d) (hd : (match d with | .struct _ | .array _ _ => true | _ => false) = true) (hi : (P.info? ty).map (·.size) = some cs.length)
    (h : wpList P ops Q rest (a.put o.dst (.agg cs.toArray)) w) : wpList P ops Q (o :: rest) a w :=
  wpList_plain hgd fun _ hK => by
    unfold Oper.wp
    rw [exec_at ty x ho g off hx cs d hat hu hd hi]
    exact hK _ _ h
theorem wpListIn_at {F : Fence} {n : Nat} {ops : Array Oper} {rest : List Oper} {o : Oper} {a : Act} {w : World} {Q : Exit → Act → World → Prop} (hgd : o.guard = none) (ty : TypeId) (x : Operand) (ho : o.op = .load ty x)
    (g off : Nat) (hx : a.eval x = .pointer (some ⟨g, off, none⟩)) (cs : List Value) (d : TypeDesc) (hat : At w g off cs) (hu : P.underlying ty = some d) (hd : (match d with | .struct _ | .array _ _ => true | _ => false) = true) (hi : (P.info? ty).map (·.size) = some cs.length)
    (h : wpListIn F n P ops Q rest (a.put o.dst (.agg cs.toArray)) w) : wpListIn F n P ops Q (o :: rest) a w := by
  refine wpListIn_plain hgd fun K hK => ?_
  unfold Oper.wpIn
  refine ⟨by simp [Oper.about, ho], ?_⟩
  rw [Oper.semAt_plain F _ _ (by rw [ho]; intro c hc'; cases hc'), exec_at ty x ho g off hx cs d hat hu hd hi]
  exact hK _ _ h
end
end Go.Proofs.Ytapnighankepjaa.Ld
end
section
namespace Go.Proofs.Ytapnighankepjaa.Sc
open Go.ChangeShapes Go.WideShapes Go.ChangeAt Go.RowKit
set_option linter.unusedVariables false
set_option linter.unusedSimpArgs false

theorem bel_drewN (w : World) : ∀ n, Below w.heap.size w (w.drewN n)
  | 0 => Below.refl _ _
  | n + 1 => by
    have h := bel_drewN w n
    exact ⟨h.os, h.tape, h.output, h.size, h.block⟩
theorem made_nil (w : World) : Calls Try.prog 27 #[.pointer none] w fun e w' => e = .returned (.bool false) ∧ w = w' := by
  go_enter Try.func27, Try.ntmps27
  go_wp2_with fail
  go_ret
  exact ⟨rfl, rfl⟩
theorem made_any (tb : Nat) (a : Option Addr) (n c : Nat) (w : World) (h0 : w.cell? ⟨tb, 0, none⟩ = some (.slice a n c)) :
    Calls Try.prog 27 #[.pointer (some ⟨tb, 0, none⟩)] w fun e w' => e = .returned (.bool (decide (0 < n))) ∧ w = w' := by
  go_enter Try.func27, Try.ntmps27
  go_wp2_with fail
  go_ret
  exact ⟨rfl, rfl⟩
theorem check_nil (s : Int) (w : World) : Calls Try.prog 31 #[.pointer none, .int .i64 s] w fun e w' => e = .returned (.int .i64 2) ∧ w = w' := by
  go_enter Try.func31, Try.ntmps31
  go_wp2_with fail
  refine (made_nil _).mono ?_
  rintro e w' ⟨rfl, rfl⟩
  go_wp2_with fail
  go_ret
  exact ⟨rfl, rfl⟩
/-- What is wrong with a scope's number where there are n scopes. -/
def chkE (n : Nat) (s : Int) : Int := if n = 0 then 2 else if s < 0 ∨ (n : Int) ≤ s then 50 else 0
theorem check_any (tb : Nat) (a : Option Addr) (n c : Nat) (s : Int) (w : World) (h0 : w.cell? ⟨tb, 0, none⟩ = some (.slice a n c)) :
    Calls Try.prog 31 #[.pointer (some ⟨tb, 0, none⟩), .int .i64 s] w fun e w' => e = .returned (.int .i64 (chkE n s)) ∧ w = w' := by
  have HM := Lib.hid (made_any tb a n c w h0)
  unfold chkE
  by_cases hn : n = 0
  · have d : decide (0 < n) = false := by simp [hn]
    rw [if_pos hn]
    rw [d] at HM
    clear hn
    go_enter Try.func31, Try.ntmps31
    go_wp2_with fail
    refine HM.out.mono ?_
    rintro e w' ⟨rfl, rfl⟩
    go_wp2_with fail
    go_ret
    exact ⟨rfl, rfl⟩
  · have d : decide (0 < n) = true := by simp; omega
    rw [if_neg hn]
    rw [d] at HM
    clear hn
    by_cases hs : s < 0
    · have d1 : decide (s < 0) = true := by simpa using hs
      rw [if_pos (.inl hs)]
      clear hs
      go_enter Try.func31, Try.ntmps31
      go_wp2_with fail
      refine HM.out.mono ?_
      rintro e w' ⟨rfl, rfl⟩
      go_wp2_with fail
      go_ret
      exact ⟨rfl, rfl⟩
    · have d1 : decide (s < 0) = false := by simpa using hs
      by_cases hl : (n : Int) ≤ s
      · have d2 : decide (s ≥ (n : Int)) = true := by simpa using hl
        rw [if_pos (.inr hl)]
        clear hs hl
        go_enter Try.func31, Try.ntmps31
        go_wp2_with fail
        refine HM.out.mono ?_
        rintro e w' ⟨rfl, rfl⟩
        go_wp2_with fail
        go_ret
        exact ⟨rfl, rfl⟩
      · have d2 : decide (s ≥ (n : Int)) = false := by simpa using hl
        rw [if_neg (by rintro (h | h); exact hs h; exact hl h)]
        clear hs hl
        go_enter Try.func31, Try.ntmps31
        go_wp2_with fail
        refine HM.out.mono ?_
        rintro e w' ⟨rfl, rfl⟩
        go_wp2_with fail
        go_ret
        exact ⟨rfl, rfl⟩
theorem sizes_nil (w : World) : Calls Try.prog 20 #[.pointer none] w fun e w' => e = .returned (.tuple #[.int .i64 0, .int .i64 0]) ∧ w = w' := by
  go_enter Try.func20, Try.ntmps20
  go_wp2_with fail
  refine (made_nil _).mono ?_
  rintro e w' ⟨rfl, rfl⟩
  go_wp2_with fail
  go_ret2
  exact ⟨rfl, rfl⟩
theorem sizes_any (tb : Nat) (a m : Option Addr) (n c k c' : Nat) (w : World) (h0 : w.cell? ⟨tb, 0, none⟩ = some (.slice a n c)) (h1 : w.cell? ⟨tb, 1, none⟩ = some (.slice m k c')) (hn : 0 < n) :
    Calls Try.prog 20 #[.pointer (some ⟨tb, 0, none⟩)] w fun e w' => e = .returned (.tuple #[.int .i64 (n : Int), .int .i64 (k : Int)]) ∧ Below w.heap.size w w' := by
  have HM := Lib.hid (made_any tb a n c w h0)
  have d : decide (0 < n) = true := by simpa using hn
  rw [d] at HM
  clear d hn
  go_enter Try.func20, Try.ntmps20
  go_wp2_with fail
  refine HM.out.mono ?_
  rintro e w' ⟨rfl, rfl⟩
  go_wp2_with fail
  go_quiet (fail)
  go_wp2_with fail
  go_ret2
  exact ⟨rfl, bel_drewN _ _⟩
end Go.Proofs.Ytapnighankepjaa.Sc
end
section
namespace Go.Proofs.Ytapnighankepjaa.Sc
open Go.ChangeShapes Go.WideShapes Go.ChangeAt Go.RowKit
set_option linter.unusedVariables false
set_option linter.unusedSimpArgs false

theorem wf32 {n : Int} (h0 : 0 ≤ n) (h1 : n ≤ 1048576) : (Lit.int .i32 n).wf = true := by
  simp [Lit.wf, IntKind.min, IntKind.max, IntKind.bits, IntKind.signed]
  omega
theorem kl_i32 (d : Nat) (n : Int) (h : (Lit.int .i32 n).wf = true) : Try.prog.keyLits (d + 1) 21 [.int .i32 n] = some [.int .i32 n] := by
  simp [Program.keyLits, Try.underlying21, h]
theorem kl_str (d : Nat) (s : ByteArray) (h : s.size ≤ maxLen) : Try.prog.keyLits (d + 1) 9 [.string s] = some [.string s.data.toList] := by
  simp [Program.keyLits, Try.underlying9, h]
theorem cells_a16 : Try.prog.cellsOf 73 = 16 := by kernel_rfl
theorem cells_i32 : Try.prog.cellsOf 21 = 1 := by kernel_rfl
theorem cells_str : Try.prog.cellsOf 9 = 1 := by kernel_rfl
theorem cells_idn : Try.prog.cellsOf 75 = 17 := by kernel_rfl
set_option maxRecDepth 100000 in
set_option maxHeartbeats 4000000 in
theorem kl_arr (d : Nat) (p : Nat → Int) (hp : ∀ i, (Lit.int .i32 (p i)).wf = true) : ∃ l, Try.prog.keyLits (d + 2) 73 (A16 p).toList = some l := by
  refine ⟨(List.range 16).map (fun i => .int .i32 (p i)), ?_⟩
  have h : ∀ i, i < 16 → Try.prog.keyLits (d + 1) 21 (((A16 p).toList.drop (i * 1)).take 1) = some [.int .i32 (p i)] := fun i hi => by
    have e : ((A16 p).toList.drop (i * 1)).take 1 = [.int .i32 (p i)] := by
      have := A16_at p i hi
      rw [Nat.mul_one, List.take_one, List.head?_drop, Array.getElem?_toList, this]
      rfl
    rw [e, kl_i32 d _ (hp i)]
  have hm : ((List.range 16).mapM fun i => Try.prog.keyLits (d + 1) 21 (((A16 p).toList.drop (i * 1)).take 1)) = some ((List.range 16).map fun i => [.int .i32 (p i)]) := by
    have go : ∀ l : List Nat, (∀ i ∈ l, i < 16) → (l.mapM fun i => Try.prog.keyLits (d + 1) 21 (((A16 p).toList.drop (i * 1)).take 1)) = some (l.map fun i => [.int .i32 (p i)]) := by
      intro l
      induction l with
      | nil => intro _; rfl
      | cons i r ih =>
        intro hl
        rw [List.mapM_cons, h i (hl i (List.mem_cons_self ..)), ih (fun j hj => hl j (List.mem_cons_of_mem _ hj))]
        rfl
    exact go _ (fun i hi => List.mem_range.1 hi)
  unfold Program.keyLits
  rw [Try.underlying73]
  simp only [cells_a16, cells_i32]
  rw [if_pos (show (A16 p).toList.length = 16 from rfl), hm]
  rfl
theorem wide_idn : Try.prog.keyType 75 = true := by kernel_rfl
theorem many_types : 3 ≤ Try.prog.types.size := of_decide_eq_true (by kernel_rfl)
set_option maxRecDepth 100000 in
set_option maxHeartbeats 4000000 in
theorem key_any (x : Idn) (hx : x.Ok) : ∃ kl, keyOf Try.prog 75 x.V = some kl := by
  have hs : (⟨x.s.toArray⟩ : ByteArray).size ≤ maxLen := by
    have := hx.s
    show x.s.toArray.size ≤ _
    rw [List.size_toArray]; unfold maxLen; omega
  have hp : ∀ i, (Lit.int .i32 (pad x.m i)).wf = true := fun i => by
    rcases Nat.lt_or_ge i x.m.length with h | h
    · have := pad_in hx h; exact wf32 (by omega) this.2
    · rw [pad_out h]; decide
  obtain ⟨d, hd⟩ := Nat.exists_eq_add_of_le many_types
  obtain ⟨la, hla⟩ := kl_arr (d + 1) (pad x.m) hp
  have hks := kl_str (d + 2) _ hs
  have hfm : x.V.formed Try.prog 75 = true := by
    unfold Idn.V idA Value.formed
    rw [Try.underlying75]
    simp only [cells_idn]
    rfl
  have hc : x.V.cells.toList = Value.string ⟨x.s.toArray⟩ :: (A16 (pad x.m)).toList := rfl
  have hk : ∃ l, Try.prog.keyLits (Try.prog.types.size + 1) 75 x.V.cells.toList = some l := by
    rw [hd, hc, show 3 + d + 1 = (d + 3) + 1 by omega]
    have : ∃ l, Try.prog.keyLits ((d + 3) + 1) 75 (Value.string ⟨x.s.toArray⟩ :: (A16 (pad x.m)).toList) = some l := by
      unfold Program.keyLits
      rw [Try.underlying75]
      simp only [cells_idn]
      rw [if_pos ⟨rfl, by kernel_rfl⟩]
      simp only [List.mapM_cons, List.mapM_nil, List.drop_zero, List.drop_succ_cons, cells_str, cells_a16]
      rw [show ((Value.string ⟨x.s.toArray⟩ :: (A16 (pad x.m)).toList).take 1) = [.string ⟨x.s.toArray⟩] from rfl, show ((A16 (pad x.m)).toList.take 16) = (A16 (pad x.m)).toList from rfl, hks, hla]
      exact ⟨_, rfl⟩
    exact this
  obtain ⟨l, hl⟩ := hk
  refine ⟨.string (keyBytes l), ?_⟩
  unfold keyOf
  rw [Try.underlying75]
  simp only [wide_idn, hfm, hl]
  rfl
end Go.Proofs.Ytapnighankepjaa.Sc
end
section
namespace Go.Proofs.Ytapnighankepjaa.Sc
open Go.ChangeShapes Go.WideShapes Go.ChangeAt Go.RowKit
set_option linter.unusedVariables false
set_option linter.unusedSimpArgs false

/-- What the iterator reads of the scopes: the slice in its box, each scope's parent. -/
def Reads (T : Tab) (rb B : Nat) (W : World) : Prop :=
  ∃ g c, (rb < B ∧ g < B) ∧ W.cell? ⟨rb, 0, none⟩ = some (.slice (some ⟨g, 0, none⟩) T.rows.length c) ∧ ∀ k, k < T.rows.length → W.cell? ⟨g, k * 19, none⟩ = some (.int .i64 (T.par k : Int))
theorem out_any (a : Option Addr) (n c : Nat) (s : Int) (w : World) :
    Calls Try.prog 36 #[.slice a n c, .int .i64 s] w fun e w' => e = .returned (.func (.func 47) #[] #[.pointer (some ⟨w.heap.size + 1, 0, none⟩), .pointer (some ⟨w.heap.size, 0, none⟩)]) ∧ w' = (w.alloc (.cells #[.slice a n c] 63)).alloc (.cells #[.int .i64 s] 3) := by
  go_enter Try.func36, Try.ntmps36
  go_wp2_with fail
  go_ret
  exact ⟨rfl, rfl⟩
set_option maxRecDepth 100000 in
set_option maxHeartbeats 4000000 in
theorem out1_in (n l rb B sb : Nat) (hn : 1 ≤ n) (T : Tab) (hT : T.Ok) (s : Nat) (hs : s < T.rows.length) (J Jx : List Nat → World → Prop) (W : World)
    (hY : ∀ (pre : List Nat) (x : Nat) (W1 : World), J pre W1 → pre.length < (T.chain s).length → 0 < x ∧ x < T.rows.length → YieldAt Fence.wide (n - 1) Try.prog l #[.int .i64 (x : Int)] W1 fun e W' => (e = .returned (.bool true) ∧ J (pre ++ [x]) W' ∧ (Reads T rb B W1 → Reads T rb B W')) ∨ (e = .returned (.bool false) ∧ Jx (pre ++ [x]) W'))
    (hR : Reads T rb B W) (hS : W.cell? ⟨sb, 0, none⟩ = some (.int .i64 (s : Int))) (h0 : J [] W) :
    CallsIn Fence.wide n Try.prog 47 #[.func (.yield l) #[] #[], .pointer (some ⟨sb, 0, none⟩), .pointer (some ⟨rb, 0, none⟩)] W fun e W' => (∃ v, e = .returned v) ∧ ((∃ ys, ys = T.chain s ∧ J ys W') ∨ (∃ pre, pre <+: T.chain s ∧ Jx pre W')) := by
  have HY := Lib.hid hY
  have H0 := Lib.hid h0
  have HR := Lib.hid hR
  have HT := Lib.hid hT
  have HS := Lib.hid hs
  have hfew := hT.few
  clear hY h0 hR hT hs
  refine callsIn_of_wp Try.func47 rfl trivial ?_ rfl
  simp only [Try.ntmps47, List.size_toArray, List.length_cons, List.length_nil, Nat.reduceAdd, Nat.reduceSub, Array.replicate_succ, Array.replicate_zero, List.push_toArray, List.append_toArray, List.nil_append, List.cons_append]
  gi_wp2_with fail
  gi_loopw [4] (fun i wr => ∃ (pre : List Nat) (cur : Nat), Hid (T.chain s = pre ++ T.chain cur) ∧ i = .int .i64 (cur : Int) ∧ cur < T.rows.length ∧ J pre wr ∧ Reads T rb B wr) (fun i _ => (intOf i).toNat)
  case atStart => exact ⟨[], s, Lib.hid rfl, rfl, HS.out, H0.out, HR.out⟩
  case round =>
    obtain ⟨pre, cur, hch, rfl, hcl, hj, hrd⟩ := hrel
    have HJ := Lib.hid hj
    clear hj
    by_cases hz : cur = 0
    · have dz : ((cur : Int) != 0) = false := by subst hz; rfl
      have hfull : T.chain s = pre := by rw [hch.out, hz, chain_zero, List.append_nil]
      have HF := Lib.hid hfull
      clear hfull hz
      gi_wp2_with fail
      go_end0
      exact ⟨⟨_, rfl⟩, .inl ⟨_, rfl, by rw [HF.out]; exact HJ.out⟩⟩
    · have dz : ((cur : Int) != 0) = true := by simp; omega
      have hc2 : T.chain s = (pre ++ [cur]) ++ T.chain (T.par cur) := by rw [hch.out, chain_step HT.out hz, List.append_assoc]; rfl
      have hpl : pre.length < (T.chain s).length := by rw [hc2, List.length_append, List.length_append]; simp; omega
      have hy1 := HY.out pre cur wr HJ.out hpl ⟨by omega, hcl⟩
      have hpr : pre ++ [cur] <+: T.chain s := ⟨_, hc2.symm⟩
      have hpar := HT.out.par' cur (by omega)
      have HC2 := Lib.hid hc2
      have HPR := Lib.hid hpr
      have HRD := Lib.hid hrd
      clear hc2 hpl hpr hrd hz
      obtain ⟨fn, tmps, assign, body, hy, hR⟩ := hy1
      gi_wp2_with fail
      refine hR.mono ?_
      rintro e3 W3 (⟨rfl, hJ3, hk3⟩ | ⟨rfl, hJx3⟩)
      · have HJ3 := Lib.hid hJ3
        obtain ⟨g, c, hgb, cr, cp⟩ := hk3 HRD.out
        have HR3 : Hid (Reads T rb B W3) := Lib.hid ⟨g, c, hgb, cr, cp⟩
        have cpk := cp cur hcl
        have i0 : (0 : Int) ≤ (cur : Int) := Int.natCast_nonneg _
        have i1 : (cur : Int) < (T.rows.length : Int) := by omega
        clear hJ3 hk3 hR hy cp hgb
        gi_wp2_with fail
        go_roundw
        case rel => exact ⟨pre ++ [cur], T.par cur, HC2, rfl, by omega, HJ3.out, HR3.out⟩
        case measure => simp [intOf]; omega
      · have HX3 := Lib.hid hJx3
        clear hJx3 hR hy
        gi_wp2_with fail
        refine bodyPost_ret (results_none rfl _ _ _) rfl ?_
        exact ⟨⟨_, rfl⟩, .inr ⟨_, HPR.out, HX3.out⟩⟩
/-- A scope that is not the outermost one. -/
abbrev Sco (T : Tab) : Type := { y : Nat // 0 < y ∧ y < T.rows.length }
theorem out_stops (n rb B sb : Nat) (hn : 1 ≤ n) (T : Tab) (hT : T.Ok) (s : Nat) (hs : s < T.rows.length) (w : World) (Kp : World → World → Prop) (hKp : ∀ W W', Kp W W' → Reads T rb B W → Reads T rb B W')
    (hR : ∀ W, Below w.heap.size w W → Reads T rb B W) (hS : w.cell? ⟨sb, 0, none⟩ = some (.int .i64 (s : Int))) (hsb : sb < w.heap.size) :
    SeqStopsK Fence.wide n Try.prog 47 #[.pointer (some ⟨sb, 0, none⟩), .pointer (some ⟨rb, 0, none⟩)] (fun x : Sco T => #[.int .i64 (x.1 : Int)]) Kp (fun ys => ys.map (·.1) = T.chain s) (fun pre => pre.map (·.1) <+: T.chain s) (T.chain s).length w := fun l J Jx W hW _ _ hY h0 =>
  (out1_in n l rb B sb hn T hT s hs (fun q W => ∃ pre : List (Sco T), pre.map (·.1) = q ∧ J pre W) (fun q W => ∃ pre : List (Sco T), pre.map (·.1) = q ∧ Jx pre W) W (fun q x W1 h1 h2 hx => by
    obtain ⟨pre, rfl, h1⟩ := h1
    obtain ⟨fn, tmps, assign, body, hy, hR⟩ := hY pre ⟨x, hx⟩ W1 h1 (by rwa [List.length_map] at h2)
    refine ⟨fn, tmps, assign, body, hy, hR.mono ?_⟩
    rintro e W' (⟨h3, h4, h5⟩ | ⟨h3, h4⟩)
    · exact .inl ⟨h3, ⟨_, by simp, h4⟩, hKp _ _ h5⟩
    · exact .inr ⟨h3, ⟨_, by simp, h4⟩⟩) (hR W hW) ((hW.cell (p := ⟨sb, 0, none⟩) hsb).trans hS) ⟨[], rfl, h0⟩).mono (by
    rintro e W' ⟨hv, (⟨ys, rfl, pre, hp, hj⟩ | ⟨q, hq, pre, hp, hj⟩)⟩
    · exact ⟨hv, .inl ⟨pre, hp, hj⟩⟩
    · exact ⟨hv, .inr ⟨pre, by show _ <+: _; rw [hp]; exact hq, hj⟩⟩)
theorem Reads.bel {T : Tab} {rb B : Nat} {W W' : World} (h : Reads T rb B W) (hb : Below B W W') : Reads T rb B W' := by
  obtain ⟨g, c, ⟨h1, h2⟩, hc, hp⟩ := h
  exact ⟨g, c, ⟨h1, h2⟩, (hb.cell (p := ⟨rb, 0, none⟩) h1).trans hc, fun k hk => (hb.cell (p := ⟨g, k * 19, none⟩) h2).trans (hp k hk)⟩
end Go.Proofs.Ytapnighankepjaa.Sc
end
section
namespace Go.Proofs.Ytapnighankepjaa.Sc
open Go.ChangeShapes Go.WideShapes Go.ChangeAt Go.RowKit
set_option linter.unusedVariables false
set_option linter.unusedSimpArgs false

/-- The cells of a scope. -/
def rowC (r : Row) : List Value := .int .i64 (r.par : Int) :: ((A17 r.id.s (pad r.id.m)).toList ++ [.int .i64 r.what])
theorem rowC_len (r : Row) : (rowC r).length = 19 := rfl
def rowsC (l : List Row) : List Value := l.flatMap rowC
theorem rowsC_len (l : List Row) : (rowsC l).length = l.length * 19 := by
  induction l with
  | nil => rfl
  | cons r l ih => unfold rowsC at ih ⊢; rw [List.flatMap_cons, List.length_append, ih, rowC_len, List.length_cons]; omega
theorem rowsC_snoc (l : List Row) (r : Row) : rowsC (l ++ [r]) = rowsC l ++ rowC r := by
  unfold rowsC; rw [List.flatMap_append]; simp
theorem rowsC_at : ∀ (l : List Row) (k j : Nat), j < 19 → k < l.length → (rowsC l)[k * 19 + j]? = (rowC (l.getD k default))[j]?
  | [], k, j, _, h => absurd h (Nat.not_lt_zero _)
  | r :: l, 0, j, hj, _ => by
    show (rowC r ++ rowsC l)[0 * 19 + j]? = _
    rw [Nat.zero_mul, Nat.zero_add, List.getElem?_append_left (by rw [rowC_len]; exact hj)]
    rfl
  | r :: l, k + 1, j, hj, h => by
    show (rowC r ++ rowsC l)[(k + 1) * 19 + j]? = _
    rw [List.getElem?_append_right (by rw [rowC_len]; omega), rowC_len, show (k + 1) * 19 + j - 19 = k * 19 + j by omega, rowsC_at l k j hj (by simpa using h)]
    rfl
/-- What is known behind a step that touches nothing but what O says, and makes memory. -/
structure Chg (O : Nat → Prop) (w w' : World) : Prop where
  os : w'.os = w.os
  tape : w'.tape = w.tape
  output : w'.output = w.output
  size : w.heap.size ≤ w'.heap.size
  block : ∀ k, k < w.heap.size → ¬ O k → w'.heap[k]? = w.heap[k]?
theorem Chg.refl (O : Nat → Prop) (w : World) : Chg O w w := ⟨rfl, rfl, rfl, Nat.le_refl _, fun _ _ _ => rfl⟩
theorem Chg.trans {O O' : Nat → Prop} {w w1 w2 : World} (h : Chg O w w1) (k : Chg O' w1 w2) (hO : ∀ b, O' b → O b ∨ w.heap.size ≤ b) : Chg O w w2 :=
  ⟨k.os.trans h.os, k.tape.trans h.tape, k.output.trans h.output, Nat.le_trans h.size k.size, fun b hb hn => (k.block b (Nat.lt_of_lt_of_le hb h.size) (fun ho => by
    rcases hO b ho with h1 | h1
    · exact hn h1
    · omega)).trans (h.block b hb hn)⟩
theorem Chg.of_below {w w' : World} (O : Nat → Prop) (h : Below w.heap.size w w') : Chg O w w' := ⟨h.os, h.tape, h.output, h.size, fun k hk _ => h.block k hk⟩
theorem Chg.to_below {O : Nat → Prop} {w w' : World} {B : Nat} (h : Chg O w w') (hB : B ≤ w.heap.size) (hO : ∀ k, O k → B ≤ k) : Below B w w' :=
  ⟨h.os, h.tape, h.output, h.size, fun k hk => h.block k (by omega) (fun ho => by have := hO k ho; omega)⟩
theorem Chg.mono {O O' : Nat → Prop} {w w' : World} (h : Chg O w w') (hO : ∀ k, O k → O' k) : Chg O' w w' := ⟨h.os, h.tape, h.output, h.size, fun k hk hn => h.block k hk (fun ho => hn (hO k ho))⟩
theorem Chg.of_grown {w w' : World} {row : Option Nat} (h : w.grownBy w' row) : Chg (fun k => some k = row) w w' := ⟨h.os, h.tape, h.output, h.size, fun k hk hn => h.block k hk hn⟩
theorem Chg.store {w : World} (p : Addr) (v : Value) : Chg (fun k => k = p.block) w (w.setCell p v) := ⟨rfl, rfl, rfl, by simp, fun k _ hn => Below.heap_setCell _ _ _ _ (fun e => hn e)⟩
theorem Chg.alloc {O : Nat → Prop} (w : World) (o : Obj) : Chg O w (w.alloc o) := .of_below O ((Below.refl _ _).alloc (Nat.le_refl _) _)
theorem Chg.drewN {O : Nat → Prop} (w : World) (n : Nat) : Chg O w (w.drewN n) := .of_below O (bel_drewN w n)
/-- The map of the first scopes. -/
def FirstAt (w : World) (bm : Nat) (T : Tab) : Prop :=
  ∃ D : DataW Unit, w.ownsMap Try.prog 75 (plainElem Try.prog 3) bm T.rows.length D ∧ Maps.IsMap D ∧
    ∀ (x : Idn) (kl : Lit), x.Ok → keyOf Try.prog 75 x.V = some kl → D.atKey kl (.lit (.int .i64 0)) = .lit (.int .i64 (T.first x : Int))
/-- The blocks of a table. -/
def Own3 (tb : Nat) (vs vm : Value) (bm : Nat) (k : Nat) : Prop := k = tb ∨ vs.ownBlock = some k ∨ vm.ownBlock = some k ∨ k = bm
def marksC (l : List Nat) : List Value := l.map fun (s : Nat) => Value.int .i64 (s : Int)
structure TabAt (w : World) (tb : Nat) (T : Tab) (vs vm : Value) (bm : Nat) : Prop where
  ok : T.Ok
  ids : ∀ r ∈ T.rows, r.id.Ok
  whats : ∀ r ∈ T.rows, (Lit.int .i64 r.what).wf = true
  blk : Da.Blk w tb 66 #[vs, vm, .map (some bm)]
  rows : w.ownsRow 0 77 19 vs T.rows.length (rowsC T.rows)
  marks : w.ownsRow 0 3 1 vm T.marks.length (marksC T.marks)
  first : FirstAt w bm T
def TabIn (w : World) (tb : Nat) (T : Tab) (O : Nat → Prop) : Prop := ∃ vs vm bm, TabAt w tb T vs vm bm ∧ ∀ k, Own3 tb vs vm bm k → O k
theorem own_row {w : World} {e : TypeId} {sz n : Nat} {v : Value} {xs : List Value} {g : Nat} (h : w.ownsRow 0 e sz v n xs) (hg : v.ownBlock = some g) : ∃ cur, w.heap[g]? = some (.cells cur e (0, 0)) := by
  rcases h.2 with ⟨rfl, _⟩ | ⟨g', cap, cur, rfl, _, hgg, _⟩
  · cases hg
  · cases hg; exact ⟨cur, hgg⟩
theorem TabAt.lt {w : World} {tb : Nat} {T : Tab} {vs vm : Value} {bm : Nat} (h : TabAt w tb T vs vm bm) : ∀ k, Own3 tb vs vm bm k → k < w.heap.size := by
  rintro k (rfl | hk | hk | rfl)
  · exact (Array.getElem?_eq_some_iff.1 h.blk).1
  · exact (h.rows.lt k hk).2
  · exact (h.marks.lt k hk).2
  · obtain ⟨D, h1, _⟩ := h.first; exact h1.lt
/-- The four blocks are four. -/
theorem TabAt.apart {w : World} {tb : Nat} {T : Tab} {vs vm : Value} {bm : Nat} (h : TabAt w tb T vs vm bm) :
    vs.ownBlock ≠ some tb ∧ vm.ownBlock ≠ some tb ∧ bm ≠ tb ∧ (∀ k, vs.ownBlock = some k → vm.ownBlock ≠ some k ∧ bm ≠ k) ∧ vm.ownBlock ≠ some bm := by
  have h0 := h.blk
  unfold Da.Blk at h0
  obtain ⟨D, ⟨es, clock, hb, _⟩, _⟩ := h.first
  refine ⟨fun e => ?_, fun e => ?_, fun e => ?_, fun k e => ⟨fun e2 => ?_, fun e2 => ?_⟩, fun e => ?_⟩
  · obtain ⟨cur, hc⟩ := own_row h.rows e
    rw [h0] at hc
    injection hc with hc; injection hc with _ ht; exact absurd ht (by decide)
  · obtain ⟨cur, hc⟩ := own_row h.marks e
    rw [h0] at hc
    injection hc with hc; injection hc with _ ht; exact absurd ht (by decide)
  · rw [e, h0] at hb; cases hb
  · obtain ⟨cur, hc⟩ := own_row h.rows e
    obtain ⟨cur2, hc2⟩ := own_row h.marks e2
    rw [hc] at hc2
    injection hc2 with hc2; injection hc2 with _ ht; exact absurd ht (by decide)
  · obtain ⟨cur, hc⟩ := own_row h.rows e
    rw [← e2, hb] at hc; cases hc
  · obtain ⟨cur, hc⟩ := own_row h.marks e
    rw [hb] at hc; cases hc
theorem ownsMap_same {w w' : World} {k : TypeId} {R : Value → Option (DataW Unit × List MemPlace)} {b n : Nat} {D : DataW Unit} (h : w.ownsMap Try.prog k R b n D) (hb : w'.heap[b]? = w.heap[b]?) : w'.ownsMap Try.prog k R b n D := by
  obtain ⟨es, clock, h1, h2⟩ := h
  exact ⟨es, clock, hb.trans h1, h2⟩
theorem ownsRow_same {w w' : World} {B : Nat} {e : TypeId} {sz n : Nat} {v : Value} {xs : List Value} (h : w.ownsRow B e sz v n xs) (hb : ∀ g, v.ownBlock = some g → w'.heap[g]? = w.heap[g]?) : w'.ownsRow B e sz v n xs := by
  refine ⟨h.1, ?_⟩
  rcases h.2 with h1 | ⟨g, cap, cur, rfl, h1, h2, h3⟩
  · exact .inl h1
  · exact .inr ⟨g, cap, cur, rfl, h1, (hb g rfl).trans h2, h3⟩
theorem FirstAt.same {w w' : World} {bm : Nat} {T : Tab} (h : FirstAt w bm T) (hb : w'.heap[bm]? = w.heap[bm]?) : FirstAt w' bm T := by
  obtain ⟨D, h1, h2⟩ := h
  exact ⟨D, ownsMap_same h1 hb, h2⟩
/-- What leaves the table's blocks as they are leaves the table as it is. -/
theorem TabAt.same {w w' : World} {tb : Nat} {T : Tab} {vs vm : Value} {bm : Nat} (h : TabAt w tb T vs vm bm) (hb : ∀ k, Own3 tb vs vm bm k → w'.heap[k]? = w.heap[k]?) : TabAt w' tb T vs vm bm where
  ok := h.ok
  ids := h.ids
  whats := h.whats
  blk := (hb tb (.inl rfl)).trans h.blk
  rows := ownsRow_same h.rows (fun g hg => hb g (.inr (.inl hg)))
  marks := ownsRow_same h.marks (fun g hg => hb g (.inr (.inr (.inl hg))))
  first := h.first.same (hb bm (.inr (.inr (.inr rfl))))
theorem TabAt.bel {w w' : World} {tb : Nat} {T : Tab} {vs vm : Value} {bm : Nat} (h : TabAt w tb T vs vm bm) (hb : Below w.heap.size w w') : TabAt w' tb T vs vm bm := h.same (fun k hk => hb.block k (h.lt k hk))
theorem TabIn.bel {w w' : World} {tb : Nat} {T : Tab} {O : Nat → Prop} (h : TabIn w tb T O) (hb : Below w.heap.size w w') : TabIn w' tb T O := by
  obtain ⟨vs, vm, bm, h1, h2⟩ := h
  exact ⟨vs, vm, bm, h1.bel hb, h2⟩
theorem TabIn.ok {w : World} {tb : Nat} {T : Tab} {O : Nat → Prop} (h : TabIn w tb T O) : T.Ok := by obtain ⟨_, _, _, h1, _⟩ := h; exact h1.ok
theorem TabIn.more {w : World} {tb : Nat} {T : Tab} {O O' : Nat → Prop} (h : TabIn w tb T O) (hO : ∀ k, O k → O' k) : TabIn w tb T O' := by
  obtain ⟨vs, vm, bm, h1, h2⟩ := h
  exact ⟨vs, vm, bm, h1, fun k hk => hO k (h2 k hk)⟩
/-- .. and so does what changes blocks of another one. -/
theorem TabIn.chg {w w' : World} {tb : Nat} {T : Tab} {O O' : Nat → Prop} (h : TabIn w tb T O) (hc : Chg O' w w') (hO : ∀ k, O k → ¬ O' k) : TabIn w' tb T O := by
  obtain ⟨vs, vm, bm, h1, h2⟩ := h
  exact ⟨vs, vm, bm, h1.same (fun k hk => hc.block k (h1.lt k hk) (hO k (h2 k hk))), h2⟩
theorem slice_of {w : World} {B e sz n : Nat} {v : Value} {xs : List Value} (h : w.ownsRow B e sz v n xs) : ∃ a c, v = .slice a n c := by
  rcases h.2 with ⟨rfl, rfl⟩ | ⟨g, cap, cur, rfl, _⟩
  · exact ⟨_, _, rfl⟩
  · exact ⟨_, _, rfl⟩
/-- The cells of a row that is not empty. -/
theorem row_cells {w : World} {B e sz n : Nat} {a : Option Addr} {c : Nat} {xs : List Value} (h : w.ownsRow B e sz (.slice a n c) n xs) (hn : 0 < n) : ∃ g, a = some ⟨g, 0, none⟩ ∧ g < w.heap.size ∧ (Value.slice a n c).ownBlock = some g ∧ ∀ j u, xs[j]? = some u → w.cell? ⟨g, j, none⟩ = some u := by
  rcases h.2 with ⟨h1, h0⟩ | ⟨g, cap, cur, h1, h2, h3, h4, _⟩
  · omega
  · injection h1 with e1 e2 e3
    subst e1
    refine ⟨g, rfl, (Array.getElem?_eq_some_iff.1 h3).1, rfl, fun j u hu => ?_⟩
    have h5 := h.cells rfl j u hu
    rw [show (⟨g, 0, none⟩ : Addr).add j = ⟨g, j, none⟩ by unfold Addr.add; split <;> simp_all] at h5
    exact h5
/- An identifier's key. -/
theorem laidOut : laidOutB Try.prog = true := by kernel_rfl
theorem row_id : (75 : TypeId) < Try.prog.types.size := of_decide_eq_true (by kernel_rfl)
theorem wide_id : (match Try.prog.underlying 75 with | some (.array _ _) | some (.struct _) => true | _ => false) = true := by kernel_rfl
set_option maxRecDepth 100000 in
theorem keyed : Maps.Keyed Try.prog 75 := Maps.Keyed.of_law (deep_law_laid laidOut (m := 3) (by omega) row_id (by kernel_rfl) wide_id)
theorem zero_int (w : World) : (zeroValue 3).run Try.prog w = .ok (.int .i64 0) w := by kernel_rfl
end Go.Proofs.Ytapnighankepjaa.Sc
end
section
namespace Go.Proofs.Ytapnighankepjaa.Sc
open Go.ChangeShapes Go.WideShapes Go.ChangeAt Go.RowKit
set_option linter.unusedVariables false
set_option linter.unusedSimpArgs false

theorem pad_inj {a b : List Int} (ha : a.length ≤ 16) (hb : b.length ≤ 16) (pa : ∀ k ∈ a, 1 ≤ k) (pb : ∀ k ∈ b, 1 ≤ k) (h : ∀ i, i < 16 → pad a i = pad b i) : a = b := by
  have at0 : ∀ (l : List Int) (i : Nat) (hi : i < l.length), pad l i = l[i] := fun l i hi => by unfold pad; rw [List.getD_eq_getElem?_getD, List.getElem?_eq_getElem hi]; rfl
  have out0 : ∀ (l : List Int) (i : Nat), l.length ≤ i → pad l i = 0 := fun l i hi => by unfold pad; rw [List.getD_eq_getElem?_getD, List.getElem?_eq_none hi]; rfl
  have hl : a.length = b.length := by
    rcases Nat.lt_trichotomy a.length b.length with h1 | h1 | h1
    · have e := h a.length (by omega)
      rw [out0 a _ (Nat.le_refl _), at0 b _ h1] at e
      have := pb _ (List.getElem_mem h1)
      omega
    · exact h1
    · have e := h b.length (by omega)
      rw [out0 b _ (Nat.le_refl _), at0 a _ h1] at e
      have := pa _ (List.getElem_mem h1)
      omega
  refine List.ext_getElem hl (fun i h1 h2 => ?_)
  rw [← at0 a i h1, ← at0 b i h2]
  exact h i (by omega)
theorem V_inj {x y : Idn} (hx : x.Ok) (hy : y.Ok) (h : x.V = y.V) : x = y := by
  unfold Idn.V idA at h
  injection h with h
  have h1 := congrArg Array.toList h
  simp only [List.cons.injEq, Value.string.injEq, Value.int.injEq, true_and, and_true, ByteArray.mk.injEq] at h1
  obtain ⟨hs, h0, h1, h2, h3, h4, h5, h6, h7, h8, h9, h10, h11, h12, h13, h14, h15⟩ := h1
  have hs' : x.s = y.s := by
    have := congrArg Array.toList hs
    simpa using this
  have hm : x.m = y.m := pad_inj hx.m hy.m (fun k hk => (hx.mark k hk).1) (fun k hk => (hy.mark k hk).1) (fun i hi => by
    have : i = 0 ∨ i = 1 ∨ i = 2 ∨ i = 3 ∨ i = 4 ∨ i = 5 ∨ i = 6 ∨ i = 7 ∨ i = 8 ∨ i = 9 ∨ i = 10 ∨ i = 11 ∨ i = 12 ∨ i = 13 ∨ i = 14 ∨ i = 15 := by omega
    rcases this with rfl | rfl | rfl | rfl | rfl | rfl | rfl | rfl | rfl | rfl | rfl | rfl | rfl | rfl | rfl | rfl <;> assumption)
  rcases x with ⟨xs, xm⟩
  rcases y with ⟨ys, ym⟩
  simp only at hs' hm
  rw [hs', hm]
theorem kl_ne {x y : Idn} {kx ky : Lit} (hx : x.Ok) (hy : y.Ok) (h1 : keyOf Try.prog 75 x.V = some kx) (h2 : keyOf Try.prog 75 y.V = some ky) : kx = ky ↔ x = y := by
  constructor
  · rintro rfl
    exact V_inj hx hy (keyed.inj h1 h2)
  · rintro rfl
    rw [h1] at h2
    exact Option.some.inj h2
set_option maxRecDepth 100000 in
theorem key_deep : Try.prog.keyTypeAt 3 75 = true := by kernel_rfl
set_option maxRecDepth 100000 in
theorem eq_id (x y : Idn) (hx : x.Ok) (hy : y.Ok) (w : World) : (binOp BinOp.eql 75 x.V y.V).run Try.prog w = .ok (.bool (decide (x = y))) w := by
  obtain ⟨kx, h1⟩ := key_any x hx
  obtain ⟨ky, h2⟩ := key_any y hy
  obtain ⟨r, hr, hb⟩ := run_equal_deep (P := Try.prog) w (m := 3) (by omega) key_deep wide_id h1 h2
  rw [kl_ne hx hy h1 h2] at hb
  have : r = decide (x = y) := by
    rw [Bool.eq_iff_iff, hb, decide_eq_true_iff]
  subst this
  have e : binOp BinOp.eql 75 x.V y.V = Value.bool <$> Op.equal 75 x.V y.V := rfl
  rw [e]
  simp [hr, go_sem]
theorem no_guard : Try.prog.eqGuardType Try.prog.depth 75 = false := by kernel_rfl
theorem guard_id (a b : Operand) (x y : Idn) (w : World) : (eqGuard BinOp.eql 75 a b x.V y.V).run Try.prog w = .ok () w := by
  unfold Idn.V idA
  simp [eqGuard, Sem.run_bind, run_program, no_guard, go_sem]
set_option maxRecDepth 100000 in
theorem look_first {w : World} {bm : Nat} {T : Tab} (h : FirstAt w bm T) {x : Idn} (hx : x.Ok) :
    (Instr.lookup 64 (.map (some bm)) x.V false).run Try.prog w = .ok (.int .i64 (T.first x : Int)) w := by
  obtain ⟨D, hown, hD, hat⟩ := h
  obtain ⟨kl, hk⟩ := key_any x hx
  obtain ⟨c, hrun, hc, _⟩ := hown.lookup_int keyed Try.underlying64 Try.underlying3 (zero_int w) hk
  rw [hat x kl hx hk] at hc
  injection hc with hc
  injection hc with _ hc
  rw [hrun, ← hc]
theorem info_idn : (Try.prog.info? 75).map (·.size) = some 17 := by kernel_rfl
/-- The seventeen cells of an identifier, as a list. -/
def idL (x : Idn) : List Value := (A17 x.s (pad x.m)).toList
theorem idL_len (x : Idn) : (idL x).length = 17 := rfl
theorem idL_V (x : Idn) : Value.agg (idL x).toArray = x.V := rfl
theorem At.of_Bk {w : World} {b : Nat} {x : Idn} (h : Bk w b x.s (pad x.m)) : Ld.At w b 0 (idL x) := Ld.At.of_blk h
/-- Where the identifier of a scope lies. -/
theorem at_row {w : World} {a : Option Addr} {c : Nat} {l : List Row} (h : w.ownsRow 0 77 19 (.slice a l.length c) l.length (rowsC l)) (hl : 0 < l.length) :
    ∃ g, a = some ⟨g, 0, none⟩ ∧ g < w.heap.size ∧ (Value.slice a l.length c).ownBlock = some g ∧ ∀ k, k < l.length → w.cell? ⟨g, k * 19, none⟩ = some (.int .i64 ((l.getD k default).par : Int)) ∧ Ld.At w g (k * 19 + 1) (idL (l.getD k default).id) ∧ w.cell? ⟨g, k * 19 + 18, none⟩ = some (.int .i64 (l.getD k default).what) := by
  obtain ⟨g, e, hlt, ho, hc⟩ := row_cells h hl
  refine ⟨g, e, hlt, ho, fun k hk => ⟨hc (k * 19) _ (by have := rowsC_at l k 0 (by omega) hk; rw [Nat.add_zero] at this; rw [this]; rfl), fun j v hv => ?_, hc (k * 19 + 18) _ (by rw [rowsC_at l k 18 (by omega) hk]; rfl)⟩⟩
  have hj : j < 17 := by
    rcases Nat.lt_or_ge j 17 with h1 | h1
    · exact h1
    · rw [List.getElem?_eq_none (by rw [idL_len]; exact h1)] at hv; cases hv
  refine hc _ _ ?_
  rw [show k * 19 + 1 + j = k * 19 + (1 + j) by omega, rowsC_at l k (1 + j) (by omega) hk, Nat.add_comm 1 j]
  show (idL (l.getD k default).id ++ [_])[j]? = _
  rw [List.getElem?_append_left (by rw [idL_len]; exact hj)]
  exact hv
/- What a chain finds. -/
theorem chain_tail {T : Tab} (h : T.Ok) : ∀ (s : Nat) (pre : List Nat) (y : Nat) (r : List Nat), T.chain s = pre ++ y :: r → T.chain y = y :: r := by
  intro s
  induction s using Nat.strongRecOn with
  | ind s ih =>
    intro pre y r he
    by_cases hs : s = 0
    · subst hs; rw [chain_zero] at he; cases pre <;> cases he
    · rw [chain_step h hs] at he
      cases pre with
      | nil => injection he with h1 h2; subst h1; rw [chain_step h hs, h2]
      | cons p pre =>
        injection he with h1 h2
        exact ih _ (h.par' s (by omega)) pre y r h2
theorem binder_pre {T : Tab} {s : Nat} {x : Idn} {pre r : List Nat} (he : T.chain s = pre ++ r) (hn : ∀ i ∈ pre, T.id i ≠ x) : T.binder s x = (r.find? (fun i => T.id i == x)).getD 0 := by
  unfold Tab.binder
  rw [he, List.find?_append, List.find?_eq_none.2 (fun i hi => by simpa using hn i hi), Option.none_or]
theorem binder_hit {T : Tab} {s y : Nat} {x : Idn} {pre : List Nat} (he : pre ++ [y] <+: T.chain s) (hn : ∀ i ∈ pre, T.id i ≠ x) (hy : T.id y = x) : T.binder s x = y := by
  obtain ⟨r, hr⟩ := he
  rw [List.append_assoc] at hr
  rw [binder_pre hr.symm hn, List.singleton_append, List.find?_cons_of_pos (by rw [hy]; simp)]
  rfl
theorem binder_stop {T : Tab} (h : T.Ok) {s y : Nat} {x : Idn} {pre : List Nat} (hs : s < T.rows.length) (he : pre ++ [y] <+: T.chain s) (hn : ∀ i ∈ pre, T.id i ≠ x) (hy : y < T.first x) : T.binder s x = 0 := by
  obtain ⟨r, hr⟩ := he
  rw [List.append_assoc] at hr
  have hmem : y ∈ T.chain s := by rw [← hr]; simp
  have hyl := (chain_lt h s hs y hmem).2.2
  have hc := chain_tail h s pre y r hr.symm
  rw [binder_pre hr.symm hn]
  have h0 := binder_out h hyl hy
  unfold Tab.binder at h0
  rw [hc] at h0
  exact h0
theorem binder_full {T : Tab} {s : Nat} {x : Idn} (hn : ∀ i ∈ T.chain s, T.id i ≠ x) : T.binder s x = 0 := by
  unfold Tab.binder
  rw [List.find?_eq_none.2 (fun i hi => by simpa using hn i hi)]
  rfl
end Go.Proofs.Ytapnighankepjaa.Sc
end
section
namespace Go.Proofs.Ytapnighankepjaa.Sc
open Go.ChangeShapes Go.WideShapes Go.ChangeAt Go.RowKit Go.Shelf
set_option linter.unusedVariables false
set_option linter.unusedSimpArgs false

/-- What the walk reads: the receiver's box, the identifier's, the table's cells, its map, its rows. -/
def BCtx (tb g c bm : Nat) (T : Tab) (x : Idn) (b : Nat) (W : World) : Prop :=
  W.cell? ⟨b, 0, none⟩ = some (.pointer (some ⟨tb, 0, none⟩)) ∧ Bk W (b + 1) x.s (pad x.m) ∧ W.cell? ⟨tb, 0, none⟩ = some (.slice (some ⟨g, 0, none⟩) T.rows.length c) ∧ W.cell? ⟨tb, 2, none⟩ = some (.map (some bm)) ∧ FirstAt W bm T ∧
    ∀ k, k < T.rows.length → W.cell? ⟨g, k * 19, none⟩ = some (.int .i64 (T.par k : Int)) ∧ Ld.At W g (k * 19 + 1) (idL (T.id k)) ∧ W.cell? ⟨g, k * 19 + 18, none⟩ = some (.int .i64 (T.what k))
theorem BCtx.bel {tb g c bm : Nat} {T : Tab} {x : Idn} {b B : Nat} {W W' : World} (h : BCtx tb g c bm T x b W) (hb : Below B W W') (h0 : b + 1 < B) (h1 : tb < B) (h2 : g < B) (h3 : bm < B) : BCtx tb g c bm T x b W' := by
  obtain ⟨cb, ci, cs, cm, cf, cr⟩ := h
  refine ⟨(hb.cell (p := ⟨b, 0, none⟩) (by show b < B; omega)).trans cb, (hb.block _ h0).trans ci, (hb.cell (p := ⟨tb, 0, none⟩) h1).trans cs, (hb.cell (p := ⟨tb, 2, none⟩) h1).trans cm, cf.same (hb.block _ h3), fun k hk => ?_⟩
  obtain ⟨r1, r2, r3⟩ := cr k hk
  exact ⟨(hb.cell (p := ⟨g, k * 19, none⟩) h2).trans r1, r2.same (fun o u hu => (hb.cell (p := ⟨g, o, none⟩) h2).trans hu), (hb.cell (p := ⟨g, k * 19 + 18, none⟩) h2).trans r3⟩
theorem three_new (w : World) (c1 c2 c3 : Array Value) (t1 t2 t3 : TypeId) :
    Da.Blk (((w.alloc (.cells c1 t1)).alloc (.cells c2 t2)).alloc (.cells c3 t3)) w.heap.size t1 c1 ∧ Da.Blk (((w.alloc (.cells c1 t1)).alloc (.cells c2 t2)).alloc (.cells c3 t3)) (w.heap.size + 1) t2 c2 ∧ Da.Blk (((w.alloc (.cells c1 t1)).alloc (.cells c2 t2)).alloc (.cells c3 t3)) (w.heap.size + 2) t3 c3 ∧ (((w.alloc (.cells c1 t1)).alloc (.cells c2 t2)).alloc (.cells c3 t3)).heap.size = w.heap.size + 3 := by
  obtain ⟨h1, h2⟩ := two_new w c1 c2 t1 t2
  refine ⟨?_, ?_, ?_, by simp⟩
  · show _[_]? = _
    rw [Below.heap_alloc _ _ _ (by simp; omega)]; exact h1
  · show _[_]? = _
    rw [Below.heap_alloc _ _ _ (by simp)]; exact h2
  · have := heap_alloc_new ((w.alloc (.cells c1 t1)).alloc (.cells c2 t2)) (.cells c3 t3)
    rw [World.size_alloc, World.size_alloc] at this
    exact this
theorem bel_drew0 (W : World) (B : Nat) : Below B W W.drew := ⟨rfl, rfl, rfl, Nat.le_refl _, fun _ _ => rfl⟩
def BI (T : Tab) (x : Idn) (X : World) (pre : List (Sco T)) (W : World) : Prop := (∀ i ∈ pre, T.id i.1 ≠ x) ∧ Below X.heap.size X W
def BX (T : Tab) (x : Idn) (X w : World) (r : Nat) (c : Code) (q : List (Sco T)) (W : World) : Prop :=
  ∃ (pre : List (Sco T)) (y : Sco T), q = pre ++ [y] ∧ (∀ i ∈ pre, T.id i.1 ≠ x) ∧
    ((c = .exit 0 ∧ y.1 < T.first x ∧ Below X.heap.size X W) ∨ (c = .ret ∧ T.id y.1 = x ∧ Boxed W r 3 (.int .i64 (y.1 : Int)) ∧ Below w.heap.size w W))
theorem BI.own {T : Tab} {x : Idn} {X : World} : OwnFrom X.heap.size (BI T x X) := fun pre A B row hs hg hr => ⟨hs.1, ownFrom_below (β := Unit) (Nat.le_refl _) (Nat.le_refl _) () A B row hs.2 hg hr⟩
theorem BX.own {T : Tab} {x : Idn} {X w : World} {r : Nat} (hw : w.heap.size ≤ X.heap.size) (c : Code) : OwnFrom X.heap.size (BX T x X w r c) := fun q A B row hs hg hr => by
  obtain ⟨pre, y, h1, h2, h3⟩ := hs
  refine ⟨pre, y, h1, h2, ?_⟩
  rcases h3 with ⟨h3, h4, h5⟩ | ⟨h3, h4, h5, h6⟩
  · exact .inl ⟨h3, h4, ownFrom_below (β := Unit) (Nat.le_refl _) (Nat.le_refl _) () A B row h5 hg hr⟩
  · exact .inr ⟨h3, h4, Own.from (boxed_own _ _ (fun _ : Unit => Value.int .i64 (y.1 : Int))) _ () A B row h5 hg hr, ownFrom_below (β := Unit) (Nat.le_refl _) hw () A B row h6 hg hr⟩
theorem bel_put {B : Nat} {W : World} {l : Nat} (o' : Obj) (hl : B ≤ l) : Below B W (W.putObj l o') := by
  have hg := grownBy_putObj' W l o'
  exact ⟨hg.os, hg.tape, hg.output, hg.size, fun k hk => World.putObj_heap_other (by omega)⟩
theorem cell_put {W : World} {D r : Nat} {v : Value} {o o' : Obj} (h : W.cell? ⟨r, 0, none⟩ = some v) (hD : W.heap[D]? = some o) (ho : o.isCells = false) : (W.putObj D o').cell? ⟨r, 0, none⟩ = some v := by
  obtain ⟨ob, h1, h2⟩ := Rg.cells_of_cell h
  have hne : r ≠ D := fun e => by subst e; rw [show W.heap[r]? = _ from h1] at hD; cases hD; rw [h2] at ho; cases ho
  exact (World.cell?_of_block (a := ⟨r, 0, none⟩) (w := W) (World.putObj_heap_other hne)).trans h
set_option maxRecDepth 100000 in
theorem binder_fin (w W : World) (tm : Array Value) (D v r : Nat) (h6 : tm.getD 6 undef = .pointer (some ⟨r, 0, none⟩)) (hb : W.cell? ⟨r, 0, none⟩ = some (.int .i64 (v : Int))) (hK : W.heap[D]? = some (.deferred (some []))) (hbel : Below w.heap.size w W) (hD : w.heap.size ≤ D) :
    bodyPostM Fence.wide 5 Try.prog Try.f45 (fun e w' => e = .returned (.int .i64 (v : Int)) ∧ Below w.heap.size w w') Exit.ret { tmps := tm, defers := [{ target := .collected D, args := #[] }] } W := by
  rw [Array.getD_eq_getD_getElem?] at h6
  refine ⟨by simp, .inl ⟨_, _, rfl, run_takeDeferred hK, ?_⟩⟩
  refine ⟨.int .i64 (v : Int), ?_, rfl, hbel.trans (belowK_b (w := w) (Nat.le_refl _) W D _ _ hD hK rfl rfl)⟩
  have c := cell_put (o' := .deferred none) hb hK rfl
  simp [results, Try.results45, go_sem, h6, c]
attribute [local go_sem] Oper.semAt_some in
set_option maxRecDepth 100000 in
set_option maxHeartbeats 8000000 in
theorem binder_any (tb : Nat) (T : Tab) (x : Idn) (s : Nat) (w : World) (vs vm : Value) (bm : Nat) (hx : Hid x.Ok) (h : TabAt w tb T vs vm bm) (hs : s < T.rows.length) :
    Calls Try.prog 45 #[.pointer (some ⟨tb, 0, none⟩), .int .i64 (s : Int), x.V] w fun e w' => e = .returned (.int .i64 (T.binder s x : Int)) ∧ Below w.heap.size w w' := by
  have hltT := h.lt tb (.inl rfl)
  have hltm := h.lt bm (.inr (.inr (.inr rfl)))
  obtain ⟨a, c, rfl⟩ := slice_of h.rows
  obtain ⟨g, rfl, hltg, hown, hrow⟩ := at_row h.rows h.ok.pos
  have HOK := Lib.hid h.ok
  have hids : ∀ k, k < T.rows.length → (T.id k).Ok := fun k hk => by
    unfold Tab.id
    rw [List.getD_eq_getElem?_getD, List.getElem?_eq_getElem hk]
    exact h.ids _ (List.getElem_mem hk)
  have cs0 : w.cell? ⟨tb, 0, none⟩ = some (.slice (some ⟨g, 0, none⟩) T.rows.length c) := (h.blk.cell 0).trans rfl
  have cm0 : w.cell? ⟨tb, 2, none⟩ = some (.map (some bm)) := (h.blk.cell 2).trans rfl
  have hfirst := h.first
  clear h hown
  refine (callsIn_wide (n := 5)).1 ?_
  refine callsIn_of_wp_marks Try.func45 rfl trivial ?_ rfl
  simp only [Try.ntmps45, List.size_toArray, List.length_cons, List.length_nil, Nat.reduceAdd, Nat.reduceSub, Array.replicate_succ, Array.replicate_zero, List.push_toArray, List.append_toArray, List.nil_append, List.cons_append]
  have HC := Lib.hid (And.intro cs0 (And.intro cm0 (And.intro hfirst (And.intro hrow hids))))
  clear cs0 cm0 hfirst hrow hids
  unfold Idn.V idA
  gi_wp2_with fail
  obtain ⟨n0, n1, n2, hsz⟩ := three_new w #[.pointer (some ⟨tb, 0, none⟩)] (A17 x.s (pad x.m)) #[.int .i64 0] 25 75 3
  obtain ⟨X, hX⟩ : ∃ X, X = ((w.alloc (.cells #[.pointer (some ⟨tb, 0, none⟩)] 25)).alloc (.cells (A17 x.s (pad x.m)) 75)).alloc (.cells #[.int .i64 0] 3) := ⟨_, rfl⟩
  have hbX : Below w.heap.size w X := by rw [hX]; exact (((Below.refl _ _).alloc (Nat.le_refl _) _).alloc (by simp) _).alloc (by simp; omega) _
  rw [← hX] at n0 n1 n2 hsz
  unfold A17 at hX
  rw [← hX]
  clear hX
  obtain ⟨cs0, cm0, hfirst, hrow, hids⟩ := HC.out
  have hB : BCtx tb g c bm T x w.heap.size X := by
    refine ⟨(n0.cell 0).trans rfl, n1, (hbX.cell (p := ⟨tb, 0, none⟩) (by show tb < _; omega)).trans cs0, (hbX.cell (p := ⟨tb, 2, none⟩) (by show tb < _; omega)).trans cm0, hfirst.same (hbX.block _ (by omega)), fun k hk => ?_⟩
    obtain ⟨r1, r2, r3⟩ := hrow k hk
    exact ⟨(hbX.cell (p := ⟨g, k * 19, none⟩) (by show g < _; omega)).trans r1, r2.same (fun o u hu => (hbX.cell (p := ⟨g, o, none⟩) (by show g < _; omega)).trans hu), (hbX.cell (p := ⟨g, k * 19 + 18, none⟩) (by show g < _; omega)).trans r3⟩
  have HIDS := Lib.hid hids
  have hT0 : BCtx tb g c bm T x w.heap.size X.drew := hB
  clear HC cs0 cm0 hfirst hrow hids n0 n1
  have hlt0 : w.heap.size + 1 < X.heap.size := by omega
  replace hltT : tb < X.heap.size := by omega
  replace hltg : g < X.heap.size := by omega
  replace hltm : bm < X.heap.size := by omega
  refine Oi.till_region (BCtx tb g c bm T x w.heap.size) 8 (by kernel_rfl) rfl ?_
  simp only [Array.replicate_succ, Array.replicate_zero, List.push_toArray, List.nil_append, List.cons_append]
  refine Oi.Till.take (i := 0) (v := .pointer (some ⟨tb, 0, none⟩)) 9 rfl rfl (by kernel_rfl) (by kernel_rfl) (by kernel_rfl) (.inl ⟨by rfl, ?_⟩) (fun _ => rfl) hT0 ?_
  · intro wx hSw
    obtain ⟨cb, ci, cs, cm, cf, cr⟩ := hSw
    go_simp
  simp only [Act.put, List.setIfInBounds_toArray, List.set_cons_zero, List.set_cons_succ]
  refine Oi.Till.take (i := 1) (v := .pointer (some ⟨tb, 0, none⟩)) 10 rfl rfl (by kernel_rfl) (by kernel_rfl) (by kernel_rfl) (.inl ⟨by rfl, ?_⟩) (fun _ => rfl) hT0 ?_
  · intro wx hSw
    obtain ⟨cb, ci, cs, cm, cf, cr⟩ := hSw
    go_simp
  simp only [Act.put, List.setIfInBounds_toArray, List.set_cons_zero, List.set_cons_succ]
  refine Oi.Till.take (i := 2) (v := .pointer (some ⟨tb, 2, none⟩)) 11 rfl rfl (by kernel_rfl) (by kernel_rfl) (by kernel_rfl) (.inl ⟨by rfl, ?_⟩) (fun _ => rfl) hT0 ?_
  · intro wx hSw
    obtain ⟨cb, ci, cs, cm, cf, cr⟩ := hSw
    go_simp
  simp only [Act.put, List.setIfInBounds_toArray, List.set_cons_zero, List.set_cons_succ]
  refine Oi.Till.take (i := 3) (v := .map (some bm)) 12 rfl rfl (by kernel_rfl) (by kernel_rfl) (by kernel_rfl) (.inl ⟨by rfl, ?_⟩) (fun _ => rfl) hT0 ?_
  · intro wx hSw
    obtain ⟨cb, ci, cs, cm, cf, cr⟩ := hSw
    go_simp
  simp only [Act.put, List.setIfInBounds_toArray, List.set_cons_zero, List.set_cons_succ]
  refine Oi.Till.take (i := 4) (v := x.V) 13 rfl rfl (by kernel_rfl) (by kernel_rfl) (by kernel_rfl) (.inl ⟨by rfl, ?_⟩) (fun _ => rfl) hT0 ?_
  · intro wx hSw
    obtain ⟨cb, ci, cs, cm, cf, cr⟩ := hSw
    exact Ld.exec_at 75 (.tmp 5) rfl (w.heap.size + 1) 0 rfl (idL x) _ (At.of_Bk ci) Try.underlying75 rfl info_idn
  simp only [Act.put, List.setIfInBounds_toArray, List.set_cons_zero, List.set_cons_succ]
  refine Oi.Till.take (i := 5) (v := .int .i64 (T.first x : Int)) 14 rfl rfl (by kernel_rfl) (by kernel_rfl) (by kernel_rfl) (.inl ⟨by rfl, ?_⟩) (fun _ => rfl) hT0 ?_
  · intro wx hSw
    obtain ⟨cb, ci, cs, cm, cf, cr⟩ := hSw
    have hl := look_first cf hx.out; simp [execOp, go_sem, hl]
  simp only [Act.put, List.setIfInBounds_toArray, List.set_cons_zero, List.set_cons_succ]
  refine Oi.Till.one (i := 6) (by kernel_rfl) rfl (fun K hK => ?_)
  rw [if_pos (by kernel_rfl)]
  go_simp
  have hT1 : BCtx tb g c bm T x w.heap.size (X.drew.alloc (.cells #[.int .i64 0] 3)) := hT0.bel ((Below.refl _ _).alloc (Nat.le_refl _) _) hlt0 hltT hltg hltm
  refine hK.out _ _ hT1 ?_
  clear hK K
  simp only [Act.put, List.setIfInBounds_toArray, List.set_cons_zero, List.set_cons_succ]
  refine Oi.Till.one (i := 7) (by kernel_rfl) rfl (fun K hK => ?_)
  rw [if_pos (by kernel_rfl)]
  go_simp
  have hY : Below X.heap.size X (X.alloc (.cells #[.int .i64 (T.first x : Int)] 3)).drew := ((Below.refl _ _).alloc (Nat.le_refl _) _).trans ⟨rfl, rfl, rfl, Nat.le_refl _, fun _ _ => rfl⟩
  have hT2 : BCtx tb g c bm T x w.heap.size (X.alloc (.cells #[.int .i64 (T.first x : Int)] 3)).drew := hB.bel hY hlt0 hltT hltg hltm
  refine hK.out _ _ hT2 ?_
  clear hK K
  simp only [Act.put, List.setIfInBounds_toArray, List.set_cons_zero, List.set_cons_succ]
  refine Oi.Till.done (by kernel_rfl) ?_
  have c7 : (X.alloc (.cells #[.int .i64 (T.first x : Int)] 3)).drew.cell? ⟨w.heap.size + 3, 0, none⟩ = some (.int .i64 (T.first x : Int)) := by
    have h := heap_alloc_new X (.cells #[.int .i64 (T.first x : Int)] 3)
    rw [hsz] at h
    rw [World.cell?, show ((X.alloc (.cells #[.int .i64 (T.first x : Int)] 3)).drew.heap)[w.heap.size + 3]? = _ from h]
    rfl
  have n3 : Da.Blk (X.alloc (.cells #[.int .i64 (T.first x : Int)] 3)).drew (w.heap.size + 2) 3 #[.int .i64 0] := (hY.block _ (by omega)).trans n2
  have hszY : (X.alloc (.cells #[.int .i64 (T.first x : Int)] 3)).drew.heap.size = w.heap.size + 4 := by show (X.alloc _).heap.size = _; simp [hsz]
  generalize (X.alloc (.cells #[.int .i64 (T.first x : Int)] 3)).drew = Y at *
  have hbY : Below w.heap.size w Y := hbX.trans (hY.mono (by omega))
  have c6 : Y.cell? ⟨w.heap.size + 1 + 1, 0, none⟩ = some (.int .i64 0) := (n3.cell 0).trans rfl
  have f6 : Y.frozen? ⟨w.heap.size + 1 + 1, 0, none⟩ = false := n3.frozen 0
  have HB2 := Lib.hid hT2
  have HbY := Lib.hid hbY
  have HN3 := Lib.hid n3
  clear hT0 hT1 hT2 hB hbX n2 hY n3 hbY
  by_cases hf : T.first x = 0
  · have d0 : ((T.first x : Int) == 0) = true := by rw [hf]; rfl
    have hz := Lib.hid (binder_zero HOK.out hs hf)
    clear hf
    gi_wp2_with fail
    have hF := (show Da.Blk (Y.setCell ⟨w.heap.size + 1 + 1, 0, none⟩ (.int .i64 0)) (w.heap.size + 1 + 1) 3 #[.int .i64 0] from heap_setCell_same Y _ 0 #[.int .i64 0] _ (.int .i64 0) HN3.out)
    have cF := (hF.cell 0).trans rfl
    refine ⟨.int .i64 0, ?_, ?_⟩
    · simp [results, Try.results45, go_sem, cF]
    · exact ⟨by rw [hz.out]; rfl, HbY.out.setCell (p := ⟨w.heap.size + 1 + 1, 0, none⟩) (by show w.heap.size ≤ w.heap.size + 1 + 1; omega) _⟩
  · have d0 : ((T.first x : Int) == 0) = false := by rw [beq_eq_false_iff_ne]; omega
    obtain ⟨cb, ci, cs, cm, cf, cr⟩ := HB2.out
    have HF := Lib.hid hf
    clear hf ci cf cr
    gi_wp2_with fail
    refine ⟨trivial, ?_⟩
    gi_at_call 36
    refine (callsIn_wide.2 (out_any _ _ _ _ _)).mono ?_
    rintro e Z ⟨rfl, hZ⟩
    simp only []
    have m1 := two_new Y #[.slice (some ⟨g, 0, none⟩) T.rows.length c] #[.int .i64 (s : Int)] 63 3
    rw [← hZ] at m1
    have hYZ : Below Y.heap.size Y Z := by rw [hZ]; exact bel_two _ _ _
    have hszZ : Z.heap.size = w.heap.size + 6 := by rw [hZ]; simp [hszY]
    obtain ⟨m1, m2⟩ := m1
    clear hZ
    have hB2 := HB2.out
    have BZ := hB2.bel hYZ (by omega) (by omega) (by omega) (by omega)
    have HBZ := Lib.hid BZ
    have HSL := Lib.hid ((m1.cell 0).trans rfl : Z.cell? ⟨Y.heap.size, 0, none⟩ = some (.slice (some ⟨g, 0, none⟩) T.rows.length c))
    have HSC := Lib.hid ((m2.cell 0).trans rfl : Z.cell? ⟨Y.heap.size + 1, 0, none⟩ = some (.int .i64 (s : Int)))
    have c7Z := (hYZ.cell (p := ⟨w.heap.size + 3, 0, none⟩) (by show w.heap.size + 3 < _; omega)).trans c7
    have n3Z : Da.Blk Z (w.heap.size + 1 + 1) 3 #[.int .i64 0] := (hYZ.block _ (by omega)).trans HN3.out
    have HC7 := Lib.hid c7Z
    have HN := Lib.hid n3Z
    have HbZ := Lib.hid (HbY.out.trans (hYZ.mono (by omega)))
    clear hB2 BZ m1 m2 c7 c7Z n3Z c6 f6 cb cs cm HB2 HN3 HbY hYZ d0
    gi_wp2_with fail
    have hZle : w.heap.size + 5 < Z.heap.size := by omega
    have hYle : Y.heap.size + 1 < Z.heap.size := by omega
    have HSY := Lib.hid hszY
    have HSZ := Lib.hid hszZ
    clear hszY hszZ
    refine wpIn_rangeFunc_ownH rfl (by omega) (gf := 47) (lb := #[.pointer (some ⟨Y.heap.size + 1, 0, none⟩), .pointer (some ⟨Y.heap.size, 0, none⟩)]) rfl trivial (enters_of Try.func47 (by kernel_rfl) rfl)
      (out_stops (5 - 1) Y.heap.size Z.heap.size (Y.heap.size + 1) (by omega) T HOK.out s hs Z (fun W W' => Below Z.heap.size W W') ?kp ?rd HSC.out (by omega))
      (fun h k => h.trans k) (fun W l o o' hl _ _ _ => bel_put o' hl) (Below.refl _ _) (fun _ => rfl)
      (BI T x Z) (BX T x Z w (w.heap.size + 1 + 1)) BI.own (BX.own (by omega)) ⟨by simp, Below.refl _ _⟩
      (fun y a' _ => a' = { tmps := #[.pointer (some ⟨tb, 0, none⟩), .int .i64 (s : Int), .agg #[.string ⟨x.s.toArray⟩, .int .i32 (pad x.m 0), .int .i32 (pad x.m 1), .int .i32 (pad x.m 2), .int .i32 (pad x.m 3), .int .i32 (pad x.m 4), .int .i32 (pad x.m 5), .int .i32 (pad x.m 6), .int .i32 (pad x.m 7), .int .i32 (pad x.m 8), .int .i32 (pad x.m 9), .int .i32 (pad x.m 10), .int .i32 (pad x.m 11), .int .i32 (pad x.m 12), .int .i32 (pad x.m 13), .int .i32 (pad x.m 14), .int .i32 (pad x.m 15)], .pointer (some ⟨w.heap.size, 0, none⟩), undef, .pointer (some ⟨w.heap.size + 1, 0, none⟩), .pointer (some ⟨w.heap.size + 1 + 1, 0, none⟩), .pointer (some ⟨w.heap.size + 3, 0, none⟩), .int .i64 (y.1 : Int), .pointer (some ⟨tb, 0, none⟩), .pointer (some ⟨tb, 0, none⟩), .pointer (some ⟨tb, 2, none⟩), .map (some bm), x.V, .int .i64 (T.first x : Int), .int .i64 (T.first x : Int), .bool false, .pointer (some ⟨tb, 0, none⟩), .pointer (some ⟨tb, 0, none⟩), .pointer (some ⟨tb, 0, none⟩), .slice (some ⟨g, 0, none⟩) T.rows.length c, .int .i64 (s : Int), .func (.func 47) #[] #[.pointer (some ⟨Y.heap.size + 1, 0, none⟩), .pointer (some ⟨Y.heap.size, 0, none⟩)], .int .i64 (y.1 : Int), undef, undef, undef, undef, undef, undef, undef, undef, undef, undef, undef, undef, undef, undef], defers := [] }) (fun _ _ _ _ _ _ hs _ _ => hs) ?assign ?body ?done ?stop
    case assign =>
      rintro l pre y W K hI hK
      gi_wp2_with fail
      exact hK _ _ (KeepsFrom.refl _ _) (Below.refl _ _) hI rfl
    case rd =>
      intro W h
      obtain ⟨cb, ci, cs, cm, cf, cr⟩ := HBZ.out.bel h (by omega) (by omega) (by omega) (by omega)
      exact ⟨g, c, ⟨by omega, by omega⟩, (h.cell (p := ⟨Y.heap.size, 0, none⟩) (by show Y.heap.size < _; omega)).trans HSL.out, fun k hk => (cr k hk).1⟩
    case kp => exact fun W W' h k => k.bel h
    case body =>
      rintro l pre ⟨y, hy0, hyl⟩ a' W hl ⟨r, hr⟩ ⟨hpre, hbel⟩ rfl hlt
      have HP := Lib.hid hpre
      have Hbel := Lib.hid hbel
      have c7 := (hbel.cell (p := ⟨w.heap.size + 3, 0, none⟩) (by show w.heap.size + 3 < _; omega)).trans HC7.out
      have hT0 : BCtx tb g c bm T x w.heap.size W.drew := HBZ.out.bel (hbel.trans ⟨rfl, rfl, rfl, Nat.le_refl _, fun _ _ => rfl⟩) (by omega) (by omega) (by omega) (by omega)
      clear hpre hbel hlt hr
      by_cases hlt : y < T.first x
      · have dl : decide ((y : Int) < (T.first x : Int)) = true := by simp; omega
        have HLT := Lib.hid hlt
        clear hlt hT0
        gi_wp2_with fail
        exact ⟨KeepsFrom.refl _ _, pre, ⟨y, hy0, hyl⟩, rfl, HP.out, .inl ⟨rfl, HLT.out, Hbel.out⟩⟩
      · have dl : decide (y < T.first x) = false := decide_eq_false hlt
        have nW : Da.Blk W.drew (w.heap.size + 1 + 1) 3 #[.int .i64 0] := (Hbel.out.block _ (by omega)).trans HN.out
        have HT0 := Lib.hid hT0
        have i0 : (0 : Int) ≤ (y : Int) := Int.natCast_nonneg _
        have i1 : (y : Int) < (T.rows.length : Int) := by omega
        clear hlt hT0
        gi_wp2_with fail
        have hT0 := HT0.out
        have hids := HIDS.out
        refine Oi.till_region (BCtx tb g c bm T x w.heap.size) 10 (by kernel_rfl) rfl ?_
        simp only [Array.replicate_succ, Array.replicate_zero, List.push_toArray, List.nil_append, List.cons_append]
        refine Oi.Till.take (i := 0) (v := .pointer (some ⟨tb, 0, none⟩)) 27 rfl rfl (by kernel_rfl) (by kernel_rfl) (by kernel_rfl) (.inl ⟨by rfl, ?_⟩) (fun _ => rfl) hT0 ?_
        · intro wx hSw
          obtain ⟨cb, ci, cs, cm, cf, cr⟩ := hSw
          go_simp
        simp only [Act.put, List.setIfInBounds_toArray, List.set_cons_zero, List.set_cons_succ]
        refine Oi.Till.take (i := 1) (v := .pointer (some ⟨tb, 0, none⟩)) 28 rfl rfl (by kernel_rfl) (by kernel_rfl) (by kernel_rfl) (.inl ⟨by rfl, ?_⟩) (fun _ => rfl) hT0 ?_
        · intro wx hSw
          obtain ⟨cb, ci, cs, cm, cf, cr⟩ := hSw
          go_simp
        simp only [Act.put, List.setIfInBounds_toArray, List.set_cons_zero, List.set_cons_succ]
        refine Oi.Till.take (i := 2) (v := .pointer (some ⟨tb, 0, none⟩)) 29 rfl rfl (by kernel_rfl) (by kernel_rfl) (by kernel_rfl) (.inl ⟨by rfl, ?_⟩) (fun _ => rfl) hT0 ?_
        · intro wx hSw
          obtain ⟨cb, ci, cs, cm, cf, cr⟩ := hSw
          go_simp
        simp only [Act.put, List.setIfInBounds_toArray, List.set_cons_zero, List.set_cons_succ]
        refine Oi.Till.take (i := 3) (v := .slice (some ⟨g, 0, none⟩) T.rows.length c) 30 rfl rfl (by kernel_rfl) (by kernel_rfl) (by kernel_rfl) (.inl ⟨by rfl, ?_⟩) (fun _ => rfl) hT0 ?_
        · intro wx hSw
          obtain ⟨cb, ci, cs, cm, cf, cr⟩ := hSw
          go_simp
        simp only [Act.put, List.setIfInBounds_toArray, List.set_cons_zero, List.set_cons_succ]
        refine Oi.Till.take (i := 4) (v := .int .i64 (y : Int)) 31 rfl rfl (by kernel_rfl) (by kernel_rfl) (by kernel_rfl) (.inl ⟨by rfl, ?_⟩) (fun _ => rfl) hT0 ?_
        · intro wx hSw
          obtain ⟨cb, ci, cs, cm, cf, cr⟩ := hSw
          go_simp
        simp only [Act.put, List.setIfInBounds_toArray, List.set_cons_zero, List.set_cons_succ]
        refine Oi.Till.take (i := 5) (v := .pointer (some ⟨g, y * 19, none⟩)) 32 rfl rfl (by kernel_rfl) (by kernel_rfl) (by kernel_rfl) (.inl ⟨by rfl, ?_⟩) (fun _ => rfl) hT0 ?_
        · intro wx hSw
          obtain ⟨cb, ci, cs, cm, cf, cr⟩ := hSw
          go_simp
        simp only [Act.put, List.setIfInBounds_toArray, List.set_cons_zero, List.set_cons_succ]
        refine Oi.Till.take (i := 6) (v := .pointer (some ⟨g, y * 19 + 1, none⟩)) 33 rfl rfl (by kernel_rfl) (by kernel_rfl) (by kernel_rfl) (.inl ⟨by rfl, ?_⟩) (fun _ => rfl) hT0 ?_
        · intro wx hSw
          obtain ⟨cb, ci, cs, cm, cf, cr⟩ := hSw
          go_simp
        simp only [Act.put, List.setIfInBounds_toArray, List.set_cons_zero, List.set_cons_succ]
        refine Oi.Till.take (i := 7) (v := (T.id y).V) 34 rfl rfl (by kernel_rfl) (by kernel_rfl) (by kernel_rfl) (.inl ⟨by rfl, ?_⟩) (fun _ => rfl) hT0 ?_
        · intro wx hSw
          obtain ⟨cb, ci, cs, cm, cf, cr⟩ := hSw
          exact Ld.exec_at 75 (.tmp 33) rfl g (y * 19 + 1) rfl (idL (T.id y)) _ ((cr y hyl).2.1) Try.underlying75 rfl info_idn
        simp only [Act.put, List.setIfInBounds_toArray, List.set_cons_zero, List.set_cons_succ]
        refine Oi.Till.take (i := 8) (v := x.V) 35 rfl rfl (by kernel_rfl) (by kernel_rfl) (by kernel_rfl) (.inl ⟨by rfl, ?_⟩) (fun _ => rfl) hT0 ?_
        · intro wx hSw
          obtain ⟨cb, ci, cs, cm, cf, cr⟩ := hSw
          exact Ld.exec_at 75 (.tmp 5) rfl (w.heap.size + 1) 0 rfl (idL x) _ (At.of_Bk ci) Try.underlying75 rfl info_idn
        simp only [Act.put, List.setIfInBounds_toArray, List.set_cons_zero, List.set_cons_succ]
        refine Oi.Till.take (i := 9) (v := .bool (decide (T.id y = x))) 36 rfl rfl (by kernel_rfl) (by kernel_rfl) (by kernel_rfl) (.inl ⟨by rfl, ?_⟩) (fun _ => rfl) hT0 ?_
        · intro wx hSw
          obtain ⟨cb, ci, cs, cm, cf, cr⟩ := hSw
          have he := eq_id (T.id y) x (hids y hyl) hx.out wx; have hgd := guard_id (.tmp 34) (.tmp 35) (T.id y) x wx; simp [execOp, go_sem, hgd, he]
        simp only [Act.put, List.setIfInBounds_toArray, List.set_cons_zero, List.set_cons_succ]
        refine Oi.Till.done (by kernel_rfl) ?_
        have c6 : W.drew.cell? ⟨w.heap.size + 1 + 1, 0, none⟩ = some (.int .i64 0) := (nW.cell 0).trans rfl
        have f6 : W.drew.frozen? ⟨w.heap.size + 1 + 1, 0, none⟩ = false := nW.frozen 0
        have HNW := Lib.hid nW
        clear hT0 hids nW c7
        by_cases hid : T.id y = x
        · have de : decide (T.id y = x) = true := decide_eq_true hid
          have HID := Lib.hid hid
          clear hid
          gi_wp2_with fail
          have hg := grownBy_setCell' W.drew (w.heap.size + 1 + 1) (.int .i64 (y : Int))
          have hg' : W.grownBy (W.drew.setCell ⟨w.heap.size + 1 + 1, 0, none⟩ (.int .i64 (y : Int))) (some (w.heap.size + 1 + 1)) := ⟨hg.os, hg.tape, hg.output, hg.size, hg.block⟩
          refine ⟨KeepsFrom.of_grownBy hg' (fun j e => by cases e; omega), pre, ⟨y, hy0, hyl⟩, rfl, HP.out, .inr ⟨rfl, HID.out, ?_, ?_⟩⟩
          · exact heap_setCell_same W.drew _ 0 #[.int .i64 0] _ (.int .i64 (y : Int)) HNW.out
          · exact HbZ.out.trans ((Hbel.out.mono (by omega)).trans ((Below.setCell (p := ⟨w.heap.size + 1 + 1, 0, none⟩) (bel_drew0 W w.heap.size) (by show w.heap.size ≤ w.heap.size + 1 + 1; omega) _)))
        · have de : decide (T.id y = x) = false := decide_eq_false hid
          have HID := Lib.hid hid
          clear hid
          gi_wp2_with fail
          refine ⟨⟨Nat.le_refl _, fun _ _ _ h _ => h⟩, bel_drew0 W _, fun i hi => ?_, Hbel.out.trans (bel_drew0 W _)⟩
          rcases List.mem_append.1 hi with h | h
          · exact HP.out i h
          · obtain rfl : i = ⟨y, hy0, hyl⟩ := by simpa using h
            exact HID.out
    case done =>
      rintro D xs W hD hS ⟨hpre, hbel⟩ hK
      have nW : Da.Blk W (w.heap.size + 1 + 1) 3 #[.int .i64 0] := (hbel.block _ (by omega)).trans HN.out
      have c6 : W.cell? ⟨w.heap.size + 1 + 1, 0, none⟩ = some (.int .i64 0) := (nW.cell 0).trans rfl
      have f6 : W.frozen? ⟨w.heap.size + 1 + 1, 0, none⟩ = false := nW.frozen 0
      have hz : T.binder s x = 0 := binder_full (fun i hi => by
        have hi' : i ∈ xs.map (·.1) := by rw [hS]; exact hi
        obtain ⟨j, hj, rfl⟩ := List.mem_map.1 hi'
        exact hpre j hj)
      have HZ := Lib.hid hz
      have HNW := Lib.hid nW
      have Hbel := Lib.hid hbel
      have HK := Lib.hid hK
      clear hz nW hbel hpre hS hK
      gi_wp2_with fail
      rw [HZ.out]
      exact binder_fin w _ _ D 0 _ rfl (((show Da.Blk (W.setCell ⟨w.heap.size + 1 + 1, 0, none⟩ (.int .i64 0)) (w.heap.size + 1 + 1) 3 #[.int .i64 0] from heap_setCell_same W _ 0 #[.int .i64 0] _ (.int .i64 0) HNW.out).cell 0).trans rfl) ((Below.heap_setCell _ _ _ _ (by show D ≠ w.heap.size + 1 + 1; omega)).trans HK.out) ((HbZ.out.trans (Hbel.out.mono (by omega))).setCell (p := ⟨w.heap.size + 1 + 1, 0, none⟩) (by show w.heap.size ≤ w.heap.size + 1 + 1; omega) _) (by omega)
    case stop =>
      rintro D cc q W hD hSp ⟨pre, y, rfl, hpre, hcase⟩ hK
      have hch : pre.map (·.1) ++ [y.1] <+: T.chain s := by simpa using hSp
      have hn : ∀ i ∈ pre.map (·.1), T.id i ≠ x := fun i hi => by
        obtain ⟨j, hj, rfl⟩ := List.mem_map.1 hi
        exact hpre j hj
      have HK := Lib.hid hK
      rcases hcase with ⟨rfl, hlt, hbel⟩ | ⟨rfl, hid, hbox, hbel⟩
      · have nW : Da.Blk W (w.heap.size + 1 + 1) 3 #[.int .i64 0] := (hbel.block _ (by omega)).trans HN.out
        have c6 : W.cell? ⟨w.heap.size + 1 + 1, 0, none⟩ = some (.int .i64 0) := (nW.cell 0).trans rfl
        have f6 : W.frozen? ⟨w.heap.size + 1 + 1, 0, none⟩ = false := nW.frozen 0
        have HZ := Lib.hid (binder_stop HOK.out hs hch hn hlt)
        have HNW := Lib.hid nW
        have Hbel := Lib.hid hbel
        clear nW hbel hpre hSp hK hlt hch hn
        gi_wp2_with fail
        rw [HZ.out]
        exact binder_fin w _ _ D 0 _ rfl (((show Da.Blk (W.setCell ⟨w.heap.size + 1 + 1, 0, none⟩ (.int .i64 0)) (w.heap.size + 1 + 1) 3 #[.int .i64 0] from heap_setCell_same W _ 0 #[.int .i64 0] _ (.int .i64 0) HNW.out).cell 0).trans rfl) ((Below.heap_setCell _ _ _ _ (by show D ≠ w.heap.size + 1 + 1; omega)).trans HK.out) ((HbZ.out.trans (Hbel.out.mono (by omega))).setCell (p := ⟨w.heap.size + 1 + 1, 0, none⟩) (by show w.heap.size ≤ w.heap.size + 1 + 1; omega) _) (by omega)
      · have HZ := Lib.hid (binder_hit hch hn hid)
        have Hbel := Lib.hid hbel
        have Hbox := Lib.hid hbox
        clear hbel hpre hSp hK hch hn hid hbox
        gi_wp2_with fail
        rw [HZ.out]
        exact binder_fin w _ _ D y.1 _ rfl Hbox.out.cell HK.out Hbel.out (by omega)
end Go.Proofs.Ytapnighankepjaa.Sc
end
section
namespace Go.Proofs.Ytapnighankepjaa.Sc
open Go.ChangeShapes Go.WideShapes Go.ChangeAt Go.RowKit
set_option linter.unusedVariables false
set_option linter.unusedSimpArgs false
theorem unmark_any (x : Idn) (hx : x.Ok) (w : World) : Calls Try.prog 46 #[x.V] w fun e w' => e = .returned (.tuple #[x.less.V, .int .i64 x.last]) ∧ Below w.heap.size w w' := by
  by_cases h0 : x.m = []
  · exact unmark_none x hx h0 w
  · exact unmark_some x hx h0 w
end Go.Proofs.Ytapnighankepjaa.Sc
end
section
namespace Go.Proofs.Ytapnighankepjaa.Sc
open Go.ChangeShapes Go.WideShapes Go.ChangeAt Go.RowKit
set_option linter.unusedVariables false
set_option linter.unusedSimpArgs false

theorem load_id {ops : Array Oper} {rest : List Oper} {o : Oper} {a : Act} {w : World} {Q : Exit → Act → World → Prop} (x : Operand) (g off : Nat) (y : Idn) (hgd : o.guard = none) (ho : o.op = .load 75 x)
    (hx : a.eval x = .pointer (some ⟨g, off, none⟩)) (hat : Ld.At w g off (idL y)) (h : wpList Try.prog ops Q rest (a.put o.dst y.V) w) : wpList Try.prog ops Q (o :: rest) a w :=
  Ld.wpList_at hgd 75 x ho g off hx (idL y) _ hat Try.underlying75 rfl info_idn h
def Seen.V (z : Seen) : Value := .agg #[.int .i64 (z.scope : Int), .int .i64 z.what, .string ⟨z.name.toArray⟩]
theorem binder_lt {T : Tab} (h : T.Ok) {s : Nat} {x : Idn} (hs : s < T.rows.length) (hb : T.binder s x ≠ 0) : T.binder s x < T.rows.length := by
  unfold Tab.binder at hb ⊢
  rcases hf : (T.chain s).find? (fun i => T.id i == x) with _ | j
  · rw [hf] at hb; exact absurd rfl hb
  · exact (chain_lt h s hs j (List.mem_of_find?_eq_some hf)).2.2
theorem seen_hit {T : Tab} {s : Nat} {x : Idn} (hb : T.binder s x ≠ 0) : T.seen s x = ⟨T.binder s x, T.what (T.binder s x), []⟩ := by
  unfold Tab.seen
  rcases x with ⟨t, m⟩
  simp only at hb ⊢
  cases hr : m.reverse with
  | nil => 
    obtain rfl : m = [] := by simpa using hr
    rw [Tab.seenR, if_neg hb]
  | cons k r =>
    have hm : m = (k :: r).reverse := by rw [← hr, List.reverse_reverse]
    subst hm
    rw [Tab.seenR, if_neg hb]
theorem seen_free {T : Tab} {s : Nat} {x : Idn} (hb : T.binder s x = 0) (hm : x.m = []) : T.seen s x = ⟨0, 0, x.s⟩ := by
  unfold Tab.seen
  rcases x with ⟨t, m⟩
  simp only at hb hm ⊢
  subst hm
  rw [List.reverse_nil, Tab.seenR, if_pos hb]
theorem seen_less {T : Tab} {s : Nat} {x : Idn} (hb : T.binder s x = 0) (hm : x.m ≠ []) : T.seen s x = T.seen (T.marks.getD (x.last.toNat - 1) 0) x.less := by
  unfold Tab.seen Idn.less Idn.last
  rcases x with ⟨t, m⟩
  simp only at hb hm ⊢
  obtain ⟨r, k, rfl⟩ : ∃ r k, m = r ++ [k] := ⟨m.dropLast, m.getLast hm, (List.dropLast_concat_getLast hm).symm⟩
  rw [List.reverse_append, List.reverse_singleton, List.singleton_append, Tab.seenR, if_pos (by rw [List.reverse_cons, List.reverse_reverse]; exact hb), List.dropLast_concat, List.getLastD_concat]
theorem cell_row_ne (W : World) (c : Array Value) {g b : Nat} (h : b ≠ g) (o : Nat) : (W.setRow g c).cell? ⟨b, o, none⟩ = W.cell? ⟨b, o, none⟩ := World.cell?_of_block (a := ⟨b, o, none⟩) (setRow_other W g b c h)
theorem marks_at {w : World} {a : Option Addr} {c : Nat} {l : List Nat} (h : w.ownsRow 0 3 1 (.slice a l.length c) l.length (marksC l)) (hl : 0 < l.length) :
    ∃ g, a = some ⟨g, 0, none⟩ ∧ g < w.heap.size ∧ ∀ k, k < l.length → w.cell? ⟨g, k, none⟩ = some (.int .i64 ((l.getD k 0 : Nat) : Int)) := by
  obtain ⟨g, e, hlt, _, hc⟩ := row_cells h hl
  refine ⟨g, e, hlt, fun k hk => hc k _ ?_⟩
  unfold marksC
  rw [List.getElem?_map, List.getD_eq_getElem?_getD, List.getElem?_eq_getElem hk]
  rfl
/-- The marks of an identifier were made. -/
def Made (T : Tab) (x : Idn) : Prop := ∀ k ∈ x.m, k ≤ (T.marks.length : Int)
theorem last_mem {x : Idn} (h : x.m ≠ []) : x.last ∈ x.m := by
  unfold Idn.last
  rw [← List.dropLast_concat_getLast h, List.getLastD_concat]
  simp
theorem info_seen : (Try.prog.info? 49).map (·.size) = some 3 := by kernel_rfl
def seenC (z : Seen) : Array Value := #[.int .i64 (z.scope : Int), .int .i64 z.what, .string ⟨z.name.toArray⟩]
theorem seenC_one (z : Seen) : (seenC z).all (·.oneCell') = true := by unfold seenC; simp [Value.oneCell']
theorem res_fin (w W : World) (tm : Array Value) (z : Seen) (r : Nat) (h6 : tm.getD 6 undef = .pointer (some ⟨r, 0, none⟩)) (hb : Da.Blk W r 49 (seenC z)) (hbel : Below w.heap.size w W) :
    bodyPost Try.prog Try.f33 (fun e w' => e = .returned z.V ∧ Below w.heap.size w w') Exit.ret { tmps := tm, defers := [] } W :=
  bodyPost_ret (results_cell_row rfl tm W r _ (seenC z) _ _ h6 hb Try.underlying49 rfl info_seen) rfl ⟨rfl, hbel⟩
def ResAt (w : World) (T : Tab) (x : Idn) (s : Nat) (k : Nat) (i : Value) (wr : World) : Prop :=
  ∃ (y : Idn) (c : Nat), i = .int .i64 (c : Int) ∧ c < T.rows.length ∧ y.Ok ∧ Made T y ∧ k = y.m.length ∧ Hid (T.seen c y = T.seen s x) ∧ Bk wr w.heap.size y.s (pad y.m) ∧ Da.Blk wr (w.heap.size + 1) 49 #[.int .i64 0, .int .i64 0, .string ⟨#[]⟩] ∧ Below w.heap.size w wr
set_option maxRecDepth 100000 in
set_option maxHeartbeats 8000000 in
theorem resolve_any (tb : Nat) (T : Tab) (x : Idn) (s : Nat) (w : World) (vs vm : Value) (bm : Nat) (hx : x.Ok) (hmd : Made T x) (h : TabAt w tb T vs vm bm) (hs : s < T.rows.length) :
    Calls Try.prog 33 #[.pointer (some ⟨tb, 0, none⟩), .int .i64 (s : Int), x.V] w fun e w' => e = .returned (T.seen s x).V ∧ Below w.heap.size w w' := by
  have hltT := h.lt tb (.inl rfl)
  obtain ⟨a, c, rfl⟩ := slice_of h.rows
  obtain ⟨am, cm, rfl⟩ := slice_of h.marks
  obtain ⟨g, rfl, hltg, hown, hrow⟩ := at_row h.rows h.ok.pos
  have HOK := Lib.hid h.ok
  have HT := Lib.hid h
  have HROW := Lib.hid hrow
  have cs0 : w.cell? ⟨tb, 0, none⟩ = some (.slice (some ⟨g, 0, none⟩) T.rows.length c) := (h.blk.cell 0).trans rfl
  have cm0 : w.cell? ⟨tb, 1, none⟩ = some (.slice am T.marks.length cm) := (h.blk.cell 1).trans rfl
  have HC := Lib.hid (And.intro cs0 cm0)
  have HX := Lib.hid hx
  have HMD := Lib.hid hmd
  have HS := Lib.hid hs
  clear h hown hrow cs0 cm0 hx hmd hs
  unfold Idn.V idA
  go_enter Try.func33, Try.ntmps33
  go_wp2_with fail
  obtain ⟨n1, n2⟩ := two_new w (A17 x.s (pad x.m)) #[.int .i64 0, .int .i64 0, .string ⟨#[]⟩] 75 49
  have HN := Lib.hid (And.intro n1 (And.intro n2 (bel_two w (.cells (A17 x.s (pad x.m)) 75) (.cells #[.int .i64 0, .int .i64 0, .string ⟨#[]⟩] 49))))
  clear n1 n2
  go_loopg [1] x.m.length (fun k i wr => ResAt w T x s k i wr)
  case atStart => exact ⟨x, s, rfl, HS.out, HX.out, HMD.out, rfl, Lib.hid rfl, HN.out.1, HN.out.2.1, HN.out.2.2⟩
  case round =>
    clear HN HX HMD HS
    obtain ⟨y, cu, rfl, hcl, hy, hmd, rfl, hseen, hby, hsn, hbel⟩ := hrel
    have HY := Lib.hid hy
    have HMY := Lib.hid hmd
    have HBY := Lib.hid hby
    have HSN := Lib.hid hsn
    have Hbel := Lib.hid hbel
    have hbl : w.heap.size < wr.heap.size := (Array.getElem?_eq_some_iff.1 hby).1
    have HTW := Lib.hid (HT.out.bel hbel)
    clear hy hmd hby hsn hbel
    go_wp2_with (refine load_id (.tmp 5) w.heap.size 0 y rfl rfl rfl (At.of_Bk HBY.out) ?_)
    refine (binder_any tb T y cu _ _ _ bm HY HTW.out hcl).mono ?_
    rintro e w2 ⟨rfl, hb2⟩
    replace HBY := Lib.hid (HBY.out.keep hb2)
    replace HSN := Lib.hid (show Da.Blk w2 (w.heap.size + 1) 49 #[.int .i64 0, .int .i64 0, .string ⟨#[]⟩] from (hb2.block _ (Array.getElem?_eq_some_iff.1 HSN.out).1).trans HSN.out)
    replace Hbel := Lib.hid (Hbel.out.trans (hb2.mono Hbel.out.size))
    replace hbl : w.heap.size < w2.heap.size := Nat.lt_of_lt_of_le hbl hb2.size
    clear hb2 HTW
    have cs0 : w2.cell? ⟨tb, 0, none⟩ = some (.slice (some ⟨g, 0, none⟩) T.rows.length c) := (Hbel.out.cell (p := ⟨tb, 0, none⟩) hltT).trans HC.out.1
    have cm0 : w2.cell? ⟨tb, 1, none⟩ = some (.slice am T.marks.length cm) := (Hbel.out.cell (p := ⟨tb, 1, none⟩) hltT).trans HC.out.2
    by_cases hb0 : T.binder cu y = 0
    · have d0 : ((T.binder cu y : Int) != 0) = false := by rw [hb0]; rfl
      have HB0 := Lib.hid hb0
      clear hb0 cs0
      go_wp2_with (refine load_id (.tmp 5) w.heap.size 0 y rfl rfl rfl (At.of_Bk HBY.out) ?_)
      refine (unmark_any y HY _).mono ?_
      rintro e w3 ⟨rfl, hb3⟩
      replace HBY := Lib.hid (HBY.out.keep hb3)
      replace HSN := Lib.hid (show Da.Blk w3 (w.heap.size + 1) 49 #[.int .i64 0, .int .i64 0, .string ⟨#[]⟩] from (hb3.block _ (Array.getElem?_eq_some_iff.1 HSN.out).1).trans HSN.out)
      replace Hbel := Lib.hid (Hbel.out.trans (hb3.mono Hbel.out.size))
      have cm3 : w3.cell? ⟨tb, 1, none⟩ = some (.slice am T.marks.length cm) := (Hbel.out.cell (p := ⟨tb, 1, none⟩) hltT).trans HC.out.2
      have hlt3 : w.heap.size + 1 < w3.heap.size := (Array.getElem?_eq_some_iff.1 HSN.out).1
      clear hb3 cm0 hbl
      generalize hz : y.less = z
      have HZ := Lib.hid hz
      generalize hlm : y.last = lm
      have HLM := Lib.hid hlm
      clear hz hlm
      have hlm : Hid (lm = y.last) := Lib.hid HLM.out.symm
      by_cases hm : y.m = []
      · have hl0 : lm = 0 := by rw [← HLM.out]; unfold Idn.last; rw [hm]; rfl
        have d1 : (lm == 0) = true := by rw [hl0]; rfl
        have HSE := Lib.hid (hseen.out.symm.trans (seen_free HB0.out hm))
        clear hl0 hm
        go_upto_region 5 with (refine wpList_store_row rfl 75 (.tmp 8) (.tmp 29) rfl w3.heap.size (A17 z.s (pad z.m)) rfl rfl 75 (A17 [] (fun _ => 0)) (heap_alloc_new w3 _) info_id rfl (A17_one _ _) ?_)
        generalize hX : (World.setRow (World.alloc w3 _) w3.heap.size (A17 z.s (pad z.m))) = W4
        have hb4 : Below w3.heap.size w3 W4 := by rw [← hX]; exact bel_row ((Below.refl _ _).alloc (Nat.le_refl _) _) _ _ (Nat.le_refl _)
        replace HBY := Lib.hid (HBY.out.keep hb4)
        replace HSN := Lib.hid (show Da.Blk W4 (w.heap.size + 1) 49 #[.int .i64 0, .int .i64 0, .string ⟨#[]⟩] from (hb4.block _ hlt3).trans HSN.out)
        replace Hbel := Lib.hid (Hbel.out.trans (hb4.mono Hbel.out.size))
        have ct : W4.cell? ⟨w.heap.size, 0, none⟩ = some (.string ⟨y.s.toArray⟩) := (HBY.out.cell 0).trans rfl
        clear hX hb4
        go_wp2_with (refine wpList_store_row rfl 49 (.tmp 6) (.tmp 35) rfl (w.heap.size + 1) (seenC ⟨0, 0, y.s⟩) rfl rfl 49 _ HSN.out info_seen rfl (seenC_one _) ?_)
        rw [HSE.out]
        exact res_fin w _ _ ⟨0, 0, y.s⟩ (w.heap.size + 1) rfl (setRow_heap _ _ _ _ _ _ HSN.out) (bel_row Hbel.out (w.heap.size + 1) _ (by omega))
      · have hlast := last_mem hm
        rw [HLM.out] at hlast
        have h1 := HY.mark lm hlast
        have h2 := HMY.out lm hlast
        have d1 : (lm == 0) = false := by rw [beq_eq_false_iff_ne]; omega
        have HSE := Lib.hid (hseen.out.symm.trans (seen_less HB0.out hm))
        have hlen : z.m.length + 1 = y.m.length := by rw [← HZ.out]; unfold Idn.less; rw [List.length_dropLast]; have := List.length_pos_iff.2 hm; omega
        clear hm
        obtain ⟨gm, rfl, hltg2, hmk⟩ := marks_at HT.out.marks (by omega)
        have hmk1 := (Hbel.out.cell (p := ⟨gm, lm.toNat - 1, none⟩) hltg2).trans (hmk _ (by omega))
        obtain ⟨pm, hpm⟩ : ∃ pm, T.marks.getD (lm.toNat - 1) 0 = pm := ⟨_, rfl⟩
        rw [hpm] at hmk1
        have HPM := Lib.hid hpm
        have HMK1 := Lib.hid hmk1
        have hpl : pm < T.rows.length := by
          rw [← hpm, List.getD_eq_getElem?_getD, List.getElem?_eq_getElem (show lm.toNat - 1 < T.marks.length by omega)]
          exact HOK.out.mark _ (List.getElem_mem _)
        clear hpm hmk1 hmk hlast
        go_upto_region 5 with (refine wpList_store_row rfl 75 (.tmp 8) (.tmp 29) rfl w3.heap.size (A17 z.s (pad z.m)) rfl rfl 75 (A17 [] (fun _ => 0)) (heap_alloc_new w3 _) info_id rfl (A17_one _ _) ?_)
        generalize hX : (World.setRow (World.alloc w3 _) w3.heap.size (A17 z.s (pad z.m))) = W5
        have hb4 : Below w3.heap.size w3 W5 := by rw [← hX]; exact bel_row ((Below.refl _ _).alloc (Nat.le_refl _) _) _ _ (Nat.le_refl _)
        have hzb : Bk W5 w3.heap.size z.s (pad z.m) := by rw [← hX]; exact (show Bk (w3.alloc _) w3.heap.size [] (fun _ => 0) from heap_alloc_new w3 _).row
        have HBYd := HBY.out.keep hb4
        replace HSN := Lib.hid (show Da.Blk W5 (w.heap.size + 1) 49 #[.int .i64 0, .int .i64 0, .string ⟨#[]⟩] from (hb4.block _ hlt3).trans HSN.out)
        have hbw := Hbel.out.size
        have cm5 : W5.cell? ⟨tb, 1, none⟩ = some (.slice (some ⟨gm, 0, none⟩) T.marks.length cm) := (hb4.cell (p := ⟨tb, 1, none⟩) (by show tb < _; omega)).trans cm3
        have ck5 : W5.cell? ⟨gm, lm.toNat - 1, none⟩ = some (.int .i64 (pm : Int)) := (hb4.cell (p := ⟨gm, _, none⟩) (by show gm < _; omega)).trans HMK1.out
        replace HBY := Lib.hid HBYd
        replace Hbel := Lib.hid (Hbel.out.trans (hb4.mono Hbel.out.size))
        have hnb : w3.heap.size ≠ w.heap.size := by omega
        have hT0 : (fun W : World => Bk W w3.heap.size z.s (pad z.m) ∧ W.cell? ⟨tb, 1, none⟩ = some (.slice (some ⟨gm, 0, none⟩) T.marks.length cm) ∧ W.cell? ⟨gm, lm.toNat - 1, none⟩ = some (.int .i64 (pm : Int)) ∧ True) W5.drew := ⟨hzb, cm5, ck5, trivial⟩
        have hwr := IntWalk.i64_in (lm - 1) (by omega)
        have j0 : (0 : Int) ≤ lm - 1 := by omega
        have j1 : lm - 1 < (T.marks.length : Int) := by omega
        have HT0 := Lib.hid hT0
        clear hX hb4 hzb cm5 ck5 HBYd cm3 hT0
        go_wp2_with fail
        have hT0 := HT0.out
        refine Od.till_region 11 (fun _ : World => True) (fun W : World => Bk W w3.heap.size z.s (pad z.m) ∧ W.cell? ⟨tb, 1, none⟩ = some (.slice (some ⟨gm, 0, none⟩) T.marks.length cm) ∧ W.cell? ⟨gm, lm.toNat - 1, none⟩ = some (.int .i64 (pm : Int)) ∧ True) 11 (by kernel_rfl) rfl ?_
        simp only [Array.replicate_succ, Array.replicate_zero, List.push_toArray, List.nil_append, List.cons_append]
        refine Od.Till.takeT (i := 0) (d := 36) (v := z.V) rfl rfl (by kernel_rfl) (by kernel_rfl) (by kernel_rfl) (by kernel_rfl) (fun _ _ _ h => h) (.inl ⟨by rfl, ?_⟩) trivial hT0 ?_
        · intro wx hSw
          obtain ⟨q1, q2, q3, q4⟩ := hSw
          exact Ld.exec_at 75 (.tmp 8) rfl w3.heap.size 0 rfl (idL z) _ (At.of_Bk q1) Try.underlying75 rfl info_idn
        simp only [Act.put, List.setIfInBounds_toArray, List.set_cons_zero, List.set_cons_succ]
        refine Od.Till.takeT (i := 1) (d := 37) (v := .pointer (some ⟨tb, 0, none⟩)) rfl rfl (by kernel_rfl) (by kernel_rfl) (by kernel_rfl) (by kernel_rfl) (fun _ _ _ h => h) (.inl ⟨by rfl, ?_⟩) trivial hT0 ?_
        · intro wx hSw
          obtain ⟨q1, q2, q3, q4⟩ := hSw
          go_simp
        simp only [Act.put, List.setIfInBounds_toArray, List.set_cons_zero, List.set_cons_succ]
        refine Od.Till.takeT (i := 2) (d := 38) (v := .pointer (some ⟨tb, 0, none⟩)) rfl rfl (by kernel_rfl) (by kernel_rfl) (by kernel_rfl) (by kernel_rfl) (fun _ _ _ h => h) (.inl ⟨by rfl, ?_⟩) trivial hT0 ?_
        · intro wx hSw
          obtain ⟨q1, q2, q3, q4⟩ := hSw
          go_simp
        simp only [Act.put, List.setIfInBounds_toArray, List.set_cons_zero, List.set_cons_succ]
        refine Od.Till.takeT (i := 3) (d := 39) (v := .pointer (some ⟨tb, 1, none⟩)) rfl rfl (by kernel_rfl) (by kernel_rfl) (by kernel_rfl) (by kernel_rfl) (fun _ _ _ h => h) (.inl ⟨by rfl, ?_⟩) trivial hT0 ?_
        · intro wx hSw
          obtain ⟨q1, q2, q3, q4⟩ := hSw
          go_simp
        simp only [Act.put, List.setIfInBounds_toArray, List.set_cons_zero, List.set_cons_succ]
        refine Od.Till.takeT (i := 4) (d := 40) (v := .slice (some ⟨gm, 0, none⟩) T.marks.length cm) rfl rfl (by kernel_rfl) (by kernel_rfl) (by kernel_rfl) (by kernel_rfl) (fun _ _ _ h => h) (.inl ⟨by rfl, ?_⟩) trivial hT0 ?_
        · intro wx hSw
          obtain ⟨q1, q2, q3, q4⟩ := hSw
          go_simp
        simp only [Act.put, List.setIfInBounds_toArray, List.set_cons_zero, List.set_cons_succ]
        refine Od.Till.takeT (i := 5) (d := 41) (v := .int .i64 lm) rfl rfl (by kernel_rfl) (by kernel_rfl) (by kernel_rfl) (by kernel_rfl) (fun _ _ _ h => h) (.inl ⟨by rfl, ?_⟩) trivial hT0 ?_
        · intro wx hSw
          obtain ⟨q1, q2, q3, q4⟩ := hSw
          go_simp
        simp only [Act.put, List.setIfInBounds_toArray, List.set_cons_zero, List.set_cons_succ]
        refine Od.Till.takeT (i := 6) (d := 42) (v := .int .i64 (lm - 1)) rfl rfl (by kernel_rfl) (by kernel_rfl) (by kernel_rfl) (by kernel_rfl) (fun _ _ _ h => h) (.inl ⟨by rfl, ?_⟩) trivial hT0 ?_
        · intro wx hSw
          obtain ⟨q1, q2, q3, q4⟩ := hSw
          go_simp
        simp only [Act.put, List.setIfInBounds_toArray, List.set_cons_zero, List.set_cons_succ]
        refine Od.Till.takeT (i := 7) (d := 43) (v := .pointer (some ⟨gm, lm.toNat - 1, none⟩)) rfl rfl (by kernel_rfl) (by kernel_rfl) (by kernel_rfl) (by kernel_rfl) (fun _ _ _ h => h) (.inl ⟨by rfl, ?_⟩) trivial hT0 ?_
        · intro wx hSw
          obtain ⟨q1, q2, q3, q4⟩ := hSw
          go_simp
        simp only [Act.put, List.setIfInBounds_toArray, List.set_cons_zero, List.set_cons_succ]
        refine Od.Till.takeT (i := 8) (d := 44) (v := .int .i64 (pm : Int)) rfl rfl (by kernel_rfl) (by kernel_rfl) (by kernel_rfl) (by kernel_rfl) (fun _ _ _ h => h) (.inl ⟨by rfl, ?_⟩) trivial hT0 ?_
        · intro wx hSw
          obtain ⟨q1, q2, q3, q4⟩ := hSw
          go_simp
        simp only [Act.put, List.setIfInBounds_toArray, List.set_cons_zero, List.set_cons_succ]
        refine Od.Till.one (i := 9) (by kernel_rfl) rfl (fun K hK => ?_)
        rw [if_pos (by kernel_rfl)]
        refine wp_store_row 75 (.tmp 5) (.tmp 36) rfl w.heap.size (A17 z.s (pad z.m)) rfl rfl 75 (A17 y.s (pad y.m)) HBY.out info_id rfl (A17_one _ _) ?_
        have hT1 : (fun W : World => Bk W w3.heap.size z.s (pad z.m) ∧ W.cell? ⟨tb, 1, none⟩ = some (.slice (some ⟨gm, 0, none⟩) T.marks.length cm) ∧ W.cell? ⟨gm, lm.toNat - 1, none⟩ = some (.int .i64 (pm : Int)) ∧ True) (W5.drew.setRow w.heap.size (A17 z.s (pad z.m))) := by
          obtain ⟨q1, q2, q3, q4⟩ := hT0
          exact ⟨q1.row_ne _ hnb, (cell_row_ne _ _ (show tb ≠ w.heap.size by omega) _).trans q2, (cell_row_ne _ _ (show gm ≠ w.heap.size by omega) _).trans q3, trivial⟩
        refine hK.out _ _ ⟨fun _ => trivial, hT1⟩ ?_
        clear hK K
        simp only [Act.put, List.setIfInBounds_toArray, List.set_cons_zero, List.set_cons_succ]
        refine Od.Till.takeT (i := 10) (d := 1) (v := .int .i64 (pm : Int)) rfl rfl (by kernel_rfl) (by kernel_rfl) (by kernel_rfl) (by kernel_rfl) (fun _ _ _ h => h) (.inl ⟨by rfl, ?_⟩) trivial hT1 ?_
        · intro wx hSw
          obtain ⟨q1, q2, q3, q4⟩ := hSw
          go_simp
        simp only [Act.put, List.setIfInBounds_toArray, List.set_cons_zero, List.set_cons_succ]
        refine Od.Till.done (by kernel_rfl) ?_
        have HT1 := Lib.hid hT1
        clear hT0 hT1
        go_wp2_with fail
        have hzok : z.Ok := by rw [← HZ.out]; exact HY.less
        have hzmd : Made T z := fun k hk => by
          rw [← HZ.out] at hk
          exact HMY.out k (List.dropLast_subset _ hk)
        go_roundg z.m.length
        case measure => omega
        case rel =>
          refine ⟨z, pm, rfl, hpl, hzok, hzmd, rfl, Lib.hid ?_, HBY.out.row, ?_, bel_row (Hbel.out.trans (bel_drew0 _ _)) _ _ (Nat.le_refl _)⟩
          · rw [HSE.out, hlm.out.symm, HZ.out, ← HPM.out]
          · show _[_]? = _
            rw [setRow_other _ _ _ _ (by omega)]
            exact HSN.out
    · have hbd := binder_lt HOK.out hcl hb0
      have d0 : ((T.binder cu y : Int) != 0) = true := by rw [bne_iff_ne]; omega
      have HSE := Lib.hid (hseen.out.symm.trans (seen_hit hb0))
      have cw : w2.cell? ⟨g, T.binder cu y * 19 + 18, none⟩ = some (.int .i64 (T.what (T.binder cu y))) := (Hbel.out.cell (p := ⟨g, _, none⟩) hltg).trans (HROW.out _ hbd).2.2
      have i0 : (0 : Int) ≤ (T.binder cu y : Int) := Int.natCast_nonneg _
      have i1 : (T.binder cu y : Int) < (T.rows.length : Int) := by omega
      clear hb0 cm0 hbd
      go_wp2_with (refine wpList_store_row rfl 49 (.tmp 6) (.tmp 25) rfl (w.heap.size + 1) (seenC ⟨T.binder cu y, T.what (T.binder cu y), []⟩) rfl rfl 49 _ HSN.out info_seen rfl (seenC_one _) ?_)
      rw [HSE.out]
      exact res_fin w _ _ ⟨T.binder cu y, T.what (T.binder cu y), []⟩ (w.heap.size + 1) rfl (setRow_heap _ _ _ _ _ _ HSN.out) (bel_row Hbel.out (w.heap.size + 1) _ (by omega))
end Go.Proofs.Ytapnighankepjaa.Sc
end
section
namespace Go.Proofs.Ytapnighankepjaa.Sc
open Go.ChangeShapes Go.WideShapes Go.ChangeAt Go.RowKit
set_option linter.unusedVariables false
set_option linter.unusedSimpArgs false

def Seen.zero : Seen := ⟨0, 0, []⟩
/-- Find's answer, two values. -/
def FindIs (z : Seen) (k : Int) (w : World) (e : Ending) (w' : World) : Prop := e = .returned (.tuple #[z.V, .int .i64 k]) ∧ Below w.heap.size w w'
theorem find_fin (w W : World) (tm : Array Value) (z : Seen) (k : Int) (r : Nat) (h6 : tm.getD 6 undef = .pointer (some ⟨r, 0, none⟩)) (h7 : tm.getD 7 undef = .int .i64 k) (hb : Da.Blk W r 49 (seenC z)) (hbel : Below w.heap.size w W) :
    bodyPost Try.prog Try.f16 (FindIs z k w) Exit.ret { tmps := tm, defers := [] } W := by
  refine bodyPost_ret (v := .tuple #[z.V, .int .i64 k]) ?_ rfl ⟨rfl, hbel⟩
  rw [results_cell_tmp (show Try.f16.results = #[.cell 6 49, .tmp 7] from rfl), h6, h7]
  have hr := run_loadVar_row (P := Try.prog) W r 49 49 (seenC z) (0, 0) _ hb Try.underlying49 rfl info_seen
  simp [asAddr, hr, Result.andThen, Seen.V, seenC]
def zeroBk (w : World) (b : Nat) : Prop := Da.Blk w b 49 #[.int .i64 0, .int .i64 0, .string ⟨#[]⟩]
theorem datum_two (d : Da.Dt) (v : Value) (w : World) (B : Nat) (hd : Da.IsDt w (Da.Lo B) d v) (hB : B ≤ w.heap.size) : ∃ am cm al cl at_ ct, v = .agg (six d am cm al cl at_ ct) := by
  obtain ⟨am, cm, al, cl, at_, ct, rfl, _⟩ := hd.open_
  exact ⟨am, cm, al, cl, at_, ct, rfl⟩
set_option maxRecDepth 100000 in
set_option maxHeartbeats 8000000 in
/-- The scope is not there. -/
theorem find_err (p : Option Addr) (s : Int) (d : Da.Dt) (v : Value) (B : Nat) (k : Int) (w : World) (hd : Da.IsDt w (Da.Lo B) d v) (hk : k ≠ 0)
    (hc : Hid (∀ w2, Below w.heap.size w w2 → Calls Try.prog 31 #[.pointer p, .int .i64 s] w2 fun e w' => e = .returned (.int .i64 k) ∧ w2 = w')) :
    Calls Try.prog 16 #[.pointer p, .int .i64 s, v] w (FindIs Seen.zero k w) := by
  obtain ⟨am, cm, al, cl, at_, ct, rfl, _⟩ := hd.open_
  have dk : (k != 0) = true := by simpa using hk
  have HN := Lib.hid (two_new w (six d am cm al cl at_ ct) #[.int .i64 0, .int .i64 0, .string ⟨#[]⟩] 33 49).2
  have HB := Lib.hid (bel_two w (.cells (six d am cm al cl at_ ct) 33) (.cells #[.int .i64 0, .int .i64 0, .string ⟨#[]⟩] 49))
  clear hd hk
  go_enter Try.func16, Try.ntmps16
  go_wp2_with fail
  refine (hc.out _ HB.out).mono ?_
  rintro e w2 ⟨rfl, rfl⟩
  go_wp2_with (refine wpList_store_row rfl 49 (.tmp 6) (.tmp 18) rfl (w.heap.size + 1) (seenC Seen.zero) rfl rfl 49 _ HN.out info_seen rfl (seenC_one _) ?_)
  exact find_fin w _ _ Seen.zero k (w.heap.size + 1) rfl rfl (setRow_heap _ _ _ _ _ _ HN.out) (bel_row HB.out (w.heap.size + 1) _ (by omega))
set_option maxRecDepth 100000 in
set_option maxHeartbeats 8000000 in
/-- The datum is no symbol that may be. -/
theorem find_form (tb : Nat) (a : Option Addr) (n c : Nat) (s : Nat) (d : Da.Dt) (v : Value) (B : Nat) (w : World) (hd : Da.IsDt w (Da.Lo B) d v) (hB : B ≤ w.heap.size) (htb : w.cell? ⟨tb, 0, none⟩ = some (.slice a n c)) (hs : s < n) (hbad : ¬ (d.K = 5 ∧ Da.chk d = 0)) :
    Calls Try.prog 16 #[.pointer (some ⟨tb, 0, none⟩), .int .i64 (s : Int), v] w (FindIs Seen.zero 5 w) := by
  have hltT := World.block_lt_of_cell? w _ htb
  have HD := Lib.hid hd
  obtain ⟨am, cm, al, cl, at_, ct, rfl, _⟩ := hd.open_
  obtain ⟨n1, n2⟩ := two_new w (six d am cm al cl at_ ct) #[.int .i64 0, .int .i64 0, .string ⟨#[]⟩] 33 49
  have hbX := bel_two w (.cells (six d am cm al cl at_ ct) 33) (.cells #[.int .i64 0, .int .i64 0, .string ⟨#[]⟩] 49)
  have HC : Hid (chkE n (s : Int) = 0) := Lib.hid (by unfold chkE; rw [if_neg (by omega), if_neg (by rintro (h | h) <;> omega)])
  have HBAD := Lib.hid hbad
  have HTB := Lib.hid htb
  clear hd htb hbad hs
  go_enter Try.func16, Try.ntmps16
  go_upto_region 1 with (fail)
  generalize hX : (World.alloc (World.alloc w _) _) = X
  replace n1 : Da.Blk X w.heap.size 33 (six d am cm al cl at_ ct) := by rw [← hX]; exact n1
  replace n2 : Da.Blk X (w.heap.size + 1) 49 #[.int .i64 0, .int .i64 0, .string ⟨#[]⟩] := by rw [← hX]; exact n2
  replace hbX : Below w.heap.size w X := by rw [← hX]; exact hbX
  have hXs : X.heap.size = w.heap.size + 2 := by rw [← hX]; simp
  clear hX
  have HN1 := Lib.hid n1
  have HN2 := Lib.hid n2
  have HBX := Lib.hid hbX
  have HXS := Lib.hid hXs
  clear n1 n2 hbX hXs
  go_wp2_with fail
  refine (check_any tb a n c _ _ ((HBX.out.cell (p := ⟨tb, 0, none⟩) hltT).trans HTB.out)).mono ?_
  rintro e w2 ⟨rfl, rfl⟩
  rw [HC.out]
  have e0 : X.cell? ⟨w.heap.size, 0, none⟩ = some (.int .i64 d.K) := (HN1.out.cell 0).trans rfl
  have e1 : X.cell? ⟨w.heap.size, 1, none⟩ = some (.int .i64 d.N) := (HN1.out.cell 1).trans rfl
  have e2 : X.cell? ⟨w.heap.size, 2, none⟩ = some (.string d.S) := (HN1.out.cell 2).trans rfl
  have e3 : X.cell? ⟨w.heap.size, 3, none⟩ = some (.slice am d.M.length cm) := (HN1.out.cell 3).trans rfl
  have e4 : X.cell? ⟨w.heap.size, 4, none⟩ = some (.slice al d.L.length cl) := (HN1.out.cell 4).trans rfl
  have e5 : X.cell? ⟨w.heap.size, 5, none⟩ = some (.slice at_ d.T.length ct) := (HN1.out.cell 5).trans rfl
  go_wp2_with fail
  refine (identify_bad d _ B _ (HD.out.below (HBX.out.mono hB)) (by have := HXS.out; omega) HBAD.out).mono ?_
  rintro e w3 ⟨rfl, hb3⟩
  have hn3 : zeroBk w3 (w.heap.size + 1) := (hb3.block _ (by have := HXS.out; omega)).trans HN2.out
  have HN3 := Lib.hid hn3
  have HB3 := Lib.hid (HBX.out.trans (hb3.mono HBX.out.size))
  have hlt3 : w.heap.size + 1 < w3.heap.size := (Array.getElem?_eq_some_iff.1 hn3).1
  clear hb3 hn3 e0 e1 e2 e3 e4 e5
  unfold zeroId
  go_upto_region 5 with (refine wpList_store_row rfl 75 (.tmp 9) (.tmp 23) rfl w3.heap.size (A17 [] (fun _ => 0)) rfl rfl 75 (A17 [] (fun _ => 0)) (heap_alloc_new w3 _) info_id rfl (A17_one _ _) ?_)
  generalize hX4 : (World.setRow (World.alloc w3 _) w3.heap.size (A17 [] (fun _ => 0))) = W4
  have hb4 : Below w3.heap.size w3 W4 := by rw [← hX4]; exact bel_row ((Below.refl _ _).alloc (Nat.le_refl _) _) _ _ (Nat.le_refl _)
  have HN4 := Lib.hid (show Da.Blk W4 (w.heap.size + 1) 49 #[.int .i64 0, .int .i64 0, .string ⟨#[]⟩] from (hb4.block _ hlt3).trans HN3.out)
  have HB4 := Lib.hid (HB3.out.trans (hb4.mono HB3.out.size))
  clear hX4 hb4
  go_wp2_with (refine wpList_store_row rfl 49 (.tmp 6) (.tmp 27) rfl (w.heap.size + 1) (seenC Seen.zero) rfl rfl 49 _ HN4.out info_seen rfl (seenC_one _) ?_)
  exact find_fin w _ _ Seen.zero 5 (w.heap.size + 1) rfl rfl (setRow_heap _ _ _ _ _ _ HN4.out) (bel_row HB4.out (w.heap.size + 1) _ (by omega))
end Go.Proofs.Ytapnighankepjaa.Sc
end
section
namespace Go.Proofs.Ytapnighankepjaa.Sc
open Go.ChangeShapes Go.WideShapes Go.ChangeAt Go.RowKit
set_option linter.unusedVariables false
set_option linter.unusedSimpArgs false

def markOk (n : Nat) (M : List Int) : Bool := M.all (fun m => decide (m ≤ (n : Int)))
theorem markOk_made {T : Tab} {d : Da.Dt} (h : markOk T.marks.length d.M = true) : Made T (idn d) := fun k hk => by
  have := List.all_eq_true.1 h k hk
  simpa using this
set_option maxRecDepth 100000 in
set_option maxHeartbeats 16000000 in
/-- The datum is a symbol that may be. -/
theorem find_sym (tb : Nat) (T : Tab) (s : Nat) (d : Da.Dt) (v : Value) (B : Nat) (w : World) (vs vm : Value) (bm : Nat) (hd : Da.IsDt w (Da.Lo B) d v) (hB : B ≤ w.heap.size) (h : TabAt w tb T vs vm bm) (hs : s < T.rows.length) (h5 : d.K = 5) (hc : Da.chk d = 0) :
    Calls Try.prog 16 #[.pointer (some ⟨tb, 0, none⟩), .int .i64 (s : Int), v] w (FindIs (if markOk T.marks.length d.M = true then T.seen s (idn d) else Seen.zero) (if markOk T.marks.length d.M = true then 0 else 50) w) := by
  obtain ⟨z, hz⟩ : ∃ z, (if markOk T.marks.length d.M = true then T.seen s (idn d) else Seen.zero) = z := ⟨_, rfl⟩
  obtain ⟨er, her⟩ : ∃ er : Int, (if markOk T.marks.length d.M = true then 0 else 50) = er := ⟨_, rfl⟩
  rw [hz, her]
  have HZE := Lib.hid (And.intro hz her)
  clear hz her
  have hltT := h.lt tb (.inl rfl)
  have HT := Lib.hid h
  obtain ⟨a, c, rfl⟩ := slice_of h.rows
  obtain ⟨ma, mc, rfl⟩ := slice_of h.marks
  have HTB := Lib.hid (show w.cell? ⟨tb, 0, none⟩ = some (.slice a T.rows.length c) from (h.blk.cell 0).trans rfl)
  have HTM := Lib.hid (show w.cell? ⟨tb, 1, none⟩ = some (.slice ma T.marks.length mc) from (h.blk.cell 1).trans rfl)
  have HD := Lib.hid hd
  obtain ⟨am, cm, al, cl, at_, ct, rfl, hrest⟩ := hd.open_
  have HR := Lib.hid hrest
  obtain ⟨n1, n2⟩ := two_new w (six d am cm al cl at_ ct) #[.int .i64 0, .int .i64 0, .string ⟨#[]⟩] 33 49
  have hbX := bel_two w (.cells (six d am cm al cl at_ ct) 33) (.cells #[.int .i64 0, .int .i64 0, .string ⟨#[]⟩] 49)
  have HC : Hid (chkE T.rows.length (s : Int) = 0) := Lib.hid (by unfold chkE; rw [if_neg (by omega), if_neg (by rintro (h | h) <;> omega)])
  have H5 := Lib.hid (And.intro h5 hc)
  have HF := Lib.hid (sym_facts h5 hc)
  have HS := Lib.hid hs
  clear hd h hs h5 hc hrest
  go_enter Try.func16, Try.ntmps16
  go_upto_region 1 with (fail)
  generalize hX : (World.alloc (World.alloc w _) _) = X
  replace n1 : Da.Blk X w.heap.size 33 (six d am cm al cl at_ ct) := by rw [← hX]; exact n1
  replace n2 : Da.Blk X (w.heap.size + 1) 49 #[.int .i64 0, .int .i64 0, .string ⟨#[]⟩] := by rw [← hX]; exact n2
  replace hbX : Below w.heap.size w X := by rw [← hX]; exact hbX
  have hXs : X.heap.size = w.heap.size + 2 := by rw [← hX]; simp
  clear hX
  have HN1 := Lib.hid n1
  have HN2 := Lib.hid n2
  have HBX := Lib.hid hbX
  have HXS := Lib.hid hXs
  clear n1 n2 hbX hXs
  go_wp2_with fail
  refine (check_any tb a T.rows.length c _ _ ((HBX.out.cell (p := ⟨tb, 0, none⟩) hltT).trans HTB.out)).mono ?_
  rintro e w2 ⟨rfl, rfl⟩
  rw [HC.out]
  have e0 : X.cell? ⟨w.heap.size, 0, none⟩ = some (.int .i64 d.K) := (HN1.out.cell 0).trans rfl
  have e1 : X.cell? ⟨w.heap.size, 1, none⟩ = some (.int .i64 d.N) := (HN1.out.cell 1).trans rfl
  have e2 : X.cell? ⟨w.heap.size, 2, none⟩ = some (.string d.S) := (HN1.out.cell 2).trans rfl
  have e3 : X.cell? ⟨w.heap.size, 3, none⟩ = some (.slice am d.M.length cm) := (HN1.out.cell 3).trans rfl
  have e4 : X.cell? ⟨w.heap.size, 4, none⟩ = some (.slice al d.L.length cl) := (HN1.out.cell 4).trans rfl
  have e5 : X.cell? ⟨w.heap.size, 5, none⟩ = some (.slice at_ d.T.length ct) := (HN1.out.cell 5).trans rfl
  go_wp2_with fail
  refine (identify_good d _ B _ (HD.out.below (HBX.out.mono hB)) (by have := HXS.out; omega) H5.out.1 H5.out.2).mono ?_
  rintro e w3 ⟨rfl, hb3⟩
  have hn3 : zeroBk w3 (w.heap.size + 1) := (hb3.block _ (by have := HXS.out; omega)).trans HN2.out
  have hn1 : Da.Blk w3 w.heap.size 33 (six d am cm al cl at_ ct) := (hb3.block _ (by have := HXS.out; omega)).trans HN1.out
  have HN3 := Lib.hid (And.intro hn3 hn1)
  have HB3 := Lib.hid (HBX.out.trans (hb3.mono HBX.out.size))
  have hlt3 : w.heap.size + 1 < w3.heap.size := (Array.getElem?_eq_some_iff.1 hn3).1
  clear hb3 hn3 hn1 e0 e1 e2 e3 e4 e5 HN1 HN2 HBX HXS
  go_upto_region 5 with (refine wpList_store_row rfl 75 (.tmp 9) (.tmp 23) rfl w3.heap.size (A17 (idn d).s (pad (idn d).m)) rfl rfl 75 (A17 [] (fun _ => 0)) (heap_alloc_new w3 _) info_id rfl (A17_one _ _) ?_)
  generalize hX4 : (World.setRow (World.alloc w3 _) w3.heap.size (A17 (idn d).s (pad (idn d).m))) = W4
  have hb4 : Below w3.heap.size w3 W4 := by rw [← hX4]; exact bel_row ((Below.refl _ _).alloc (Nat.le_refl _) _) _ _ (Nat.le_refl _)
  have HI4 := Lib.hid (show Bk W4 w3.heap.size (idn d).s (pad (idn d).m) by rw [← hX4]; exact (show Bk (w3.alloc _) w3.heap.size [] (fun _ => 0) from heap_alloc_new w3 _).row)
  have HN4 := Lib.hid (show Da.Blk W4 (w.heap.size + 1) 49 #[.int .i64 0, .int .i64 0, .string ⟨#[]⟩] from (hb4.block _ hlt3).trans HN3.out.1)
  have hn1 : Da.Blk W4 w.heap.size 33 (six d am cm al cl at_ ct) := (hb4.block _ (by omega)).trans HN3.out.2
  have HB4 := Lib.hid (HB3.out.trans (hb4.mono HB3.out.size))
  have HSZ := Lib.hid hb4.size
  have e3 : W4.cell? ⟨w.heap.size, 3, none⟩ = some (.slice am d.M.length cm) := (hn1.cell 3).trans rfl
  have em : W4.cell? ⟨tb, 1, none⟩ = some (.slice ma T.marks.length mc) := (HB4.out.cell (p := ⟨tb, 1, none⟩) hltT).trans HTM.out
  clear hX4 hb4 hn1 HN3 HB3
  go_wp2_with fail
  go_loop [31] (fun i => ∃ k : Nat, k ≤ d.M.length ∧ i = .int .i64 (k : Int) ∧ Hid (∀ j, j < k → pad d.M j ≤ (T.marks.length : Int))) (fun i => d.M.length - (intOf i).toNat)
  case atStart => exact ⟨0, Nat.zero_le _, rfl, Lib.hid (fun j hj => absurd hj (Nat.not_lt_zero _))⟩
  case round =>
    obtain ⟨k, hk, rfl, hall⟩ := hrel
    by_cases hlk : k < d.M.length
    · have dl : decide ((k : Int) < (d.M.length : Int)) = true := by simp [hlk]
      have i1 : (k : Int) < (d.M.length : Int) := by omega
      have hk16 : d.M.length ≤ 16 := HF.out.1.m
      obtain ⟨g, off, rfl, hg, hcell⟩ := HR.out.2.2.2.1.2.2.2.2.2.2 k hlk
      have cm_ : W4.cell? ⟨g, off + k, none⟩ = some (.int .i64 (pad d.M k)) := by
        rw [HB4.out.cell (p := ⟨g, off + k, none⟩) (Nat.lt_of_lt_of_le hg hB)]; exact hcell
      clear hcell
      by_cases hmk : pad d.M k ≤ (T.marks.length : Int)
      · have dm : decide ((T.marks.length : Int) < pad d.M k) = false := decide_eq_false (by omega)
        have hnx : Hid (∀ j, j < k + 1 → pad d.M j ≤ (T.marks.length : Int)) := Lib.hid (fun j hj => by
          rcases Nat.lt_or_ge j k with h | h
          · exact hall.out j h
          · obtain rfl : j = k := by omega
            exact hmk)
        clear hmk
        generalize pad d.M k = m at *
        go_wp2_with fail
        go_round
        case rel => exact ⟨k + 1, hlk, by go_num, hnx⟩
        case measure => simp [intOf]; omega
      · have dm : decide ((T.marks.length : Int) < pad d.M k) = true := decide_eq_true (by omega)
        have hno : markOk T.marks.length d.M = false := by
          rw [Bool.eq_false_iff]
          intro he
          have := List.all_eq_true.1 he (pad d.M k) (by unfold pad; rw [List.getD_eq_getElem?_getD, List.getElem?_eq_getElem hlk]; exact List.getElem_mem hlk)
          exact hmk (by simpa using this)
        have HNO := Lib.hid hno
        clear hmk hno
        generalize pad d.M k = m at *
        go_wp2_with (refine wpList_store_row rfl 49 (.tmp 6) (.tmp 42) rfl (w.heap.size + 1) (seenC Seen.zero) rfl rfl 49 _ HN4.out info_seen rfl (seenC_one _) ?_)
        have hze := HZE.out
        rw [HNO.out, if_neg (by decide), if_neg (by decide)] at hze
        rw [← hze.1, ← hze.2]
        exact find_fin w _ _ Seen.zero 50 (w.heap.size + 1) rfl rfl (setRow_heap _ _ _ _ _ _ HN4.out) (bel_row HB4.out (w.heap.size + 1) _ (by omega))
    · have dl : decide ((k : Int) < (d.M.length : Int)) = false := by simp [hlk]
      obtain rfl : k = d.M.length := by omega
      have hyes : markOk T.marks.length d.M = true := by
        rw [markOk, List.all_eq_true]
        intro m hm
        obtain ⟨j, hj, rfl⟩ := List.getElem_of_mem hm
        have := hall.out j hj
        unfold pad at this
        rw [List.getD_eq_getElem?_getD, List.getElem?_eq_getElem hj] at this
        simpa using this
      have HYES := Lib.hid hyes
      clear hyes hlk hall
      go_wp2_with (refine load_id (.tmp 9) w3.heap.size 0 (idn d) rfl rfl rfl (At.of_Bk HI4.out) ?_)
      refine (resolve_any tb T (idn d) s _ _ _ bm HF.out.1 (markOk_made HYES.out) (HT.out.bel HB4.out) HS.out).mono ?_
      rintro e w5 ⟨rfl, hb5⟩
      have HN5 := Lib.hid (show Da.Blk w5 (w.heap.size + 1) 49 #[.int .i64 0, .int .i64 0, .string ⟨#[]⟩] from (hb5.block _ (Array.getElem?_eq_some_iff.1 HN4.out).1).trans HN4.out)
      have HB5 := Lib.hid (HB4.out.trans (hb5.mono HB4.out.size))
      clear hb5 e3 em
      go_wp2_with (refine wpList_store_row rfl 49 (.tmp 6) (.tmp 47) rfl (w.heap.size + 1) (seenC (T.seen s (idn d))) rfl rfl 49 _ HN5.out info_seen rfl (seenC_one _) ?_)
      have hze := HZE.out
      rw [HYES.out, if_pos rfl, if_pos rfl] at hze
      rw [← hze.1, ← hze.2]
      exact find_fin w _ _ (T.seen s (idn d)) 0 (w.heap.size + 1) rfl rfl (setRow_heap _ _ _ _ _ _ HN5.out) (bel_row HB5.out (w.heap.size + 1) _ (by omega))
end Go.Proofs.Ytapnighankepjaa.Sc
end
section
namespace Go.Proofs.Ytapnighankepjaa.Sc
open Go.ChangeShapes Go.WideShapes Go.ChangeAt Go.RowKit
set_option linter.unusedVariables false
set_option linter.unusedSimpArgs false

def Tab.new : Tab := ⟨[default], []⟩
theorem new_ok : Tab.new.Ok := ⟨by decide, by decide, by decide, rfl, fun i h0 h1 => by (have h1 : i < 1 := h1); omega, fun s hs => by cases hs⟩
theorem new_ids : ∀ r ∈ Tab.new.rows, r.id.Ok := fun r hr => by
  obtain rfl : r = default := by simpa [Tab.new] using hr
  exact ⟨by decide, by decide, fun k hk => by cases hk⟩
theorem new_first (x : Idn) : Tab.new.first x = 0 := rfl
def rowZ : Array Value := #[.int .i64 0, .string ⟨#[]⟩, .int .i32 0, .int .i32 0, .int .i32 0, .int .i32 0, .int .i32 0, .int .i32 0, .int .i32 0, .int .i32 0, .int .i32 0, .int .i32 0, .int .i32 0, .int .i32 0, .int .i32 0, .int .i32 0, .int .i32 0, .int .i32 0, .int .i64 0]
theorem make_rows (w : World) : (Instr.makeSlice 63 (.int .i64 1) (.int .i64 1)).run Try.prog w = .ok (.slice (some ⟨w.heap.size, 0, none⟩) 1 1) (w.alloc (.cells rowZ 77)) := by kernel_rfl
theorem atKey_nil (kl : Lit) (z : DataW Unit) : (DataW.map [] : DataW Unit).atKey kl z = z := rfl
set_option maxRecDepth 100000 in
set_option maxHeartbeats 4000000 in
theorem new_any (w : World) : Calls Try.prog 6 #[] w fun e w' => e = .returned (.pointer (some ⟨w.heap.size + 2, 0, none⟩)) ∧ TabIn w' (w.heap.size + 2) Tab.new (fun k => w.heap.size ≤ k) ∧ Below w.heap.size w w' := by
  have hmm := @run_makeMap Try.prog
  have hmr := make_rows
  go_enter Try.func6, Try.ntmps6
  go_wp2_with fail
  go_ret
  refine ⟨rfl, ?_, (((Below.refl _ _).alloc (Nat.le_refl _) _).alloc (by simp) _).alloc (by simp; omega) _⟩
  have k1 : ((w.alloc (.cells rowZ 77)).alloc (.map #[] 0)).heap.size = w.heap.size + 2 := by simp
  have b0 : (((w.alloc (.cells rowZ 77)).alloc (.map #[] 0)).alloc (.cells #[.slice (some ⟨w.heap.size, 0, none⟩) 1 1, .slice none 0 0, .map (some (w.heap.size + 1))] 66)).heap[w.heap.size]? = some (.cells rowZ 77) := by
    rw [Below.heap_alloc _ _ _ (by simp; omega), Below.heap_alloc _ _ _ (by simp)]; exact heap_alloc_new w _
  have b1 : (((w.alloc (.cells rowZ 77)).alloc (.map #[] 0)).alloc (.cells #[.slice (some ⟨w.heap.size, 0, none⟩) 1 1, .slice none 0 0, .map (some (w.heap.size + 1))] 66)).ownsMap Try.prog 75 (plainElem (H := Unit) Try.prog 3) (w.heap.size + 1) 0 (.map []) := by
    have h := (World.ownsMap_made (H := Unit) (w.alloc (.cells rowZ 77)) Try.prog 75 (plainElem Try.prog 3)).alloc (.cells #[.slice (some ⟨w.heap.size, 0, none⟩) 1 1, .slice none 0 0, .map (some (w.heap.size + 1))] 66)
    rw [World.size_alloc] at h
    exact h
  have b2 : (((w.alloc (.cells rowZ 77)).alloc (.map #[] 0)).alloc (.cells #[.slice (some ⟨w.heap.size, 0, none⟩) 1 1, .slice none 0 0, .map (some (w.heap.size + 1))] 66)).heap[w.heap.size + 2]? = some (.cells #[.slice (some ⟨w.heap.size, 0, none⟩) 1 1, .slice none 0 0, .map (some (w.heap.size + 1))] 66) := by
    have h := heap_alloc_new ((w.alloc (.cells rowZ 77)).alloc (.map #[] 0)) (.cells #[.slice (some ⟨w.heap.size, 0, none⟩) 1 1, .slice none 0 0, .map (some (w.heap.size + 1))] 66)
    rw [k1] at h
    exact h
  refine ⟨.slice (some ⟨w.heap.size, 0, none⟩) 1 1, .slice none 0 0, w.heap.size + 1, ⟨new_ok, new_ids, fun r hr => ?_, b2, ⟨rfl, .inr ⟨w.heap.size, 1, rowZ, rfl, Nat.zero_le _, b0, Nat.le_refl _, by unfold maxLen; omega, rfl, rfl⟩⟩, World.ownsRow_nil _ _ _ _, ⟨_, b1.mono (Nat.zero_le _), ⟨[], rfl⟩, fun x kl _ _ => by rw [atKey_nil, new_first]; rfl⟩⟩, ?_⟩
  · obtain rfl : r = default := by simpa [Tab.new] using hr
    decide
  · rintro k (rfl | h | h | rfl)
    · show w.heap.size ≤ w.heap.size + 2; omega
    · cases h; exact Nat.le_refl _
    · cases h
    · show w.heap.size ≤ w.heap.size + 1; omega
end Go.Proofs.Ytapnighankepjaa.Sc
end
section
namespace Go.Proofs.Ytapnighankepjaa.Sc
open Go.ChangeShapes Go.WideShapes Go.ChangeAt Go.RowKit
set_option linter.unusedVariables false
set_option linter.unusedSimpArgs false

theorem marksC_len (l : List Nat) : (marksC l).length = l.length := List.length_map _
theorem marksC_snoc (l : List Nat) (s : Nat) : marksC (l ++ [s]) = marksC l ++ [.int .i64 (s : Int)] := by unfold marksC; rw [List.map_append]; rfl
/-- The table behind an append to its marks. -/
theorem mark_table {w w1 : World} {tb bm s : Nat} {T : Tab} {vs vm v' : Value} {o : Obj} (h : TabAt w tb T vs vm bm) (hs : s < T.rows.length) (hf : T.marks.length < 16384)
    (hown : w1.ownsRow 0 3 1 v' (T.marks.length + 1) (marksC T.marks ++ [.int .i64 (s : Int)])) (hg : (w.alloc o).grownBy w1 vm.ownBlock) (hat : v'.ownBlock = vm.ownBlock ∨ v'.ownBlock = some (w.alloc o).heap.size) :
    TabAt (w1.setCell ⟨tb, 1, none⟩ v') tb (T.mk_ s) vs v' bm ∧ Chg (Own3 tb vs vm bm) w (w1.setCell ⟨tb, 1, none⟩ v') ∧ ∀ k, Own3 tb vs v' bm k → Own3 tb vs vm bm k ∨ w.heap.size ≤ k := by
  obtain ⟨a1, a2, a3, a4, a5⟩ := h.apart
  have hlt := h.lt
  have hsz : (w.alloc o).heap.size = w.heap.size + 1 := by simp
  have keep : ∀ k, k < w.heap.size → vm.ownBlock ≠ some k → w1.heap[k]? = w.heap[k]? := fun k hk hn =>
    (hg.block k (by omega) (fun e => hn e.symm)).trans (Below.heap_alloc _ _ _ hk)
  have hv' : v'.ownBlock ≠ some tb := by
    rcases hat with e | e
    · rw [e]; exact a2
    · rw [e, hsz]; intro e2; have := hlt tb (.inl rfl); injection e2 with e2; omega
  have kp : ∀ k, k < w.heap.size → ¬ Own3 tb vs vm bm k → (w1.setCell ⟨tb, 1, none⟩ v').heap[k]? = w.heap[k]? := fun k hk hn => by
    rw [Below.heap_setCell _ _ _ _ (fun e => hn (.inl e)), keep k hk (fun e => hn (.inr (.inr (.inl e))))]
  refine ⟨⟨h.ok.mk_ hs hf, h.ids, h.whats, ?_, ?_, ?_, ?_⟩, ⟨hg.os, hg.tape, hg.output, ?_, kp⟩, ?_⟩
  · have h1 : w1.heap[tb]? = some (.cells #[vs, vm, .map (some bm)] 66 (0, 0)) := (keep tb (hlt tb (.inl rfl)) a2).trans h.blk
    exact heap_setCell_same w1 tb 1 #[vs, vm, .map (some bm)] 66 v' h1
  · refine ownsRow_same h.rows (fun g hgv => ?_)
    rw [Below.heap_setCell _ _ _ _ (by show g ≠ tb; intro e; rw [e] at hgv; exact a1 hgv)]
    exact keep g (hlt g (.inr (.inl hgv))) (a4 g hgv).1
  · rw [show (T.mk_ s).marks = T.marks ++ [s] from rfl, marksC_snoc, List.length_append]
    refine ownsRow_same hown (fun g hgv => Below.heap_setCell _ _ _ _ (by show g ≠ tb; intro e; rw [e] at hgv; exact hv' hgv))
  · obtain ⟨D, h1, h2, h3⟩ := h.first
    refine ⟨D, ownsMap_same h1 ?_, h2, h3⟩
    rw [Below.heap_setCell _ _ _ _ (by show bm ≠ tb; exact a3)]
    exact keep bm h1.lt a5
  · have := hg.size
    show _ ≤ (w1.setCell _ _).heap.size
    have e : (w1.setCell ⟨tb, 1, none⟩ v').heap.size = w1.heap.size := by simp
    omega
  · rintro k (h1 | h1 | h1 | h1)
    · exact .inl (.inl h1)
    · exact .inl (.inr (.inl h1))
    · rcases hat with e | e
      · exact .inl (.inr (.inr (.inl (e ▸ h1))))
      · rw [e] at h1; injection h1 with h1; exact .inr (by omega)
    · exact .inl (.inr (.inr (.inr h1)))
theorem info_int : (Try.prog.info? 3).map (fun i => (i.zero, i.size, i.bytes)) = some (some (.int .i64 0), 1, 8) := by kernel_rfl
/-- The scope is not there. -/
theorem mark_err (p : Option Addr) (s : Int) (k : Int) (w : World) (hk : k ≠ 0)
    (hc : Hid (Calls Try.prog 31 #[.pointer p, .int .i64 s] w fun e w' => e = .returned (.int .i64 k) ∧ w = w')) :
    Calls Try.prog 14 #[.pointer p, .int .i64 s] w fun e w' => e = .returned (.tuple #[.int .i64 0, .int .i64 k]) ∧ w = w' := by
  have dk : (k != 0) = true := by simpa using hk
  clear hk
  go_enter Try.func14, Try.ntmps14
  go_wp2_with fail
  refine hc.out.mono ?_
  rintro e w2 ⟨rfl, rfl⟩
  go_wp2_with fail
  go_ret2
  exact ⟨rfl, rfl⟩
set_option maxRecDepth 100000 in
set_option maxHeartbeats 4000000 in
theorem mark_full (tb bm s : Nat) (T : Tab) (w : World) (vs vm : Value) (h : TabAt w tb T vs vm bm) (hs : s < T.rows.length) (hf : T.marks.length = 16384) :
    Calls Try.prog 14 #[.pointer (some ⟨tb, 0, none⟩), .int .i64 (s : Int)] w fun e w' => e = .returned (.tuple #[.int .i64 0, .int .i64 7]) ∧ w = w' := by
  obtain ⟨a, c, rfl⟩ := slice_of h.rows
  obtain ⟨ma, mc, rfl⟩ := slice_of h.marks
  have c0 : w.cell? ⟨tb, 0, none⟩ = some (.slice a T.rows.length c) := (h.blk.cell 0).trans rfl
  have c1 : w.cell? ⟨tb, 1, none⟩ = some (.slice ma T.marks.length mc) := (h.blk.cell 1).trans rfl
  have HC : Hid (chkE T.rows.length (s : Int) = 0) := Lib.hid (by unfold chkE; rw [if_neg (by omega), if_neg (by rintro (h | h) <;> omega)])
  have HK := Lib.hid (check_any tb a T.rows.length c (s : Int) w c0)
  rw [hf] at c1
  clear h hs hf c0
  go_enter Try.func14, Try.ntmps14
  go_wp2_with fail
  refine HK.out.mono ?_
  rintro e w2 ⟨rfl, rfl⟩
  rw [HC.out]
  go_wp2_with fail
  go_ret2
  exact ⟨rfl, rfl⟩
set_option maxRecDepth 100000 in
set_option maxHeartbeats 4000000 in
theorem mark_ok (tb bm s : Nat) (T : Tab) (w : World) (vs vm : Value) (h : TabAt w tb T vs vm bm) (hs : s < T.rows.length) (hf : T.marks.length < 16384) :
    Calls Try.prog 14 #[.pointer (some ⟨tb, 0, none⟩), .int .i64 (s : Int)] w fun e w' => e = .returned (.tuple #[.int .i64 ((T.marks.length : Int) + 1), .int .i64 0]) ∧
      TabIn w' tb (T.mk_ s) (fun k => Own3 tb vs vm bm k ∨ w.heap.size ≤ k) ∧ Chg (Own3 tb vs vm bm) w w' := by
  obtain ⟨i0, hi, hz0, hz1, hz2⟩ := info_parts info_int
  have HT := Lib.hid h
  obtain ⟨a, c, rfl⟩ := slice_of h.rows
  obtain ⟨ma, mc, rfl⟩ := slice_of h.marks
  have c0 : w.cell? ⟨tb, 0, none⟩ = some (.slice a T.rows.length c) := (h.blk.cell 0).trans rfl
  have c1 : w.cell? ⟨tb, 1, none⟩ = some (.slice ma T.marks.length mc) := (h.blk.cell 1).trans rfl
  have f1 : w.frozen? ⟨tb, 1, none⟩ = false := h.blk.frozen 1
  have HC : Hid (chkE T.rows.length (s : Int) = 0) := Lib.hid (by unfold chkE; rw [if_neg (by omega), if_neg (by rintro (h | h) <;> omega)])
  have HK := Lib.hid (check_any tb a T.rows.length c (s : Int) w c0)
  have d0 : ((T.marks.length : Int) == 16384) = false := by rw [beq_eq_false_iff_ne]; omega
  have hlt := h.lt tb (.inl rfl)
  have HS := Lib.hid (And.intro hs hf)
  have HM := Lib.hid h.marks
  have hap := h.apart.2.1
  clear h hs hf c0
  go_enter Try.func14, Try.ntmps14
  go_wp2_with fail
  refine HK.out.mono ?_
  rintro e w2 ⟨rfl, rfl⟩
  rw [HC.out]
  clear HK
  have N1 : Hid (∀ j u, [Value.int .i64 (s : Int)][j]? = some u → (w.alloc (.cells #[.int .i64 (s : Int)] 3)).cell? ((⟨w.heap.size, 0, none⟩ : Addr).add j) = some u) := Lib.hid (fun j u hu => by
    rw [Ld.add_at, Nat.zero_add, cell_of_row _ _ _ _ _ _ (heap_alloc_new w (.cells #[.int .i64 (s : Int)] 3))]
    simpa using hu)
  have N2 : Hid (∀ u ∈ [Value.int .i64 (s : Int)], u.oneCell' = true) := Lib.hid (fun u hu => by
    obtain rfl : u = .int .i64 (s : Int) := by simpa using hu
    rfl)
  have N3 : Hid (T.marks.length + 1 ≤ maxLen ∧ (T.marks.length + 1) * 8 ≤ 140737488355328) := Lib.hid (by have := HS.out.2; unfold maxLen; omega)
  have HAP := Lib.hid hap
  clear hap d0
  have d0 : ((T.marks.length : Int) == 16384) = false := by have := HS.out.2; rw [beq_eq_false_iff_ne]; omega
  go_wp2_with (at_builtin; (refine wpList_append_own_at _ rfl (.tmp 23) (.tmp 25) _ rfl 0 3 i0 _ 1 8 Try.underlying30 hi hz0 hz1 hz2 rfl (Nat.zero_lt_one) _ T.marks.length (marksC T.marks) rfl (HM.out.alloc _) ⟨w.heap.size, 0, none⟩ 1 1 [.int .i64 (s : Int)] rfl rfl N1.out N2.out N3.out.1 N3.out.2 (Nat.zero_le _) ?_; intro v1 w1 hown1 hg1 hn1 hat1; obtain ⟨va, vc, rfl⟩ := slice_of hown1; have hbk : Da.Blk w1 tb 66 #[.slice a T.rows.length c, .slice ma T.marks.length mc, .map (some bm)] := (hg1.block tb (by rw [World.size_alloc]; exact Nat.lt_succ_of_lt hlt) (fun e => HAP.out e.symm)).trans ((Below.heap_alloc _ _ _ hlt).trans HT.out.blk); have k1 : w1.cell? ⟨tb, 1, none⟩ = some (.slice ma T.marks.length mc) := (hbk.cell 1).trans rfl; have k2 : w1.frozen? ⟨tb, 1, none⟩ = false := hbk.frozen 1; have HE := Lib.hid (And.intro hown1 (And.intro hg1 hat1)); clear hown1 hg1 hn1 hat1 hbk))
  go_ret2
  obtain ⟨hown1, hg1, hat1⟩ := HE.out
  obtain ⟨r1, r2, r3⟩ := mark_table HT.out HS.out.1 HS.out.2 hown1 hg1 hat1
  exact ⟨by go_num, ⟨_, _, bm, r1, r3⟩, r2⟩
end Go.Proofs.Ytapnighankepjaa.Sc
end
section
namespace Go.Proofs.Ytapnighankepjaa.Sc
open Go.ChangeShapes Go.WideShapes Go.ChangeAt Go.RowKit
set_option linter.unusedVariables false
set_option linter.unusedSimpArgs false

theorem wp_append_at {P : Program} {o : Oper} {a : Act} {K : Act → World → Prop} {Q : Exit → Act → World → Prop} (w : World) (s x : Operand) (t : TypeId)
    (ho : o.op = .call { callee := .builtin .append, args := #[s, x], argTypes := #[t, t] })
    (base : Nat) (e : TypeId) (i : TypeInfo) (z : Value) (size bytes : Nat) (ht : P.underlying t = some (.slice e)) (hi : P.info? e = some i) (hz : i.zero = some z)
    (hsize : i.size = size) (hby : i.bytes = bytes) (hzs : z.cells.size = size) (hsz : 0 < size)
    (v : Value) (n : Nat) (xs : List Value) (hs : a.eval s = v) (hown : w.ownsRow base e size v n xs)
    (ad : Addr) (m c : Nat) (news : List Value) (hx : a.eval x = .slice (some ad) m c) (hl : news.length = m * size) (hnews : ∀ j u, news[j]? = some u → w.cell? (ad.add j) = some u) (h1 : ∀ u ∈ news, u.oneCell' = true)
    (h63 : n + m ≤ maxLen) (hbytes : (n + m) * bytes ≤ 140737488355328) (hbase : base ≤ w.heap.size)
    (h : ∀ v' w', w'.ownsRow base e size v' (n + m) (xs ++ news) → w.grownBy w' v.ownBlock → (v'.ownBlock = v.ownBlock ∨ v'.ownBlock = some w.heap.size) → K (a.put o.dst v') w') : o.wp P a w K Q := by
  obtain ⟨v', w', hr, h2, h3, h4, h5⟩ := run_append_own_at (P := P) w base t o.type e i z size bytes ht hi hz hsize hby hzs hsz v n xs hown ad m c news hl hnews h1 h63 hbytes hbase
  unfold Oper.wp execOp
  simp only [ho, resolve, invoke, builtin, Sem.run_bind, Sem.run_pure, Result.andThen_ok, List.map_toArray, List.map_cons, List.map_nil, hs, hx, hr]
  exact h v' w' h2 h3 h5
/-- The table once its row is appended, and the map is as it was. -/
structure Mid (W : World) (tb : Nat) (T : Tab) (r : Row) (vs vm : Value) (bm : Nat) : Prop where
  blk : Da.Blk W tb 66 #[vs, vm, .map (some bm)]
  rows : W.ownsRow 0 77 19 vs (T.rows.length + 1) (rowsC T.rows ++ rowC r)
  marks : W.ownsRow 0 3 1 vm T.marks.length (marksC T.marks)
theorem ext_mid {w wa w1 : World} {tb bm : Nat} {T : Tab} {r : Row} {vs vm v' : Value} (h : TabAt w tb T vs vm bm) (hba : Below w.heap.size w wa)
    (hown : w1.ownsRow 0 77 19 v' (T.rows.length + 1) (rowsC T.rows ++ rowC r)) (hg : wa.grownBy w1 vs.ownBlock) (hat : v'.ownBlock = vs.ownBlock ∨ v'.ownBlock = some wa.heap.size) :
    Mid (w1.setCell ⟨tb, 0, none⟩ v') tb T r v' vm bm ∧ FirstAt (w1.setCell ⟨tb, 0, none⟩ v') bm T ∧ Chg (Own3 tb vs vm bm) w (w1.setCell ⟨tb, 0, none⟩ v') ∧ ∀ k, Own3 tb v' vm bm k → Own3 tb vs vm bm k ∨ w.heap.size ≤ k := by
  obtain ⟨a1, a2, a3, a4, a5⟩ := h.apart
  have hlt := h.lt
  have hsz := hba.size
  have keep : ∀ k, k < w.heap.size → vs.ownBlock ≠ some k → w1.heap[k]? = w.heap[k]? := fun k hk hn =>
    (hg.block k (by omega) (fun e => hn e.symm)).trans (hba.block k hk)
  have hv' : v'.ownBlock ≠ some tb := by
    rcases hat with e | e
    · rw [e]; exact a1
    · rw [e]; intro e2; have := hlt tb (.inl rfl); injection e2 with e2; omega
  have kp : ∀ k, k < w.heap.size → ¬ Own3 tb vs vm bm k → (w1.setCell ⟨tb, 0, none⟩ v').heap[k]? = w.heap[k]? := fun k hk hn => by
    rw [Below.heap_setCell _ _ _ _ (fun e => hn (.inl e)), keep k hk (fun e => hn (.inr (.inl e)))]
  refine ⟨⟨?_, ?_, ?_⟩, ?_, ⟨hg.os.trans hba.os, hg.tape.trans hba.tape, hg.output.trans hba.output, ?_, kp⟩, ?_⟩
  · have h1 : w1.heap[tb]? = some (.cells #[vs, vm, .map (some bm)] 66 (0, 0)) := (keep tb (hlt tb (.inl rfl)) a1).trans h.blk
    exact heap_setCell_same w1 tb 0 #[vs, vm, .map (some bm)] 66 v' h1
  · exact ownsRow_same hown (fun g hgv => Below.heap_setCell _ _ _ _ (by show g ≠ tb; intro e; rw [e] at hgv; exact hv' hgv))
  · refine ownsRow_same h.marks (fun g hgv => ?_)
    rw [Below.heap_setCell _ _ _ _ (by show g ≠ tb; intro e; rw [e] at hgv; exact a2 hgv)]
    exact keep g (hlt g (.inr (.inr (.inl hgv)))) (fun e => (a4 g e).1 hgv)
  · refine h.first.same ?_
    rw [Below.heap_setCell _ _ _ _ (by show bm ≠ tb; exact a3)]
    exact keep bm (hlt bm (.inr (.inr (.inr rfl)))) (fun e => (a4 bm e).2 rfl)
  · have := hg.size
    have e : (w1.setCell ⟨tb, 0, none⟩ v').heap.size = w1.heap.size := by simp
    omega
  · rintro k (h1 | h1 | h1 | h1)
    · exact .inl (.inl h1)
    · rcases hat with e | e
      · exact .inl (.inr (.inl (e ▸ h1)))
      · rw [e] at h1; injection h1 with h1; exact .inr (by omega)
    · exact .inl (.inr (.inr (.inl h1)))
    · exact .inl (.inr (.inr (.inr h1)))
theorem ext_first_keep {W : World} {bm : Nat} {T : Tab} (h : FirstAt W bm T) (hpos : 0 < T.rows.length) {p : Nat} {x : Idn} {v : Int} (hx : x.Ok) (h0 : T.first x ≠ 0) : FirstAt W bm (T.ext p x v) := by
  obtain ⟨D, h1, h2, h3⟩ := h
  refine ⟨D, h1.mono (by rw [ext_len]; omega), h2, fun y kl hy hk => ?_⟩
  rw [h3 y kl hy hk, first_ext hpos]
  by_cases hf : T.first y = 0
  · rw [if_neg (by simp [hf])]
    by_cases he : y = x
    · subst he; exact absurd hf h0
    · rw [if_neg he, hf]
  · rw [if_pos hf]
set_option maxRecDepth 100000 in
theorem ext_first_put {W' : World} {bm : Nat} {T : Tab} {D : DataW Unit} {x : Idn} {kl : Lit} {p : Nat} {v : Int} (hD : Maps.IsMap D)
    (hat : ∀ (y : Idn) (k : Lit), y.Ok → keyOf Try.prog 75 y.V = some k → D.atKey k (.lit (.int .i64 0)) = .lit (.int .i64 (T.first y : Int)))
    (hown : W'.ownsMap Try.prog 75 (plainElem Try.prog 3) bm (T.rows.length + 1) (D.put kl (.lit (.int .i64 (T.rows.length : Int))))) (hpos : 0 < T.rows.length) (hx : x.Ok) (hk : keyOf Try.prog 75 x.V = some kl) (h0 : T.first x = 0) : FirstAt W' bm (T.ext p x v) := by
  refine ⟨_, by rw [ext_len]; exact hown, hD.put _ _, fun y k hy hky => ?_⟩
  rw [first_ext hpos]
  by_cases he : y = x
  · subst he
    rw [hk] at hky
    injection hky with hky
    subst hky
    rw [Maps.atKey_put_same hD (keyed.key hk), if_neg (by simp [h0]), if_pos rfl]
  · rw [Maps.atKey_put_other (fun e => he ((kl_ne hy hx hky hk).1 e)), hat y k hy hky]
    by_cases hf : T.first y = 0
    · rw [if_neg (by simp [hf]), if_neg he, hf]
    · rw [if_pos hf]
theorem Mid.done {W : World} {tb : Nat} {T : Tab} {p : Nat} {x : Idn} {what : Int} {vs vm : Value} {bm : Nat} (h : Mid W tb T ⟨p, x, what⟩ vs vm bm) (hok : T.Ok) (hids : ∀ r ∈ T.rows, r.id.Ok) (hwh : ∀ r ∈ T.rows, (Lit.int .i64 r.what).wf = true)
    (hp : p < T.rows.length) (hf : T.rows.length < 16384) (hx : x.Ok) (hw : (Lit.int .i64 what).wf = true) (hfa : FirstAt W bm (T.ext p x what)) : TabAt W tb (T.ext p x what) vs vm bm where
  ok := hok.ext hp hf x what
  ids := fun r hr => by
    rcases List.mem_append.1 (show r ∈ T.rows ++ [⟨p, x, what⟩] from hr) with h1 | h1
    · exact hids r h1
    · obtain rfl : r = ⟨p, x, what⟩ := by simpa using h1
      exact hx
  whats := fun r hr => by
    rcases List.mem_append.1 (show r ∈ T.rows ++ [⟨p, x, what⟩] from hr) with h1 | h1
    · exact hwh r h1
    · obtain rfl : r = ⟨p, x, what⟩ := by simpa using h1
      exact hw
  blk := h.blk
  rows := by
    have e : (T.ext p x what).rows = T.rows ++ [⟨p, x, what⟩] := rfl
    rw [e, rowsC_snoc, List.length_append]
    exact h.rows
  marks := h.marks
  first := hfa
theorem Mid.put {W W8 : World} {tb : Nat} {T : Tab} {r : Row} {vs vm : Value} {bm : Nat} (h : Mid W tb T r vs vm bm) (hb : ∃ es clock, W.heap[bm]? = some (.map es clock)) (hg : W.grownBy W8 (some bm)) : Mid W8 tb T r vs vm bm := by
  obtain ⟨es, clock, hb⟩ := hb
  have kp : ∀ (k : Nat) (cs : Array Value) (ty : TypeId), W.heap[k]? = some (Obj.cells cs ty (0, 0)) → W8.heap[k]? = W.heap[k]? := fun k cs ty hk => hg.block k (Array.getElem?_eq_some_iff.1 hk).1 (fun e => by
    injection e with e
    rw [e, hb] at hk
    cases hk)
  refine ⟨(kp _ _ _ h.blk).trans h.blk, ownsRow_same h.rows (fun k hk => ?_), ownsRow_same h.marks (fun k hk => ?_)⟩
  · obtain ⟨cur, hc⟩ := own_row h.rows hk
    exact kp _ _ _ hc
  · obtain ⟨cur, hc⟩ := own_row h.marks hk
    exact kp _ _ _ hc
theorem info_bind : (Try.prog.info? 77).map (fun i => (i.size, i.bytes)) = some (19, 96) := by kernel_rfl
end Go.Proofs.Ytapnighankepjaa.Sc
end
section
namespace Go.Proofs.Ytapnighankepjaa.Sc
open Go.ChangeShapes Go.WideShapes Go.ChangeAt Go.RowKit
set_option linter.unusedVariables false
set_option linter.unusedSimpArgs false

theorem info_bd : (Try.prog.info? 77).map (fun i => (i.zero, i.size, i.bytes)) = some (some (.agg rowZ), 19, 96) := by kernel_rfl
theorem built_row (s : Nat) (what : Int) (x : Idn) : Try.prog.built 77 [(0, .int .i64 (s : Int)), (1, x.V), (2, .int .i64 what)] = some (rowC ⟨s, x, what⟩).toArray := by kernel_rfl
set_option maxRecDepth 100000 in
theorem run_buildRow (w : World) (r : Row) : (Instr.buildSlice 63 1 #[(0, .agg (rowC r).toArray)]).run Try.prog w = .ok (.slice (some ⟨w.heap.size, 0, none⟩) 1 1) (w.alloc (.cells (rowC r).toArray 77)) := by kernel_rfl
theorem wp_buildrow {o : Oper} {a : Act} {w : World} {K : Act → World → Prop} {Q : Exit → Act → World → Prop} (x : Operand) (r : Row) (ho : o.op = .buildSlice 63 1 #[(0, x)]) (hx : a.eval x = .agg (rowC r).toArray)
    (h : K (a.put o.dst (.slice (some ⟨w.heap.size, 0, none⟩) 1 1)) (w.alloc (.cells (rowC r).toArray 77))) : o.wp Try.prog a w K Q := by
  unfold Oper.wp execOp
  simp only [ho, List.map_toArray, List.map_cons, List.map_nil, hx, Sem.run_bind, run_buildRow, Result.andThen_ok]
  exact h
theorem row_cells_new (w : World) (r : Row) : ∀ j u, (rowC r)[j]? = some u → (w.alloc (.cells (rowC r).toArray 77)).cell? ((⟨w.heap.size, 0, none⟩ : Addr).add j) = some u := fun j u hu => by
  rw [Ld.add_at, Nat.zero_add]
  have h := cell_of_row _ _ j _ _ _ (heap_alloc_new w (.cells (rowC r).toArray 77))
  rw [h]
  simpa using hu
theorem rowC_one (r : Row) : ∀ u ∈ rowC r, u.oneCell' = true := by
  intro u hu
  have : (rowC r).all (·.oneCell') = true := by unfold rowC A17; simp [Value.oneCell']
  exact List.all_eq_true.1 this u hu
theorem bel_alloc_drew (W : World) (o : Obj) : Below W.heap.size W (W.drew.alloc o) := by
  have h := (Below.refl W.drew.heap.size W.drew).alloc (Nat.le_refl _) o
  exact ⟨h.os, h.tape, h.output, h.size, h.block⟩
theorem one_new (w : World) (c : Array Value) (t : TypeId) : Da.Blk (w.alloc (.cells c t)) w.heap.size t c := heap_alloc_new w _
set_option maxRecDepth 100000 in
set_option maxHeartbeats 16000000 in
theorem ext_ok (tb bm s : Nat) (T : Tab) (what : Int) (d : Da.Dt) (v : Value) (B : Nat) (w : World) (vs vm : Value) (hd : Da.IsDt w (Da.Lo B) d v) (hB : B ≤ w.heap.size) (h : TabAt w tb T vs vm bm) (hs : s < T.rows.length) (hf : T.rows.length < 16384) (hwf : (Lit.int .i64 what).wf = true) (h5 : d.K = 5) (hc : Da.chk d = 0) :
    Calls Try.prog 12 #[.pointer (some ⟨tb, 0, none⟩), .int .i64 (s : Int), v, .int .i64 what] w fun e w' => e = .returned (.tuple #[.int .i64 (T.rows.length : Int), .int .i64 0]) ∧
      TabIn w' tb (T.ext s (idn d) what) (fun k => Own3 tb vs vm bm k ∨ w.heap.size ≤ k) ∧ Chg (Own3 tb vs vm bm) w w' := by
  obtain ⟨i0, hi, hz0, hz1, hz2⟩ := info_parts info_bd
  obtain ⟨z0, hzd⟩ : ∃ z0, Value.agg rowZ = z0 := ⟨_, rfl⟩
  have hzz : z0.cells.size = 19 := by rw [← hzd]; rfl
  rw [hzd] at hz0
  clear hzd
  have hltT := h.lt tb (.inl rfl)
  have HT := Lib.hid h
  obtain ⟨a, c, rfl⟩ := slice_of h.rows
  obtain ⟨g, rfl, hltg, hown, hrow⟩ := at_row h.rows h.ok.pos
  have HOWN := Lib.hid hown
  have hntg : tb ≠ g := fun e => h.apart.1 (by rw [hown, e])
  have HTB := Lib.hid (show w.cell? ⟨tb, 0, none⟩ = some (.slice (some ⟨g, 0, none⟩) T.rows.length c) from (h.blk.cell 0).trans rfl)
  have HD := Lib.hid hd
  obtain ⟨am, cm, al, cl, at_, ct, rfl, hrest⟩ := hd.open_
  have n1 := one_new w (six d am cm al cl at_ ct) 33
  have hbX : Below w.heap.size w (w.alloc (.cells (six d am cm al cl at_ ct) 33)) := (Below.refl _ _).alloc (Nat.le_refl _) _
  have HC : Hid (chkE T.rows.length (s : Int) = 0) := Lib.hid (by unfold chkE; rw [if_neg (by omega), if_neg (by rintro (h | h) <;> omega)])
  have H5 := Lib.hid (And.intro h5 hc)
  have hx : Hid (idn d).Ok := Lib.hid (sym_facts h5 hc).1
  have HS := Lib.hid (And.intro hs (And.intro hf hwf))
  have d16 : ((T.rows.length : Int) == 16384) = false := by rw [beq_eq_false_iff_ne]; omega
  clear hd h hs hf hwf h5 hc hrest hown hrow
  go_enter Try.func12, Try.ntmps12
  go_upto_region 1 with (fail)
  generalize hX : (World.alloc w _) = X
  replace n1 : Da.Blk X w.heap.size 33 (six d am cm al cl at_ ct) := by rw [← hX]; exact n1
  replace hbX : Below w.heap.size w X := by rw [← hX]; exact hbX
  have hXs : X.heap.size = w.heap.size + 1 := by rw [← hX]; simp
  clear hX
  have HN1 := Lib.hid n1
  have HBX := Lib.hid hbX
  have HXS := Lib.hid hXs
  clear n1 hbX hXs
  go_wp2_with fail
  refine (check_any tb _ T.rows.length c _ _ ((HBX.out.cell (p := ⟨tb, 0, none⟩) hltT).trans HTB.out)).mono ?_
  rintro e w2 ⟨rfl, rfl⟩
  rw [HC.out]
  have e0 : X.cell? ⟨w.heap.size, 0, none⟩ = some (.int .i64 d.K) := (HN1.out.cell 0).trans rfl
  have e1 : X.cell? ⟨w.heap.size, 1, none⟩ = some (.int .i64 d.N) := (HN1.out.cell 1).trans rfl
  have e2 : X.cell? ⟨w.heap.size, 2, none⟩ = some (.string d.S) := (HN1.out.cell 2).trans rfl
  have e3 : X.cell? ⟨w.heap.size, 3, none⟩ = some (.slice am d.M.length cm) := (HN1.out.cell 3).trans rfl
  have e4 : X.cell? ⟨w.heap.size, 4, none⟩ = some (.slice al d.L.length cl) := (HN1.out.cell 4).trans rfl
  have e5 : X.cell? ⟨w.heap.size, 5, none⟩ = some (.slice at_ d.T.length ct) := (HN1.out.cell 5).trans rfl
  go_wp2_with fail
  refine (identify_good d _ B _ (HD.out.below (HBX.out.mono hB)) (by have := HXS.out; omega) H5.out.1 H5.out.2).mono ?_
  rintro e w3 ⟨rfl, hb3⟩
  have HB3 := Lib.hid (HBX.out.trans (hb3.mono HBX.out.size))
  have hlt3 : w.heap.size < w3.heap.size := by have := hb3.size; have := HXS.out; omega
  clear hb3 e0 e1 e2 e3 e4 e5 HN1 HBX HXS
  obtain ⟨x, hxd⟩ : ∃ x, idn d = x := ⟨_, rfl⟩
  rw [hxd] at hx ⊢
  have HXD := Lib.hid hxd
  clear hxd
  go_upto_region 5 with (refine wpList_store_row rfl 75 (.tmp 11) (.tmp 23) rfl w3.heap.size (A17 x.s (pad x.m)) rfl rfl 75 (A17 [] (fun _ => 0)) (heap_alloc_new w3 _) info_id rfl (A17_one _ _) ?_)
  generalize hX4 : (World.setRow (World.alloc w3 _) w3.heap.size (A17 x.s (pad x.m))) = W4
  have hb4 : Below w3.heap.size w3 W4 := by rw [← hX4]; exact bel_row ((Below.refl _ _).alloc (Nat.le_refl _) _) _ _ (Nat.le_refl _)
  have hi4 : Bk W4 w3.heap.size x.s (pad x.m) := by rw [← hX4]; exact (show Bk (w3.alloc _) w3.heap.size [] (fun _ => 0) from heap_alloc_new w3 _).row
  have hbw : Below w.heap.size w W4 := HB3.out.trans (hb4.mono HB3.out.size)
  have HT4 := Lib.hid (HT.out.bel hbw)
  have c4 : W4.cell? ⟨tb, 0, none⟩ = some (.slice (some ⟨g, 0, none⟩) T.rows.length c) := (hbw.cell (p := ⟨tb, 0, none⟩) hltT).trans HTB.out
  have HBW := Lib.hid hbw
  have hltI : w3.heap.size < W4.heap.size := (Array.getElem?_eq_some_iff.1 hi4).1
  have hnig : w3.heap.size ≠ g := by omega
  replace hltT : tb < W4.heap.size := by omega
  have hT0 : (fun W : World => W.cell? ⟨tb, 0, none⟩ = some (.slice (some ⟨g, 0, none⟩) T.rows.length c) ∧ Bk W w3.heap.size x.s (pad x.m)) W4.drew := ⟨c4, hi4⟩
  have HT0 := Lib.hid hT0
  clear hX4 hb4 hi4 hbw hT0
  go_upto_region 10 with (fail)
  have hT0 := HT0.out
  have N2 := Lib.hid (rowC_one ⟨s, x, what⟩)
  have N3 : Hid (T.rows.length + 1 ≤ maxLen ∧ (T.rows.length + 1) * 96 ≤ 140737488355328) := Lib.hid (by have := HS.out.2.1; unfold maxLen; omega)
  refine Od.till_region 13 (fun W : World => W.cell? ⟨tb, 0, none⟩ = some (.slice (some ⟨g, 0, none⟩) T.rows.length c) ∧ Bk W w3.heap.size x.s (pad x.m)) (fun _ : World => True) 14 (by kernel_rfl) rfl ?_
  simp only [Array.replicate_succ, Array.replicate_zero, List.push_toArray, List.nil_append, List.cons_append]
  refine Od.Till.takeT (i := 0) (d := 34) (v := .pointer (some ⟨tb, 0, none⟩)) rfl rfl (by kernel_rfl) (by kernel_rfl) (by kernel_rfl) (by kernel_rfl) (fun _ _ _ h => h) (.inl ⟨by rfl, ?_⟩) hT0 trivial ?_
  · intro wx hSw
    clear hSw
    go_simp
  simp only [Act.put, List.setIfInBounds_toArray, List.set_cons_zero, List.set_cons_succ]
  refine Od.Till.takeT (i := 1) (d := 35) (v := .pointer (some ⟨tb, 0, none⟩)) rfl rfl (by kernel_rfl) (by kernel_rfl) (by kernel_rfl) (by kernel_rfl) (fun _ _ _ h => h) (.inl ⟨by rfl, ?_⟩) hT0 trivial ?_
  · intro wx hSw
    clear hSw
    go_simp
  simp only [Act.put, List.setIfInBounds_toArray, List.set_cons_zero, List.set_cons_succ]
  refine Od.Till.takeT (i := 2) (d := 36) (v := .pointer (some ⟨tb, 0, none⟩)) rfl rfl (by kernel_rfl) (by kernel_rfl) (by kernel_rfl) (by kernel_rfl) (fun _ _ _ h => h) (.inl ⟨by rfl, ?_⟩) hT0 trivial ?_
  · intro wx hSw
    clear hSw
    go_simp
  simp only [Act.put, List.setIfInBounds_toArray, List.set_cons_zero, List.set_cons_succ]
  refine Od.Till.takeT (i := 3) (d := 37) (v := .pointer (some ⟨tb, 0, none⟩)) rfl rfl (by kernel_rfl) (by kernel_rfl) (by kernel_rfl) (by kernel_rfl) (fun _ _ _ h => h) (.inl ⟨by rfl, ?_⟩) hT0 trivial ?_
  · intro wx hSw
    clear hSw
    go_simp
  simp only [Act.put, List.setIfInBounds_toArray, List.set_cons_zero, List.set_cons_succ]
  refine Od.Till.take (i := 4) (v := .slice (some ⟨g, 0, none⟩) T.rows.length c) 38 rfl rfl (by kernel_rfl) (by kernel_rfl) (by kernel_rfl) (by kernel_rfl) (fun _ _ _ h => h) (.inl ⟨by rfl, ?_⟩) hT0 trivial ?_
  · intro wx hSw
    obtain ⟨q1, q2⟩ := hSw
    go_simp
  simp only [Act.put, List.setIfInBounds_toArray, List.set_cons_zero, List.set_cons_succ]
  refine Od.Till.takeT (i := 5) (d := 39) (v := .int .i64 (s : Int)) rfl rfl (by kernel_rfl) (by kernel_rfl) (by kernel_rfl) (by kernel_rfl) (fun _ _ _ h => h) (.inl ⟨by rfl, ?_⟩) hT0 trivial ?_
  · intro wx hSw
    clear hSw
    go_simp
  simp only [Act.put, List.setIfInBounds_toArray, List.set_cons_zero, List.set_cons_succ]
  refine Od.Till.take (i := 6) (v := x.V) 40 rfl rfl (by kernel_rfl) (by kernel_rfl) (by kernel_rfl) (by kernel_rfl) (fun _ _ _ h => h) (.inl ⟨by rfl, ?_⟩) hT0 trivial ?_
  · intro wx hSw
    obtain ⟨q1, q2⟩ := hSw
    exact Ld.exec_at 75 (.tmp 11) rfl w3.heap.size 0 rfl (idL x) _ (At.of_Bk q2) Try.underlying75 rfl info_idn
  simp only [Act.put, List.setIfInBounds_toArray, List.set_cons_zero, List.set_cons_succ]
  refine Od.Till.takeT (i := 7) (d := 41) (v := .int .i64 what) rfl rfl (by kernel_rfl) (by kernel_rfl) (by kernel_rfl) (by kernel_rfl) (fun _ _ _ h => h) (.inl ⟨by rfl, ?_⟩) hT0 trivial ?_
  · intro wx hSw
    clear hSw
    go_simp
  simp only [Act.put, List.setIfInBounds_toArray, List.set_cons_zero, List.set_cons_succ]
  refine Od.Till.takeT (i := 8) (d := 42) (v := .agg (rowC ⟨s, x, what⟩).toArray) rfl rfl (by kernel_rfl) (by kernel_rfl) (by kernel_rfl) (by kernel_rfl) (fun _ _ _ h => h) (.inl ⟨by rfl, ?_⟩) hT0 trivial ?_
  · intro wx hSw
    clear hSw
    refine Ld.exec_build 77 #[(0, .tmp 39), (1, .tmp 40), (2, .tmp 41)] rfl _ ?_; simp only [List.map_toArray, List.map_cons, List.map_nil]; exact built_row s what x
  simp only [Act.put, List.setIfInBounds_toArray, List.set_cons_zero, List.set_cons_succ]
  refine Od.Till.one (i := 9) (by kernel_rfl) rfl (fun K hK => ?_)
  rw [if_pos (by kernel_rfl)]
  refine wp_buildrow (.tmp 42) ⟨s, x, what⟩ rfl rfl ?_
  have hw5 : Below W4.heap.size W4 (World.alloc W4.drew (.cells (rowC ⟨s, x, what⟩).toArray 77)) := bel_alloc_drew W4 _
  have hcell5 : ∀ j u, (rowC ⟨s, x, what⟩)[j]? = some u → (World.alloc W4.drew (.cells (rowC ⟨s, x, what⟩).toArray 77)).cell? ((⟨W4.heap.size, 0, none⟩ : Addr).add j) = some u := row_cells_new W4.drew ⟨s, x, what⟩
  have hrw5 : (World.alloc W4.drew (.cells (rowC ⟨s, x, what⟩).toArray 77)).ownsRow 0 77 19 (.slice (some ⟨g, 0, none⟩) T.rows.length c) T.rows.length (rowsC T.rows) := ownsRow_same HT4.out.rows (fun k hk => hw5.block k (HT4.out.rows.lt k hk).2)
  generalize (World.alloc W4.drew (.cells (rowC ⟨s, x, what⟩).toArray 77)) = W5 at *
  have hT1 : (fun W : World => W.cell? ⟨tb, 0, none⟩ = some (.slice (some ⟨g, 0, none⟩) T.rows.length c) ∧ Bk W w3.heap.size x.s (pad x.m)) W5 := ⟨(hw5.cell (p := ⟨tb, 0, none⟩) hltT).trans hT0.1, (hw5.block _ hltI).trans hT0.2⟩
  refine hK.out _ _ ⟨fun _ => hT1, trivial⟩ ?_
  clear hK K
  simp only [Act.put, List.setIfInBounds_toArray, List.set_cons_zero, List.set_cons_succ]
  refine Od.Till.one (i := 10) (by kernel_rfl) rfl (fun K hK => ?_)
  rw [if_pos (by kernel_rfl)]
  refine wp_append_at W5 (.tmp 38) (.tmp 43) 63 rfl 0 77 i0 z0 19 96 Try.underlying63 hi hz0 hz1 hz2 hzz (by decide) (.slice (some ⟨g, 0, none⟩) T.rows.length c) T.rows.length (rowsC T.rows) rfl hrw5 ⟨W4.heap.size, 0, none⟩ 1 1 (rowC ⟨s, x, what⟩) rfl rfl hcell5 N2.out N3.out.1 N3.out.2 (Nat.zero_le _) ?_
  intro v6 W6 hown6 hg6 hat6
  obtain ⟨va, vc, rfl⟩ := slice_of hown6
  have hk6 : ∀ k, k < W4.heap.size → k ≠ g → W6.heap[k]? = W4.heap[k]? := fun k hk hne => (hg6.block k (Nat.lt_of_lt_of_le hk hw5.size) (fun e => by rw [HOWN.out] at e; injection e with e; exact hne e)).trans (hw5.block k hk)
  have hT2 : (fun W : World => W.cell? ⟨tb, 0, none⟩ = some (.slice (some ⟨g, 0, none⟩) T.rows.length c) ∧ Bk W w3.heap.size x.s (pad x.m)) W6 := ⟨(World.cell?_of_block (a := ⟨tb, 0, none⟩) (w := W4) (hk6 tb hltT hntg)).trans hT0.1, (hk6 _ hltI hnig).trans hT0.2⟩
  have k1 := hT2.1
  have k2 : W6.frozen? ⟨tb, 0, none⟩ = false := ((World.frozen?_of_block (a := ⟨tb, 0, none⟩) (w := W4) (hk6 tb hltT hntg))).trans (HT4.out.blk.frozen 0)
  have HE6 := Lib.hid (And.intro hown6 (And.intro hg6 hat6))
  have HW5 := Lib.hid hw5
  clear hown6 hg6 hat6 hk6 hw5 hrw5 hcell5
  refine hK.out _ _ ⟨fun _ => hT2, trivial⟩ ?_
  clear hK K
  simp only [Act.put, List.setIfInBounds_toArray, List.set_cons_zero, List.set_cons_succ]
  refine Od.Till.takeT (i := 11) (d := 45) (v := .pointer (some ⟨tb, 0, none⟩)) rfl rfl (by kernel_rfl) (by kernel_rfl) (by kernel_rfl) (by kernel_rfl) (fun _ _ _ h => h) (.inl ⟨by rfl, ?_⟩) hT2 trivial ?_
  · intro wx hSw
    clear hSw
    go_simp
  simp only [Act.put, List.setIfInBounds_toArray, List.set_cons_zero, List.set_cons_succ]
  refine Od.Till.takeT (i := 12) (d := 46) (v := .pointer (some ⟨tb, 0, none⟩)) rfl rfl (by kernel_rfl) (by kernel_rfl) (by kernel_rfl) (by kernel_rfl) (fun _ _ _ h => h) (.inl ⟨by rfl, ?_⟩) hT2 trivial ?_
  · intro wx hSw
    clear hSw
    go_simp
  simp only [Act.put, List.setIfInBounds_toArray, List.set_cons_zero, List.set_cons_succ]
  refine Od.Till.one (i := 13) (by kernel_rfl) rfl (fun K hK => ?_)
  rw [if_pos (by kernel_rfl)]
  go_simp
  refine hK.out _ _ ⟨(fun h => nomatch (show true = false from h)), trivial⟩ ?_
  clear hK K
  simp only [Act.put, List.setIfInBounds_toArray, List.set_cons_zero, List.set_cons_succ]
  refine Od.Till.done (by kernel_rfl) ?_
  obtain ⟨hown6, hg6, hat6⟩ := HE6.out
  obtain ⟨hm7, hf7, hc7, ho7⟩ := ext_mid HT4.out HW5.out hown6 hg6 hat6
  have hi7 : Bk (W6.setCell ⟨tb, 0, none⟩ (.slice va (T.rows.length + 1) vc)) w3.heap.size x.s (pad x.m) := (Below.heap_setCell _ _ _ _ (by show w3.heap.size ≠ tb; have := HT.out.lt tb (.inl rfl); omega)).trans hT2.2
  generalize W6.setCell ⟨tb, 0, none⟩ (.slice va (T.rows.length + 1) vc) = W7 at *
  have HM7 := Lib.hid hm7
  have HF7 := Lib.hid hf7
  have HC7 := Lib.hid (And.intro hc7 ho7)
  have hU0 : (fun W : World => FirstAt W bm T ∧ Bk W w3.heap.size x.s (pad x.m) ∧ W.cell? ⟨tb, 2, none⟩ = some (.map (some bm))) W7.drew := ⟨hf7, hi7, (hm7.blk.cell 2).trans rfl⟩
  have HI7 := Lib.hid hi7
  clear hT0 hT1 hT2 k1 k2 HE6 HW5 hown6 hg6 hat6 hm7 hf7 hc7 ho7 hi7 c4
  have HU0 := Lib.hid hU0
  have hpos := HT.out.ok.pos
  have hown0 : ∀ k, Own3 tb (.slice va (T.rows.length + 1) vc) vm bm k → Own3 tb (.slice (some ⟨g, 0, none⟩) T.rows.length c) vm bm k ∨ w.heap.size ≤ k := fun k hk => by
    rcases HC7.out.2 k hk with h | h
    · exact .inl h
    · have := HBW.out.size; exact .inr (by omega)
  have hchg0 : Chg (Own3 tb (.slice (some ⟨g, 0, none⟩) T.rows.length c) vm bm) w W7 := (Chg.of_below _ HBW.out).trans HC7.out.1 (fun b hb => .inl hb)
  have HOC := Lib.hid (And.intro hown0 hchg0)
  clear hU0 hown0 hchg0
  by_cases h0 : T.first x = 0
  · have dz : ((T.first x : Int) == 0) = true := by rw [h0]; rfl
    have H0 := Lib.hid h0
    clear h0
    go_wp2_with fail
    have hU0 := HU0.out
    refine Od.till_region 7 (fun _ : World => True) (fun W : World => FirstAt W bm T ∧ Bk W w3.heap.size x.s (pad x.m) ∧ W.cell? ⟨tb, 2, none⟩ = some (.map (some bm))) 7 (by kernel_rfl) rfl ?_
    simp only [Array.replicate_succ, Array.replicate_zero, List.push_toArray, List.nil_append, List.cons_append]
    refine Od.Till.takeT (i := 0) (d := 47) (v := .pointer (some ⟨tb, 0, none⟩)) rfl rfl (by kernel_rfl) (by kernel_rfl) (by kernel_rfl) (by kernel_rfl) (fun _ _ _ h => h) (.inl ⟨by rfl, ?_⟩) trivial hU0 ?_
    · intro wx hSw
      obtain ⟨q1, q2, q3⟩ := hSw
      go_simp
    simp only [Act.put, List.setIfInBounds_toArray, List.set_cons_zero, List.set_cons_succ]
    refine Od.Till.takeT (i := 1) (d := 48) (v := .pointer (some ⟨tb, 0, none⟩)) rfl rfl (by kernel_rfl) (by kernel_rfl) (by kernel_rfl) (by kernel_rfl) (fun _ _ _ h => h) (.inl ⟨by rfl, ?_⟩) trivial hU0 ?_
    · intro wx hSw
      obtain ⟨q1, q2, q3⟩ := hSw
      go_simp
    simp only [Act.put, List.setIfInBounds_toArray, List.set_cons_zero, List.set_cons_succ]
    refine Od.Till.takeT (i := 2) (d := 49) (v := .pointer (some ⟨tb, 2, none⟩)) rfl rfl (by kernel_rfl) (by kernel_rfl) (by kernel_rfl) (by kernel_rfl) (fun _ _ _ h => h) (.inl ⟨by rfl, ?_⟩) trivial hU0 ?_
    · intro wx hSw
      obtain ⟨q1, q2, q3⟩ := hSw
      go_simp
    simp only [Act.put, List.setIfInBounds_toArray, List.set_cons_zero, List.set_cons_succ]
    refine Od.Till.takeT (i := 3) (d := 50) (v := .map (some bm)) rfl rfl (by kernel_rfl) (by kernel_rfl) (by kernel_rfl) (by kernel_rfl) (fun _ _ _ h => h) (.inl ⟨by rfl, ?_⟩) trivial hU0 ?_
    · intro wx hSw
      obtain ⟨q1, q2, q3⟩ := hSw
      go_simp
    simp only [Act.put, List.setIfInBounds_toArray, List.set_cons_zero, List.set_cons_succ]
    refine Od.Till.takeT (i := 4) (d := 51) (v := x.V) rfl rfl (by kernel_rfl) (by kernel_rfl) (by kernel_rfl) (by kernel_rfl) (fun _ _ _ h => h) (.inl ⟨by rfl, ?_⟩) trivial hU0 ?_
    · intro wx hSw
      obtain ⟨q1, q2, q3⟩ := hSw
      exact Ld.exec_at 75 (.tmp 11) rfl w3.heap.size 0 rfl (idL x) _ (At.of_Bk q2) Try.underlying75 rfl info_idn
    simp only [Act.put, List.setIfInBounds_toArray, List.set_cons_zero, List.set_cons_succ]
    refine Od.Till.takeT (i := 5) (d := 52) (v := .int .i64 (T.first x : Int)) rfl rfl (by kernel_rfl) (by kernel_rfl) (by kernel_rfl) (by kernel_rfl) (fun _ _ _ h => h) (.inl ⟨by rfl, ?_⟩) trivial hU0 ?_
    · intro wx hSw
      obtain ⟨q1, q2, q3⟩ := hSw
      have hl := look_first q1 hx.out; simp [execOp, go_sem, hl]
    simp only [Act.put, List.setIfInBounds_toArray, List.set_cons_zero, List.set_cons_succ]
    refine Od.Till.takeT (i := 6) (d := 53) (v := .bool ((T.first x : Int) == 0)) rfl rfl (by kernel_rfl) (by kernel_rfl) (by kernel_rfl) (by kernel_rfl) (fun _ _ _ h => h) (.inl ⟨by rfl, ?_⟩) trivial hU0 ?_
    · intro wx hSw
      obtain ⟨q1, q2, q3⟩ := hSw
      go_simp
    simp only [Act.put, List.setIfInBounds_toArray, List.set_cons_zero, List.set_cons_succ]
    refine Od.Till.done (by kernel_rfl) ?_
    clear hU0
    go_wp2_with fail
    have hV0 : (fun W : World => Bk W w3.heap.size x.s (pad x.m) ∧ W.cell? ⟨tb, 2, none⟩ = some (.map (some bm))) W7.drew.drew := ⟨HU0.out.2.1, HU0.out.2.2⟩
    have hF7 : Hid (FirstAt W7.drew.drew bm T) := Lib.hid (HF7.out.same rfl)
    have N4 : Hid (T.rows.length < maxLen) := Lib.hid (by have := HS.out.2.1; unfold maxLen; omega)
    have N5 : Hid ((Lit.int .i64 (T.rows.length : Int)).wf = true) := Lib.hid (by have := HS.out.2.1; simp [Lit.wf, IntKind.min, IntKind.max, IntKind.bits, IntKind.signed]; omega)
    refine Od.till_region 6 (fun W : World => Bk W w3.heap.size x.s (pad x.m) ∧ W.cell? ⟨tb, 2, none⟩ = some (.map (some bm))) (fun _ : World => True) 7 (by kernel_rfl) rfl ?_
    simp only [Array.replicate_succ, Array.replicate_zero, List.push_toArray, List.nil_append, List.cons_append]
    refine Od.Till.takeT (i := 0) (d := 54) (v := .pointer (some ⟨tb, 0, none⟩)) rfl rfl (by kernel_rfl) (by kernel_rfl) (by kernel_rfl) (by kernel_rfl) (fun _ _ _ h => h) (.inl ⟨by rfl, ?_⟩) hV0 trivial ?_
    · intro wx hSw
      clear hSw
      go_simp
    simp only [Act.put, List.setIfInBounds_toArray, List.set_cons_zero, List.set_cons_succ]
    refine Od.Till.takeT (i := 1) (d := 55) (v := .pointer (some ⟨tb, 0, none⟩)) rfl rfl (by kernel_rfl) (by kernel_rfl) (by kernel_rfl) (by kernel_rfl) (fun _ _ _ h => h) (.inl ⟨by rfl, ?_⟩) hV0 trivial ?_
    · intro wx hSw
      clear hSw
      go_simp
    simp only [Act.put, List.setIfInBounds_toArray, List.set_cons_zero, List.set_cons_succ]
    refine Od.Till.takeT (i := 2) (d := 56) (v := .pointer (some ⟨tb, 2, none⟩)) rfl rfl (by kernel_rfl) (by kernel_rfl) (by kernel_rfl) (by kernel_rfl) (fun _ _ _ h => h) (.inl ⟨by rfl, ?_⟩) hV0 trivial ?_
    · intro wx hSw
      clear hSw
      go_simp
    simp only [Act.put, List.setIfInBounds_toArray, List.set_cons_zero, List.set_cons_succ]
    refine Od.Till.take (i := 3) (v := .map (some bm)) 57 rfl rfl (by kernel_rfl) (by kernel_rfl) (by kernel_rfl) (by kernel_rfl) (fun _ _ _ h => h) (.inl ⟨by rfl, ?_⟩) hV0 trivial ?_
    · intro wx hSw
      obtain ⟨q2, q3⟩ := hSw
      go_simp
    simp only [Act.put, List.setIfInBounds_toArray, List.set_cons_zero, List.set_cons_succ]
    refine Od.Till.take (i := 4) (v := x.V) 58 rfl rfl (by kernel_rfl) (by kernel_rfl) (by kernel_rfl) (by kernel_rfl) (fun _ _ _ h => h) (.inl ⟨by rfl, ?_⟩) hV0 trivial ?_
    · intro wx hSw
      obtain ⟨q2, q3⟩ := hSw
      exact Ld.exec_at 75 (.tmp 11) rfl w3.heap.size 0 rfl (idL x) _ (At.of_Bk q2) Try.underlying75 rfl info_idn
    simp only [Act.put, List.setIfInBounds_toArray, List.set_cons_zero, List.set_cons_succ]
    refine Od.Till.takeT (i := 5) (d := 59) (v := .int .i64 (T.rows.length : Int)) rfl rfl (by kernel_rfl) (by kernel_rfl) (by kernel_rfl) (by kernel_rfl) (fun _ _ _ h => h) (.inl ⟨by rfl, ?_⟩) hV0 trivial ?_
    · intro wx hSw
      clear hSw
      go_simp
    simp only [Act.put, List.setIfInBounds_toArray, List.set_cons_zero, List.set_cons_succ]
    refine Od.Till.one (i := 6) (by kernel_rfl) rfl (fun K hK => ?_)
    rw [if_pos (by kernel_rfl)]
    obtain ⟨kl, hkl⟩ := key_any x hx.out
    obtain ⟨DD, hown7, hD7, hat7⟩ := hF7.out
    obtain ⟨W8, hrun8, hown8, hg8⟩ := hown7.update keyed Try.underlying64 N4.out hkl (plainElem_int Try.underlying3 N5.out)
    have HP8 := Lib.hid (And.intro hD7 (And.intro hat7 (And.intro hown8 (And.intro hg8 hkl))))
    unfold Oper.wp
    simp [execOp, go_sem, hrun8, Result.andThen]
    clear hown7 hD7 hat7 hown8 hg8 hkl hrun8
    refine hK.out _ _ ⟨(fun h => nomatch (show true = false from h)), trivial⟩ ?_
    clear hK K
    simp only [Act.put, List.setIfInBounds_toArray, List.set_cons_zero, List.set_cons_succ]
    refine Od.Till.done (by kernel_rfl) ?_
    clear hV0
    go_wp2_with fail
    go_ret2
    obtain ⟨hD7, hat7, hown8, hg8, hkl⟩ := HP8.out
    have hg8' : W7.grownBy W8 (some bm) := ⟨hg8.os, hg8.tape, hg8.output, hg8.size, hg8.block⟩
    have hmap : ∃ es clock, W7.heap[bm]? = some (.map es clock) := by
      obtain ⟨_, ⟨es, clock, hb, _⟩, _⟩ := HF7.out
      exact ⟨es, clock, hb⟩
    rw [HXD.out]
    exact ⟨rfl, ⟨_, _, bm, (HM7.out.put hmap hg8').done HT.out.ok HT.out.ids HT.out.whats HS.out.1 HS.out.2.1 hx.out HS.out.2.2 (ext_first_put hD7 hat7 hown8 hpos hx.out hkl H0.out), HOC.out.1⟩,
      HOC.out.2.trans (Chg.of_grown hg8') (fun b hb => by injection hb with hb; exact .inl (.inr (.inr (.inr hb))))⟩
  · have dz : ((T.first x : Int) == 0) = false := by rw [beq_eq_false_iff_ne]; omega
    have H0 := Lib.hid h0
    clear h0
    go_wp2_with fail
    have hU0 := HU0.out
    refine Od.till_region 7 (fun _ : World => True) (fun W : World => FirstAt W bm T ∧ Bk W w3.heap.size x.s (pad x.m) ∧ W.cell? ⟨tb, 2, none⟩ = some (.map (some bm))) 7 (by kernel_rfl) rfl ?_
    simp only [Array.replicate_succ, Array.replicate_zero, List.push_toArray, List.nil_append, List.cons_append]
    refine Od.Till.takeT (i := 0) (d := 47) (v := .pointer (some ⟨tb, 0, none⟩)) rfl rfl (by kernel_rfl) (by kernel_rfl) (by kernel_rfl) (by kernel_rfl) (fun _ _ _ h => h) (.inl ⟨by rfl, ?_⟩) trivial hU0 ?_
    · intro wx hSw
      obtain ⟨q1, q2, q3⟩ := hSw
      go_simp
    simp only [Act.put, List.setIfInBounds_toArray, List.set_cons_zero, List.set_cons_succ]
    refine Od.Till.takeT (i := 1) (d := 48) (v := .pointer (some ⟨tb, 0, none⟩)) rfl rfl (by kernel_rfl) (by kernel_rfl) (by kernel_rfl) (by kernel_rfl) (fun _ _ _ h => h) (.inl ⟨by rfl, ?_⟩) trivial hU0 ?_
    · intro wx hSw
      obtain ⟨q1, q2, q3⟩ := hSw
      go_simp
    simp only [Act.put, List.setIfInBounds_toArray, List.set_cons_zero, List.set_cons_succ]
    refine Od.Till.takeT (i := 2) (d := 49) (v := .pointer (some ⟨tb, 2, none⟩)) rfl rfl (by kernel_rfl) (by kernel_rfl) (by kernel_rfl) (by kernel_rfl) (fun _ _ _ h => h) (.inl ⟨by rfl, ?_⟩) trivial hU0 ?_
    · intro wx hSw
      obtain ⟨q1, q2, q3⟩ := hSw
      go_simp
    simp only [Act.put, List.setIfInBounds_toArray, List.set_cons_zero, List.set_cons_succ]
    refine Od.Till.takeT (i := 3) (d := 50) (v := .map (some bm)) rfl rfl (by kernel_rfl) (by kernel_rfl) (by kernel_rfl) (by kernel_rfl) (fun _ _ _ h => h) (.inl ⟨by rfl, ?_⟩) trivial hU0 ?_
    · intro wx hSw
      obtain ⟨q1, q2, q3⟩ := hSw
      go_simp
    simp only [Act.put, List.setIfInBounds_toArray, List.set_cons_zero, List.set_cons_succ]
    refine Od.Till.takeT (i := 4) (d := 51) (v := x.V) rfl rfl (by kernel_rfl) (by kernel_rfl) (by kernel_rfl) (by kernel_rfl) (fun _ _ _ h => h) (.inl ⟨by rfl, ?_⟩) trivial hU0 ?_
    · intro wx hSw
      obtain ⟨q1, q2, q3⟩ := hSw
      exact Ld.exec_at 75 (.tmp 11) rfl w3.heap.size 0 rfl (idL x) _ (At.of_Bk q2) Try.underlying75 rfl info_idn
    simp only [Act.put, List.setIfInBounds_toArray, List.set_cons_zero, List.set_cons_succ]
    refine Od.Till.takeT (i := 5) (d := 52) (v := .int .i64 (T.first x : Int)) rfl rfl (by kernel_rfl) (by kernel_rfl) (by kernel_rfl) (by kernel_rfl) (fun _ _ _ h => h) (.inl ⟨by rfl, ?_⟩) trivial hU0 ?_
    · intro wx hSw
      obtain ⟨q1, q2, q3⟩ := hSw
      have hl := look_first q1 hx.out; simp [execOp, go_sem, hl]
    simp only [Act.put, List.setIfInBounds_toArray, List.set_cons_zero, List.set_cons_succ]
    refine Od.Till.takeT (i := 6) (d := 53) (v := .bool ((T.first x : Int) == 0)) rfl rfl (by kernel_rfl) (by kernel_rfl) (by kernel_rfl) (by kernel_rfl) (fun _ _ _ h => h) (.inl ⟨by rfl, ?_⟩) trivial hU0 ?_
    · intro wx hSw
      obtain ⟨q1, q2, q3⟩ := hSw
      go_simp
    simp only [Act.put, List.setIfInBounds_toArray, List.set_cons_zero, List.set_cons_succ]
    refine Od.Till.done (by kernel_rfl) ?_
    clear hU0
    go_wp2_with fail
    go_ret2
    have hm : Mid W7.drew tb T ⟨s, x, what⟩ (.slice va (T.rows.length + 1) vc) vm bm := ⟨HM7.out.blk, ownsRow_same HM7.out.rows (fun _ _ => rfl), ownsRow_same HM7.out.marks (fun _ _ => rfl)⟩
    rw [HXD.out]
    exact ⟨rfl, ⟨_, _, bm, hm.done HT.out.ok HT.out.ids HT.out.whats HS.out.1 HS.out.2.1 hx.out HS.out.2.2 ((ext_first_keep HF7.out hpos hx.out H0.out).same rfl), HOC.out.1⟩,
      HOC.out.2.trans (Chg.of_below (fun _ => False) (bel_drew0 W7 _)) (fun b hb => hb.elim)⟩
end Go.Proofs.Ytapnighankepjaa.Sc
end
section
namespace Go.Proofs.Ytapnighankepjaa.Sc
open Go.ChangeShapes Go.WideShapes Go.ChangeAt Go.RowKit
set_option linter.unusedVariables false
set_option linter.unusedSimpArgs false

set_option maxRecDepth 100000 in
set_option maxHeartbeats 8000000 in
theorem ext_err (p : Option Addr) (s what : Int) (d : Da.Dt) (v : Value) (B : Nat) (k : Int) (w : World) (hd : Da.IsDt w (Da.Lo B) d v) (hk : k ≠ 0)
    (hc : Hid (∀ w2, Below w.heap.size w w2 → Calls Try.prog 31 #[.pointer p, .int .i64 s] w2 fun e w' => e = .returned (.int .i64 k) ∧ w2 = w')) :
    Calls Try.prog 12 #[.pointer p, .int .i64 s, v, .int .i64 what] w fun e w' => e = .returned (.tuple #[.int .i64 0, .int .i64 k]) ∧ Below w.heap.size w w' := by
  obtain ⟨am, cm, al, cl, at_, ct, rfl, _⟩ := hd.open_
  have dk : (k != 0) = true := by simpa using hk
  have HB := Lib.hid (show Below w.heap.size w (w.alloc (.cells (six d am cm al cl at_ ct) 33)) from (Below.refl _ _).alloc (Nat.le_refl _) _)
  clear hd hk
  go_enter Try.func12, Try.ntmps12
  go_wp2_with fail
  refine (hc.out _ HB.out).mono ?_
  rintro e w2 ⟨rfl, rfl⟩
  go_wp2_with fail
  go_ret2
  exact ⟨rfl, HB.out⟩
set_option maxRecDepth 100000 in
set_option maxHeartbeats 8000000 in
theorem ext_form (tb : Nat) (a : Option Addr) (n c : Nat) (s : Nat) (what : Int) (d : Da.Dt) (v : Value) (B : Nat) (w : World) (hd : Da.IsDt w (Da.Lo B) d v) (hB : B ≤ w.heap.size) (htb : w.cell? ⟨tb, 0, none⟩ = some (.slice a n c)) (hs : s < n) (hbad : ¬ (d.K = 5 ∧ Da.chk d = 0)) :
    Calls Try.prog 12 #[.pointer (some ⟨tb, 0, none⟩), .int .i64 (s : Int), v, .int .i64 what] w fun e w' => e = .returned (.tuple #[.int .i64 0, .int .i64 5]) ∧ Below w.heap.size w w' := by
  have hltT := World.block_lt_of_cell? w _ htb
  have HD := Lib.hid hd
  obtain ⟨am, cm, al, cl, at_, ct, rfl, _⟩ := hd.open_
  have n1 := one_new w (six d am cm al cl at_ ct) 33
  have hbX : Below w.heap.size w (w.alloc (.cells (six d am cm al cl at_ ct) 33)) := (Below.refl _ _).alloc (Nat.le_refl _) _
  have HC : Hid (chkE n (s : Int) = 0) := Lib.hid (by unfold chkE; rw [if_neg (by omega), if_neg (by rintro (h | h) <;> omega)])
  have HBAD := Lib.hid hbad
  have HTB := Lib.hid htb
  clear hd htb hbad hs
  go_enter Try.func12, Try.ntmps12
  go_upto_region 1 with (fail)
  generalize hX : (World.alloc w _) = X
  replace n1 : Da.Blk X w.heap.size 33 (six d am cm al cl at_ ct) := by rw [← hX]; exact n1
  replace hbX : Below w.heap.size w X := by rw [← hX]; exact hbX
  have hXs : X.heap.size = w.heap.size + 1 := by rw [← hX]; simp
  clear hX
  have HN1 := Lib.hid n1
  have HBX := Lib.hid hbX
  have HXS := Lib.hid hXs
  clear n1 hbX hXs
  go_wp2_with fail
  refine (check_any tb _ n c _ _ ((HBX.out.cell (p := ⟨tb, 0, none⟩) hltT).trans HTB.out)).mono ?_
  rintro e w2 ⟨rfl, rfl⟩
  rw [HC.out]
  have e0 : X.cell? ⟨w.heap.size, 0, none⟩ = some (.int .i64 d.K) := (HN1.out.cell 0).trans rfl
  have e1 : X.cell? ⟨w.heap.size, 1, none⟩ = some (.int .i64 d.N) := (HN1.out.cell 1).trans rfl
  have e2 : X.cell? ⟨w.heap.size, 2, none⟩ = some (.string d.S) := (HN1.out.cell 2).trans rfl
  have e3 : X.cell? ⟨w.heap.size, 3, none⟩ = some (.slice am d.M.length cm) := (HN1.out.cell 3).trans rfl
  have e4 : X.cell? ⟨w.heap.size, 4, none⟩ = some (.slice al d.L.length cl) := (HN1.out.cell 4).trans rfl
  have e5 : X.cell? ⟨w.heap.size, 5, none⟩ = some (.slice at_ d.T.length ct) := (HN1.out.cell 5).trans rfl
  go_wp2_with fail
  refine (identify_bad d _ B _ (HD.out.below (HBX.out.mono hB)) (by have := HXS.out; omega) HBAD.out).mono ?_
  rintro e w3 ⟨rfl, hb3⟩
  have HB3 := Lib.hid (HBX.out.trans (hb3.mono HBX.out.size))
  have hlt3 : w.heap.size < w3.heap.size := by have := hb3.size; have := HXS.out; omega
  clear hb3 e0 e1 e2 e3 e4 e5
  unfold zeroId
  go_wp2_with (refine wpList_store_row rfl 75 (.tmp 11) (.tmp 23) rfl w3.heap.size (A17 [] (fun _ => 0)) rfl rfl 75 (A17 [] (fun _ => 0)) (heap_alloc_new w3 _) info_id rfl (A17_one _ _) ?_)
  go_ret2
  exact ⟨rfl, bel_row (HB3.out.alloc (by omega) _) _ _ (by omega)⟩
set_option maxRecDepth 100000 in
set_option maxHeartbeats 8000000 in
theorem ext_full (tb : Nat) (a : Option Addr) (n c : Nat) (s : Nat) (what : Int) (d : Da.Dt) (v : Value) (B : Nat) (w : World) (hd : Da.IsDt w (Da.Lo B) d v) (hB : B ≤ w.heap.size) (htb : w.cell? ⟨tb, 0, none⟩ = some (.slice a n c)) (hs : s < n) (hn : n = 16384) (h5 : d.K = 5) (hc : Da.chk d = 0) :
    Calls Try.prog 12 #[.pointer (some ⟨tb, 0, none⟩), .int .i64 (s : Int), v, .int .i64 what] w fun e w' => e = .returned (.tuple #[.int .i64 0, .int .i64 7]) ∧ Below w.heap.size w w' := by
  have hltT := World.block_lt_of_cell? w _ htb
  have HD := Lib.hid hd
  obtain ⟨am, cm, al, cl, at_, ct, rfl, _⟩ := hd.open_
  have n1 := one_new w (six d am cm al cl at_ ct) 33
  have hbX : Below w.heap.size w (w.alloc (.cells (six d am cm al cl at_ ct) 33)) := (Below.refl _ _).alloc (Nat.le_refl _) _
  have HC : Hid (chkE n (s : Int) = 0) := Lib.hid (by unfold chkE; rw [if_neg (by omega), if_neg (by rintro (h | h) <;> omega)])
  have H5 := Lib.hid (And.intro h5 hc)
  have HTB := Lib.hid htb
  have d16 : ((n : Int) == 16384) = true := by rw [hn]; rfl
  clear hd htb hs hn h5 hc
  go_enter Try.func12, Try.ntmps12
  go_upto_region 1 with (fail)
  generalize hX : (World.alloc w _) = X
  replace n1 : Da.Blk X w.heap.size 33 (six d am cm al cl at_ ct) := by rw [← hX]; exact n1
  replace hbX : Below w.heap.size w X := by rw [← hX]; exact hbX
  have hXs : X.heap.size = w.heap.size + 1 := by rw [← hX]; simp
  clear hX
  have HN1 := Lib.hid n1
  have HBX := Lib.hid hbX
  have HXS := Lib.hid hXs
  clear n1 hbX hXs
  go_wp2_with fail
  refine (check_any tb _ n c _ _ ((HBX.out.cell (p := ⟨tb, 0, none⟩) hltT).trans HTB.out)).mono ?_
  rintro e w2 ⟨rfl, rfl⟩
  rw [HC.out]
  have e0 : X.cell? ⟨w.heap.size, 0, none⟩ = some (.int .i64 d.K) := (HN1.out.cell 0).trans rfl
  have e1 : X.cell? ⟨w.heap.size, 1, none⟩ = some (.int .i64 d.N) := (HN1.out.cell 1).trans rfl
  have e2 : X.cell? ⟨w.heap.size, 2, none⟩ = some (.string d.S) := (HN1.out.cell 2).trans rfl
  have e3 : X.cell? ⟨w.heap.size, 3, none⟩ = some (.slice am d.M.length cm) := (HN1.out.cell 3).trans rfl
  have e4 : X.cell? ⟨w.heap.size, 4, none⟩ = some (.slice al d.L.length cl) := (HN1.out.cell 4).trans rfl
  have e5 : X.cell? ⟨w.heap.size, 5, none⟩ = some (.slice at_ d.T.length ct) := (HN1.out.cell 5).trans rfl
  go_wp2_with fail
  refine (identify_good d _ B _ (HD.out.below (HBX.out.mono hB)) (by have := HXS.out; omega) H5.out.1 H5.out.2).mono ?_
  rintro e w3 ⟨rfl, hb3⟩
  have HB3 := Lib.hid (HBX.out.trans (hb3.mono HBX.out.size))
  have hlt3 : w.heap.size < w3.heap.size := by have := hb3.size; have := HXS.out; omega
  clear hb3 e0 e1 e2 e3 e4 e5 HN1 HBX HXS
  go_upto_region 5 with (refine wpList_store_row rfl 75 (.tmp 11) (.tmp 23) rfl w3.heap.size (A17 (idn d).s (pad (idn d).m)) rfl rfl 75 (A17 [] (fun _ => 0)) (heap_alloc_new w3 _) info_id rfl (A17_one _ _) ?_)
  generalize hX4 : (World.setRow (World.alloc w3 _) w3.heap.size (A17 (idn d).s (pad (idn d).m))) = W4
  have hb4 : Below w3.heap.size w3 W4 := by rw [← hX4]; exact bel_row ((Below.refl _ _).alloc (Nat.le_refl _) _) _ _ (Nat.le_refl _)
  have hbw : Below w.heap.size w W4 := HB3.out.trans (hb4.mono HB3.out.size)
  have c4 : W4.cell? ⟨tb, 0, none⟩ = some (.slice a n c) := (hbw.cell (p := ⟨tb, 0, none⟩) hltT).trans HTB.out
  have HBW := Lib.hid hbw
  clear hX4 hb4 hbw
  go_wp2_with fail
  go_ret2
  exact ⟨rfl, HBW.out⟩
/- All of it at once. -/
def IsSym (d : Da.Dt) : Prop := d.K = 5 ∧ Da.chk d = 0
instance (d : Da.Dt) : Decidable (IsSym d) := by unfold IsSym; exact inferInstance
def extE (T : Tab) (s : Int) (d : Da.Dt) : Int := if chkE T.rows.length s ≠ 0 then chkE T.rows.length s else if ¬ IsSym d then 5 else if T.rows.length = 16384 then 7 else 0
def extT (T : Tab) (s : Int) (d : Da.Dt) (what : Int) : Tab := if extE T s d = 0 then T.ext s.toNat (idn d) what else T
def extN (T : Tab) (s : Int) (d : Da.Dt) : Nat := if extE T s d = 0 then T.rows.length else 0
theorem chk_ok {n : Nat} {s : Int} (hn : n ≠ 0) (h : chkE n s = 0) : ∃ k : Nat, s = (k : Int) ∧ k < n := by
  unfold chkE at h
  rw [if_neg hn] at h
  split at h
  · exact absurd h (by decide)
  · next h1 => exact ⟨s.toNat, by omega, by omega⟩
theorem chg_bel {O : Nat → Prop} {w w' : World} {tb : Nat} {T : Tab} (h : TabIn w tb T O) (hb : Below w.heap.size w w') : TabIn w' tb T (fun k => O k ∨ w.heap.size ≤ k) ∧ Chg O w w' := ⟨(h.bel hb).more (fun k hk => .inl hk), .of_below _ hb⟩
theorem ext_all (tb : Nat) (T : Tab) (O : Nat → Prop) (s what : Int) (d : Da.Dt) (v : Value) (B : Nat) (w : World) (hd : Da.IsDt w (Da.Lo B) d v) (hB : B ≤ w.heap.size) (h : TabIn w tb T O) (hwf : (Lit.int .i64 what).wf = true) :
    Calls Try.prog 12 #[.pointer (some ⟨tb, 0, none⟩), .int .i64 s, v, .int .i64 what] w fun e w' => e = .returned (.tuple #[.int .i64 (extN T s d : Int), .int .i64 (extE T s d)]) ∧
      TabIn w' tb (extT T s d what) (fun k => O k ∨ w.heap.size ≤ k) ∧ Chg O w w' := by
  have h' := h
  obtain ⟨vs, vm, bm, ht, hO⟩ := h
  obtain ⟨a, c, rfl⟩ := slice_of ht.rows
  have c0 : w.cell? ⟨tb, 0, none⟩ = some (.slice a T.rows.length c) := (ht.blk.cell 0).trans rfl
  have hlt := ht.lt tb (.inl rfl)
  have hpos := ht.ok.pos
  by_cases hc : chkE T.rows.length s = 0
  · obtain ⟨k, rfl, hk⟩ := chk_ok (by omega) hc
    by_cases hy : IsSym d
    · by_cases hf : T.rows.length = 16384
      · have e : extE T (k : Int) d = 7 := by unfold extE; rw [if_neg (by simpa using hc), if_neg (by simpa using hy), if_pos hf]
        refine (ext_full tb a _ c k what d v B w hd hB c0 hk hf hy.1 hy.2).mono ?_
        rintro e' w' ⟨rfl, hb⟩
        unfold extN extT
        rw [e, if_neg (by decide), if_neg (by decide)]
        exact ⟨rfl, chg_bel h' hb⟩
      · have e : extE T (k : Int) d = 0 := by unfold extE; rw [if_neg (by simpa using hc), if_neg (by simpa using hy), if_neg hf]
        refine (ext_ok tb bm k T what d v B w _ vm hd hB ht hk (by have := ht.ok.few; omega) hwf hy.1 hy.2).mono ?_
        rintro e' w' ⟨rfl, h1, h2⟩
        unfold extN extT
        rw [e, if_pos rfl, if_pos rfl]
        exact ⟨rfl, h1.more (fun j hj => hj.imp (hO j) id), h2.mono hO⟩
    · have e : extE T (k : Int) d = 5 := by unfold extE; rw [if_neg (by simpa using hc), if_pos hy]
      refine (ext_form tb a _ c k what d v B w hd hB c0 hk hy).mono ?_
      rintro e' w' ⟨rfl, hb⟩
      unfold extN extT
      rw [e, if_neg (by decide), if_neg (by decide)]
      exact ⟨rfl, chg_bel h' hb⟩
  · have e : extE T s d = chkE T.rows.length s := by unfold extE; rw [if_pos hc]
    refine (ext_err _ s what d v B _ w hd hc (Lib.hid (fun w2 hb => check_any tb a _ c s w2 ((hb.cell (p := ⟨tb, 0, none⟩) hlt).trans c0)))).mono ?_
    rintro e' w' ⟨rfl, hb⟩
    unfold extN extT
    rw [e, if_neg hc, if_neg hc]
    exact ⟨rfl, chg_bel h' hb⟩
def markE (T : Tab) (s : Int) : Int := if chkE T.rows.length s ≠ 0 then chkE T.rows.length s else if T.marks.length = 16384 then 7 else 0
def markT (T : Tab) (s : Int) : Tab := if markE T s = 0 then T.mk_ s.toNat else T
def markN (T : Tab) (s : Int) : Nat := if markE T s = 0 then T.marks.length + 1 else 0
theorem mark_all (tb : Nat) (T : Tab) (O : Nat → Prop) (s : Int) (w : World) (h : TabIn w tb T O) :
    Calls Try.prog 14 #[.pointer (some ⟨tb, 0, none⟩), .int .i64 s] w fun e w' => e = .returned (.tuple #[.int .i64 (markN T s : Int), .int .i64 (markE T s)]) ∧
      TabIn w' tb (markT T s) (fun k => O k ∨ w.heap.size ≤ k) ∧ Chg O w w' := by
  have h' := h
  obtain ⟨vs, vm, bm, ht, hO⟩ := h
  obtain ⟨a, c, rfl⟩ := slice_of ht.rows
  have c0 : w.cell? ⟨tb, 0, none⟩ = some (.slice a T.rows.length c) := (ht.blk.cell 0).trans rfl
  have hlt := ht.lt tb (.inl rfl)
  have hpos := ht.ok.pos
  by_cases hc : chkE T.rows.length s = 0
  · obtain ⟨k, rfl, hk⟩ := chk_ok (by omega) hc
    by_cases hf : T.marks.length = 16384
    · have e : markE T (k : Int) = 7 := by unfold markE; rw [if_neg (by simpa using hc), if_pos hf]
      refine (mark_full tb bm k T w _ vm ht hk hf).mono ?_
      rintro e' w' ⟨rfl, rfl⟩
      unfold markN markT
      rw [e, if_neg (by decide), if_neg (by decide)]
      exact ⟨rfl, chg_bel h' (Below.refl _ _)⟩
    · have e : markE T (k : Int) = 0 := by unfold markE; rw [if_neg (by simpa using hc), if_neg hf]
      refine (mark_ok tb bm k T w _ vm ht hk (by have := ht.ok.fewM; omega)).mono ?_
      rintro e' w' ⟨rfl, h1, h2⟩
      unfold markN markT
      rw [e, if_pos rfl, if_pos rfl]
      exact ⟨rfl, h1.more (fun j hj => hj.imp (hO j) id), h2.mono hO⟩
  · have e : markE T s = chkE T.rows.length s := by unfold markE; rw [if_pos hc]
    refine (mark_err _ s (chkE T.rows.length s) w hc (Lib.hid (check_any tb a _ c s w c0))).mono ?_
    rintro e' w' ⟨rfl, rfl⟩
    unfold markN markT
    rw [e, if_neg hc, if_neg hc]
    exact ⟨rfl, chg_bel h' (Below.refl _ _)⟩
def findE (T : Tab) (s : Int) (d : Da.Dt) : Int := if chkE T.rows.length s ≠ 0 then chkE T.rows.length s else if ¬ IsSym d then 5 else if markOk T.marks.length d.M = true then 0 else 50
def findZ (T : Tab) (s : Int) (d : Da.Dt) : Seen := if findE T s d = 0 then T.seen s.toNat (idn d) else Seen.zero
theorem find_all (tb : Nat) (T : Tab) (O : Nat → Prop) (s : Int) (d : Da.Dt) (v : Value) (B : Nat) (w : World) (hd : Da.IsDt w (Da.Lo B) d v) (hB : B ≤ w.heap.size) (h : TabIn w tb T O) :
    Calls Try.prog 16 #[.pointer (some ⟨tb, 0, none⟩), .int .i64 s, v] w (FindIs (findZ T s d) (findE T s d) w) := by
  obtain ⟨vs, vm, bm, ht, hO⟩ := h
  obtain ⟨a, c, rfl⟩ := slice_of ht.rows
  have c0 : w.cell? ⟨tb, 0, none⟩ = some (.slice a T.rows.length c) := (ht.blk.cell 0).trans rfl
  have hlt := ht.lt tb (.inl rfl)
  have hpos := ht.ok.pos
  by_cases hc : chkE T.rows.length s = 0
  · obtain ⟨k, rfl, hk⟩ := chk_ok (by omega) hc
    by_cases hy : IsSym d
    · have hf := find_sym tb T k d v B w _ vm bm hd hB ht hk hy.1 hy.2
      by_cases hm : markOk T.marks.length d.M = true
      · have e : findE T (k : Int) d = 0 := by unfold findE; rw [if_neg (by simpa using hc), if_neg (by simpa using hy), if_pos hm]
        rw [if_pos hm, if_pos hm] at hf
        unfold findZ
        rw [e, if_pos rfl]
        exact hf
      · have e : findE T (k : Int) d = 50 := by unfold findE; rw [if_neg (by simpa using hc), if_neg (by simpa using hy), if_neg hm]
        rw [if_neg hm, if_neg hm] at hf
        unfold findZ
        rw [e, if_neg (by decide)]
        exact hf
    · have e : findE T (k : Int) d = 5 := by unfold findE; rw [if_neg (by simpa using hc), if_pos hy]
      unfold findZ
      rw [e, if_neg (by decide)]
      exact find_form tb a _ c k d v B w hd hB c0 hk hy
  · have e : findE T s d = chkE T.rows.length s := by unfold findE; rw [if_pos hc]
    unfold findZ
    rw [e, if_neg hc]
    exact find_err _ s d v B _ w hd hc (Lib.hid (fun w2 hb => check_any tb a _ c s w2 ((hb.cell (p := ⟨tb, 0, none⟩) hlt).trans c0)))
end Go.Proofs.Ytapnighankepjaa.Sc
end
