/- Identifiers of layer 5: what identify and unmark return. -/
import Derived.Test.YtapnighankepjaaScIdent
import Derived.Test.YtapnighankepjaaDatCheck
import Derived.Test.YtapnighankepjaaDatOwn
import Derived.IntWalk
namespace Go.Proofs.Ytapnighankepjaa.Sc
open Go.ChangeShapes Go.WideShapes Go.ChangeAt Go.RowKit
set_option linter.unusedVariables false
set_option linter.unusedSimpArgs false

/-- Seventeen cells. -/
def A17 (s : Bs) (p : Nat → Int) : Array Value := #[.string ⟨s.toArray⟩, .int .i32 (p 0), .int .i32 (p 1), .int .i32 (p 2), .int .i32 (p 3), .int .i32 (p 4), .int .i32 (p 5), .int .i32 (p 6), .int .i32 (p 7), .int .i32 (p 8), .int .i32 (p 9), .int .i32 (p 10), .int .i32 (p 11), .int .i32 (p 12), .int .i32 (p 13), .int .i32 (p 14), .int .i32 (p 15)]
/-- A block that holds an identifier. -/
abbrev Bk (w : World) (b : Nat) (s : Bs) (p : Nat → Int) : Prop := Da.Blk w b 75 (A17 s p)
theorem A17_set (s : Bs) (p : Nat → Int) (k : Nat) (h : k < 16) (v : Int) : (A17 s p).setIfInBounds (1 + k) (.int .i32 v) = A17 s (fun i => if i = k then v else p i) := by
  have : k = 0 ∨ k = 1 ∨ k = 2 ∨ k = 3 ∨ k = 4 ∨ k = 5 ∨ k = 6 ∨ k = 7 ∨ k = 8 ∨ k = 9 ∨ k = 10 ∨ k = 11 ∨ k = 12 ∨ k = 13 ∨ k = 14 ∨ k = 15 := by omega
  rcases this with rfl | rfl | rfl | rfl | rfl | rfl | rfl | rfl | rfl | rfl | rfl | rfl | rfl | rfl | rfl | rfl <;> rfl
theorem Bk.set {w : World} {b : Nat} {s : Bs} {p : Nat → Int} (h : Bk w b s p) (k : Nat) (hk : k < 16) (v : Int) : Bk (w.setCell ⟨b, 1 + k, none⟩ (.int .i32 v)) b s (fun i => if i = k then v else p i) := by
  have := heap_setCell_same w b (1 + k) (A17 s p) 75 (.int .i32 v) h
  rw [A17_set s p k hk v] at this
  exact this
theorem Bk.to {w : World} {b : Nat} {s : Bs} {p q : Nat → Int} (h : Bk w b s p) (e : ∀ i, i < 16 → p i = q i) : Bk w b s q := by
  have : A17 s p = A17 s q := by
    unfold A17
    rw [e 0 (by decide), e 1 (by decide), e 2 (by decide), e 3 (by decide), e 4 (by decide), e 5 (by decide), e 6 (by decide), e 7 (by decide), e 8 (by decide), e 9 (by decide), e 10 (by decide), e 11 (by decide), e 12 (by decide), e 13 (by decide), e 14 (by decide), e 15 (by decide)]
  unfold Bk at h ⊢
  rw [← this]; exact h
theorem Bk.keep {w w' : World} {b : Nat} {s : Bs} {p : Nat → Int} (h : Bk w b s p) (hb : Below w.heap.size w w') : Bk w' b s p :=
  (hb.block b (Array.getElem?_eq_some_iff.1 h).1).trans h
/-- Without its last mark. -/
def Idn.less (x : Idn) : Idn := ⟨x.s, x.m.dropLast⟩
def Idn.last (x : Idn) : Int := x.m.getLastD 0
theorem pad_less (x : Idn) (h0 : x.m ≠ []) (i : Nat) : (if i = x.m.length - 1 then 0 else pad x.m i) = pad x.less.m i := by
  unfold pad Idn.less
  have hl : 0 < x.m.length := List.length_pos_iff.2 h0
  by_cases hi : i = x.m.length - 1
  · rw [if_pos hi, List.getD_eq_getElem?_getD, List.getElem?_eq_none (by rw [List.length_dropLast]; omega)]; rfl
  · rw [if_neg hi, List.getD_eq_getElem?_getD, List.getD_eq_getElem?_getD, List.getElem?_dropLast]
    by_cases h1 : i < x.m.length - 1
    · rw [if_pos h1]
    · rw [if_neg h1, List.getElem?_eq_none (by omega)]
theorem pad_last (x : Idn) (h0 : x.m ≠ []) : pad x.m (x.m.length - 1) = x.last := by
  unfold pad Idn.last
  rw [List.getD_eq_getElem?_getD, List.getLastD_eq_getLast?, List.getLast?_eq_getElem?]
theorem Idn.Ok.less {x : Idn} (h : x.Ok) : x.less.Ok := ⟨h.s, by unfold Idn.less; rw [List.length_dropLast]; have := h.m; omega, fun k hk => h.mark k (by have := List.dropLast_subset x.m hk; exact this)⟩
theorem Bk.new (w : World) (s : Bs) (p : Nat → Int) : Bk (w.alloc (.cells (A17 s p) 75)) w.heap.size s p := heap_alloc_new w _
theorem two_new (w : World) (c1 c2 : Array Value) (t1 t2 : TypeId) : Da.Blk ((w.alloc (.cells c1 t1)).alloc (.cells c2 t2)) w.heap.size t1 c1 ∧ Da.Blk ((w.alloc (.cells c1 t1)).alloc (.cells c2 t2)) (w.heap.size + 1) t2 c2 := by
  constructor
  · show _[_]? = _
    rw [Below.heap_alloc _ _ _ (by simp)]
    exact heap_alloc_new w _
  · have := heap_alloc_new (w.alloc (.cells c1 t1)) (.cells c2 t2)
    rw [World.size_alloc] at this
    exact this
theorem bel_two (w : World) (o1 o2 : Obj) : Below w.heap.size w ((w.alloc o1).alloc o2) := ((Below.refl _ _).alloc (Nat.le_refl _) _).alloc (by simp) _
theorem info_id : (Try.prog.info? 75).map (·.size) = some 17 := by kernel_rfl
theorem A17_size (s : Bs) (p : Nat → Int) : (A17 s p).size = 17 := rfl
theorem A17_one (s : Bs) (p : Nat → Int) : (A17 s p).all (·.oneCell') = true := by unfold A17; simp [Value.oneCell']
theorem Bk.row {w : World} {b : Nat} {s s' : Bs} {p q : Nat → Int} (h : Bk w b s p) : Bk (w.setRow b (A17 s' q)) b s' q := setRow_heap w b (A17 s p) _ _ _ h
theorem Bk.row_ne {w : World} {b g : Nat} {s : Bs} {p : Nat → Int} (h : Bk w b s p) (c : Array Value) (hne : b ≠ g) : Bk (w.setRow g c) b s p := by
  show _[_]? = _
  rw [setRow_other w g b _ hne]; exact h
theorem bel_row {w0 w : World} {B : Nat} (h : Below B w0 w) (g : Nat) (c : Array Value) (hg : B ≤ g) : Below B w0 (w.setRow g c) :=
  h.trans ⟨rfl, rfl, rfl, by simp, fun k hk => setRow_other w g k _ (by omega)⟩
theorem A17_at (s : Bs) (p : Nat → Int) (k : Nat) (h : k < 16) : (A17 s p)[1 + k]? = some (.int .i32 (p k)) := by
  have : k = 0 ∨ k = 1 ∨ k = 2 ∨ k = 3 ∨ k = 4 ∨ k = 5 ∨ k = 6 ∨ k = 7 ∨ k = 8 ∨ k = 9 ∨ k = 10 ∨ k = 11 ∨ k = 12 ∨ k = 13 ∨ k = 14 ∨ k = 15 := by omega
  rcases this with rfl | rfl | rfl | rfl | rfl | rfl | rfl | rfl | rfl | rfl | rfl | rfl | rfl | rfl | rfl | rfl <;> rfl
theorem unmark_fin (w WF : World) (b : Nat) (act : Act) (s : Bs) (p : Nat → Int) (n : Int) (h2 : act.tmps.getD 2 undef = .pointer (some ⟨b, 0, none⟩)) (h3 : act.tmps.getD 3 undef = .int .i64 n) (hd : act.defers = []) (HB : Bk WF b s p) (hbel : Below w.heap.size w WF) :
    bodyPost Try.prog Try.f46 (fun e' w' => e' = .returned (.tuple #[idA s p, .int .i64 n]) ∧ Below w.heap.size w w') Exit.ret act WF := by
  rw [Array.getD_eq_getD_getElem?] at h2 h3
  have e0 : WF.cell? ⟨b, 0, none⟩ = some (.string ⟨s.toArray⟩) := (HB.cell 0).trans rfl
  have e1 : WF.cell? ⟨b, 1, none⟩ = some (.int .i32 (p 0)) := (HB.cell 1).trans rfl
  have e2 : WF.cell? ⟨b, 2, none⟩ = some (.int .i32 (p 1)) := (HB.cell 2).trans rfl
  have e3 : WF.cell? ⟨b, 3, none⟩ = some (.int .i32 (p 2)) := (HB.cell 3).trans rfl
  have e4 : WF.cell? ⟨b, 4, none⟩ = some (.int .i32 (p 3)) := (HB.cell 4).trans rfl
  have e5 : WF.cell? ⟨b, 5, none⟩ = some (.int .i32 (p 4)) := (HB.cell 5).trans rfl
  have e6 : WF.cell? ⟨b, 6, none⟩ = some (.int .i32 (p 5)) := (HB.cell 6).trans rfl
  have e7 : WF.cell? ⟨b, 7, none⟩ = some (.int .i32 (p 6)) := (HB.cell 7).trans rfl
  have e8 : WF.cell? ⟨b, 8, none⟩ = some (.int .i32 (p 7)) := (HB.cell 8).trans rfl
  have e9 : WF.cell? ⟨b, 9, none⟩ = some (.int .i32 (p 8)) := (HB.cell 9).trans rfl
  have e10 : WF.cell? ⟨b, 10, none⟩ = some (.int .i32 (p 9)) := (HB.cell 10).trans rfl
  have e11 : WF.cell? ⟨b, 11, none⟩ = some (.int .i32 (p 10)) := (HB.cell 11).trans rfl
  have e12 : WF.cell? ⟨b, 12, none⟩ = some (.int .i32 (p 11)) := (HB.cell 12).trans rfl
  have e13 : WF.cell? ⟨b, 13, none⟩ = some (.int .i32 (p 12)) := (HB.cell 13).trans rfl
  have e14 : WF.cell? ⟨b, 14, none⟩ = some (.int .i32 (p 13)) := (HB.cell 14).trans rfl
  have e15 : WF.cell? ⟨b, 15, none⟩ = some (.int .i32 (p 14)) := (HB.cell 15).trans rfl
  have e16 : WF.cell? ⟨b, 16, none⟩ = some (.int .i32 (p 15)) := (HB.cell 16).trans rfl
  refine bodyPost_ret (v := .tuple #[idA s p, .int .i64 n]) ?_ hd ⟨rfl, hbel⟩
  simp [results, Try.results46, go_sem, idA, h2, h3, e0, e1, e2, e3, e4, e5, e6, e7, e8, e9, e10, e11, e12, e13, e14, e15, e16]
end Go.Proofs.Ytapnighankepjaa.Sc
