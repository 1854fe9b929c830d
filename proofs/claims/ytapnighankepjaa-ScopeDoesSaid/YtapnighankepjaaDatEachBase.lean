/- What a copy of data in new memory does, round by round, without a walk. -/
import Derived.Test.YtapnighankepjaaDatOwnMore
namespace Go.Proofs.Ytapnighankepjaa.Da
open Go.ChangeShapes Go.WideShapes Go.ChangeAt Go.RowKit

mutual
/-- How many nodes a datum has. -/
def cnt : Dt → Nat
  | .mk _ _ _ _ l t => 1 + (cntL l + cntL t)
def cntL : List Dt → Nat
  | [] => 0
  | d :: r => cnt d + cntL r
end
theorem cnt_eq (d : Dt) : cnt d = 1 + (cntL d.L + cntL d.T) := by cases d; simp only [cnt, Dt.L, Dt.T]
mutual
theorem nodes_len : ∀ (d : Dt) (i : Nat), (nodes d i).length = cnt d
  | .mk k n s m l t, i => by
    simp only [nodes, cnt, List.length_cons, List.length_append, nodesL_len l, nodesL_len t]
    omega
theorem nodesL_len : ∀ (l : List Dt) (i : Nat), (nodesL l i).length = cntL l
  | [], _ => by simp only [nodesL, cntL, List.length_nil]
  | d :: r, i => by simp only [nodesL, cntL, List.length_append, nodes_len d, nodesL_len r]
end
theorem cntL_append (a b : List Dt) : cntL (a ++ b) = cntL a + cntL b := by
  induction a with
  | nil => simp [cntL]
  | cons x r ih => simp only [List.cons_append, cntL, ih]; omega
theorem take_snoc_dt (l : List Dt) (k : Nat) (d : Dt) (h : l[k]? = some d) : l.take (k + 1) = l.take k ++ [d] := by
  rw [List.take_add_one, h]; rfl
theorem cntL_snoc (l : List Dt) (k : Nat) (d : Dt) (h : l[k]? = some d) : cntL (l.take (k + 1)) = cntL (l.take k) + cnt d := by
  rw [take_snoc_dt l k d h, cntL_append]; simp [cntL]
/-- The blocks of Q, and those that are new. -/
def Nw (w0 w' : World) (Q : Nat → Prop) : Nat → Prop := fun b => Q b ∨ (w0.heap.size ≤ b ∧ b < w'.heap.size)
/-- Six stores in a row. -/
def set6 (w : World) (g o : Nat) (x0 x1 x2 x3 x4 x5 : Value) : World :=
  (((((w.setCell ⟨g, o, none⟩ x0).setCell ⟨g, o + 1, none⟩ x1).setCell ⟨g, o + 2, none⟩ x2).setCell ⟨g, o + 3, none⟩ x3).setCell ⟨g, o + 4, none⟩ x4).setCell ⟨g, o + 5, none⟩ x5
theorem set_ne (w : World) (g o g' o' : Nat) (u : Value) (h : g' ≠ g ∨ o' ≠ o) : (w.setCell ⟨g, o, none⟩ u).cell? ⟨g', o', none⟩ = w.cell? ⟨g', o', none⟩ :=
  World.cell?_setCell_other w ⟨g, o, none⟩ ⟨g', o', none⟩ u (fun e => by cases e; simp at h)
theorem set_eq (w : World) (g o : Nat) (u v : Value) (h : w.cell? ⟨g, o, none⟩ = some v) : (w.setCell ⟨g, o, none⟩ u).cell? ⟨g, o, none⟩ = some u :=
  World.cell?_setCell_same' _ _ _ (by rw [h]; rfl)
theorem set6_ne (w : World) (g o g' o' : Nat) (x0 x1 x2 x3 x4 x5 : Value) (h : g' ≠ g ∨ o' < o ∨ o + 6 ≤ o') : (set6 w g o x0 x1 x2 x3 x4 x5).cell? ⟨g', o', none⟩ = w.cell? ⟨g', o', none⟩ := by
  unfold set6
  rw [set_ne _ _ _ _ _ _ (by omega), set_ne _ _ _ _ _ _ (by omega), set_ne _ _ _ _ _ _ (by omega), set_ne _ _ _ _ _ _ (by omega), set_ne _ _ _ _ _ _ (by omega), set_ne _ _ _ _ _ _ (by omega)]
theorem set6_six (w : World) (g o : Nat) (x0 x1 x2 x3 x4 x5 : Value) (h : ∀ r, r < 6 → ∃ u, w.cell? ⟨g, o + r, none⟩ = some u) : Six (set6 w g o x0 x1 x2 x3 x4 x5) g o x0 x1 x2 x3 x4 x5 := by
  obtain ⟨u0, h0⟩ := h 0 (by omega)
  obtain ⟨u1, h1⟩ := h 1 (by omega)
  obtain ⟨u2, h2⟩ := h 2 (by omega)
  obtain ⟨u3, h3⟩ := h 3 (by omega)
  obtain ⟨u4, h4⟩ := h 4 (by omega)
  obtain ⟨u5, h5⟩ := h 5 (by omega)
  rw [Nat.add_zero] at h0
  unfold set6
  refine ⟨?_, ?_, ?_, ?_, ?_, ?_⟩
  · rw [set_ne _ _ _ _ _ _ (by omega), set_ne _ _ _ _ _ _ (by omega), set_ne _ _ _ _ _ _ (by omega), set_ne _ _ _ _ _ _ (by omega), set_ne _ _ _ _ _ _ (by omega)]
    exact set_eq _ _ _ _ _ h0
  · rw [set_ne _ _ _ _ _ _ (by omega), set_ne _ _ _ _ _ _ (by omega), set_ne _ _ _ _ _ _ (by omega), set_ne _ _ _ _ _ _ (by omega)]
    exact set_eq _ _ _ _ u1 (by rw [set_ne _ _ _ _ _ _ (by omega)]; exact h1)
  · rw [set_ne _ _ _ _ _ _ (by omega), set_ne _ _ _ _ _ _ (by omega), set_ne _ _ _ _ _ _ (by omega)]
    exact set_eq _ _ _ _ u2 (by rw [set_ne _ _ _ _ _ _ (by omega), set_ne _ _ _ _ _ _ (by omega)]; exact h2)
  · rw [set_ne _ _ _ _ _ _ (by omega), set_ne _ _ _ _ _ _ (by omega)]
    exact set_eq _ _ _ _ u3 (by rw [set_ne _ _ _ _ _ _ (by omega), set_ne _ _ _ _ _ _ (by omega), set_ne _ _ _ _ _ _ (by omega)]; exact h3)
  · rw [set_ne _ _ _ _ _ _ (by omega)]
    exact set_eq _ _ _ _ u4 (by rw [set_ne _ _ _ _ _ _ (by omega), set_ne _ _ _ _ _ _ (by omega), set_ne _ _ _ _ _ _ (by omega), set_ne _ _ _ _ _ _ (by omega)]; exact h4)
  · exact set_eq _ _ _ _ u5 (by rw [set_ne _ _ _ _ _ _ (by omega), set_ne _ _ _ _ _ _ (by omega), set_ne _ _ _ _ _ _ (by omega), set_ne _ _ _ _ _ _ (by omega), set_ne _ _ _ _ _ _ (by omega)]; exact h5)
theorem set6_frozen (w : World) (g o : Nat) (x0 x1 x2 x3 x4 x5 : Value) (p : Addr) : (set6 w g o x0 x1 x2 x3 x4 x5).frozen? p = w.frozen? p := by
  unfold set6; simp only [World.frozen?_setCell]
theorem set6_fr (w : World) (g o : Nat) (x0 x1 x2 x3 x4 x5 : Value) : Fr (fun i => i = g) w (set6 w g o x0 x1 x2 x3 x4 x5) := by
  have h := Fr.refl (fun i => i = g) w
  unfold set6
  exact (((((h.setCell (p := ⟨g, o, none⟩) (.inl rfl) _).setCell (p := ⟨g, o + 1, none⟩) (.inl rfl) _).setCell (p := ⟨g, o + 2, none⟩) (.inl rfl) _).setCell (p := ⟨g, o + 3, none⟩) (.inl rfl) _).setCell (p := ⟨g, o + 4, none⟩) (.inl rfl) _).setCell (p := ⟨g, o + 5, none⟩) (.inl rfl) _
theorem set6_size (w : World) (g o : Nat) (x0 x1 x2 x3 x4 x5 : Value) : (set6 w g o x0 x1 x2 x3 x4 x5).heap.size = w.heap.size := by
  unfold set6; simp [World.setCell]
end Go.Proofs.Ytapnighankepjaa.Da
