/- What a copy of data in new memory does, round by round, without a walk. -/
import Derived.Test.YteddfdhbpgbloaaDatOwnMore
namespace Go.Proofs.Yteddfdhbpgbloaa.Da
open Go.ChangeShapes Go.WideShapes Go.ChangeAt Go.RowKit

mutual
/-- How many nodes a datum has. -/
def cnt : Dt → Nat
  | .mk _ _ _ _ l t => 1 + (cntL l + cntL t)
def cntL : List Dt → Nat
  | [] => 0
  | d :: r => cnt d + cntL r
end
theorem cnt_eq (d : Dt) : cnt d = 1 + (cntL d.L + cntL d.T) := by cases d; simp only [cnt, Dt.L, Dt.T]
mutual
theorem nodes_len : ∀ (d : Dt) (i : Nat), (nodes d i).length = cnt d
  | .mk k n s m l t, i => by
    simp only [nodes, cnt, List.length_cons, List.length_append, nodesL_len l, nodesL_len t]
    omega
theorem nodesL_len : ∀ (l : List Dt) (i : Nat), (nodesL l i).length = cntL l
  | [], _ => by simp only [nodesL, cntL, List.length_nil]
  | d :: r, i => by simp only [nodesL, cntL, List.length_append, nodes_len d, nodesL_len r]
end
theorem cntL_append (a b : List Dt) : cntL (a ++ b) = cntL a + cntL b := by
  induction a with
  | nil => simp [cntL]
  | cons x r ih => simp only [List.cons_append, cntL, ih]; omega
theorem take_snoc_dt (l : List Dt) (k : Nat) (d : Dt) (h : l[k]? = some d) : l.take (k + 1) = l.take k ++ [d] := by
  rw [List.take_add_one, h]; rfl
theorem cntL_snoc (l : List Dt) (k : Nat) (d : Dt) (h : l[k]? = some d) : cntL (l.take (k + 1)) = cntL (l.take k) + cnt d := by
  rw [take_snoc_dt l k d h, cntL_append]; simp [cntL]
/-- The blocks of Q, and those that are new. -/
def Nw (w0 w' : World) (Q : Nat → Prop) : Nat → Prop := fun b => Q b ∨ (w0.heap.size ≤ b ∧ b < w'.heap.size)
/-- How many nodes may still be copied, and the two functions that call each other. -/
structure LBox (w : World) (bl : Nat) (c : Nat) : Prop where
  lt : bl + 2 < w.heap.size
  c0 : w.cell? ⟨bl, 0, none⟩ = some (.int .i64 (c : Int))
  f0 : w.frozen? ⟨bl, 0, none⟩ = false
  c1 : w.cell? ⟨bl + 1, 0, none⟩ = some (.func (.func 74) #[] #[.pointer (some ⟨bl, 0, none⟩), .pointer (some ⟨bl + 2, 0, none⟩)])
  c2 : w.cell? ⟨bl + 2, 0, none⟩ = some (.func (.func 72) #[] #[.pointer (some ⟨bl + 1, 0, none⟩)])
theorem LBox.keep {w w' : World} {bl c : Nat} (h : LBox w bl c) (hb : Below (bl + 3) w w') : LBox w' bl c :=
  ⟨Nat.lt_of_lt_of_le h.lt hb.size, (hb.cell (p := ⟨bl, 0, none⟩) (by show bl < bl + 3; omega)).trans h.c0, (hb.frozen (p := ⟨bl, 0, none⟩) (by show bl < bl + 3; omega)).trans h.f0,
    (hb.cell (p := ⟨bl + 1, 0, none⟩) (by show bl + 1 < bl + 3; omega)).trans h.c1, (hb.cell (p := ⟨bl + 2, 0, none⟩) (by show bl + 2 < bl + 3; omega)).trans h.c2⟩
theorem LBox.bel {w w' : World} {bl c : Nat} (h : LBox w bl c) (hb : Below w.heap.size w w') : LBox w' bl c := h.keep (hb.mono (by have := h.lt; omega))
def VisR (w0 : World) (Q : Nat → Prop) (c : Nat) (d : Dt) (bl : Nat) (e : Ending) (w' : World) : Prop :=
  ∃ v', e = .returned v' ∧ Fr (fun i => i = bl) w0 w' ∧ LBox w' bl (c - cnt d) ∧ IsDt w' (Nw w0 w' Q) d v' ∧ (cnt d ≤ c → OwnDt w' d w0.heap.size w'.heap.size v')
def EachR (w0 : World) (Q : Nat → Prop) (c : Nat) (l : List Dt) (bl : Nat) (e : Ending) (w' : World) : Prop :=
  ∃ a' c', e = .returned (.slice a' l.length c') ∧ Fr (fun i => i = bl) w0 w' ∧ LBox w' bl (c - cntL l) ∧ IsSl a' l.length c' ∧ IsDts w' (Nw w0 w' Q) a' 0 l ∧
    (cntL l ≤ c → OwnSl w' w0.heap.size w'.heap.size a' l.length c' ∧ OwnDts w' w'.heap.size a' l 0 (nx a'))
def OwnVis (Q : Nat → Prop) (bl : Nat) (d : Dt) : Prop := ∀ (c : Nat) (v : Value) (w : World), c ≤ 4096 → IsDt w Q d v → LBox w bl c →
  Calls Try.prog 74 #[v, .pointer (some ⟨bl, 0, none⟩), .pointer (some ⟨bl + 2, 0, none⟩)] w (VisR w Q c d bl)
/-- Between two rounds: k elements are copied. -/
structure EachIn (w0 W1 : World) (Q : Nat → Prop) (c : Nat) (l : List Dt) (g : Nat) (ad : Addr) (bl k : Nat) (wr : World) : Prop where
  fr : Fr (fun i => i = bl ∨ i = g) W1 wr
  bx : LBox wr bl (c - cntL (l.take k))
  fz : ∀ j, wr.frozen? ⟨g, j, none⟩ = false
  done : ∀ j d, j < k → l[j]? = some d → ∃ x0 x1 x2 x3 x4 x5, Six wr g (j * 6) x0 x1 x2 x3 x4 x5 ∧ IsDt wr (fun b => Q b ∨ (g < b ∧ b < wr.heap.size)) d (.agg #[x0, x1, x2, x3, x4, x5])
  rest : ∀ j, k * 6 ≤ j → j < l.length * 6 → wr.cell? ⟨g, j, none⟩ = w0.cell? (ad.add j)
  own : cntL (l.take k) ≤ c → OwnDts wr wr.heap.size (some ⟨g, 0, none⟩) (l.take k) 0 (g + 1)
/-- Six stores in a row. -/
def set6 (w : World) (g o : Nat) (x0 x1 x2 x3 x4 x5 : Value) : World :=
  (((((w.setCell ⟨g, o, none⟩ x0).setCell ⟨g, o + 1, none⟩ x1).setCell ⟨g, o + 2, none⟩ x2).setCell ⟨g, o + 3, none⟩ x3).setCell ⟨g, o + 4, none⟩ x4).setCell ⟨g, o + 5, none⟩ x5
theorem set_ne (w : World) (g o g' o' : Nat) (u : Value) (h : g' ≠ g ∨ o' ≠ o) : (w.setCell ⟨g, o, none⟩ u).cell? ⟨g', o', none⟩ = w.cell? ⟨g', o', none⟩ :=
  World.cell?_setCell_other w ⟨g, o, none⟩ ⟨g', o', none⟩ u (fun e => by cases e; simp at h)
theorem set_eq (w : World) (g o : Nat) (u v : Value) (h : w.cell? ⟨g, o, none⟩ = some v) : (w.setCell ⟨g, o, none⟩ u).cell? ⟨g, o, none⟩ = some u :=
  World.cell?_setCell_same' _ _ _ (by rw [h]; rfl)
theorem set6_ne (w : World) (g o g' o' : Nat) (x0 x1 x2 x3 x4 x5 : Value) (h : g' ≠ g ∨ o' < o ∨ o + 6 ≤ o') : (set6 w g o x0 x1 x2 x3 x4 x5).cell? ⟨g', o', none⟩ = w.cell? ⟨g', o', none⟩ := by
  unfold set6
  rw [set_ne _ _ _ _ _ _ (by omega), set_ne _ _ _ _ _ _ (by omega), set_ne _ _ _ _ _ _ (by omega), set_ne _ _ _ _ _ _ (by omega), set_ne _ _ _ _ _ _ (by omega), set_ne _ _ _ _ _ _ (by omega)]
theorem set6_six (w : World) (g o : Nat) (x0 x1 x2 x3 x4 x5 : Value) (h : ∀ r, r < 6 → ∃ u, w.cell? ⟨g, o + r, none⟩ = some u) : Six (set6 w g o x0 x1 x2 x3 x4 x5) g o x0 x1 x2 x3 x4 x5 := by
  obtain ⟨u0, h0⟩ := h 0 (by omega)
  obtain ⟨u1, h1⟩ := h 1 (by omega)
  obtain ⟨u2, h2⟩ := h 2 (by omega)
  obtain ⟨u3, h3⟩ := h 3 (by omega)
  obtain ⟨u4, h4⟩ := h 4 (by omega)
  obtain ⟨u5, h5⟩ := h 5 (by omega)
  rw [Nat.add_zero] at h0
  unfold set6
  refine ⟨?_, ?_, ?_, ?_, ?_, ?_⟩
  · rw [set_ne _ _ _ _ _ _ (by omega), set_ne _ _ _ _ _ _ (by omega), set_ne _ _ _ _ _ _ (by omega), set_ne _ _ _ _ _ _ (by omega), set_ne _ _ _ _ _ _ (by omega)]
    exact set_eq _ _ _ _ _ h0
  · rw [set_ne _ _ _ _ _ _ (by omega), set_ne _ _ _ _ _ _ (by omega), set_ne _ _ _ _ _ _ (by omega), set_ne _ _ _ _ _ _ (by omega)]
    exact set_eq _ _ _ _ u1 (by rw [set_ne _ _ _ _ _ _ (by omega)]; exact h1)
  · rw [set_ne _ _ _ _ _ _ (by omega), set_ne _ _ _ _ _ _ (by omega), set_ne _ _ _ _ _ _ (by omega)]
    exact set_eq _ _ _ _ u2 (by rw [set_ne _ _ _ _ _ _ (by omega), set_ne _ _ _ _ _ _ (by omega)]; exact h2)
  · rw [set_ne _ _ _ _ _ _ (by omega), set_ne _ _ _ _ _ _ (by omega)]
    exact set_eq _ _ _ _ u3 (by rw [set_ne _ _ _ _ _ _ (by omega), set_ne _ _ _ _ _ _ (by omega), set_ne _ _ _ _ _ _ (by omega)]; exact h3)
  · rw [set_ne _ _ _ _ _ _ (by omega)]
    exact set_eq _ _ _ _ u4 (by rw [set_ne _ _ _ _ _ _ (by omega), set_ne _ _ _ _ _ _ (by omega), set_ne _ _ _ _ _ _ (by omega), set_ne _ _ _ _ _ _ (by omega)]; exact h4)
  · exact set_eq _ _ _ _ u5 (by rw [set_ne _ _ _ _ _ _ (by omega), set_ne _ _ _ _ _ _ (by omega), set_ne _ _ _ _ _ _ (by omega), set_ne _ _ _ _ _ _ (by omega), set_ne _ _ _ _ _ _ (by omega)]; exact h5)
theorem set6_frozen (w : World) (g o : Nat) (x0 x1 x2 x3 x4 x5 : Value) (p : Addr) : (set6 w g o x0 x1 x2 x3 x4 x5).frozen? p = w.frozen? p := by
  unfold set6; simp only [World.frozen?_setCell]
theorem set6_fr (w : World) (g o : Nat) (x0 x1 x2 x3 x4 x5 : Value) : Fr (fun i => i = g) w (set6 w g o x0 x1 x2 x3 x4 x5) := by
  have h := Fr.refl (fun i => i = g) w
  unfold set6
  exact (((((h.setCell (p := ⟨g, o, none⟩) (.inl rfl) _).setCell (p := ⟨g, o + 1, none⟩) (.inl rfl) _).setCell (p := ⟨g, o + 2, none⟩) (.inl rfl) _).setCell (p := ⟨g, o + 3, none⟩) (.inl rfl) _).setCell (p := ⟨g, o + 4, none⟩) (.inl rfl) _).setCell (p := ⟨g, o + 5, none⟩) (.inl rfl) _
theorem set6_size (w : World) (g o : Nat) (x0 x1 x2 x3 x4 x5 : Value) : (set6 w g o x0 x1 x2 x3 x4 x5).heap.size = w.heap.size := by
  unfold set6; simp [World.setCell]
end Go.Proofs.Yteddfdhbpgbloaa.Da
