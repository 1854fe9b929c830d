/- Data as trees, and what it means that a value reads as a tree in memory; frames. -/
import Derived.WalkKit
import Derived.ProofKit
import Derived.OpenShut
import Derived.Lib.Hide
import Derived.Outline
namespace Go.Proofs.Ytapnighankepjaa.Da
open Go.ChangeShapes Go.WideShapes Go.ChangeAt Go.RowKit

/-- Nothing has turned in old blocks but those of S. -/
structure Fr (S : Nat → Prop) (w w' : World) : Prop where
  os : w'.os = w.os
  tape : w'.tape = w.tape
  output : w'.output = w.output
  size : w.heap.size ≤ w'.heap.size
  block : ∀ k, k < w.heap.size → ¬ S k → w'.heap[k]? = w.heap[k]?

section
variable {S : Nat → Prop} {w w' w'' a : World}
theorem Fr.refl (S : Nat → Prop) (w : World) : Fr S w w := ⟨rfl, rfl, rfl, Nat.le_refl _, fun _ _ _ => rfl⟩
theorem Fr.trans (h : Fr S w w') (k : Fr S w' w'') : Fr S w w'' :=
  ⟨k.os.trans h.os, k.tape.trans h.tape, k.output.trans h.output, Nat.le_trans h.size k.size, fun i hi hs => (k.block i (Nat.lt_of_lt_of_le hi h.size) hs).trans (h.block i hi hs)⟩
/-- What the second turns is let go of, or is new since the first world. -/
theorem Fr.trans' {T : Nat → Prop} (h : Fr S w w') (k : Fr T w' w'') (hT : ∀ i, T i → i < w.heap.size → S i) : Fr S w w'' :=
  ⟨k.os.trans h.os, k.tape.trans h.tape, k.output.trans h.output, Nat.le_trans h.size k.size, fun i hi hs => (k.block i (Nat.lt_of_lt_of_le hi h.size) (fun ht => hs (hT i ht hi))).trans (h.block i hi hs)⟩
theorem Fr.mono {T : Nat → Prop} (h : Fr S w w') (hT : ∀ i, S i → i < w.heap.size → T i) : Fr T w w' :=
  ⟨h.os, h.tape, h.output, h.size, fun i hi hs => h.block i hi (fun hh => hs (hT i hh hi))⟩
theorem Fr.of_below {B : Nat} (h : Below B w w') : Fr (fun k => B ≤ k) w w' := ⟨h.os, h.tape, h.output, h.size, fun k _ hs => h.block k (by omega)⟩
theorem Fr.of_bel (h : Below w.heap.size w w') (S : Nat → Prop) : Fr S w w' := ⟨h.os, h.tape, h.output, h.size, fun k hk _ => h.block k hk⟩
theorem Fr.below {B : Nat} (h : Fr S w w') (hB : B ≤ w.heap.size) (hS : ∀ i, i < B → ¬ S i) : Below B w w' := ⟨h.os, h.tape, h.output, h.size, fun k hk => h.block k (by omega) (hS k hk)⟩
theorem Fr.bel (h : Fr S w w') (hS : ∀ i, i < w.heap.size → ¬ S i) : Below w.heap.size w w' := h.below (Nat.le_refl _) hS
theorem Fr.alloc (h : Fr S a w) (o : Obj) : Fr S a (w.alloc o) :=
  h.trans ⟨rfl, rfl, rfl, by simp, fun k hk _ => Below.heap_alloc _ _ _ hk⟩
theorem Fr.drew (h : Fr S a w) : Fr S a w.drew := ⟨h.os, h.tape, h.output, h.size, h.block⟩
theorem Fr.setCell (h : Fr S a w) {p : Addr} (hp : S p.block ∨ a.heap.size ≤ p.block) (u : Value) : Fr S a (w.setCell p u) :=
  h.trans' (T := fun i => i = p.block) ⟨rfl, rfl, rfl, by simp [World.setCell], fun k _ hne => Below.heap_setCell _ _ _ _ (by simpa using hne)⟩
    (fun i hi hlt => by subst hi; rcases hp with hp | hp; exact hp; omega)
theorem Fr.cell (h : Fr S w w') {p : Addr} (hp : p.block < w.heap.size) (hs : ¬ S p.block) : w'.cell? p = w.cell? p := World.cell?_of_block (w := w) (h.block p.block hp hs)
theorem Fr.frozen (h : Fr S w w') {p : Addr} (hp : p.block < w.heap.size) (hs : ¬ S p.block) : w'.frozen? p = w.frozen? p := World.frozen?_of_block (w := w) (h.block p.block hp hs)
end

theorem bel_refl (w : World) : Below w.heap.size w w := Below.refl _ _
theorem bel_trans {a b c : World} (h : Below a.heap.size a b) (k : Below b.heap.size b c) : Below a.heap.size a c := h.trans (k.mono h.size)
theorem bel_alloc (w : World) (o : Obj) : Below w.heap.size w (w.alloc o) := (Below.refl _ _).alloc (Nat.le_refl _) o

/-- A datum: kind, number, text, marks, elements, tail. -/
inductive Dt where
  | mk (k n : Int) (s : ByteArray) (m : List Int) (l t : List Dt)

def Dt.K : Dt → Int | .mk k _ _ _ _ _ => k
def Dt.N : Dt → Int | .mk _ n _ _ _ _ => n
def Dt.S : Dt → ByteArray | .mk _ _ s _ _ _ => s
def Dt.M : Dt → List Int | .mk _ _ _ m _ _ => m
def Dt.L : Dt → List Dt | .mk _ _ _ _ l _ => l
def Dt.T : Dt → List Dt | .mk _ _ _ _ _ t => t

/-- Induction over a datum's tree. -/
theorem Dt.ind {P : Dt → Prop} (h : ∀ k n s m l t, (∀ d ∈ l, P d) → (∀ d ∈ t, P d) → P (.mk k n s m l t)) : ∀ d, P d := by
  intro d
  refine Dt.rec (motive_1 := P) (motive_2 := fun l => ∀ d ∈ l, P d) ?_ ?_ ?_ d
  · intro k n s m l t hl ht
    exact h k n s m l t hl ht
  · intro d hd
    cases hd
  · intro x r hx hr d hd
    rcases List.mem_cons.1 hd with rfl | hd
    · exact hx
    · exact hr d hd

/-- The blocks below a bound. -/
def Lo (B : Nat) : Nat → Prop := fun b => b < B

/-- A slice of numbers, of which the first are these. -/
def IntRow (w : World) (Q : Nat → Prop) (a : Option Addr) (len cap : Nat) (zs : List Int) : Prop :=
  zs.length = len ∧ len ≤ cap ∧ cap ≤ maxLen ∧ len * 8 ≤ 140737488351232 ∧ (a = none → cap = 0) ∧ (∀ z ∈ zs, (Lit.int .i64 z).wf = true) ∧
    ∀ k, k < len → ∃ b off, a = some ⟨b, off, none⟩ ∧ Q b ∧ w.cell? ⟨b, off + k, none⟩ = some (.int .i64 (zs.getD k 0))

/-- Six cells hold a datum's six fields. -/
def Six (w : World) (b o : Nat) (x0 x1 x2 x3 x4 x5 : Value) : Prop :=
  w.cell? ⟨b, o, none⟩ = some x0 ∧ w.cell? ⟨b, o + 1, none⟩ = some x1 ∧ w.cell? ⟨b, o + 2, none⟩ = some x2 ∧ w.cell? ⟨b, o + 3, none⟩ = some x3 ∧ w.cell? ⟨b, o + 4, none⟩ = some x4 ∧ w.cell? ⟨b, o + 5, none⟩ = some x5

mutual
def IsDt (w : World) (Q : Nat → Prop) : Dt → Value → Prop
  | .mk k n s m l t, v => (Lit.int .i64 k).wf = true ∧ (Lit.int .i64 n).wf = true ∧ s.size ≤ maxLen ∧
    ∃ am cm al cl at_ ct, v = .agg #[.int .i64 k, .int .i64 n, .string s, .slice am m.length cm, .slice al l.length cl, .slice at_ t.length ct] ∧
      IntRow w Q am m.length cm m ∧ IsSl al l.length cl ∧ IsDts w Q al 0 l ∧ IsSl at_ t.length ct ∧ IsDts w Q at_ 0 t
def IsDts (w : World) (Q : Nat → Prop) (a : Option Addr) : Nat → List Dt → Prop
  | _, [] => True
  | i, d :: r => (∃ b off x0 x1 x2 x3 x4 x5, a = some ⟨b, off, none⟩ ∧ Q b ∧ Six w b (off + i * 6) x0 x1 x2 x3 x4 x5 ∧ IsDt w Q d (.agg #[x0, x1, x2, x3, x4, x5])) ∧ IsDts w Q a (i + 1) r
/-- What is asked of a slice of data but for its elements. -/
def IsSl (a : Option Addr) (len cap : Nat) : Prop := len ≤ cap ∧ cap ≤ maxLen ∧ len * 104 ≤ 140737488351232 ∧ (a = none → cap = 0)
end
end Go.Proofs.Ytapnighankepjaa.Da
