/- Acts (layer 5) in memory; whether they are small: the statements' own help. -/
import Derived.Deep.Cut
import Derived.Test.YteolfkkabhileaaMScSame
section
namespace Go.Proofs.Yteolfkkabhileaa.Sc
open Go.ChangeShapes Go.WideShapes Go.ChangeAt Go.RowKit
set_option linter.unusedVariables false
set_option linter.unusedSimpArgs false

/-- An act. -/
structure Opn where
  (k s t : Int) (id nd : Da.Dt) (n : Int)
/-- Where a datum's rows lie. -/
structure Sx where
  (m l t : Option Addr) (cm cl ct : Nat)
def sixL (d : Da.Dt) (x : Sx) : List Value := [.int .i64 d.K, .int .i64 d.N, .string d.S, .slice x.m d.M.length x.cm, .slice x.l d.L.length x.cl, .slice x.t d.T.length x.ct]
def opL (o : Opn) (x y : Sx) : List Value := [.int .i64 o.k, .int .i64 o.s, .int .i64 o.t] ++ sixL o.id x ++ sixL o.nd y ++ [.int .i64 o.n]
theorem opL_len (o : Opn) (x y : Sx) : (opL o x y).length = 16 := rfl
theorem opL_one (o : Opn) (x y : Sx) : ((opL o x y).toArray).all (·.oneCell') = true := by unfold opL sixL; simp [Value.oneCell']
theorem sixL_one (d : Da.Dt) (x : Sx) : ((sixL d x).toArray).all (·.oneCell') = true := by unfold sixL; simp [Value.oneCell']
theorem info_op : (Try.prog.info? 35).map (·.size) = some 16 := by kernel_rfl
/-- An act lies there. -/
def OpAt (w : World) (Q : Nat → Prop) (g off : Nat) (o : Opn) : Prop :=
  ∃ x y : Sx, Ld.At w g off (opL o x y) ∧ Da.IsDt w Q o.id (.agg (sixL o.id x).toArray) ∧ Da.IsDt w Q o.nd (.agg (sixL o.nd y).toArray) ∧ (Lit.int .i64 o.n).wf = true
def IsOps (w : World) (Q : Nat → Prop) (a : Option Addr) (l : List Opn) : Prop := ∀ i o, l[i]? = some o → ∃ g off, a = some ⟨g, off, none⟩ ∧ Q g ∧ OpAt w Q g (off + i * 16) o
theorem OpAt.below {w w' : World} {B g off : Nat} {o : Opn} (h : OpAt w (Da.Lo B) g off o) (hg : g < B) (hb : Below B w w') : OpAt w' (Da.Lo B) g off o := by
  obtain ⟨x, y, h1, h2, h3, h4⟩ := h
  exact ⟨x, y, h1.same (fun o u hu => (hb.cell (p := ⟨g, o, none⟩) hg).trans hu), h2.below hb, h3.below hb, h4⟩
theorem IsOps.below {w w' : World} {B : Nat} {a : Option Addr} {l : List Opn} (h : IsOps w (Da.Lo B) a l) (hb : Below B w w') : IsOps w' (Da.Lo B) a l := fun i o hi => by
  obtain ⟨g, off, h1, h2, h3⟩ := h i o hi
  exact ⟨g, off, h1, h2, h3.below h2 hb⟩
def dSmall (d : Da.Dt) : Bool := decide ((d.S.size : Int) ≤ 5000) && decide ((d.M.length : Int) ≤ 1000) && decide ((d.L.length : Int) + (d.T.length : Int) ≤ 100)
def opSmall (o : Opn) : Bool := dSmall o.id && dSmall o.nd
theorem load_list {P : Program} {ops : Array Oper} {rest : List Oper} {o : Oper} {a : Act} {w : World} {Q : Exit → Act → World → Prop} (x : Operand) (ty : TypeId) (g off : Nat) (cs : List Value) (d : TypeDesc) (hgd : o.guard = none) (ho : o.op = .load ty x)
    (hx : a.eval x = .pointer (some ⟨g, off, none⟩)) (hat : Ld.At w g off cs) (hu : P.underlying ty = some d) (hd : (match d with | .struct _ | .array _ _ => true | _ => false) = true) (hi : (P.info? ty).map (·.size) = some cs.length)
    (h : wpList P ops Q rest (a.put o.dst (.agg cs.toArray)) w) : wpList P ops Q (o :: rest) a w := Ld.wpList_at hgd ty x ho g off hx cs d hat hu hd hi h
theorem dt_lens {w : World} {Q : Nat → Prop} {d : Da.Dt} {x : Sx} (h : Da.IsDt w Q d (.agg (sixL d x).toArray)) : (d.S.size : Int) ≤ 9223372036854775807 ∧ (d.M.length : Int) ≤ 9223372036854775807 ∧ (d.L.length : Int) + (d.T.length : Int) ≤ 9223372036854775807 := by
  obtain ⟨am, cm, al, cl, at_, ct, _, _, _, hs, hm, hl, _, ht, _⟩ := h.open_
  have h1 := hm.2.1
  have h2 := hm.2.2.1
  have h3 := hl.2.2.1
  have h4 := ht.2.2.1
  unfold maxLen at hs h2
  omega
end Go.Proofs.Yteolfkkabhileaa.Sc
end
