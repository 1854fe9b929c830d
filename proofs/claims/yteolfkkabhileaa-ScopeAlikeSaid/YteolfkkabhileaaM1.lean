/- Whether a datum may be by itself: what the program's functions return. -/
import Derived.WalkKit
import Derived.ProofKit
import Derived.OpenShut
import Derived.Lib.Hide
import Derived.Outline
import Derived.Test.YteolfkkabhileaaShelf
import Derived.Test.YteolfkkabhileaaRows
import Derived.OwnWalk
import Derived.Laws.OwnMore
import Derived.WalkSpells
import Derived.ChangeSlices
import Derived.SizedLaws
section
namespace Go.Proofs.Yteolfkkabhileaa.Da
open Go.ChangeShapes Go.WideShapes Go.ChangeAt Go.RowKit

/-- Nothing has turned in old blocks but those of S. -/
structure Fr (S : Nat → Prop) (w w' : World) : Prop where
  os : w'.os = w.os
  tape : w'.tape = w.tape
  output : w'.output = w.output
  size : w.heap.size ≤ w'.heap.size
  block : ∀ k, k < w.heap.size → ¬ S k → w'.heap[k]? = w.heap[k]?

section
variable {S : Nat → Prop} {w w' w'' a : World}
theorem Fr.refl (S : Nat → Prop) (w : World) : Fr S w w := ⟨rfl, rfl, rfl, Nat.le_refl _, fun _ _ _ => rfl⟩
theorem Fr.trans (h : Fr S w w') (k : Fr S w' w'') : Fr S w w'' :=
  ⟨k.os.trans h.os, k.tape.trans h.tape, k.output.trans h.output, Nat.le_trans h.size k.size, fun i hi hs => (k.block i (Nat.lt_of_lt_of_le hi h.size) hs).trans (h.block i hi hs)⟩
/-- What the second turns is let go of, or is new since the first world. -/
theorem Fr.trans' {T : Nat → Prop} (h : Fr S w w') (k : Fr T w' w'') (hT : ∀ i, T i → i < w.heap.size → S i) : Fr S w w'' :=
  ⟨k.os.trans h.os, k.tape.trans h.tape, k.output.trans h.output, Nat.le_trans h.size k.size, fun i hi hs => (k.block i (Nat.lt_of_lt_of_le hi h.size) (fun ht => hs (hT i ht hi))).trans (h.block i hi hs)⟩
theorem Fr.mono {T : Nat → Prop} (h : Fr S w w') (hT : ∀ i, S i → i < w.heap.size → T i) : Fr T w w' :=
  ⟨h.os, h.tape, h.output, h.size, fun i hi hs => h.block i hi (fun hh => hs (hT i hh hi))⟩
theorem Fr.of_below {B : Nat} (h : Below B w w') : Fr (fun k => B ≤ k) w w' := ⟨h.os, h.tape, h.output, h.size, fun k _ hs => h.block k (by omega)⟩
theorem Fr.of_bel (h : Below w.heap.size w w') (S : Nat → Prop) : Fr S w w' := ⟨h.os, h.tape, h.output, h.size, fun k hk _ => h.block k hk⟩
theorem Fr.below {B : Nat} (h : Fr S w w') (hB : B ≤ w.heap.size) (hS : ∀ i, i < B → ¬ S i) : Below B w w' := ⟨h.os, h.tape, h.output, h.size, fun k hk => h.block k (by omega) (hS k hk)⟩
theorem Fr.bel (h : Fr S w w') (hS : ∀ i, i < w.heap.size → ¬ S i) : Below w.heap.size w w' := h.below (Nat.le_refl _) hS
theorem Fr.alloc (h : Fr S a w) (o : Obj) : Fr S a (w.alloc o) :=
  h.trans ⟨rfl, rfl, rfl, by simp, fun k hk _ => Below.heap_alloc _ _ _ hk⟩
theorem Fr.drew (h : Fr S a w) : Fr S a w.drew := ⟨h.os, h.tape, h.output, h.size, h.block⟩
theorem Fr.setCell (h : Fr S a w) {p : Addr} (hp : S p.block ∨ a.heap.size ≤ p.block) (u : Value) : Fr S a (w.setCell p u) :=
  h.trans' (T := fun i => i = p.block) ⟨rfl, rfl, rfl, by simp [World.setCell], fun k _ hne => Below.heap_setCell _ _ _ _ (by simpa using hne)⟩
    (fun i hi hlt => by subst hi; rcases hp with hp | hp; exact hp; omega)
theorem Fr.cell (h : Fr S w w') {p : Addr} (hp : p.block < w.heap.size) (hs : ¬ S p.block) : w'.cell? p = w.cell? p := World.cell?_of_block (w := w) (h.block p.block hp hs)
theorem Fr.frozen (h : Fr S w w') {p : Addr} (hp : p.block < w.heap.size) (hs : ¬ S p.block) : w'.frozen? p = w.frozen? p := World.frozen?_of_block (w := w) (h.block p.block hp hs)
end

theorem bel_refl (w : World) : Below w.heap.size w w := Below.refl _ _
theorem bel_trans {a b c : World} (h : Below a.heap.size a b) (k : Below b.heap.size b c) : Below a.heap.size a c := h.trans (k.mono h.size)
theorem bel_alloc (w : World) (o : Obj) : Below w.heap.size w (w.alloc o) := (Below.refl _ _).alloc (Nat.le_refl _) o

/-- A datum: kind, number, text, marks, elements, tail. -/
inductive Dt where
  | mk (k n : Int) (s : ByteArray) (m : List Int) (l t : List Dt)

def Dt.K : Dt → Int | .mk k _ _ _ _ _ => k
def Dt.N : Dt → Int | .mk _ n _ _ _ _ => n
def Dt.S : Dt → ByteArray | .mk _ _ s _ _ _ => s
def Dt.M : Dt → List Int | .mk _ _ _ m _ _ => m
def Dt.L : Dt → List Dt | .mk _ _ _ _ l _ => l
def Dt.T : Dt → List Dt | .mk _ _ _ _ _ t => t

/-- Induction over a datum's tree. -/
theorem Dt.ind {P : Dt → Prop} (h : ∀ k n s m l t, (∀ d ∈ l, P d) → (∀ d ∈ t, P d) → P (.mk k n s m l t)) : ∀ d, P d := by
  intro d
  refine Dt.rec (motive_1 := P) (motive_2 := fun l => ∀ d ∈ l, P d) ?_ ?_ ?_ d
  · intro k n s m l t hl ht
    exact h k n s m l t hl ht
  · intro d hd
    cases hd
  · intro x r hx hr d hd
    rcases List.mem_cons.1 hd with rfl | hd
    · exact hx
    · exact hr d hd

/-- The blocks below a bound. -/
def Lo (B : Nat) : Nat → Prop := fun b => b < B

/-- A slice of numbers, of which the first are these. -/
def IntRow (w : World) (Q : Nat → Prop) (a : Option Addr) (len cap : Nat) (zs : List Int) : Prop :=
  zs.length = len ∧ len ≤ cap ∧ cap ≤ maxLen ∧ len * 8 ≤ 140737488351232 ∧ (a = none → cap = 0) ∧ (∀ z ∈ zs, (Lit.int .i64 z).wf = true) ∧
    ∀ k, k < len → ∃ b off, a = some ⟨b, off, none⟩ ∧ Q b ∧ w.cell? ⟨b, off + k, none⟩ = some (.int .i64 (zs.getD k 0))

/-- Six cells hold a datum's six fields. -/
def Six (w : World) (b o : Nat) (x0 x1 x2 x3 x4 x5 : Value) : Prop :=
  w.cell? ⟨b, o, none⟩ = some x0 ∧ w.cell? ⟨b, o + 1, none⟩ = some x1 ∧ w.cell? ⟨b, o + 2, none⟩ = some x2 ∧ w.cell? ⟨b, o + 3, none⟩ = some x3 ∧ w.cell? ⟨b, o + 4, none⟩ = some x4 ∧ w.cell? ⟨b, o + 5, none⟩ = some x5

mutual
def IsDt (w : World) (Q : Nat → Prop) : Dt → Value → Prop
  | .mk k n s m l t, v => (Lit.int .i64 k).wf = true ∧ (Lit.int .i64 n).wf = true ∧ s.size ≤ maxLen ∧
    ∃ am cm al cl at_ ct, v = .agg #[.int .i64 k, .int .i64 n, .string s, .slice am m.length cm, .slice al l.length cl, .slice at_ t.length ct] ∧
      IntRow w Q am m.length cm m ∧ IsSl al l.length cl ∧ IsDts w Q al 0 l ∧ IsSl at_ t.length ct ∧ IsDts w Q at_ 0 t
def IsDts (w : World) (Q : Nat → Prop) (a : Option Addr) : Nat → List Dt → Prop
  | _, [] => True
  | i, d :: r => (∃ b off x0 x1 x2 x3 x4 x5, a = some ⟨b, off, none⟩ ∧ Q b ∧ Six w b (off + i * 6) x0 x1 x2 x3 x4 x5 ∧ IsDt w Q d (.agg #[x0, x1, x2, x3, x4, x5])) ∧ IsDts w Q a (i + 1) r
/-- What is asked of a slice of data but for its elements. -/
def IsSl (a : Option Addr) (len cap : Nat) : Prop := len ≤ cap ∧ cap ≤ maxLen ∧ len * 104 ≤ 140737488351232 ∧ (a = none → cap = 0)
end
end Go.Proofs.Yteolfkkabhileaa.Da
end
section
namespace Go.Proofs.Yteolfkkabhileaa.Da
open Go.ChangeShapes Go.WideShapes Go.ChangeAt Go.RowKit

theorem IntRow.keep {w w' : World} {Q Q' : Nat → Prop} {a : Option Addr} {len cap : Nat} {zs : List Int} (h : IntRow w Q a len cap zs) (hQ : ∀ b, Q b → Q' b)
    (hk : ∀ b o, Q b → w'.cell? ⟨b, o, none⟩ = w.cell? ⟨b, o, none⟩) : IntRow w' Q' a len cap zs := by
  obtain ⟨h1, h2, h3, h4, h5, h6, h7⟩ := h
  refine ⟨h1, h2, h3, h4, h5, h6, fun k hlt => ?_⟩
  obtain ⟨b, off, e, hb, hc⟩ := h7 k hlt
  exact ⟨b, off, e, hQ b hb, (hk b _ hb).trans hc⟩
theorem Six.keep {w w' : World} {b o : Nat} {x0 x1 x2 x3 x4 x5 : Value} (h : Six w b o x0 x1 x2 x3 x4 x5) (hk : ∀ o, w'.cell? ⟨b, o, none⟩ = w.cell? ⟨b, o, none⟩) : Six w' b o x0 x1 x2 x3 x4 x5 :=
  ⟨(hk _).trans h.1, (hk _).trans h.2.1, (hk _).trans h.2.2.1, (hk _).trans h.2.2.2.1, (hk _).trans h.2.2.2.2.1, (hk _).trans h.2.2.2.2.2⟩
mutual
theorem IsDt.keep {w w' : World} {Q Q' : Nat → Prop} (hQ : ∀ b, Q b → Q' b) (hk : ∀ b o, Q b → w'.cell? ⟨b, o, none⟩ = w.cell? ⟨b, o, none⟩) : ∀ (d : Dt) (v : Value), IsDt w Q d v → IsDt w' Q' d v
  | .mk k n s m l t, v, h => by
    simp only [IsDt] at h ⊢
    obtain ⟨h1, h2, h3, am, cm, al, cl, at_, ct, hv, hm, hl, hls, ht, hts⟩ := h
    exact ⟨h1, h2, h3, am, cm, al, cl, at_, ct, hv, hm.keep hQ hk, hl, IsDts.keep hQ hk al l 0 hls, ht, IsDts.keep hQ hk at_ t 0 hts⟩
theorem IsDts.keep {w w' : World} {Q Q' : Nat → Prop} (hQ : ∀ b, Q b → Q' b) (hk : ∀ b o, Q b → w'.cell? ⟨b, o, none⟩ = w.cell? ⟨b, o, none⟩) (a : Option Addr) : ∀ (l : List Dt) (i : Nat), IsDts w Q a i l → IsDts w' Q' a i l
  | [], _, _ => by simp only [IsDts]
  | d :: r, i, h => by
    simp only [IsDts] at h ⊢
    obtain ⟨⟨b, off, x0, x1, x2, x3, x4, x5, ha, hb, hx, hd⟩, hr⟩ := h
    exact ⟨⟨b, off, x0, x1, x2, x3, x4, x5, ha, hQ b hb, hx.keep (fun o => hk b o hb), IsDt.keep hQ hk d _ hd⟩, IsDts.keep hQ hk a r (i + 1) hr⟩
end
section
variable {w w' : World} {Q Q' : Nat → Prop} {B B' : Nat} {d : Dt} {v : Value}
theorem IsDt.below (h : IsDt w (Lo B) d v) (hb : Below B w w') : IsDt w' (Lo B) d v := IsDt.keep (fun _ h => h) (fun b o hlt => hb.cell (p := ⟨b, o, none⟩) hlt) d v h
theorem IsDt.fr {S : Nat → Prop} (h : IsDt w (Lo B) d v) (hb : Fr S w w') (hB : B ≤ w.heap.size) (hS : ∀ i, i < B → ¬ S i) : IsDt w' (Lo B) d v := h.below (hb.below hB hS)
theorem IsDts.below {a : Option Addr} {l : List Dt} {i : Nat} (h : IsDts w (Lo B) a i l) (hb : Below B w w') : IsDts w' (Lo B) a i l := IsDts.keep (fun _ h => h) (fun b o hlt => hb.cell (p := ⟨b, o, none⟩) hlt) a l i h
theorem IsDt.more (h : IsDt w Q d v) (hQ : ∀ b, Q b → Q' b) : IsDt w Q' d v := IsDt.keep hQ (fun _ _ _ => rfl) d v h
theorem IsDts.more {a : Option Addr} {l : List Dt} {i : Nat} (h : IsDts w Q a i l) (hQ : ∀ b, Q b → Q' b) : IsDts w Q' a i l := IsDts.keep hQ (fun _ _ _ => rfl) a l i h
end
/-- The element at an index. -/
theorem IsDts.at_ {w : World} {Q : Nat → Prop} {a : Option Addr} : ∀ {l : List Dt} {i : Nat}, IsDts w Q a i l → ∀ (k : Nat) (d : Dt), l[k]? = some d →
    ∃ b off x0 x1 x2 x3 x4 x5, a = some ⟨b, off, none⟩ ∧ Q b ∧ Six w b (off + (i + k) * 6) x0 x1 x2 x3 x4 x5 ∧ IsDt w Q d (.agg #[x0, x1, x2, x3, x4, x5])
  | [], _, _, k, d, hd => by simp at hd
  | x :: r, i, h, 0, d, hd => by
    simp only [IsDts] at h
    obtain rfl : x = d := by simpa using hd
    exact h.1
  | x :: r, i, h, k + 1, d, hd => by
    simp only [IsDts] at h
    have := IsDts.at_ h.2 k d (by simpa using hd)
    rwa [show i + 1 + k = i + (k + 1) by omega] at this
/-- From every element to all. -/
theorem IsDts.of_at {w : World} {Q : Nat → Prop} {a : Option Addr} : ∀ {l : List Dt} {i : Nat}, (∀ (k : Nat) (d : Dt), l[k]? = some d →
    ∃ b off x0 x1 x2 x3 x4 x5, a = some ⟨b, off, none⟩ ∧ Q b ∧ Six w b (off + (i + k) * 6) x0 x1 x2 x3 x4 x5 ∧ IsDt w Q d (.agg #[x0, x1, x2, x3, x4, x5])) → IsDts w Q a i l
  | [], _, _ => by simp only [IsDts]
  | x :: r, i, h => by
    simp only [IsDts]
    refine ⟨by simpa using h 0 x rfl, IsDts.of_at fun k d hd => ?_⟩
    have := h (k + 1) d (by simpa using hd)
    rwa [show i + (k + 1) = i + 1 + k by omega] at this
/-- A datum's value, opened. -/
theorem IsDt.open_ {w : World} {Q : Nat → Prop} {d : Dt} {v : Value} (h : IsDt w Q d v) : ∃ am cm al cl at_ ct, v = .agg #[.int .i64 d.K, .int .i64 d.N, .string d.S, .slice am d.M.length cm, .slice al d.L.length cl, .slice at_ d.T.length ct] ∧
    (Lit.int .i64 d.K).wf = true ∧ (Lit.int .i64 d.N).wf = true ∧ d.S.size ≤ maxLen ∧ IntRow w Q am d.M.length cm d.M ∧ IsSl al d.L.length cl ∧ IsDts w Q al 0 d.L ∧ IsSl at_ d.T.length ct ∧ IsDts w Q at_ 0 d.T := by
  cases d with
  | mk k n s m l t =>
    simp only [IsDt] at h
    obtain ⟨h1, h2, h3, am, cm, al, cl, at_, ct, hv, hm, hl, hls, ht, hts⟩ := h
    exact ⟨am, cm, al, cl, at_, ct, hv, h1, h2, h3, hm, hl, hls, ht, hts⟩
/-- The element at an index, its fields by their kinds. -/
theorem IsDts.at6 {w : World} {Q : Nat → Prop} {a : Option Addr} {l : List Dt} (h : IsDts w Q a 0 l) (k : Nat) (d : Dt) (hd : l[k]? = some d) :
    ∃ b off am cm al cl at_ ct, a = some ⟨b, off, none⟩ ∧ Q b ∧ Six w b (off + k * 6) (.int .i64 d.K) (.int .i64 d.N) (.string d.S) (.slice am d.M.length cm) (.slice al d.L.length cl) (.slice at_ d.T.length ct) ∧
      IsDt w Q d (.agg #[.int .i64 d.K, .int .i64 d.N, .string d.S, .slice am d.M.length cm, .slice al d.L.length cl, .slice at_ d.T.length ct]) := by
  obtain ⟨b, off, x0, x1, x2, x3, x4, x5, ha, hb, hs, hi⟩ := h.at_ k d hd
  rw [Nat.zero_add] at hs
  obtain ⟨am, cm, al, cl, at_, ct, hv, _⟩ := hi.open_
  injection hv with hv
  simp only [Array.mk.injEq, List.cons.injEq, and_true] at hv
  obtain ⟨rfl, rfl, rfl, rfl, rfl, rfl⟩ := hv
  exact ⟨b, off, am, cm, al, cl, at_, ct, ha, hb, hs, hi⟩
end Go.Proofs.Yteolfkkabhileaa.Da
end
section
namespace Go.Proofs.Yteolfkkabhileaa.Da
open Go.ChangeShapes Go.WideShapes Go.ChangeAt Go.RowKit

theorem datum_info : (Try.prog.info? 33).map (fun i => (i.zero, i.size, i.bytes)) = some (some (.agg #[.int .i64 0, .int .i64 0, .string ByteArray.empty, .slice none 0 0, .slice none 0 0, .slice none 0 0]), 6, 104) := by kernel_rfl
/-- A copy of a slice's cells in a row of its own. -/
def CloneP (w : World) (ad : Addr) (n : Nat) (e : Ending) (w' : World) : Prop :=
  ∃ g cap, e = .returned (.slice (some ⟨g, 0, none⟩) n cap) ∧ w.heap.size ≤ g ∧ g < w'.heap.size ∧ n ≤ cap ∧ cap ≤ maxLen ∧ (∀ j, j < n * 6 → w'.cell? ⟨g, j, none⟩ = w.cell? (ad.add j)) ∧ (∀ j, w'.frozen? ⟨g, j, none⟩ = false) ∧ Below w.heap.size w w'
theorem own_form {w : World} {base : Nat} {e : TypeId} {size : Nat} {v : Value} {n : Nat} {xs : List Value} (h : w.ownsRow base e size v n xs) (hv : v ≠ .slice none 0 0) :
    ∃ g cap, v = .slice (some ⟨g, 0, none⟩) n cap ∧ base ≤ g ∧ g < w.heap.size ∧ n ≤ cap ∧ cap ≤ maxLen := by
  rcases h.2 with ⟨h0, _⟩ | ⟨g, cap, cur, hv, hb, hg, hc, hm, _⟩
  · exact absurd h0 hv
  · refine ⟨g, cap, hv, hb, ?_, hc, hm⟩
    rcases Nat.lt_or_ge g w.heap.size with hlt | hge
    · exact hlt
    · rw [Array.getElem?_eq_none hge] at hg; cases hg
theorem own_lit_ge (w : World) (k : Nat) (hk : (Value.slice (some ⟨w.heap.size, 0, none⟩) 0 0).ownBlock = some k) : w.heap.size ≤ k := by
  have : w.heap.size = k := by simpa [Value.ownBlock] using hk
  omega
end Go.Proofs.Yteolfkkabhileaa.Da
end
section
namespace Go.Proofs.Yteolfkkabhileaa.Da
open Go.ChangeShapes Go.WideShapes Go.ChangeAt Go.RowKit

def beginSet : List UInt8 := [33, 36, 37, 38, 42, 47, 58, 60, 61, 62, 63, 94, 95, 126]
def moreSet : List UInt8 := [43, 45, 46, 64]
def begB (c : UInt8) : Bool := (decide (97 ≤ (c.toNat : Int)) && decide ((c.toNat : Int) ≤ 122)) || (decide (65 ≤ (c.toNat : Int)) && decide ((c.toNat : Int) ≤ 90)) || decide (0 ≤ Lib.indexByte beginSet c)
def contB (c : UInt8) : Bool := begB c || (decide (48 ≤ (c.toNat : Int)) && decide ((c.toNat : Int) ≤ 57)) || decide (0 ≤ Lib.indexByte moreSet c)
theorem toNat_back (c : UInt8) : ((c.toNat : Int)).toNat.toUInt8 = c := by simp
theorem begins_any (c : UInt8) (w : World) :
    Calls Try.prog 70 #[.int .u8 (c.toNat : Int)] w fun e w' => e = .returned (.bool (begB c)) ∧ w = w' := by
  have hx := Try.strings_IndexByte ⟨beginSet.toArray⟩ (c.toNat : Int) w
  rw [toNat_back] at hx
  have hx' : Calls Try.prog 74 #[.string ⟨#[33, 36, 37, 38, 42, 47, 58, 60, 61, 62, 63, 94, 95, 126]⟩, .int .u8 (c.toNat : Int)] w fun e w' => e = .returned (.int .i64 (Lib.indexByte beginSet c)) ∧ w = w' := hx.mono fun e w' ⟨h1, h2⟩ => ⟨h1, h2.symm⟩
  have Hx := Lib.hid hx'
  clear hx hx'
  unfold begB
  obtain ⟨i, hi⟩ : ∃ i, Lib.indexByte beginSet c = i := ⟨_, rfl⟩
  rw [hi] at Hx
  rw [hi]
  clear hi
  cases a1 : decide (97 ≤ (c.toNat : Int)) <;> cases a2 : decide ((c.toNat : Int) ≤ 122) <;> cases a3 : decide (65 ≤ (c.toNat : Int)) <;> cases a4 : decide ((c.toNat : Int) ≤ 90)
  all_goals
    go_enter Try.func70, Try.ntmps70
    go_wp2_with (go_at_call 74; refine Hx.out.mono ?_; rintro e w' ⟨rfl, rfl⟩)
    go_ret
    exact ⟨rfl, rfl⟩
theorem continues_any (c : UInt8) (w : World) :
    Calls Try.prog 71 #[.int .u8 (c.toNat : Int)] w fun e w' => e = .returned (.bool (contB c)) ∧ w = w' := by
  have hx := Try.strings_IndexByte ⟨moreSet.toArray⟩ (c.toNat : Int) w
  rw [toNat_back] at hx
  have hx' : Calls Try.prog 74 #[.string ⟨#[43, 45, 46, 64]⟩, .int .u8 (c.toNat : Int)] w fun e w' => e = .returned (.int .i64 (Lib.indexByte moreSet c)) ∧ w = w' := hx.mono fun e w' ⟨h1, h2⟩ => ⟨h1, h2.symm⟩
  have Hx := Lib.hid hx'
  clear hx hx'
  have hb := begins_any c w
  have Hb := Lib.hid hb
  clear hb
  unfold contB
  obtain ⟨i, hi⟩ : ∃ i, Lib.indexByte moreSet c = i := ⟨_, rfl⟩
  rw [hi] at Hx
  rw [hi]
  clear hi
  obtain ⟨b, hb⟩ : ∃ b, begB c = b := ⟨_, rfl⟩
  rw [hb] at Hb
  rw [hb]
  clear hb
  cases b <;> cases a3 : decide (48 ≤ (c.toNat : Int)) <;> cases a4 : decide ((c.toNat : Int) ≤ 57)
  all_goals
    go_enter Try.func71, Try.ntmps71
    go_wp2_with (first | (go_at_call 74; refine Hx.out.mono ?_; rintro e w' ⟨rfl, rfl⟩) | (go_at_call 70; refine Hb.out.mono ?_; rintro e w' ⟨rfl, rfl⟩))
    go_ret
    exact ⟨rfl, rfl⟩
def allB (p : UInt8 → Bool) (s : ByteArray) : Bool := s.data.toList.all p
def headB (p : UInt8 → Bool) (s : ByteArray) : Bool := if h : 0 < s.size then p s[0] else false
theorem head_pos (p : UInt8 → Bool) (s : ByteArray) (h : 0 < s.size) : headB p s = p s[0] := by unfold headB; rw [dif_pos h]
theorem all_snoc (s : ByteArray) (p : UInt8 → Bool) (k : Nat) (h : k < s.size) : (s.data.toList.take (k + 1)).all p = ((s.data.toList.take k).all p && p s[k]) := by
  rw [List.take_succ_eq_append_getElem (by simpa using h), List.all_append]; simp; rfl
theorem all_full (s : ByteArray) (p : UInt8 → Bool) (k : Nat) (h : s.size ≤ k) : (s.data.toList.take k).all p = allB p s := by
  unfold allB; rw [List.take_of_length_le (by simpa using h)]
theorem all_no (s : ByteArray) (p : UInt8 → Bool) (k : Nat) (h : k < s.size) (hk : p s[k] = false) : allB p s = false := by
  unfold allB; rw [List.all_eq_false]
  exact ⟨s[k], by simp [ByteArray.getElem_eq_getElem_data], by simp [hk]⟩
def symB (s : ByteArray) : Bool :=
  s.toList == [43] || s.toList == [45] || s.toList == [46, 46, 46] || (!s.toList.isEmpty && !decide (32 < (s.size : Int)) && headB begB s && allB contB s)
theorem size_pos {s : ByteArray} (h : s.toList.isEmpty = false) : 0 < s.size := by
  rcases Nat.eq_zero_or_pos s.size with h0 | h0
  · have : s.toList = [] := by rw [ByteArray.toList_eq]; exact List.eq_nil_of_length_eq_zero (by simpa using h0)
    simp [this] at h
  · exact h0
def SymAt (s : ByteArray) (i : Value) : Prop := ∃ k : Nat, k ≤ s.size ∧ i = .int .i64 (k : Int) ∧ (s.data.toList.take k).all contB = true
set_option maxHeartbeats 400000 in
theorem symbol_any (s : ByteArray) (w : World) (hs : s.size ≤ maxLen) :
    Calls Try.prog 65 #[.string s] w fun e w' => e = .returned (.bool (symB s)) ∧ w = w' := by
  unfold maxLen at hs
  unfold symB
  cases b1 : s.toList == [43] <;> cases b2 : s.toList == [45] <;> cases b3 : s.toList == [46, 46, 46]
  case false.false.false =>
    cases b4 : s.toList.isEmpty
    · have hpos := size_pos b4
      by_cases h5 : 32 < (s.size : Int)
      · have d5 : decide (32 < (s.size : Int)) = true := by simp [h5]
        rw [d5]
        go_enter Try.func65, Try.ntmps65
        go_wp2_with fail
        go_ret
        exact ⟨rfl, rfl⟩
      · have d5 : decide (32 < (s.size : Int)) = false := by simp [h5]
        rw [d5, head_pos _ _ hpos]
        obtain ⟨b, hb⟩ : ∃ b, begB s[0] = b := ⟨_, rfl⟩
        have Hb := Lib.hid hb
        rw [hb]
        clear hb
        cases b
        · go_enter Try.func65, Try.ntmps65
          go_wp2_with (go_at_call 70; refine (begins_any s[0] _).mono ?_; rintro e w' ⟨rfl, rfl⟩; rw [Hb.out])
          go_ret
          exact ⟨rfl, rfl⟩
        · go_enter Try.func65, Try.ntmps65
          go_wp2_with (go_at_call 70; refine (begins_any s[0] _).mono ?_; rintro e w' ⟨rfl, rfl⟩; rw [Hb.out])
          go_loop [29] (fun i => SymAt s i) (fun i => s.size - (intOf i).toNat)
          case atStart => exact ⟨0, Nat.zero_le _, rfl, rfl⟩
          case round =>
            obtain ⟨k, hk, rfl, ha⟩ := hrel
            have Ha := Lib.hid ha
            clear ha
            by_cases hlt : k < s.size
            · have dl : decide ((k : Int) < (s.size : Int)) = true := by simp [hlt]
              have hn := all_snoc s contB k hlt
              have hno := all_no s contB k hlt
              obtain ⟨b, hb⟩ : ∃ b, contB s[k] = b := ⟨_, rfl⟩
              have Hb2 := Lib.hid hb
              rw [hb, Ha.out] at hn
              rw [hb] at hno
              clear hb
              cases b
              · have Hno := Lib.hid (hno rfl)
                clear hn hno
                go_wp2_with (go_at_call 71; refine (continues_any s[k] _).mono ?_; rintro e w' ⟨rfl, rfl⟩; rw [Hb2.out])
                go_ret
                exact ⟨by rw [Hno.out]; rfl, rfl⟩
              · have Hn := Lib.hid hn
                clear hn hno
                go_wp2_with (go_at_call 71; refine (continues_any s[k] _).mono ?_; rintro e w' ⟨rfl, rfl⟩; rw [Hb2.out])
                go_round
                case rel => exact ⟨k + 1, by omega, by go_num, Hn.out⟩
                case measure => simp [intOf]; omega
            · have dl : decide ((k : Int) < (s.size : Int)) = false := by simp [hlt]
              have hf := all_full s contB k (by omega)
              rw [Ha.out] at hf
              have Hf := Lib.hid hf
              clear hf
              go_wp2
              go_ret
              exact ⟨by rw [← Hf.out]; rfl, rfl⟩
    · go_enter Try.func65, Try.ntmps65
      go_wp2_with fail
      go_ret
      exact ⟨rfl, rfl⟩
  all_goals
    simp only [Bool.true_or, Bool.or_true]
    go_enter Try.func65, Try.ntmps65
    go_wp2_with fail
    go_ret
    exact ⟨rfl, rfl⟩
end Go.Proofs.Yteolfkkabhileaa.Da
end
section
namespace Go.Proofs.Yteolfkkabhileaa.Da
open Go.ChangeShapes Go.WideShapes Go.ChangeAt Go.RowKit
set_option maxRecDepth 100000

section
variable {H : Type} {enc : TypeId × Value → H} {w : World} {base : Nat} {spare : Nat → Bool} {held : Bool}

theorem in_heap {w : World} {a : Addr} {v : Value} (h : w.cell? a = some v) : a.block < w.heap.size := by
  rcases Nat.lt_or_ge a.block w.heap.size with h' | h'
  · exact h'
  · simp [World.cell?, Array.getElem?_eq_none h'] at h
theorem weights_of {P : Program} {e : TypeId} {p : Nat → Bool} : ∀ {l : List (DataW H)}, (DataW.weightsAll P e l).all p = true → ∀ d ∈ l, (d.weights P e).all p = true
  | x :: r, h, d, hd => by
    simp only [DataW.weightsAll, List.all_append, Bool.and_eq_true] at h
    rcases List.mem_cons.1 hd with rfl | hd
    · exact h.1
    · exact weights_of h.2 d hd
theorem bytes_int : Try.prog.bytesOf 3 = 8 := by kernel_rfl
theorem bytes_dat : Try.prog.bytesOf 33 = 104 := by kernel_rfl
theorem cells_dat : Try.prog.cellsOf 33 = 6 := by kernel_rfl
theorem cells_int : Try.prog.cellsOf 3 = 1 := by kernel_rfl
theorem cells_int64 : Try.prog.cellsOf 2 = 1 := by kernel_rfl
theorem cells_string : Try.prog.cellsOf 9 = 1 := by kernel_rfl
theorem cells_ints : Try.prog.cellsOf 30 = 1 := by kernel_rfl
theorem cells_data : Try.prog.cellsOf 31 = 1 := by kernel_rfl

theorem open_marks {n : Nat} {cs : List Value} {x : DataW H × List MemPlace} (h : DataW.trod enc Try.prog w base spare held n 30 cs = some x) (hw : (x.1.weights Try.prog 30).all (· ≤ reachBytes) = true) :
    ∃ a cap m, cs = [.slice a m.length cap] ∧ IntRow w (Lo w.heap.size) a m.length cap m := by
  rcases open_ints Try.underlying30 Try.underlying3 cells_int h with ⟨rfl, _⟩ | ⟨a, len, cap, zs, rfl, _, hl, hm, hz, rfl, hcell, hwz⟩
  · exact ⟨none, 0, [], rfl, rfl, Nat.le_refl _, by simp [maxLen], by simp, fun _ => rfl, by simp, fun k hk => absurd hk (Nat.not_lt_zero _)⟩
  · have hlen : len ≤ zs.length := by rw [hz]; split <;> omega
    have hb : zs.length * 8 ≤ 140737488351232 := by
      simp only [DataW.weights, Try.underlying30, List.all_cons, Bool.and_eq_true, decide_eq_true_eq, bytes_int] at hw
      have h1 := hw.1
      simp only [lits, List.length_map, List.length_take, List.length_drop, reachBytes] at h1
      omega
    have ht : (zs.take len).length = len := by rw [List.length_take]; omega
    refine ⟨some a, cap, zs.take len, by rw [ht], rfl, by rw [ht]; exact hl, hm, by rw [ht]; omega, (fun h => by cases h), fun z hz => hwz z (List.mem_of_mem_take hz), fun k hk => ?_⟩
    rw [ht] at hk
    have hc := hcell k (by omega)
    obtain ⟨b, off, sp⟩ := a
    have h0 := hcell 0 (by omega)
    have hsp : sp = none := by simpa [Addr.add] using World.cell?_spot h0
    subst hsp
    rw [add_plain] at hc
    exact ⟨b, off, rfl, in_heap hc, by rw [hc]; simp [List.getD, hk]⟩

instance : Inhabited Dt := ⟨.mk 0 0 ⟨#[]⟩ [] [] []⟩
def OpenAt (enc : TypeId × Value → H) (w : World) (base : Nat) (spare : Nat → Bool) (held : Bool) (n : Nat) : Prop :=
  ∀ (cs : List Value) (x : DataW H × List MemPlace), DataW.trod enc Try.prog w base spare held n 33 cs = some x → (x.1.weights Try.prog 33).all (· ≤ reachBytes) = true →
    ∃ d x0 x1 x2 x3 x4 x5, cs = [x0, x1, x2, x3, x4, x5] ∧ IsDt w (Lo w.heap.size) d (.agg #[x0, x1, x2, x3, x4, x5])
theorem open_data {n : Nat} (ih : ∀ m, m < n → OpenAt enc w base spare held m) {cs : List Value} {x : DataW H × List MemPlace} (h : DataW.trod enc Try.prog w base spare held n 31 cs = some x) (hw : (x.1.weights Try.prog 31).all (· ≤ reachBytes) = true) :
    ∃ a cap l, cs = [.slice a l.length cap] ∧ IsSl a l.length cap ∧ IsDts w (Lo w.heap.size) a 0 l := by
  rcases DataW.trod_slice Try.underlying31 h with ⟨rfl, _⟩ | ⟨a, len, cap, elems, rest, m, rfl, rfl, rfl, _, hl, hm, hlen, hel, _, _⟩
  · exact ⟨none, 0, [], rfl, ⟨Nat.le_refl _, by simp [maxLen], by simp, fun _ => rfl⟩, by simp only [IsDts]⟩
  · simp only [DataW.weights, Try.underlying31, List.all_cons, List.all_append, Bool.and_eq_true, decide_eq_true_eq, bytes_dat, List.length_map] at hw
    obtain ⟨hb, hwe, _⟩ := hw
    simp only [reachBytes] at hb
    have hspot : 0 < len → a.spot = none := by
      intro h0
      have he := hel 0 h0
      rw [List.getElem?_eq_getElem (show 0 < elems.length by omega), Option.bind_eq_some_iff] at he
      obtain ⟨cs', h1, h2⟩ := he
      obtain ⟨d, x0, x1, x2, x3, x4, x5, rfl, hd⟩ := ih m (by omega) cs' _ h2 (weights_of hwe _ (List.mem_map_of_mem (List.getElem_mem (show 0 < elems.length by omega))))
      obtain ⟨_, _, hc⟩ := World.cells?_some h1
      rw [cells_dat] at hc
      simpa [Addr.add] using World.cell?_spot ((hc 0 (by omega)).trans rfl)
    have key : ∀ i, i < len → ∃ d, ∃ x0 x1 x2 x3 x4 x5, (∃ b off, a = ⟨b, off, none⟩ ∧ b < w.heap.size ∧ Six w b (off + i * 6) x0 x1 x2 x3 x4 x5) ∧ IsDt w (Lo w.heap.size) d (.agg #[x0, x1, x2, x3, x4, x5]) := by
      intro i hi
      have he := hel i hi
      have hi' : i < elems.length := by omega
      rw [List.getElem?_eq_getElem hi', Option.bind_eq_some_iff] at he
      obtain ⟨cs', h1, h2⟩ := he
      obtain ⟨d, x0, x1, x2, x3, x4, x5, rfl, hd⟩ := ih m (by omega) cs' _ h2 (weights_of hwe _ (List.mem_map_of_mem (List.getElem_mem hi')))
      obtain ⟨_, _, hc⟩ := World.cells?_some h1
      rw [cells_dat] at hc
      obtain ⟨b, off, sp⟩ := a
      obtain rfl : sp = none := hspot (by omega)
      have c : ∀ j v, j < 6 → [x0, x1, x2, x3, x4, x5][j]? = some v → w.cell? ⟨b, off + i * 6 + j, none⟩ = some v := fun j v hj hv => by
        have := hc j hj
        rw [hv, add_plain, add_plain] at this
        exact this
      exact ⟨d, x0, x1, x2, x3, x4, x5, ⟨b, off, rfl, in_heap (c 0 x0 (by omega) rfl), c 0 _ (by omega) rfl, c 1 _ (by omega) rfl, c 2 _ (by omega) rfl, c 3 _ (by omega) rfl, c 4 _ (by omega) rfl, c 5 _ (by omega) rfl⟩, hd⟩
    obtain ⟨f, hf⟩ : ∃ f : Nat → Dt, ∀ i, i < len → ∃ x0 x1 x2 x3 x4 x5, (∃ b off, a = ⟨b, off, none⟩ ∧ b < w.heap.size ∧ Six w b (off + i * 6) x0 x1 x2 x3 x4 x5) ∧ IsDt w (Lo w.heap.size) (f i) (.agg #[x0, x1, x2, x3, x4, x5]) := by
      classical
      refine ⟨fun i => if hi : i < len then Classical.choose (key i hi) else default, fun i hi => ?_⟩
      simp only [dif_pos hi]
      exact Classical.choose_spec (key i hi)
    have hll : ((List.range len).map f).length = len := by simp
    refine ⟨some a, cap, (List.range len).map f, by rw [hll], by rw [hll]; exact ⟨hl, hm, by omega, fun h => by cases h⟩, IsDts.of_at (fun k d hd => ?_)⟩
    simp only [List.getElem?_map, Option.map_eq_some_iff] at hd
    obtain ⟨k', hk, rfl⟩ := hd
    obtain ⟨hk1, hk2⟩ := List.getElem?_eq_some_iff.1 hk
    rw [List.getElem_range] at hk2
    subst hk2
    rw [List.length_range] at hk1
    obtain ⟨x0, x1, x2, x3, x4, x5, ⟨b, off, rfl, hb', hs⟩, hi⟩ := hf k hk1
    exact ⟨b, off, x0, x1, x2, x3, x4, x5, rfl, hb', by rw [Nat.zero_add]; exact hs, hi⟩
set_option linter.unusedSimpArgs false in
theorem open_dt : ∀ n, OpenAt enc w base spare held n := by
  intro n
  induction n using Nat.strongRecOn with
  | ind n ih =>
    intro cs x h hw
    obtain ⟨xs, m, rfl, rfl, hl, hxl, hf⟩ := DataW.trod_struct Try.underlying33 h
    rw [cells_dat] at hl
    match cs, hl with
    | [x0, x1, x2, x3, x4, x5], _ =>
      match xs, hxl with
      | [y0, y1, y2, y3, y4, y5], _ =>
        have f0 := hf 0 _ rfl
        have f1 := hf 1 _ rfl
        have f2 := hf 2 _ rfl
        have f3 := hf 3 _ rfl
        have f4 := hf 4 _ rfl
        have f5 := hf 5 _ rfl
        simp [cells_int, cells_int64, cells_string, cells_ints, cells_data] at f0 f1 f2 f3 f4 f5
        simp only [DataW.weights, Try.underlying33, List.map_cons, List.map_nil, DataW.weightsEach, List.all_append, Bool.and_eq_true] at hw
        obtain ⟨_, _, _, hw3, hw4, hw5, _⟩ := hw
        obtain ⟨k, hk, _, wk⟩ := DataW.trod_int Try.underlying3 f0
        obtain ⟨nn, hn, _, wn⟩ := DataW.trod_int Try.underlying2 f1
        obtain ⟨s, hs, _, ws⟩ := DataW.trod_string Try.underlying9 f2
        obtain ⟨am, cm, ms, hm, wm⟩ := open_marks f3 hw3
        obtain ⟨al, cl, l, hl', sl, dl⟩ := open_data (fun j hj => ih j (by omega)) f4 hw4
        obtain ⟨at_, ct, t, ht', st, dt⟩ := open_data (fun j hj => ih j (by omega)) f5 hw5
        simp only [List.cons.injEq, and_true] at hk hn hs hm hl' ht'
        subst hk hn hs hm hl' ht'
        refine ⟨.mk k nn s ms l t, _, _, _, _, _, _, rfl, ?_⟩
        simp only [IsDt]
        exact ⟨wk, wn, ws, am, cm, al, cl, at_, ct, rfl, wm, sl, dl, st, dt⟩
/-- A datum that comes in by value. -/
theorem open_one {r : Reach} {b0 : Nat} {v : Value} {x : DataW H} {p : List MemPlace} (hv : Value.okWide Try.prog w r b0 33 v) (h : DataW.Trod enc Try.prog w base spare held 33 v x p) (hw : (x.weights Try.prog 33).all (· ≤ reachBytes) = true) :
    ∃ z, IsDt w (Lo w.heap.size) z v := by
  obtain ⟨cs, rfl, _⟩ := okWide_struct Try.underlying33 hv
  obtain ⟨fuel, hf⟩ := h
  obtain ⟨d, x0, x1, x2, x3, x4, x5, hcs, hd⟩ := open_dt fuel _ _ hf hw
  have hcs' : cs.toList = [x0, x1, x2, x3, x4, x5] := hcs
  obtain rfl : cs = #[x0, x1, x2, x3, x4, x5] := by rw [← Array.toArray_toList (xs := cs), hcs']
  exact ⟨d, hd⟩
end
end Go.Proofs.Yteolfkkabhileaa.Da
end
section
namespace Go.Proofs.Yteolfkkabhileaa.Da
open Go.ChangeShapes Go.WideShapes Go.ChangeAt Go.RowKit

theorem in_fix (a : Int) (w : World) :
    Calls Try.prog 63 #[.int .i64 a] w fun e w' => e = .returned (.bool (decide (-1152921504606846976 ≤ a) && decide (a ≤ 1152921504606846975))) ∧ w = w' := by
  cases d1 : decide (-1152921504606846976 ≤ a) <;> cases d2 : decide (a ≤ 1152921504606846975)
  all_goals
    go_enter Try.func63, Try.ntmps63
    go_wp2
    go_ret
    exact ⟨rfl, rfl⟩
def lowB (c : UInt8) : Bool := !decide (128 ≤ (c.toNat : Int))
def textB (s : ByteArray) : Bool := !decide (256 < (s.size : Int)) && allB lowB s
def TextAt (s : ByteArray) (i : Value) : Prop := ∃ k : Nat, k ≤ s.size ∧ i = .int .i64 (k : Int) ∧ (s.data.toList.take k).all lowB = true
theorem text_any (s : ByteArray) (w : World) (hs : s.size ≤ maxLen) :
    Calls Try.prog 64 #[.string s] w fun e w' => e = .returned (.bool (textB s)) ∧ w = w' := by
  unfold maxLen at hs
  unfold textB
  cases d5 : decide (256 < (s.size : Int))
  · go_enter Try.func64, Try.ntmps64
    go_wp2
    go_loop [9] (fun i => TextAt s i) (fun i => s.size - (intOf i).toNat)
    case atStart => exact ⟨0, Nat.zero_le _, rfl, rfl⟩
    case round =>
      obtain ⟨k, hk, rfl, ha⟩ := hrel
      have Ha := Lib.hid ha
      clear ha
      by_cases hlt : k < s.size
      · have dl : decide ((k : Int) < (s.size : Int)) = true := by simp [hlt]
        have hn := all_snoc s lowB k hlt
        have hno := all_no s lowB k hlt
        rw [Ha.out] at hn
        unfold lowB at hn hno
        cases d6 : decide (128 ≤ (s[k].toNat : Int))
        · rw [d6] at hn
          have Hn := Lib.hid hn
          clear hn hno
          go_wp2
          go_round
          case rel => exact ⟨k + 1, by omega, by go_num, Hn.out⟩
          case measure => simp [intOf]; omega
        · rw [d6] at hno
          have Hno := Lib.hid (hno rfl)
          clear hn hno
          go_wp2
          go_ret
          exact ⟨by unfold lowB; rw [Hno.out]; rfl, rfl⟩
      · have dl : decide ((k : Int) < (s.size : Int)) = false := by simp [hlt]
        have hf := all_full s lowB k (by omega)
        rw [Ha.out] at hf
        have Hf := Lib.hid hf
        clear hf
        go_wp2
        go_ret
        exact ⟨by rw [← Hf.out]; rfl, rfl⟩
  · go_enter Try.func64, Try.ntmps64
    go_wp2
    go_ret
    exact ⟨rfl, rfl⟩
def markB (x : Int) : Bool := !(decide (x < 1) || decide (1048576 < x))
def allI (p : Int → Bool) (m : List Int) : Bool := m.all p
def marksB (m : List Int) : Bool := !decide (16 < (m.length : Int)) && allI markB m
theorem allI_snoc (m : List Int) (p : Int → Bool) (k : Nat) (h : k < m.length) : (m.take (k + 1)).all p = ((m.take k).all p && p (m.getD k 0)) := by
  rw [List.take_succ_eq_append_getElem h, List.all_append]; simp [h]
theorem allI_full (m : List Int) (p : Int → Bool) (k : Nat) (h : m.length ≤ k) : (m.take k).all p = allI p m := by
  unfold allI; rw [List.take_of_length_le h]
theorem allI_no (m : List Int) (p : Int → Bool) (k : Nat) (h : k < m.length) (hk : p (m.getD k 0) = false) : allI p m = false := by
  unfold allI; rw [List.all_eq_false]
  exact ⟨m[k], by simp, by simpa [h] using hk⟩
def MarksAt (m : List Int) (i : Value) : Prop := ∃ k : Nat, k ≤ m.length ∧ i = .int .i64 (k : Int) ∧ (m.take k).all markB = true
theorem marks_any (a : Option Addr) (len cap : Nat) (m : List Int) (B : Nat) (w : World) (hm : IntRow w (Lo B) a len cap m) :
    Calls Try.prog 66 #[.slice a len cap] w fun e w' => e = .returned (.bool (marksB m)) ∧ w = w' := by
  obtain ⟨rfl, h1, h2, _, _, _, hc⟩ := hm
  have Hc := Lib.hid hc
  clear hc
  unfold maxLen at h2
  unfold marksB
  cases d5 : decide (16 < (m.length : Int))
  · go_enter Try.func66, Try.ntmps66
    go_wp2
    go_loop [10] (fun i => MarksAt m i) (fun i => m.length - (intOf i).toNat)
    case atStart => exact ⟨0, Nat.zero_le _, rfl, rfl⟩
    case round =>
      obtain ⟨k, hk, rfl, ha⟩ := hrel
      have Ha := Lib.hid ha
      clear ha
      by_cases hlt : k < m.length
      · have dl : decide ((k : Int) < (m.length : Int)) = true := by simp [hlt]
        have hn := allI_snoc m markB k hlt
        have hno := allI_no m markB k hlt
        rw [Ha.out] at hn
        obtain ⟨b, off, rfl, _, hcell⟩ := Hc.out k hlt
        obtain ⟨x, hx⟩ : ∃ x, m.getD k 0 = x := ⟨_, rfl⟩
        rw [hx] at hn hno hcell
        clear hx
        unfold markB at hn hno
        cases d6 : decide (x < 1) <;> cases d7 : decide (1048576 < x)
        case false.false =>
          rw [d6, d7] at hn
          have Hn := Lib.hid hn
          clear hn hno
          go_wp2
          go_round
          case rel => exact ⟨k + 1, by omega, by go_num, Hn.out⟩
          case measure => simp [intOf]; omega
        all_goals
          rw [d6, d7] at hno
          have Hno := Lib.hid (hno rfl)
          clear hn hno
          go_wp2
          go_ret
          exact ⟨by unfold markB; rw [Hno.out]; rfl, rfl⟩
      · have dl : decide ((k : Int) < (m.length : Int)) = false := by simp [hlt]
        have hf := allI_full m markB k (by omega)
        rw [Ha.out] at hf
        have Hf := Lib.hid hf
        clear hf
        go_wp2
        go_ret
        exact ⟨by rw [← Hf.out]; rfl, rfl⟩
  · go_enter Try.func66, Try.ntmps66
    go_wp2
    go_ret
    exact ⟨rfl, rfl⟩
end Go.Proofs.Yteolfkkabhileaa.Da
end
