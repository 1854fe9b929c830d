/- Scopes and marks (layer 5): what an identifier means, as plain functions. -/
import Derived.WalkKit
namespace Go.Proofs.Ytapnighankepjaa.Sc
open Go Go.RowKit
set_option linter.unusedVariables false

abbrev Bs := List UInt8
/-- An identifier: text and marks. -/
structure Idn where
  (s : Bs) (m : List Int)
instance : DecidableEq Idn := fun a b => by
  rcases a with ⟨s, m⟩
  rcases b with ⟨s', m'⟩
  exact decidable_of_iff (s = s' ∧ m = m') ⟨fun ⟨h1, h2⟩ => by subst h1 h2; rfl, fun h => by injection h with h1 h2; exact ⟨h1, h2⟩⟩
/-- A scope: its parent, what it binds, and to what. -/
structure Row where
  (par : Nat) (id : Idn) (what : Int)
instance : Inhabited Row := ⟨⟨0, ⟨[], []⟩, 0⟩⟩
/-- A table: scopes and the marks' scopes. -/
structure Tab where
  (rows : List Row) (marks : List Nat)
def Tab.par (T : Tab) (s : Nat) : Nat := (T.rows.getD s default).par
def Tab.id (T : Tab) (s : Nat) : Idn := (T.rows.getD s default).id
def Tab.what (T : Tab) (s : Nat) : Int := (T.rows.getD s default).what
/-- Each scope was made behind its parent; each mark's scope is there. -/
structure Tab.Ok (T : Tab) : Prop where
  pos : 0 < T.rows.length
  few : T.rows.length ≤ 16384
  fewM : T.marks.length ≤ 16384
  zero : T.rows[0]? = some default
  par : ∀ i, 0 < i → i < T.rows.length → T.par i < i
  mark : ∀ s ∈ T.marks, s < T.rows.length
/-- A scope, its parent, and so on, but not scope 0. -/
def Tab.chainF (T : Tab) : Nat → Nat → List Nat
  | 0, _ => []
  | f + 1, s => if s = 0 then [] else s :: T.chainF f (T.par s)
def Tab.chain (T : Tab) (s : Nat) : List Nat := T.chainF s s
/-- The first of these that binds just this identifier; 0: none. -/
def Tab.binder (T : Tab) (s : Nat) (x : Idn) : Nat := ((T.chain s).find? (fun i => T.id i == x)).getD 0
/-- What an identifier means: the scope, and what it says; or its text. -/
structure Seen where
  (scope : Nat) (what : Int) (name : Bs)
/-- Marks are told the last one first. -/
def Tab.seenR (T : Tab) (t : Bs) : List Int → Nat → Seen
  | [], s => if T.binder s ⟨t, []⟩ = 0 then ⟨0, 0, t⟩ else ⟨T.binder s ⟨t, []⟩, T.what (T.binder s ⟨t, []⟩), []⟩
  | m :: r, s => if T.binder s ⟨t, (m :: r).reverse⟩ = 0 then T.seenR t r (T.marks.getD (m.toNat - 1) 0) else ⟨T.binder s ⟨t, (m :: r).reverse⟩, T.what (T.binder s ⟨t, (m :: r).reverse⟩), []⟩
def Tab.seen (T : Tab) (s : Nat) (x : Idn) : Seen := T.seenR x.s x.m.reverse s
/-- The first scope that binds an identifier; 0: none. -/
def Tab.first (T : Tab) (x : Idn) : Nat := ((List.range T.rows.length).find? (fun i => i != 0 && T.id i == x)).getD 0

theorem chainF_more (T : Tab) (hp : ∀ i, 0 < i → T.par i < i) : ∀ (f g s : Nat), s ≤ f → s ≤ g → T.chainF f s = T.chainF g s
  | 0, 0, _, _, _ => rfl
  | 0, g + 1, s, hf, _ => by obtain rfl : s = 0 := by omega
                             rfl
  | f + 1, 0, s, _, hg => by obtain rfl : s = 0 := by omega
                             rfl
  | f + 1, g + 1, s, hf, hg => by
    unfold Tab.chainF
    by_cases h : s = 0
    · rw [if_pos h, if_pos h]
    · rw [if_neg h, if_neg h, chainF_more T hp f g (T.par s) (by have := hp s (by omega); omega) (by have := hp s (by omega); omega)]
theorem Tab.Ok.par' {T : Tab} (h : T.Ok) : ∀ i, 0 < i → T.par i < i := fun i hi => by
  rcases Nat.lt_or_ge i T.rows.length with hl | hl
  · exact h.par i hi hl
  · unfold Tab.par
    rw [List.getD_eq_getElem?_getD, List.getElem?_eq_none hl]
    exact hi
theorem chain_zero (T : Tab) : T.chain 0 = [] := rfl
theorem chain_step {T : Tab} (h : T.Ok) {s : Nat} (hs : s ≠ 0) : T.chain s = s :: T.chain (T.par s) := by
  obtain ⟨n, rfl⟩ : ∃ n, s = n + 1 := ⟨s - 1, by omega⟩
  show T.chainF (n + 1) (n + 1) = _
  have hp := h.par' (n + 1) (by omega)
  rw [Tab.chainF, if_neg hs, chainF_more T h.par' n (T.par (n + 1)) (T.par (n + 1)) (by omega) (Nat.le_refl _)]
  rfl
theorem chain_lt {T : Tab} (h : T.Ok) : ∀ (s : Nat), s < T.rows.length → ∀ i ∈ T.chain s, 0 < i ∧ i ≤ s ∧ i < T.rows.length := by
  intro s
  induction s using Nat.strongRecOn with
  | ind s ih =>
    intro hs i hi
    by_cases h0 : s = 0
    · subst h0; rw [chain_zero] at hi; cases hi
    · rw [chain_step h h0] at hi
      have hp := h.par' s (by omega)
      rcases List.mem_cons.1 hi with rfl | hi
      · exact ⟨by omega, Nat.le_refl _, hs⟩
      · obtain ⟨h1, h2, h3⟩ := ih (T.par s) hp (by omega) i hi
        exact ⟨h1, by omega, h3⟩
/-- Further out than the first scope that binds an identifier nobody has to look. -/
theorem first_le {T : Tab} {x : Idn} {i : Nat} (hi : 0 < i) (hl : i < T.rows.length) (hx : T.id i = x) : T.first x ≠ 0 ∧ T.first x ≤ i := by
  unfold Tab.first
  rcases hf : (List.range T.rows.length).find? (fun i => i != 0 && T.id i == x) with _ | j
  · have := List.find?_eq_none.1 hf i (List.mem_range.2 hl)
    rw [hx] at this
    simp at this
    omega
  · have h1 := List.find?_some hf
    simp only [Bool.and_eq_true, bne_iff_ne, beq_iff_eq] at h1
    refine ⟨h1.1, ?_⟩
    show j ≤ i
    rw [List.find?_range_eq_some] at hf
    obtain ⟨_, _, hlt⟩ := hf
    rcases Nat.lt_or_ge i j with h | h
    · have := hlt i h
      rw [hx] at this
      simp at this
      omega
    · exact h
theorem first_none {T : Tab} {x : Idn} (h : T.first x = 0) : ∀ i, 0 < i → i < T.rows.length → T.id i ≠ x := fun i hi hl he => (first_le hi hl he).1 h
theorem binder_zero {T : Tab} (h : T.Ok) {s : Nat} (hs : s < T.rows.length) {x : Idn} (h0 : T.first x = 0) : T.binder s x = 0 := by
  unfold Tab.binder
  rw [List.find?_eq_none.2 (fun i hi => by
    obtain ⟨h1, _, h3⟩ := chain_lt h s hs i hi
    simpa using first_none h0 i h1 h3)]
  rfl
/-- Which chain is left, and that those ahead bind something else. -/
theorem binder_at {T : Tab} (h : T.Ok) {s : Nat} {x : Idn} (hs : s ≠ 0) (hx : T.id s = x) : T.binder s x = s := by
  unfold Tab.binder
  rw [chain_step h hs, List.find?_cons_of_pos (by rw [hx]; simp)]
  rfl
theorem binder_on {T : Tab} (h : T.Ok) {s : Nat} {x : Idn} (hs : s ≠ 0) (hx : T.id s ≠ x) : T.binder s x = T.binder (T.par s) x := by
  unfold Tab.binder
  rw [chain_step h hs, List.find?_cons_of_neg (by simpa using hx)]
theorem binder_out {T : Tab} (h : T.Ok) {s : Nat} (hl : s < T.rows.length) {x : Idn} (hf : s < T.first x) : T.binder s x = 0 := by
  unfold Tab.binder
  rw [List.find?_eq_none.2 (fun i hi => by
    obtain ⟨h1, h2, h3⟩ := chain_lt h s hl i hi
    have : T.id i ≠ x := fun he => by have := (first_le h1 h3 he).2; omega
    simpa using this)]
  rfl
/- A scope more, a mark more. -/
def Tab.ext (T : Tab) (p : Nat) (x : Idn) (v : Int) : Tab := ⟨T.rows ++ [⟨p, x, v⟩], T.marks⟩
def Tab.mk_ (T : Tab) (p : Nat) : Tab := ⟨T.rows, T.marks ++ [p]⟩
theorem ext_old {T : Tab} {p : Nat} {x : Idn} {v : Int} {i : Nat} (h : i < T.rows.length) : (T.ext p x v).id i = T.id i ∧ (T.ext p x v).par i = T.par i ∧ (T.ext p x v).what i = T.what i := by
  have e : (T.ext p x v).rows.getD i default = T.rows.getD i default := by
    unfold Tab.ext
    rw [List.getD_eq_getElem?_getD, List.getD_eq_getElem?_getD, List.getElem?_append_left h]
  unfold Tab.id Tab.par Tab.what
  rw [e]
  exact ⟨rfl, rfl, rfl⟩
theorem ext_new {T : Tab} {p : Nat} {x : Idn} {v : Int} : (T.ext p x v).id T.rows.length = x ∧ (T.ext p x v).par T.rows.length = p ∧ (T.ext p x v).what T.rows.length = v := by
  have e : (T.ext p x v).rows.getD T.rows.length default = ⟨p, x, v⟩ := by
    unfold Tab.ext
    rw [List.getD_eq_getElem?_getD, List.getElem?_append_right (Nat.le_refl _), Nat.sub_self]
    rfl
  unfold Tab.id Tab.par Tab.what
  rw [e]
  exact ⟨rfl, rfl, rfl⟩
theorem ext_len (T : Tab) (p : Nat) (x : Idn) (v : Int) : (T.ext p x v).rows.length = T.rows.length + 1 := by unfold Tab.ext; rw [List.length_append]; rfl
theorem Tab.Ok.ext {T : Tab} (h : T.Ok) {p : Nat} (hp : p < T.rows.length) (hf : T.rows.length < 16384) (x : Idn) (v : Int) : (T.ext p x v).Ok where
  pos := by rw [ext_len]; omega
  few := by rw [ext_len]; omega
  fewM := h.fewM
  zero := by unfold Tab.ext; rw [List.getElem?_append_left h.pos]; exact h.zero
  par := fun i hi hl => by
    rw [ext_len] at hl
    rcases Nat.lt_or_ge i T.rows.length with h1 | h1
    · rw [(ext_old h1).2.1]; exact h.par i hi h1
    · obtain rfl : i = T.rows.length := by omega
      rw [ext_new.2.1]; exact hp
  mark := fun s hs => by rw [ext_len]; have := h.mark s hs; omega
theorem Tab.Ok.mk_ {T : Tab} (h : T.Ok) {p : Nat} (hp : p < T.rows.length) (hf : T.marks.length < 16384) : (T.mk_ p).Ok where
  pos := h.pos
  few := h.few
  fewM := by unfold Tab.mk_; rw [List.length_append]; show T.marks.length + 1 ≤ _; omega
  zero := h.zero
  par := h.par
  mark := fun s hs => by
    unfold Tab.mk_ at hs
    rcases List.mem_append.1 hs with hs | hs
    · exact h.mark s hs
    · rw [List.mem_singleton] at hs; rw [hs]; exact hp
theorem first_mk (T : Tab) (p : Nat) (x : Idn) : (T.mk_ p).first x = T.first x := rfl
theorem first_lt {T : Tab} {x : Idn} (h : T.first x ≠ 0) : T.first x < T.rows.length ∧ T.id (T.first x) = x := by
  unfold Tab.first at h ⊢
  rcases hf : (List.range T.rows.length).find? (fun i => i != 0 && T.id i == x) with _ | j
  · rw [hf] at h; exact absurd rfl h
  · have h1 := List.find?_some hf
    simp only [Bool.and_eq_true, bne_iff_ne, beq_iff_eq] at h1
    exact ⟨List.mem_range.1 (List.mem_of_find?_eq_some hf), h1.2⟩
theorem first_ext {T : Tab} (hpos : 0 < T.rows.length) (p : Nat) (x : Idn) (v : Int) (y : Idn) : (T.ext p x v).first y = if T.first y ≠ 0 then T.first y else if y = x then T.rows.length else 0 := by
  have hr : List.range (T.ext p x v).rows.length = List.range T.rows.length ++ [T.rows.length] := by rw [ext_len, List.range_succ]
  have hc : (List.range T.rows.length).find? (fun i => i != 0 && (T.ext p x v).id i == y) = (List.range T.rows.length).find? (fun i => i != 0 && T.id i == y) := by
    have go : ∀ (l : List Nat), (∀ i ∈ l, i < T.rows.length) → l.find? (fun i => i != 0 && (T.ext p x v).id i == y) = l.find? (fun i => i != 0 && T.id i == y) := by
      intro l
      induction l with
      | nil => intro _; rfl
      | cons i r ih =>
        intro h
        rw [List.find?_cons, List.find?_cons, (ext_old (h i (List.mem_cons_self ..))).1, ih (fun j hj => h j (List.mem_cons_of_mem _ hj))]
    exact go _ (fun i hi => List.mem_range.1 hi)
  unfold Tab.first
  rw [hr, List.find?_append, hc]
  rcases hf : (List.range T.rows.length).find? (fun i => i != 0 && T.id i == y) with _ | j
  · rw [if_neg (by simp)]
    rw [Option.none_or, List.find?_cons, ext_new.1]
    by_cases hy : y = x
    · subst hy
      rw [if_pos rfl]
      have : (T.rows.length != 0 && y == y) = true := by rw [Bool.and_eq_true]; exact ⟨by rw [bne_iff_ne]; omega, by simp⟩
      rw [this]; rfl
    · rw [if_neg hy]
      have : (T.rows.length != 0 && x == y) = false := by
        rw [Bool.and_eq_false_iff]; right; rw [beq_eq_false_iff_ne]; exact fun e => hy e.symm
      rw [this]; rfl
  · have h1 := List.find?_some hf
    simp only [Bool.and_eq_true, bne_iff_ne, beq_iff_eq] at h1
    rw [if_pos (by show j ≠ 0; exact h1.1)]
    rfl
end Go.Proofs.Ytapnighankepjaa.Sc
