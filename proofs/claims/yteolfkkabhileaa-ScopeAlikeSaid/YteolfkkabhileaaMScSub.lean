/- P5.6: what is made later changes nothing of what names mean (layer 5), as mathematics. -/
import Derived.Test.YteolfkkabhileaaMScMade
section
namespace Go.Proofs.Yteolfkkabhileaa.Sc
open Go Go.RowKit
set_option linter.unusedVariables false

/-- The table has more scopes and marks, perhaps. -/
def Sub (T U : Tab) : Prop := T.rows <+: U.rows ∧ T.marks <+: U.marks
theorem Sub.refl (T : Tab) : Sub T T := ⟨List.prefix_rfl, List.prefix_rfl⟩
theorem Sub.trans {T U V : Tab} (h : Sub T U) (k : Sub U V) : Sub T V := ⟨h.1.trans k.1, h.2.trans k.2⟩
theorem sub_step (T : Tab) (o : Opn) : Sub T (stepT T o) := by
  unfold stepT
  split
  · unfold extT
    split
    · exact ⟨⟨_, rfl⟩, List.prefix_rfl⟩
    · exact .refl T
  · split
    · unfold markT
      split
      · exact ⟨List.prefix_rfl, ⟨_, rfl⟩⟩
      · exact .refl T
    · exact .refl T
theorem sub_acts : ∀ (l : List Opn) (T : Tab), Sub T (actsT T l)
  | [], T => .refl T
  | o :: l, T => (sub_step T o).trans (sub_acts l (stepT T o))
theorem Sub.len {T U : Tab} (h : Sub T U) : T.rows.length ≤ U.rows.length := h.1.length_le
theorem Sub.row {T U : Tab} (h : Sub T U) {s : Nat} (hs : s < T.rows.length) : U.rows.getD s default = T.rows.getD s default := by
  obtain ⟨r, hr⟩ := h.1
  rw [← hr, List.getD_eq_getElem?_getD, List.getD_eq_getElem?_getD, List.getElem?_append_left hs]
theorem Sub.at_ {T U : Tab} (h : Sub T U) {s : Nat} (hs : s < T.rows.length) : U.id s = T.id s ∧ U.par s = T.par s ∧ U.what s = T.what s := by
  unfold Tab.id Tab.par Tab.what
  rw [h.row hs]
  exact ⟨rfl, rfl, rfl⟩
theorem chain_sub {T U : Tab} (h : Sub T U) (hT : T.Ok) (hU : U.Ok) : ∀ s, s < T.rows.length → U.chain s = T.chain s := by
  intro s
  induction s using Nat.strongRecOn with
  | ind s ih =>
    intro hs
    by_cases h0 : s = 0
    · subst h0; rfl
    · have hp := hT.par' s (by omega)
      rw [chain_step hU h0, chain_step hT h0, (h.at_ hs).2.1, ih _ hp (by omega)]
theorem find_congr {p q : Nat → Bool} : ∀ (l : List Nat), (∀ i ∈ l, p i = q i) → l.find? p = l.find? q
  | [], _ => rfl
  | i :: l, h => by rw [List.find?_cons, List.find?_cons, h i (List.mem_cons_self ..), find_congr l (fun j hj => h j (List.mem_cons_of_mem _ hj))]
theorem binder_sub {T U : Tab} (h : Sub T U) (hT : T.Ok) (hU : U.Ok) {s : Nat} (hs : s < T.rows.length) (x : Idn) : U.binder s x = T.binder s x := by
  unfold Tab.binder
  rw [chain_sub h hT hU s hs, find_congr _ (fun i hi => by rw [(h.at_ (chain_lt hT s hs i hi).2.2).1])]
theorem seenR_sub {T U : Tab} (h : Sub T U) (hT : T.Ok) (hU : U.Ok) (t : Bs) : ∀ (r : List Int) (s : Nat), s < T.rows.length → (∀ k ∈ r, 1 ≤ k ∧ k ≤ (T.marks.length : Int)) → U.seenR t r s = T.seenR t r s
  | [], s, hs, _ => by
    unfold Tab.seenR
    rw [binder_sub h hT hU hs]
    by_cases hb : T.binder s ⟨t, []⟩ = 0
    · rw [if_pos hb, if_pos hb]
    · rw [if_neg hb, if_neg hb, (h.at_ (binder_lt hT hs hb)).2.2]
  | m :: r, s, hs, hm => by
    unfold Tab.seenR
    rw [binder_sub h hT hU hs]
    by_cases hb : T.binder s ⟨t, (m :: r).reverse⟩ = 0
    · rw [if_pos hb, if_pos hb]
      have h1 := hm m (List.mem_cons_self ..)
      have hlt : m.toNat - 1 < T.marks.length := by omega
      have he : U.marks.getD (m.toNat - 1) 0 = T.marks.getD (m.toNat - 1) 0 := by
        obtain ⟨q, hq⟩ := h.2
        rw [← hq, List.getD_eq_getElem?_getD, List.getD_eq_getElem?_getD, List.getElem?_append_left hlt]
      rw [he]
      refine seenR_sub h hT hU t r _ ?_ (fun k hk => hm k (List.mem_cons_of_mem _ hk))
      rw [List.getD_eq_getElem?_getD, List.getElem?_eq_getElem hlt]
      exact hT.mark _ (List.getElem_mem hlt)
    · rw [if_neg hb, if_neg hb, (h.at_ (binder_lt hT hs hb)).2.2]
theorem findE_zero {T : Tab} {s : Int} {d : Da.Dt} (hpos : 0 < T.rows.length) (h : findE T s d = 0) : ∃ k : Nat, s = (k : Int) ∧ k < T.rows.length ∧ IsSym d ∧ markOk T.marks.length d.M = true := by
  unfold findE at h
  split at h
  · next h1 => exact absurd h h1
  · next h1 =>
    split at h
    · exact absurd h (by decide)
    · next h2 =>
      split at h
      · next h3 =>
        obtain ⟨k, hk, hl⟩ := chk_ok (n := T.rows.length) (Nat.pos_iff_ne_zero.1 hpos) (by simpa using h1)
        exact ⟨k, hk, hl, by simpa using h2, h3⟩
      · exact absurd h (by decide)
theorem findE_is {T : Tab} {k : Nat} {d : Da.Dt} (hk : k < T.rows.length) (hy : IsSym d) (hm : markOk T.marks.length d.M = true) : findE T (k : Int) d = 0 := by
  have hc : chkE T.rows.length (k : Int) = 0 := by unfold chkE; rw [if_neg (by omega), if_neg (by rintro (h | h) <;> omega)]
  unfold findE
  rw [if_neg (by simpa using hc), if_neg (by simpa using hy), if_pos hm]
/-- What was found is found. -/
theorem find_sub {T U : Tab} (h : Sub T U) (hT : T.Ok) (hU : U.Ok) {s : Int} {d : Da.Dt} (h0 : findE T s d = 0) : findE U s d = 0 ∧ findZ U s d = findZ T s d := by
  obtain ⟨k, rfl, hk, hy, hm⟩ := findE_zero hT.pos h0
  have hm' : markOk U.marks.length d.M = true := by
    rw [markOk, List.all_eq_true] at hm ⊢
    intro x hx
    have := hm x hx
    have hl := h.2.length_le
    simp only [decide_eq_true_eq] at this ⊢
    omega
  have h1 := findE_is (T := U) (k := k) (d := d) (by have := h.len; omega) hy hm'
  refine ⟨h1, ?_⟩
  unfold findZ
  rw [h1, h0, if_pos rfl, if_pos rfl]
  unfold Tab.seen
  refine seenR_sub h hT hU _ _ _ (by simpa using hk) (fun x hx => ?_)
  have hx' : x ∈ d.M := List.mem_reverse.1 hx
  exact ⟨((sym_facts hy.1 hy.2).1.mark x hx').1, markOk_made hm x hx'⟩
theorem same_symm (z u : Seen) : z.same u = u.same z := by
  rw [Bool.eq_iff_iff, Seen.same_iff, Seen.same_iff]
  exact ⟨fun h => h.symm, fun h => h.symm⟩
theorem same_trans {z u v : Seen} (h : z.same u = true) (k : u.same v = true) : z.same v = true := by
  rw [Seen.same_iff] at *
  exact h.trans k
end Go.Proofs.Yteolfkkabhileaa.Sc
end
