/- Identifiers of layer 5: they are compared, looked up, loaded; what a chain of scopes finds. -/
import Derived.Test.YteolfkkabhileaaMScMem
import Derived.Test.YteolfkkabhileaaMScKey
import Derived.Test.YteolfkkabhileaaMLd
section
namespace Go.Proofs.Yteolfkkabhileaa.Sc
open Go.ChangeShapes Go.WideShapes Go.ChangeAt Go.RowKit
set_option linter.unusedVariables false
set_option linter.unusedSimpArgs false

theorem pad_inj {a b : List Int} (ha : a.length ≤ 16) (hb : b.length ≤ 16) (pa : ∀ k ∈ a, 1 ≤ k) (pb : ∀ k ∈ b, 1 ≤ k) (h : ∀ i, i < 16 → pad a i = pad b i) : a = b := by
  have at0 : ∀ (l : List Int) (i : Nat) (hi : i < l.length), pad l i = l[i] := fun l i hi => by unfold pad; rw [List.getD_eq_getElem?_getD, List.getElem?_eq_getElem hi]; rfl
  have out0 : ∀ (l : List Int) (i : Nat), l.length ≤ i → pad l i = 0 := fun l i hi => by unfold pad; rw [List.getD_eq_getElem?_getD, List.getElem?_eq_none hi]; rfl
  have hl : a.length = b.length := by
    rcases Nat.lt_trichotomy a.length b.length with h1 | h1 | h1
    · have e := h a.length (by omega)
      rw [out0 a _ (Nat.le_refl _), at0 b _ h1] at e
      have := pb _ (List.getElem_mem h1)
      omega
    · exact h1
    · have e := h b.length (by omega)
      rw [out0 b _ (Nat.le_refl _), at0 a _ h1] at e
      have := pa _ (List.getElem_mem h1)
      omega
  refine List.ext_getElem hl (fun i h1 h2 => ?_)
  rw [← at0 a i h1, ← at0 b i h2]
  exact h i (by omega)
theorem V_inj {x y : Idn} (hx : x.Ok) (hy : y.Ok) (h : x.V = y.V) : x = y := by
  unfold Idn.V idA at h
  injection h with h
  have h1 := congrArg Array.toList h
  simp only [List.cons.injEq, Value.string.injEq, Value.int.injEq, true_and, and_true, ByteArray.mk.injEq] at h1
  obtain ⟨hs, h0, h1, h2, h3, h4, h5, h6, h7, h8, h9, h10, h11, h12, h13, h14, h15⟩ := h1
  have hs' : x.s = y.s := by
    have := congrArg Array.toList hs
    simpa using this
  have hm : x.m = y.m := pad_inj hx.m hy.m (fun k hk => (hx.mark k hk).1) (fun k hk => (hy.mark k hk).1) (fun i hi => by
    have : i = 0 ∨ i = 1 ∨ i = 2 ∨ i = 3 ∨ i = 4 ∨ i = 5 ∨ i = 6 ∨ i = 7 ∨ i = 8 ∨ i = 9 ∨ i = 10 ∨ i = 11 ∨ i = 12 ∨ i = 13 ∨ i = 14 ∨ i = 15 := by omega
    rcases this with rfl | rfl | rfl | rfl | rfl | rfl | rfl | rfl | rfl | rfl | rfl | rfl | rfl | rfl | rfl | rfl <;> assumption)
  rcases x with ⟨xs, xm⟩
  rcases y with ⟨ys, ym⟩
  simp only at hs' hm
  rw [hs', hm]
theorem kl_ne {x y : Idn} {kx ky : Lit} (hx : x.Ok) (hy : y.Ok) (h1 : keyOf Try.prog 82 x.V = some kx) (h2 : keyOf Try.prog 82 y.V = some ky) : kx = ky ↔ x = y := by
  constructor
  · rintro rfl
    exact V_inj hx hy (keyed.inj h1 h2)
  · rintro rfl
    rw [h1] at h2
    exact Option.some.inj h2
set_option maxRecDepth 100000 in
theorem key_deep : Try.prog.keyTypeAt 3 82 = true := by kernel_rfl
set_option maxRecDepth 100000 in
theorem eq_id (x y : Idn) (hx : x.Ok) (hy : y.Ok) (w : World) : (binOp BinOp.eql 82 x.V y.V).run Try.prog w = .ok (.bool (decide (x = y))) w := by
  obtain ⟨kx, h1⟩ := key_any x hx
  obtain ⟨ky, h2⟩ := key_any y hy
  obtain ⟨r, hr, hb⟩ := run_equal_deep (P := Try.prog) w (m := 3) (by omega) key_deep wide_id h1 h2
  rw [kl_ne hx hy h1 h2] at hb
  have : r = decide (x = y) := by
    rw [Bool.eq_iff_iff, hb, decide_eq_true_iff]
  subst this
  have e : binOp BinOp.eql 82 x.V y.V = Value.bool <$> Op.equal 82 x.V y.V := rfl
  rw [e]
  simp [hr, go_sem]
theorem no_guard : Try.prog.eqGuardType Try.prog.depth 82 = false := by kernel_rfl
theorem guard_id (a b : Operand) (x y : Idn) (w : World) : (eqGuard BinOp.eql 82 a b x.V y.V).run Try.prog w = .ok () w := by
  unfold Idn.V idA
  simp [eqGuard, Sem.run_bind, run_program, no_guard, go_sem]
set_option maxRecDepth 100000 in
theorem look_first {w : World} {bm : Nat} {T : Tab} (h : FirstAt w bm T) {x : Idn} (hx : x.Ok) :
    (Instr.lookup 71 (.map (some bm)) x.V false).run Try.prog w = .ok (.int .i64 (T.first x : Int)) w := by
  obtain ⟨D, hown, hD, hat⟩ := h
  obtain ⟨kl, hk⟩ := key_any x hx
  obtain ⟨c, hrun, hc, _⟩ := hown.lookup_int keyed Try.underlying71 Try.underlying3 (zero_int w) hk
  rw [hat x kl hx hk] at hc
  injection hc with hc
  injection hc with _ hc
  rw [hrun, ← hc]
theorem info_idn : (Try.prog.info? 82).map (·.size) = some 17 := by kernel_rfl
/-- The seventeen cells of an identifier, as a list. -/
def idL (x : Idn) : List Value := (A17 x.s (pad x.m)).toList
theorem idL_len (x : Idn) : (idL x).length = 17 := rfl
theorem idL_V (x : Idn) : Value.agg (idL x).toArray = x.V := rfl
theorem At.of_Bk {w : World} {b : Nat} {x : Idn} (h : Bk w b x.s (pad x.m)) : Ld.At w b 0 (idL x) := Ld.At.of_blk h
/-- Where the identifier of a scope lies. -/
theorem at_row {w : World} {a : Option Addr} {c : Nat} {l : List Row} (h : w.ownsRow 0 84 19 (.slice a l.length c) l.length (rowsC l)) (hl : 0 < l.length) :
    ∃ g, a = some ⟨g, 0, none⟩ ∧ g < w.heap.size ∧ (Value.slice a l.length c).ownBlock = some g ∧ ∀ k, k < l.length → w.cell? ⟨g, k * 19, none⟩ = some (.int .i64 ((l.getD k default).par : Int)) ∧ Ld.At w g (k * 19 + 1) (idL (l.getD k default).id) ∧ w.cell? ⟨g, k * 19 + 18, none⟩ = some (.int .i64 (l.getD k default).what) := by
  obtain ⟨g, e, hlt, ho, hc⟩ := row_cells h hl
  refine ⟨g, e, hlt, ho, fun k hk => ⟨hc (k * 19) _ (by have := rowsC_at l k 0 (by omega) hk; rw [Nat.add_zero] at this; rw [this]; rfl), fun j v hv => ?_, hc (k * 19 + 18) _ (by rw [rowsC_at l k 18 (by omega) hk]; rfl)⟩⟩
  have hj : j < 17 := by
    rcases Nat.lt_or_ge j 17 with h1 | h1
    · exact h1
    · rw [List.getElem?_eq_none (by rw [idL_len]; exact h1)] at hv; cases hv
  refine hc _ _ ?_
  rw [show k * 19 + 1 + j = k * 19 + (1 + j) by omega, rowsC_at l k (1 + j) (by omega) hk, Nat.add_comm 1 j]
  show (idL (l.getD k default).id ++ [_])[j]? = _
  rw [List.getElem?_append_left (by rw [idL_len]; exact hj)]
  exact hv
/- What a chain finds. -/
theorem chain_tail {T : Tab} (h : T.Ok) : ∀ (s : Nat) (pre : List Nat) (y : Nat) (r : List Nat), T.chain s = pre ++ y :: r → T.chain y = y :: r := by
  intro s
  induction s using Nat.strongRecOn with
  | ind s ih =>
    intro pre y r he
    by_cases hs : s = 0
    · subst hs; rw [chain_zero] at he; cases pre <;> cases he
    · rw [chain_step h hs] at he
      cases pre with
      | nil => injection he with h1 h2; subst h1; rw [chain_step h hs, h2]
      | cons p pre =>
        injection he with h1 h2
        exact ih _ (h.par' s (by omega)) pre y r h2
theorem binder_pre {T : Tab} {s : Nat} {x : Idn} {pre r : List Nat} (he : T.chain s = pre ++ r) (hn : ∀ i ∈ pre, T.id i ≠ x) : T.binder s x = (r.find? (fun i => T.id i == x)).getD 0 := by
  unfold Tab.binder
  rw [he, List.find?_append, List.find?_eq_none.2 (fun i hi => by simpa using hn i hi), Option.none_or]
theorem binder_hit {T : Tab} {s y : Nat} {x : Idn} {pre : List Nat} (he : pre ++ [y] <+: T.chain s) (hn : ∀ i ∈ pre, T.id i ≠ x) (hy : T.id y = x) : T.binder s x = y := by
  obtain ⟨r, hr⟩ := he
  rw [List.append_assoc] at hr
  rw [binder_pre hr.symm hn, List.singleton_append, List.find?_cons_of_pos (by rw [hy]; simp)]
  rfl
theorem binder_stop {T : Tab} (h : T.Ok) {s y : Nat} {x : Idn} {pre : List Nat} (hs : s < T.rows.length) (he : pre ++ [y] <+: T.chain s) (hn : ∀ i ∈ pre, T.id i ≠ x) (hy : y < T.first x) : T.binder s x = 0 := by
  obtain ⟨r, hr⟩ := he
  rw [List.append_assoc] at hr
  have hmem : y ∈ T.chain s := by rw [← hr]; simp
  have hyl := (chain_lt h s hs y hmem).2.2
  have hc := chain_tail h s pre y r hr.symm
  rw [binder_pre hr.symm hn]
  have h0 := binder_out h hyl hy
  unfold Tab.binder at h0
  rw [hc] at h0
  exact h0
theorem binder_full {T : Tab} {s : Nat} {x : Idn} (hn : ∀ i ∈ T.chain s, T.id i ≠ x) : T.binder s x = 0 := by
  unfold Tab.binder
  rw [List.find?_eq_none.2 (fun i hi => by simpa using hn i hi)]
  rfl
end Go.Proofs.Yteolfkkabhileaa.Sc
end
