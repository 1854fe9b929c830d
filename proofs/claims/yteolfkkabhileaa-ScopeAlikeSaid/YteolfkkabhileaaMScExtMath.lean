/- A scope more (layer 5): what becomes of the table in memory. -/
import Derived.Maps.AppendAt
import Derived.Test.YteolfkkabhileaaMScSee
section
namespace Go.Proofs.Yteolfkkabhileaa.Sc
open Go.ChangeShapes Go.WideShapes Go.ChangeAt Go.RowKit
set_option linter.unusedVariables false
set_option linter.unusedSimpArgs false

theorem wp_append_at {P : Program} {o : Oper} {a : Act} {K : Act → World → Prop} {Q : Exit → Act → World → Prop} (w : World) (s x : Operand) (t : TypeId)
    (ho : o.op = .call { callee := .builtin .append, args := #[s, x], argTypes := #[t, t] })
    (base : Nat) (e : TypeId) (i : TypeInfo) (z : Value) (size bytes : Nat) (ht : P.underlying t = some (.slice e)) (hi : P.info? e = some i) (hz : i.zero = some z)
    (hsize : i.size = size) (hby : i.bytes = bytes) (hzs : z.cells.size = size) (hsz : 0 < size)
    (v : Value) (n : Nat) (xs : List Value) (hs : a.eval s = v) (hown : w.ownsRow base e size v n xs)
    (ad : Addr) (m c : Nat) (news : List Value) (hx : a.eval x = .slice (some ad) m c) (hl : news.length = m * size) (hnews : ∀ j u, news[j]? = some u → w.cell? (ad.add j) = some u) (h1 : ∀ u ∈ news, u.oneCell' = true)
    (h63 : n + m ≤ maxLen) (hbytes : (n + m) * bytes ≤ 140737488355328) (hbase : base ≤ w.heap.size)
    (h : ∀ v' w', w'.ownsRow base e size v' (n + m) (xs ++ news) → w.grownBy w' v.ownBlock → (v'.ownBlock = v.ownBlock ∨ v'.ownBlock = some w.heap.size) → K (a.put o.dst v') w') : o.wp P a w K Q := by
  obtain ⟨v', w', hr, h2, h3, h4, h5⟩ := run_append_own_at (P := P) w base t o.type e i z size bytes ht hi hz hsize hby hzs hsz v n xs hown ad m c news hl hnews h1 h63 hbytes hbase
  unfold Oper.wp execOp
  simp only [ho, resolve, invoke, builtin, Sem.run_bind, Sem.run_pure, Result.andThen_ok, List.map_toArray, List.map_cons, List.map_nil, hs, hx, hr]
  exact h v' w' h2 h3 h5
/-- The table once its row is appended, and the map is as it was. -/
structure Mid (W : World) (tb : Nat) (T : Tab) (r : Row) (vs vm : Value) (bm : Nat) : Prop where
  blk : Da.Blk W tb 73 #[vs, vm, .map (some bm)]
  rows : W.ownsRow 0 84 19 vs (T.rows.length + 1) (rowsC T.rows ++ rowC r)
  marks : W.ownsRow 0 3 1 vm T.marks.length (marksC T.marks)
theorem ext_mid {w wa w1 : World} {tb bm : Nat} {T : Tab} {r : Row} {vs vm v' : Value} (h : TabAt w tb T vs vm bm) (hba : Below w.heap.size w wa)
    (hown : w1.ownsRow 0 84 19 v' (T.rows.length + 1) (rowsC T.rows ++ rowC r)) (hg : wa.grownBy w1 vs.ownBlock) (hat : v'.ownBlock = vs.ownBlock ∨ v'.ownBlock = some wa.heap.size) :
    Mid (w1.setCell ⟨tb, 0, none⟩ v') tb T r v' vm bm ∧ FirstAt (w1.setCell ⟨tb, 0, none⟩ v') bm T ∧ Chg (Own3 tb vs vm bm) w (w1.setCell ⟨tb, 0, none⟩ v') ∧ ∀ k, Own3 tb v' vm bm k → Own3 tb vs vm bm k ∨ w.heap.size ≤ k := by
  obtain ⟨a1, a2, a3, a4, a5⟩ := h.apart
  have hlt := h.lt
  have hsz := hba.size
  have keep : ∀ k, k < w.heap.size → vs.ownBlock ≠ some k → w1.heap[k]? = w.heap[k]? := fun k hk hn =>
    (hg.block k (by omega) (fun e => hn e.symm)).trans (hba.block k hk)
  have hv' : v'.ownBlock ≠ some tb := by
    rcases hat with e | e
    · rw [e]; exact a1
    · rw [e]; intro e2; have := hlt tb (.inl rfl); injection e2 with e2; omega
  have kp : ∀ k, k < w.heap.size → ¬ Own3 tb vs vm bm k → (w1.setCell ⟨tb, 0, none⟩ v').heap[k]? = w.heap[k]? := fun k hk hn => by
    rw [Below.heap_setCell _ _ _ _ (fun e => hn (.inl e)), keep k hk (fun e => hn (.inr (.inl e)))]
  refine ⟨⟨?_, ?_, ?_⟩, ?_, ⟨hg.os.trans hba.os, hg.tape.trans hba.tape, hg.output.trans hba.output, ?_, kp⟩, ?_⟩
  · have h1 : w1.heap[tb]? = some (.cells #[vs, vm, .map (some bm)] 73 (0, 0)) := (keep tb (hlt tb (.inl rfl)) a1).trans h.blk
    exact heap_setCell_same w1 tb 0 #[vs, vm, .map (some bm)] 73 v' h1
  · exact ownsRow_same hown (fun g hgv => Below.heap_setCell _ _ _ _ (by show g ≠ tb; intro e; rw [e] at hgv; exact hv' hgv))
  · refine ownsRow_same h.marks (fun g hgv => ?_)
    rw [Below.heap_setCell _ _ _ _ (by show g ≠ tb; intro e; rw [e] at hgv; exact a2 hgv)]
    exact keep g (hlt g (.inr (.inr (.inl hgv)))) (fun e => (a4 g e).1 hgv)
  · refine h.first.same ?_
    rw [Below.heap_setCell _ _ _ _ (by show bm ≠ tb; exact a3)]
    exact keep bm (hlt bm (.inr (.inr (.inr rfl)))) (fun e => (a4 bm e).2 rfl)
  · have := hg.size
    have e : (w1.setCell ⟨tb, 0, none⟩ v').heap.size = w1.heap.size := by simp
    omega
  · rintro k (h1 | h1 | h1 | h1)
    · exact .inl (.inl h1)
    · rcases hat with e | e
      · exact .inl (.inr (.inl (e ▸ h1)))
      · rw [e] at h1; injection h1 with h1; exact .inr (by omega)
    · exact .inl (.inr (.inr (.inl h1)))
    · exact .inl (.inr (.inr (.inr h1)))
theorem ext_first_keep {W : World} {bm : Nat} {T : Tab} (h : FirstAt W bm T) (hpos : 0 < T.rows.length) {p : Nat} {x : Idn} {v : Int} (hx : x.Ok) (h0 : T.first x ≠ 0) : FirstAt W bm (T.ext p x v) := by
  obtain ⟨D, h1, h2, h3⟩ := h
  refine ⟨D, h1.mono (by rw [ext_len]; omega), h2, fun y kl hy hk => ?_⟩
  rw [h3 y kl hy hk, first_ext hpos]
  by_cases hf : T.first y = 0
  · rw [if_neg (by simp [hf])]
    by_cases he : y = x
    · subst he; exact absurd hf h0
    · rw [if_neg he, hf]
  · rw [if_pos hf]
set_option maxRecDepth 100000 in
theorem ext_first_put {W' : World} {bm : Nat} {T : Tab} {D : DataW Unit} {x : Idn} {kl : Lit} {p : Nat} {v : Int} (hD : Maps.IsMap D)
    (hat : ∀ (y : Idn) (k : Lit), y.Ok → keyOf Try.prog 82 y.V = some k → D.atKey k (.lit (.int .i64 0)) = .lit (.int .i64 (T.first y : Int)))
    (hown : W'.ownsMap Try.prog 82 (plainElem Try.prog 3) bm (T.rows.length + 1) (D.put kl (.lit (.int .i64 (T.rows.length : Int))))) (hpos : 0 < T.rows.length) (hx : x.Ok) (hk : keyOf Try.prog 82 x.V = some kl) (h0 : T.first x = 0) : FirstAt W' bm (T.ext p x v) := by
  refine ⟨_, by rw [ext_len]; exact hown, hD.put _ _, fun y k hy hky => ?_⟩
  rw [first_ext hpos]
  by_cases he : y = x
  · subst he
    rw [hk] at hky
    injection hky with hky
    subst hky
    rw [Maps.atKey_put_same hD (keyed.key hk), if_neg (by simp [h0]), if_pos rfl]
  · rw [Maps.atKey_put_other (fun e => he ((kl_ne hy hx hky hk).1 e)), hat y k hy hky]
    by_cases hf : T.first y = 0
    · rw [if_neg (by simp [hf]), if_neg he, hf]
    · rw [if_pos hf]
theorem Mid.done {W : World} {tb : Nat} {T : Tab} {p : Nat} {x : Idn} {what : Int} {vs vm : Value} {bm : Nat} (h : Mid W tb T ⟨p, x, what⟩ vs vm bm) (hok : T.Ok) (hids : ∀ r ∈ T.rows, r.id.Ok) (hwh : ∀ r ∈ T.rows, (Lit.int .i64 r.what).wf = true)
    (hp : p < T.rows.length) (hf : T.rows.length < 16384) (hx : x.Ok) (hw : (Lit.int .i64 what).wf = true) (hfa : FirstAt W bm (T.ext p x what)) : TabAt W tb (T.ext p x what) vs vm bm where
  ok := hok.ext hp hf x what
  ids := fun r hr => by
    rcases List.mem_append.1 (show r ∈ T.rows ++ [⟨p, x, what⟩] from hr) with h1 | h1
    · exact hids r h1
    · obtain rfl : r = ⟨p, x, what⟩ := by simpa using h1
      exact hx
  whats := fun r hr => by
    rcases List.mem_append.1 (show r ∈ T.rows ++ [⟨p, x, what⟩] from hr) with h1 | h1
    · exact hwh r h1
    · obtain rfl : r = ⟨p, x, what⟩ := by simpa using h1
      exact hw
  blk := h.blk
  rows := by
    have e : (T.ext p x what).rows = T.rows ++ [⟨p, x, what⟩] := rfl
    rw [e, rowsC_snoc, List.length_append]
    exact h.rows
  marks := h.marks
  first := hfa
theorem Mid.put {W W8 : World} {tb : Nat} {T : Tab} {r : Row} {vs vm : Value} {bm : Nat} (h : Mid W tb T r vs vm bm) (hb : ∃ es clock, W.heap[bm]? = some (.map es clock)) (hg : W.grownBy W8 (some bm)) : Mid W8 tb T r vs vm bm := by
  obtain ⟨es, clock, hb⟩ := hb
  have kp : ∀ (k : Nat) (cs : Array Value) (ty : TypeId), W.heap[k]? = some (Obj.cells cs ty (0, 0)) → W8.heap[k]? = W.heap[k]? := fun k cs ty hk => hg.block k (Array.getElem?_eq_some_iff.1 hk).1 (fun e => by
    injection e with e
    rw [e, hb] at hk
    cases hk)
  refine ⟨(kp _ _ _ h.blk).trans h.blk, ownsRow_same h.rows (fun k hk => ?_), ownsRow_same h.marks (fun k hk => ?_)⟩
  · obtain ⟨cur, hc⟩ := own_row h.rows hk
    exact kp _ _ _ hc
  · obtain ⟨cur, hc⟩ := own_row h.marks hk
    exact kp _ _ _ hc
theorem info_bind : (Try.prog.info? 84).map (fun i => (i.size, i.bytes)) = some (19, 96) := by kernel_rfl
end Go.Proofs.Yteolfkkabhileaa.Sc
end
