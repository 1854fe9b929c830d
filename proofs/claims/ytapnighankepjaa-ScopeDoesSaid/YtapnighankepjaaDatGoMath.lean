/- The document's walk over the parts of a datum, node by node. -/
import Derived.Test.YtapnighankepjaaDatAlone3
import Derived.Test.YtapnighankepjaaDatHalves
import Derived.Test.YtapnighankepjaaOrd2
namespace Go.Proofs.Ytapnighankepjaa.Da
open Go.ChangeShapes Go.WideShapes Go.ChangeAt Go.RowKit

/-- The parts so far, and what is wrong. -/
abbrev St := List (Dt × Nat) × Int
def goStep (st : St) (x : Dt × Nat) : St := if st.2 = 0 then (if mErr st.1.length x.1 x.2 = 0 then (st.1 ++ [x], 0) else (st.1, mErr st.1.length x.1 x.2)) else st
def goAll (st : St) (l : List (Dt × Nat)) : St := l.foldl goStep st
theorem goAll_bad {st : St} (h : st.2 ≠ 0) : ∀ l, goAll st l = st
  | [] => rfl
  | x :: r => by
    have e : goStep st x = st := by unfold goStep; rw [if_neg h]
    show goAll (goStep st x) r = st
    rw [e]; exact goAll_bad h r
theorem goAll_append (st : St) (a b : List (Dt × Nat)) : goAll st (a ++ b) = goAll (goAll st a) b := by simp [goAll]
theorem goAll_nodes (st : St) (d : Dt) (k : Nat) : goAll st (nodes d k) = goAll (goAll (goStep st (d, k)) (nodesL d.L (k + 1))) (nodesL d.T (k + 1)) := by
  rw [nodes_eq, ← goAll_append]; rfl
theorem goStep_len {st : St} {x : Dt × Nat} (h : st.1.length ≤ 4096) : (goStep st x).1.length ≤ 4096 := by
  unfold goStep
  by_cases h0 : st.2 = 0
  · rw [if_pos h0]
    by_cases hm : mErr st.1.length x.1 x.2 = 0
    · rw [if_pos hm]
      have := (mErr_zero hm).2.1
      simp only [List.length_append, List.length_cons, List.length_nil]
      omega
    · rw [if_neg hm]; exact h
  · rw [if_neg h0]; exact h
theorem goAll_len : ∀ (l : List (Dt × Nat)) (st : St), st.1.length ≤ 4096 → (goAll st l).1.length ≤ 4096
  | [], _, h => h
  | x :: r, st, h => goAll_len r (goStep st x) (goStep_len h)
theorem goAll_err : ∀ (l pre : List (Dt × Nat)), (goAll (pre, 0) l).2 = errOf pre.length l
  | [], _ => rfl
  | x :: r, pre => by
    show (goAll (goStep (pre, 0) x) r).2 = _
    by_cases hm : mErr pre.length x.1 x.2 = 0
    · have e : goStep (pre, 0) x = (pre ++ [x], 0) := by unfold goStep; rw [if_pos rfl]; show (if mErr pre.length x.1 x.2 = 0 then _ else _) = _; rw [if_pos hm]
      rw [e, goAll_err r]
      simp only [errOf, if_pos hm, List.length_append, List.length_cons, List.length_nil]
    · have e : goStep (pre, 0) x = (pre, mErr pre.length x.1 x.2) := by unfold goStep; rw [if_pos rfl]; show (if mErr pre.length x.1 x.2 = 0 then _ else _) = _; rw [if_neg hm]
      rw [e, goAll_bad (st := (pre, mErr pre.length x.1 x.2)) hm]
      simp only [errOf, if_neg hm]
theorem goAll_ok : ∀ (l pre : List (Dt × Nat)), errOf pre.length l = 0 → goAll (pre, 0) l = (pre ++ l, 0)
  | [], pre, _ => by simp [goAll]
  | x :: r, pre, h => by
    show goAll (goStep (pre, 0) x) r = _
    simp only [errOf] at h
    by_cases hm : mErr pre.length x.1 x.2 = 0
    · rw [if_pos hm] at h
      have e : goStep (pre, 0) x = (pre ++ [x], 0) := by unfold goStep; rw [if_pos rfl]; show (if mErr pre.length x.1 x.2 = 0 then _ else _) = _; rw [if_pos hm]
      rw [e, goAll_ok r _ (by simpa using h)]
      simp
    · rw [if_neg hm] at h
      exact absurd h hm
theorem goAll_chk (d : Dt) : (goAll ([], 0) (nodes d 1)).2 = chk d := by rw [goAll_err, chk_err]; rfl
theorem goAll_good {d : Dt} (h : chk d = 0) : goAll ([], 0) (nodes d 1) = (nodes d 1, 0) := by
  rw [goAll_ok _ _ (by rw [chk_err] at h; exact h)]; rfl
/-- The cells of parts. -/
def PartsIs (w : World) (B : Nat) (l : List (Dt × Nat)) (xs : List Value) : Prop :=
  ∀ i x, l[i]? = some x → ∃ x0 x1 x2 x3 x4 x5, xs[i * 6]? = some x0 ∧ xs[i * 6 + 1]? = some x1 ∧ xs[i * 6 + 2]? = some x2 ∧ xs[i * 6 + 3]? = some x3 ∧ xs[i * 6 + 4]? = some x4 ∧ xs[i * 6 + 5]? = some x5 ∧ IsDt w (Lo B) x.1 (.agg #[x0, x1, x2, x3, x4, x5])
theorem PartsIs.below {w w' : World} {B : Nat} {l : List (Dt × Nat)} {xs : List Value} (h : PartsIs w B l xs) (hb : Below B w w') : PartsIs w' B l xs := fun i x hx => by
  obtain ⟨x0, x1, x2, x3, x4, x5, h0, h1, h2, h3, h4, h5, hd⟩ := h i x hx
  exact ⟨x0, x1, x2, x3, x4, x5, h0, h1, h2, h3, h4, h5, hd.below hb⟩
theorem PartsIs.nil (w : World) (B : Nat) : PartsIs w B [] [] := fun i x hx => by simp at hx
theorem PartsIs.snoc {w : World} {B : Nat} {l : List (Dt × Nat)} {xs : List Value} {d : Dt} {k : Nat} {y0 y1 y2 y3 y4 y5 : Value} (h : PartsIs w B l xs) (hl : xs.length = l.length * 6) (hd : IsDt w (Lo B) d (.agg #[y0, y1, y2, y3, y4, y5])) :
    PartsIs w B (l ++ [(d, k)]) (xs ++ [y0, y1, y2, y3, y4, y5]) := fun i x hx => by
  by_cases hi : i < l.length
  · rw [List.getElem?_append_left hi] at hx
    obtain ⟨x0, x1, x2, x3, x4, x5, h0, h1, h2, h3, h4, h5, hd⟩ := h i x hx
    refine ⟨x0, x1, x2, x3, x4, x5, ?_, ?_, ?_, ?_, ?_, ?_, hd⟩ <;> rw [List.getElem?_append_left (by omega)] <;> assumption
  · have hi2 : i = l.length := by
      have := (List.getElem?_eq_some_iff.1 hx).1
      simp at this
      omega
    subst hi2
    rw [List.getElem?_append_right (Nat.le_refl _)] at hx
    simp at hx
    subst hx
    refine ⟨y0, y1, y2, y3, y4, y5, ?_, ?_, ?_, ?_, ?_, ?_, hd⟩
    · rw [List.getElem?_append_right (by omega), hl]; simp
    · rw [List.getElem?_append_right (by omega), hl]; simp
    · rw [List.getElem?_append_right (by omega), hl]; simp
    · rw [List.getElem?_append_right (by omega), hl]; simp
    · rw [List.getElem?_append_right (by omega), hl]; simp
    · rw [List.getElem?_append_right (by omega), hl]; simp
/-- The block of a slice. -/
def ob (a : Option Addr) : Option Nat := a.map (·.block)
theorem ob_slice (a : Option Addr) (n c : Nat) : (Value.slice a n c).ownBlock = ob a := by cases a <;> rfl
/-- The walk's block: the parts, how deep each stands, what is wrong. -/
structure Wk (w : World) (B b : Nat) (st : St) (pv dv : Option Addr) (pc dc : Nat) (xs : List Value) : Prop where
  hB : B ≤ b
  blk : Blk w b 104 #[.slice pv st.1.length pc, .slice dv st.1.length dc, .int .i64 st.2]
  own0 : w.ownsRow B 33 6 (.slice pv st.1.length pc) st.1.length xs
  own1 : w.ownsRow B 3 1 (.slice dv st.1.length dc) st.1.length (st.1.map fun x => .int .i64 (x.2 : Int))
  rows : PartsIs w B st.1 xs
  len : st.1.length ≤ 4096
theorem Blk.lt {w : World} {b : Nat} {t : TypeId} {c : Array Value} (h : Blk w b t c) : b < w.heap.size := (Array.getElem?_eq_some_iff.1 h).1
theorem row_ne {w : World} {b base size n : Nat} {t e : TypeId} {c : Array Value} {v : Value} {xs : List Value} (h : Blk w b t c) (hte : t ≠ e) (hr : w.ownsRow base e size v n xs) : some b ≠ v.ownBlock := by
  rcases hr.2 with ⟨rfl, _⟩ | ⟨g, cap, cur, rfl, _, hgb, _⟩
  · simp [Value.ownBlock]
  · intro e'
    obtain rfl : b = g := by simpa [Value.ownBlock] using e'
    have := (show w.heap[b]? = _ from h).symm.trans hgb
    simp at this
    exact hte this.2
/-- What the walk leaves of other blocks. -/
def WS (b : Nat) (pv dv : Option Addr) : Nat → Prop := fun i => i = b ∨ ob pv = some i ∨ ob dv = some i
theorem own_stay {w w' : World} {base : Nat} {e : TypeId} {size : Nat} {v : Value} {n : Nat} {xs : List Value} (h : w.ownsRow base e size v n xs) (hk : ∀ g, v.ownBlock = some g → g < w.heap.size → w'.heap[g]? = w.heap[g]?) : w'.ownsRow base e size v n xs := by
  obtain ⟨h1, h2⟩ := h
  refine ⟨h1, ?_⟩
  rcases h2 with h2 | ⟨g, cap, cur, rfl, b, c, d⟩
  · exact .inl h2
  · refine .inr ⟨g, cap, cur, rfl, b, (hk g rfl ?_).trans c, d⟩
    exact (Array.getElem?_eq_some_iff.1 c).1
/-- Behind something that turns none of the walk's blocks. -/
theorem Wk.keep {w w' : World} {B b : Nat} {st : St} {pv dv : Option Addr} {pc dc : Nat} {xs : List Value} (h : Wk w B b st pv dv pc dc xs) (hb : Below w.heap.size w w') : Wk w' B b st pv dv pc dc xs :=
  ⟨h.hB, (hb.block b h.blk.lt).trans h.blk, own_stay h.own0 fun g _ hg => hb.block g hg, own_stay h.own1 fun g _ hg => hb.block g hg, h.rows.below (hb.mono (by have := h.hB; have := h.blk.lt; omega)), h.len⟩
theorem Wk.bLt {w : World} {B b : Nat} {st : St} {pv dv : Option Addr} {pc dc : Nat} {xs : List Value} (h : Wk w B b st pv dv pc dc xs) : (∀ g, ob pv = some g → B ≤ g ∧ g < w.heap.size ∧ g ≠ b) ∧ (∀ g, ob dv = some g → B ≤ g ∧ g < w.heap.size ∧ g ≠ b) := by
  refine ⟨fun g hg => ?_, fun g hg => ?_⟩
  · have h1 := h.own0.lt g (by rw [ob_slice]; exact hg)
    exact ⟨h1.1, h1.2, fun e => row_ne h.blk (by decide) h.own0 (by rw [ob_slice, hg, e])⟩
  · have h1 := h.own1.lt g (by rw [ob_slice]; exact hg)
    exact ⟨h1.1, h1.2, fun e => row_ne h.blk (by decide) h.own1 (by rw [ob_slice, hg, e])⟩
/-- What a call of the walk leaves. -/
def GoR (B b : Nat) (st' : St) (pv dv : Option Addr) (w w' : World) : Prop :=
  ∃ pv' dv' pc' dc' xs', Wk w' B b st' pv' dv' pc' dc' xs' ∧ Fr (WS b pv dv) w w' ∧ (∀ g, ob pv' = some g → ob pv = some g ∨ w.heap.size ≤ g) ∧ (∀ g, ob dv' = some g → ob dv = some g ∨ w.heap.size ≤ g)
def GoP (B b : Nat) (st' : St) (pv dv : Option Addr) (w : World) (e : Ending) (w' : World) : Prop := e = .returned (.tuple #[]) ∧ GoR B b st' pv dv w w'
theorem GoR.trans {B b : Nat} {st2 : St} {pv dv pv1 dv1 : Option Addr} {w w1 w2 : World} (h1 : Fr (WS b pv dv) w w1) (hp : ∀ g, ob pv1 = some g → ob pv = some g ∨ w.heap.size ≤ g) (hd : ∀ g, ob dv1 = some g → ob dv = some g ∨ w.heap.size ≤ g) (h2 : GoR B b st2 pv1 dv1 w1 w2) : GoR B b st2 pv dv w w2 := by
  obtain ⟨pv2, dv2, pc2, dc2, xs2, hk, hf, q1, q2⟩ := h2
  refine ⟨pv2, dv2, pc2, dc2, xs2, hk, h1.trans' hf (fun i hi hlt => ?_), fun g hg => ?_, fun g hg => ?_⟩
  · rcases hi with rfl | hi | hi
    · exact .inl rfl
    · rcases hp i hi with h | h
      · exact .inr (.inl h)
      · omega
    · rcases hd i hi with h | h
      · exact .inr (.inr h)
      · omega
  · rcases q1 g hg with h | h
    · exact hp g h
    · have := h1.size; exact .inr (by omega)
  · rcases q2 g hg with h | h
    · exact hd g h
    · have := h1.size; exact .inr (by omega)
/-- The walk's third cell is set. -/
theorem Wk.setErr {w : World} {B b : Nat} {st : St} {pv dv : Option Addr} {pc dc : Nat} {xs : List Value} (h : Wk w B b st pv dv pc dc xs) (e : Int) : Wk (w.setCell ⟨b, 2, none⟩ (.int .i64 e)) B b (st.1, e) pv dv pc dc xs := by
  obtain ⟨n0, n1⟩ := h.bLt
  have hbl : ∀ k, k ≠ b → (w.setCell ⟨b, 2, none⟩ (.int .i64 e)).heap[k]? = w.heap[k]? := fun k hk => Below.heap_setCell _ _ _ _ (by simpa using hk)
  refine ⟨h.hB, ?_, own_stay h.own0 fun g hg _ => hbl g ?_, own_stay h.own1 fun g hg _ => hbl g ?_, h.rows.below ((Below.refl B w).setCell (p := ⟨b, 2, none⟩) h.hB _), h.len⟩
  · exact (heap_setCell_same w b 2 _ _ _ h.blk).trans rfl
  · rw [ob_slice] at hg; exact (n0 g hg).2.2
  · rw [ob_slice] at hg; exact (n1 g hg).2.2
end Go.Proofs.Ytapnighankepjaa.Da
