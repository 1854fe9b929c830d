/- The document's copies of a datum: lemmas. -/
import Derived.Test.YtjmchodddobleaaDatRWalk
import Derived.Test.YtjmchodddobleaaDatUnMath
namespace Go.Proofs.Ytjmchodddobleaa.Da
open Go.ChangeShapes Go.WideShapes Go.ChangeAt Go.RowKit
set_option maxRecDepth 100000

/-- Cells in a row that read as data. -/
def RowIs (w : World) (Q : Nat → Prop) (l : List Dt) (xs : List Value) : Prop :=
  ∀ i x, l[i]? = some x → ∃ x0 x1 x2 x3 x4 x5, xs[i * 6]? = some x0 ∧ xs[i * 6 + 1]? = some x1 ∧ xs[i * 6 + 2]? = some x2 ∧ xs[i * 6 + 3]? = some x3 ∧ xs[i * 6 + 4]? = some x4 ∧ xs[i * 6 + 5]? = some x5 ∧ IsDt w Q x (.agg #[x0, x1, x2, x3, x4, x5])
theorem RowIs.keep {w w' : World} {Q Q' : Nat → Prop} {l : List Dt} {xs : List Value} (h : RowIs w Q l xs) (hQ : ∀ b, Q b → Q' b) (hk : ∀ b o, Q b → w'.cell? ⟨b, o, none⟩ = w.cell? ⟨b, o, none⟩) : RowIs w' Q' l xs := fun i x hx => by
  obtain ⟨x0, x1, x2, x3, x4, x5, h0, h1, h2, h3, h4, h5, hd⟩ := h i x hx
  exact ⟨x0, x1, x2, x3, x4, x5, h0, h1, h2, h3, h4, h5, IsDt.keep hQ hk _ _ hd⟩
theorem RowIs.nil (w : World) (Q : Nat → Prop) : RowIs w Q [] [] := fun i x hx => by simp at hx
theorem RowIs.snoc {w : World} {Q : Nat → Prop} {l : List Dt} {xs : List Value} {d : Dt} {y0 y1 y2 y3 y4 y5 : Value} (h : RowIs w Q l xs) (hl : xs.length = l.length * 6) (hd : IsDt w Q d (.agg #[y0, y1, y2, y3, y4, y5])) :
    RowIs w Q (l ++ [d]) (xs ++ [y0, y1, y2, y3, y4, y5]) := fun i x hx => by
  by_cases hi : i < l.length
  · rw [List.getElem?_append_left hi] at hx
    obtain ⟨x0, x1, x2, x3, x4, x5, h0, h1, h2, h3, h4, h5, hd⟩ := h i x hx
    refine ⟨x0, x1, x2, x3, x4, x5, ?_, ?_, ?_, ?_, ?_, ?_, hd⟩ <;> rw [List.getElem?_append_left (by omega)] <;> assumption
  · have hi2 : i = l.length := by
      have := (List.getElem?_eq_some_iff.1 hx).1
      simp at this
      omega
    subst hi2
    rw [List.getElem?_append_right (Nat.le_refl _)] at hx
    simp at hx
    subst hx
    refine ⟨y0, y1, y2, y3, y4, y5, ?_, ?_, ?_, ?_, ?_, ?_, hd⟩ <;> (rw [List.getElem?_append_right (by omega), hl]; simp)
/-- A row that a call owns, read as data. -/
theorem RowIs.dts {w : World} {Q : Nat → Prop} {base g cap : Nat} {l : List Dt} {xs : List Value} (h : RowIs w Q l xs) (ho : w.ownsRow base 25 6 (.slice (some ⟨g, 0, none⟩) l.length cap) l.length xs) (hg : Q g) : IsDts w Q (some ⟨g, 0, none⟩) 0 l :=
  IsDts.of_at fun k d hd => by
    have hk : k < l.length := (List.getElem?_eq_some_iff.1 hd).1
    obtain ⟨x0, x1, x2, x3, x4, x5, h0, h1, h2, h3, h4, h5, hi⟩ := h k d hd
    refine ⟨g, 0, x0, x1, x2, x3, x4, x5, rfl, hg, ?_, hi⟩
    rw [Nat.zero_add, Nat.zero_add]
    exact ⟨(ho.cellAt _ (by omega)).trans h0, (ho.cellAt _ (by omega)).trans h1, (ho.cellAt _ (by omega)).trans h2, (ho.cellAt _ (by omega)).trans h3, (ho.cellAt _ (by omega)).trans h4, (ho.cellAt _ (by omega)).trans h5⟩
/-- What is made of a datum: with its marks, or without. -/
def madeD (mk : Bool) (d : Dt) : Dt := if mk = true then d else plainD d
theorem plainL_map : ∀ l : List Dt, plainL l = l.map plainD
  | [] => by simp only [plainL, List.map_nil]
  | d :: r => by simp only [plainL, List.map_cons]; rw [plainL_map r]
theorem madeD_eq (mk : Bool) (d : Dt) : madeD mk d = .mk d.K d.N d.S (if mk = true then d.M else []) (d.L.map (madeD mk)) (d.T.map (madeD mk)) := by
  cases mk
  · have h : madeD false = plainD := by funext x; rfl
    rw [h, plainD_mk, plainL_map, plainL_map]; rfl
  · have h : madeD true = id := by funext x; rfl
    rw [h, List.map_id, List.map_id]; cases d; rfl
def MadeR (mk : Bool) (d : Dt) (w : World) (e : Ending) (w' : World) : Prop :=
  ∃ v', e = .returned v' ∧ Below w.heap.size w w' ∧ IsDt w' (Rg w.heap.size w'.heap.size) (madeD mk d) v'
def MadeIs (mk : Bool) (d : Dt) : Prop := ∀ (v : Value) (B : Nat) (w : World), IsDt w (Lo B) d v → B ≤ w.heap.size → Calls Try.prog 46 #[v, .bool mk] w (MadeR mk d w)
/-- A builtin append whose run is known. -/
theorem wpList_append_run {P : Program} {w w' : World} {ops : Array Oper} {rest : List Oper} {o : Oper} {a : Act} {Q : Exit → Act → World → Prop} (hgd : o.guard = none) (s x : Operand) (t : TypeId)
    (ho : o.op = .call { callee := .builtin .append, args := #[s, x], argTypes := #[t, t] }) (v u r : Value) (hs : a.eval s = v) (hx : a.eval x = u) (hrun : (Builtin.append_ #[t, t] o.type #[v, u]).run P w = .ok r w')
    (h : wpList P ops Q rest (a.put o.dst r) w') : wpList P ops Q (o :: rest) a w := by
  refine wpList_plain hgd fun K hK => ?_
  unfold Oper.wp
  simp [execOp, ho, resolve, invoke, builtin, hs, hx, hrun, Result.andThen]
  exact hK _ _ h
theorem append_ints {w : World} {Q : Nat → Prop} {am : Option Addr} {cm : Nat} {m : List Int} (ty : TypeId) (h : IntRow w Q am m.length cm m) :
    ∃ a' c' w', (Builtin.append_ #[22, 22] ty #[.slice none 0 0, .slice am m.length cm]).run Try.prog w = .ok (.slice a' m.length c') w' ∧ Below w.heap.size w w' ∧ IntRow w' (Rg w.heap.size w'.heap.size) a' m.length c' m := by
  obtain ⟨i0, hi, hz0, hz1, hz2⟩ := info_parts int_info
  obtain ⟨_, hlc, hcm, hb, hnil, hz, hc⟩ := h
  cases am with
  | none =>
    have h0 := hnil rfl
    have hm0 : m.length = 0 := by omega
    subst h0
    rw [hm0]
    obtain rfl := List.eq_nil_of_length_eq_zero hm0
    exact ⟨none, 0, w, run_append_owned_none (P := Try.prog) (w := w) w.heap.size 22 ty 3 i0 1 Try.underlying22 hi _ 0 [] (World.ownsRow_nil _ _ _ _), Below.refl _ _, ⟨rfl, Nat.le_refl _, by simp [maxLen], by omega, fun _ => rfl, by simp, fun k hk => by omega⟩⟩
  | some ad =>
    have hcell : ∀ j u, (m.map (Value.int .i64))[j]? = some u → w.cell? (ad.add j) = some u := fun j u hu => by
      obtain ⟨hj, hu'⟩ := List.getElem?_eq_some_iff.1 hu
      simp only [List.length_map] at hj
      obtain ⟨b, off, he, _, hcl⟩ := hc j hj
      injection he with he
      subst he
      rw [add_plain, hcl, ← hu]
      simp [hj]
    obtain ⟨v', w', hr, ho, hg, hiff⟩ := run_append_own (P := Try.prog) w w.heap.size 22 ty 3 i0 _ 1 8 Try.underlying22 hi hz0 hz1 hz2 rfl (by omega) (.slice none 0 0) 0 [] (World.ownsRow_nil _ _ _ _) ad m.length cm (m.map (Value.int .i64)) (by simp) hcell (by simp [Value.oneCell']) (by omega) (by omega) (Nat.le_refl _)
    have hbel : Below w.heap.size w w' := ⟨hg.os, hg.tape, hg.output, hg.size, fun k hk => hg.block k hk (fun e => by cases e)⟩
    rw [Nat.zero_add] at ho
    by_cases hv : v' = .slice none 0 0
    · have hm0 := (hiff.1 hv).2
      obtain rfl := List.eq_nil_of_length_eq_zero hm0
      subst hv
      exact ⟨none, 0, w', hr, hbel, ⟨rfl, Nat.le_refl _, by simp [maxLen], by simp, fun _ => rfl, by simp, fun k hk => by simp at hk⟩⟩
    · obtain ⟨g, cap, rfl, hbg, hlt, hnc, hcm2⟩ := own_form ho hv
      refine ⟨_, cap, w', hr, hbel, ⟨rfl, hnc, hcm2, hb, (fun h => by cases h), hz, fun k hk => ⟨g, 0, rfl, ⟨hbg, hlt⟩, ?_⟩⟩⟩
      rw [Nat.zero_add, ho.cellAt k (by omega)]
      simp [hk]
/-- So many have been made and put behind each other; o: the datum that is made, f: its field. -/
def RowAt (mk : Bool) (W2 : World) (o f : Nat) (cs : Array Value) (l : List Dt) (wr : World) : Prop :=
  ∃ pv pc xs, Fr (fun i => i = o) W2 wr ∧ Blk wr o 25 (cs.setIfInBounds f (.slice pv l.length pc)) ∧ wr.ownsRow W2.heap.size 25 6 (.slice pv l.length pc) l.length xs ∧ RowIs wr (fun b => W2.heap.size ≤ b ∧ b < wr.heap.size ∧ ob pv ≠ some b) (l.map (madeD mk)) xs
def MadeAt (mk : Bool) (W2 : World) (o f : Nat) (cs : Array Value) (l : List Dt) (i : Value) (wr : World) : Prop := ∃ j : Nat, j ≤ l.length ∧ i = .int .i64 (j : Int) ∧ RowAt mk W2 o f cs (l.take j) wr
/-- One more. wr: ahead; w2: behind the call; X: behind the new cell; w4: behind the append. -/
theorem made_end {mk : Bool} {W2 wr w2 X w4 : World} {o f n g cap : Nat} {cs : Array Value} {l : List Dt} {x : Dt} {pv : Option Addr} {pc : Nat} {xs : List Value} {y0 y1 y2 y3 y4 y5 : Value}
    (hn : l.length = n) (hf2 : Fr (fun i => i = o) W2 wr) (hblk : Blk wr o 25 (cs.setIfInBounds f (.slice pv n pc))) (hoW : o < W2.heap.size) (hown : wr.ownsRow W2.heap.size 25 6 (.slice pv n pc) n xs) (hrow : RowIs wr (fun b => W2.heap.size ≤ b ∧ b < wr.heap.size ∧ ob pv ≠ some b) (l.map (madeD mk)) xs)
    (h2 : Below wr.heap.size wr w2) (hx : IsDt w2 (Rg wr.heap.size w2.heap.size) (madeD mk x) (.agg #[y0, y1, y2, y3, y4, y5])) (hX : Below w2.heap.size w2 X)
    (ho4 : w4.ownsRow W2.heap.size 25 6 (.slice (some ⟨g, 0, none⟩) (n + 1) cap) (n + 1) (xs ++ [y0, y1, y2, y3, y4, y5])) (hg : X.grownBy w4 (ob pv)) (hat : ob pv = some g ∨ g = X.heap.size) :
    RowAt mk W2 o f cs (l ++ [x]) (w4.setCell ⟨o, f, none⟩ (.slice (some ⟨g, 0, none⟩) (n + 1) cap)) := by
  have s1 := hf2.size
  have s2 := h2.size
  have s3 := hX.size
  have s4 := hg.size
  have hpv : ∀ i, ob pv = some i → W2.heap.size ≤ i ∧ i < wr.heap.size := fun i hi => hown.lt i (by rw [ob_slice]; exact hi)
  have hgo : g ≠ o := by
    rcases hat with h | h
    · have := hpv g h; omega
    · omega
  have fX : Fr (fun i => i = o) W2 X := hf2.trans ((Fr.of_bel h2 _).trans (Fr.of_bel hX _))
  have f4 : Fr (fun i => i = o) W2 w4 := fX.trans' (T := fun i => ob pv = some i) ⟨hg.os, hg.tape, hg.output, hg.size, fun i hi hs => hg.block i hi (fun e => hs e.symm)⟩ (fun i hi hlt => by have := (hpv i hi).1; omega)
  have b4 : Blk w4 o 25 (cs.setIfInBounds f (.slice pv n pc)) := (hg.block o (by omega) (fun e => by have := (hpv o e.symm).1; omega)).trans ((hX.block o (by omega)).trans ((h2.block o (by omega)).trans hblk))
  have hlen : (l ++ [x]).length = n + 1 := by simp [hn]
  refine ⟨some ⟨g, 0, none⟩, cap, xs ++ [y0, y1, y2, y3, y4, y5], f4.setCell (.inl rfl) _, ?_, ?_, ?_⟩
  · rw [hlen]
    refine (blk_set b4 f _).trans ?_
    rw [Array.setIfInBounds_setIfInBounds]
  · rw [hlen]
    exact ownsRow_setCell_other ho4 (by simpa [Value.ownBlock] using hgo) _
  · rw [List.map_append]
    have hsz : (w4.setCell ⟨o, f, none⟩ (.slice (some ⟨g, 0, none⟩) (n + 1) cap)).heap.size = w4.heap.size := by simp [World.setCell]
    have q1 : ∀ b, (W2.heap.size ≤ b ∧ b < wr.heap.size ∧ ob pv ≠ some b) → ob (some (⟨g, 0, none⟩ : Addr)) ≠ some b := fun b hb e => by
      have e2 : g = b := by simpa [ob] using e
      subst e2
      rcases hat with h | h
      · exact hb.2.2 h
      · have := hb.2.1; omega
    have q2 : ∀ b p, (W2.heap.size ≤ b ∧ b < wr.heap.size ∧ ob pv ≠ some b) → (w4.setCell ⟨o, f, none⟩ (.slice (some ⟨g, 0, none⟩) (n + 1) cap)).cell? ⟨b, p, none⟩ = wr.cell? ⟨b, p, none⟩ := fun b p hb => by
      have hb1 := hb.1
      have hb2 := hb.2.1
      rw [World.cell?_setCell_other _ _ _ _ (fun e => by cases e; omega)]
      exact (World.cell?_of_block (a := ⟨b, p, none⟩) (hg.block b (by omega) (fun e => hb.2.2 e.symm))).trans ((hX.cell (p := ⟨b, p, none⟩) (by show b < _; omega)).trans (h2.cell (p := ⟨b, p, none⟩) (by show b < _; omega)))
    have q3 : ∀ b, Rg wr.heap.size w2.heap.size b → ob (some (⟨g, 0, none⟩ : Addr)) ≠ some b := fun b hb e => by
      have e2 : g = b := by simpa [ob] using e
      subst e2
      rcases hat with h | h
      · have := (hpv g h).2; have := hb.1; omega
      · have := hb.2; omega
    have q4 : ∀ b p, Rg wr.heap.size w2.heap.size b → (w4.setCell ⟨o, f, none⟩ (.slice (some ⟨g, 0, none⟩) (n + 1) cap)).cell? ⟨b, p, none⟩ = w2.cell? ⟨b, p, none⟩ := fun b p hb => by
      have hb1 := hb.1
      have hb2 := hb.2
      rw [World.cell?_setCell_other _ _ _ _ (fun e => by cases e; omega)]
      exact (World.cell?_of_block (a := ⟨b, p, none⟩) (hg.block b (by omega) (fun e => by have := (hpv b e.symm).2; omega))).trans (hX.cell (p := ⟨b, p, none⟩) (by show b < _; omega))
    exact RowIs.snoc (RowIs.keep hrow (fun b hb => ⟨hb.1, by rw [hsz]; have := hb.2.1; omega, q1 b hb⟩) q2) (by rw [hown.1, List.length_map, hn]) (IsDt.keep (w := w2) (fun b hb => ⟨by have := hb.1; omega, by rw [hsz]; have := hb.2; omega, q3 b hb⟩) q4 _ _ hx)
/-- All have been made. -/
theorem RowAt.dts {mk : Bool} {W2 wr : World} {o f : Nat} {cs : Array Value} {l : List Dt} (h : RowAt mk W2 o f cs l wr) (hl : l.length * 104 ≤ 140737488351232) :
    ∃ a c, Blk wr o 25 (cs.setIfInBounds f (.slice a l.length c)) ∧ Fr (fun i => i = o) W2 wr ∧ IsSl a l.length c ∧ IsDts wr (Rg W2.heap.size wr.heap.size) a 0 (l.map (madeD mk)) := by
  obtain ⟨pv, pc, xs, hf, hb, ho, hr⟩ := h
  rcases ho.2 with ⟨hv, h0⟩ | ⟨g, cap, cur, hv, hbg, hc, hnc, hcm, _⟩
  · simp only [Value.slice.injEq] at hv
    obtain ⟨rfl, _, rfl⟩ := hv
    obtain rfl := List.eq_nil_of_length_eq_zero h0
    exact ⟨none, 0, hb, hf, ⟨Nat.le_refl _, by simp [maxLen], by simp, fun _ => rfl⟩, by simp only [List.map_nil, IsDts]⟩
  · simp only [Value.slice.injEq] at hv
    obtain ⟨rfl, _, rfl⟩ := hv
    have hlt : g < wr.heap.size := (Array.getElem?_eq_some_iff.1 hc).1
    have hlm : (l.map (madeD mk)).length = l.length := by simp
    refine ⟨_, pc, hb, hf, ⟨hnc, hcm, hl, fun h => by cases h⟩, ?_⟩
    exact RowIs.dts (hr.keep (Q' := Rg W2.heap.size wr.heap.size) (fun b hb => ⟨hb.1, hb.2.1⟩) (fun _ _ _ => rfl)) (by rw [hlm]; exact ho) ⟨hbg, hlt⟩
end Go.Proofs.Ytjmchodddobleaa.Da
