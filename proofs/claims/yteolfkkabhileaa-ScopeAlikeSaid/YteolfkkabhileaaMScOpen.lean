/- What comes in: acts, three numbers, three data (layer 5). -/
import Derived.Test.YteolfkkabhileaaMScOps
import Derived.Test.YteolfkkabhileaaM1
section
namespace Go.Proofs.Yteolfkkabhileaa.Sc
open Go.ChangeShapes Go.WideShapes Go.ChangeAt Go.RowKit
set_option linter.unusedVariables false
set_option linter.unusedSimpArgs false
set_option maxRecDepth 100000

section
variable {H : Type} {enc : TypeId × Value → H} {w : World} {base : Nat} {spare : Nat → Bool} {held : Bool}
theorem bytes_op : Try.prog.bytesOf 35 = 240 := by kernel_rfl
theorem cells_op : Try.prog.cellsOf 35 = 16 := by kernel_rfl
theorem sx_of {Q : Nat → Prop} {d : Da.Dt} {x0 x1 x2 x3 x4 x5 : Value} (h : Da.IsDt w Q d (.agg #[x0, x1, x2, x3, x4, x5])) : ∃ x : Sx, [x0, x1, x2, x3, x4, x5] = sixL d x ∧ Da.IsDt w Q d (.agg (sixL d x).toArray) := by
  have h' := h
  obtain ⟨am, cm, al, cl, at_, ct, hv, _⟩ := h'.open_
  injection hv with hv
  have hv := congrArg Array.toList hv
  simp only [List.cons.injEq, and_true] at hv
  obtain ⟨rfl, rfl, rfl, rfl, rfl, rfl⟩ := hv
  exact ⟨⟨am, al, at_, cm, cl, ct⟩, rfl, h⟩
/-- The cells of an act. -/
def OpD (w : World) (Q : Nat → Prop) (c : List Value) (o : Opn) : Prop :=
  ∃ x y : Sx, c = opL o x y ∧ Da.IsDt w Q o.id (.agg (sixL o.id x).toArray) ∧ Da.IsDt w Q o.nd (.agg (sixL o.nd y).toArray) ∧ (Lit.int .i64 o.n).wf = true
theorem open_op {n : Nat} {cs : List Value} {x : DataW H × List MemPlace} (h : DataW.trod enc Try.prog w base spare held n 35 cs = some x) (hw : (x.1.weights Try.prog 35).all (· ≤ reachBytes) = true) :
    ∃ o : Opn, OpD w (Da.Lo w.heap.size) cs o := by
  obtain ⟨xs, m, rfl, rfl, hl, hxl, hf⟩ := DataW.trod_struct Try.underlying35 h
  rw [cells_op] at hl
  match cs, hl with
  | [c0, c1, c2, c3, c4, c5, c6, c7, c8, c9, c10, c11, c12, c13, c14, c15], _ =>
    match xs, hxl with
    | [y0, y1, y2, y3, y4, y5], _ =>
      have f0 := hf 0 _ rfl
      have f1 := hf 1 _ rfl
      have f2 := hf 2 _ rfl
      have f3 := hf 3 _ rfl
      have f4 := hf 4 _ rfl
      have f5 := hf 5 _ rfl
      simp [Da.cells_int, Da.cells_int64, Da.cells_dat] at f0 f1 f2 f3 f4 f5
      simp only [DataW.weights, Try.underlying35, List.map_cons, List.map_nil, DataW.weightsEach, List.all_append, Bool.and_eq_true] at hw
      obtain ⟨_, _, _, hw3, hw4, _⟩ := hw
      obtain ⟨k, hk, _, wk⟩ := DataW.trod_int Try.underlying3 f0
      obtain ⟨s, hs, _, ws⟩ := DataW.trod_int Try.underlying3 f1
      obtain ⟨t, ht, _, wt⟩ := DataW.trod_int Try.underlying3 f2
      obtain ⟨d, x0, x1, x2, x3, x4, x5, he, hd⟩ := Da.open_dt _ _ _ f3 hw3
      obtain ⟨d', x0', x1', x2', x3', x4', x5', he', hd'⟩ := Da.open_dt _ _ _ f4 hw4
      obtain ⟨nn, hn, _, wn⟩ := DataW.trod_int Try.underlying2 f5
      simp only [List.cons.injEq, and_true] at hk hs ht hn he he'
      obtain ⟨rfl, rfl, rfl, rfl, rfl, rfl⟩ := he
      obtain ⟨rfl, rfl, rfl, rfl, rfl, rfl⟩ := he'
      subst hk hs ht hn
      obtain ⟨x, hx, hd1⟩ := sx_of hd
      obtain ⟨y, hy, hd2⟩ := sx_of hd'
      refine ⟨⟨k, s, t, d, d', nn⟩, x, y, ?_, hd1, hd2, wn⟩
      show _ = [_, _, _] ++ sixL d x ++ sixL d' y ++ [_]
      rw [← hx, ← hy]
      rfl
instance : Inhabited Opn := ⟨⟨0, 0, 0, default, default, 0⟩⟩
theorem open_ops {n : Nat} {cs : List Value} {x : DataW H × List MemPlace} (h : DataW.trod enc Try.prog w base spare held n 22 cs = some x) (hw : (x.1.weights Try.prog 22).all (· ≤ reachBytes) = true) :
    ∃ a cap l, cs = [.slice a l.length cap] ∧ l.length ≤ cap ∧ cap ≤ maxLen ∧ (a = none → cap = 0) ∧ IsOps w (Da.Lo w.heap.size) a l := by
  rcases DataW.trod_slice Try.underlying22 h with ⟨rfl, _⟩ | ⟨a, len, cap, elems, rest, m, rfl, rfl, rfl, _, hl, hm, hlen, hel, _, _⟩
  · exact ⟨none, 0, [], rfl, Nat.le_refl _, by simp [maxLen], fun _ => rfl, fun i o hi => by cases hi⟩
  · simp only [DataW.weights, Try.underlying22, List.all_cons, List.all_append, Bool.and_eq_true, decide_eq_true_eq, bytes_op, List.length_map] at hw
    obtain ⟨hb, hwe, _⟩ := hw
    have hspot : 0 < len → a.spot = none := by
      intro h0
      have he := hel 0 h0
      rw [List.getElem?_eq_getElem (show 0 < elems.length by omega), Option.bind_eq_some_iff] at he
      obtain ⟨cs', h1, h2⟩ := he
      obtain ⟨o, x, y, rfl, _⟩ := open_op h2 (Da.weights_of hwe _ (List.mem_map_of_mem (List.getElem_mem (show 0 < elems.length by omega))))
      obtain ⟨_, _, hc⟩ := World.cells?_some h1
      rw [cells_op] at hc
      simpa [Addr.add] using World.cell?_spot ((hc 0 (by omega)).trans rfl)
    have key : ∀ i, i < len → ∃ o : Opn, ∃ b off, a = ⟨b, off, none⟩ ∧ b < w.heap.size ∧ OpAt w (Da.Lo w.heap.size) b (off + i * 16) o := by
      intro i hi
      have he := hel i hi
      have hi' : i < elems.length := by omega
      rw [List.getElem?_eq_getElem hi', Option.bind_eq_some_iff] at he
      obtain ⟨cs', h1, h2⟩ := he
      obtain ⟨o, x, y, rfl, hx, hy, hn⟩ := open_op h2 (Da.weights_of hwe _ (List.mem_map_of_mem (List.getElem_mem hi')))
      obtain ⟨_, _, hc⟩ := World.cells?_some h1
      rw [cells_op] at hc
      obtain ⟨b, off, sp⟩ := a
      obtain rfl : sp = none := hspot (by omega)
      have c : ∀ j v, j < 16 → (opL o x y)[j]? = some v → w.cell? ⟨b, off + i * 16 + j, none⟩ = some v := fun j v hj hv => by
        have := hc j hj
        rw [hv, Ld.add_at, Ld.add_at] at this
        exact this
      exact ⟨o, b, off, rfl, Da.in_heap (c 0 _ (by omega) rfl), x, y, fun j v hv => c j v (by
        rcases Nat.lt_or_ge j 16 with h1 | h1
        · exact h1
        · rw [List.getElem?_eq_none (by rw [opL_len]; exact h1)] at hv; cases hv) hv, hx, hy, hn⟩
    obtain ⟨f, hf⟩ : ∃ f : Nat → Opn, ∀ i, i < len → ∃ b off, a = ⟨b, off, none⟩ ∧ b < w.heap.size ∧ OpAt w (Da.Lo w.heap.size) b (off + i * 16) (f i) := by
      classical
      refine ⟨fun i => if hi : i < len then Classical.choose (key i hi) else default, fun i hi => ?_⟩
      simp only [dif_pos hi]
      exact Classical.choose_spec (key i hi)
    have hll : ((List.range len).map f).length = len := by simp
    refine ⟨some a, cap, (List.range len).map f, by rw [hll], by rw [hll]; exact hl, hm, (fun h => by cases h), fun i o hi => ?_⟩
    simp only [List.getElem?_map, Option.map_eq_some_iff] at hi
    obtain ⟨k', hk, rfl⟩ := hi
    obtain ⟨hk1, hk2⟩ := List.getElem?_eq_some_iff.1 hk
    rw [List.getElem_range] at hk2
    subst hk2
    rw [List.length_range] at hk1
    obtain ⟨b, off, rfl, h2, h3⟩ := hf i hk1
    exact ⟨b, off, rfl, h2, h3⟩
theorem okWide_arr {P : Program} {r : Reach} {b0 n : Nat} {t e : TypeId} {v : Value} (ht : P.underlying t = some (.array n e)) (h : Value.okWide P w r b0 t v) : ∃ cs, v = .agg cs ∧ cs.size = P.cellsOf t := by
  simp only [Value.okWide, ht] at h
  obtain ⟨cs, h1, h2, _⟩ := h
  exact ⟨cs, h1, h2⟩
theorem cells_at : Try.prog.cellsOf 65 = 3 := by kernel_rfl
theorem cells_id3 : Try.prog.cellsOf 66 = 18 := by kernel_rfl
/-- Three numbers that come in. -/
theorem open_at3 {r : Reach} {b0 : Nat} {v : Value} {x : DataW H} {p : List MemPlace} (hv : Value.okWide Try.prog w r b0 65 v) (h : DataW.Trod enc Try.prog w base spare held 65 v x p) :
    ∃ i j k : Int, v = .agg #[.int .i64 i, .int .i64 j, .int .i64 k] := by
  obtain ⟨cs, rfl, hc⟩ := okWide_arr Try.underlying65 hv
  rw [cells_at] at hc
  obtain ⟨fuel, hf⟩ := h
  obtain ⟨xs, m, _, _, hl, hn, hel⟩ := DataW.trod_array Try.underlying65 hf
  have hcl : (Value.agg cs).cells.toList = cs.toList := rfl
  rw [hcl] at hel
  obtain ⟨c0, c1, c2, hcs⟩ : ∃ c0 c1 c2, cs = #[c0, c1, c2] := ⟨cs[0], cs[1], cs[2], by
    apply Array.ext (by simpa using hc)
    intro i h1 h2
    have : i = 0 ∨ i = 1 ∨ i = 2 := by simp at h2; omega
    rcases this with rfl | rfl | rfl <;> rfl⟩
  subst hcs
  have e0 := hel 0 (by decide)
  have e1 := hel 1 (by decide)
  have e2 := hel 2 (by decide)
  rw [Da.cells_int] at e0 e1 e2
  rw [List.getElem?_eq_getElem (by rw [hn]; decide)] at e0 e1 e2
  obtain ⟨i, hi, _⟩ := DataW.trod_int Try.underlying3 e0
  obtain ⟨j, hj, _⟩ := DataW.trod_int Try.underlying3 e1
  obtain ⟨k, hk, _⟩ := DataW.trod_int Try.underlying3 e2
  simp at hi hj hk
  exact ⟨i, j, k, by rw [hi, hj, hk]⟩
/-- Three data that come in. -/
theorem open_id3 {r : Reach} {b0 : Nat} {v : Value} {x : DataW H} {p : List MemPlace} (hv : Value.okWide Try.prog w r b0 66 v) (h : DataW.Trod enc Try.prog w base spare held 66 v x p) (hw : (x.weights Try.prog 66).all (· ≤ reachBytes) = true) :
    ∃ (d0 d1 d2 : Da.Dt) (x0 x1 x2 : Sx), v = .agg (sixL d0 x0 ++ sixL d1 x1 ++ sixL d2 x2).toArray ∧ Da.IsDt w (Da.Lo w.heap.size) d0 (.agg (sixL d0 x0).toArray) ∧ Da.IsDt w (Da.Lo w.heap.size) d1 (.agg (sixL d1 x1).toArray) ∧ Da.IsDt w (Da.Lo w.heap.size) d2 (.agg (sixL d2 x2).toArray) := by
  obtain ⟨cs, rfl, hc⟩ := okWide_arr Try.underlying66 hv
  rw [cells_id3] at hc
  obtain ⟨fuel, hf⟩ := h
  obtain ⟨xs, m, _, hx, hl, hn, hel⟩ := DataW.trod_array Try.underlying66 hf
  have hcl : (Value.agg cs).cells.toList = cs.toList := rfl
  rw [hcl] at hel
  rw [Da.cells_dat] at hel
  have hxd : x = .agg (xs.map (·.1)) := by have := congrArg Prod.fst hx; exact this
  subst hxd
  simp only [DataW.weights, Try.underlying66] at hw
  have key : ∀ i (hi : i < 3), ∃ (d : Da.Dt) (y : Sx), (cs.toList.drop (i * 6)).take 6 = sixL d y ∧ Da.IsDt w (Da.Lo w.heap.size) d (.agg (sixL d y).toArray) := fun i hi => by
    have he := hel i hi
    rw [List.getElem?_eq_getElem (by omega)] at he
    obtain ⟨d, x0, x1, x2, x3, x4, x5, h1, h2⟩ := Da.open_dt _ _ _ he (Da.weights_of hw _ (List.mem_map_of_mem (List.getElem_mem (by omega))))
    obtain ⟨y, h3, h4⟩ := sx_of h2
    exact ⟨d, y, by rw [h1, h3], h4⟩
  obtain ⟨d0, x0, g0, k0⟩ := key 0 (by decide)
  obtain ⟨d1, x1, g1, k1⟩ := key 1 (by decide)
  obtain ⟨d2, x2, g2, k2⟩ := key 2 (by decide)
  refine ⟨d0, d1, d2, x0, x1, x2, ?_, k0, k1, k2⟩
  have hcs : cs.toList = sixL d0 x0 ++ sixL d1 x1 ++ sixL d2 x2 := by
    rw [← g0, ← g1, ← g2]
    have hlen : cs.toList.length = 18 := by simpa using hc
    simp only [Nat.zero_mul, Nat.one_mul, List.drop_zero, Nat.reduceMul]
    have e1 : cs.toList.take 6 ++ (cs.toList.drop 6).take 6 = cs.toList.take 12 := by rw [← List.take_add]
    rw [e1, ← List.take_add, List.take_of_length_le (by omega)]
  rw [← hcs]
end
end Go.Proofs.Yteolfkkabhileaa.Sc
end
