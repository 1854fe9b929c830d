/- What comes in: a datum's value reads as a tree. -/
import Derived.Test.YteddfdhbpgbloaaDatText
import Derived.Test.YteddfdhbpgbloaaDatRead
import Derived.ChangeSlices
import Derived.SizedLaws
namespace Go.Proofs.Yteddfdhbpgbloaa.Da
open Go.ChangeShapes Go.WideShapes Go.ChangeAt Go.RowKit
set_option maxRecDepth 100000

section
variable {H : Type} {enc : TypeId × Value → H} {w : World} {base : Nat} {spare : Nat → Bool} {held : Bool}

theorem in_heap {w : World} {a : Addr} {v : Value} (h : w.cell? a = some v) : a.block < w.heap.size := by
  rcases Nat.lt_or_ge a.block w.heap.size with h' | h'
  · exact h'
  · simp [World.cell?, Array.getElem?_eq_none h'] at h
theorem weights_of {P : Program} {e : TypeId} {p : Nat → Bool} : ∀ {l : List (DataW H)}, (DataW.weightsAll P e l).all p = true → ∀ d ∈ l, (d.weights P e).all p = true
  | x :: r, h, d, hd => by
    simp only [DataW.weightsAll, List.all_append, Bool.and_eq_true] at h
    rcases List.mem_cons.1 hd with rfl | hd
    · exact h.1
    · exact weights_of h.2 d hd
theorem bytes_int : Try.prog.bytesOf 3 = 8 := by kernel_rfl
theorem bytes_dat : Try.prog.bytesOf 25 = 104 := by kernel_rfl
theorem cells_dat : Try.prog.cellsOf 25 = 6 := by kernel_rfl
theorem cells_int : Try.prog.cellsOf 3 = 1 := by kernel_rfl
theorem cells_int64 : Try.prog.cellsOf 2 = 1 := by kernel_rfl
theorem cells_string : Try.prog.cellsOf 9 = 1 := by kernel_rfl
theorem cells_ints : Try.prog.cellsOf 22 = 1 := by kernel_rfl
theorem cells_data : Try.prog.cellsOf 23 = 1 := by kernel_rfl

theorem open_marks {n : Nat} {cs : List Value} {x : DataW H × List MemPlace} (h : DataW.trod enc Try.prog w base spare held n 22 cs = some x) (hw : (x.1.weights Try.prog 22).all (· ≤ reachBytes) = true) :
    ∃ a cap m, cs = [.slice a m.length cap] ∧ IntRow w (Lo w.heap.size) a m.length cap m := by
  rcases open_ints Try.underlying22 Try.underlying3 cells_int h with ⟨rfl, _⟩ | ⟨a, len, cap, zs, rfl, _, hl, hm, hz, rfl, hcell, hwz⟩
  · exact ⟨none, 0, [], rfl, rfl, Nat.le_refl _, by simp [maxLen], by simp, fun _ => rfl, by simp, fun k hk => absurd hk (Nat.not_lt_zero _)⟩
  · have hlen : len ≤ zs.length := by rw [hz]; split <;> omega
    have hb : zs.length * 8 ≤ 140737488351232 := by
      simp only [DataW.weights, Try.underlying22, List.all_cons, Bool.and_eq_true, decide_eq_true_eq, bytes_int] at hw
      have h1 := hw.1
      simp only [lits, List.length_map, List.length_take, List.length_drop, reachBytes] at h1
      omega
    have ht : (zs.take len).length = len := by rw [List.length_take]; omega
    refine ⟨some a, cap, zs.take len, by rw [ht], rfl, by rw [ht]; exact hl, hm, by rw [ht]; omega, (fun h => by cases h), fun z hz => hwz z (List.mem_of_mem_take hz), fun k hk => ?_⟩
    rw [ht] at hk
    have hc := hcell k (by omega)
    obtain ⟨b, off, sp⟩ := a
    have h0 := hcell 0 (by omega)
    have hsp : sp = none := by simpa [Addr.add] using World.cell?_spot h0
    subst hsp
    rw [add_plain] at hc
    exact ⟨b, off, rfl, in_heap hc, by rw [hc]; simp [List.getD, hk]⟩

instance : Inhabited Dt := ⟨.mk 0 0 ⟨#[]⟩ [] [] []⟩
def OpenAt (enc : TypeId × Value → H) (w : World) (base : Nat) (spare : Nat → Bool) (held : Bool) (n : Nat) : Prop :=
  ∀ (cs : List Value) (x : DataW H × List MemPlace), DataW.trod enc Try.prog w base spare held n 25 cs = some x → (x.1.weights Try.prog 25).all (· ≤ reachBytes) = true →
    ∃ d x0 x1 x2 x3 x4 x5, cs = [x0, x1, x2, x3, x4, x5] ∧ IsDt w (Lo w.heap.size) d (.agg #[x0, x1, x2, x3, x4, x5])
theorem open_data {n : Nat} (ih : ∀ m, m < n → OpenAt enc w base spare held m) {cs : List Value} {x : DataW H × List MemPlace} (h : DataW.trod enc Try.prog w base spare held n 23 cs = some x) (hw : (x.1.weights Try.prog 23).all (· ≤ reachBytes) = true) :
    ∃ a cap l, cs = [.slice a l.length cap] ∧ IsSl a l.length cap ∧ IsDts w (Lo w.heap.size) a 0 l := by
  rcases DataW.trod_slice Try.underlying23 h with ⟨rfl, _⟩ | ⟨a, len, cap, elems, rest, m, rfl, rfl, rfl, _, hl, hm, hlen, hel, _, _⟩
  · exact ⟨none, 0, [], rfl, ⟨Nat.le_refl _, by simp [maxLen], by simp, fun _ => rfl⟩, by simp only [IsDts]⟩
  · simp only [DataW.weights, Try.underlying23, List.all_cons, List.all_append, Bool.and_eq_true, decide_eq_true_eq, bytes_dat, List.length_map] at hw
    obtain ⟨hb, hwe, _⟩ := hw
    simp only [reachBytes] at hb
    have hspot : 0 < len → a.spot = none := by
      intro h0
      have he := hel 0 h0
      rw [List.getElem?_eq_getElem (show 0 < elems.length by omega), Option.bind_eq_some_iff] at he
      obtain ⟨cs', h1, h2⟩ := he
      obtain ⟨d, x0, x1, x2, x3, x4, x5, rfl, hd⟩ := ih m (by omega) cs' _ h2 (weights_of hwe _ (List.mem_map_of_mem (List.getElem_mem (show 0 < elems.length by omega))))
      obtain ⟨_, _, hc⟩ := World.cells?_some h1
      rw [cells_dat] at hc
      simpa [Addr.add] using World.cell?_spot ((hc 0 (by omega)).trans rfl)
    have key : ∀ i, i < len → ∃ d, ∃ x0 x1 x2 x3 x4 x5, (∃ b off, a = ⟨b, off, none⟩ ∧ b < w.heap.size ∧ Six w b (off + i * 6) x0 x1 x2 x3 x4 x5) ∧ IsDt w (Lo w.heap.size) d (.agg #[x0, x1, x2, x3, x4, x5]) := by
      intro i hi
      have he := hel i hi
      have hi' : i < elems.length := by omega
      rw [List.getElem?_eq_getElem hi', Option.bind_eq_some_iff] at he
      obtain ⟨cs', h1, h2⟩ := he
      obtain ⟨d, x0, x1, x2, x3, x4, x5, rfl, hd⟩ := ih m (by omega) cs' _ h2 (weights_of hwe _ (List.mem_map_of_mem (List.getElem_mem hi')))
      obtain ⟨_, _, hc⟩ := World.cells?_some h1
      rw [cells_dat] at hc
      obtain ⟨b, off, sp⟩ := a
      obtain rfl : sp = none := hspot (by omega)
      have c : ∀ j v, j < 6 → [x0, x1, x2, x3, x4, x5][j]? = some v → w.cell? ⟨b, off + i * 6 + j, none⟩ = some v := fun j v hj hv => by
        have := hc j hj
        rw [hv, add_plain, add_plain] at this
        exact this
      exact ⟨d, x0, x1, x2, x3, x4, x5, ⟨b, off, rfl, in_heap (c 0 x0 (by omega) rfl), c 0 _ (by omega) rfl, c 1 _ (by omega) rfl, c 2 _ (by omega) rfl, c 3 _ (by omega) rfl, c 4 _ (by omega) rfl, c 5 _ (by omega) rfl⟩, hd⟩
    obtain ⟨f, hf⟩ : ∃ f : Nat → Dt, ∀ i, i < len → ∃ x0 x1 x2 x3 x4 x5, (∃ b off, a = ⟨b, off, none⟩ ∧ b < w.heap.size ∧ Six w b (off + i * 6) x0 x1 x2 x3 x4 x5) ∧ IsDt w (Lo w.heap.size) (f i) (.agg #[x0, x1, x2, x3, x4, x5]) := by
      classical
      refine ⟨fun i => if hi : i < len then Classical.choose (key i hi) else default, fun i hi => ?_⟩
      simp only [dif_pos hi]
      exact Classical.choose_spec (key i hi)
    have hll : ((List.range len).map f).length = len := by simp
    refine ⟨some a, cap, (List.range len).map f, by rw [hll], by rw [hll]; exact ⟨hl, hm, by omega, fun h => by cases h⟩, IsDts.of_at (fun k d hd => ?_)⟩
    simp only [List.getElem?_map, Option.map_eq_some_iff] at hd
    obtain ⟨k', hk, rfl⟩ := hd
    obtain ⟨hk1, hk2⟩ := List.getElem?_eq_some_iff.1 hk
    rw [List.getElem_range] at hk2
    subst hk2
    rw [List.length_range] at hk1
    obtain ⟨x0, x1, x2, x3, x4, x5, ⟨b, off, rfl, hb', hs⟩, hi⟩ := hf k hk1
    exact ⟨b, off, x0, x1, x2, x3, x4, x5, rfl, hb', by rw [Nat.zero_add]; exact hs, hi⟩
set_option linter.unusedSimpArgs false in
theorem open_dt : ∀ n, OpenAt enc w base spare held n := by
  intro n
  induction n using Nat.strongRecOn with
  | ind n ih =>
    intro cs x h hw
    obtain ⟨xs, m, rfl, rfl, hl, hxl, hf⟩ := DataW.trod_struct Try.underlying25 h
    rw [cells_dat] at hl
    match cs, hl with
    | [x0, x1, x2, x3, x4, x5], _ =>
      match xs, hxl with
      | [y0, y1, y2, y3, y4, y5], _ =>
        have f0 := hf 0 _ rfl
        have f1 := hf 1 _ rfl
        have f2 := hf 2 _ rfl
        have f3 := hf 3 _ rfl
        have f4 := hf 4 _ rfl
        have f5 := hf 5 _ rfl
        simp [cells_int, cells_int64, cells_string, cells_ints, cells_data] at f0 f1 f2 f3 f4 f5
        simp only [DataW.weights, Try.underlying25, List.map_cons, List.map_nil, DataW.weightsEach, List.all_append, Bool.and_eq_true] at hw
        obtain ⟨_, _, _, hw3, hw4, hw5, _⟩ := hw
        obtain ⟨k, hk, _, wk⟩ := DataW.trod_int Try.underlying3 f0
        obtain ⟨nn, hn, _, wn⟩ := DataW.trod_int Try.underlying2 f1
        obtain ⟨s, hs, _, ws⟩ := DataW.trod_string Try.underlying9 f2
        obtain ⟨am, cm, ms, hm, wm⟩ := open_marks f3 hw3
        obtain ⟨al, cl, l, hl', sl, dl⟩ := open_data (fun j hj => ih j (by omega)) f4 hw4
        obtain ⟨at_, ct, t, ht', st, dt⟩ := open_data (fun j hj => ih j (by omega)) f5 hw5
        simp only [List.cons.injEq, and_true] at hk hn hs hm hl' ht'
        subst hk hn hs hm hl' ht'
        refine ⟨.mk k nn s ms l t, _, _, _, _, _, _, rfl, ?_⟩
        simp only [IsDt]
        exact ⟨wk, wn, ws, am, cm, al, cl, at_, ct, rfl, wm, sl, dl, st, dt⟩
/-- A datum that comes in by value. -/
theorem open_one {r : Reach} {b0 : Nat} {v : Value} {x : DataW H} {p : List MemPlace} (hv : Value.okWide Try.prog w r b0 25 v) (h : DataW.Trod enc Try.prog w base spare held 25 v x p) (hw : (x.weights Try.prog 25).all (· ≤ reachBytes) = true) :
    ∃ z, IsDt w (Lo w.heap.size) z v := by
  obtain ⟨cs, rfl, _⟩ := okWide_struct Try.underlying25 hv
  obtain ⟨fuel, hf⟩ := h
  obtain ⟨d, x0, x1, x2, x3, x4, x5, hcs, hd⟩ := open_dt fuel _ _ hf hw
  have hcs' : cs.toList = [x0, x1, x2, x3, x4, x5] := hcs
  obtain rfl : cs = #[x0, x1, x2, x3, x4, x5] := by rw [← Array.toArray_toList (xs := cs), hcs']
  exact ⟨d, hd⟩
end
end Go.Proofs.Yteddfdhbpgbloaa.Da
