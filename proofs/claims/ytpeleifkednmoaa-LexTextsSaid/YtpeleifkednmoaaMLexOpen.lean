/- What comes in: a slice of words; whether its strings are short (layer 3). -/
import Derived.Test.YtpeleifkednmoaaMLexJoin
import Derived.Test.YtpeleifkednmoaaM3
section
namespace Go.Proofs.Ytpeleifkednmoaa.Lx
open Go.ChangeShapes Go.WideShapes Go.ChangeAt Go.RowKit
set_option linter.unusedVariables false
set_option linter.unusedSimpArgs false
set_option maxRecDepth 100000

section
variable {H : Type} {enc : TypeId × Value → H} {w : World} {base : Nat} {spare : Nat → Bool} {held : Bool}
theorem bytes_tok : Try.prog.bytesOf 26 = 48 := by kernel_rfl
theorem cells_tok : Try.prog.cellsOf 26 = 5 := by kernel_rfl
/-- A word that came in. -/
structure TkA (t : Tk) : Prop where
  k : (Lit.int .i64 t.k).wf = true
  a : (Lit.int .i64 t.a).wf = true
  z : (Lit.int .i64 t.z).wf = true
  n : (Lit.int .i64 t.n).wf = true
  S : t.S.length ≤ maxLen
theorem open_tok {n : Nat} {cs : List Value} {x : DataW H × List MemPlace} (h : DataW.trod enc Try.prog w base spare held n 26 cs = some x) : ∃ t : Tk, cs = t.cells ∧ TkA t := by
  obtain ⟨xs, m, rfl, rfl, hl, hxl, hf⟩ := DataW.trod_struct Try.underlying26 h
  rw [cells_tok] at hl
  match cs, hl with
  | [x0, x1, x2, x3, x4], _ =>
    match xs, hxl with
    | [y0, y1, y2, y3, y4], _ =>
      have f0 := hf 0 _ rfl
      have f1 := hf 1 _ rfl
      have f2 := hf 2 _ rfl
      have f3 := hf 3 _ rfl
      have f4 := hf 4 _ rfl
      simp [Da.cells_int, Da.cells_int64, Da.cells_string] at f0 f1 f2 f3 f4
      obtain ⟨k, hk, _, wk⟩ := DataW.trod_int Try.underlying3 f0
      obtain ⟨a, ha, _, wa⟩ := DataW.trod_int Try.underlying3 f1
      obtain ⟨z, hz, _, wz⟩ := DataW.trod_int Try.underlying3 f2
      obtain ⟨nn, hn, _, wn⟩ := DataW.trod_int Try.underlying2 f3
      obtain ⟨s, hs, _, ws⟩ := DataW.trod_string Try.underlying9 f4
      simp only [List.cons.injEq, and_true] at hk ha hz hn hs
      subst hk ha hz hn hs
      refine ⟨⟨k, a, z, nn, s.data.toList⟩, ?_, wk, wa, wz, wn, ?_⟩
      · show _ = [_, _, _, _, Value.string ⟨s.data.toList.toArray⟩]
        rw [Array.toArray_toList]
      · rw [len_of]; exact ws
instance : Inhabited Tk := ⟨⟨0, 0, 0, 0, []⟩⟩
theorem open_toks {n : Nat} {cs : List Value} {x : DataW H × List MemPlace} (h : DataW.trod enc Try.prog w base spare held n 22 cs = some x) (hw : (x.1.weights Try.prog 22).all (· ≤ reachBytes) = true) :
    ∃ a cap l, cs = [.slice a l.length cap] ∧ l.length ≤ cap ∧ l.length ≤ 140737488351232 ∧ TkIs w a l ∧ ∀ t ∈ l, TkA t := by
  rcases DataW.trod_slice Try.underlying22 h with ⟨rfl, _⟩ | ⟨a, len, cap, elems, rest, m, rfl, rfl, rfl, _, hl, hm, hlen, hel, _, _⟩
  · exact ⟨none, 0, [], rfl, Nat.le_refl _, by simp, .inl rfl, by simp⟩
  · simp only [DataW.weights, Try.underlying22, List.all_cons, List.all_append, Bool.and_eq_true, decide_eq_true_eq, bytes_tok, List.length_map] at hw
    obtain ⟨hb, hwe, _⟩ := hw
    simp only [reachBytes] at hb
    have hspot : 0 < len → a.spot = none := by
      intro h0
      have he := hel 0 h0
      rw [List.getElem?_eq_getElem (show 0 < elems.length by omega), Option.bind_eq_some_iff] at he
      obtain ⟨cs', h1, h2⟩ := he
      obtain ⟨t, rfl, _⟩ := open_tok h2
      obtain ⟨_, _, hc⟩ := World.cells?_some h1
      rw [cells_tok] at hc
      simpa [Addr.add] using World.cell?_spot ((hc 0 (by omega)).trans rfl)
    have key : ∀ i, i < len → ∃ t : Tk, (∃ b off, a = ⟨b, off, none⟩ ∧ (∀ j v, j < 5 → t.cells[j]? = some v → w.cell? ⟨b, off + i * 5 + j, none⟩ = some v)) ∧ TkA t := by
      intro i hi
      have he := hel i hi
      have hi' : i < elems.length := by omega
      rw [List.getElem?_eq_getElem hi', Option.bind_eq_some_iff] at he
      obtain ⟨cs', h1, h2⟩ := he
      obtain ⟨t, rfl, ht⟩ := open_tok h2
      obtain ⟨_, _, hc⟩ := World.cells?_some h1
      rw [cells_tok] at hc
      obtain ⟨b, off, sp⟩ := a
      obtain rfl : sp = none := hspot (by omega)
      exact ⟨t, ⟨b, off, rfl, fun j v hj hv => by
        have := hc j hj
        rw [hv, add_plain, add_plain] at this
        exact this⟩, ht⟩
    obtain ⟨f, hf⟩ : ∃ f : Nat → Tk, ∀ i, i < len → (∃ b off, a = ⟨b, off, none⟩ ∧ (∀ j v, j < 5 → (f i).cells[j]? = some v → w.cell? ⟨b, off + i * 5 + j, none⟩ = some v)) ∧ TkA (f i) := by
      classical
      refine ⟨fun i => if hi : i < len then Classical.choose (key i hi) else default, fun i hi => ?_⟩
      simp only [dif_pos hi]
      exact Classical.choose_spec (key i hi)
    have hll : ((List.range len).map f).length = len := by simp
    refine ⟨some a, cap, (List.range len).map f, by rw [hll], by rw [hll]; exact hl, by rw [hll]; omega, ?_, ?_⟩
    · rcases Nat.eq_zero_or_pos len with h0 | h0
      · subst h0; exact .inl rfl
      · obtain ⟨⟨b, off, rfl, _⟩, _⟩ := hf 0 h0
        refine .inr ⟨b, off, rfl, fun i hi => ?_⟩
        rw [hll] at hi
        obtain ⟨⟨b', off', hab, hc⟩, _⟩ := hf i hi
        cases hab
        have hfi : ((List.range len).map f)[i]'(by rw [hll]; exact hi) = f i := by simp
        rw [hfi]
        exact ⟨hc 0 _ (by omega) rfl, hc 1 _ (by omega) rfl, hc 2 _ (by omega) rfl, hc 3 _ (by omega) rfl, hc 4 _ (by omega) rfl⟩
    · intro t ht
      obtain ⟨i, hi, rfl⟩ := List.mem_map.1 ht
      exact (hf i (List.mem_range.1 hi)).2
end
/-- Short strings only. -/
def shortB (l : List Tk) : Bool := !decide ((l.length : Int) > 4101) && l.all (fun t => !decide ((t.S.length : Int) > 5000))
def ShortAt (l : List Tk) (w : World) (i : Value) (wr : World) : Prop := ∃ k : Nat, k ≤ l.length ∧ i = .int .i64 (k : Int) ∧ (l.take k).all (fun t => !decide ((t.S.length : Int) > 5000)) = true ∧ Below w.heap.size w wr
set_option maxHeartbeats 4000000 in
theorem short_any (l : List Tk) (a : Option Addr) (c : Nat) (w : World) (ha : TkIs w a l) (hl : l.length ≤ 140737488351232) (b : Bool) (hb : Hid (shortB l = b)) :
    Calls Try.prog 6 #[.slice a l.length c] w fun e w' => e = .returned (.bool b) ∧ Below w.heap.size w w' := by
  by_cases hlong : (l.length : Int) > 4101
  · have d0 : decide ((l.length : Int) > 4101) = true := by simpa using hlong
    have hx : b = false := by rw [← hb.out]; unfold shortB; rw [d0]; rfl
    subst hx
    clear hlong
    go_enter Try.func6, Try.ntmps6
    go_wp2_with fail
    go_ret
    exact ⟨rfl, Below.refl _ _⟩
  · have d0 : decide ((l.length : Int) > 4101) = false := by simpa using hlong
    have hx : l.all (fun t => !decide ((t.S.length : Int) > 5000)) = b := by rw [← hb.out]; unfold shortB; rw [d0]; rfl
    have HX := Lib.hid hx
    have HA := Lib.hid ha
    clear hx hb hlong ha
    go_enter Try.func6, Try.ntmps6
    go_wp2_with fail
    go_loopw [10] (fun i wr => ShortAt l w i wr) (fun i _ => l.length - (intOf i).toNat)
    case atStart => exact ⟨0, Nat.zero_le _, rfl, rfl, Below.refl _ _⟩
    case round =>
      obtain ⟨k, hk, rfl, hok, hbel⟩ := hrel
      have Hok := Lib.hid hok
      have Hbel := Lib.hid hbel
      have hsz := hbel.size
      clear hok hbel
      by_cases hlt : k < l.length
      · have dl : decide ((k : Int) < (l.length : Int)) = true := by simp [hlt]
        have i1 : (k : Int) < (l.length : Int) := by omega
        have hne : l ≠ [] := fun e => by rw [e] at hlt; exact absurd hlt (by simp)
        rcases (HA.out.bel Hbel.out) with h | ⟨g, o, rfl, hc⟩
        · exact absurd h hne
        obtain ⟨c0, c1, c2, c3, c4⟩ := hc k hlt
        have hnx : (l.take (k + 1)).all (fun t => !decide ((t.S.length : Int) > 5000)) = !decide ((l[k].S.length : Int) > 5000) := by
          rw [take_tk hlt, List.all_append, Hok.out]; simp
        have hno : decide ((l[k].S.length : Int) > 5000) = true → b = false := fun h => by
          rw [← HX.out]
          exact List.all_eq_false.2 ⟨l[k], List.getElem_mem hlt, by rw [h]; simp⟩
        clear hc hne
        obtain ⟨t, htk⟩ : ∃ t, l[k] = t := ⟨_, rfl⟩
        rw [htk] at c0 c1 c2 c3 c4 hnx hno
        obtain ⟨X, hX⟩ : ∃ X, (⟨t.S.toArray⟩ : ByteArray) = X := ⟨_, rfl⟩
        have hXs : X.size = t.S.length := by rw [← hX]; exact List.size_toArray
        rw [hX] at c4
        rw [← hXs] at hnx hno
        clear htk hX hXs
        cases hd : decide ((X.size : Int) > 5000)
        · rw [hd] at hnx
          have HN := Lib.hid hnx
          clear hnx hno
          go_wp2_with fail
          go_roundw
          case rel => exact ⟨k + 1, hlt, by go_num, HN.out, Hbel.out.alloc hsz _⟩
          case measure => simp [intOf]; omega
        · obtain rfl := hno hd
          clear hnx hno
          go_wp2_with fail
          go_ret
          exact ⟨rfl, Hbel.out.alloc hsz _⟩
      · have dl : decide ((k : Int) < (l.length : Int)) = false := by simp [hlt]
        have hx : b = true := by rw [← HX.out, ← Hok.out, List.take_of_length_le (by omega)]
        subst hx
        go_wp2_with fail
        go_ret
        exact ⟨rfl, Hbel.out⟩
theorem short_len {l : List Tk} (h : shortB l = true) : l.length ≤ 4101 ∧ ∀ t ∈ l, t.S.length ≤ 5000 := by
  unfold shortB at h
  simp only [Bool.and_eq_true, Bool.not_eq_true', decide_eq_false_iff_not, List.all_eq_true] at h
  exact ⟨by omega, fun t ht => by have := h.2 t ht; omega⟩
theorem short_w {l : List Tk} (h : shortB l = true) (ha : ∀ t ∈ l, TkA t) : ∀ t ∈ l, TkW t := fun t ht => ⟨(ha t ht).n, by have := (short_len h).2 t ht; omega⟩
end Go.Proofs.Ytpeleifkednmoaa.Lx
end
