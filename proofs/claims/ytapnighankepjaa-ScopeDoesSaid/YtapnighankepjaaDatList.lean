/- The list of some data: what the program returns. -/
import Derived.Test.YtapnighankepjaaDatCdr
import Derived.Laws.MakeOwn
import Derived.Deep.RegionHeld3
namespace Go.Proofs.Ytapnighankepjaa.Da
open Go.ChangeShapes Go.WideShapes Go.ChangeAt Go.RowKit

def listD (l : List Dt) : Dt := .mk 6 0 ⟨#[]⟩ [] l []
/-- Between two rounds: k elements are copied into the new row. -/
structure ListIn (W1 : World) (Q : Nat → Prop) (l : List Dt) (g k : Nat) (wr : World) : Prop where
  fr : Fr (fun i => i = g) W1 wr
  fz : ∀ j, wr.frozen? ⟨g, j, none⟩ = false
  there : ∀ j, j < l.length * 6 → ∃ u, wr.cell? ⟨g, j, none⟩ = some u
  done : ∀ j d, j < k → l[j]? = some d → ∃ x0 x1 x2 x3 x4 x5, Six wr g (j * 6) x0 x1 x2 x3 x4 x5 ∧ IsDt wr (fun b => Q b ∨ (g < b ∧ b < wr.heap.size)) d (.agg #[x0, x1, x2, x3, x4, x5])
theorem list_step {W1 wr X w2 : World} {Q : Nat → Prop} {l : List Dt} {g k : Nat} {d : Dt} {y0 y1 y2 y3 y4 y5 : Value} (hQ : ∀ b, Q b → b < g) (hgs : g < W1.heap.size) (hd : l[k]? = some d) (h : ListIn W1 Q l g k wr) (hX : Below wr.heap.size wr X) (hf : Below X.heap.size X w2)
    (hi : IsDt w2 (Nw X w2 Q) d (.agg #[y0, y1, y2, y3, y4, y5])) : ListIn W1 Q l g (k + 1) (set6 w2 g (k * 6) y0 y1 y2 y3 y4 y5) := by
  have hk : k < l.length := (List.getElem?_eq_some_iff.1 hd).1
  have hgr : g < wr.heap.size := Nat.lt_of_lt_of_le hgs h.fr.size
  have q1 : ∀ g' o', (g' ≠ g ∨ o' < k * 6 ∨ k * 6 + 6 ≤ o') → (set6 w2 g (k * 6) y0 y1 y2 y3 y4 y5).cell? ⟨g', o', none⟩ = w2.cell? ⟨g', o', none⟩ := fun g' o' h => set6_ne _ _ _ _ _ _ _ _ _ _ _ h
  have q2 := set6_six w2 g (k * 6) y0 y1 y2 y3 y4 y5
  have q3 := set6_frozen w2 g (k * 6) y0 y1 y2 y3 y4 y5
  have q4 := set6_fr w2 g (k * 6) y0 y1 y2 y3 y4 y5
  have s6 := set6_size w2 g (k * 6) y0 y1 y2 y3 y4 y5
  generalize set6 w2 g (k * 6) y0 y1 y2 y3 y4 y5 = W6 at *
  have hsX := hX.size
  have hs2 := hf.size
  have hw : Below wr.heap.size wr w2 := hX.trans (hf.mono hsX)
  have cg : ∀ j, w2.cell? ⟨g, j, none⟩ = wr.cell? ⟨g, j, none⟩ := fun j => hw.cell (p := ⟨g, j, none⟩) hgr
  have six : Six W6 g (k * 6) y0 y1 y2 y3 y4 y5 := q2 fun r hr => by
    obtain ⟨u, hu⟩ := h.there (k * 6 + r) (by omega)
    exact ⟨u, by rw [cg, hu]⟩
  refine ⟨(h.fr.trans (Fr.of_bel hw _)).trans q4, fun j => by rw [q3, hw.frozen (p := ⟨g, j, none⟩) hgr]; exact h.fz j, fun j hj => ?_, fun j d' hj hd' => ?_⟩
  · by_cases hin : k * 6 ≤ j ∧ j < k * 6 + 6
    · obtain ⟨r, rfl⟩ : ∃ r, j = k * 6 + r := ⟨j - k * 6, by omega⟩
      obtain ⟨c0, c1, c2, c3, c4, c5⟩ := six
      have hr : r < 6 := by omega
      match r, hr with
      | 0, _ => exact ⟨_, c0⟩
      | 1, _ => exact ⟨_, c1⟩
      | 2, _ => exact ⟨_, c2⟩
      | 3, _ => exact ⟨_, c3⟩
      | 4, _ => exact ⟨_, c4⟩
      | 5, _ => exact ⟨_, c5⟩
    · obtain ⟨u, hu⟩ := h.there j hj
      exact ⟨u, by rw [q1 _ _ (by omega), cg, hu]⟩
  · by_cases hjk : j < k
    · obtain ⟨x0, x1, x2, x3, x4, x5, ⟨e0, e1, e2, e3, e4, e5⟩, hdt⟩ := h.done j d' hjk hd'
      refine ⟨x0, x1, x2, x3, x4, x5, ⟨(q1 _ _ (by omega)).trans ((cg _).trans e0), (q1 _ _ (by omega)).trans ((cg _).trans e1), (q1 _ _ (by omega)).trans ((cg _).trans e2), (q1 _ _ (by omega)).trans ((cg _).trans e3), (q1 _ _ (by omega)).trans ((cg _).trans e4), (q1 _ _ (by omega)).trans ((cg _).trans e5)⟩,
        IsDt.keep (fun b hb => ?_) (fun b o' hb => ?_) d' _ hdt⟩
      · rcases hb with hb | ⟨hb1, hb2⟩
        · exact .inl hb
        · exact .inr ⟨hb1, by omega⟩
      · rcases hb with hb | ⟨hb1, hb2⟩
        · have := hQ b hb
          exact (q1 _ _ (.inl (by omega))).trans (hw.cell (p := ⟨b, o', none⟩) (by show b < wr.heap.size; omega))
        · exact (q1 _ _ (.inl (by omega))).trans (hw.cell (p := ⟨b, o', none⟩) hb2)
    · obtain rfl : j = k := by omega
      obtain rfl : d = d' := by rw [hd] at hd'; injection hd'
      refine ⟨y0, y1, y2, y3, y4, y5, six, IsDt.keep (fun b hb => ?_) (fun b o' hb => ?_) d _ hi⟩
      · rcases hb with hb | ⟨hb1, hb2⟩
        · exact .inl hb
        · exact .inr ⟨by omega, by omega⟩
      · refine q1 _ _ (.inl ?_)
        rcases hb with hb | ⟨hb1, hb2⟩
        · have := hQ b hb
          omega
        · omega
theorem start3 (w : World) (xs ys zs : Array Value) (t1 t2 t3 : TypeId) :
    Below w.heap.size w (((w.alloc (.cells xs t1)).alloc (.cells ys t2)).alloc (.cells zs t3)) ∧ (((w.alloc (.cells xs t1)).alloc (.cells ys t2)).alloc (.cells zs t3)).heap.size = w.heap.size + 3 ∧
    Blk (((w.alloc (.cells xs t1)).alloc (.cells ys t2)).alloc (.cells zs t3)) w.heap.size t1 xs ∧ Blk (((w.alloc (.cells xs t1)).alloc (.cells ys t2)).alloc (.cells zs t3)) (w.heap.size + 1) t2 ys ∧
    Blk (((w.alloc (.cells xs t1)).alloc (.cells ys t2)).alloc (.cells zs t3)) (w.heap.size + 2) t3 zs := by
  have a0 := heap_alloc_new w (.cells xs t1)
  have a1 := heap_alloc_new (w.alloc (.cells xs t1)) (.cells ys t2)
  have a2 := heap_alloc_new ((w.alloc (.cells xs t1)).alloc (.cells ys t2)) (.cells zs t3)
  simp only [World.size_alloc, Nat.add_assoc, Nat.reduceAdd] at a1 a2
  refine ⟨((bel_alloc w _).alloc (by simp) _).alloc (by simp; omega) _, by simp [Nat.add_assoc], ?_, ?_, a2⟩
  · unfold Blk; rw [Below.heap_alloc _ _ _ (by simp; omega), Below.heap_alloc _ _ _ (by simp)]; exact a0
  · unfold Blk; rw [Below.heap_alloc _ _ _ (by simp)]; exact a1
theorem alloc6 (w : World) (x0 x1 x2 x3 x4 x5 : Value) (t : TypeId) : Six (w.alloc (.cells #[x0, x1, x2, x3, x4, x5] t)) w.heap.size 0 x0 x1 x2 x3 x4 x5 := by
  have h : Blk (w.alloc (.cells #[x0, x1, x2, x3, x4, x5] t)) w.heap.size t #[x0, x1, x2, x3, x4, x5] := heap_alloc_new w _
  exact ⟨(h.cell 0).trans rfl, (h.cell 1).trans rfl, (h.cell 2).trans rfl, (h.cell 3).trans rfl, (h.cell 4).trans rfl, (h.cell 5).trans rfl⟩
def ListAt (W1 : World) (Q : Nat → Prop) (l : List Dt) (g : Nat) (i : Value) (wr : World) : Prop := ∃ k : Nat, k ≤ l.length ∧ i = .int .i64 (k : Int) ∧ ListIn W1 Q l g k wr
/-- One datum comes back. -/
def OneR (w0 : World) (Q : Nat → Prop) (d : Dt) (e : Ending) (w' : World) : Prop := ∃ v', e = .returned v' ∧ Below w0.heap.size w0 w' ∧ IsDt w' (Nw w0 w' Q) d v'
theorem list_end {w W1 wr Wf : World} {B N : Nat} {l : List Dt} (hB : B ≤ w.heap.size) (hN : w.heap.size = N) (hs : W1.heap.size = N + 3) (hb : Below w.heap.size w W1) (h3 : l.length * 104 ≤ 140737488351232) (h : ListIn W1 (Lo B) l (N + 1) l.length wr) (hw : Fr (fun i => i = N) wr Wf) :
    OneR w (Lo B) (listD l) (.returned (.agg #[.int .i64 6, .int .i64 0, .string ⟨#[]⟩, .slice none 0 0, .slice (some ⟨N + 1, 0, none⟩) l.length l.length, .slice none 0 0])) Wf := by
  have s1 := h.fr.size
  have sf := hw.size
  have hbw : Below w.heap.size w wr := hb.trans (h.fr.below (by omega) (fun i hi e => by omega))
  refine ⟨_, rfl, hbw.trans (hw.below hbw.size (fun i hi e => by omega)), ?_⟩
  unfold listD
  simp only [IsDt]
  refine ⟨rfl, rfl, by show (0 : Nat) ≤ _; exact Nat.zero_le _, none, 0, _, _, none, 0, rfl, ⟨rfl, Nat.le_refl _, by simp [maxLen], by simp, fun _ => rfl, by simp, fun k hk => absurd hk (Nat.not_lt_zero _)⟩, ⟨Nat.le_refl _, by simp only [maxLen]; omega, h3, fun e => by cases e⟩, IsDts.of_at (fun j d hd => ?_), ⟨Nat.le_refl _, by simp [maxLen], by simp, fun _ => rfl⟩, by simp only [IsDts]⟩
  obtain ⟨x0, x1, x2, x3, x4, x5, hx, hi⟩ := h.done j d (List.getElem?_eq_some_iff.1 hd).1 hd
  refine ⟨N + 1, 0, x0, x1, x2, x3, x4, x5, rfl, .inr ⟨by omega, by omega⟩, by simpa using hx.keep (w' := Wf) (fun o => hw.cell (p := ⟨N + 1, o, none⟩) (by show N + 1 < wr.heap.size; omega) (by show ¬ N + 1 = N; omega)), IsDt.keep (fun b hb => ?_) (fun b o hb => ?_) d _ hi⟩
  · rcases hb with hb | ⟨hb1, hb2⟩
    · exact .inl hb
    · exact .inr ⟨by omega, by omega⟩
  · rcases hb with hb | ⟨hb1, hb2⟩
    · have : b < B := hb
      exact hw.cell (p := ⟨b, o, none⟩) (by show b < wr.heap.size; omega) (by show ¬ b = N; omega)
    · exact hw.cell (p := ⟨b, o, none⟩) hb2 (by show ¬ b = N; omega)
end Go.Proofs.Ytapnighankepjaa.Da
