/- One round of copying data in new memory, without a walk. -/
import Derived.Test.YteddfdhbpgbloaaDatEachBase
namespace Go.Proofs.Yteddfdhbpgbloaa.Da
open Go.ChangeShapes Go.WideShapes Go.ChangeAt Go.RowKit

theorem OwnDts.keepAt {w w' : World} : ∀ (l : List Dt) (i lo hi : Nat) (a : Option Addr), (∀ g, a = some ⟨g, 0, none⟩ → ∀ o, o < (i + l.length) * 6 → w'.cell? ⟨g, o, none⟩ = w.cell? ⟨g, o, none⟩) → Eqv w w' (Rg lo hi) → OwnDts w hi a l i lo → OwnDts w' hi a l i lo
  | [], _, _, _, _, _, _, _ => by simp only [OwnDts]
  | d :: r, i, lo, hi, a, hg, hk, h => by
    simp only [OwnDts] at h ⊢
    obtain ⟨mid, g, x0, x1, x2, x3, x4, x5, ha, h0, h1, h2, hs, hd, hr⟩ := h
    have hl : (d :: r).length = r.length + 1 := rfl
    refine ⟨mid, g, x0, x1, x2, x3, x4, x5, ha, h0, h1, h2, ?_, OwnDt.keep d lo mid _ (hk.mono fun b hb => ⟨hb.1, by have := hb.2; omega⟩) hd,
      OwnDts.keepAt r (i + 1) mid hi a (fun g' hg' o ho => hg g' hg' o (by omega)) (hk.mono fun b hb => ⟨by have := hb.1; omega, hb.2⟩) hr⟩
    obtain ⟨s0, s1, s2, s3, s4, s5⟩ := hs
    exact ⟨(hg g ha _ (by omega)).trans s0, (hg g ha _ (by omega)).trans s1, (hg g ha _ (by omega)).trans s2, (hg g ha _ (by omega)).trans s3, (hg g ha _ (by omega)).trans s4, (hg g ha _ (by omega)).trans s5⟩
set_option maxHeartbeats 2000000 in
theorem each_step {w0 W1 wr w2 : World} {Q : Nat → Prop} {c : Nat} {l : List Dt} {g : Nat} {ad : Addr} {bl k : Nat} {d : Dt} {y0 y1 y2 y3 y4 y5 : Value} (o : Obj) (hQ : ∀ b, Q b → b < bl) (hg : bl + 2 < g) (hgs : g < W1.heap.size)
    (hs : ∀ j, j < l.length * 6 → ∃ u, w0.cell? (ad.add j) = some u) (hd : l[k]? = some d) (h : EachIn w0 W1 Q c l g ad bl k wr) (hf : Fr (fun i => i = bl) (wr.alloc o) w2) (hb : LBox w2 bl (c - cntL (l.take k) - cnt d))
    (hi : IsDt w2 (Nw (wr.alloc o) w2 Q) d (.agg #[y0, y1, y2, y3, y4, y5])) (ho : cnt d ≤ c - cntL (l.take k) → OwnDt w2 d (wr.alloc o).heap.size w2.heap.size (.agg #[y0, y1, y2, y3, y4, y5])) :
    EachIn w0 W1 Q c l g ad bl (k + 1) (set6 w2 g (k * 6) y0 y1 y2 y3 y4 y5) := by
  have q1 : ∀ g' o', (g' ≠ g ∨ o' < k * 6 ∨ k * 6 + 6 ≤ o') → (set6 w2 g (k * 6) y0 y1 y2 y3 y4 y5).cell? ⟨g', o', none⟩ = w2.cell? ⟨g', o', none⟩ := fun g' o' h => set6_ne _ _ _ _ _ _ _ _ _ _ _ h
  have q2 := set6_six w2 g (k * 6) y0 y1 y2 y3 y4 y5
  have q3 := set6_frozen w2 g (k * 6) y0 y1 y2 y3 y4 y5
  have q4 := set6_fr w2 g (k * 6) y0 y1 y2 y3 y4 y5
  have s6 := set6_size w2 g (k * 6) y0 y1 y2 y3 y4 y5
  have q5 : Fr (fun i => i = bl) wr w2 := ((Fr.refl _ wr).alloc o).trans hf
  have hsa : (wr.alloc o).heap.size = wr.heap.size + 1 := by simp
  generalize set6 w2 g (k * 6) y0 y1 y2 y3 y4 y5 = W6 at *
  generalize wr.alloc o = Wa at *
  have hk : k < l.length := (List.getElem?_eq_some_iff.1 hd).1
  have hgr : g < wr.heap.size := Nat.lt_of_lt_of_le hgs h.fr.size
  have hsz : Wa.heap.size ≤ w2.heap.size := hf.size
  have hfw := q5
  have cg : ∀ j, w2.cell? ⟨g, j, none⟩ = wr.cell? ⟨g, j, none⟩ := fun j => hfw.cell (p := ⟨g, j, none⟩) hgr (by show ¬ g = bl; omega)
  have hq6 : Eqv wr W6 (fun b => b < wr.heap.size ∧ b ≠ bl ∧ b ≠ g) := fun b hb o' =>
    ⟨(q1 _ _ (.inl hb.2.2)).trans (hfw.cell (p := ⟨b, o', none⟩) hb.1 hb.2.1), (q3 _).trans (hfw.frozen (p := ⟨b, o', none⟩) hb.1 hb.2.1)⟩
  refine ⟨?_, ?_, fun j => ?_, fun j d' hj hd' => ?_, fun j h1 h2 => ?_, fun hle => ?_⟩
  · exact (h.fr.trans (hfw.mono fun i hi _ => .inl hi)).trans (q4.mono fun i hi _ => .inr hi)
  · rw [cntL_snoc l k d hd, ← Nat.sub_sub]
    exact hb.keep (q4.below (by have := hb.lt; omega) (fun i hi he => by omega))
  · rw [q3, hfw.frozen (p := ⟨g, j, none⟩) hgr (by show ¬ g = bl; omega)]
    exact h.fz j
  · by_cases hjk : j < k
    · obtain ⟨x0, x1, x2, x3, x4, x5, hx, hdt⟩ := h.done j d' hjk hd'
      refine ⟨x0, x1, x2, x3, x4, x5, ?_, IsDt.keep (fun b hb => ?_) (fun b o' hb => ?_) d' _ hdt⟩
      · obtain ⟨e0, e1, e2, e3, e4, e5⟩ := hx
        exact ⟨(q1 _ _ (by omega)).trans ((cg _).trans e0), (q1 _ _ (by omega)).trans ((cg _).trans e1), (q1 _ _ (by omega)).trans ((cg _).trans e2),
          (q1 _ _ (by omega)).trans ((cg _).trans e3), (q1 _ _ (by omega)).trans ((cg _).trans e4), (q1 _ _ (by omega)).trans ((cg _).trans e5)⟩
      · rcases hb with hb | ⟨hb1, hb2⟩
        · exact .inl hb
        · exact .inr ⟨hb1, by rw [s6]; omega⟩
      · refine (hq6 b ?_ o').1
        rcases hb with hb | ⟨hb1, hb2⟩
        · have := hQ b hb
          exact ⟨by omega, by omega, by omega⟩
        · exact ⟨hb2, by omega, by omega⟩
    · obtain rfl : j = k := by omega
      obtain rfl : d = d' := by rw [hd] at hd'; injection hd'
      refine ⟨y0, y1, y2, y3, y4, y5, q2 (fun r hr => ?_), IsDt.keep (fun b hb => ?_) (fun b o' hb => ?_) d _ hi⟩
      · obtain ⟨u, hu⟩ := hs (j * 6 + r) (by omega)
        exact ⟨u, by rw [cg, h.rest _ (by omega) (by omega), hu]⟩
      · rcases hb with hb | ⟨hb1, hb2⟩
        · exact .inl hb
        · exact .inr ⟨by omega, by rw [s6]; exact hb2⟩
      · refine q1 _ _ (.inl ?_)
        rcases hb with hb | ⟨hb1, hb2⟩
        · have := hQ b hb
          omega
        · omega
  · rw [q1 _ _ (by omega), cg, h.rest j (by omega) h2]
  · rw [cntL_snoc l k d hd] at hle
    rw [take_snoc_dt l k d hd, s6]
    have hlen : (l.take k).length = k := by rw [List.length_take]; omega
    have hA : ∀ g', some (⟨g, 0, none⟩ : Addr) = some ⟨g', 0, none⟩ → ∀ o', o' < (0 + (l.take k).length) * 6 → W6.cell? ⟨g', o', none⟩ = wr.cell? ⟨g', o', none⟩ := fun g' hg' o' ho' => by
      obtain rfl : g = g' := by simpa using hg'
      rw [q1 _ _ (by omega), cg]
    have h1 := OwnDts.keepAt (w' := W6) (l.take k) 0 (g + 1) wr.heap.size (some ⟨g, 0, none⟩) hA (hq6.mono fun b hb => ⟨hb.2, by have := hb.1; omega, by have := hb.1; omega⟩) (h.own (by omega))
    have h2 := OwnDt.keep (w := w2) (w' := W6) d Wa.heap.size w2.heap.size (.agg #[y0, y1, y2, y3, y4, y5]) (fun b hb o' => ⟨q1 _ _ (.inl (by have := hb.1; omega)), q3 _⟩) (ho (by omega))
    refine OwnDts.snoc (mid := wr.heap.size) (l.take k) 0 (g + 1) h1 (by omega) (by omega) (by omega) (x0 := y0) (x1 := y1) (x2 := y2) (x3 := y3) (x4 := y4) (x5 := y5) ?_ (h2.wide d (by omega) (Nat.le_refl _))
    rw [Nat.zero_add, hlen]
    refine q2 (fun r hr => ?_)
    obtain ⟨u, hu⟩ := hs (k * 6 + r) (by omega)
    exact ⟨u, by rw [cg, h.rest _ (by omega) (by omega), hu]⟩
end Go.Proofs.Yteddfdhbpgbloaa.Da
