/- A node copied in new memory: what lies there at the end, without a walk. -/
import Derived.Test.YteddfdhbpgbloaaDatEachStep
namespace Go.Proofs.Yteddfdhbpgbloaa.Da
open Go.ChangeShapes Go.WideShapes Go.ChangeAt Go.RowKit

theorem own_keep {w w' : World} {lo hi lo' hi' : Nat} {a : Option Addr} {cap : Nat} {l : List Dt} (h1 : lo' ≤ lo) (h2 : hi ≤ hi') (hk : Eqv w w' (Rg lo hi)) (hs : OwnSl w lo hi a l.length cap) (hd : OwnDts w hi a l 0 (nx a)) :
    OwnSl w' lo' hi' a l.length cap ∧ OwnDts w' hi' a l 0 (nx a) := by
  refine ⟨(hs.keep hk).wide h1 h2, ?_⟩
  rcases hs with ⟨rfl, hz, _⟩ | ⟨g, rfl, g1, g2, _⟩
  · obtain rfl := List.eq_nil_of_length_eq_zero hz
    simp only [OwnDts]
  · refine OwnDts.hi l 0 _ hi hi' _ h2 (OwnDts.keep l 0 _ hi _ (hk.mono fun b hb => ?_) hd)
    rcases hb with hb | ⟨hb1, hb2⟩
    · obtain rfl : g = b := by simpa using hb
      exact ⟨g1, g2⟩
    · simp only [nx] at hb1
      exact ⟨by omega, hb2⟩
theorem vis_end {w W w3 w4 w5 Wf : World} {Q : Nat → Prop} {c bl nb : Nat} {k n : Int} {s : ByteArray} {m : List Int} {l t : List Dt} {a3 a4 a5 : Option Addr} {c3 c4 c5 : Nat} (hk : (Lit.int .i64 k).wf = true) (hn : (Lit.int .i64 n).wf = true) (hs : s.size ≤ maxLen)
    (hQ : ∀ b, Q b → b < bl) (hnb : w.heap.size = nb) (hbl : bl + 2 < nb) (hW : W.heap.size = nb + 2) (hf0 : Fr (fun i => i = bl) w W) (hb3 : Below W.heap.size W w3) (ho3 : OwnI w3 W.heap.size w3.heap.size a3 m.length c3 m)
    (hf4 : Fr (fun i => i = bl) w3 w4) (h4 : IsSl a4 l.length c4 ∧ IsDts w4 (Nw w3 w4 Q) a4 0 l ∧ (cntL l ≤ c - 1 → OwnSl w4 w3.heap.size w4.heap.size a4 l.length c4 ∧ OwnDts w4 w4.heap.size a4 l 0 (nx a4)))
    (hf5 : Fr (fun i => i = bl) w4 w5) (h5 : IsSl a5 t.length c5 ∧ IsDts w5 (Nw w4 w5 Q) a5 0 t ∧ (cntL t ≤ c - 1 - cntL l → OwnSl w5 w4.heap.size w5.heap.size a5 t.length c5 ∧ OwnDts w5 w5.heap.size a5 t 0 (nx a5)))
    (hb5 : LBox w5 bl (c - 1 - cntL l - cntL t)) (hff : Fr (fun i => i = nb ∨ i = nb + 1) w5 Wf) :
    VisR w Q c (.mk k n s m l t) bl (.returned (.agg #[.int .i64 k, .int .i64 n, .string s, .slice a3 m.length c3, .slice a4 l.length c4, .slice a5 t.length c5])) Wf := by
  have s3 := hb3.size
  have s4 := hf4.size
  have s5 := hf5.size
  have sf := hff.size
  have f5 : Fr (fun i => i = bl ∨ i = nb ∨ i = nb + 1) w5 Wf := hff.mono fun i hi _ => .inr hi
  have f4 : Fr (fun i => i = bl ∨ i = nb ∨ i = nb + 1) w4 Wf := (hf5.mono fun i hi _ => .inl hi).trans f5
  have f3 : Fr (fun i => i = bl ∨ i = nb ∨ i = nb + 1) w3 Wf := (hf4.mono fun i hi _ => .inl hi).trans f4
  have e3 : Eqv w3 Wf (fun b => b < w3.heap.size ∧ (b < bl ∨ nb + 2 ≤ b)) := (Eqv.of_fr f3).mono fun b hb => ⟨hb.1, fun h => by have := hb.2; omega⟩
  have e4 : Eqv w4 Wf (fun b => b < w4.heap.size ∧ (b < bl ∨ nb + 2 ≤ b)) := (Eqv.of_fr f4).mono fun b hb => ⟨hb.1, fun h => by have := hb.2; omega⟩
  have e5 : Eqv w5 Wf (fun b => b < w5.heap.size ∧ (b < bl ∨ nb + 2 ≤ b)) := (Eqv.of_fr f5).mono fun b hb => ⟨hb.1, fun h => by have := hb.2; omega⟩
  have hc : cnt (.mk k n s m l t) = 1 + (cntL l + cntL t) := by simp only [cnt]
  refine ⟨_, rfl, ?_, ?_, ?_, fun hle => ?_⟩
  · exact ((((hf0.trans (Fr.of_bel hb3 _)).trans hf4).trans hf5).trans' hff (fun i hi hlt => by omega))
  · rw [hc, show c - (1 + (cntL l + cntL t)) = c - 1 - cntL l - cntL t by omega]
    exact hb5.keep (hff.below (by have := hb5.lt; omega) (fun i hi h => by omega))
  · simp only [IsDt]
    refine ⟨hk, hn, hs, a3, c3, a4, c4, a5, c5, rfl, ?_, h4.1, ?_, h5.1, ?_⟩
    · exact ho3.1.keep (fun b hb => .inr ⟨by have := hb.1; omega, by have := hb.2; omega⟩) (fun b o hb => (e3 b ⟨hb.2, .inr (by have := hb.1; omega)⟩ o).1)
    · refine IsDts.keep (fun b hb => ?_) (fun b o hb => (e4 b ?_ o).1) a4 l 0 h4.2.1
      · rcases hb with hb | hb
        · exact .inl hb
        · exact .inr ⟨by omega, by omega⟩
      · rcases hb with hb | hb
        · have := hQ b hb
          exact ⟨by omega, .inl this⟩
        · exact ⟨hb.2, .inr (by omega)⟩
    · refine IsDts.keep (fun b hb => ?_) (fun b o hb => (e5 b ?_ o).1) a5 t 0 h5.2.1
      · rcases hb with hb | hb
        · exact .inl hb
        · exact .inr ⟨by omega, by omega⟩
      · rcases hb with hb | hb
        · have := hQ b hb
          exact ⟨by omega, .inl this⟩
        · exact ⟨hb.2, .inr (by omega)⟩
  · rw [hc] at hle
    obtain ⟨o4, d4⟩ := h4.2.2 (by omega)
    obtain ⟨o5, d5⟩ := h5.2.2 (by omega)
    obtain ⟨p4, q4⟩ := own_keep (Nat.le_refl w3.heap.size) (Nat.le_refl w4.heap.size) (e4.mono fun b hb => ⟨hb.2, .inr (by have := hb.1; omega)⟩) o4 d4
    obtain ⟨p5, q5⟩ := own_keep (Nat.le_refl w4.heap.size) sf (e5.mono fun b hb => ⟨hb.2, .inr (by have := hb.1; omega)⟩) o5 d5
    simp only [OwnDt]
    exact ⟨hk, hn, hs, a3, c3, a4, c4, a5, c5, w3.heap.size, w4.heap.size, rfl, by omega, by omega, by omega, (ho3.keep (e3.mono fun b hb => ⟨hb.2, .inr (by have := hb.1; omega)⟩)).wide (by omega) (Nat.le_refl _), p4, q4, p5, q5⟩
end Go.Proofs.Yteddfdhbpgbloaa.Da
