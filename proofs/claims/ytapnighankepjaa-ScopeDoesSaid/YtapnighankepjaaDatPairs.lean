/- The halves of a datum: what the program returns. -/
import Derived.Test.YtapnighankepjaaDatOwn2
namespace Go.Proofs.Ytapnighankepjaa.Da
open Go.ChangeShapes Go.WideShapes Go.ChangeAt Go.RowKit

/-- Whether a datum has halves, and else why not. -/
def pairE (d : Dt) : Int := if chk d ≠ 0 then chk d else if (d.K ≠ 6 ∧ d.K ≠ 7) ∨ d.L = [] then 6 else 0
theorem bcell {W w1 : World} (hb : Below W.heap.size W w1) : (∀ b o, b < W.heap.size → w1.cell? ⟨b, o, none⟩ = W.cell? ⟨b, o, none⟩) ∧ (∀ b o, b < W.heap.size → w1.frozen? ⟨b, o, none⟩ = W.frozen? ⟨b, o, none⟩) :=
  ⟨fun b o h => hb.cell (p := ⟨b, o, none⟩) h, fun b o h => hb.frozen (p := ⟨b, o, none⟩) h⟩
/-- What comes back with an error: the datum, or the zero one. -/
def zeroV : Value := .agg #[.int .i64 0, .int .i64 0, .string ⟨#[]⟩, .slice none 0 0, .slice none 0 0, .slice none 0 0]
def TwoR (w0 : World) (Q : Nat → Prop) (er : Int) (d : Dt) (e : Ending) (w' : World) : Prop :=
  ∃ v', e = .returned (.tuple #[v', .int .i64 er]) ∧ Below w0.heap.size w0 w' ∧ (er ≠ 0 → v' = zeroV) ∧ (er = 0 → IsDt w' (Nw w0 w' Q) d v')
theorem two_end {w X w2 : World} {B b : Nat} {d : Dt} {v : Value} {y0 y1 y2 y3 y4 y5 : Value} (hB : B ≤ w.heap.size) (hb0 : w.heap.size ≤ b) (hb1 : b < X.heap.size) (hX : Below w.heap.size w X) (h2 : Below X.heap.size X w2) (hi : IsDt w2 (Nw X w2 (Lo B)) d v) :
    TwoR w (Lo B) 0 d (.returned (.tuple #[v, .int .i64 0])) (set6 w2 b 0 y0 y1 y2 y3 y4 y5) := by
  have f6 := set6_fr w2 b 0 y0 y1 y2 y3 y4 y5
  have s6 := set6_size w2 b 0 y0 y1 y2 y3 y4 y5
  generalize set6 w2 b 0 y0 y1 y2 y3 y4 y5 = Wf at *
  have s1 := hX.size
  have s2 := h2.size
  have hw2 : Below w.heap.size w w2 := hX.trans (h2.mono hX.size)
  refine ⟨v, rfl, hw2.trans (f6.below hw2.size (fun i hi h => by omega)), fun h => absurd rfl h, fun _ => IsDt.keep (fun c hc => ?_) (fun c o hc => ?_) d v hi⟩
  · rcases hc with hc | hc
    · exact .inl hc
    · exact .inr ⟨by omega, by omega⟩
  · rcases hc with hc | hc
    · have hq' : c < B := hc
      exact f6.cell (p := ⟨c, o, none⟩) (by show c < w2.heap.size; omega) (by show ¬ c = b; omega)
    · exact f6.cell (p := ⟨c, o, none⟩) hc.2 (by show ¬ c = b; omega)
theorem two_bad {w X Wf : World} {Q : Nat → Prop} {d : Dt} {er : Int} {b : Nat} {y0 y1 y2 y3 y4 y5 : Value} (hb : w.heap.size ≤ b) (he : er ≠ 0) (hX : Below w.heap.size w X) (h : set6 X b 0 y0 y1 y2 y3 y4 y5 = Wf) : TwoR w Q er d (.returned (.tuple #[zeroV, .int .i64 er])) Wf := by
  subst h
  exact ⟨_, rfl, hX.trans ((set6_fr X b 0 y0 y1 y2 y3 y4 y5).below hX.size (fun i hi h => by omega)), fun _ => rfl, fun h => absurd h he⟩
def carD (d : Dt) : Dt := d.L.headD (.mk 0 0 ⟨#[]⟩ [] [] [])
theorem pairE_zero {d : Dt} (h : pairE d = 0) : chk d = 0 ∧ (d.K = 6 ∨ d.K = 7) ∧ d.L ≠ [] := by
  unfold pairE at h
  by_cases h1 : chk d = 0
  · rw [if_neg (by simp [h1])] at h
    by_cases h2 : (d.K ≠ 6 ∧ d.K ≠ 7) ∨ d.L = []
    · rw [if_pos h2] at h; omega
    · refine ⟨h1, ?_, fun h3 => h2 (.inr h3)⟩
      by_cases h6 : d.K = 6
      · exact .inl h6
      · by_cases h7 : d.K = 7
        · exact .inr h7
        · exact absurd (.inl ⟨h6, h7⟩) h2
  · rw [if_pos h1] at h
    exact absurd h h1
end Go.Proofs.Ytapnighankepjaa.Da
