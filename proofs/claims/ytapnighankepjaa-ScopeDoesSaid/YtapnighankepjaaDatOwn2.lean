/- A datum copied in new memory, and its callers: what the program returns. -/
import Derived.Test.YtapnighankepjaaDatOwn
import Derived.Test.YtapnighankepjaaDatCheck
import Derived.Laws.EntriesVeiled
namespace Go.Proofs.Ytapnighankepjaa.Da
open Go.ChangeShapes Go.WideShapes Go.ChangeAt Go.RowKit

/-- A copy in new memory. -/
def OwnR (w0 : World) (Q : Nat → Prop) (d : Dt) (e : Ending) (w' : World) : Prop :=
  ∃ v', e = .returned v' ∧ Below w0.heap.size w0 w' ∧ IsDt w' (Nw w0 w' Q) d v' ∧ (cnt d ≤ 4096 → OwnDt w' d w0.heap.size w'.heap.size v')
theorem own_end {w X w2 Wf : World} {B bl : Nat} {d : Dt} {v : Value} (hB : B ≤ w.heap.size) (hbl : bl = w.heap.size + 2) (hX : X.heap.size = w.heap.size + 5) (hb : Below w.heap.size w X) (hf : Fr (fun i => i = bl) X w2)
    (hi : IsDt w2 (Nw X w2 (Lo B)) d v) (ho : cnt d ≤ 4096 → OwnDt w2 d X.heap.size w2.heap.size v) (hw : Fr (fun i => i = w.heap.size + 1) w2 Wf) : OwnR w (Lo B) d (.returned v) Wf := by
  have s2 := hf.size
  have sf := hw.size
  have hb2 : Below w.heap.size w w2 := hb.trans (hf.below (by omega) (fun i hi h => by omega))
  refine ⟨v, rfl, hb2.trans (hw.below hb2.size (fun i hi h => by omega)), ?_, fun hle => ?_⟩
  · refine IsDt.keep (fun b hb => ?_) (fun b o hq => ?_) d v hi
    · rcases hb with hb | hb
      · exact .inl hb
      · exact .inr ⟨by omega, by omega⟩
    · rcases hq with hq | hq
      · have hq' : b < B := hq
        exact hw.cell (p := ⟨b, o, none⟩) (by show b < w2.heap.size; omega) (by show ¬ b = w.heap.size + 1; omega)
      · exact hw.cell (p := ⟨b, o, none⟩) hq.2 (by show ¬ b = w.heap.size + 1; omega)
  · refine (OwnDt.keep d _ _ v (fun b hb o => ?_) (ho hle)).wide d (by omega) sf
    have h1 := hb.1
    have h2 := hb.2
    exact ⟨hw.cell (p := ⟨b, o, none⟩) h2 (by show ¬ b = w.heap.size + 1; omega), hw.frozen (p := ⟨b, o, none⟩) h2 (by show ¬ b = w.heap.size + 1; omega)⟩
theorem own_start (w : World) (xs ys : Array Value) (t1 t2 t3 t4 t5 : TypeId) (e f g : Value) :
    Below w.heap.size w (((((w.alloc (.cells xs t1)).alloc (.cells ys t2)).alloc (.cells #[e] t3)).alloc (.cells #[f] t4)).alloc (.cells #[g] t5)) ∧
    (((((w.alloc (.cells xs t1)).alloc (.cells ys t2)).alloc (.cells #[e] t3)).alloc (.cells #[f] t4)).alloc (.cells #[g] t5)).heap.size = w.heap.size + 5 ∧
    Blk (((((w.alloc (.cells xs t1)).alloc (.cells ys t2)).alloc (.cells #[e] t3)).alloc (.cells #[f] t4)).alloc (.cells #[g] t5)) (w.heap.size + 1) t2 ys ∧
    Blk (((((w.alloc (.cells xs t1)).alloc (.cells ys t2)).alloc (.cells #[e] t3)).alloc (.cells #[f] t4)).alloc (.cells #[g] t5)) (w.heap.size + 2) t3 #[e] ∧
    Blk (((((w.alloc (.cells xs t1)).alloc (.cells ys t2)).alloc (.cells #[e] t3)).alloc (.cells #[f] t4)).alloc (.cells #[g] t5)) (w.heap.size + 3) t4 #[f] ∧
    Blk (((((w.alloc (.cells xs t1)).alloc (.cells ys t2)).alloc (.cells #[e] t3)).alloc (.cells #[f] t4)).alloc (.cells #[g] t5)) (w.heap.size + 4) t5 #[g] := by
  have a1 := heap_alloc_new (w.alloc (.cells xs t1)) (.cells ys t2)
  have a2 := heap_alloc_new ((w.alloc (.cells xs t1)).alloc (.cells ys t2)) (.cells #[e] t3)
  have a3 := heap_alloc_new (((w.alloc (.cells xs t1)).alloc (.cells ys t2)).alloc (.cells #[e] t3)) (.cells #[f] t4)
  have a4 := heap_alloc_new ((((w.alloc (.cells xs t1)).alloc (.cells ys t2)).alloc (.cells #[e] t3)).alloc (.cells #[f] t4)) (.cells #[g] t5)
  simp only [World.size_alloc, Nat.add_assoc, Nat.reduceAdd] at a1 a2 a3 a4
  refine ⟨((((bel_alloc w _).alloc (by simp) _).alloc (by simp; omega) _).alloc (by simp; omega) _).alloc (by simp; omega) _, by simp [Nat.add_assoc], ?_, ?_, ?_, a4⟩
  · unfold Blk; rw [Below.heap_alloc _ _ _ (by simp), Below.heap_alloc _ _ _ (by simp), Below.heap_alloc _ _ _ (by simp)]; exact a1
  · unfold Blk; rw [Below.heap_alloc _ _ _ (by simp), Below.heap_alloc _ _ _ (by simp)]; exact a2
  · unfold Blk; rw [Below.heap_alloc _ _ _ (by simp)]; exact a3
end Go.Proofs.Ytapnighankepjaa.Da
