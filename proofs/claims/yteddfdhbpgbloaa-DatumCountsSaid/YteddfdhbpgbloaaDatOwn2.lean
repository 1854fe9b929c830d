/- A datum copied in new memory, and its callers: what the program returns. -/
import Derived.Test.YteddfdhbpgbloaaDatOwn
import Derived.Test.YteddfdhbpgbloaaDatCheck
import Derived.Laws.EntriesVeiled
namespace Go.Proofs.Yteddfdhbpgbloaa.Da
open Go.ChangeShapes Go.WideShapes Go.ChangeAt Go.RowKit

/-- A copy in new memory. -/
def OwnR (w0 : World) (Q : Nat → Prop) (d : Dt) (e : Ending) (w' : World) : Prop :=
  ∃ v', e = .returned v' ∧ Below w0.heap.size w0 w' ∧ IsDt w' (Nw w0 w' Q) d v' ∧ (cnt d ≤ 4096 → OwnDt w' d w0.heap.size w'.heap.size v')
theorem own_end {w X w2 Wf : World} {B bl : Nat} {d : Dt} {v : Value} (hB : B ≤ w.heap.size) (hbl : bl = w.heap.size + 2) (hX : X.heap.size = w.heap.size + 5) (hb : Below w.heap.size w X) (hf : Fr (fun i => i = bl) X w2)
    (hi : IsDt w2 (Nw X w2 (Lo B)) d v) (ho : cnt d ≤ 4096 → OwnDt w2 d X.heap.size w2.heap.size v) (hw : Fr (fun i => i = w.heap.size + 1) w2 Wf) : OwnR w (Lo B) d (.returned v) Wf := by
  have s2 := hf.size
  have sf := hw.size
  have hb2 : Below w.heap.size w w2 := hb.trans (hf.below (by omega) (fun i hi h => by omega))
  refine ⟨v, rfl, hb2.trans (hw.below hb2.size (fun i hi h => by omega)), ?_, fun hle => ?_⟩
  · refine IsDt.keep (fun b hb => ?_) (fun b o hq => ?_) d v hi
    · rcases hb with hb | hb
      · exact .inl hb
      · exact .inr ⟨by omega, by omega⟩
    · rcases hq with hq | hq
      · have hq' : b < B := hq
        exact hw.cell (p := ⟨b, o, none⟩) (by show b < w2.heap.size; omega) (by show ¬ b = w.heap.size + 1; omega)
      · exact hw.cell (p := ⟨b, o, none⟩) hq.2 (by show ¬ b = w.heap.size + 1; omega)
  · refine (OwnDt.keep d _ _ v (fun b hb o => ?_) (ho hle)).wide d (by omega) sf
    have h1 := hb.1
    have h2 := hb.2
    exact ⟨hw.cell (p := ⟨b, o, none⟩) h2 (by show ¬ b = w.heap.size + 1; omega), hw.frozen (p := ⟨b, o, none⟩) h2 (by show ¬ b = w.heap.size + 1; omega)⟩
theorem own_start (w : World) (xs ys : Array Value) (t1 t2 t3 t4 t5 : TypeId) (e f g : Value) :
    Below w.heap.size w (((((w.alloc (.cells xs t1)).alloc (.cells ys t2)).alloc (.cells #[e] t3)).alloc (.cells #[f] t4)).alloc (.cells #[g] t5)) ∧
    (((((w.alloc (.cells xs t1)).alloc (.cells ys t2)).alloc (.cells #[e] t3)).alloc (.cells #[f] t4)).alloc (.cells #[g] t5)).heap.size = w.heap.size + 5 ∧
    Blk (((((w.alloc (.cells xs t1)).alloc (.cells ys t2)).alloc (.cells #[e] t3)).alloc (.cells #[f] t4)).alloc (.cells #[g] t5)) (w.heap.size + 1) t2 ys ∧
    Blk (((((w.alloc (.cells xs t1)).alloc (.cells ys t2)).alloc (.cells #[e] t3)).alloc (.cells #[f] t4)).alloc (.cells #[g] t5)) (w.heap.size + 2) t3 #[e] ∧
    Blk (((((w.alloc (.cells xs t1)).alloc (.cells ys t2)).alloc (.cells #[e] t3)).alloc (.cells #[f] t4)).alloc (.cells #[g] t5)) (w.heap.size + 3) t4 #[f] ∧
    Blk (((((w.alloc (.cells xs t1)).alloc (.cells ys t2)).alloc (.cells #[e] t3)).alloc (.cells #[f] t4)).alloc (.cells #[g] t5)) (w.heap.size + 4) t5 #[g] := by
  have a1 := heap_alloc_new (w.alloc (.cells xs t1)) (.cells ys t2)
  have a2 := heap_alloc_new ((w.alloc (.cells xs t1)).alloc (.cells ys t2)) (.cells #[e] t3)
  have a3 := heap_alloc_new (((w.alloc (.cells xs t1)).alloc (.cells ys t2)).alloc (.cells #[e] t3)) (.cells #[f] t4)
  have a4 := heap_alloc_new ((((w.alloc (.cells xs t1)).alloc (.cells ys t2)).alloc (.cells #[e] t3)).alloc (.cells #[f] t4)) (.cells #[g] t5)
  simp only [World.size_alloc, Nat.add_assoc, Nat.reduceAdd] at a1 a2 a3 a4
  refine ⟨((((bel_alloc w _).alloc (by simp) _).alloc (by simp; omega) _).alloc (by simp; omega) _).alloc (by simp; omega) _, by simp [Nat.add_assoc], ?_, ?_, ?_, a4⟩
  · unfold Blk; rw [Below.heap_alloc _ _ _ (by simp), Below.heap_alloc _ _ _ (by simp), Below.heap_alloc _ _ _ (by simp)]; exact a1
  · unfold Blk; rw [Below.heap_alloc _ _ _ (by simp), Below.heap_alloc _ _ _ (by simp)]; exact a2
  · unfold Blk; rw [Below.heap_alloc _ _ _ (by simp)]; exact a3
set_option maxHeartbeats 1000000 in
theorem own_any (d : Dt) (v : Value) (B : Nat) (w : World) (hd : IsDt w (Lo B) d v) (hB : B ≤ w.heap.size) :
    Calls Try.prog 39 #[v] w (OwnR w (Lo B) d) := by
  have hd' := hd
  obtain ⟨am, cm, al, cl, at_, ct, rfl, _⟩ := hd'.open_
  have HD := Lib.hid hd
  clear hd hd'
  go_enter Try.func39, Try.ntmps39
  go_wp2_with fail
  obtain ⟨hb, hs, b1, b2, b3, b4⟩ := own_start w #[.int .i64 d.K, .int .i64 d.N, .string d.S, .slice am d.M.length cm, .slice al d.L.length cl, .slice at_ d.T.length ct] #[.int .i64 0, .int .i64 0, .string ⟨#[]⟩, .slice none 0 0, .slice none 0 0, .slice none 0 0] 25 25 3 35 91
    (.int .i64 4096) (.func (.func 74) #[] #[.pointer (some ⟨w.heap.size + 1 + 1, 0, none⟩), .pointer (some ⟨w.heap.size + 1 + 1 + 1 + 1, 0, none⟩)]) (.func (.func 72) #[] #[.pointer (some ⟨w.heap.size + 1 + 1 + 1, 0, none⟩)])
  generalize (((((w.alloc (.cells #[.int .i64 d.K, .int .i64 d.N, .string d.S, .slice am d.M.length cm, .slice al d.L.length cl, .slice at_ d.T.length ct] 25)).alloc (.cells #[.int .i64 0, .int .i64 0, .string ⟨#[]⟩, .slice none 0 0, .slice none 0 0, .slice none 0 0] 25)).alloc (.cells #[.int .i64 4096] 3)).alloc (.cells #[.func (.func 74) #[] #[.pointer (some ⟨w.heap.size + 1 + 1, 0, none⟩), .pointer (some ⟨w.heap.size + 1 + 1 + 1 + 1, 0, none⟩)]] 35)).alloc (.cells #[.func (.func 72) #[] #[.pointer (some ⟨w.heap.size + 1 + 1 + 1, 0, none⟩)]] 91)) = X at *
  have hlb : LBox X (w.heap.size + 2) 4096 := ⟨by omega, (b2.cell 0).trans rfl, b2.frozen 0, (b3.cell 0).trans rfl, (b4.cell 0).trans rfl⟩
  refine (vis_any (Lo B) (w.heap.size + 2) (fun b hb => by have : b < B := hb; omega) d 4096 _ X (by omega) (by exact HD.out.below (hb.mono hB)) hlb).mono ?_
  rintro e w2 ⟨v', rfl, hf, _, hi, ho⟩
  have hi' := hi
  obtain ⟨am', cm', al', cl', at', ct', rfl, _⟩ := hi'.open_
  have hr := b1.fr hf (by show ¬ w.heap.size + 1 = w.heap.size + 2; omega) (by omega)
  have y0 : w2.cell? ⟨w.heap.size + 1, 0, none⟩ = some (.int .i64 0) := (hr.cell 0).trans rfl
  have y1 : w2.cell? ⟨w.heap.size + 1, 1, none⟩ = some (.int .i64 0) := (hr.cell 1).trans rfl
  have y2 : w2.cell? ⟨w.heap.size + 1, 2, none⟩ = some (.string ⟨#[]⟩) := (hr.cell 2).trans rfl
  have y3 : w2.cell? ⟨w.heap.size + 1, 3, none⟩ = some (.slice none 0 0) := (hr.cell 3).trans rfl
  have y4 : w2.cell? ⟨w.heap.size + 1, 4, none⟩ = some (.slice none 0 0) := (hr.cell 4).trans rfl
  have y5 : w2.cell? ⟨w.heap.size + 1, 5, none⟩ = some (.slice none 0 0) := (hr.cell 5).trans rfl
  have v0 := hr.frozen 0
  have v1 := hr.frozen 1
  have v2 := hr.frozen 2
  have v3 := hr.frozen 3
  have v4 := hr.frozen 4
  have v5 := hr.frozen 5
  have Hb := Lib.hid hb
  have Hs := Lib.hid hs
  have Hf := Lib.hid hf
  have Hi := Lib.hid hi
  have Ho := Lib.hid ho
  clear hb hs b1 b2 b3 b4 hlb hf hi hi' ho hr
  go_wp2_with fail
  refine bodyPost_ret (v := .agg #[.int .i64 d.K, .int .i64 d.N, .string d.S, .slice am' d.M.length cm', .slice al' d.L.length cl', .slice at' d.T.length ct']) ?_ rfl ?_
  · simp [results, Try.results39, go_sem, y0, y1, y2, y3, y4, y5]
  · exact own_end hB rfl Hs.out Hb.out Hf.out Hi.out Ho.out (set6_fr w2 (w.heap.size + 1) 0 _ _ _ _ _ _)
end Go.Proofs.Yteddfdhbpgbloaa.Da
