/- A new table (layer 5): the program's New. -/
import Derived.Test.YteolfkkabhileaaMScSee
import Derived.Test.YteolfkkabhileaaMScResolve
section
namespace Go.Proofs.Yteolfkkabhileaa.Sc
open Go.ChangeShapes Go.WideShapes Go.ChangeAt Go.RowKit
set_option linter.unusedVariables false
set_option linter.unusedSimpArgs false

def Tab.new : Tab := ⟨[default], []⟩
theorem new_ok : Tab.new.Ok := ⟨by decide, by decide, by decide, rfl, fun i h0 h1 => by (have h1 : i < 1 := h1); omega, fun s hs => by cases hs⟩
theorem new_ids : ∀ r ∈ Tab.new.rows, r.id.Ok := fun r hr => by
  obtain rfl : r = default := by simpa [Tab.new] using hr
  exact ⟨by decide, by decide, fun k hk => by cases hk⟩
theorem new_first (x : Idn) : Tab.new.first x = 0 := rfl
def rowZ : Array Value := #[.int .i64 0, .string ⟨#[]⟩, .int .i32 0, .int .i32 0, .int .i32 0, .int .i32 0, .int .i32 0, .int .i32 0, .int .i32 0, .int .i32 0, .int .i32 0, .int .i32 0, .int .i32 0, .int .i32 0, .int .i32 0, .int .i32 0, .int .i32 0, .int .i32 0, .int .i64 0]
theorem make_rows (w : World) : (Instr.makeSlice 70 (.int .i64 1) (.int .i64 1)).run Try.prog w = .ok (.slice (some ⟨w.heap.size, 0, none⟩) 1 1) (w.alloc (.cells rowZ 84)) := by kernel_rfl
theorem atKey_nil (kl : Lit) (z : DataW Unit) : (DataW.map [] : DataW Unit).atKey kl z = z := rfl
set_option maxRecDepth 100000 in
set_option maxHeartbeats 4000000 in
theorem new_any (w : World) : Calls Try.prog 9 #[] w fun e w' => e = .returned (.pointer (some ⟨w.heap.size + 2, 0, none⟩)) ∧ TabIn w' (w.heap.size + 2) Tab.new (fun k => w.heap.size ≤ k) ∧ Below w.heap.size w w' := by
  have hmm := @run_makeMap Try.prog
  have hmr := make_rows
  go_enter Try.func9, Try.ntmps9
  go_wp2_with fail
  go_ret
  refine ⟨rfl, ?_, (((Below.refl _ _).alloc (Nat.le_refl _) _).alloc (by simp) _).alloc (by simp; omega) _⟩
  have k1 : ((w.alloc (.cells rowZ 84)).alloc (.map #[] 0)).heap.size = w.heap.size + 2 := by simp
  have b0 : (((w.alloc (.cells rowZ 84)).alloc (.map #[] 0)).alloc (.cells #[.slice (some ⟨w.heap.size, 0, none⟩) 1 1, .slice none 0 0, .map (some (w.heap.size + 1))] 73)).heap[w.heap.size]? = some (.cells rowZ 84) := by
    rw [Below.heap_alloc _ _ _ (by simp; omega), Below.heap_alloc _ _ _ (by simp)]; exact heap_alloc_new w _
  have b1 : (((w.alloc (.cells rowZ 84)).alloc (.map #[] 0)).alloc (.cells #[.slice (some ⟨w.heap.size, 0, none⟩) 1 1, .slice none 0 0, .map (some (w.heap.size + 1))] 73)).ownsMap Try.prog 82 (plainElem (H := Unit) Try.prog 3) (w.heap.size + 1) 0 (.map []) := by
    have h := (World.ownsMap_made (H := Unit) (w.alloc (.cells rowZ 84)) Try.prog 82 (plainElem Try.prog 3)).alloc (.cells #[.slice (some ⟨w.heap.size, 0, none⟩) 1 1, .slice none 0 0, .map (some (w.heap.size + 1))] 73)
    rw [World.size_alloc] at h
    exact h
  have b2 : (((w.alloc (.cells rowZ 84)).alloc (.map #[] 0)).alloc (.cells #[.slice (some ⟨w.heap.size, 0, none⟩) 1 1, .slice none 0 0, .map (some (w.heap.size + 1))] 73)).heap[w.heap.size + 2]? = some (.cells #[.slice (some ⟨w.heap.size, 0, none⟩) 1 1, .slice none 0 0, .map (some (w.heap.size + 1))] 73) := by
    have h := heap_alloc_new ((w.alloc (.cells rowZ 84)).alloc (.map #[] 0)) (.cells #[.slice (some ⟨w.heap.size, 0, none⟩) 1 1, .slice none 0 0, .map (some (w.heap.size + 1))] 73)
    rw [k1] at h
    exact h
  refine ⟨.slice (some ⟨w.heap.size, 0, none⟩) 1 1, .slice none 0 0, w.heap.size + 1, ⟨new_ok, new_ids, fun r hr => ?_, b2, ⟨rfl, .inr ⟨w.heap.size, 1, rowZ, rfl, Nat.zero_le _, b0, Nat.le_refl _, by unfold maxLen; omega, rfl, rfl⟩⟩, World.ownsRow_nil _ _ _ _, ⟨_, b1.mono (Nat.zero_le _), ⟨[], rfl⟩, fun x kl _ _ => by rw [atKey_nil, new_first]; rfl⟩⟩, ?_⟩
  · obtain rfl : r = default := by simpa [Tab.new] using hr
    decide
  · rintro k (rfl | h | h | rfl)
    · show w.heap.size ≤ w.heap.size + 2; omega
    · cases h; exact Nat.le_refl _
    · cases h
    · show w.heap.size ≤ w.heap.size + 1; omega
end Go.Proofs.Yteolfkkabhileaa.Sc
end
