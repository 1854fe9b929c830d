/- An identifier is a key of a map (layer 5). -/
import Derived.Maps.Own
import Derived.DeepKeys5
import Derived.Test.YteolfkkabhileaaMScIdent
section
namespace Go.Proofs.Yteolfkkabhileaa.Sc
open Go.ChangeShapes Go.WideShapes Go.ChangeAt Go.RowKit
set_option linter.unusedVariables false
set_option linter.unusedSimpArgs false

theorem wf32 {n : Int} (h0 : 0 ≤ n) (h1 : n ≤ 1048576) : (Lit.int .i32 n).wf = true := by
  simp [Lit.wf, IntKind.min, IntKind.max, IntKind.bits, IntKind.signed]
  omega
theorem kl_i32 (d : Nat) (n : Int) (h : (Lit.int .i32 n).wf = true) : Try.prog.keyLits (d + 1) 21 [.int .i32 n] = some [.int .i32 n] := by
  simp [Program.keyLits, Try.underlying21, h]
theorem kl_str (d : Nat) (s : ByteArray) (h : s.size ≤ maxLen) : Try.prog.keyLits (d + 1) 9 [.string s] = some [.string s.data.toList] := by
  simp [Program.keyLits, Try.underlying9, h]
theorem cells_a16 : Try.prog.cellsOf 80 = 16 := by kernel_rfl
theorem cells_i32 : Try.prog.cellsOf 21 = 1 := by kernel_rfl
theorem cells_str : Try.prog.cellsOf 9 = 1 := by kernel_rfl
theorem cells_idn : Try.prog.cellsOf 82 = 17 := by kernel_rfl
set_option maxRecDepth 100000 in
set_option maxHeartbeats 4000000 in
theorem kl_arr (d : Nat) (p : Nat → Int) (hp : ∀ i, (Lit.int .i32 (p i)).wf = true) : ∃ l, Try.prog.keyLits (d + 2) 80 (A16 p).toList = some l := by
  refine ⟨(List.range 16).map (fun i => .int .i32 (p i)), ?_⟩
  have h : ∀ i, i < 16 → Try.prog.keyLits (d + 1) 21 (((A16 p).toList.drop (i * 1)).take 1) = some [.int .i32 (p i)] := fun i hi => by
    have e : ((A16 p).toList.drop (i * 1)).take 1 = [.int .i32 (p i)] := by
      have := A16_at p i hi
      rw [Nat.mul_one, List.take_one, List.head?_drop, Array.getElem?_toList, this]
      rfl
    rw [e, kl_i32 d _ (hp i)]
  have hm : ((List.range 16).mapM fun i => Try.prog.keyLits (d + 1) 21 (((A16 p).toList.drop (i * 1)).take 1)) = some ((List.range 16).map fun i => [.int .i32 (p i)]) := by
    have go : ∀ l : List Nat, (∀ i ∈ l, i < 16) → (l.mapM fun i => Try.prog.keyLits (d + 1) 21 (((A16 p).toList.drop (i * 1)).take 1)) = some (l.map fun i => [.int .i32 (p i)]) := by
      intro l
      induction l with
      | nil => intro _; rfl
      | cons i r ih =>
        intro hl
        rw [List.mapM_cons, h i (hl i (List.mem_cons_self ..)), ih (fun j hj => hl j (List.mem_cons_of_mem _ hj))]
        rfl
    exact go _ (fun i hi => List.mem_range.1 hi)
  unfold Program.keyLits
  rw [Try.underlying80]
  simp only [cells_a16, cells_i32]
  rw [if_pos (show (A16 p).toList.length = 16 from rfl), hm]
  rfl
theorem wide_idn : Try.prog.keyType 82 = true := by kernel_rfl
theorem many_types : 3 ≤ Try.prog.types.size := of_decide_eq_true (by kernel_rfl)
set_option maxRecDepth 100000 in
set_option maxHeartbeats 4000000 in
theorem key_any (x : Idn) (hx : x.Ok) : ∃ kl, keyOf Try.prog 82 x.V = some kl := by
  have hs : (⟨x.s.toArray⟩ : ByteArray).size ≤ maxLen := by
    have := hx.s
    show x.s.toArray.size ≤ _
    rw [List.size_toArray]; unfold maxLen; omega
  have hp : ∀ i, (Lit.int .i32 (pad x.m i)).wf = true := fun i => by
    rcases Nat.lt_or_ge i x.m.length with h | h
    · have := pad_in hx h; exact wf32 (by omega) this.2
    · rw [pad_out h]; decide
  obtain ⟨d, hd⟩ := Nat.exists_eq_add_of_le many_types
  obtain ⟨la, hla⟩ := kl_arr (d + 1) (pad x.m) hp
  have hks := kl_str (d + 2) _ hs
  have hfm : x.V.formed Try.prog 82 = true := by
    unfold Idn.V idA Value.formed
    rw [Try.underlying82]
    simp only [cells_idn]
    rfl
  have hc : x.V.cells.toList = Value.string ⟨x.s.toArray⟩ :: (A16 (pad x.m)).toList := rfl
  have hk : ∃ l, Try.prog.keyLits (Try.prog.types.size + 1) 82 x.V.cells.toList = some l := by
    rw [hd, hc, show 3 + d + 1 = (d + 3) + 1 by omega]
    have : ∃ l, Try.prog.keyLits ((d + 3) + 1) 82 (Value.string ⟨x.s.toArray⟩ :: (A16 (pad x.m)).toList) = some l := by
      unfold Program.keyLits
      rw [Try.underlying82]
      simp only [cells_idn]
      rw [if_pos ⟨rfl, by kernel_rfl⟩]
      simp only [List.mapM_cons, List.mapM_nil, List.drop_zero, List.drop_succ_cons, cells_str, cells_a16]
      rw [show ((Value.string ⟨x.s.toArray⟩ :: (A16 (pad x.m)).toList).take 1) = [.string ⟨x.s.toArray⟩] from rfl, show ((A16 (pad x.m)).toList.take 16) = (A16 (pad x.m)).toList from rfl, hks, hla]
      exact ⟨_, rfl⟩
    exact this
  obtain ⟨l, hl⟩ := hk
  refine ⟨.string (keyBytes l), ?_⟩
  unfold keyOf
  rw [Try.underlying82]
  simp only [wide_idn, hfm, hl]
  rfl
end Go.Proofs.Yteolfkkabhileaa.Sc
end
