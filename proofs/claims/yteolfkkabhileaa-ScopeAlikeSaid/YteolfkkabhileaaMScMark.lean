/- A mark more (layer 5): the program's Mark. -/
import Derived.Maps.AppendAt
import Derived.Deep.Cut
import Derived.Test.YteolfkkabhileaaMScSee
section
namespace Go.Proofs.Yteolfkkabhileaa.Sc
open Go.ChangeShapes Go.WideShapes Go.ChangeAt Go.RowKit
set_option linter.unusedVariables false
set_option linter.unusedSimpArgs false

theorem marksC_len (l : List Nat) : (marksC l).length = l.length := List.length_map _
theorem marksC_snoc (l : List Nat) (s : Nat) : marksC (l ++ [s]) = marksC l ++ [.int .i64 (s : Int)] := by unfold marksC; rw [List.map_append]; rfl
/-- The table behind an append to its marks. -/
theorem mark_table {w w1 : World} {tb bm s : Nat} {T : Tab} {vs vm v' : Value} {o : Obj} (h : TabAt w tb T vs vm bm) (hs : s < T.rows.length) (hf : T.marks.length < 16384)
    (hown : w1.ownsRow 0 3 1 v' (T.marks.length + 1) (marksC T.marks ++ [.int .i64 (s : Int)])) (hg : (w.alloc o).grownBy w1 vm.ownBlock) (hat : v'.ownBlock = vm.ownBlock ∨ v'.ownBlock = some (w.alloc o).heap.size) :
    TabAt (w1.setCell ⟨tb, 1, none⟩ v') tb (T.mk_ s) vs v' bm ∧ Chg (Own3 tb vs vm bm) w (w1.setCell ⟨tb, 1, none⟩ v') ∧ ∀ k, Own3 tb vs v' bm k → Own3 tb vs vm bm k ∨ w.heap.size ≤ k := by
  obtain ⟨a1, a2, a3, a4, a5⟩ := h.apart
  have hlt := h.lt
  have hsz : (w.alloc o).heap.size = w.heap.size + 1 := by simp
  have keep : ∀ k, k < w.heap.size → vm.ownBlock ≠ some k → w1.heap[k]? = w.heap[k]? := fun k hk hn =>
    (hg.block k (by omega) (fun e => hn e.symm)).trans (Below.heap_alloc _ _ _ hk)
  have hv' : v'.ownBlock ≠ some tb := by
    rcases hat with e | e
    · rw [e]; exact a2
    · rw [e, hsz]; intro e2; have := hlt tb (.inl rfl); injection e2 with e2; omega
  have kp : ∀ k, k < w.heap.size → ¬ Own3 tb vs vm bm k → (w1.setCell ⟨tb, 1, none⟩ v').heap[k]? = w.heap[k]? := fun k hk hn => by
    rw [Below.heap_setCell _ _ _ _ (fun e => hn (.inl e)), keep k hk (fun e => hn (.inr (.inr (.inl e))))]
  refine ⟨⟨h.ok.mk_ hs hf, h.ids, h.whats, ?_, ?_, ?_, ?_⟩, ⟨hg.os, hg.tape, hg.output, ?_, kp⟩, ?_⟩
  · have h1 : w1.heap[tb]? = some (.cells #[vs, vm, .map (some bm)] 73 (0, 0)) := (keep tb (hlt tb (.inl rfl)) a2).trans h.blk
    exact heap_setCell_same w1 tb 1 #[vs, vm, .map (some bm)] 73 v' h1
  · refine ownsRow_same h.rows (fun g hgv => ?_)
    rw [Below.heap_setCell _ _ _ _ (by show g ≠ tb; intro e; rw [e] at hgv; exact a1 hgv)]
    exact keep g (hlt g (.inr (.inl hgv))) (a4 g hgv).1
  · rw [show (T.mk_ s).marks = T.marks ++ [s] from rfl, marksC_snoc, List.length_append]
    refine ownsRow_same hown (fun g hgv => Below.heap_setCell _ _ _ _ (by show g ≠ tb; intro e; rw [e] at hgv; exact hv' hgv))
  · obtain ⟨D, h1, h2, h3⟩ := h.first
    refine ⟨D, ownsMap_same h1 ?_, h2, h3⟩
    rw [Below.heap_setCell _ _ _ _ (by show bm ≠ tb; exact a3)]
    exact keep bm h1.lt a5
  · have := hg.size
    show _ ≤ (w1.setCell _ _).heap.size
    have e : (w1.setCell ⟨tb, 1, none⟩ v').heap.size = w1.heap.size := by simp
    omega
  · rintro k (h1 | h1 | h1 | h1)
    · exact .inl (.inl h1)
    · exact .inl (.inr (.inl h1))
    · rcases hat with e | e
      · exact .inl (.inr (.inr (.inl (e ▸ h1))))
      · rw [e] at h1; injection h1 with h1; exact .inr (by omega)
    · exact .inl (.inr (.inr (.inr h1)))
theorem info_int : (Try.prog.info? 3).map (fun i => (i.zero, i.size, i.bytes)) = some (some (.int .i64 0), 1, 8) := by kernel_rfl
/-- The scope is not there. -/
theorem mark_err (p : Option Addr) (s : Int) (k : Int) (w : World) (hk : k ≠ 0)
    (hc : Hid (Calls Try.prog 35 #[.pointer p, .int .i64 s] w fun e w' => e = .returned (.int .i64 k) ∧ w = w')) :
    Calls Try.prog 17 #[.pointer p, .int .i64 s] w fun e w' => e = .returned (.tuple #[.int .i64 0, .int .i64 k]) ∧ w = w' := by
  have dk : (k != 0) = true := by simpa using hk
  clear hk
  go_enter Try.func17, Try.ntmps17
  go_wp2_with fail
  refine hc.out.mono ?_
  rintro e w2 ⟨rfl, rfl⟩
  go_wp2_with fail
  go_ret2
  exact ⟨rfl, rfl⟩
set_option maxRecDepth 100000 in
set_option maxHeartbeats 4000000 in
theorem mark_full (tb bm s : Nat) (T : Tab) (w : World) (vs vm : Value) (h : TabAt w tb T vs vm bm) (hs : s < T.rows.length) (hf : T.marks.length = 16384) :
    Calls Try.prog 17 #[.pointer (some ⟨tb, 0, none⟩), .int .i64 (s : Int)] w fun e w' => e = .returned (.tuple #[.int .i64 0, .int .i64 7]) ∧ w = w' := by
  obtain ⟨a, c, rfl⟩ := slice_of h.rows
  obtain ⟨ma, mc, rfl⟩ := slice_of h.marks
  have c0 : w.cell? ⟨tb, 0, none⟩ = some (.slice a T.rows.length c) := (h.blk.cell 0).trans rfl
  have c1 : w.cell? ⟨tb, 1, none⟩ = some (.slice ma T.marks.length mc) := (h.blk.cell 1).trans rfl
  have HC : Hid (chkE T.rows.length (s : Int) = 0) := Lib.hid (by unfold chkE; rw [if_neg (by omega), if_neg (by rintro (h | h) <;> omega)])
  have HK := Lib.hid (check_any tb a T.rows.length c (s : Int) w c0)
  rw [hf] at c1
  clear h hs hf c0
  go_enter Try.func17, Try.ntmps17
  go_wp2_with fail
  refine HK.out.mono ?_
  rintro e w2 ⟨rfl, rfl⟩
  rw [HC.out]
  go_wp2_with fail
  go_ret2
  exact ⟨rfl, rfl⟩
set_option maxRecDepth 100000 in
set_option maxHeartbeats 4000000 in
theorem mark_ok (tb bm s : Nat) (T : Tab) (w : World) (vs vm : Value) (h : TabAt w tb T vs vm bm) (hs : s < T.rows.length) (hf : T.marks.length < 16384) :
    Calls Try.prog 17 #[.pointer (some ⟨tb, 0, none⟩), .int .i64 (s : Int)] w fun e w' => e = .returned (.tuple #[.int .i64 ((T.marks.length : Int) + 1), .int .i64 0]) ∧
      TabIn w' tb (T.mk_ s) (fun k => Own3 tb vs vm bm k ∨ w.heap.size ≤ k) ∧ Chg (Own3 tb vs vm bm) w w' := by
  obtain ⟨i0, hi, hz0, hz1, hz2⟩ := info_parts info_int
  have HT := Lib.hid h
  obtain ⟨a, c, rfl⟩ := slice_of h.rows
  obtain ⟨ma, mc, rfl⟩ := slice_of h.marks
  have c0 : w.cell? ⟨tb, 0, none⟩ = some (.slice a T.rows.length c) := (h.blk.cell 0).trans rfl
  have c1 : w.cell? ⟨tb, 1, none⟩ = some (.slice ma T.marks.length mc) := (h.blk.cell 1).trans rfl
  have f1 : w.frozen? ⟨tb, 1, none⟩ = false := h.blk.frozen 1
  have HC : Hid (chkE T.rows.length (s : Int) = 0) := Lib.hid (by unfold chkE; rw [if_neg (by omega), if_neg (by rintro (h | h) <;> omega)])
  have HK := Lib.hid (check_any tb a T.rows.length c (s : Int) w c0)
  have d0 : ((T.marks.length : Int) == 16384) = false := by rw [beq_eq_false_iff_ne]; omega
  have hlt := h.lt tb (.inl rfl)
  have HS := Lib.hid (And.intro hs hf)
  have HM := Lib.hid h.marks
  have hap := h.apart.2.1
  clear h hs hf c0
  go_enter Try.func17, Try.ntmps17
  go_wp2_with fail
  refine HK.out.mono ?_
  rintro e w2 ⟨rfl, rfl⟩
  rw [HC.out]
  clear HK
  have N1 : Hid (∀ j u, [Value.int .i64 (s : Int)][j]? = some u → (w.alloc (.cells #[.int .i64 (s : Int)] 3)).cell? ((⟨w.heap.size, 0, none⟩ : Addr).add j) = some u) := Lib.hid (fun j u hu => by
    rw [Ld.add_at, Nat.zero_add, cell_of_row _ _ _ _ _ _ (heap_alloc_new w (.cells #[.int .i64 (s : Int)] 3))]
    simpa using hu)
  have N2 : Hid (∀ u ∈ [Value.int .i64 (s : Int)], u.oneCell' = true) := Lib.hid (fun u hu => by
    obtain rfl : u = .int .i64 (s : Int) := by simpa using hu
    rfl)
  have N3 : Hid (T.marks.length + 1 ≤ maxLen ∧ (T.marks.length + 1) * 8 ≤ 140737488355328) := Lib.hid (by have := HS.out.2; unfold maxLen; omega)
  have HAP := Lib.hid hap
  clear hap d0
  have d0 : ((T.marks.length : Int) == 16384) = false := by have := HS.out.2; rw [beq_eq_false_iff_ne]; omega
  go_wp2_with (at_builtin; (refine wpList_append_own_at _ rfl (.tmp 23) (.tmp 25) _ rfl 0 3 i0 _ 1 8 Try.underlying30 hi hz0 hz1 hz2 rfl (Nat.zero_lt_one) _ T.marks.length (marksC T.marks) rfl (HM.out.alloc _) ⟨w.heap.size, 0, none⟩ 1 1 [.int .i64 (s : Int)] rfl rfl N1.out N2.out N3.out.1 N3.out.2 (Nat.zero_le _) ?_; intro v1 w1 hown1 hg1 hn1 hat1; obtain ⟨va, vc, rfl⟩ := slice_of hown1; have hbk : Da.Blk w1 tb 73 #[.slice a T.rows.length c, .slice ma T.marks.length mc, .map (some bm)] := (hg1.block tb (by rw [World.size_alloc]; exact Nat.lt_succ_of_lt hlt) (fun e => HAP.out e.symm)).trans ((Below.heap_alloc _ _ _ hlt).trans HT.out.blk); have k1 : w1.cell? ⟨tb, 1, none⟩ = some (.slice ma T.marks.length mc) := (hbk.cell 1).trans rfl; have k2 : w1.frozen? ⟨tb, 1, none⟩ = false := hbk.frozen 1; have HE := Lib.hid (And.intro hown1 (And.intro hg1 hat1)); clear hown1 hg1 hn1 hat1 hbk))
  go_ret2
  obtain ⟨hown1, hg1, hat1⟩ := HE.out
  obtain ⟨r1, r2, r3⟩ := mark_table HT.out HS.out.1 HS.out.2 hown1 hg1 hat1
  exact ⟨by go_num, ⟨_, _, bm, r1, r3⟩, r2⟩
end Go.Proofs.Yteolfkkabhileaa.Sc
end
