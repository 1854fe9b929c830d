/- What an identifier means in a scope: the program's Find (layer 5). -/
import Derived.Laws.ResultCell
import Derived.Test.YteolfkkabhileaaMScResolve
import Derived.Test.YteolfkkabhileaaMScIdent4
section
namespace Go.Proofs.Yteolfkkabhileaa.Sc
open Go.ChangeShapes Go.WideShapes Go.ChangeAt Go.RowKit
set_option linter.unusedVariables false
set_option linter.unusedSimpArgs false

def Seen.zero : Seen := ⟨0, 0, []⟩
/-- Find's answer, two values. -/
def FindIs (z : Seen) (k : Int) (w : World) (e : Ending) (w' : World) : Prop := e = .returned (.tuple #[z.V, .int .i64 k]) ∧ Below w.heap.size w w'
theorem find_fin (w W : World) (tm : Array Value) (z : Seen) (k : Int) (r : Nat) (h6 : tm.getD 6 undef = .pointer (some ⟨r, 0, none⟩)) (h7 : tm.getD 7 undef = .int .i64 k) (hb : Da.Blk W r 49 (seenC z)) (hbel : Below w.heap.size w W) :
    bodyPost Try.prog Try.f19 (FindIs z k w) Exit.ret { tmps := tm, defers := [] } W := by
  refine bodyPost_ret (v := .tuple #[z.V, .int .i64 k]) ?_ rfl ⟨rfl, hbel⟩
  rw [results_cell_tmp (show Try.f19.results = #[.cell 6 49, .tmp 7] from rfl), h6, h7]
  have hr := run_loadVar_row (P := Try.prog) W r 49 49 (seenC z) (0, 0) _ hb Try.underlying49 rfl info_seen
  simp [asAddr, hr, Result.andThen, Seen.V, seenC]
def zeroBk (w : World) (b : Nat) : Prop := Da.Blk w b 49 #[.int .i64 0, .int .i64 0, .string ⟨#[]⟩]
theorem datum_two (d : Da.Dt) (v : Value) (w : World) (B : Nat) (hd : Da.IsDt w (Da.Lo B) d v) (hB : B ≤ w.heap.size) : ∃ am cm al cl at_ ct, v = .agg (six d am cm al cl at_ ct) := by
  obtain ⟨am, cm, al, cl, at_, ct, rfl, _⟩ := hd.open_
  exact ⟨am, cm, al, cl, at_, ct, rfl⟩
set_option maxRecDepth 100000 in
set_option maxHeartbeats 8000000 in
/-- The scope is not there. -/
theorem find_err (p : Option Addr) (s : Int) (d : Da.Dt) (v : Value) (B : Nat) (k : Int) (w : World) (hd : Da.IsDt w (Da.Lo B) d v) (hk : k ≠ 0)
    (hc : Hid (∀ w2, Below w.heap.size w w2 → Calls Try.prog 35 #[.pointer p, .int .i64 s] w2 fun e w' => e = .returned (.int .i64 k) ∧ w2 = w')) :
    Calls Try.prog 19 #[.pointer p, .int .i64 s, v] w (FindIs Seen.zero k w) := by
  obtain ⟨am, cm, al, cl, at_, ct, rfl, _⟩ := hd.open_
  have dk : (k != 0) = true := by simpa using hk
  have HN := Lib.hid (two_new w (six d am cm al cl at_ ct) #[.int .i64 0, .int .i64 0, .string ⟨#[]⟩] 33 49).2
  have HB := Lib.hid (bel_two w (.cells (six d am cm al cl at_ ct) 33) (.cells #[.int .i64 0, .int .i64 0, .string ⟨#[]⟩] 49))
  clear hd hk
  go_enter Try.func19, Try.ntmps19
  go_wp2_with fail
  refine (hc.out _ HB.out).mono ?_
  rintro e w2 ⟨rfl, rfl⟩
  go_wp2_with (refine wpList_store_row rfl 49 (.tmp 6) (.tmp 18) rfl (w.heap.size + 1) (seenC Seen.zero) rfl rfl 49 _ HN.out info_seen rfl (seenC_one _) ?_)
  exact find_fin w _ _ Seen.zero k (w.heap.size + 1) rfl rfl (setRow_heap _ _ _ _ _ _ HN.out) (bel_row HB.out (w.heap.size + 1) _ (by omega))
set_option maxRecDepth 100000 in
set_option maxHeartbeats 8000000 in
/-- The datum is no symbol that may be. -/
theorem find_form (tb : Nat) (a : Option Addr) (n c : Nat) (s : Nat) (d : Da.Dt) (v : Value) (B : Nat) (w : World) (hd : Da.IsDt w (Da.Lo B) d v) (hB : B ≤ w.heap.size) (htb : w.cell? ⟨tb, 0, none⟩ = some (.slice a n c)) (hs : s < n) (hbad : ¬ (d.K = 5 ∧ Da.chk d = 0)) :
    Calls Try.prog 19 #[.pointer (some ⟨tb, 0, none⟩), .int .i64 (s : Int), v] w (FindIs Seen.zero 5 w) := by
  have hltT := World.block_lt_of_cell? w _ htb
  have HD := Lib.hid hd
  obtain ⟨am, cm, al, cl, at_, ct, rfl, _⟩ := hd.open_
  obtain ⟨n1, n2⟩ := two_new w (six d am cm al cl at_ ct) #[.int .i64 0, .int .i64 0, .string ⟨#[]⟩] 33 49
  have hbX := bel_two w (.cells (six d am cm al cl at_ ct) 33) (.cells #[.int .i64 0, .int .i64 0, .string ⟨#[]⟩] 49)
  have HC : Hid (chkE n (s : Int) = 0) := Lib.hid (by unfold chkE; rw [if_neg (by omega), if_neg (by rintro (h | h) <;> omega)])
  have HBAD := Lib.hid hbad
  have HTB := Lib.hid htb
  clear hd htb hbad hs
  go_enter Try.func19, Try.ntmps19
  go_upto_region 1 with (fail)
  generalize hX : (World.alloc (World.alloc w _) _) = X
  replace n1 : Da.Blk X w.heap.size 33 (six d am cm al cl at_ ct) := by rw [← hX]; exact n1
  replace n2 : Da.Blk X (w.heap.size + 1) 49 #[.int .i64 0, .int .i64 0, .string ⟨#[]⟩] := by rw [← hX]; exact n2
  replace hbX : Below w.heap.size w X := by rw [← hX]; exact hbX
  have hXs : X.heap.size = w.heap.size + 2 := by rw [← hX]; simp
  clear hX
  have HN1 := Lib.hid n1
  have HN2 := Lib.hid n2
  have HBX := Lib.hid hbX
  have HXS := Lib.hid hXs
  clear n1 n2 hbX hXs
  go_wp2_with fail
  refine (check_any tb a n c _ _ ((HBX.out.cell (p := ⟨tb, 0, none⟩) hltT).trans HTB.out)).mono ?_
  rintro e w2 ⟨rfl, rfl⟩
  rw [HC.out]
  have e0 : X.cell? ⟨w.heap.size, 0, none⟩ = some (.int .i64 d.K) := (HN1.out.cell 0).trans rfl
  have e1 : X.cell? ⟨w.heap.size, 1, none⟩ = some (.int .i64 d.N) := (HN1.out.cell 1).trans rfl
  have e2 : X.cell? ⟨w.heap.size, 2, none⟩ = some (.string d.S) := (HN1.out.cell 2).trans rfl
  have e3 : X.cell? ⟨w.heap.size, 3, none⟩ = some (.slice am d.M.length cm) := (HN1.out.cell 3).trans rfl
  have e4 : X.cell? ⟨w.heap.size, 4, none⟩ = some (.slice al d.L.length cl) := (HN1.out.cell 4).trans rfl
  have e5 : X.cell? ⟨w.heap.size, 5, none⟩ = some (.slice at_ d.T.length ct) := (HN1.out.cell 5).trans rfl
  go_wp2_with fail
  refine (identify_bad d _ B _ (HD.out.below (HBX.out.mono hB)) (by have := HXS.out; omega) HBAD.out).mono ?_
  rintro e w3 ⟨rfl, hb3⟩
  have hn3 : zeroBk w3 (w.heap.size + 1) := (hb3.block _ (by have := HXS.out; omega)).trans HN2.out
  have HN3 := Lib.hid hn3
  have HB3 := Lib.hid (HBX.out.trans (hb3.mono HBX.out.size))
  have hlt3 : w.heap.size + 1 < w3.heap.size := (Array.getElem?_eq_some_iff.1 hn3).1
  clear hb3 hn3 e0 e1 e2 e3 e4 e5
  unfold zeroId
  go_upto_region 5 with (refine wpList_store_row rfl 82 (.tmp 9) (.tmp 23) rfl w3.heap.size (A17 [] (fun _ => 0)) rfl rfl 82 (A17 [] (fun _ => 0)) (heap_alloc_new w3 _) info_id rfl (A17_one _ _) ?_)
  generalize hX4 : (World.setRow (World.alloc w3 _) w3.heap.size (A17 [] (fun _ => 0))) = W4
  have hb4 : Below w3.heap.size w3 W4 := by rw [← hX4]; exact bel_row ((Below.refl _ _).alloc (Nat.le_refl _) _) _ _ (Nat.le_refl _)
  have HN4 := Lib.hid (show Da.Blk W4 (w.heap.size + 1) 49 #[.int .i64 0, .int .i64 0, .string ⟨#[]⟩] from (hb4.block _ hlt3).trans HN3.out)
  have HB4 := Lib.hid (HB3.out.trans (hb4.mono HB3.out.size))
  clear hX4 hb4
  go_wp2_with (refine wpList_store_row rfl 49 (.tmp 6) (.tmp 27) rfl (w.heap.size + 1) (seenC Seen.zero) rfl rfl 49 _ HN4.out info_seen rfl (seenC_one _) ?_)
  exact find_fin w _ _ Seen.zero 5 (w.heap.size + 1) rfl rfl (setRow_heap _ _ _ _ _ _ HN4.out) (bel_row HB4.out (w.heap.size + 1) _ (by omega))
end Go.Proofs.Yteolfkkabhileaa.Sc
end
