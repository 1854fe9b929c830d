/- What an identifier means in a scope: the program's Find, of a symbol (layer 5). -/
import Derived.Test.YteolfkkabhileaaMScFind
section
namespace Go.Proofs.Yteolfkkabhileaa.Sc
open Go.ChangeShapes Go.WideShapes Go.ChangeAt Go.RowKit
set_option linter.unusedVariables false
set_option linter.unusedSimpArgs false

def markOk (n : Nat) (M : List Int) : Bool := M.all (fun m => decide (m ≤ (n : Int)))
theorem markOk_made {T : Tab} {d : Da.Dt} (h : markOk T.marks.length d.M = true) : Made T (idn d) := fun k hk => by
  have := List.all_eq_true.1 h k hk
  simpa using this
set_option maxRecDepth 100000 in
set_option maxHeartbeats 16000000 in
/-- The datum is a symbol that may be. -/
theorem find_sym (tb : Nat) (T : Tab) (s : Nat) (d : Da.Dt) (v : Value) (B : Nat) (w : World) (vs vm : Value) (bm : Nat) (hd : Da.IsDt w (Da.Lo B) d v) (hB : B ≤ w.heap.size) (h : TabAt w tb T vs vm bm) (hs : s < T.rows.length) (h5 : d.K = 5) (hc : Da.chk d = 0) :
    Calls Try.prog 19 #[.pointer (some ⟨tb, 0, none⟩), .int .i64 (s : Int), v] w (FindIs (if markOk T.marks.length d.M = true then T.seen s (idn d) else Seen.zero) (if markOk T.marks.length d.M = true then 0 else 50) w) := by
  obtain ⟨z, hz⟩ : ∃ z, (if markOk T.marks.length d.M = true then T.seen s (idn d) else Seen.zero) = z := ⟨_, rfl⟩
  obtain ⟨er, her⟩ : ∃ er : Int, (if markOk T.marks.length d.M = true then 0 else 50) = er := ⟨_, rfl⟩
  rw [hz, her]
  have HZE := Lib.hid (And.intro hz her)
  clear hz her
  have hltT := h.lt tb (.inl rfl)
  have HT := Lib.hid h
  obtain ⟨a, c, rfl⟩ := slice_of h.rows
  obtain ⟨ma, mc, rfl⟩ := slice_of h.marks
  have HTB := Lib.hid (show w.cell? ⟨tb, 0, none⟩ = some (.slice a T.rows.length c) from (h.blk.cell 0).trans rfl)
  have HTM := Lib.hid (show w.cell? ⟨tb, 1, none⟩ = some (.slice ma T.marks.length mc) from (h.blk.cell 1).trans rfl)
  have HD := Lib.hid hd
  obtain ⟨am, cm, al, cl, at_, ct, rfl, hrest⟩ := hd.open_
  have HR := Lib.hid hrest
  obtain ⟨n1, n2⟩ := two_new w (six d am cm al cl at_ ct) #[.int .i64 0, .int .i64 0, .string ⟨#[]⟩] 33 49
  have hbX := bel_two w (.cells (six d am cm al cl at_ ct) 33) (.cells #[.int .i64 0, .int .i64 0, .string ⟨#[]⟩] 49)
  have HC : Hid (chkE T.rows.length (s : Int) = 0) := Lib.hid (by unfold chkE; rw [if_neg (by omega), if_neg (by rintro (h | h) <;> omega)])
  have H5 := Lib.hid (And.intro h5 hc)
  have HF := Lib.hid (sym_facts h5 hc)
  have HS := Lib.hid hs
  clear hd h hs h5 hc hrest
  go_enter Try.func19, Try.ntmps19
  go_upto_region 1 with (fail)
  generalize hX : (World.alloc (World.alloc w _) _) = X
  replace n1 : Da.Blk X w.heap.size 33 (six d am cm al cl at_ ct) := by rw [← hX]; exact n1
  replace n2 : Da.Blk X (w.heap.size + 1) 49 #[.int .i64 0, .int .i64 0, .string ⟨#[]⟩] := by rw [← hX]; exact n2
  replace hbX : Below w.heap.size w X := by rw [← hX]; exact hbX
  have hXs : X.heap.size = w.heap.size + 2 := by rw [← hX]; simp
  clear hX
  have HN1 := Lib.hid n1
  have HN2 := Lib.hid n2
  have HBX := Lib.hid hbX
  have HXS := Lib.hid hXs
  clear n1 n2 hbX hXs
  go_wp2_with fail
  refine (check_any tb a T.rows.length c _ _ ((HBX.out.cell (p := ⟨tb, 0, none⟩) hltT).trans HTB.out)).mono ?_
  rintro e w2 ⟨rfl, rfl⟩
  rw [HC.out]
  have e0 : X.cell? ⟨w.heap.size, 0, none⟩ = some (.int .i64 d.K) := (HN1.out.cell 0).trans rfl
  have e1 : X.cell? ⟨w.heap.size, 1, none⟩ = some (.int .i64 d.N) := (HN1.out.cell 1).trans rfl
  have e2 : X.cell? ⟨w.heap.size, 2, none⟩ = some (.string d.S) := (HN1.out.cell 2).trans rfl
  have e3 : X.cell? ⟨w.heap.size, 3, none⟩ = some (.slice am d.M.length cm) := (HN1.out.cell 3).trans rfl
  have e4 : X.cell? ⟨w.heap.size, 4, none⟩ = some (.slice al d.L.length cl) := (HN1.out.cell 4).trans rfl
  have e5 : X.cell? ⟨w.heap.size, 5, none⟩ = some (.slice at_ d.T.length ct) := (HN1.out.cell 5).trans rfl
  go_wp2_with fail
  refine (identify_good d _ B _ (HD.out.below (HBX.out.mono hB)) (by have := HXS.out; omega) H5.out.1 H5.out.2).mono ?_
  rintro e w3 ⟨rfl, hb3⟩
  have hn3 : zeroBk w3 (w.heap.size + 1) := (hb3.block _ (by have := HXS.out; omega)).trans HN2.out
  have hn1 : Da.Blk w3 w.heap.size 33 (six d am cm al cl at_ ct) := (hb3.block _ (by have := HXS.out; omega)).trans HN1.out
  have HN3 := Lib.hid (And.intro hn3 hn1)
  have HB3 := Lib.hid (HBX.out.trans (hb3.mono HBX.out.size))
  have hlt3 : w.heap.size + 1 < w3.heap.size := (Array.getElem?_eq_some_iff.1 hn3).1
  clear hb3 hn3 hn1 e0 e1 e2 e3 e4 e5 HN1 HN2 HBX HXS
  go_upto_region 5 with (refine wpList_store_row rfl 82 (.tmp 9) (.tmp 23) rfl w3.heap.size (A17 (idn d).s (pad (idn d).m)) rfl rfl 82 (A17 [] (fun _ => 0)) (heap_alloc_new w3 _) info_id rfl (A17_one _ _) ?_)
  generalize hX4 : (World.setRow (World.alloc w3 _) w3.heap.size (A17 (idn d).s (pad (idn d).m))) = W4
  have hb4 : Below w3.heap.size w3 W4 := by rw [← hX4]; exact bel_row ((Below.refl _ _).alloc (Nat.le_refl _) _) _ _ (Nat.le_refl _)
  have HI4 := Lib.hid (show Bk W4 w3.heap.size (idn d).s (pad (idn d).m) by rw [← hX4]; exact (show Bk (w3.alloc _) w3.heap.size [] (fun _ => 0) from heap_alloc_new w3 _).row)
  have HN4 := Lib.hid (show Da.Blk W4 (w.heap.size + 1) 49 #[.int .i64 0, .int .i64 0, .string ⟨#[]⟩] from (hb4.block _ hlt3).trans HN3.out.1)
  have hn1 : Da.Blk W4 w.heap.size 33 (six d am cm al cl at_ ct) := (hb4.block _ (by omega)).trans HN3.out.2
  have HB4 := Lib.hid (HB3.out.trans (hb4.mono HB3.out.size))
  have HSZ := Lib.hid hb4.size
  have e3 : W4.cell? ⟨w.heap.size, 3, none⟩ = some (.slice am d.M.length cm) := (hn1.cell 3).trans rfl
  have em : W4.cell? ⟨tb, 1, none⟩ = some (.slice ma T.marks.length mc) := (HB4.out.cell (p := ⟨tb, 1, none⟩) hltT).trans HTM.out
  clear hX4 hb4 hn1 HN3 HB3
  go_wp2_with fail
  go_loop [31] (fun i => ∃ k : Nat, k ≤ d.M.length ∧ i = .int .i64 (k : Int) ∧ Hid (∀ j, j < k → pad d.M j ≤ (T.marks.length : Int))) (fun i => d.M.length - (intOf i).toNat)
  case atStart => exact ⟨0, Nat.zero_le _, rfl, Lib.hid (fun j hj => absurd hj (Nat.not_lt_zero _))⟩
  case round =>
    obtain ⟨k, hk, rfl, hall⟩ := hrel
    by_cases hlk : k < d.M.length
    · have dl : decide ((k : Int) < (d.M.length : Int)) = true := by simp [hlk]
      have i1 : (k : Int) < (d.M.length : Int) := by omega
      have hk16 : d.M.length ≤ 16 := HF.out.1.m
      obtain ⟨g, off, rfl, hg, hcell⟩ := HR.out.2.2.2.1.2.2.2.2.2.2 k hlk
      have cm_ : W4.cell? ⟨g, off + k, none⟩ = some (.int .i64 (pad d.M k)) := by
        rw [HB4.out.cell (p := ⟨g, off + k, none⟩) (Nat.lt_of_lt_of_le hg hB)]; exact hcell
      clear hcell
      by_cases hmk : pad d.M k ≤ (T.marks.length : Int)
      · have dm : decide ((T.marks.length : Int) < pad d.M k) = false := decide_eq_false (by omega)
        have hnx : Hid (∀ j, j < k + 1 → pad d.M j ≤ (T.marks.length : Int)) := Lib.hid (fun j hj => by
          rcases Nat.lt_or_ge j k with h | h
          · exact hall.out j h
          · obtain rfl : j = k := by omega
            exact hmk)
        clear hmk
        generalize pad d.M k = m at *
        go_wp2_with fail
        go_round
        case rel => exact ⟨k + 1, hlk, by go_num, hnx⟩
        case measure => simp [intOf]; omega
      · have dm : decide ((T.marks.length : Int) < pad d.M k) = true := decide_eq_true (by omega)
        have hno : markOk T.marks.length d.M = false := by
          rw [Bool.eq_false_iff]
          intro he
          have := List.all_eq_true.1 he (pad d.M k) (by unfold pad; rw [List.getD_eq_getElem?_getD, List.getElem?_eq_getElem hlk]; exact List.getElem_mem hlk)
          exact hmk (by simpa using this)
        have HNO := Lib.hid hno
        clear hmk hno
        generalize pad d.M k = m at *
        go_wp2_with (refine wpList_store_row rfl 49 (.tmp 6) (.tmp 42) rfl (w.heap.size + 1) (seenC Seen.zero) rfl rfl 49 _ HN4.out info_seen rfl (seenC_one _) ?_)
        have hze := HZE.out
        rw [HNO.out, if_neg (by decide), if_neg (by decide)] at hze
        rw [← hze.1, ← hze.2]
        exact find_fin w _ _ Seen.zero 50 (w.heap.size + 1) rfl rfl (setRow_heap _ _ _ _ _ _ HN4.out) (bel_row HB4.out (w.heap.size + 1) _ (by omega))
    · have dl : decide ((k : Int) < (d.M.length : Int)) = false := by simp [hlk]
      obtain rfl : k = d.M.length := by omega
      have hyes : markOk T.marks.length d.M = true := by
        rw [markOk, List.all_eq_true]
        intro m hm
        obtain ⟨j, hj, rfl⟩ := List.getElem_of_mem hm
        have := hall.out j hj
        unfold pad at this
        rw [List.getD_eq_getElem?_getD, List.getElem?_eq_getElem hj] at this
        simpa using this
      have HYES := Lib.hid hyes
      clear hyes hlk hall
      go_wp2_with (refine load_id (.tmp 9) w3.heap.size 0 (idn d) rfl rfl rfl (At.of_Bk HI4.out) ?_)
      refine (resolve_any tb T (idn d) s _ _ _ bm HF.out.1 (markOk_made HYES.out) (HT.out.bel HB4.out) HS.out).mono ?_
      rintro e w5 ⟨rfl, hb5⟩
      have HN5 := Lib.hid (show Da.Blk w5 (w.heap.size + 1) 49 #[.int .i64 0, .int .i64 0, .string ⟨#[]⟩] from (hb5.block _ (Array.getElem?_eq_some_iff.1 HN4.out).1).trans HN4.out)
      have HB5 := Lib.hid (HB4.out.trans (hb5.mono HB4.out.size))
      clear hb5 e3 em
      go_wp2_with (refine wpList_store_row rfl 49 (.tmp 6) (.tmp 47) rfl (w.heap.size + 1) (seenC (T.seen s (idn d))) rfl rfl 49 _ HN5.out info_seen rfl (seenC_one _) ?_)
      have hze := HZE.out
      rw [HYES.out, if_pos rfl, if_pos rfl] at hze
      rw [← hze.1, ← hze.2]
      exact find_fin w _ _ (T.seen s (idn d)) 0 (w.heap.size + 1) rfl rfl (setRow_heap _ _ _ _ _ _ HN5.out) (bel_row HB5.out (w.heap.size + 1) _ (by omega))
end Go.Proofs.Yteolfkkabhileaa.Sc
end
