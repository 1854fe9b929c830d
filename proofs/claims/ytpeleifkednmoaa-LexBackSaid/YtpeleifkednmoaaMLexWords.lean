/- The words of a text (layer 3): the program's function. -/
import Derived.OwnWalk
import Derived.Maps.AppendAt
import Derived.Test.YtpeleifkednmoaaMLexWordsMath
section
namespace Go.Proofs.Ytpeleifkednmoaa.Lx
open Go.ChangeShapes Go.WideShapes Go.ChangeAt Go.RowKit
set_option linter.unusedVariables false

theorem tok_info : (Try.prog.info? 26).map (fun i => (i.zero, i.size, i.bytes)) = some (some (.agg #[.int .i64 0, .int .i64 0, .int .i64 0, .int .i64 0, .string ⟨#[]⟩]), 5, 48) := by kernel_rfl
/-- Words in memory of the call's own. -/
def WordsP (R : WR) (w : World) (e : Ending) (w' : World) : Prop :=
  ∃ a c, e = .returned (.tuple #[.slice a R.toks.length c, .int .i64 R.p, .int .i64 R.e]) ∧ Below w.heap.size w w' ∧ w'.ownsRow w.heap.size 26 5 (.slice a R.toks.length c) R.toks.length (cellsV R.toks)
theorem words_none (p e : Int) (w w' : World) (hb : Below w.heap.size w w') : WordsP ⟨[], p, e⟩ w (.returned (.tuple #[.slice none 0 0, .int .i64 p, .int .i64 e])) w' := ⟨none, 0, rfl, hb, World.ownsRow_nil _ _ _ _⟩
theorem cells_new (w : World) (c : Array Value) (t : TypeId) : ∀ j u, c.toList[j]? = some u → (w.alloc (.cells c t)).cell? ((⟨w.heap.size, 0, none⟩ : Addr).add j) = some u := by
  intro j u h
  have hb : Blk (w.alloc (.cells c t)) w.heap.size t c := heap_alloc_new w _
  have ha : (⟨w.heap.size, 0, none⟩ : Addr).add j = ⟨w.heap.size, j, none⟩ := by unfold Addr.add; split <;> simp_all
  rw [ha, hb.cell j, ← h]
  simp
def muW (n : Nat) (i x : Value) : Nat := 2 * (n - (intOf i).toNat) + (if intOf x = 0 then 1 else 0)
theorem muW_on {n a m : Nat} {e : Int} (h1 : a < m) (h2 : m ≤ n) : muW n (.int .i64 (m : Int)) (.int .i64 e) < muW n (.int .i64 (a : Int)) (.int .i64 0) := by
  unfold muW
  show 2 * (n - ((m : Int)).toNat) + (if e = 0 then 1 else 0) < 2 * (n - ((a : Int)).toNat) + (if (0 : Int) = 0 then 1 else 0)
  rw [if_pos rfl, Int.toNat_natCast, Int.toNat_natCast]
  split <;> omega
theorem muW_bad {n a : Nat} {e : Int} (h : e ≠ 0) : muW n (.int .i64 (a : Int)) (.int .i64 e) < muW n (.int .i64 (a : Int)) (.int .i64 0) := by
  unfold muW
  show 2 * (n - ((a : Int)).toNat) + (if e = 0 then 1 else 0) < 2 * (n - ((a : Int)).toNat) + (if (0 : Int) = 0 then 1 else 0)
  rw [if_pos rfl, if_neg h]
  omega
def WordAt (l : Bs) (w : World) (T : WR) (v i x : Value) (wr : World) : Prop :=
  ∃ (a : Nat) (acc : List Tk) (e : Int), a ≤ l.length ∧ acc.length ≤ 4096 ∧ i = .int .i64 (a : Int) ∧ x = .int .i64 e ∧ wr.ownsRow w.heap.size 26 5 v acc.length (cellsV acc) ∧ Below w.heap.size w wr ∧ T = wordsF (l.length - a + 1) l a e acc
set_option maxRecDepth 100000 in
set_option maxHeartbeats 4000000 in
theorem words_loop (s : ByteArray) (w : World) (hs : (s.size : Int) ≤ 16384) (hn : Hid (nightI s.data.toList = -1)) (T : WR) (hT : Hid (wordsF (s.data.toList.length + 1) s.data.toList (skipN s.data.toList) (skipE s.data.toList) [] = T)) :
    Calls Try.prog 11 #[.string s] w (WordsP T w) := by
  have d1 : decide ((s.size : Int) > 16384) = false := by simpa using hs
  have Hs : Hid (s.size < maxLen ∧ s.size ≤ maxLen ∧ s.size ≤ 140737488351232) := by show _ ∧ _; simp only [maxLen]; omega
  have hk0 := skipN_le s.data.toList
  rw [len_of] at hk0
  have HNI := Lib.hid (night_any s · Hs.out.2.1)
  rw [hn.out] at HNI
  have HSK := Lib.hid (skip_any s 0 · Hs.out.1 (Nat.zero_le _))
  rw [List.drop_zero, Nat.zero_add] at HSK
  have hT0 : T = wordsF (s.data.toList.length - skipN s.data.toList + 1) s.data.toList (skipN s.data.toList) (skipE s.data.toList) [] := by
    rw [← hT.out]
    exact wordsF_more _ _ _ _ _ _ (by omega) (by omega)
  have HT0 := Lib.hid hT0
  clear hT hT0 hn
  obtain ⟨k0, hk⟩ : ∃ k, skipN s.data.toList = k := ⟨_, rfl⟩
  obtain ⟨e0, he⟩ : ∃ k, skipE s.data.toList = k := ⟨_, rfl⟩
  rw [hk, he] at HT0 HSK
  rw [hk] at hk0
  clear hk he
  obtain ⟨i0, hi, hz0, hz1, hz2⟩ := info_parts tok_info
  go_enter Try.func11, Try.ntmps11
  go_wp2_with (first | (go_at_call 27; refine (HNI.out _).mono ?_; rintro e w' ⟨rfl, rfl⟩) | (go_at_call 28; refine (HSK.out _).mono ?_; rintro e w' ⟨rfl, rfl⟩))
  clear HNI HSK
  go_loopw [6, 7, 8] (fun v i x wr => WordAt s.data.toList w T v i x wr) (fun _ i x _ => muW s.size i x)
  case atStart => exact ⟨k0, [], e0, by rw [len_of]; exact hk0, Nat.zero_le _, rfl, rfl, World.ownsRow_nil _ _ _ _, Below.refl _ _, HT0.out⟩
  case round =>
    clear HT0 hk0
    obtain ⟨a, acc, e, ha, hacc, rfl, rfl, hown, hbel, hT⟩ := hrel
    rw [len_of] at ha hT
    have HT := Lib.hid hT
    have Hown := Lib.hid hown
    have Hbel := Lib.hid hbel
    have hsz := hbel.size
    clear hT hown hbel
    by_cases hlt : a < s.size
    · have dl : decide ((a : Int) < (s.size : Int)) = true := by simp [hlt]
      have hlt' : Hid (a < s.data.toList.length) := by show a < _; rw [len_of]; exact hlt
      by_cases h0 : e = 0
      · subst h0
        have d0 : ((0 : Int) == 0) = true := rfl
        obtain ⟨va, vc, rfl⟩ := own_slice Hown.out
        by_cases hf : acc.length = 4096
        · have hT2 : T = ⟨[], a, 3⟩ := by rw [HT.out, ← len_of]; exact wordsF_full hlt'.out acc hf _
          subst hT2
          have df : ((acc.length : Int) == 4096) = true := by simp; omega
          have hf' := Lib.hid hf
          clear hf HT
          go_wp2_with fail
          go_ret3
          exact words_none _ _ _ _ Hbel.out
        · have df : ((acc.length : Int) == 4096) = false := by simp; omega
          have HSC := Lib.hid (scan_any s a · Hs.out.2.2 hlt)
          by_cases he : (scanR (s.data.toList.drop a)).e = 0
          · have hst := wordsF_step hlt'.out acc hf he
            rw [len_of, ← HT.out] at hst
            have hz := scanR_z (drop_ne hlt'.out) he
            rw [List.length_drop, len_of] at hz
            have hR : scV (scanR (s.data.toList.drop a)) a = tokV (scanR (s.data.toList.drop a)).k a ((a + (scanR (s.data.toList.drop a)).z : Nat) : Int) (scanR (s.data.toList.drop a)).n (scanR (s.data.toList.drop a)).S := by unfold scV; rw [if_pos he]
            rw [hR, he] at HSC
            clear hR he
            have hfN : acc.length < 4096 := by omega
            clear hf
            generalize scanR (s.data.toList.drop a) = R at *
            obtain ⟨k, n, S, z, e⟩ := R
            simp only [Sc.tk] at hst hz HSC
            obtain ⟨hz1', hz2'⟩ := hz
            have haz : a + z ≤ s.size := by omega
            have HK : Hid (∀ w : World, Calls Try.prog 28 #[.string s, .int .i64 ((a : Int) + (z : Int))] w fun e w' => e = .returned (.tuple #[.int .i64 ((a + z + skipN (s.data.toList.drop (a + z)) : Nat) : Int), .int .i64 (skipE (s.data.toList.drop (a + z)))]) ∧ w = w') := fun w => skip_any s (a + z) w Hs.out.1 haz
            have hsl := skipN_le (s.data.toList.drop (a + z))
            rw [List.length_drop, len_of] at hsl
            obtain ⟨m, hm⟩ : ∃ m, a + z + skipN (s.data.toList.drop (a + z)) = m := ⟨_, rfl⟩
            obtain ⟨e', he'⟩ : ∃ m, skipE (s.data.toList.drop (a + z)) = m := ⟨_, rfl⟩
            rw [hm, he'] at hst HK
            have hmb : a < m ∧ m ≤ s.size := by omega
            clear hm he'
            have HST := Lib.hid hst
            clear hst
            go_wp2_with fail
            refine (HSC.out _).mono ?_
            rintro e1 w2 ⟨rfl, hb⟩
            simp only [tokV]
            have BT := Lib.hid ((show Blk (wr.alloc (.cells #[.int .i64 0, .int .i64 0, .int .i64 0, .int .i64 0, .string ⟨#[]⟩] 26)) wr.heap.size 26 #[.int .i64 0, .int .i64 0, .int .i64 0, .int .i64 0, .string ⟨#[]⟩] from heap_alloc_new wr _).bel hb)
            have HW2 := Lib.hid (bel_trans (bel_alloc wr (.cells #[.int .i64 0, .int .i64 0, .int .i64 0, .int .i64 0, .string ⟨#[]⟩] 26)) hb)
            clear hb HSC
            have ct0 : w2.cell? ⟨wr.heap.size, 0, none⟩ = some (.int .i64 0) := (BT.out.cell 0).trans rfl
            have ft0 : w2.frozen? ⟨wr.heap.size, 0, none⟩ = false := BT.out.frozen 0
            have ct1 : w2.cell? ⟨wr.heap.size, 1, none⟩ = some (.int .i64 0) := (BT.out.cell 1).trans rfl
            have ft1 : w2.frozen? ⟨wr.heap.size, 1, none⟩ = false := BT.out.frozen 1
            have ct2 : w2.cell? ⟨wr.heap.size, 2, none⟩ = some (.int .i64 0) := (BT.out.cell 2).trans rfl
            have ft2 : w2.frozen? ⟨wr.heap.size, 2, none⟩ = false := BT.out.frozen 2
            have ct3 : w2.cell? ⟨wr.heap.size, 3, none⟩ = some (.int .i64 0) := (BT.out.cell 3).trans rfl
            have ft3 : w2.frozen? ⟨wr.heap.size, 3, none⟩ = false := BT.out.frozen 3
            have ct4 : w2.cell? ⟨wr.heap.size, 4, none⟩ = some (.string ⟨#[]⟩) := (BT.out.cell 4).trans rfl
            have ft4 : w2.frozen? ⟨wr.heap.size, 4, none⟩ = false := BT.out.frozen 4
            have z0 : wr.heap.size < w2.heap.size := BT.out.lt
            go_upto_region 13 with (fail)
            clear ct0 ct1 ct2 ct3 ct4 ft0 ft1 ft2 ft3 ft4 z0
            have BT3 : Blk (((((w2.setCell ⟨wr.heap.size, 0, none⟩ (.int .i64 k)).setCell ⟨wr.heap.size, 1, none⟩ (.int .i64 (a : Int))).setCell ⟨wr.heap.size, 2, none⟩ (.int .i64 ((a : Int) + (z : Int)))).setCell ⟨wr.heap.size, 3, none⟩ (.int .i64 n)).setCell ⟨wr.heap.size, 4, none⟩ (.string ⟨S.toArray⟩)) wr.heap.size 26 #[.int .i64 k, .int .i64 (a : Int), .int .i64 ((a : Int) + (z : Int)), .int .i64 n, .string ⟨S.toArray⟩] := (((((BT.out.set _ _).set _ _).set _ _).set _ _).set _ _).as rfl
            have HB3 : Below wr.heap.size wr (((((w2.setCell ⟨wr.heap.size, 0, none⟩ (.int .i64 k)).setCell ⟨wr.heap.size, 1, none⟩ (.int .i64 (a : Int))).setCell ⟨wr.heap.size, 2, none⟩ (.int .i64 ((a : Int) + (z : Int)))).setCell ⟨wr.heap.size, 3, none⟩ (.int .i64 n)).setCell ⟨wr.heap.size, 4, none⟩ (.string ⟨S.toArray⟩)) := (((((HW2.out.setCell (Nat.le_refl _) _).setCell (Nat.le_refl _) _).setCell (Nat.le_refl _) _).setCell (Nat.le_refl _) _).setCell (Nat.le_refl _) _)
            generalize (((((w2.setCell ⟨wr.heap.size, 0, none⟩ (.int .i64 k)).setCell ⟨wr.heap.size, 1, none⟩ (.int .i64 (a : Int))).setCell ⟨wr.heap.size, 2, none⟩ (.int .i64 ((a : Int) + (z : Int)))).setCell ⟨wr.heap.size, 3, none⟩ (.int .i64 n)).setCell ⟨wr.heap.size, 4, none⟩ (.string ⟨S.toArray⟩)) = w3 at BT3 HB3 ⊢
            clear BT HW2
            have BT := Lib.hid BT3
            have HB := Lib.hid HB3
            have hown3 := own_below Hown.out HB3
            have HO3 := Lib.hid hown3
            clear BT3 HB3 hown3
            have ct0 : w3.cell? ⟨wr.heap.size, 0, none⟩ = some (.int .i64 k) := (BT.out.cell 0).trans rfl
            have ft0 : w3.frozen? ⟨wr.heap.size, 0, none⟩ = false := BT.out.frozen 0
            have ct1 : w3.cell? ⟨wr.heap.size, 1, none⟩ = some (.int .i64 (a : Int)) := (BT.out.cell 1).trans rfl
            have ft1 : w3.frozen? ⟨wr.heap.size, 1, none⟩ = false := BT.out.frozen 1
            have ct2 : w3.cell? ⟨wr.heap.size, 2, none⟩ = some (.int .i64 ((a : Int) + (z : Int))) := (BT.out.cell 2).trans rfl
            have ft2 : w3.frozen? ⟨wr.heap.size, 2, none⟩ = false := BT.out.frozen 2
            have ct3 : w3.cell? ⟨wr.heap.size, 3, none⟩ = some (.int .i64 n) := (BT.out.cell 3).trans rfl
            have ft3 : w3.frozen? ⟨wr.heap.size, 3, none⟩ = false := BT.out.frozen 3
            have ct4 : w3.cell? ⟨wr.heap.size, 4, none⟩ = some (.string ⟨S.toArray⟩) := (BT.out.cell 4).trans rfl
            have ft4 : w3.frozen? ⟨wr.heap.size, 4, none⟩ = false := BT.out.frozen 4
            have z0 : wr.heap.size < w3.heap.size := BT.out.lt
            have hb4 : ∀ W4, (w3.alloc (.cells #[.int .i64 k, .int .i64 (a : Int), .int .i64 ((a : Int) + (z : Int)), .int .i64 n, .string ⟨S.toArray⟩] 26)).grownBy W4 (Value.slice va acc.length vc).ownBlock → W4.cell? ⟨wr.heap.size, 2, none⟩ = some (.int .i64 ((a : Int) + (z : Int))) := fun W4 h4 => by
              have h5 : Blk W4 wr.heap.size 26 #[.int .i64 k, .int .i64 (a : Int), .int .i64 ((a : Int) + (z : Int)), .int .i64 n, .string ⟨S.toArray⟩] := (h4.block wr.heap.size (by simp; omega) (fun e => by have := (Hown.out.lt wr.heap.size e.symm).2; omega)).trans ((Below.heap_alloc _ _ _ BT.out.lt).trans BT.out)
              exact (h5.cell 2).trans rfl
            have HB4 := Lib.hid hb4
            clear hb4
            go_wp2_with (first | (go_at_call 28; refine (HK.out _).mono ?_; rintro e w' ⟨rfl, rfl⟩) | (at_builtin; refine wpList_append_own _ rfl (.tmp 43) (.tmp 45) 22 rfl w.heap.size 26 i0 (.agg #[.int .i64 0, .int .i64 0, .int .i64 0, .int .i64 0, .string ⟨#[]⟩]) 5 48 Try.underlying22 hi hz0 hz1 hz2 rfl (by omega) _ acc.length (cellsV acc) rfl (HO3.out.alloc _) ⟨w3.heap.size, 0, none⟩ 1 1 [.int .i64 k, .int .i64 (a : Int), .int .i64 ((a : Int) + (z : Int)), .int .i64 n, .string ⟨S.toArray⟩] rfl rfl (cells_new w3 #[.int .i64 k, .int .i64 (a : Int), .int .i64 ((a : Int) + (z : Int)), .int .i64 n, .string ⟨S.toArray⟩] 26) (by simp [Value.oneCell']) (by simp only [maxLen]; omega) (by omega) (by simp; omega) ?_; intro v' w4 hown4 hg4 _; have q1 := HB4.out _ hg4))
            go_roundw
            case rel =>
              refine ⟨m, acc ++ [⟨k, a, (a : Int) + (z : Int), n, S⟩], e', by rw [len_of]; exact hmb.2, by simp; omega, rfl, rfl, ?_, ?_, by rw [len_of]; exact HST.out⟩
              · rw [cellsV_snoc, List.length_append]
                exact hown4
              · exact ((Hbel.out.trans (HB.out.mono hsz)).alloc (Nat.le_trans hsz HB.out.size) _).grown hg4 (by simp; have := HB.out.size; omega) (fun j h => (Hown.out.lt j h).1)
            case measure => exact muW_on hmb.1 hmb.2
          · have hst := wordsF_bad hlt'.out acc hf he (s.size - a)
            rw [← HT.out] at hst
            have hR : scV (scanR (s.data.toList.drop a)) a = tokV 0 0 0 0 [] := by unfold scV; rw [if_neg he]
            rw [hR] at HSC
            obtain ⟨e', he'⟩ : ∃ e, (scanR (s.data.toList.drop a)).e = e := ⟨_, rfl⟩
            rw [he'] at HSC he hst
            have dn : (e' == 0) = false := by simpa using he
            have He := Lib.hid he
            have HST := Lib.hid hst
            clear hR he' he hst hf
            go_wp2_with fail
            refine (HSC.out _).mono ?_
            rintro e1 w2 ⟨rfl, hb⟩
            simp only [tokV]
            have BT := Lib.hid ((show Blk (wr.alloc (.cells #[.int .i64 0, .int .i64 0, .int .i64 0, .int .i64 0, .string ⟨#[]⟩] 26)) wr.heap.size 26 #[.int .i64 0, .int .i64 0, .int .i64 0, .int .i64 0, .string ⟨#[]⟩] from heap_alloc_new wr _).bel hb)
            have HW2 := Lib.hid (bel_trans (bel_alloc wr (.cells #[.int .i64 0, .int .i64 0, .int .i64 0, .int .i64 0, .string ⟨#[]⟩] 26)) hb)
            clear hb HSC
            have ct0 : w2.cell? ⟨wr.heap.size, 0, none⟩ = some (.int .i64 0) := (BT.out.cell 0).trans rfl
            have ft0 : w2.frozen? ⟨wr.heap.size, 0, none⟩ = false := BT.out.frozen 0
            have ct1 : w2.cell? ⟨wr.heap.size, 1, none⟩ = some (.int .i64 0) := (BT.out.cell 1).trans rfl
            have ft1 : w2.frozen? ⟨wr.heap.size, 1, none⟩ = false := BT.out.frozen 1
            have ct2 : w2.cell? ⟨wr.heap.size, 2, none⟩ = some (.int .i64 0) := (BT.out.cell 2).trans rfl
            have ft2 : w2.frozen? ⟨wr.heap.size, 2, none⟩ = false := BT.out.frozen 2
            have ct3 : w2.cell? ⟨wr.heap.size, 3, none⟩ = some (.int .i64 0) := (BT.out.cell 3).trans rfl
            have ft3 : w2.frozen? ⟨wr.heap.size, 3, none⟩ = false := BT.out.frozen 3
            have ct4 : w2.cell? ⟨wr.heap.size, 4, none⟩ = some (.string ⟨#[]⟩) := (BT.out.cell 4).trans rfl
            have ft4 : w2.frozen? ⟨wr.heap.size, 4, none⟩ = false := BT.out.frozen 4
            have z0 : wr.heap.size < w2.heap.size := BT.out.lt
            go_wp2_with fail
            go_roundw
            case rel =>
              refine ⟨a, acc, e', by rw [len_of]; exact ha, by omega, rfl, rfl, ?_, ?_, ?_⟩
              · exact own_below Hown.out (((((HW2.out.setCell (Nat.le_refl _) _).setCell (Nat.le_refl _) _).setCell (Nat.le_refl _) _).setCell (Nat.le_refl _) _).setCell (Nat.le_refl _) _)
              · exact Hbel.out.trans ((((((HW2.out.setCell (Nat.le_refl _) _).setCell (Nat.le_refl _) _).setCell (Nat.le_refl _) _).setCell (Nat.le_refl _) _).setCell (Nat.le_refl _) _).mono hsz)
              · rw [HST.out, wordsF_stop He.out]
            case measure => exact muW_bad He.out
      · have d0 : (e == 0) = false := by simpa using h0
        have d0' : (e != 0) = true := by simpa using h0
        have hT2 : T = ⟨[], a, e⟩ := by rw [HT.out, wordsF_stop h0]
        subst hT2
        clear HT h0
        obtain ⟨va, vc, rfl⟩ := own_slice Hown.out
        go_wp2_with fail
        go_ret3
        exact words_none _ _ _ _ Hbel.out
    · have dl : decide ((a : Int) < (s.size : Int)) = false := by simp [hlt]
      obtain ⟨va, vc, rfl⟩ := own_slice Hown.out
      by_cases h0 : e = 0
      · subst h0
        have d0' : ((0 : Int) != 0) = false := rfl
        have hT2 : T = ⟨acc, 0, 0⟩ := by rw [HT.out]; exact wordsF_end (by rw [len_of]; omega) _ _
        subst hT2
        clear HT
        go_wp2_with fail
        go_ret3
        exact ⟨va, vc, rfl, Hbel.out, Hown.out⟩
      · have d0' : (e != 0) = true := by simpa using h0
        have hT2 : T = ⟨[], a, e⟩ := by rw [HT.out, wordsF_stop h0]
        subst hT2
        clear HT h0
        go_wp2_with fail
        go_ret3
        exact words_none _ _ _ _ Hbel.out
theorem words_any (s : ByteArray) (w : World) (hs : s.size ≤ maxLen) : Calls Try.prog 11 #[.string s] w (WordsP (wordsR s.data.toList) w) := by
  unfold maxLen at hs
  unfold wordsR
  rw [len_of]
  by_cases h1 : (16384 : Int) < (s.size : Int)
  · rw [if_pos h1]
    have d1 : decide ((s.size : Int) > 16384) = true := by simpa using h1
    go_enter Try.func11, Try.ntmps11
    go_wp2_with fail
    go_ret3
    exact words_none _ _ _ _ (Below.refl _ _)
  · rw [if_neg h1]
    by_cases h2 : 0 ≤ nightI s.data.toList
    · rw [if_pos h2]
      have d1 : decide ((s.size : Int) > 16384) = false := by simpa using h1
      have HNI := Lib.hid (night_any s · hs)
      generalize nightI s.data.toList = x at *
      have d2 : decide (x ≥ 0) = true := by simpa using h2
      clear h1
      go_enter Try.func11, Try.ntmps11
      go_wp2_with (go_at_call 27; refine (HNI.out _).mono ?_; rintro e w' ⟨rfl, rfl⟩)
      go_ret3
      exact words_none _ _ _ _ (Below.refl _ _)
    · rw [if_neg h2]
      have hge : -1 ≤ nightI s.data.toList := by unfold nightI; split <;> omega
      exact words_loop s w (by omega) (show nightI s.data.toList = -1 by omega) _ (by rw [← len_of]; exact Lib.hid rfl)
end Go.Proofs.Ytpeleifkednmoaa.Lx
end
