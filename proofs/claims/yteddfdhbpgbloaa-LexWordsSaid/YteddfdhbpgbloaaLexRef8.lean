/- The words of a text: the document's function (layer 3). -/
import Derived.Test.YteddfdhbpgbloaaLexRef7
import Derived.Test.YteddfdhbpgbloaaLexApartMath2
import Derived.Test.YteddfdhbpgbloaaLexWords
namespace Go.Proofs.Yteddfdhbpgbloaa.Lx
open Go.ChangeShapes Go.WideShapes Go.ChangeAt Go.RowKit
set_option linter.unusedVariables false

theorem gap_first {c : UInt8} {r : Bs} (hg : gapN (c :: r) = 0) : blankB c = false ∧ (isCom (c :: r) = false → c ≠ 59) := by
  cases hb : blankB c
  · refine ⟨rfl, fun hc h => ?_⟩
    subst h
    rw [gapN_line hb rfl] at hg
    have := lineN_pos (c := 59) (r := r) (by decide)
    omega
  · rw [gapN_blank hb] at hg; exact absurd hg (by decide)
theorem okC_byte (c : UInt8) : okC c = (!(decide ((c.toNat : Int) > 126) || (decide ((c.toNat : Int) < 32) && !blankB c))) := by
  unfold okC printB
  by_cases h1 : (126 : Int) < (c.toNat : Int)
  · have hb : blankB c = false := by
      unfold blankB
      have e (n : Int) (hn : n ≤ 126) : ((c.toNat : Int) == n) = false := beq_eq_false_iff_ne.2 (by omega)
      rw [e 32 (by decide), e 9 (by decide), e 10 (by decide), e 13 (by decide)]; rfl
    rw [hb, decide_eq_false (show ¬ (c.toNat : Int) ≤ 126 by omega), decide_eq_true (show (c.toNat : Int) > 126 from h1)]
    simp
  · rw [decide_eq_true (show (c.toNat : Int) ≤ 126 by omega), decide_eq_false (show ¬ (c.toNat : Int) > 126 from h1)]
    by_cases h2 : (c.toNat : Int) < 32
    · rw [decide_eq_true h2, decide_eq_false (show ¬ 32 ≤ (c.toNat : Int) by omega)]
      cases blankB c <;> rfl
    · rw [decide_eq_false h2, decide_eq_true (show 32 ≤ (c.toNat : Int) by omega)]
      cases blankB c <;> rfl
def RNightAt (s : ByteArray) (w : World) (i : Value) (wr : World) : Prop := ∃ k : Nat, k ≤ s.size ∧ i = .int .i64 (k : Int) ∧ w = wr ∧ (s.data.toList.take k).all okC = true
def RWordAt (l : Bs) (w : World) (T : WR) (v i : Value) (wr : World) : Prop :=
  ∃ (a : Nat) (acc : List Tk), a ≤ l.length ∧ acc.length ≤ 4096 ∧ i = .int .i64 (a : Int) ∧ wr.ownsRow w.heap.size 50 5 v acc.length (cellsV acc) ∧ Below w.heap.size w wr ∧ T = wordsF (l.length - (a + skipN (l.drop a)) + 1) l (a + skipN (l.drop a)) (skipE (l.drop a)) acc
set_option maxRecDepth 100000 in
set_option maxHeartbeats 8000000 in
theorem rwords_loop (s : ByteArray) (w : World) (hs : (s.size : Int) ≤ 16384) :
    Calls Try.prog 22 #[.string s] w (WordsP (wordsR s.data.toList) w) := by
  have d1 : decide ((s.size : Int) > 16384) = false := by simpa using hs
  have Hs : Hid (s.size < 1000000) := by show s.size < 1000000; omega
  obtain ⟨T, hT⟩ : ∃ T, wordsR s.data.toList = T := ⟨_, rfl⟩
  have hTW : T = if 0 ≤ nightI s.data.toList then ⟨[], nightI s.data.toList, 32⟩ else wordsF (s.data.toList.length + 1) s.data.toList (skipN s.data.toList) (skipE s.data.toList) [] := by
    rw [← hT]; unfold wordsR
    rw [if_neg (by rw [len_of]; omega)]
  rw [hT]
  have HT := Lib.hid hTW
  clear hT hTW
  obtain ⟨i0, hi, hz0, hz1, hz2⟩ := info_parts tok_info
  go_enter Try.func22, Try.ntmps22
  go_wp2_with fail
  go_loopw [5] (fun i wr => RNightAt s w i wr) (fun i _ => s.size - (intOf i).toNat)
  case atStart => exact ⟨0, Nat.zero_le _, rfl, rfl, rfl⟩
  case round =>
    obtain ⟨k, hk, rfl, rfl, hall⟩ := hrel
    have Hall := Lib.hid hall
    clear hall
    by_cases hlt : k < s.size
    · have dl : decide ((k : Int) < (s.size : Int)) = true := by simp [hlt]
      have i1 : (k : Int) < (s.size : Int) := by omega
      have hok := okC_byte s[k]
      have hta := take_at s k hlt
      have Hta := Lib.hid hta
      clear hta
      obtain ⟨o, ho⟩ : ∃ o, okC s[k] = o := ⟨_, rfl⟩
      have Ho := Lib.hid ho
      rw [ho] at hok
      obtain ⟨b, hb⟩ : ∃ b, blankB s[k] = b := ⟨_, rfl⟩
      have Hb := Lib.hid hb
      rw [hb] at hok
      clear ho hb
      cases e1 : decide ((s[k].toNat : Int) > 126)
      · rw [e1, Bool.false_or] at hok
        cases e2 : decide ((s[k].toNat : Int) < 32)
        · rw [e2, Bool.false_and] at hok
          subst hok
          have hn : (s.data.toList.take (k + 1)).all okC = true := by rw [Hta.out, List.all_append, Hall.out]; simp [Ho.out]
          have Hn := Lib.hid hn
          clear hn
          go_wp2_with fail
          go_roundw
          case rel => exact ⟨k + 1, by omega, by go_num, rfl, Hn.out⟩
          case measure => simp [intOf]; omega
        · rw [e2, Bool.true_and] at hok
          cases b
          · subst hok
            have hT2 : T = ⟨[], (k : Int), 32⟩ := by
              rw [HT.out, nightI_at _ k (by rw [len_of]; exact hlt) Hall.out (by rw [Array.getElem_toList]; exact Ho.out), if_pos (by omega)]
            subst hT2
            clear HT
            go_wp2_with (go_at_call 51; refine (rblank_any s[k] _).mono ?_; rintro e w' ⟨rfl, rfl⟩; rw [Hb.out])
            go_ret3
            exact words_none _ _ _ _ (Below.refl _ _)
          · subst hok
            have hn : (s.data.toList.take (k + 1)).all okC = true := by rw [Hta.out, List.all_append, Hall.out]; simp [Ho.out]
            have Hn := Lib.hid hn
            clear hn
            go_wp2_with (go_at_call 51; refine (rblank_any s[k] _).mono ?_; rintro e w' ⟨rfl, rfl⟩; rw [Hb.out])
            go_roundw
            case rel => exact ⟨k + 1, by omega, by go_num, rfl, Hn.out⟩
            case measure => simp [intOf]; omega
      · rw [e1, Bool.true_or] at hok
        subst hok
        have hT2 : T = ⟨[], (k : Int), 32⟩ := by
          rw [HT.out, nightI_at _ k (by rw [len_of]; exact hlt) Hall.out (by rw [Array.getElem_toList]; exact Ho.out), if_pos (by omega)]
        subst hT2
        clear HT
        go_wp2_with fail
        go_ret3
        exact words_none _ _ _ _ (Below.refl _ _)
    · obtain rfl : k = s.size := by omega
      have dl : decide ((s.size : Int) < (s.size : Int)) = false := by simp
      have hok : s.data.toList.all okC = true := by
        have := Hall.out
        rw [List.take_of_length_le (by rw [len_of]; exact Nat.le_refl _)] at this
        exact this
      have Hok := Lib.hid hok
      have hk0 := skipN_le s.data.toList
      have hT0 : T = wordsF (s.data.toList.length - (0 + skipN (s.data.toList.drop 0)) + 1) s.data.toList (0 + skipN (s.data.toList.drop 0)) (skipE (s.data.toList.drop 0)) [] := by
        rw [HT.out, nightI_no _ hok, if_neg (by decide), List.drop_zero, Nat.zero_add]
        exact wordsF_more _ _ _ _ _ _ (by omega) (by omega)
      have HT0 := Lib.hid hT0
      clear hT0 HT Hall hok hk0 hk
      go_wp2_with fail
      go_loopw [6, 7] (fun v i wr => RWordAt s.data.toList w T v i wr) (fun _ i _ => s.size - (intOf i).toNat)
      case atStart => exact ⟨0, [], Nat.zero_le _, Nat.zero_le _, rfl, World.ownsRow_nil _ _ _ _, Below.refl _ _, HT0.out⟩
      case round =>
        clear HT0
        obtain ⟨a, acc, ha, hacc, rfl, hown, hbel, hT⟩ := hrel
        rw [len_of] at ha
        have hk1 := skipN_le (s.data.toList.drop a)
        rw [List.length_drop, len_of] at hk1
        have hgap : gapN (s.data.toList.drop (a + skipN (s.data.toList.drop a))) = 0 := by rw [← List.drop_drop]; exact skipN_stop _ _ (Nat.le_refl _)
        have hcom : skipE (s.data.toList.drop a) = 0 → isCom (s.data.toList.drop (a + skipN (s.data.toList.drop a))) = false := by
          intro h; unfold skipE at h; rw [← List.drop_drop]
          cases hc : isCom ((s.data.toList.drop a).drop (skipN (s.data.toList.drop a)))
          · rfl
          · rw [hc, if_pos rfl] at h; exact absurd h (by decide)
        have HSK := Lib.hid (rskip_any s a · Hs.out ha)
        obtain ⟨m, hm⟩ : ∃ m, a + skipN (s.data.toList.drop a) = m := ⟨_, rfl⟩
        obtain ⟨x, hx⟩ : ∃ x, skipE (s.data.toList.drop a) = x := ⟨_, rfl⟩
        rw [hm, hx] at hT HSK
        rw [hm] at hgap hcom
        rw [hx] at hcom
        have hma : a ≤ m := by omega
        have hms : m ≤ s.size := by omega
        rw [len_of] at hT
        have HT := Lib.hid hT
        have Hown := Lib.hid hown
        have Hbel := Lib.hid hbel
        have Hgap := Lib.hid (And.intro hgap hcom)
        have hsz := hbel.size
        clear hT hown hbel hgap hcom hm hx hk1
        obtain ⟨va, vc, rfl⟩ := own_slice Hown.out
        by_cases h0 : x = 0
        · subst h0
          by_cases hlt : m < s.size
          · have dl : decide ((m : Int) ≥ (s.size : Int)) = false := decide_eq_false (by omega)
            have hlt' : Hid (m < s.data.toList.length) := by show m < _; rw [len_of]; exact hlt
            by_cases hf : acc.length = 4096
            · have hT2 : T = ⟨[], m, 3⟩ := by rw [HT.out, ← len_of]; exact wordsF_full hlt'.out acc hf _
              subst hT2
              have df : decide ((acc.length : Int) ≥ 4096) = true := decide_eq_true (by omega)
              clear hf HT
              go_wp2_with (go_at_call 52; refine (HSK.out _).mono ?_; rintro e w' ⟨rfl, rfl⟩)
              go_ret3
              exact words_none _ _ _ _ Hbel.out
            · have df : decide ((acc.length : Int) ≥ 4096) = false := decide_eq_false (by omega)
              have hd0 := drop_at s m hlt
              have hgf := gap_first (c := s[m]'hlt) (r := s.data.toList.drop (m + 1)) (by rw [← hd0]; exact Hgap.out.1)
              have HWD := Lib.hid (rword_any s m · Hs.out hlt Hok hgf.1 (hgf.2 (by rw [← hd0]; exact Hgap.out.2 rfl)))
              clear hgf Hgap hd0
              by_cases he : (scanR (s.data.toList.drop m)).e = 0
              · have hst := wordsF_step hlt'.out acc hf he
                rw [len_of, ← HT.out] at hst
                have hz := scanR_z (drop_ne hlt'.out) he
                rw [List.length_drop, len_of] at hz
                have hfN : acc.length < 4096 := by omega
                clear hf
                have HE := Lib.hid he
                clear he
                generalize scanR (s.data.toList.drop m) = R at *
                obtain ⟨k, n, S, z, e⟩ := R
                have he' : e = 0 := HE.out
                subst he'
                simp only [Sc.tk] at hst hz
                obtain ⟨hz1', hz2'⟩ := hz
                obtain ⟨q, hq⟩ : ∃ q, m + z = q := ⟨_, rfl⟩
                have hmz : q ≤ s.size := by omega
                have hmq : m < q := by omega
                have hWD2 : ∀ w, Calls Try.prog 53 #[.string s, .int .i64 (m : Int)] w fun e w' => e = .returned (.tuple #[tokV k m q n S, .int .i64 0]) ∧ Below w.heap.size w w' := fun w => (HWD.out w).mono fun e w' ⟨k', b', z', n', S', h1, h2, h3⟩ => ⟨by rw [h1, h2 rfl, ← hq], h3⟩
                have HW2 := Lib.hid hWD2
                rw [hq] at hst
                have HST := Lib.hid hst
                clear hst HE HWD hWD2 hz1' hz2' hq
                go_wp2_with (go_at_call 52; refine (HSK.out _).mono ?_; rintro e w' ⟨rfl, rfl⟩)
                refine (HW2.out _).mono ?_
                rintro e1 w2 ⟨rfl, hb⟩
                simp only [tokV]
                have HB2 := Lib.hid hb
                have HO2 := Lib.hid (own_below Hown.out hb)
                have HO3 := Lib.hid (HO2.out.alloc (.cells #[.int .i64 k, .int .i64 (m : Int), .int .i64 (q : Int), .int .i64 n, .string ⟨S.toArray⟩] 50))
                have hbt : Blk (w2.alloc (.cells #[.int .i64 k, .int .i64 (m : Int), .int .i64 (q : Int), .int .i64 n, .string ⟨S.toArray⟩] 50)) w2.heap.size 50 #[.int .i64 k, .int .i64 (m : Int), .int .i64 (q : Int), .int .i64 n, .string ⟨S.toArray⟩] := heap_alloc_new w2 _
                have BT := Lib.hid hbt
                have hsz2 := hb.size
                clear hb hbt
                have hb4 : ∀ W4, ((w2.alloc (.cells #[.int .i64 k, .int .i64 (m : Int), .int .i64 (q : Int), .int .i64 n, .string ⟨S.toArray⟩] 50)).alloc (.cells #[.int .i64 k, .int .i64 (m : Int), .int .i64 (q : Int), .int .i64 n, .string ⟨S.toArray⟩] 50)).grownBy W4 (Value.slice va acc.length vc).ownBlock → W4.cell? ⟨w2.heap.size, 2, none⟩ = some (.int .i64 (q : Int)) := fun W4 h4 => by
                  have h5 : Blk W4 w2.heap.size 50 #[.int .i64 k, .int .i64 (m : Int), .int .i64 (q : Int), .int .i64 n, .string ⟨S.toArray⟩] := (h4.block w2.heap.size (by simp; omega) (fun e => by have := (HO2.out.lt w2.heap.size e.symm).2; omega)).trans ((Below.heap_alloc _ _ _ BT.out.lt).trans BT.out)
                  exact (h5.cell 2).trans rfl
                have HB4 := Lib.hid hb4
                clear hb4
                go_wp2_with (at_builtin; refine wpList_append_own _ rfl (.tmp 67) (.tmp 69) 39 rfl w.heap.size 50 i0 (.agg #[.int .i64 0, .int .i64 0, .int .i64 0, .int .i64 0, .string ⟨#[]⟩]) 5 48 Try.underlying39 hi hz0 hz1 hz2 rfl (by omega) _ acc.length (cellsV acc) rfl (HO3.out.alloc _) ⟨w2.heap.size + 1, 0, none⟩ 1 1 [.int .i64 k, .int .i64 (m : Int), .int .i64 (q : Int), .int .i64 n, .string ⟨S.toArray⟩] rfl rfl (by have := cells_new (w2.alloc (.cells #[.int .i64 k, .int .i64 (m : Int), .int .i64 (q : Int), .int .i64 n, .string ⟨S.toArray⟩] 50)) #[.int .i64 k, .int .i64 (m : Int), .int .i64 (q : Int), .int .i64 n, .string ⟨S.toArray⟩] 50; rw [World.size_alloc] at this; exact this) (by simp [Value.oneCell']) (by simp only [maxLen]; omega) (by omega) (by simp; omega) ?_; intro v' w4 hown4 hg4 _; have q1 := HB4.out _ hg4)
                go_roundw
                case rel =>
                  refine ⟨q, acc ++ [⟨k, m, q, n, S⟩], by rw [len_of]; exact hmz, by simp; omega, rfl, ?_, ?_, by rw [len_of]; exact HST.out⟩
                  · rw [cellsV_snoc, List.length_append]
                    exact hown4
                  · exact (((Hbel.out.trans (HB2.out.mono hsz)).alloc (Nat.le_trans hsz HB2.out.size) _).alloc (by simp; omega) _).grown hg4 (by simp; omega) (fun j h => (Hown.out.lt j h).1)
                case measure => simp [intOf]; omega
              · have hst := wordsF_bad hlt'.out acc hf he (s.size - m)
                rw [← HT.out] at hst
                obtain ⟨e', he'⟩ : ∃ e, (scanR (s.data.toList.drop m)).e = e := ⟨_, rfl⟩
                have hWD2 : ∀ w, Calls Try.prog 53 #[.string s, .int .i64 (m : Int)] w fun e w' => ∃ (k b z n : Int) (S : Bs), e = .returned (.tuple #[tokV k b z n S, .int .i64 e']) ∧ Below w.heap.size w w' := fun w => (HWD.out w).mono fun e w' ⟨k', b', z', n', S', h1, h2, h3⟩ => ⟨k', b', z', n', S', by rw [h1, he'], h3⟩
                have HW2 := Lib.hid hWD2
                rw [he'] at he hst
                have dn : (e' != 0) = true := by simpa using he
                subst hst
                clear hWD2 HWD he' he hf HT
                go_wp2_with (go_at_call 52; refine (HSK.out _).mono ?_; rintro e w' ⟨rfl, rfl⟩)
                refine (HW2.out _).mono ?_
                rintro e1 w2 ⟨k, b, z, n, S, rfl, hb⟩
                simp only [tokV]
                have HB2 := Lib.hid hb
                clear hb
                go_wp2_with fail
                go_ret3
                exact words_none _ _ _ _ ((Hbel.out.trans (HB2.out.mono hsz)).alloc (Nat.le_trans hsz HB2.out.size) _)
          · have dl : decide ((m : Int) ≥ (s.size : Int)) = true := decide_eq_true (by omega)
            have hT2 : T = ⟨acc, 0, 0⟩ := by rw [HT.out]; exact wordsF_end (by rw [len_of]; omega) _ _
            subst hT2
            clear HT
            go_wp2_with (go_at_call 52; refine (HSK.out _).mono ?_; rintro e w' ⟨rfl, rfl⟩)
            go_ret3
            exact ⟨va, vc, rfl, Hbel.out, Hown.out⟩
        · have d0' : (x != 0) = true := by simpa using h0
          have hT2 : T = ⟨[], m, x⟩ := by rw [HT.out, wordsF_stop h0]
          subst hT2
          clear HT h0
          go_wp2_with (go_at_call 52; refine (HSK.out _).mono ?_; rintro e w' ⟨rfl, rfl⟩)
          go_ret3
          exact words_none _ _ _ _ Hbel.out
theorem rwords_any (s : ByteArray) (w : World) (hs : s.size ≤ maxLen) : Calls Try.prog 22 #[.string s] w (WordsP (wordsR s.data.toList) w) := by
  by_cases h1 : (16384 : Int) < (s.size : Int)
  · have d1 : decide ((s.size : Int) > 16384) = true := by simpa using h1
    have hR : wordsR s.data.toList = ⟨[], 0, 3⟩ := by unfold wordsR; rw [len_of, if_pos h1]
    rw [hR]
    go_enter Try.func22, Try.ntmps22
    go_wp2_with fail
    go_ret3
    exact words_none _ _ _ _ (Below.refl _ _)
  · exact rwords_loop s w (by omega)
end Go.Proofs.Yteddfdhbpgbloaa.Lx
