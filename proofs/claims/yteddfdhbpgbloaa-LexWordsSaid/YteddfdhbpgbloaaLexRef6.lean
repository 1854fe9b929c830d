/- The string that begins at a place: the document's function (layer 3). -/
import Derived.Test.YteddfdhbpgbloaaLexStrMath
import Derived.Test.YteddfdhbpgbloaaLexBlk
namespace Go.Proofs.Yteddfdhbpgbloaa.Lx
open Go.ChangeShapes Go.WideShapes Go.ChangeAt Go.RowKit
set_option linter.unusedVariables false

theorem rstr_fin (R : Sc) (q : Nat) (w WF : World) (N : Nat) (act : Act) (k a z n e : Int) (S : Bs) (h4 : act.tmps.getD 4 undef = .pointer (some ⟨N, 0, none⟩)) (h5 : act.tmps.getD 5 undef = .int .i64 e) (hd : act.defers = [])
    (hB : Blk WF N 50 #[.int .i64 k, .int .i64 a, .int .i64 z, .int .i64 n, .string ⟨S.toArray⟩]) (hp : RefP R q w (.returned (.tuple #[tokV k a z n S, .int .i64 e])) WF) :
    bodyPost Try.prog Try.f93 (RefP R q w) Exit.ret act WF := by
  rw [Array.getD_eq_getD_getElem?] at h4 h5
  have c0 : WF.cell? ⟨N, 0, none⟩ = some (.int .i64 k) := (hB.cell 0).trans rfl
  have c1 : WF.cell? ⟨N, 1, none⟩ = some (.int .i64 a) := (hB.cell 1).trans rfl
  have c2 : WF.cell? ⟨N, 2, none⟩ = some (.int .i64 z) := (hB.cell 2).trans rfl
  have c3 : WF.cell? ⟨N, 3, none⟩ = some (.int .i64 n) := (hB.cell 3).trans rfl
  have c4 : WF.cell? ⟨N, 4, none⟩ = some (.string ⟨S.toArray⟩) := (hB.cell 4).trans rfl
  refine bodyPost_ret (v := .tuple #[tokV k a z n S, .int .i64 e]) ?_ hd hp
  simp [results, Try.results93, go_sem, tokV, h4, h5, c0, c1, c2, c3, c4]
theorem esc_full {c : UInt8} {r : Bs} {j : Nat} (h : 0 ≤ escRV (c :: r.take j)) : 0 ≤ escRV (c :: r) := by
  rw [escRV_at] at h ⊢
  by_cases h1 : c = 110
  · rw [if_pos h1]; decide
  · rw [if_neg h1] at h ⊢
    by_cases h2 : c = 116
    · rw [if_pos h2]; decide
    · rw [if_neg h2] at h ⊢
      by_cases h3 : c = 92
      · rw [if_pos h3]; decide
      · rw [if_neg h3] at h ⊢
        by_cases h4 : c = 34
        · rw [if_pos h4]; decide
        · rw [if_neg h4] at h ⊢
          by_cases h5 : c = 120
          · rw [if_pos h5] at h ⊢
            obtain ⟨x, y, r', hr, _, _⟩ := hexR_digits h
            have hrr : r = x :: y :: (r' ++ r.drop j) := by
              have h0 := (List.take_append_drop j r).symm
              rw [hr] at h0
              exact h0
            rw [hr] at h
            rw [hrr]
            exact h
          · rw [if_neg h5] at h; exact absurd h (by decide)
def REndAt (s : ByteArray) (a : Nat) (i : Value) : Prop := ∃ k : Nat, a + 1 ≤ k ∧ k ≤ s.size + 1 ∧ i = .int .i64 (k : Int) ∧ qEnd (s.data.toList.drop (a + 1)) = (qEnd (s.data.toList.drop k)).map (· + (k - (a + 1)))
def StrAt (s : ByteArray) (a E : Nat) (w : World) (U : Option Bs) (v i : Value) (wr : World) : Prop :=
  ∃ (p : Nat) (out : Bs), a + 1 ≤ p ∧ p ≤ E ∧ out.length ≤ p ∧ i = .int .i64 (p : Int) ∧ wr.ownsRow (w.heap.size + 2) 5 1 v out.length (bytesV out) ∧ Below w.heap.size w wr ∧ Blk wr w.heap.size 50 #[.int .i64 0, .int .i64 0, .int .i64 0, .int .i64 0, .string ⟨#[]⟩] ∧ Blk wr (w.heap.size + 1) 50 #[.int .i64 12, .int .i64 (a : Int), .int .i64 ((E : Int) + 1), .int .i64 0, .string ⟨#[]⟩] ∧
    U = (unqL ((s.data.toList.drop p).take (E - p))).map (out ++ ·) ∧ qEnd (s.data.toList.drop p) = some (E - p)
set_option maxRecDepth 100000 in
set_option maxHeartbeats 16000000 in
theorem rstr_any (s : ByteArray) (a : Nat) (w : World) (hs : s.size < 1000000) (ha : a < s.size) (hq : s[a] = 34) (hok : Hid (s.data.toList.all okC = true)) :
    Calls Try.prog 93 #[.string s, .int .i64 (a : Int)] w (RefP (strSc (s.data.toList.drop a)) a w) := by
  have hqn : quotedN (s.data.toList.drop a) = match qEnd (s.data.toList.drop (a + 1)) with | some n => n + 2 | none => 0 := by unfold quotedN; rw [List.drop_drop]; rfl
  obtain ⟨RS, hRS⟩ : ∃ RS, strSc (s.data.toList.drop a) = RS := ⟨_, rfl⟩
  rw [hRS]
  have HRS := Lib.hid hRS
  have HQ := Lib.hid hqn
  clear hRS hqn
  obtain ⟨i0, hi, hz0, hz1, hz2⟩ := info_parts info_u8
  go_enter Try.func93, Try.ntmps93
  go_wp2_with fail
  go_loop [7] (fun i => REndAt s a i) (fun i => s.size + 1 - (intOf i).toNat)
  case atStart => exact ⟨a + 1, Nat.le_refl _, by omega, rfl, by simp⟩
  case round =>
    obtain ⟨E, hE1, hE2, rfl, hl⟩ := hrel
    have HE := Lib.hid hl
    clear hl
    by_cases hlt : E < s.size
    · have dl : decide ((E : Int) < (s.size : Int)) = true := by simp [hlt]
      have i1 : (E : Int) < (s.size : Int) := by omega
      have hd := drop_at s E hlt
      have Hd := Lib.hid hd
      clear hd
      cases e34 : (s[E].toNat : Int) == 34
      · have n34 : ((s[E].toNat : Int) != 34) = true := by simp [bne, e34]
        cases e92 : (s[E].toNat : Int) == 92
        · have hn : qEnd (s.data.toList.drop (a + 1)) = (qEnd (s.data.toList.drop (E + 1))).map (· + (E + 1 - (a + 1))) := by
            rw [HE.out, Hd.out, qEnd_one _ _ (u8_ne (n := 34) (by decide) e34) (u8_ne (n := 92) (by decide) e92), Option.map_map]; congr 1; funext n; simp only [Function.comp]; omega
          have Hn := Lib.hid hn
          clear hn
          go_wp2_with fail
          go_round
          case rel => exact ⟨E + 1, by omega, by omega, by go_num, Hn.out⟩
          case measure => simp [intOf]; omega
        · have hn : qEnd (s.data.toList.drop (a + 1)) = (qEnd (s.data.toList.drop (E + 2))).map (· + (E + 2 - (a + 1))) := by
            rw [HE.out, Hd.out, u8_is (n := 92) (by decide) e92]
            show (qEnd (92 :: _)).map _ = _
            rw [qEnd_esc, List.drop_drop, Option.map_map]; congr 1; funext n; simp only [Function.comp]; omega
          have Hn := Lib.hid hn
          clear hn
          go_wp2_with fail
          go_round
          case rel => exact ⟨E + 2, by omega, by omega, by go_num, Hn.out⟩
          case measure => simp [intOf]; omega
      · have n34 : ((s[E].toNat : Int) != 34) = false := by simp [bne, e34]
        have hend : qEnd (s.data.toList.drop (a + 1)) = some (E - (a + 1)) := by
          rw [HE.out, Hd.out, u8_is (n := 34) (by decide) e34]
          show some (0 + (E - (a + 1))) = _
          rw [Nat.zero_add]
        have hqq : quotedN (s.data.toList.drop a) = E - (a + 1) + 2 := by rw [HQ.out, hend]
        obtain ⟨U, hU⟩ : ∃ U, unqL ((s.data.toList.drop (a + 1)).take (E - (a + 1))) = U := ⟨_, rfl⟩
        have hx : strU (E - (a + 1) + 2) U = RS := by
          rw [← HRS.out, ← hU]
          unfold strSc
          rw [hqq, if_neg (by omega), List.drop_drop]
          rfl
        have hE2' : E ≤ s.size := by omega
        have HX := Lib.hid hx
        have HEND := Lib.hid hend
        have HU := Lib.hid hU
        clear hend hqq hx hU HRS HQ HE
        go_wp2_with fail
        obtain ⟨hbX, hsX, hkX⟩ := start_allocs [(#[.int .i64 0, .int .i64 0, .int .i64 0, .int .i64 0, .string ⟨#[]⟩], 50), (#[.int .i64 12, .int .i64 (a : Int), .int .i64 ((E : Int) + 1), .int .i64 0, .string ⟨#[]⟩], 50)] w
        have g0 := hkX 0 _ rfl
        have g1 := hkX 1 _ rfl
        simp only [allocs, List.foldl_cons, List.foldl_nil, Nat.add_zero] at hbX g0 g1
        clear hkX hsX
        generalize (w.alloc (.cells #[.int .i64 0, .int .i64 0, .int .i64 0, .int .i64 0, .string ⟨#[]⟩] 50)).alloc (.cells #[.int .i64 12, .int .i64 (a : Int), .int .i64 ((E : Int) + 1), .int .i64 0, .string ⟨#[]⟩] 50) = X at *
        go_loopw [8, 9] (fun v i wr => StrAt s a E w U v i wr) (fun _ i _ => s.size - (intOf i).toNat)
        case atStart => exact ⟨a + 1, [], Nat.le_refl _, hE1, Nat.zero_le _, rfl, World.ownsRow_nil _ _ _ _, hbX, g0, g1, by rw [HU.out]; cases U <;> rfl, HEND.out⟩
        case round =>
          clear hbX g0 g1 HU HEND
          obtain ⟨p, out, hp1, hp2, ho, rfl, hown, hbel, hB0, hB1, hU, hqe⟩ := hrel
          have Ha := Lib.hid hU
          have Hqe := Lib.hid hqe
          have Hown := Lib.hid hown
          have HB := Lib.hid hbel
          have BR := Lib.hid hB0
          have BT := Lib.hid hB1
          have hsz := hbel.size
          clear hU hqe hown hbel hB0 hB1
          have zz := BT.out.lt
          by_cases hpE : p < E
          · have dp : decide ((p : Int) < (E : Int)) = true := by simp [hpE]
            have hps : p < s.size := by omega
            have ip : (p : Int) < (s.size : Int) := by omega
            have hd := drop_at s p hps
            have hlk : (s.data.toList.drop p).take (E - p) = s[p] :: (s.data.toList.drop (p + 1)).take (E - p - 1) := by
              obtain ⟨m, hm⟩ : ∃ m, E - p = m + 1 := ⟨E - p - 1, by omega⟩
              rw [hd, hm, List.take_succ_cons]; rfl
            have Hlk := Lib.hid hlk
            have Hd := Lib.hid hd
            clear hlk hd
            have cr0 : wr.cell? ⟨w.heap.size, 0, none⟩ = some (.int .i64 0) := (BR.out.cell 0).trans rfl
            have fr0 : wr.frozen? ⟨w.heap.size, 0, none⟩ = false := BR.out.frozen 0
            have cr1 : wr.cell? ⟨w.heap.size, 1, none⟩ = some (.int .i64 0) := (BR.out.cell 1).trans rfl
            have fr1 : wr.frozen? ⟨w.heap.size, 1, none⟩ = false := BR.out.frozen 1
            have cr2 : wr.cell? ⟨w.heap.size, 2, none⟩ = some (.int .i64 0) := (BR.out.cell 2).trans rfl
            have fr2 : wr.frozen? ⟨w.heap.size, 2, none⟩ = false := BR.out.frozen 2
            have cr3 : wr.cell? ⟨w.heap.size, 3, none⟩ = some (.int .i64 0) := (BR.out.cell 3).trans rfl
            have fr3 : wr.frozen? ⟨w.heap.size, 3, none⟩ = false := BR.out.frozen 3
            have cr4 : wr.cell? ⟨w.heap.size, 4, none⟩ = some (.string ⟨#[]⟩) := (BR.out.cell 4).trans rfl
            have fr4 : wr.frozen? ⟨w.heap.size, 4, none⟩ = false := BR.out.frozen 4
            have ct0 : wr.cell? ⟨w.heap.size + 1, 0, none⟩ = some (.int .i64 12) := (BT.out.cell 0).trans rfl
            have ft0 : wr.frozen? ⟨w.heap.size + 1, 0, none⟩ = false := BT.out.frozen 0
            have ct1 : wr.cell? ⟨w.heap.size + 1, 1, none⟩ = some (.int .i64 (a : Int)) := (BT.out.cell 1).trans rfl
            have ft1 : wr.frozen? ⟨w.heap.size + 1, 1, none⟩ = false := BT.out.frozen 1
            have ct2 : wr.cell? ⟨w.heap.size + 1, 2, none⟩ = some (.int .i64 ((E : Int) + 1)) := (BT.out.cell 2).trans rfl
            have ft2 : wr.frozen? ⟨w.heap.size + 1, 2, none⟩ = false := BT.out.frozen 2
            have ct3 : wr.cell? ⟨w.heap.size + 1, 3, none⟩ = some (.int .i64 0) := (BT.out.cell 3).trans rfl
            have ft3 : wr.frozen? ⟨w.heap.size + 1, 3, none⟩ = false := BT.out.frozen 3
            have ct4 : wr.cell? ⟨w.heap.size + 1, 4, none⟩ = some (.string ⟨#[]⟩) := (BT.out.cell 4).trans rfl
            have ft4 : wr.frozen? ⟨w.heap.size + 1, 4, none⟩ = false := BT.out.frozen 4
            have z0 : w.heap.size < wr.heap.size := BR.out.lt
            have z1 : w.heap.size + 1 < wr.heap.size := BT.out.lt
            cases e92 : (s[p].toNat : Int) == 92
            · have hne := u8_ne (n := 92) (by decide) e92
              have hesc : isEsc ((s.data.toList.drop p).take (E - p)) = false := by
                rw [Hlk.out]; unfold isEsc; split
                · next h => injection h with x y; exact absurd x hne
                · rfl
              have hV : stV ((s.data.toList.drop p).take (E - p)) = (s[p].toNat : Int) := by unfold stV; rw [hesc, Hlk.out]; rfl
              have hN : stN ((s.data.toList.drop p).take (E - p)) = 1 := by unfold stN; rw [hesc]; rfl
              have hBk : stB ((s.data.toList.drop p).take (E - p)) = decide ((s[p].toNat : Int) ≥ 32) := by unfold stB; rw [hesc, Hlk.out]; rfl
              have hq1 := one_end (c := s[p]) (r := s.data.toList.drop (p + 1)) (n := E - p) (by rw [← Hd.out]; exact Hqe.out) (by omega) hne
              have hokp : okC s[p] = true := by
                have h1 := List.all_eq_true.1 hok.out s[p] (by rw [← List.take_append_drop p s.data.toList, Hd.out]; simp)
                exact h1
              obtain ⟨bb, hbb⟩ : ∃ b, blankB s[p] = b := ⟨_, rfl⟩
              have Hbb := Lib.hid hbb
              cases e32 : (s[p].toNat : Int) == 32
              · have n32 : ((s[p].toNat : Int) != 32) = true := by simp [bne, e32]
                cases bb
                · have hU := unq_next (l := (s.data.toList.drop p).take (E - p)) (by rw [Hlk.out]; simp) Ha.out (by rw [hBk]; exact ok_ge hokp (.inl hbb))
                  rw [hN, List.drop_take, List.drop_drop] at hU
                  have HU := Lib.hid (hU.trans (by rw [show E - p - 1 = E - (p + 1) by omega]))
                  have HC : Hid (((stC ((s.data.toList.drop p).take (E - p))).toNat : Int) = (s[p].toNat : Int)) := by show _ = _; rw [stC_nat, hV]
                  have Hq1 := Lib.hid hq1
                  clear hesc hV hN hBk hq1 hokp hU hbb hne
                  clear cr0 fr0 cr1 fr1 cr2 fr2 cr3 fr3 cr4 fr4 ct0 ft0 ct1 ft1 ct2 ft2 ct3 ft3 ct4 ft4 z0 z1
                  go_wp2_with (first | (go_at_call 51; refine (rblank_any s[p] _).mono ?_; rintro e w' ⟨rfl, rfl⟩; rw [Hbb.out]) | (at_builtin; refine wpList_append_own _ rfl (.tmp 47) (.tmp 51) 86 rfl (w.heap.size + 2) 5 i0 (.int .u8 0) 1 1 Try.underlying86 hi hz0 hz1 hz2 rfl (by omega) _ out.length (bytesV out) rfl (Hown.out.alloc _) ⟨wr.heap.size, 0, none⟩ 1 1 [.int .u8 (s[p].toNat : Int)] rfl rfl (cell_one_new _ _ _) (by simp [Value.oneCell']) (by simp only [maxLen]; omega) (by omega) (by simp; omega) ?_; intro v' w3 hown3 hg3 _))
                  have hb3 : Below w.heap.size w w3 := (HB.out.alloc hsz _).grown hg3 (by simp; omega) (fun j h => by have := (Hown.out.lt j h).1; omega)
                  have HB3 := Lib.hid hb3
                  have HO3 := Lib.hid hown3
                  have HG3 := Lib.hid hg3
                  clear hb3 hown3 hg3
                  go_wp2_with fail
                  go_roundw
                  case rel =>
                    refine ⟨p + 1, out ++ [stC ((s.data.toList.drop p).take (E - p))], by omega, hpE, by simp; omega, by go_num, ?_, HB3.out, ?_, ?_, HU.out, (by rw [Hq1.out, show E - p - 1 = E - (p + 1) by omega])⟩
                    · rw [bytesV_snoc, HC.out, List.length_append]
                      exact HO3.out
                    · exact (HG3.out.block _ (by simp; omega) (fun e => by have := (Hown.out.lt _ e.symm).1; omega)).trans ((Below.heap_alloc _ _ _ BR.out.lt).trans BR.out)
                    · exact (HG3.out.block _ (by simp; omega) (fun e => by have := (Hown.out.lt _ e.symm).1; omega)).trans ((Below.heap_alloc _ _ _ BT.out.lt).trans BT.out)
                  case measure => simp [intOf]; omega
                · have hU : U = none := by rw [Ha.out, Hlk.out, unqL_bad (by rw [← Hlk.out, hBk]; exact blank_lt hbb e32)]; rfl
                  have hR : RS = bad 30 := by rw [← HX.out, hU]; rfl
                  subst hR
                  clear hesc hV hN hBk hq1 hokp hU hbb hne HX
                  go_wp2_with (go_at_call 51; refine (rblank_any s[p] _).mono ?_; rintro e w' ⟨rfl, rfl⟩; rw [Hbb.out])
                  refine rstr_fin _ a w _ w.heap.size _ 12 a ((E : Int) + 1) 0 30 [] rfl rfl rfl (Blk.as (c := ?cc1) ?hb1 ?he1) ?hl1
                  case hb1 => exact (((((BR.out.set _ _).set _ _).set _ _).set _ _).set _ _)
                  case he1 => rfl
                  case hl1 => exact RefP.bad (((((HB.out.setCell (Nat.le_refl _) _).setCell (Nat.le_refl _) _).setCell (Nat.le_refl _) _).setCell (Nat.le_refl _) _).setCell (Nat.le_refl _) _) rfl (by decide)
              · have n32 : ((s[p].toNat : Int) != 32) = false := by simp [bne, e32]
                have hU := unq_next (l := (s.data.toList.drop p).take (E - p)) (by rw [Hlk.out]; simp) Ha.out (by rw [hBk]; exact ok_ge hokp (.inr e32))
                rw [hN, List.drop_take, List.drop_drop] at hU
                have HU := Lib.hid (hU.trans (by rw [show E - p - 1 = E - (p + 1) by omega]))
                have HC : Hid (((stC ((s.data.toList.drop p).take (E - p))).toNat : Int) = (s[p].toNat : Int)) := by show _ = _; rw [stC_nat, hV]
                have Hq1 := Lib.hid hq1
                clear hesc hV hN hBk hq1 hokp hU hne
                clear cr0 fr0 cr1 fr1 cr2 fr2 cr3 fr3 cr4 fr4 ct0 ft0 ct1 ft1 ct2 ft2 ct3 ft3 ct4 ft4 z0 z1
                cases bb
                all_goals
                  clear hbb
                  go_wp2_with (first | (go_at_call 51; refine (rblank_any s[p] _).mono ?_; rintro e w' ⟨rfl, rfl⟩; rw [Hbb.out]) | (at_builtin; refine wpList_append_own _ rfl (.tmp 47) (.tmp 51) 86 rfl (w.heap.size + 2) 5 i0 (.int .u8 0) 1 1 Try.underlying86 hi hz0 hz1 hz2 rfl (by omega) _ out.length (bytesV out) rfl (Hown.out.alloc _) ⟨wr.heap.size, 0, none⟩ 1 1 [.int .u8 (s[p].toNat : Int)] rfl rfl (cell_one_new _ _ _) (by simp [Value.oneCell']) (by simp only [maxLen]; omega) (by omega) (by simp; omega) ?_; intro v' w3 hown3 hg3 _))
                  have hb3 : Below w.heap.size w w3 := (HB.out.alloc hsz _).grown hg3 (by simp; omega) (fun j h => by have := (Hown.out.lt j h).1; omega)
                  have HB3 := Lib.hid hb3
                  have HO3 := Lib.hid hown3
                  have HG3 := Lib.hid hg3
                  clear hb3 hown3 hg3
                  go_wp2_with fail
                  go_roundw
                  case rel =>
                    refine ⟨p + 1, out ++ [stC ((s.data.toList.drop p).take (E - p))], by omega, hpE, by simp; omega, by go_num, ?_, HB3.out, ?_, ?_, HU.out, (by rw [Hq1.out, show E - p - 1 = E - (p + 1) by omega])⟩
                    · rw [bytesV_snoc, HC.out, List.length_append]
                      exact HO3.out
                    · exact (HG3.out.block _ (by simp; omega) (fun e => by have := (Hown.out.lt _ e.symm).1; omega)).trans ((Below.heap_alloc _ _ _ BR.out.lt).trans BR.out)
                    · exact (HG3.out.block _ (by simp; omega) (fun e => by have := (Hown.out.lt _ e.symm).1; omega)).trans ((Below.heap_alloc _ _ _ BT.out.lt).trans BT.out)
                  case measure => simp [intOf]; omega
            · have h92 := u8_is (n := 92) (by decide) e92
              have h2 : 2 ≤ E - p := esc_two (r := s.data.toList.drop (p + 1)) (by have h := Hqe.out; rw [Hd.out, h92] at h; exact h)
              have hp1s : p + 1 < s.size := by omega
              have hd2 := drop_at s (p + 1) hp1s
              have hrr : (s.data.toList.drop (p + 1)).take (E - p - 1) = s[p + 1] :: (s.data.toList.drop (p + 2)).take (E - p - 2) := by
                obtain ⟨m, hm⟩ : ∃ m, E - p - 1 = m + 1 := ⟨E - p - 2, by omega⟩
                rw [hd2, hm, List.take_succ_cons, show E - p - 2 = m by omega]
              have hl2 : (s.data.toList.drop p).take (E - p) = 92 :: s[p + 1] :: (s.data.toList.drop (p + 2)).take (E - p - 2) := by rw [Hlk.out, hrr, h92]; rfl
              have hrE := run_to s E hE2'
              have hel : (s.extract 0 E).data.toList = s.data.toList.take E := by rw [Lib.extract_data]; rfl
              have hez : (s.extract 0 E).size = E := by rw [← len_of, hel, List.length_take, len_of]; omega
              generalize s.extract 0 E = u at *
              have HESC : Hid (∀ w : World, Calls Try.prog 122 #[.string u, .int .i64 ((p : Int) + 1)] w fun e w' => e = .returned (.tuple #[.int .i64 (escRV (s[p + 1] :: (s.data.toList.drop (p + 2)).take (E - p - 2))), .int .i64 (escRN (s[p + 1] :: (s.data.toList.drop (p + 2)).take (E - p - 2)))]) ∧ w = w') := fun w => by
                have h := escaped_any u (p + 1) w (by omega) (by omega)
                rw [hel, List.drop_take, show E - (p + 1) = E - p - 1 by omega, hrr] at h
                exact h
              obtain ⟨st1, st2⟩ := esc_step s[p + 1] ((s.data.toList.drop (p + 2)).take (E - p - 2))
              have hRN := escRN_at s[p + 1] ((s.data.toList.drop (p + 2)).take (E - p - 2))
              have hfull := esc_full (c := s[p + 1]) (r := s.data.toList.drop (p + 2)) (j := E - p - 2)
              rw [← hl2] at st1 st2
              have hvl := stV_le ((s.data.toList.drop p).take (E - p))
              generalize escRV (s[p + 1] :: (s.data.toList.drop (p + 2)).take (E - p - 2)) = v at *
              generalize escRN (s[p + 1] :: (s.data.toList.drop (p + 2)).take (E - p - 2)) = m at *
              by_cases hv0 : v < 0
              · have dv : decide (v < 0) = true := by simpa using hv0
                have hU : U = none := by rw [Ha.out, hl2, unqL_bad (by rw [← hl2, st1, decide_eq_false (by omega)])]; rfl
                have hR : RS = bad 30 := by rw [← HX.out, hU]; rfl
                subst hR
                have ipE : (E : Int) ≤ 1000000 := by omega
                clear st1 st2 hRN hfull hvl hl2 hrr hel hez hd2 h92 hU HX hv0
                go_wp2_with (go_at_call 122; refine (HESC.out _).mono ?_; rintro e w' ⟨rfl, rfl⟩)
                refine rstr_fin _ a w _ w.heap.size _ 12 a ((E : Int) + 1) 0 30 [] rfl rfl rfl (Blk.as (c := ?cc2) ?hb2 ?he2) ?hl2
                case hb2 => exact (((((BR.out.set _ _).set _ _).set _ _).set _ _).set _ _)
                case he2 => rfl
                case hl2 => exact RefP.bad (((((HB.out.setCell (Nat.le_refl _) _).setCell (Nat.le_refl _) _).setCell (Nat.le_refl _) _).setCell (Nat.le_refl _) _).setCell (Nat.le_refl _) _) rfl (by decide)
              · have dv : decide (v < 0) = false := by simpa using hv0
                obtain ⟨sv, sn⟩ := st2 (by omega)
                have hN1 : stN ((s.data.toList.drop p).take (E - p)) = stN (s.data.toList.drop p) ∧ stN (s.data.toList.drop p) ≤ E - p ∧ qEnd ((s.data.toList.drop p).drop (stN (s.data.toList.drop p))) = some (E - p - stN (s.data.toList.drop p)) := by
                  have hdp : s.data.toList.drop p = 92 :: s[p + 1] :: s.data.toList.drop (p + 2) := by rw [Hd.out, hd2, h92]; rfl
                  have hv1 := hfull (by omega)
                  obtain ⟨e1, e2⟩ := esc_end hdp Hqe.out hv1
                  have e3 := (esc_step s[p + 1] (s.data.toList.drop (p + 2))).2 hv1
                  rw [← hdp, escRN_at] at e3
                  rw [hRN] at sn
                  exact ⟨by omega, e1, e2⟩
                have hU := unq_next (l := (s.data.toList.drop p).take (E - p)) (by rw [hl2]; simp) Ha.out (by rw [st1]; exact decide_eq_true (by omega))
                rw [List.drop_take, List.drop_drop, hN1.1] at hU
                rw [hN1.1] at sn
                have hq1 := hN1.2.2
                rw [List.drop_drop] at hq1
                have hle := hN1.2.1
                have hC : ((stC ((s.data.toList.drop p).take (E - p))).toNat : Int) = v := by rw [stC_nat, sv]
                have hm3 : 1 ≤ m ∧ m ≤ 3 := by rw [hRN]; split <;> omega
                generalize stN (s.data.toList.drop p) = j at *
                have HU := Lib.hid (hU.trans (by rw [show E - p - j = E - (p + j) by omega]))
                have Hq1 := Lib.hid (hq1.trans (by rw [show E - p - j = E - (p + j) by omega]))
                have HC := Lib.hid hC
                have v0 : 0 ≤ v := by omega
                have v255 : v ≤ 255 := by omega
                obtain ⟨m1, m2⟩ := hm3
                have hsn : (j : Int) = 1 + m := sn
                have HJ := Lib.hid hsn
                have hpj : p + j ≤ E := by omega
                have hj1 : 1 ≤ j := by omega
                have ipE : (E : Int) ≤ 1000000 := by omega
                clear st1 st2 hRN hfull hvl hl2 hrr hel hez hd2 h92 hU sv sn hN1 hq1 hC hsn hv0 hle
                clear cr0 fr0 cr1 fr1 cr2 fr2 cr3 fr3 cr4 fr4 ct0 ft0 ct1 ft1 ct2 ft2 ct3 ft3 ct4 ft4 z0 z1
                go_wp2_with (first | (go_at_call 122; refine (HESC.out _).mono ?_; rintro e w' ⟨rfl, rfl⟩) | (at_builtin; refine wpList_append_own _ rfl (.tmp 72) (.tmp 75) 86 rfl (w.heap.size + 2) 5 i0 (.int .u8 0) 1 1 Try.underlying86 hi hz0 hz1 hz2 rfl (by omega) _ out.length (bytesV out) rfl (Hown.out.alloc _) ⟨wr.heap.size, 0, none⟩ 1 1 [.int .u8 v] rfl rfl (cell_one_new _ _ _) (by simp [Value.oneCell']) (by simp only [maxLen]; omega) (by omega) (by simp; omega) ?_; intro v' w3 hown3 hg3 _))
                have hb3 : Below w.heap.size w w3 := (HB.out.alloc hsz _).grown hg3 (by simp; omega) (fun j h => by have := (Hown.out.lt j h).1; omega)
                have HB3 := Lib.hid hb3
                have HO3 := Lib.hid hown3
                have HG3 := Lib.hid hg3
                clear hb3 hown3 hg3
                go_wp2_with fail
                go_roundw
                case rel =>
                  refine ⟨p + j, out ++ [stC ((s.data.toList.drop p).take (E - p))], by omega, hpj, by simp; omega, by show Value.int .i64 ((p : Int) + (1 + m)) = _; rw [← HJ.out]; go_num, ?_, HB3.out, ?_, ?_, HU.out, Hq1.out⟩
                  · rw [bytesV_snoc, HC.out, List.length_append]
                    exact HO3.out
                  · exact (HG3.out.block _ (by simp; omega) (fun e => by have := (Hown.out.lt _ e.symm).1; omega)).trans ((Below.heap_alloc _ _ _ BR.out.lt).trans BR.out)
                  · exact (HG3.out.block _ (by simp; omega) (fun e => by have := (Hown.out.lt _ e.symm).1; omega)).trans ((Below.heap_alloc _ _ _ BT.out.lt).trans BT.out)
                case measure => simp [intOf]; omega
          · have hEp : p = E := by omega
            subst hEp
            have dp : decide ((p : Int) < (p : Int)) = false := by simp
            have hU : U = some out := by
              rw [Ha.out, Nat.sub_self]
              show some (out ++ []) = _
              rw [List.append_nil]
            have hx := HX.out
            rw [hU] at hx
            unfold strU at hx
            have hcv := own_conv Hown.out
            obtain ⟨va, vc, rfl⟩ := own_slice Hown.out
            have cr0 : wr.cell? ⟨w.heap.size, 0, none⟩ = some (.int .i64 0) := (BR.out.cell 0).trans rfl
            have fr0 : wr.frozen? ⟨w.heap.size, 0, none⟩ = false := BR.out.frozen 0
            have cr1 : wr.cell? ⟨w.heap.size, 1, none⟩ = some (.int .i64 0) := (BR.out.cell 1).trans rfl
            have fr1 : wr.frozen? ⟨w.heap.size, 1, none⟩ = false := BR.out.frozen 1
            have cr2 : wr.cell? ⟨w.heap.size, 2, none⟩ = some (.int .i64 0) := (BR.out.cell 2).trans rfl
            have fr2 : wr.frozen? ⟨w.heap.size, 2, none⟩ = false := BR.out.frozen 2
            have cr3 : wr.cell? ⟨w.heap.size, 3, none⟩ = some (.int .i64 0) := (BR.out.cell 3).trans rfl
            have fr3 : wr.frozen? ⟨w.heap.size, 3, none⟩ = false := BR.out.frozen 3
            have cr4 : wr.cell? ⟨w.heap.size, 4, none⟩ = some (.string ⟨#[]⟩) := (BR.out.cell 4).trans rfl
            have fr4 : wr.frozen? ⟨w.heap.size, 4, none⟩ = false := BR.out.frozen 4
            have ct0 : wr.cell? ⟨w.heap.size + 1, 0, none⟩ = some (.int .i64 12) := (BT.out.cell 0).trans rfl
            have ft0 : wr.frozen? ⟨w.heap.size + 1, 0, none⟩ = false := BT.out.frozen 0
            have ct1 : wr.cell? ⟨w.heap.size + 1, 1, none⟩ = some (.int .i64 (a : Int)) := (BT.out.cell 1).trans rfl
            have ft1 : wr.frozen? ⟨w.heap.size + 1, 1, none⟩ = false := BT.out.frozen 1
            have ct2 : wr.cell? ⟨w.heap.size + 1, 2, none⟩ = some (.int .i64 ((p : Int) + 1)) := (BT.out.cell 2).trans rfl
            have ft2 : wr.frozen? ⟨w.heap.size + 1, 2, none⟩ = false := BT.out.frozen 2
            have ct3 : wr.cell? ⟨w.heap.size + 1, 3, none⟩ = some (.int .i64 0) := (BT.out.cell 3).trans rfl
            have ft3 : wr.frozen? ⟨w.heap.size + 1, 3, none⟩ = false := BT.out.frozen 3
            have ct4 : wr.cell? ⟨w.heap.size + 1, 4, none⟩ = some (.string ⟨#[]⟩) := (BT.out.cell 4).trans rfl
            have ft4 : wr.frozen? ⟨w.heap.size + 1, 4, none⟩ = false := BT.out.frozen 4
            have z0 : w.heap.size < wr.heap.size := BR.out.lt
            have z1 : w.heap.size + 1 < wr.heap.size := BT.out.lt
            by_cases h256 : (out.length : Int) ≤ 256
            · have hR : RS = ⟨12, 0, out, p - (a + 1) + 2, 0⟩ := by rw [← hx, if_pos (show unqOk (some out) = true from decide_eq_true h256)]; rfl
              subst hR
              have d256 : decide ((out.length : Int) > 256) = false := decide_eq_false (by omega)
              clear hx hU HX
              go_wp2_with fail
              refine rstr_fin _ a w _ w.heap.size _ 12 a ((p : Int) + 1) 0 0 out rfl rfl rfl (Blk.as (c := ?cc3) ?hb3 ?he3) ?hl3
              case hb3 => exact ((((((BR.out.other (Nat.succ_ne_self _) _ _).set _ _).set _ _).set _ _).set _ _).set _ _)
              case he3 => rfl
              case hl3 => exact RefP.good ((((((HB.out.setCell (Nat.le_succ _) _).setCell (Nat.le_refl _) _).setCell (Nat.le_refl _) _).setCell (Nat.le_refl _) _).setCell (Nat.le_refl _) _).setCell (Nat.le_refl _) _) rfl rfl (by show ((a + (p - (a + 1) + 2) : Nat) : Int) = _; omega) rfl rfl
            · have hR : RS = bad 30 := by rw [← hx, if_neg (show ¬ unqOk (some out) = true from fun h => h256 (of_decide_eq_true h))]
              subst hR
              have d256 : decide ((out.length : Int) > 256) = true := decide_eq_true (by omega)
              clear hx hU HX
              go_wp2_with fail
              refine rstr_fin _ a w _ w.heap.size _ 12 a ((p : Int) + 1) 0 30 [] rfl rfl rfl (Blk.as (c := ?cc4) ?hb4 ?he4) ?hl4
              case hb4 => exact (((((BR.out.set _ _).set _ _).set _ _).set _ _).set _ _)
              case he4 => rfl
              case hl4 => exact RefP.bad (((((HB.out.setCell (Nat.le_refl _) _).setCell (Nat.le_refl _) _).setCell (Nat.le_refl _) _).setCell (Nat.le_refl _) _).setCell (Nat.le_refl _) _) rfl (by decide)
    · have dl : decide ((E : Int) < (s.size : Int)) = false := by simp [hlt]
      have hge : (s.size : Int) ≤ (E : Int) := by omega
      have dg : decide ((E : Int) ≥ (s.size : Int)) = true := decide_eq_true hge
      have hR : RS = bad 31 := by
        rw [← HRS.out]
        unfold strSc
        rw [HQ.out, HE.out, drop_none s E (by omega)]
        rfl
      subst hR
      clear HRS HQ HE
      go_wp2_with fail
      refine bodyPost_ret (v := .tuple #[tokV 12 a 0 0 [], .int .i64 31]) ?_ rfl ?_
      · simp [results, Try.results93, go_sem, tokV]
      · exact RefP.bad (((Below.refl _ _).alloc (Nat.le_refl _) _).alloc (by simp) _) rfl (by decide)
end Go.Proofs.Yteddfdhbpgbloaa.Lx
