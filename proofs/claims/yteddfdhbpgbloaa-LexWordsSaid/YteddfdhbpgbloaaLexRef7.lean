/- The word that begins at a place: the document's function (layer 3). -/
import Derived.Test.YteddfdhbpgbloaaLexRef6
import Derived.Test.YteddfdhbpgbloaaLexRefMath
namespace Go.Proofs.Yteddfdhbpgbloaa.Lx
open Go.ChangeShapes Go.WideShapes Go.ChangeAt Go.RowKit
set_option linter.unusedVariables false

/-- The byte behind the first one. -/
def nxB : Bs → UInt8 | [] => 0 | c :: _ => c
theorem scm_mark {l : Bs} {k : Int} (hk : markF kinds7 l = k) (h0 : (k != 0) = true) : scanR l = ⟨k, 0, [], (markS k).length, 0⟩ := by
  unfold scanR; rw [hk, if_pos h0]
theorem scm_str (r : Bs) : scanR (34 :: r) = strSc (34 :: r) := by rfl
theorem scm_hash (d : UInt8) (r : Bs) : markF kinds7 (35 :: d :: r) = if d = 40 then 3 else 0 := by
  by_cases h : d = 40
  · subst h; rfl
  · rw [if_neg h]
    show (if ((40 : UInt8) == d && true) = true then (3 : Int) else 0) = 0
    rw [beq_eq_false_iff_ne.2 (Ne.symm h)]; rfl
theorem scm_comma (d : UInt8) (r : Bs) : markF kinds7 (44 :: d :: r) = if d = 64 then 7 else 6 := by
  by_cases h : d = 64
  · subst h; rfl
  · rw [if_neg h]
    show (if ((64 : UInt8) == d && true) = true then (7 : Int) else 6) = 6
    rw [beq_eq_false_iff_ne.2 (Ne.symm h)]; rfl
theorem scm_char (r : Bs) : scanR (35 :: 92 :: r) = if ((35 :: 92 :: r : Bs) == [35, 92]) = true then bad 31 else charSc (35 :: 92 :: r) := by
  unfold scanR
  rw [scm_hash, if_neg (by decide)]
  rw [if_neg (show ¬ isQuote (35 :: 92 :: r) = true from fun h => by cases h)]
  by_cases h : ((35 :: 92 :: r : Bs) == [35, 92]) = true
  · rw [if_pos h, if_pos h]
  · rw [if_neg h, if_neg h, if_pos (show Lib.hasPrefix (35 :: 92 :: r) [35, 92] = true from rfl)]
theorem scm_rhash {r : Bs} (h1 : nxB r ≠ 40) (h2 : nxB r ≠ 92) : scanR (35 :: r) = runSc (35 :: r) := by
  match r, h1, h2 with
  | [], _, _ => rfl
  | d :: r, h1, h2 =>
    unfold scanR
    rw [scm_hash, if_neg (show ¬ d = 40 from h1), if_neg (by decide), if_neg (show ¬ isQuote (35 :: d :: r) = true from fun h => by cases h)]
    have h3 : ((92 : UInt8) == d) = false := beq_eq_false_iff_ne.2 (Ne.symm h2)
    have h4 : ((d : UInt8) == 92) = false := beq_eq_false_iff_ne.2 h2
    rw [if_neg (show ¬ ((35 :: d :: r : Bs) == [35, 92]) = true from fun h => by
      rw [beq_iff_eq] at h; injection h with _ h; injection h with h _; exact h2 h)]
    rw [if_neg (show ¬ Lib.hasPrefix (35 :: d :: r) [35, 92] = true from fun h => by
      have h5 : ((35 : UInt8) == 35 && ((92 : UInt8) == d && true)) = true := h
      rw [h3] at h5; exact absurd h5 (by decide))]
theorem scm_run {c : UInt8} {r : Bs} (h1 : c ≠ 40) (h2 : c ≠ 41) (h3 : c ≠ 39) (h4 : c ≠ 96) (h5 : c ≠ 44) (h6 : c ≠ 35) (h7 : c ≠ 34) : scanR (c :: r) = runSc (c :: r) := by
  have e (x : UInt8) (p : Bs) (h : c ≠ x) : Lib.hasPrefix (c :: r) (x :: p) = false := by
    show (x == c && _) = false
    rw [beq_eq_false_iff_ne.2 (Ne.symm h)]; rfl
  have hm : markF kinds7 (c :: r) = 0 := by
    show (if Lib.hasPrefix (c :: r) [40] = true then (1 : Int) else if Lib.hasPrefix (c :: r) [41] = true then 2 else if Lib.hasPrefix (c :: r) [35, 40] = true then 3 else if Lib.hasPrefix (c :: r) [39] = true then 4 else if Lib.hasPrefix (c :: r) [96] = true then 5 else if Lib.hasPrefix (c :: r) [44, 64] = true then 7 else if Lib.hasPrefix (c :: r) [44] = true then 6 else 0) = 0
    rw [e 40 _ h1, e 41 _ h2, e 35 _ h6, e 39 _ h3, e 96 _ h4, e 44 _ h5, e 44 _ h5]; rfl
  have hq : isQuote (c :: r) = false := by
    unfold isQuote; split
    · next h => injection h with x y; exact absurd x h7
    · rfl
  unfold scanR
  rw [hm, if_neg (by decide), hq, if_neg (by decide)]
  rw [if_neg (show ¬ ((c :: r : Bs) == [35, 92]) = true from fun h => by rw [beq_iff_eq] at h; injection h with h _; exact h6 h), e 35 _ h6, if_neg (by decide)]
theorem not_delim {c : UInt8} (hb : blankB c = false) (h1 : c ≠ 59) (h2 : ((c.toNat : Int) == 40) = false) (h3 : ((c.toNat : Int) == 41) = false) (h4 : ((c.toNat : Int) == 34) = false) : delimB c = false := by
  unfold delimB
  rw [hb, h2, h3, h4]
  have : ((c.toNat : Int) == 59) = false := by
    rw [show ((59 : Int)) = ((59 : Nat) : Int) from rfl, u8_toNat c 59 (by decide)]; exact beq_eq_false_iff_ne.2 h1
  rw [this]; rfl
theorem rword_fin (R : Sc) (q : Nat) (w WF : World) (N : Nat) (act : Act) (k a z n e : Int) (S : Bs) (h4 : act.tmps.getD 4 undef = .pointer (some ⟨N, 0, none⟩)) (h5 : act.tmps.getD 5 undef = .int .i64 e) (hd : act.defers = [])
    (hB : Blk WF N 50 #[.int .i64 k, .int .i64 a, .int .i64 z, .int .i64 n, .string ⟨S.toArray⟩]) (hp : RefP R q w (.returned (.tuple #[tokV k a z n S, .int .i64 e])) WF) :
    bodyPost Try.prog Try.f53 (RefP R q w) Exit.ret act WF := by
  rw [Array.getD_eq_getD_getElem?] at h4 h5
  have c0 : WF.cell? ⟨N, 0, none⟩ = some (.int .i64 k) := (hB.cell 0).trans rfl
  have c1 : WF.cell? ⟨N, 1, none⟩ = some (.int .i64 a) := (hB.cell 1).trans rfl
  have c2 : WF.cell? ⟨N, 2, none⟩ = some (.int .i64 z) := (hB.cell 2).trans rfl
  have c3 : WF.cell? ⟨N, 3, none⟩ = some (.int .i64 n) := (hB.cell 3).trans rfl
  have c4 : WF.cell? ⟨N, 4, none⟩ = some (.string ⟨S.toArray⟩) := (hB.cell 4).trans rfl
  refine bodyPost_ret (v := .tuple #[tokV k a z n S, .int .i64 e]) ?_ hd hp
  simp [results, Try.results53, go_sem, tokV, h4, h5, c0, c1, c2, c3, c4]
set_option maxRecDepth 100000 in
set_option maxHeartbeats 16000000 in
theorem rword_any (s : ByteArray) (a : Nat) (w : World) (hs : s.size < 1000000) (ha : a < s.size) (hok : Hid (s.data.toList.all okC = true)) (hb : blankB s[a] = false) (hc : s[a] ≠ 59) :
    Calls Try.prog 53 #[.string s, .int .i64 (a : Int)] w (RefP (scanR (s.data.toList.drop a)) a w) := by
  have hd := drop_at s a ha
  have Hnd := Lib.hid (not_delim (c := s[a]) hb hc)
  clear hb hc
  have Hd := Lib.hid hd
  clear hd
  have HSTR := Lib.hid (rstr_any s a · hs ha · hok)
  have HCH := Lib.hid (rchar_any s a · hs ha)
  have HRUN := Lib.hid (rrun_any s a · hs ha)
  obtain ⟨RS, hRS⟩ : ∃ RS, scanR (s.data.toList.drop a) = RS := ⟨_, rfl⟩
  rw [hRS]
  have HRS := Lib.hid hRS
  clear hRS
  have i1 : (a : Int) < (s.size : Int) := by omega
  by_cases n1 : a + 1 < s.size
  · have dn : decide ((a : Int) + 1 < (s.size : Int)) = true := decide_eq_true (by omega)
    have i2 : (a : Int) + 1 < (s.size : Int) := by omega
    have hd2 := drop_at s (a + 1) n1
    have Hd2 := Lib.hid hd2
    clear hd2
    cases e40 : (s[a].toNat : Int) == 40
    case true =>
      have hx : RS = ⟨1, 0, [], 1, 0⟩ := by rw [← HRS.out, Hd.out, u8_is (n := 40) (by decide) e40]; exact scm_mark (k := 1) rfl rfl
      subst hx
      clear HRS HSTR HCH HRUN Hnd
      go_enter Try.func53, Try.ntmps53
      go_wp2_with fail
      refine bodyPost_ret (v := .tuple #[tokV 1 a ((a : Int) + 1) 0 [], .int .i64 0]) ?_ rfl ?_
      · simp [results, Try.results53, go_sem, tokV]
      · exact RefP.good (((Below.refl _ _).alloc (Nat.le_refl _) _).alloc (by simp) _) rfl rfl (by show ((a + 1 : Nat) : Int) = _; omega) rfl rfl
    cases e41 : (s[a].toNat : Int) == 41
    case true =>
      have hx : RS = ⟨2, 0, [], 1, 0⟩ := by rw [← HRS.out, Hd.out, u8_is (n := 41) (by decide) e41]; exact scm_mark (k := 2) rfl rfl
      subst hx
      clear HRS HSTR HCH HRUN Hnd
      go_enter Try.func53, Try.ntmps53
      go_wp2_with fail
      refine bodyPost_ret (v := .tuple #[tokV 2 a ((a : Int) + 1) 0 [], .int .i64 0]) ?_ rfl ?_
      · simp [results, Try.results53, go_sem, tokV]
      · exact RefP.good (((Below.refl _ _).alloc (Nat.le_refl _) _).alloc (by simp) _) rfl rfl (by show ((a + 1 : Nat) : Int) = _; omega) rfl rfl
    cases e39 : (s[a].toNat : Int) == 39
    case true =>
      have hx : RS = ⟨4, 0, [], 1, 0⟩ := by rw [← HRS.out, Hd.out, u8_is (n := 39) (by decide) e39]; exact scm_mark (k := 4) rfl rfl
      subst hx
      clear HRS HSTR HCH HRUN Hnd
      go_enter Try.func53, Try.ntmps53
      go_wp2_with fail
      refine bodyPost_ret (v := .tuple #[tokV 4 a ((a : Int) + 1) 0 [], .int .i64 0]) ?_ rfl ?_
      · simp [results, Try.results53, go_sem, tokV]
      · exact RefP.good (((Below.refl _ _).alloc (Nat.le_refl _) _).alloc (by simp) _) rfl rfl (by show ((a + 1 : Nat) : Int) = _; omega) rfl rfl
    cases e96 : (s[a].toNat : Int) == 96
    case true =>
      have hx : RS = ⟨5, 0, [], 1, 0⟩ := by rw [← HRS.out, Hd.out, u8_is (n := 96) (by decide) e96]; exact scm_mark (k := 5) rfl rfl
      subst hx
      clear HRS HSTR HCH HRUN Hnd
      go_enter Try.func53, Try.ntmps53
      go_wp2_with fail
      refine bodyPost_ret (v := .tuple #[tokV 5 a ((a : Int) + 1) 0 [], .int .i64 0]) ?_ rfl ?_
      · simp [results, Try.results53, go_sem, tokV]
      · exact RefP.good (((Below.refl _ _).alloc (Nat.le_refl _) _).alloc (by simp) _) rfl rfl (by show ((a + 1 : Nat) : Int) = _; omega) rfl rfl
    cases e44 : (s[a].toNat : Int) == 44
    case true =>
      cases n64 : (s[a + 1].toNat : Int) == 64
      · have hx : RS = ⟨6, 0, [], 1, 0⟩ := by rw [← HRS.out, Hd.out, Hd2.out, u8_is (n := 44) (by decide) e44]; exact scm_mark (k := 6) ((scm_comma _ _).trans (if_neg (u8_ne (n := 64) (by decide) n64))) rfl
        subst hx
        clear HRS HSTR HCH HRUN Hnd
        go_enter Try.func53, Try.ntmps53
        go_wp2_with fail
        refine bodyPost_ret (v := .tuple #[tokV 6 a ((a : Int) + 1) 0 [], .int .i64 0]) ?_ rfl ?_
        · simp [results, Try.results53, go_sem, tokV]
        · exact RefP.good (((Below.refl _ _).alloc (Nat.le_refl _) _).alloc (by simp) _) rfl rfl (by show ((a + 1 : Nat) : Int) = _; omega) rfl rfl
      · have hx : RS = ⟨7, 0, [], 2, 0⟩ := by rw [← HRS.out, Hd.out, Hd2.out, u8_is (n := 44) (by decide) e44]; exact scm_mark (k := 7) ((scm_comma _ _).trans (if_pos (u8_is (n := 64) (by decide) n64))) rfl
        subst hx
        clear HRS HSTR HCH HRUN Hnd
        go_enter Try.func53, Try.ntmps53
        go_wp2_with fail
        refine bodyPost_ret (v := .tuple #[tokV 7 a ((a : Int) + 2) 0 [], .int .i64 0]) ?_ rfl ?_
        · simp [results, Try.results53, go_sem, tokV]
        · exact RefP.good (((Below.refl _ _).alloc (Nat.le_refl _) _).alloc (by simp) _) rfl rfl (by show ((a + 2 : Nat) : Int) = _; omega) rfl rfl
    cases e35 : (s[a].toNat : Int) == 35
    case true =>
      have e34 : ((s[a].toNat : Int) == 34) = false := by rw [beq_iff_eq.1 e35]; rfl
      cases n40 : (s[a + 1].toNat : Int) == 40
      case true =>
        have hx : RS = ⟨3, 0, [], 2, 0⟩ := by rw [← HRS.out, Hd.out, Hd2.out, u8_is (n := 35) (by decide) e35]; exact scm_mark (k := 3) ((scm_hash _ _).trans (if_pos (u8_is (n := 40) (by decide) n40))) rfl
        subst hx
        clear HRS HSTR HCH HRUN Hnd
        go_enter Try.func53, Try.ntmps53
        go_wp2_with fail
        refine bodyPost_ret (v := .tuple #[tokV 3 a ((a : Int) + 2) 0 [], .int .i64 0]) ?_ rfl ?_
        · simp [results, Try.results53, go_sem, tokV]
        · exact RefP.good (((Below.refl _ _).alloc (Nat.le_refl _) _).alloc (by simp) _) rfl rfl (by show ((a + 2 : Nat) : Int) = _; omega) rfl rfl
      cases n92 : (s[a + 1].toNat : Int) == 92
      · have hx : RS = runSc (s.data.toList.drop a) := by rw [← HRS.out, Hd.out, Hd2.out, u8_is (n := 35) (by decide) e35]; exact scm_rhash (u8_ne (n := 40) (by decide) n40) (u8_ne (n := 92) (by decide) n92)
        have HC : Hid (∀ w, Calls Try.prog 95 #[.string s, .int .i64 (a : Int)] w (RefP RS a w)) := fun w => by have h := HRUN.out w (Hnd.out e40 e41 e34); rw [← hx] at h; exact h
        clear hx
        clear HRS HSTR HCH HRUN Hnd
        go_enter Try.func53, Try.ntmps53
        go_wp2_with fail
        obtain ⟨hbX, hsX, hkX⟩ := start_allocs [(#[.int .i64 0, .int .i64 0, .int .i64 0, .int .i64 0, .string ⟨#[]⟩], 50), (#[.int .i64 0, .int .i64 (a : Int), .int .i64 ((a : Int) + 1), .int .i64 0, .string ⟨#[]⟩], 50)] w
        have g0 := hkX 0 _ rfl
        simp only [allocs, List.foldl_cons, List.foldl_nil, Nat.add_zero] at hbX g0
        clear hkX hsX
        generalize (w.alloc (.cells #[.int .i64 0, .int .i64 0, .int .i64 0, .int .i64 0, .string ⟨#[]⟩] 50)).alloc (.cells #[.int .i64 0, .int .i64 (a : Int), .int .i64 ((a : Int) + 1), .int .i64 0, .string ⟨#[]⟩] 50) = X at *
        refine (HC.out _).mono ?_
        rintro e w1 ⟨k, b, z, n, S, rfl, hv, hb⟩
        have BR := Lib.hid (g0.bel hb)
        have HB := Lib.hid (bel_trans hbX hb)
        have HV := Lib.hid hv
        clear hb hbX g0 hv
        have cr0 : w1.cell? ⟨w.heap.size, 0, none⟩ = some (.int .i64 0) := (BR.out.cell 0).trans rfl
        have fr0 : w1.frozen? ⟨w.heap.size, 0, none⟩ = false := BR.out.frozen 0
        have cr1 : w1.cell? ⟨w.heap.size, 1, none⟩ = some (.int .i64 0) := (BR.out.cell 1).trans rfl
        have fr1 : w1.frozen? ⟨w.heap.size, 1, none⟩ = false := BR.out.frozen 1
        have cr2 : w1.cell? ⟨w.heap.size, 2, none⟩ = some (.int .i64 0) := (BR.out.cell 2).trans rfl
        have fr2 : w1.frozen? ⟨w.heap.size, 2, none⟩ = false := BR.out.frozen 2
        have cr3 : w1.cell? ⟨w.heap.size, 3, none⟩ = some (.int .i64 0) := (BR.out.cell 3).trans rfl
        have fr3 : w1.frozen? ⟨w.heap.size, 3, none⟩ = false := BR.out.frozen 3
        have cr4 : w1.cell? ⟨w.heap.size, 4, none⟩ = some (.string ⟨#[]⟩) := (BR.out.cell 4).trans rfl
        have fr4 : w1.frozen? ⟨w.heap.size, 4, none⟩ = false := BR.out.frozen 4
        have z0 : w.heap.size < w1.heap.size := BR.out.lt
        simp only [tokV]
        go_wp2_with fail
        refine rword_fin RS a w _ w.heap.size _ k b z n RS.e S rfl rfl rfl (Blk.as (c := ?cc1) ?hbb1 ?hee1) ?hll1
        case hbb1 => exact (((((BR.out.set _ _).set _ _).set _ _).set _ _).set _ _)
        case hee1 => rfl
        case hll1 => exact ⟨k, b, z, n, S, rfl, HV.out, (((((HB.out.setCell (Nat.le_refl _) _).setCell (Nat.le_refl _) _).setCell (Nat.le_refl _) _).setCell (Nat.le_refl _) _).setCell (Nat.le_refl _) _)⟩
      · have hpr : Lib.hasPrefix (s.data.toList.drop a) [35, 92] = true := by rw [Hd.out, Hd2.out, u8_is (n := 35) (by decide) e35, u8_is (n := 92) (by decide) n92]; rfl
        have hx : RS = if (s.data.toList.drop a == [35, 92]) = true then bad 31 else charSc (s.data.toList.drop a) := by rw [← HRS.out, Hd.out, Hd2.out, u8_is (n := 35) (by decide) e35, u8_is (n := 92) (by decide) n92]; exact scm_char _
        have HC : Hid (∀ w, Calls Try.prog 94 #[.string s, .int .i64 (a : Int)] w (RefP RS a w)) := fun w => by have h := HCH.out w hpr; rw [← hx] at h; exact h
        clear hx hpr
        clear HRS HSTR HCH HRUN Hnd
        go_enter Try.func53, Try.ntmps53
        go_wp2_with fail
        obtain ⟨hbX, hsX, hkX⟩ := start_allocs [(#[.int .i64 0, .int .i64 0, .int .i64 0, .int .i64 0, .string ⟨#[]⟩], 50), (#[.int .i64 0, .int .i64 (a : Int), .int .i64 ((a : Int) + 1), .int .i64 0, .string ⟨#[]⟩], 50)] w
        have g0 := hkX 0 _ rfl
        simp only [allocs, List.foldl_cons, List.foldl_nil, Nat.add_zero] at hbX g0
        clear hkX hsX
        generalize (w.alloc (.cells #[.int .i64 0, .int .i64 0, .int .i64 0, .int .i64 0, .string ⟨#[]⟩] 50)).alloc (.cells #[.int .i64 0, .int .i64 (a : Int), .int .i64 ((a : Int) + 1), .int .i64 0, .string ⟨#[]⟩] 50) = X at *
        refine (HC.out _).mono ?_
        rintro e w1 ⟨k, b, z, n, S, rfl, hv, hb⟩
        have BR := Lib.hid (g0.bel hb)
        have HB := Lib.hid (bel_trans hbX hb)
        have HV := Lib.hid hv
        clear hb hbX g0 hv
        have cr0 : w1.cell? ⟨w.heap.size, 0, none⟩ = some (.int .i64 0) := (BR.out.cell 0).trans rfl
        have fr0 : w1.frozen? ⟨w.heap.size, 0, none⟩ = false := BR.out.frozen 0
        have cr1 : w1.cell? ⟨w.heap.size, 1, none⟩ = some (.int .i64 0) := (BR.out.cell 1).trans rfl
        have fr1 : w1.frozen? ⟨w.heap.size, 1, none⟩ = false := BR.out.frozen 1
        have cr2 : w1.cell? ⟨w.heap.size, 2, none⟩ = some (.int .i64 0) := (BR.out.cell 2).trans rfl
        have fr2 : w1.frozen? ⟨w.heap.size, 2, none⟩ = false := BR.out.frozen 2
        have cr3 : w1.cell? ⟨w.heap.size, 3, none⟩ = some (.int .i64 0) := (BR.out.cell 3).trans rfl
        have fr3 : w1.frozen? ⟨w.heap.size, 3, none⟩ = false := BR.out.frozen 3
        have cr4 : w1.cell? ⟨w.heap.size, 4, none⟩ = some (.string ⟨#[]⟩) := (BR.out.cell 4).trans rfl
        have fr4 : w1.frozen? ⟨w.heap.size, 4, none⟩ = false := BR.out.frozen 4
        have z0 : w.heap.size < w1.heap.size := BR.out.lt
        simp only [tokV]
        go_wp2_with fail
        refine rword_fin RS a w _ w.heap.size _ k b z n RS.e S rfl rfl rfl (Blk.as (c := ?cc2) ?hbb2 ?hee2) ?hll2
        case hbb2 => exact (((((BR.out.set _ _).set _ _).set _ _).set _ _).set _ _)
        case hee2 => rfl
        case hll2 => exact ⟨k, b, z, n, S, rfl, HV.out, (((((HB.out.setCell (Nat.le_refl _) _).setCell (Nat.le_refl _) _).setCell (Nat.le_refl _) _).setCell (Nat.le_refl _) _).setCell (Nat.le_refl _) _)⟩
    cases e34 : (s[a].toNat : Int) == 34
    · have hx : RS = runSc (s.data.toList.drop a) := by rw [← HRS.out, Hd.out]; exact scm_run (u8_ne (n := 40) (by decide) e40) (u8_ne (n := 41) (by decide) e41) (u8_ne (n := 39) (by decide) e39) (u8_ne (n := 96) (by decide) e96) (u8_ne (n := 44) (by decide) e44) (u8_ne (n := 35) (by decide) e35) (u8_ne (n := 34) (by decide) e34)
      have HC : Hid (∀ w, Calls Try.prog 95 #[.string s, .int .i64 (a : Int)] w (RefP RS a w)) := fun w => by have h := HRUN.out w (Hnd.out e40 e41 e34); rw [← hx] at h; exact h
      clear hx
      clear HRS HSTR HCH HRUN Hnd
      go_enter Try.func53, Try.ntmps53
      go_wp2_with fail
      obtain ⟨hbX, hsX, hkX⟩ := start_allocs [(#[.int .i64 0, .int .i64 0, .int .i64 0, .int .i64 0, .string ⟨#[]⟩], 50), (#[.int .i64 0, .int .i64 (a : Int), .int .i64 ((a : Int) + 1), .int .i64 0, .string ⟨#[]⟩], 50)] w
      have g0 := hkX 0 _ rfl
      simp only [allocs, List.foldl_cons, List.foldl_nil, Nat.add_zero] at hbX g0
      clear hkX hsX
      generalize (w.alloc (.cells #[.int .i64 0, .int .i64 0, .int .i64 0, .int .i64 0, .string ⟨#[]⟩] 50)).alloc (.cells #[.int .i64 0, .int .i64 (a : Int), .int .i64 ((a : Int) + 1), .int .i64 0, .string ⟨#[]⟩] 50) = X at *
      refine (HC.out _).mono ?_
      rintro e w1 ⟨k, b, z, n, S, rfl, hv, hb⟩
      have BR := Lib.hid (g0.bel hb)
      have HB := Lib.hid (bel_trans hbX hb)
      have HV := Lib.hid hv
      clear hb hbX g0 hv
      have cr0 : w1.cell? ⟨w.heap.size, 0, none⟩ = some (.int .i64 0) := (BR.out.cell 0).trans rfl
      have fr0 : w1.frozen? ⟨w.heap.size, 0, none⟩ = false := BR.out.frozen 0
      have cr1 : w1.cell? ⟨w.heap.size, 1, none⟩ = some (.int .i64 0) := (BR.out.cell 1).trans rfl
      have fr1 : w1.frozen? ⟨w.heap.size, 1, none⟩ = false := BR.out.frozen 1
      have cr2 : w1.cell? ⟨w.heap.size, 2, none⟩ = some (.int .i64 0) := (BR.out.cell 2).trans rfl
      have fr2 : w1.frozen? ⟨w.heap.size, 2, none⟩ = false := BR.out.frozen 2
      have cr3 : w1.cell? ⟨w.heap.size, 3, none⟩ = some (.int .i64 0) := (BR.out.cell 3).trans rfl
      have fr3 : w1.frozen? ⟨w.heap.size, 3, none⟩ = false := BR.out.frozen 3
      have cr4 : w1.cell? ⟨w.heap.size, 4, none⟩ = some (.string ⟨#[]⟩) := (BR.out.cell 4).trans rfl
      have fr4 : w1.frozen? ⟨w.heap.size, 4, none⟩ = false := BR.out.frozen 4
      have z0 : w.heap.size < w1.heap.size := BR.out.lt
      simp only [tokV]
      go_wp2_with fail
      refine rword_fin RS a w _ w.heap.size _ k b z n RS.e S rfl rfl rfl (Blk.as (c := ?cc3) ?hbb3 ?hee3) ?hll3
      case hbb3 => exact (((((BR.out.set _ _).set _ _).set _ _).set _ _).set _ _)
      case hee3 => rfl
      case hll3 => exact ⟨k, b, z, n, S, rfl, HV.out, (((((HB.out.setCell (Nat.le_refl _) _).setCell (Nat.le_refl _) _).setCell (Nat.le_refl _) _).setCell (Nat.le_refl _) _).setCell (Nat.le_refl _) _)⟩
    · have h34 := u8_is (n := 34) (by decide) e34
      have hx : RS = strSc (s.data.toList.drop a) := by rw [← HRS.out, Hd.out, h34]; exact scm_str _
      have HC : Hid (∀ w, Calls Try.prog 93 #[.string s, .int .i64 (a : Int)] w (RefP RS a w)) := fun w => by have h := HSTR.out w h34; rw [← hx] at h; exact h
      clear hx h34
      clear HRS HSTR HCH HRUN Hnd
      go_enter Try.func53, Try.ntmps53
      go_wp2_with fail
      obtain ⟨hbX, hsX, hkX⟩ := start_allocs [(#[.int .i64 0, .int .i64 0, .int .i64 0, .int .i64 0, .string ⟨#[]⟩], 50), (#[.int .i64 0, .int .i64 (a : Int), .int .i64 ((a : Int) + 1), .int .i64 0, .string ⟨#[]⟩], 50)] w
      have g0 := hkX 0 _ rfl
      simp only [allocs, List.foldl_cons, List.foldl_nil, Nat.add_zero] at hbX g0
      clear hkX hsX
      generalize (w.alloc (.cells #[.int .i64 0, .int .i64 0, .int .i64 0, .int .i64 0, .string ⟨#[]⟩] 50)).alloc (.cells #[.int .i64 0, .int .i64 (a : Int), .int .i64 ((a : Int) + 1), .int .i64 0, .string ⟨#[]⟩] 50) = X at *
      refine (HC.out _).mono ?_
      rintro e w1 ⟨k, b, z, n, S, rfl, hv, hb⟩
      have BR := Lib.hid (g0.bel hb)
      have HB := Lib.hid (bel_trans hbX hb)
      have HV := Lib.hid hv
      clear hb hbX g0 hv
      have cr0 : w1.cell? ⟨w.heap.size, 0, none⟩ = some (.int .i64 0) := (BR.out.cell 0).trans rfl
      have fr0 : w1.frozen? ⟨w.heap.size, 0, none⟩ = false := BR.out.frozen 0
      have cr1 : w1.cell? ⟨w.heap.size, 1, none⟩ = some (.int .i64 0) := (BR.out.cell 1).trans rfl
      have fr1 : w1.frozen? ⟨w.heap.size, 1, none⟩ = false := BR.out.frozen 1
      have cr2 : w1.cell? ⟨w.heap.size, 2, none⟩ = some (.int .i64 0) := (BR.out.cell 2).trans rfl
      have fr2 : w1.frozen? ⟨w.heap.size, 2, none⟩ = false := BR.out.frozen 2
      have cr3 : w1.cell? ⟨w.heap.size, 3, none⟩ = some (.int .i64 0) := (BR.out.cell 3).trans rfl
      have fr3 : w1.frozen? ⟨w.heap.size, 3, none⟩ = false := BR.out.frozen 3
      have cr4 : w1.cell? ⟨w.heap.size, 4, none⟩ = some (.string ⟨#[]⟩) := (BR.out.cell 4).trans rfl
      have fr4 : w1.frozen? ⟨w.heap.size, 4, none⟩ = false := BR.out.frozen 4
      have z0 : w.heap.size < w1.heap.size := BR.out.lt
      simp only [tokV]
      go_wp2_with fail
      refine rword_fin RS a w _ w.heap.size _ k b z n RS.e S rfl rfl rfl (Blk.as (c := ?cc4) ?hbb4 ?hee4) ?hll4
      case hbb4 => exact (((((BR.out.set _ _).set _ _).set _ _).set _ _).set _ _)
      case hee4 => rfl
      case hll4 => exact ⟨k, b, z, n, S, rfl, HV.out, (((((HB.out.setCell (Nat.le_refl _) _).setCell (Nat.le_refl _) _).setCell (Nat.le_refl _) _).setCell (Nat.le_refl _) _).setCell (Nat.le_refl _) _)⟩
  · have dn : decide ((a : Int) + 1 < (s.size : Int)) = false := decide_eq_false (by omega)
    have i2 : ¬ (a : Int) + 1 < (s.size : Int) := by omega
    have hd2 := drop_none s (a + 1) (by omega)
    have Hd2 := Lib.hid hd2
    clear hd2
    cases e40 : (s[a].toNat : Int) == 40
    case true =>
      have hx : RS = ⟨1, 0, [], 1, 0⟩ := by rw [← HRS.out, Hd.out, u8_is (n := 40) (by decide) e40]; exact scm_mark (k := 1) rfl rfl
      subst hx
      clear HRS HSTR HCH HRUN Hnd
      go_enter Try.func53, Try.ntmps53
      go_wp2_with fail
      refine bodyPost_ret (v := .tuple #[tokV 1 a ((a : Int) + 1) 0 [], .int .i64 0]) ?_ rfl ?_
      · simp [results, Try.results53, go_sem, tokV]
      · exact RefP.good (((Below.refl _ _).alloc (Nat.le_refl _) _).alloc (by simp) _) rfl rfl (by show ((a + 1 : Nat) : Int) = _; omega) rfl rfl
    cases e41 : (s[a].toNat : Int) == 41
    case true =>
      have hx : RS = ⟨2, 0, [], 1, 0⟩ := by rw [← HRS.out, Hd.out, u8_is (n := 41) (by decide) e41]; exact scm_mark (k := 2) rfl rfl
      subst hx
      clear HRS HSTR HCH HRUN Hnd
      go_enter Try.func53, Try.ntmps53
      go_wp2_with fail
      refine bodyPost_ret (v := .tuple #[tokV 2 a ((a : Int) + 1) 0 [], .int .i64 0]) ?_ rfl ?_
      · simp [results, Try.results53, go_sem, tokV]
      · exact RefP.good (((Below.refl _ _).alloc (Nat.le_refl _) _).alloc (by simp) _) rfl rfl (by show ((a + 1 : Nat) : Int) = _; omega) rfl rfl
    cases e39 : (s[a].toNat : Int) == 39
    case true =>
      have hx : RS = ⟨4, 0, [], 1, 0⟩ := by rw [← HRS.out, Hd.out, u8_is (n := 39) (by decide) e39]; exact scm_mark (k := 4) rfl rfl
      subst hx
      clear HRS HSTR HCH HRUN Hnd
      go_enter Try.func53, Try.ntmps53
      go_wp2_with fail
      refine bodyPost_ret (v := .tuple #[tokV 4 a ((a : Int) + 1) 0 [], .int .i64 0]) ?_ rfl ?_
      · simp [results, Try.results53, go_sem, tokV]
      · exact RefP.good (((Below.refl _ _).alloc (Nat.le_refl _) _).alloc (by simp) _) rfl rfl (by show ((a + 1 : Nat) : Int) = _; omega) rfl rfl
    cases e96 : (s[a].toNat : Int) == 96
    case true =>
      have hx : RS = ⟨5, 0, [], 1, 0⟩ := by rw [← HRS.out, Hd.out, u8_is (n := 96) (by decide) e96]; exact scm_mark (k := 5) rfl rfl
      subst hx
      clear HRS HSTR HCH HRUN Hnd
      go_enter Try.func53, Try.ntmps53
      go_wp2_with fail
      refine bodyPost_ret (v := .tuple #[tokV 5 a ((a : Int) + 1) 0 [], .int .i64 0]) ?_ rfl ?_
      · simp [results, Try.results53, go_sem, tokV]
      · exact RefP.good (((Below.refl _ _).alloc (Nat.le_refl _) _).alloc (by simp) _) rfl rfl (by show ((a + 1 : Nat) : Int) = _; omega) rfl rfl
    cases e44 : (s[a].toNat : Int) == 44
    case true =>
      have hx : RS = ⟨6, 0, [], 1, 0⟩ := by rw [← HRS.out, Hd.out, Hd2.out, u8_is (n := 44) (by decide) e44]; exact scm_mark (k := 6) rfl rfl
      subst hx
      clear HRS HSTR HCH HRUN Hnd
      go_enter Try.func53, Try.ntmps53
      go_wp2_with fail
      refine bodyPost_ret (v := .tuple #[tokV 6 a ((a : Int) + 1) 0 [], .int .i64 0]) ?_ rfl ?_
      · simp [results, Try.results53, go_sem, tokV]
      · exact RefP.good (((Below.refl _ _).alloc (Nat.le_refl _) _).alloc (by simp) _) rfl rfl (by show ((a + 1 : Nat) : Int) = _; omega) rfl rfl
    cases e35 : (s[a].toNat : Int) == 35
    case true =>
      have e34 : ((s[a].toNat : Int) == 34) = false := by rw [beq_iff_eq.1 e35]; rfl
      have hx : RS = runSc (s.data.toList.drop a) := by rw [← HRS.out, Hd.out, Hd2.out, u8_is (n := 35) (by decide) e35]; rfl
      have HC : Hid (∀ w, Calls Try.prog 95 #[.string s, .int .i64 (a : Int)] w (RefP RS a w)) := fun w => by have h := HRUN.out w (Hnd.out e40 e41 e34); rw [← hx] at h; exact h
      clear hx
      clear HRS HSTR HCH HRUN Hnd
      go_enter Try.func53, Try.ntmps53
      go_wp2_with fail
      obtain ⟨hbX, hsX, hkX⟩ := start_allocs [(#[.int .i64 0, .int .i64 0, .int .i64 0, .int .i64 0, .string ⟨#[]⟩], 50), (#[.int .i64 0, .int .i64 (a : Int), .int .i64 ((a : Int) + 1), .int .i64 0, .string ⟨#[]⟩], 50)] w
      have g0 := hkX 0 _ rfl
      simp only [allocs, List.foldl_cons, List.foldl_nil, Nat.add_zero] at hbX g0
      clear hkX hsX
      generalize (w.alloc (.cells #[.int .i64 0, .int .i64 0, .int .i64 0, .int .i64 0, .string ⟨#[]⟩] 50)).alloc (.cells #[.int .i64 0, .int .i64 (a : Int), .int .i64 ((a : Int) + 1), .int .i64 0, .string ⟨#[]⟩] 50) = X at *
      refine (HC.out _).mono ?_
      rintro e w1 ⟨k, b, z, n, S, rfl, hv, hb⟩
      have BR := Lib.hid (g0.bel hb)
      have HB := Lib.hid (bel_trans hbX hb)
      have HV := Lib.hid hv
      clear hb hbX g0 hv
      have cr0 : w1.cell? ⟨w.heap.size, 0, none⟩ = some (.int .i64 0) := (BR.out.cell 0).trans rfl
      have fr0 : w1.frozen? ⟨w.heap.size, 0, none⟩ = false := BR.out.frozen 0
      have cr1 : w1.cell? ⟨w.heap.size, 1, none⟩ = some (.int .i64 0) := (BR.out.cell 1).trans rfl
      have fr1 : w1.frozen? ⟨w.heap.size, 1, none⟩ = false := BR.out.frozen 1
      have cr2 : w1.cell? ⟨w.heap.size, 2, none⟩ = some (.int .i64 0) := (BR.out.cell 2).trans rfl
      have fr2 : w1.frozen? ⟨w.heap.size, 2, none⟩ = false := BR.out.frozen 2
      have cr3 : w1.cell? ⟨w.heap.size, 3, none⟩ = some (.int .i64 0) := (BR.out.cell 3).trans rfl
      have fr3 : w1.frozen? ⟨w.heap.size, 3, none⟩ = false := BR.out.frozen 3
      have cr4 : w1.cell? ⟨w.heap.size, 4, none⟩ = some (.string ⟨#[]⟩) := (BR.out.cell 4).trans rfl
      have fr4 : w1.frozen? ⟨w.heap.size, 4, none⟩ = false := BR.out.frozen 4
      have z0 : w.heap.size < w1.heap.size := BR.out.lt
      simp only [tokV]
      go_wp2_with fail
      refine rword_fin RS a w _ w.heap.size _ k b z n RS.e S rfl rfl rfl (Blk.as (c := ?cc5) ?hbb5 ?hee5) ?hll5
      case hbb5 => exact (((((BR.out.set _ _).set _ _).set _ _).set _ _).set _ _)
      case hee5 => rfl
      case hll5 => exact ⟨k, b, z, n, S, rfl, HV.out, (((((HB.out.setCell (Nat.le_refl _) _).setCell (Nat.le_refl _) _).setCell (Nat.le_refl _) _).setCell (Nat.le_refl _) _).setCell (Nat.le_refl _) _)⟩
    cases e34 : (s[a].toNat : Int) == 34
    · have hx : RS = runSc (s.data.toList.drop a) := by rw [← HRS.out, Hd.out]; exact scm_run (u8_ne (n := 40) (by decide) e40) (u8_ne (n := 41) (by decide) e41) (u8_ne (n := 39) (by decide) e39) (u8_ne (n := 96) (by decide) e96) (u8_ne (n := 44) (by decide) e44) (u8_ne (n := 35) (by decide) e35) (u8_ne (n := 34) (by decide) e34)
      have HC : Hid (∀ w, Calls Try.prog 95 #[.string s, .int .i64 (a : Int)] w (RefP RS a w)) := fun w => by have h := HRUN.out w (Hnd.out e40 e41 e34); rw [← hx] at h; exact h
      clear hx
      clear HRS HSTR HCH HRUN Hnd
      go_enter Try.func53, Try.ntmps53
      go_wp2_with fail
      obtain ⟨hbX, hsX, hkX⟩ := start_allocs [(#[.int .i64 0, .int .i64 0, .int .i64 0, .int .i64 0, .string ⟨#[]⟩], 50), (#[.int .i64 0, .int .i64 (a : Int), .int .i64 ((a : Int) + 1), .int .i64 0, .string ⟨#[]⟩], 50)] w
      have g0 := hkX 0 _ rfl
      simp only [allocs, List.foldl_cons, List.foldl_nil, Nat.add_zero] at hbX g0
      clear hkX hsX
      generalize (w.alloc (.cells #[.int .i64 0, .int .i64 0, .int .i64 0, .int .i64 0, .string ⟨#[]⟩] 50)).alloc (.cells #[.int .i64 0, .int .i64 (a : Int), .int .i64 ((a : Int) + 1), .int .i64 0, .string ⟨#[]⟩] 50) = X at *
      refine (HC.out _).mono ?_
      rintro e w1 ⟨k, b, z, n, S, rfl, hv, hb⟩
      have BR := Lib.hid (g0.bel hb)
      have HB := Lib.hid (bel_trans hbX hb)
      have HV := Lib.hid hv
      clear hb hbX g0 hv
      have cr0 : w1.cell? ⟨w.heap.size, 0, none⟩ = some (.int .i64 0) := (BR.out.cell 0).trans rfl
      have fr0 : w1.frozen? ⟨w.heap.size, 0, none⟩ = false := BR.out.frozen 0
      have cr1 : w1.cell? ⟨w.heap.size, 1, none⟩ = some (.int .i64 0) := (BR.out.cell 1).trans rfl
      have fr1 : w1.frozen? ⟨w.heap.size, 1, none⟩ = false := BR.out.frozen 1
      have cr2 : w1.cell? ⟨w.heap.size, 2, none⟩ = some (.int .i64 0) := (BR.out.cell 2).trans rfl
      have fr2 : w1.frozen? ⟨w.heap.size, 2, none⟩ = false := BR.out.frozen 2
      have cr3 : w1.cell? ⟨w.heap.size, 3, none⟩ = some (.int .i64 0) := (BR.out.cell 3).trans rfl
      have fr3 : w1.frozen? ⟨w.heap.size, 3, none⟩ = false := BR.out.frozen 3
      have cr4 : w1.cell? ⟨w.heap.size, 4, none⟩ = some (.string ⟨#[]⟩) := (BR.out.cell 4).trans rfl
      have fr4 : w1.frozen? ⟨w.heap.size, 4, none⟩ = false := BR.out.frozen 4
      have z0 : w.heap.size < w1.heap.size := BR.out.lt
      simp only [tokV]
      go_wp2_with fail
      refine rword_fin RS a w _ w.heap.size _ k b z n RS.e S rfl rfl rfl (Blk.as (c := ?cc6) ?hbb6 ?hee6) ?hll6
      case hbb6 => exact (((((BR.out.set _ _).set _ _).set _ _).set _ _).set _ _)
      case hee6 => rfl
      case hll6 => exact ⟨k, b, z, n, S, rfl, HV.out, (((((HB.out.setCell (Nat.le_refl _) _).setCell (Nat.le_refl _) _).setCell (Nat.le_refl _) _).setCell (Nat.le_refl _) _).setCell (Nat.le_refl _) _)⟩
    · have h34 := u8_is (n := 34) (by decide) e34
      have hx : RS = strSc (s.data.toList.drop a) := by rw [← HRS.out, Hd.out, h34]; exact scm_str _
      have HC : Hid (∀ w, Calls Try.prog 93 #[.string s, .int .i64 (a : Int)] w (RefP RS a w)) := fun w => by have h := HSTR.out w h34; rw [← hx] at h; exact h
      clear hx h34
      clear HRS HSTR HCH HRUN Hnd
      go_enter Try.func53, Try.ntmps53
      go_wp2_with fail
      obtain ⟨hbX, hsX, hkX⟩ := start_allocs [(#[.int .i64 0, .int .i64 0, .int .i64 0, .int .i64 0, .string ⟨#[]⟩], 50), (#[.int .i64 0, .int .i64 (a : Int), .int .i64 ((a : Int) + 1), .int .i64 0, .string ⟨#[]⟩], 50)] w
      have g0 := hkX 0 _ rfl
      simp only [allocs, List.foldl_cons, List.foldl_nil, Nat.add_zero] at hbX g0
      clear hkX hsX
      generalize (w.alloc (.cells #[.int .i64 0, .int .i64 0, .int .i64 0, .int .i64 0, .string ⟨#[]⟩] 50)).alloc (.cells #[.int .i64 0, .int .i64 (a : Int), .int .i64 ((a : Int) + 1), .int .i64 0, .string ⟨#[]⟩] 50) = X at *
      refine (HC.out _).mono ?_
      rintro e w1 ⟨k, b, z, n, S, rfl, hv, hb⟩
      have BR := Lib.hid (g0.bel hb)
      have HB := Lib.hid (bel_trans hbX hb)
      have HV := Lib.hid hv
      clear hb hbX g0 hv
      have cr0 : w1.cell? ⟨w.heap.size, 0, none⟩ = some (.int .i64 0) := (BR.out.cell 0).trans rfl
      have fr0 : w1.frozen? ⟨w.heap.size, 0, none⟩ = false := BR.out.frozen 0
      have cr1 : w1.cell? ⟨w.heap.size, 1, none⟩ = some (.int .i64 0) := (BR.out.cell 1).trans rfl
      have fr1 : w1.frozen? ⟨w.heap.size, 1, none⟩ = false := BR.out.frozen 1
      have cr2 : w1.cell? ⟨w.heap.size, 2, none⟩ = some (.int .i64 0) := (BR.out.cell 2).trans rfl
      have fr2 : w1.frozen? ⟨w.heap.size, 2, none⟩ = false := BR.out.frozen 2
      have cr3 : w1.cell? ⟨w.heap.size, 3, none⟩ = some (.int .i64 0) := (BR.out.cell 3).trans rfl
      have fr3 : w1.frozen? ⟨w.heap.size, 3, none⟩ = false := BR.out.frozen 3
      have cr4 : w1.cell? ⟨w.heap.size, 4, none⟩ = some (.string ⟨#[]⟩) := (BR.out.cell 4).trans rfl
      have fr4 : w1.frozen? ⟨w.heap.size, 4, none⟩ = false := BR.out.frozen 4
      have z0 : w.heap.size < w1.heap.size := BR.out.lt
      simp only [tokV]
      go_wp2_with fail
      refine rword_fin RS a w _ w.heap.size _ k b z n RS.e S rfl rfl rfl (Blk.as (c := ?cc7) ?hbb7 ?hee7) ?hll7
      case hbb7 => exact (((((BR.out.set _ _).set _ _).set _ _).set _ _).set _ _)
      case hee7 => rfl
      case hll7 => exact ⟨k, b, z, n, S, rfl, HV.out, (((((HB.out.setCell (Nat.le_refl _) _).setCell (Nat.le_refl _) _).setCell (Nat.le_refl _) _).setCell (Nat.le_refl _) _).setCell (Nat.le_refl _) _)⟩
end Go.Proofs.Yteddfdhbpgbloaa.Lx
