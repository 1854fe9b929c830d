/- The word with which a text begins (layer 3): the program's function. -/
import Derived.WalkSpells
import Derived.WalkMore
import Derived.ScopeJumps
import Derived.Test.YtpeleifkednmoaaMLexMean
import Derived.Test.YtpeleifkednmoaaMLexBlk
section
namespace Go.Proofs.Ytpeleifkednmoaa.Lx
open Go.ChangeShapes Go.WideShapes Go.ChangeAt Go.RowKit
set_option linter.unusedVariables false

theorem wp_scope_fwd {P : Program} {a : Act} {w : World} {Q : Exit → Act → World → Prop} {c rest : Code} (l : Nat) (hf : findLabel c l = some rest)
    (first : c.wp P (Exit.jump l (fun a w => rest.wp P (Exit.noGoto Q) a w) Q) a w) : (Code.scope c).wp P Q a w :=
  wp_scope_jumps l (fun a w => rest.wp P (Exit.noGoto Q) a w) (fun _ _ => 0) hf first (fun a w h => Code.wp_mono (fun e a w k => by
    cases e <;> first | exact k | exact False.elim k) h)
theorem markS_len (M : Int) : (markS M).length ≤ 2 := by
  unfold markS
  iterate 8 (split; · simp)
  simp
/-- The word with which a text begins: kind, number, text, how many bytes; or what is wrong. -/
structure Sc where
  (k n : Int) (S : Bs) (z : Nat) (e : Int)
def bad (e : Int) : Sc := ⟨0, 0, [], 0, e⟩
def isQuote : Bs → Bool | 34 :: _ => true | _ => false
def unqS : Option Bs → Bs | some l => l | none => []
def unqOk : Option Bs → Bool | some l => decide ((l.length : Int) ≤ 256) | none => false
def strU (q : Nat) (U : Option Bs) : Sc := if unqOk U = true then ⟨12, 0, unqS U, q, 0⟩ else bad 30
def strSc (l : Bs) : Sc := if quotedN l = 0 then bad 31 else strU (quotedN l) (unqL ((l.drop 1).take (quotedN l - 2)))
def charSc (l : Bs) : Sc := if charB ((l.drop 2).take (spelledN l - 2)) = true then ⟨11, charV ((l.drop 2).take (spelledN l - 2)), [], spelledN l, 0⟩ else bad 30
def runSc (l : Bs) : Sc := if (meanR (l.take (runN l))).e = 0 then ⟨(meanR (l.take (runN l))).k, (meanR (l.take (runN l))).n, (meanR (l.take (runN l))).S, runN l, 0⟩ else bad (meanR (l.take (runN l))).e
def scanR (l : Bs) : Sc :=
  if (markF kinds7 l != 0) = true then ⟨markF kinds7 l, 0, [], (markS (markF kinds7 l)).length, 0⟩
  else if isQuote l = true then strSc l
  else if (l == [35, 92]) = true then bad 31
  else if Lib.hasPrefix l [35, 92] = true then charSc l
  else runSc l
def scV (R : Sc) (a : Nat) : Value := if R.e = 0 then tokV R.k a ((a + R.z : Nat) : Int) R.n R.S else tokV 0 0 0 0 []
theorem Blk.as {w : World} {b : Nat} {t : TypeId} {c c' : Array Value} (h : Blk w b t c) (e : c = c') : Blk w b t c' := e ▸ h
theorem scan_fin (w WF : World) (N : Nat) (act : Act) (k a z n e : Int) (S : Bs) (h4 : act.tmps.getD 4 undef = .pointer (some ⟨N, 0, none⟩)) (h5 : act.tmps.getD 5 undef = .int .i64 e) (hd : act.defers = [])
    (hB : Blk WF N 26 #[.int .i64 k, .int .i64 a, .int .i64 z, .int .i64 n, .string ⟨S.toArray⟩]) (hbel : Below w.heap.size w WF) :
    bodyPost Try.prog Try.f29 (fun e' w' => e' = .returned (.tuple #[tokV k a z n S, .int .i64 e]) ∧ Below w.heap.size w w') Exit.ret act WF := by
  rw [Array.getD_eq_getD_getElem?] at h4 h5
  have c0 : WF.cell? ⟨N, 0, none⟩ = some (.int .i64 k) := (hB.cell 0).trans rfl
  have c1 : WF.cell? ⟨N, 1, none⟩ = some (.int .i64 a) := (hB.cell 1).trans rfl
  have c2 : WF.cell? ⟨N, 2, none⟩ = some (.int .i64 z) := (hB.cell 2).trans rfl
  have c3 : WF.cell? ⟨N, 3, none⟩ = some (.int .i64 n) := (hB.cell 3).trans rfl
  have c4 : WF.cell? ⟨N, 4, none⟩ = some (.string ⟨S.toArray⟩) := (hB.cell 4).trans rfl
  refine bodyPost_ret (v := .tuple #[tokV k a z n S, .int .i64 e]) ?_ hd ⟨rfl, hbel⟩
  simp [results, Try.results29, go_sem, tokV, h4, h5, c0, c1, c2, c3, c4]
set_option maxRecDepth 100000 in
set_option maxHeartbeats 4000000 in
theorem scan_mark (s : ByteArray) (a : Nat) (w : World) (hs : s.size ≤ 140737488351232) (ha : a < s.size) (M : Int) (hM : Hid (markF kinds7 (s.data.toList.drop a) = M)) (h0 : Hid (M ≠ 0)) :
    Calls Try.prog 29 #[.string s, .int .i64 (a : Int)] w fun e w' => e = .returned (.tuple #[tokV M a ((a + (markS M).length : Nat) : Int) 0 [], .int .i64 0]) ∧ Below w.heap.size w w' := by
  have Hs := Lib.hid hs
  have hr := run_from s a (by omega)
  have hz := ext_size s a (by omega)
  have hl : (s.extract a s.size).data.toList = s.data.toList.drop a := Lib.extract_to_end s a
  generalize s.extract a s.size = t at *
  have ht0 : 0 < t.size := by omega
  have hts : t.size ≤ s.size := by omega
  have Ht : Hid (t.size ≤ maxLen) := by show t.size ≤ maxLen; simp only [maxLen]; omega
  have Hz := Lib.hid hz
  clear hz hs
  rw [← hl] at hM
  have HM := hM
  have Hs2 := Hs.out
  clear hM hl
  have d0 : (M != 0) = true := by simpa using h0.out
  have hml := markS_len M
  obtain ⟨n, hn⟩ : ∃ n, (markS M).length = n := ⟨_, rfl⟩
  rw [hn] at hml ⊢
  have hsz : (⟨(markS M).toArray⟩ : ByteArray).size = n := hn
  go_enter Try.func29, Try.ntmps29
  go_wp2_with fail
  refine wp_scope_fwd 0 rfl ?_
  go_wp2_with fail
  obtain ⟨hbX, hsX, hkX⟩ := start_allocs [(#[.int .i64 0, .int .i64 0, .int .i64 0, .int .i64 0, .string ⟨#[]⟩], 26), (#[.int .i64 0, .int .i64 0, .int .i64 0, .int .i64 0, .string ⟨#[]⟩], 26)] w
  have g0 := hkX 0 _ rfl
  have g1 := hkX 1 _ rfl
  simp only [allocs, List.foldl_cons, List.foldl_nil, Nat.add_zero] at hbX g0 g1
  clear hkX hsX
  generalize (w.alloc (.cells #[.int .i64 0, .int .i64 0, .int .i64 0, .int .i64 0, .string ⟨#[]⟩] 26)).alloc (.cells #[.int .i64 0, .int .i64 0, .int .i64 0, .int .i64 0, .string ⟨#[]⟩] 26) = X at *
  refine (marked_any t _).mono ?_
  rintro e w1 ⟨rfl, hb⟩
  rw [HM.out]
  have BR := Lib.hid (g0.bel hb)
  have BT := Lib.hid (g1.bel hb)
  have HB := Lib.hid (bel_trans hbX hb)
  clear hb hbX g0 g1
  have cr0 : w1.cell? ⟨w.heap.size, 0, none⟩ = some (.int .i64 0) := (BR.out.cell 0).trans rfl
  have fr0 : w1.frozen? ⟨w.heap.size, 0, none⟩ = false := BR.out.frozen 0
  have cr1 : w1.cell? ⟨w.heap.size, 1, none⟩ = some (.int .i64 0) := (BR.out.cell 1).trans rfl
  have fr1 : w1.frozen? ⟨w.heap.size, 1, none⟩ = false := BR.out.frozen 1
  have cr2 : w1.cell? ⟨w.heap.size, 2, none⟩ = some (.int .i64 0) := (BR.out.cell 2).trans rfl
  have fr2 : w1.frozen? ⟨w.heap.size, 2, none⟩ = false := BR.out.frozen 2
  have cr3 : w1.cell? ⟨w.heap.size, 3, none⟩ = some (.int .i64 0) := (BR.out.cell 3).trans rfl
  have fr3 : w1.frozen? ⟨w.heap.size, 3, none⟩ = false := BR.out.frozen 3
  have cr4 : w1.cell? ⟨w.heap.size, 4, none⟩ = some (.string ⟨#[]⟩) := (BR.out.cell 4).trans rfl
  have fr4 : w1.frozen? ⟨w.heap.size, 4, none⟩ = false := BR.out.frozen 4
  have ct0 : w1.cell? ⟨w.heap.size + 1, 0, none⟩ = some (.int .i64 0) := (BT.out.cell 0).trans rfl
  have ft0 : w1.frozen? ⟨w.heap.size + 1, 0, none⟩ = false := BT.out.frozen 0
  have ct1 : w1.cell? ⟨w.heap.size + 1, 1, none⟩ = some (.int .i64 0) := (BT.out.cell 1).trans rfl
  have ft1 : w1.frozen? ⟨w.heap.size + 1, 1, none⟩ = false := BT.out.frozen 1
  have ct2 : w1.cell? ⟨w.heap.size + 1, 2, none⟩ = some (.int .i64 0) := (BT.out.cell 2).trans rfl
  have ft2 : w1.frozen? ⟨w.heap.size + 1, 2, none⟩ = false := BT.out.frozen 2
  have ct3 : w1.cell? ⟨w.heap.size + 1, 3, none⟩ = some (.int .i64 0) := (BT.out.cell 3).trans rfl
  have ft3 : w1.frozen? ⟨w.heap.size + 1, 3, none⟩ = false := BT.out.frozen 3
  have ct4 : w1.cell? ⟨w.heap.size + 1, 4, none⟩ = some (.string ⟨#[]⟩) := (BT.out.cell 4).trans rfl
  have ft4 : w1.frozen? ⟨w.heap.size + 1, 4, none⟩ = false := BT.out.frozen 4
  have z0 : w.heap.size < w1.heap.size := BR.out.lt
  have z1 : w.heap.size + 1 < w1.heap.size := BT.out.lt
  go_wp2_with fail
  refine (marked_any t _).mono ?_
  rintro e w2 ⟨rfl, hb⟩
  rw [HM.out]
  replace BR := Lib.hid (BR.out.bel hb)
  replace BT := Lib.hid (BT.out.bel hb)
  replace HB := Lib.hid (bel_trans HB.out hb)
  clear hb
  clear cr0 fr0 cr1 fr1 cr2 fr2 cr3 fr3 cr4 fr4 ct0 ft0 ct1 ft1 ct2 ft2 ct3 ft3 ct4 ft4 z0 z1
  have cr0 : w2.cell? ⟨w.heap.size, 0, none⟩ = some (.int .i64 0) := (BR.out.cell 0).trans rfl
  have fr0 : w2.frozen? ⟨w.heap.size, 0, none⟩ = false := BR.out.frozen 0
  have cr1 : w2.cell? ⟨w.heap.size, 1, none⟩ = some (.int .i64 0) := (BR.out.cell 1).trans rfl
  have fr1 : w2.frozen? ⟨w.heap.size, 1, none⟩ = false := BR.out.frozen 1
  have cr2 : w2.cell? ⟨w.heap.size, 2, none⟩ = some (.int .i64 0) := (BR.out.cell 2).trans rfl
  have fr2 : w2.frozen? ⟨w.heap.size, 2, none⟩ = false := BR.out.frozen 2
  have cr3 : w2.cell? ⟨w.heap.size, 3, none⟩ = some (.int .i64 0) := (BR.out.cell 3).trans rfl
  have fr3 : w2.frozen? ⟨w.heap.size, 3, none⟩ = false := BR.out.frozen 3
  have cr4 : w2.cell? ⟨w.heap.size, 4, none⟩ = some (.string ⟨#[]⟩) := (BR.out.cell 4).trans rfl
  have fr4 : w2.frozen? ⟨w.heap.size, 4, none⟩ = false := BR.out.frozen 4
  have ct0 : w2.cell? ⟨w.heap.size + 1, 0, none⟩ = some (.int .i64 0) := (BT.out.cell 0).trans rfl
  have ft0 : w2.frozen? ⟨w.heap.size + 1, 0, none⟩ = false := BT.out.frozen 0
  have ct1 : w2.cell? ⟨w.heap.size + 1, 1, none⟩ = some (.int .i64 0) := (BT.out.cell 1).trans rfl
  have ft1 : w2.frozen? ⟨w.heap.size + 1, 1, none⟩ = false := BT.out.frozen 1
  have ct2 : w2.cell? ⟨w.heap.size + 1, 2, none⟩ = some (.int .i64 0) := (BT.out.cell 2).trans rfl
  have ft2 : w2.frozen? ⟨w.heap.size + 1, 2, none⟩ = false := BT.out.frozen 2
  have ct3 : w2.cell? ⟨w.heap.size + 1, 3, none⟩ = some (.int .i64 0) := (BT.out.cell 3).trans rfl
  have ft3 : w2.frozen? ⟨w.heap.size + 1, 3, none⟩ = false := BT.out.frozen 3
  have ct4 : w2.cell? ⟨w.heap.size + 1, 4, none⟩ = some (.string ⟨#[]⟩) := (BT.out.cell 4).trans rfl
  have ft4 : w2.frozen? ⟨w.heap.size + 1, 4, none⟩ = false := BT.out.frozen 4
  have z0 : w.heap.size < w2.heap.size := BR.out.lt
  have z1 : w.heap.size + 1 < w2.heap.size := BT.out.lt
  go_wp2_with (go_at_call 14; refine (mark_any M _).mono ?_; rintro e w' ⟨rfl, rfl⟩)
  simp only [Exit.jump]
  refine scan_fin w _ _ _ _ _ _ _ _ _ rfl rfl rfl (Blk.as (c := ?cc1) ?hb1 ?he1) ?hl1
  case hb1 => exact ((((((((BR.out.other (Nat.succ_ne_self _) _ _).other (Nat.succ_ne_self _) _ _).other (Nat.succ_ne_self _) _ _).set _ _).set _ _).set _ _).set _ _).set _ _)
  case he1 => rfl
  case hl1 => exact ((((((((HB.out.setCell (Nat.le_succ _) _).setCell (Nat.le_succ _) _).setCell (Nat.le_succ _) _).setCell (Nat.le_refl _) _).setCell (Nat.le_refl _) _).setCell (Nat.le_refl _) _).setCell (Nat.le_refl _) _).setCell (Nat.le_refl _) _)
theorem qEnd_lt : ∀ (l : Bs) (n : Nat), qEnd l = some n → n < l.length
  | [], n, h => by cases h
  | c :: r, n, h => by
    by_cases h1 : c = 34
    · subst h1; rw [qEnd_quote] at h; injection h with h; subst h; simp
    · by_cases h2 : c = 92
      · subst h2
        cases r with
        | nil => cases h
        | cons d r =>
          rw [qEnd_esc] at h
          cases e : qEnd r with
          | none => rw [show (d :: r).drop 1 = r from rfl, e] at h; cases h
          | some m => have := qEnd_lt r m e; rw [show (d :: r).drop 1 = r from rfl, e] at h; simp at h ⊢; omega
      · rw [qEnd_one c r h1 h2] at h
        cases e : qEnd r with
        | none => rw [e] at h; cases h
        | some m => have := qEnd_lt r m e; rw [e] at h; simp at h ⊢; omega
theorem quotedN_le {l : Bs} (h : quotedN l ≠ 0) : 2 ≤ quotedN l ∧ quotedN l ≤ l.length := by
  unfold quotedN at *
  cases e : qEnd (l.drop 1) with
  | none => rw [e] at h; exact absurd rfl h
  | some n => have := qEnd_lt _ _ e; rw [List.length_drop] at this; simp only; omega
theorem isQuote_at {t : ByteArray} (h : 0 < t.size) : isQuote t.data.toList = ((t[0].toNat : Int) == 34) := by
  have hd := drop_at t 0 h
  rw [List.drop_zero] at hd
  rw [hd, show ((t[0].toNat : Int) == 34) = (t[0] == 34) from u8_toNat _ 34 (by decide)]
  unfold isQuote
  split
  · next h => injection h with a b; rw [a]; rfl
  · next h => symm; rw [beq_eq_false_iff_ne]; intro e; exact h (t.data.toList.drop 1) (by rw [e])
set_option maxRecDepth 100000 in
set_option maxHeartbeats 4000000 in
theorem scan_str (s : ByteArray) (a : Nat) (w : World) (hs : s.size ≤ 140737488351232) (ha : a < s.size) (hM : Hid (markF kinds7 (s.data.toList.drop a) = 0)) (hq : Hid (isQuote (s.data.toList.drop a) = true)) :
    Calls Try.prog 29 #[.string s, .int .i64 (a : Int)] w fun e w' => e = .returned (.tuple #[scV (strSc (s.data.toList.drop a)) a, .int .i64 (strSc (s.data.toList.drop a)).e]) ∧ Below w.heap.size w w' := by
  have Hs := Lib.hid hs
  have hr := run_from s a (by omega)
  have hz := ext_size s a (by omega)
  have hl : (s.extract a s.size).data.toList = s.data.toList.drop a := Lib.extract_to_end s a
  generalize s.extract a s.size = t at *
  have ht0 : 0 < t.size := by omega
  have hts : t.size ≤ s.size := by omega
  have Ht : Hid (t.size ≤ maxLen) := by show t.size ≤ maxLen; simp only [maxLen]; omega
  have Hz := Lib.hid hz
  clear hz hs
  rw [← hl] at hM hq ⊢
  have HM := hM
  have Hs2 := Hs.out
  have hst : t.size ≤ s.size - a := by rw [Hz.out]; exact Nat.le_refl _
  have e34 : ((t[0].toNat : Int) == 34) = true := by rw [← isQuote_at ht0]; exact hq.out
  clear hM hl hq
  have hqn := Lib.hid (quoted_any t · (show t.size < maxLen by simp only [maxLen]; omega))
  obtain ⟨q, hqq⟩ : ∃ q, quotedN t.data.toList = q := ⟨_, rfl⟩
  have hql := quotedN_le (l := t.data.toList)
  rw [hqq, len_of] at hql
  rw [hqq] at hqn
  have HQ := Lib.hid hqq
  clear hqq
  by_cases h0 : q = 0
  · subst h0
    have hR : strSc t.data.toList = bad 31 := by unfold strSc; rw [HQ.out, if_pos rfl]
    rw [hR]
    show Calls _ _ _ _ fun e w' => e = .returned (.tuple #[tokV 0 0 0 0 [], .int .i64 31]) ∧ _
    clear hR hql
    have d0 : ((0 : Int) == 0) = true := rfl
    go_enter Try.func29, Try.ntmps29
    go_wp2_with fail
    refine wp_scope_fwd 0 rfl ?_
    go_wp2_with fail
    obtain ⟨hbX, hsX, hkX⟩ := start_allocs [(#[.int .i64 0, .int .i64 0, .int .i64 0, .int .i64 0, .string ⟨#[]⟩], 26), (#[.int .i64 0, .int .i64 0, .int .i64 0, .int .i64 0, .string ⟨#[]⟩], 26)] w
    have g0 := hkX 0 _ rfl
    have g1 := hkX 1 _ rfl
    simp only [allocs, List.foldl_cons, List.foldl_nil, Nat.add_zero] at hbX g0 g1
    clear hkX hsX
    generalize (w.alloc (.cells #[.int .i64 0, .int .i64 0, .int .i64 0, .int .i64 0, .string ⟨#[]⟩] 26)).alloc (.cells #[.int .i64 0, .int .i64 0, .int .i64 0, .int .i64 0, .string ⟨#[]⟩] 26) = X at *
    refine (marked_any t _).mono ?_
    rintro e w1 ⟨rfl, hb⟩
    rw [HM.out]
    have BR := Lib.hid (g0.bel hb)
    have BT := Lib.hid (g1.bel hb)
    have HB := Lib.hid (bel_trans hbX hb)
    clear hb hbX g0 g1
    have cr0 : w1.cell? ⟨w.heap.size, 0, none⟩ = some (.int .i64 0) := (BR.out.cell 0).trans rfl
    have fr0 : w1.frozen? ⟨w.heap.size, 0, none⟩ = false := BR.out.frozen 0
    have cr1 : w1.cell? ⟨w.heap.size, 1, none⟩ = some (.int .i64 0) := (BR.out.cell 1).trans rfl
    have fr1 : w1.frozen? ⟨w.heap.size, 1, none⟩ = false := BR.out.frozen 1
    have cr2 : w1.cell? ⟨w.heap.size, 2, none⟩ = some (.int .i64 0) := (BR.out.cell 2).trans rfl
    have fr2 : w1.frozen? ⟨w.heap.size, 2, none⟩ = false := BR.out.frozen 2
    have cr3 : w1.cell? ⟨w.heap.size, 3, none⟩ = some (.int .i64 0) := (BR.out.cell 3).trans rfl
    have fr3 : w1.frozen? ⟨w.heap.size, 3, none⟩ = false := BR.out.frozen 3
    have cr4 : w1.cell? ⟨w.heap.size, 4, none⟩ = some (.string ⟨#[]⟩) := (BR.out.cell 4).trans rfl
    have fr4 : w1.frozen? ⟨w.heap.size, 4, none⟩ = false := BR.out.frozen 4
    have ct0 : w1.cell? ⟨w.heap.size + 1, 0, none⟩ = some (.int .i64 0) := (BT.out.cell 0).trans rfl
    have ft0 : w1.frozen? ⟨w.heap.size + 1, 0, none⟩ = false := BT.out.frozen 0
    have ct1 : w1.cell? ⟨w.heap.size + 1, 1, none⟩ = some (.int .i64 0) := (BT.out.cell 1).trans rfl
    have ft1 : w1.frozen? ⟨w.heap.size + 1, 1, none⟩ = false := BT.out.frozen 1
    have ct2 : w1.cell? ⟨w.heap.size + 1, 2, none⟩ = some (.int .i64 0) := (BT.out.cell 2).trans rfl
    have ft2 : w1.frozen? ⟨w.heap.size + 1, 2, none⟩ = false := BT.out.frozen 2
    have ct3 : w1.cell? ⟨w.heap.size + 1, 3, none⟩ = some (.int .i64 0) := (BT.out.cell 3).trans rfl
    have ft3 : w1.frozen? ⟨w.heap.size + 1, 3, none⟩ = false := BT.out.frozen 3
    have ct4 : w1.cell? ⟨w.heap.size + 1, 4, none⟩ = some (.string ⟨#[]⟩) := (BT.out.cell 4).trans rfl
    have ft4 : w1.frozen? ⟨w.heap.size + 1, 4, none⟩ = false := BT.out.frozen 4
    have z0 : w.heap.size < w1.heap.size := BR.out.lt
    have z1 : w.heap.size + 1 < w1.heap.size := BT.out.lt
    go_wp2_with (go_at_call 50; refine (hqn.out _).mono ?_; rintro e w' ⟨rfl, rfl⟩)
    go_step3
    refine ⟨rfl, ?_⟩
    go_wp2_with fail
    rw [Exit.noGoto_ret]
    refine scan_fin w _ _ _ _ _ _ _ _ _ rfl rfl rfl (Blk.as (c := ?cc2) ?hb2 ?he2) ?hl2
    case hb2 => exact (((((BR.out.set _ _).set _ _).set _ _).set _ _).set _ _)
    case he2 => rfl
    case hl2 => exact (((((HB.out.setCell (Nat.le_refl _) _).setCell (Nat.le_refl _) _).setCell (Nat.le_refl _) _).setCell (Nat.le_refl _) _).setCell (Nat.le_refl _) _)
  · obtain ⟨q2, qle⟩ := hql h0
    clear hql
    have d0 : ((q : Int) == 0) = false := by simp; omega
    have hr2 := run_sub t 1 ((q : Int) - 1) (by omega) (by omega) (by omega)
    rw [show ((q : Int) - 1).toNat = q - 1 by omega] at hr2
    simp only [Int.reduceToNat] at hr2
    have hin : (t.extract 1 (q - 1)).data.toList = (t.data.toList.drop 1).take (q - 2) := by rw [Lib.extract_data]; congr 1
    have hisz := ext_le t 1 (q - 1)
    have hR : strSc t.data.toList = strU q (unqL (t.extract 1 (q - 1)).data.toList) := by
      unfold strSc; rw [HQ.out, if_neg h0, hin]
    rw [hR]
    clear hR hin HQ
    generalize t.extract 1 (q - 1) = u at *
    have hu : Hid (u.size ≤ 140737488351232) := by show u.size ≤ _; omega
    clear hisz
    obtain ⟨U, hU⟩ : ∃ U, unqL u.data.toList = U := ⟨_, rfl⟩
    rw [hU]
    have HU := Lib.hid hU
    clear hU
    obtain ⟨b, hb⟩ : ∃ b, unqOk U = b := ⟨_, rfl⟩
    obtain ⟨S, hS⟩ : ∃ S, unqS U = S := ⟨_, rfl⟩
    have hRR : strU q U = if b = true then ⟨12, 0, S, q, 0⟩ else bad 30 := by unfold strU; rw [hb, hS]
    rw [hRR]
    have HS : Hid (S = match unqL u.data.toList with | some l => l | none => []) := by show S = _; rw [← hS, ← HU.out]; rfl
    have Hbb : Hid (b = match unqL u.data.toList with | some l => decide ((l.length : Int) ≤ 256) | none => false) := by show b = _; rw [← hb, ← HU.out]; rfl
    clear hS hb hRR HU
    cases b
    · rw [if_neg (by decide)]
      show Calls _ _ _ _ fun e w' => e = .returned (.tuple #[tokV 0 0 0 0 [], .int .i64 30]) ∧ _
      go_enter Try.func29, Try.ntmps29
      go_wp2_with fail
      refine wp_scope_fwd 0 rfl ?_
      go_wp2_with fail
      obtain ⟨hbX, hsX, hkX⟩ := start_allocs [(#[.int .i64 0, .int .i64 0, .int .i64 0, .int .i64 0, .string ⟨#[]⟩], 26), (#[.int .i64 0, .int .i64 0, .int .i64 0, .int .i64 0, .string ⟨#[]⟩], 26)] w
      have g0 := hkX 0 _ rfl
      have g1 := hkX 1 _ rfl
      simp only [allocs, List.foldl_cons, List.foldl_nil, Nat.add_zero] at hbX g0 g1
      clear hkX hsX
      generalize (w.alloc (.cells #[.int .i64 0, .int .i64 0, .int .i64 0, .int .i64 0, .string ⟨#[]⟩] 26)).alloc (.cells #[.int .i64 0, .int .i64 0, .int .i64 0, .int .i64 0, .string ⟨#[]⟩] 26) = X at *
      refine (marked_any t _).mono ?_
      rintro e w1 ⟨rfl, hb⟩
      rw [HM.out]
      have BR := Lib.hid (g0.bel hb)
      have BT := Lib.hid (g1.bel hb)
      have HB := Lib.hid (bel_trans hbX hb)
      clear hb hbX g0 g1
      have cr0 : w1.cell? ⟨w.heap.size, 0, none⟩ = some (.int .i64 0) := (BR.out.cell 0).trans rfl
      have fr0 : w1.frozen? ⟨w.heap.size, 0, none⟩ = false := BR.out.frozen 0
      have cr1 : w1.cell? ⟨w.heap.size, 1, none⟩ = some (.int .i64 0) := (BR.out.cell 1).trans rfl
      have fr1 : w1.frozen? ⟨w.heap.size, 1, none⟩ = false := BR.out.frozen 1
      have cr2 : w1.cell? ⟨w.heap.size, 2, none⟩ = some (.int .i64 0) := (BR.out.cell 2).trans rfl
      have fr2 : w1.frozen? ⟨w.heap.size, 2, none⟩ = false := BR.out.frozen 2
      have cr3 : w1.cell? ⟨w.heap.size, 3, none⟩ = some (.int .i64 0) := (BR.out.cell 3).trans rfl
      have fr3 : w1.frozen? ⟨w.heap.size, 3, none⟩ = false := BR.out.frozen 3
      have cr4 : w1.cell? ⟨w.heap.size, 4, none⟩ = some (.string ⟨#[]⟩) := (BR.out.cell 4).trans rfl
      have fr4 : w1.frozen? ⟨w.heap.size, 4, none⟩ = false := BR.out.frozen 4
      have ct0 : w1.cell? ⟨w.heap.size + 1, 0, none⟩ = some (.int .i64 0) := (BT.out.cell 0).trans rfl
      have ft0 : w1.frozen? ⟨w.heap.size + 1, 0, none⟩ = false := BT.out.frozen 0
      have ct1 : w1.cell? ⟨w.heap.size + 1, 1, none⟩ = some (.int .i64 0) := (BT.out.cell 1).trans rfl
      have ft1 : w1.frozen? ⟨w.heap.size + 1, 1, none⟩ = false := BT.out.frozen 1
      have ct2 : w1.cell? ⟨w.heap.size + 1, 2, none⟩ = some (.int .i64 0) := (BT.out.cell 2).trans rfl
      have ft2 : w1.frozen? ⟨w.heap.size + 1, 2, none⟩ = false := BT.out.frozen 2
      have ct3 : w1.cell? ⟨w.heap.size + 1, 3, none⟩ = some (.int .i64 0) := (BT.out.cell 3).trans rfl
      have ft3 : w1.frozen? ⟨w.heap.size + 1, 3, none⟩ = false := BT.out.frozen 3
      have ct4 : w1.cell? ⟨w.heap.size + 1, 4, none⟩ = some (.string ⟨#[]⟩) := (BT.out.cell 4).trans rfl
      have ft4 : w1.frozen? ⟨w.heap.size + 1, 4, none⟩ = false := BT.out.frozen 4
      have z0 : w.heap.size < w1.heap.size := BR.out.lt
      have z1 : w.heap.size + 1 < w1.heap.size := BT.out.lt
      go_wp2_with (go_at_call 50; refine (hqn.out _).mono ?_; rintro e w' ⟨rfl, rfl⟩)
      refine (unquote_any u _ hu.out S false HS Hbb).mono ?_
      rintro e w2 ⟨rfl, hb⟩
      have BR2 := (BR.out.other (Nat.succ_ne_self _) 0 (.int .i64 12)).bel hb
      have BT2 := (BT.out.set 0 (.int .i64 12)).bel hb
      replace BR := Lib.hid BR2
      replace BT : Hid (Blk w2 (w.heap.size + 1) 26 #[.int .i64 12, .int .i64 0, .int .i64 0, .int .i64 0, .string ⟨#[]⟩]) := BT2.as rfl
      replace HB := Lib.hid (bel_trans (HB.out.setCell (Nat.le_succ _) _) hb)
      clear hb BR2 BT2
      clear cr0 fr0 cr1 fr1 cr2 fr2 cr3 fr3 cr4 fr4 ct0 ft0 ct1 ft1 ct2 ft2 ct3 ft3 ct4 ft4 z0 z1
      have cr0 : w2.cell? ⟨w.heap.size, 0, none⟩ = some (.int .i64 0) := (BR.out.cell 0).trans rfl
      have fr0 : w2.frozen? ⟨w.heap.size, 0, none⟩ = false := BR.out.frozen 0
      have cr1 : w2.cell? ⟨w.heap.size, 1, none⟩ = some (.int .i64 0) := (BR.out.cell 1).trans rfl
      have fr1 : w2.frozen? ⟨w.heap.size, 1, none⟩ = false := BR.out.frozen 1
      have cr2 : w2.cell? ⟨w.heap.size, 2, none⟩ = some (.int .i64 0) := (BR.out.cell 2).trans rfl
      have fr2 : w2.frozen? ⟨w.heap.size, 2, none⟩ = false := BR.out.frozen 2
      have cr3 : w2.cell? ⟨w.heap.size, 3, none⟩ = some (.int .i64 0) := (BR.out.cell 3).trans rfl
      have fr3 : w2.frozen? ⟨w.heap.size, 3, none⟩ = false := BR.out.frozen 3
      have cr4 : w2.cell? ⟨w.heap.size, 4, none⟩ = some (.string ⟨#[]⟩) := (BR.out.cell 4).trans rfl
      have fr4 : w2.frozen? ⟨w.heap.size, 4, none⟩ = false := BR.out.frozen 4
      have ct0 : w2.cell? ⟨w.heap.size + 1, 0, none⟩ = some (.int .i64 12) := (BT.out.cell 0).trans rfl
      have ft0 : w2.frozen? ⟨w.heap.size + 1, 0, none⟩ = false := BT.out.frozen 0
      have ct1 : w2.cell? ⟨w.heap.size + 1, 1, none⟩ = some (.int .i64 0) := (BT.out.cell 1).trans rfl
      have ft1 : w2.frozen? ⟨w.heap.size + 1, 1, none⟩ = false := BT.out.frozen 1
      have ct2 : w2.cell? ⟨w.heap.size + 1, 2, none⟩ = some (.int .i64 0) := (BT.out.cell 2).trans rfl
      have ft2 : w2.frozen? ⟨w.heap.size + 1, 2, none⟩ = false := BT.out.frozen 2
      have ct3 : w2.cell? ⟨w.heap.size + 1, 3, none⟩ = some (.int .i64 0) := (BT.out.cell 3).trans rfl
      have ft3 : w2.frozen? ⟨w.heap.size + 1, 3, none⟩ = false := BT.out.frozen 3
      have ct4 : w2.cell? ⟨w.heap.size + 1, 4, none⟩ = some (.string ⟨#[]⟩) := (BT.out.cell 4).trans rfl
      have ft4 : w2.frozen? ⟨w.heap.size + 1, 4, none⟩ = false := BT.out.frozen 4
      have z0 : w.heap.size < w2.heap.size := BR.out.lt
      have z1 : w.heap.size + 1 < w2.heap.size := BT.out.lt
      go_wp2_with fail
      go_step3
      refine ⟨rfl, ?_⟩
      go_wp2_with fail
      rw [Exit.noGoto_ret]
      refine scan_fin w _ _ _ _ _ _ _ _ _ rfl rfl rfl (Blk.as (c := ?cc3) ?hb3 ?he3) ?hl3
      case hb3 => exact ((((((BR.out.other (Nat.succ_ne_self _) _ _).set _ _).set _ _).set _ _).set _ _).set _ _)
      case he3 => rfl
      case hl3 => exact ((((((HB.out.setCell (Nat.le_succ _) _).setCell (Nat.le_refl _) _).setCell (Nat.le_refl _) _).setCell (Nat.le_refl _) _).setCell (Nat.le_refl _) _).setCell (Nat.le_refl _) _)
    · rw [if_pos rfl]
      show Calls _ _ _ _ fun e w' => e = .returned (.tuple #[tokV 12 a ((a + q : Nat) : Int) 0 S, .int .i64 0]) ∧ _
      go_enter Try.func29, Try.ntmps29
      go_wp2_with fail
      refine wp_scope_fwd 0 rfl ?_
      go_wp2_with fail
      obtain ⟨hbX, hsX, hkX⟩ := start_allocs [(#[.int .i64 0, .int .i64 0, .int .i64 0, .int .i64 0, .string ⟨#[]⟩], 26), (#[.int .i64 0, .int .i64 0, .int .i64 0, .int .i64 0, .string ⟨#[]⟩], 26)] w
      have g0 := hkX 0 _ rfl
      have g1 := hkX 1 _ rfl
      simp only [allocs, List.foldl_cons, List.foldl_nil, Nat.add_zero] at hbX g0 g1
      clear hkX hsX
      generalize (w.alloc (.cells #[.int .i64 0, .int .i64 0, .int .i64 0, .int .i64 0, .string ⟨#[]⟩] 26)).alloc (.cells #[.int .i64 0, .int .i64 0, .int .i64 0, .int .i64 0, .string ⟨#[]⟩] 26) = X at *
      refine (marked_any t _).mono ?_
      rintro e w1 ⟨rfl, hb⟩
      rw [HM.out]
      have BR := Lib.hid (g0.bel hb)
      have BT := Lib.hid (g1.bel hb)
      have HB := Lib.hid (bel_trans hbX hb)
      clear hb hbX g0 g1
      have cr0 : w1.cell? ⟨w.heap.size, 0, none⟩ = some (.int .i64 0) := (BR.out.cell 0).trans rfl
      have fr0 : w1.frozen? ⟨w.heap.size, 0, none⟩ = false := BR.out.frozen 0
      have cr1 : w1.cell? ⟨w.heap.size, 1, none⟩ = some (.int .i64 0) := (BR.out.cell 1).trans rfl
      have fr1 : w1.frozen? ⟨w.heap.size, 1, none⟩ = false := BR.out.frozen 1
      have cr2 : w1.cell? ⟨w.heap.size, 2, none⟩ = some (.int .i64 0) := (BR.out.cell 2).trans rfl
      have fr2 : w1.frozen? ⟨w.heap.size, 2, none⟩ = false := BR.out.frozen 2
      have cr3 : w1.cell? ⟨w.heap.size, 3, none⟩ = some (.int .i64 0) := (BR.out.cell 3).trans rfl
      have fr3 : w1.frozen? ⟨w.heap.size, 3, none⟩ = false := BR.out.frozen 3
      have cr4 : w1.cell? ⟨w.heap.size, 4, none⟩ = some (.string ⟨#[]⟩) := (BR.out.cell 4).trans rfl
      have fr4 : w1.frozen? ⟨w.heap.size, 4, none⟩ = false := BR.out.frozen 4
      have ct0 : w1.cell? ⟨w.heap.size + 1, 0, none⟩ = some (.int .i64 0) := (BT.out.cell 0).trans rfl
      have ft0 : w1.frozen? ⟨w.heap.size + 1, 0, none⟩ = false := BT.out.frozen 0
      have ct1 : w1.cell? ⟨w.heap.size + 1, 1, none⟩ = some (.int .i64 0) := (BT.out.cell 1).trans rfl
      have ft1 : w1.frozen? ⟨w.heap.size + 1, 1, none⟩ = false := BT.out.frozen 1
      have ct2 : w1.cell? ⟨w.heap.size + 1, 2, none⟩ = some (.int .i64 0) := (BT.out.cell 2).trans rfl
      have ft2 : w1.frozen? ⟨w.heap.size + 1, 2, none⟩ = false := BT.out.frozen 2
      have ct3 : w1.cell? ⟨w.heap.size + 1, 3, none⟩ = some (.int .i64 0) := (BT.out.cell 3).trans rfl
      have ft3 : w1.frozen? ⟨w.heap.size + 1, 3, none⟩ = false := BT.out.frozen 3
      have ct4 : w1.cell? ⟨w.heap.size + 1, 4, none⟩ = some (.string ⟨#[]⟩) := (BT.out.cell 4).trans rfl
      have ft4 : w1.frozen? ⟨w.heap.size + 1, 4, none⟩ = false := BT.out.frozen 4
      have z0 : w.heap.size < w1.heap.size := BR.out.lt
      have z1 : w.heap.size + 1 < w1.heap.size := BT.out.lt
      go_wp2_with (go_at_call 50; refine (hqn.out _).mono ?_; rintro e w' ⟨rfl, rfl⟩)
      refine (unquote_any u _ hu.out S true HS Hbb).mono ?_
      rintro e w2 ⟨rfl, hb⟩
      have BR2 := (BR.out.other (Nat.succ_ne_self _) 0 (.int .i64 12)).bel hb
      have BT2 := (BT.out.set 0 (.int .i64 12)).bel hb
      replace BR := Lib.hid BR2
      replace BT : Hid (Blk w2 (w.heap.size + 1) 26 #[.int .i64 12, .int .i64 0, .int .i64 0, .int .i64 0, .string ⟨#[]⟩]) := BT2.as rfl
      replace HB := Lib.hid (bel_trans (HB.out.setCell (Nat.le_succ _) _) hb)
      clear hb BR2 BT2
      clear cr0 fr0 cr1 fr1 cr2 fr2 cr3 fr3 cr4 fr4 ct0 ft0 ct1 ft1 ct2 ft2 ct3 ft3 ct4 ft4 z0 z1
      have cr0 : w2.cell? ⟨w.heap.size, 0, none⟩ = some (.int .i64 0) := (BR.out.cell 0).trans rfl
      have fr0 : w2.frozen? ⟨w.heap.size, 0, none⟩ = false := BR.out.frozen 0
      have cr1 : w2.cell? ⟨w.heap.size, 1, none⟩ = some (.int .i64 0) := (BR.out.cell 1).trans rfl
      have fr1 : w2.frozen? ⟨w.heap.size, 1, none⟩ = false := BR.out.frozen 1
      have cr2 : w2.cell? ⟨w.heap.size, 2, none⟩ = some (.int .i64 0) := (BR.out.cell 2).trans rfl
      have fr2 : w2.frozen? ⟨w.heap.size, 2, none⟩ = false := BR.out.frozen 2
      have cr3 : w2.cell? ⟨w.heap.size, 3, none⟩ = some (.int .i64 0) := (BR.out.cell 3).trans rfl
      have fr3 : w2.frozen? ⟨w.heap.size, 3, none⟩ = false := BR.out.frozen 3
      have cr4 : w2.cell? ⟨w.heap.size, 4, none⟩ = some (.string ⟨#[]⟩) := (BR.out.cell 4).trans rfl
      have fr4 : w2.frozen? ⟨w.heap.size, 4, none⟩ = false := BR.out.frozen 4
      have ct0 : w2.cell? ⟨w.heap.size + 1, 0, none⟩ = some (.int .i64 12) := (BT.out.cell 0).trans rfl
      have ft0 : w2.frozen? ⟨w.heap.size + 1, 0, none⟩ = false := BT.out.frozen 0
      have ct1 : w2.cell? ⟨w.heap.size + 1, 1, none⟩ = some (.int .i64 0) := (BT.out.cell 1).trans rfl
      have ft1 : w2.frozen? ⟨w.heap.size + 1, 1, none⟩ = false := BT.out.frozen 1
      have ct2 : w2.cell? ⟨w.heap.size + 1, 2, none⟩ = some (.int .i64 0) := (BT.out.cell 2).trans rfl
      have ft2 : w2.frozen? ⟨w.heap.size + 1, 2, none⟩ = false := BT.out.frozen 2
      have ct3 : w2.cell? ⟨w.heap.size + 1, 3, none⟩ = some (.int .i64 0) := (BT.out.cell 3).trans rfl
      have ft3 : w2.frozen? ⟨w.heap.size + 1, 3, none⟩ = false := BT.out.frozen 3
      have ct4 : w2.cell? ⟨w.heap.size + 1, 4, none⟩ = some (.string ⟨#[]⟩) := (BT.out.cell 4).trans rfl
      have ft4 : w2.frozen? ⟨w.heap.size + 1, 4, none⟩ = false := BT.out.frozen 4
      have z0 : w.heap.size < w2.heap.size := BR.out.lt
      have z1 : w.heap.size + 1 < w2.heap.size := BT.out.lt
      go_wp2_with fail
      simp only [Exit.jump]
      refine scan_fin w _ _ _ _ _ _ _ _ _ rfl rfl rfl (Blk.as (c := ?cc4) ?hb4 ?he4) ?hl4
      case hb4 => exact ((((((((BR.out.other (Nat.succ_ne_self _) _ _).other (Nat.succ_ne_self _) _ _).other (Nat.succ_ne_self _) _ _).set _ _).set _ _).set _ _).set _ _).set _ _)
      case he4 => rfl
      case hl4 => exact ((((((((HB.out.setCell (Nat.le_succ _) _).setCell (Nat.le_succ _) _).setCell (Nat.le_succ _) _).setCell (Nat.le_refl _) _).setCell (Nat.le_refl _) _).setCell (Nat.le_refl _) _).setCell (Nat.le_refl _) _).setCell (Nat.le_refl _) _)
end Go.Proofs.Ytpeleifkednmoaa.Lx
end
