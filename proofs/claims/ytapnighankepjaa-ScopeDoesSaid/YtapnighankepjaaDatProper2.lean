/- Whether a datum may be by itself: what the program's function returns. -/
import Derived.Test.YtapnighankepjaaDatProper
import Derived.Test.YtapnighankepjaaDatRead
namespace Go.Proofs.Ytapnighankepjaa.Da
open Go.ChangeShapes Go.WideShapes Go.ChangeAt Go.RowKit

def headK : List Dt → Int | [] => 0 | d :: _ => d.K
def tailB (t : List Dt) : Bool := ((t.length : Int) == 1) && (headK t != 6) && (headK t != 7)
theorem headK_at {w : World} {B : Nat} {a : Option Addr} {t : List Dt} (h : IsDts w (Lo B) a 0 t) (hl : t.length = 1) : ∃ b off, a = some ⟨b, off, none⟩ ∧ b < B ∧ w.cell? ⟨b, off, none⟩ = some (.int .i64 (headK t)) := by
  match t, hl with
  | [d], _ =>
    obtain ⟨b, off, x0, x1, x2, x3, x4, x5, ha, hb, hx, hd⟩ := h.at_ 0 d rfl
    obtain ⟨am, cm, al, cl, at_, ct, hv, _⟩ := hd.open_
    injection hv with hv
    simp only [Array.mk.injEq, List.cons.injEq] at hv
    obtain ⟨rfl, _⟩ := hv
    exact ⟨b, off, ha, hb, by simpa [headK] using hx.1⟩
set_option maxHeartbeats 400000 in
theorem tail_any (a : Option Addr) (cap : Nat) (t : List Dt) (B : Nat) (w : World) (h1 : IsSl a t.length cap) (h : IsDts w (Lo B) a 0 t) :
    Calls Try.prog 63 #[.slice a t.length cap] w fun e w' => e = .returned (.bool (tailB t)) ∧ w = w' := by
  obtain ⟨h2, h3, h4, _⟩ := h1
  unfold maxLen at h3
  unfold tailB
  by_cases hl : t.length = 1
  · obtain ⟨b, off, rfl, hb, hc⟩ := headK_at h hl
    obtain ⟨x, hx⟩ : ∃ x, headK t = x := ⟨_, rfl⟩
    rw [hx] at hc
    rw [hx, hl]
    clear hx h hl h2
    cases d1 : (x != 6) <;> cases d2 : (x != 7)
    all_goals
      go_enter Try.func63, Try.ntmps63
      go_wp2
      go_ret
      exact ⟨rfl, rfl⟩
  · have d1 : ((t.length : Int) == 1) = false := by rw [beq_eq_false_iff_ne]; omega
    rw [d1]
    clear h
    go_enter Try.func63, Try.ntmps63
    go_wp2
    go_ret
    exact ⟨rfl, rfl⟩

/-- A datum's value by its fields. -/
structure Fld (w : World) (B : Nat) (d : Dt) (am : Option Addr) (cm : Nat) (al : Option Addr) (cl : Nat) (at_ : Option Addr) (ct : Nat) : Prop where
  m : IntRow w (Lo B) am d.M.length cm d.M
  l : IsSl al d.L.length cl
  ls : IsDts w (Lo B) al 0 d.L
  t : IsSl at_ d.T.length ct
  ts : IsDts w (Lo B) at_ 0 d.T
def inB (a : Int) : Bool := decide (-1152921504606846976 ≤ a) && decide (a ≤ 1152921504606846975)
def nil3 (a b c : Nat) : Bool := ((a : Int) + (b : Int) + (c : Int) == 0)
def nil2 (a b : Nat) : Bool := ((a : Int) + (b : Int) == 0)
def nil1 (a : Nat) : Bool := ((a : Int) == 0)
theorem bel2 (w : World) (o p : Obj) : Below w.heap.size w ((w.alloc o).alloc p) := ((Below.refl _ _).alloc (Nat.le_refl _) _).alloc (by simp) _
theorem cell_two (w : World) (o p : Obj) {b i : Nat} (h : b < w.heap.size) : ((w.alloc o).alloc p).cell? ⟨b, i, none⟩ = w.cell? ⟨b, i, none⟩ := (bel2 w o p).cell (p := ⟨b, i, none⟩) h
def properOf (k n : Int) (s : ByteArray) (m : List Int) (l t : List Dt) : Bool :=
  if k = 1 then inB n && s.toList.isEmpty && nil3 m.length l.length t.length
  else if k = 2 then (n == 0 || n == 1) && s.toList.isEmpty && nil3 m.length l.length t.length
  else if k = 3 then (decide (0 ≤ n) && decide (n < 128)) && s.toList.isEmpty && nil3 m.length l.length t.length
  else if k = 4 then textB s && (n == 0) && nil3 m.length l.length t.length
  else if k = 5 then (symB s && marksB m) && (n == 0) && nil2 l.length t.length
  else if k = 6 then (n == 0) && s.toList.isEmpty && nil2 m.length t.length
  else if k = 7 then (decide (0 < (l.length : Int)) && tailB t) && (n == 0) && s.toList.isEmpty && nil1 m.length
  else if k = 8 then (n == 0) && s.toList.isEmpty && nil2 m.length t.length
  else false
def properB (d : Dt) : Bool := properOf d.K d.N d.S d.M d.L d.T
set_option linter.unusedVariables false in
set_option maxHeartbeats 2000000 in
theorem proper_1 (n : Int) (s : ByteArray) (m : List Int) (l t : List Dt) (am : Option Addr) (cm : Nat) (al : Option Addr) (cl : Nat) (at_ : Option Addr) (ct : Nat) (B : Nat) (w : World) (hs : s.size ≤ maxLen) (hB : B ≤ w.heap.size)
    (hm : IntRow w (Lo B) am m.length cm m) (h2 : IsSl al l.length cl) (ht : IsSl at_ t.length ct) (hts : IsDts w (Lo B) at_ 0 t) :
    Calls Try.prog 56 #[.agg #[.int .i64 1, .int .i64 n, .string s, .slice am m.length cm, .slice al l.length cl, .slice at_ t.length ct]] w fun e w' => e = .returned (.bool (inB n && s.toList.isEmpty && nil3 m.length l.length t.length)) ∧ Below w.heap.size w w' := by
  have h1 : (m.length : Int) ≤ 17592186044416 := by have a := hm.2.1; have b := hm.2.2.2.1; omega
  have h3 : (l.length : Int) ≤ 17592186044416 := by have a := h2.1; have b := h2.2.2.1; omega
  have h4 : (t.length : Int) ≤ 17592186044416 := by have a := ht.1; have b := ht.2.2.1; omega
  have Hm := Lib.hid hm
  have Ht := Lib.hid ht
  have Hts := Lib.hid hts
  clear hm h2 ht hts
  cases b0 : (inB n)
  · -- no
    have B1 := Lib.hid b0
    clear b0
    go_enter Try.func56, Try.ntmps56
    go_wp2_with (go_at_call 59; refine (in_fix n _).mono ?_; rintro e w' ⟨rfl, rfl⟩; have B2 := B1.out; unfold inB at B2; rw [B2]; clear B2)
    go_ret
    exact ⟨rfl, bel2 _ _ _⟩
  · -- yes
    cases b1 : (s.toList.isEmpty)
    · -- no
      have B1 := Lib.hid b0
      clear b0
      go_enter Try.func56, Try.ntmps56
      go_wp2_with (go_at_call 59; refine (in_fix n _).mono ?_; rintro e w' ⟨rfl, rfl⟩; have B2 := B1.out; unfold inB at B2; rw [B2]; clear B2)
      go_ret
      exact ⟨rfl, bel2 _ _ _⟩
    · -- yes
      unfold nil3
      cases b2 : ((m.length : Int) + (l.length : Int) + (t.length : Int) == 0)
      · -- no
        have B1 := Lib.hid b0
        clear b0
        go_enter Try.func56, Try.ntmps56
        go_wp2_with (go_at_call 59; refine (in_fix n _).mono ?_; rintro e w' ⟨rfl, rfl⟩; have B2 := B1.out; unfold inB at B2; rw [B2]; clear B2)
        go_ret
        exact ⟨rfl, bel2 _ _ _⟩
      · -- yes
        have B1 := Lib.hid b0
        clear b0
        go_enter Try.func56, Try.ntmps56
        go_wp2_with (go_at_call 59; refine (in_fix n _).mono ?_; rintro e w' ⟨rfl, rfl⟩; have B2 := B1.out; unfold inB at B2; rw [B2]; clear B2)
        go_ret
        exact ⟨rfl, bel2 _ _ _⟩
set_option linter.unusedVariables false in
set_option maxHeartbeats 2000000 in
theorem proper_2 (n : Int) (s : ByteArray) (m : List Int) (l t : List Dt) (am : Option Addr) (cm : Nat) (al : Option Addr) (cl : Nat) (at_ : Option Addr) (ct : Nat) (B : Nat) (w : World) (hs : s.size ≤ maxLen) (hB : B ≤ w.heap.size)
    (hm : IntRow w (Lo B) am m.length cm m) (h2 : IsSl al l.length cl) (ht : IsSl at_ t.length ct) (hts : IsDts w (Lo B) at_ 0 t) :
    Calls Try.prog 56 #[.agg #[.int .i64 2, .int .i64 n, .string s, .slice am m.length cm, .slice al l.length cl, .slice at_ t.length ct]] w fun e w' => e = .returned (.bool ((n == 0 || n == 1) && s.toList.isEmpty && nil3 m.length l.length t.length)) ∧ Below w.heap.size w w' := by
  have h1 : (m.length : Int) ≤ 17592186044416 := by have a := hm.2.1; have b := hm.2.2.2.1; omega
  have h3 : (l.length : Int) ≤ 17592186044416 := by have a := h2.1; have b := h2.2.2.1; omega
  have h4 : (t.length : Int) ≤ 17592186044416 := by have a := ht.1; have b := ht.2.2.1; omega
  have Hm := Lib.hid hm
  have Ht := Lib.hid ht
  have Hts := Lib.hid hts
  clear hm h2 ht hts
  cases b0 : (n == 0)
  · -- not
    cases b1 : (n == 1)
    · -- no
      go_enter Try.func56, Try.ntmps56
      go_wp2_with fail
      go_ret
      exact ⟨rfl, bel2 _ _ _⟩
    · -- yes
      cases b2 : (s.toList.isEmpty)
      · -- no
        go_enter Try.func56, Try.ntmps56
        go_wp2_with fail
        go_ret
        exact ⟨rfl, bel2 _ _ _⟩
      · -- yes
        unfold nil3
        cases b3 : ((m.length : Int) + (l.length : Int) + (t.length : Int) == 0)
        · -- no
          go_enter Try.func56, Try.ntmps56
          go_wp2_with fail
          go_ret
          exact ⟨rfl, bel2 _ _ _⟩
        · -- yes
          go_enter Try.func56, Try.ntmps56
          go_wp2_with fail
          go_ret
          exact ⟨rfl, bel2 _ _ _⟩
  · -- yes
    cases b2 : (s.toList.isEmpty)
    · -- no
      go_enter Try.func56, Try.ntmps56
      go_wp2_with fail
      go_ret
      exact ⟨rfl, bel2 _ _ _⟩
    · -- yes
      unfold nil3
      cases b3 : ((m.length : Int) + (l.length : Int) + (t.length : Int) == 0)
      · -- no
        go_enter Try.func56, Try.ntmps56
        go_wp2_with fail
        go_ret
        exact ⟨rfl, bel2 _ _ _⟩
      · -- yes
        go_enter Try.func56, Try.ntmps56
        go_wp2_with fail
        go_ret
        exact ⟨rfl, bel2 _ _ _⟩
set_option linter.unusedVariables false in
set_option maxHeartbeats 2000000 in
theorem proper_3 (n : Int) (s : ByteArray) (m : List Int) (l t : List Dt) (am : Option Addr) (cm : Nat) (al : Option Addr) (cl : Nat) (at_ : Option Addr) (ct : Nat) (B : Nat) (w : World) (hs : s.size ≤ maxLen) (hB : B ≤ w.heap.size)
    (hm : IntRow w (Lo B) am m.length cm m) (h2 : IsSl al l.length cl) (ht : IsSl at_ t.length ct) (hts : IsDts w (Lo B) at_ 0 t) :
    Calls Try.prog 56 #[.agg #[.int .i64 3, .int .i64 n, .string s, .slice am m.length cm, .slice al l.length cl, .slice at_ t.length ct]] w fun e w' => e = .returned (.bool ((decide (0 ≤ n) && decide (n < 128)) && s.toList.isEmpty && nil3 m.length l.length t.length)) ∧ Below w.heap.size w w' := by
  have h1 : (m.length : Int) ≤ 17592186044416 := by have a := hm.2.1; have b := hm.2.2.2.1; omega
  have h3 : (l.length : Int) ≤ 17592186044416 := by have a := h2.1; have b := h2.2.2.1; omega
  have h4 : (t.length : Int) ≤ 17592186044416 := by have a := ht.1; have b := ht.2.2.1; omega
  have Hm := Lib.hid hm
  have Ht := Lib.hid ht
  have Hts := Lib.hid hts
  clear hm h2 ht hts
  cases b0 : (decide (0 ≤ n))
  · -- no
    go_enter Try.func56, Try.ntmps56
    go_wp2_with fail
    go_ret
    exact ⟨rfl, bel2 _ _ _⟩
  · -- yes
    cases b1 : (decide (n < 128))
    · -- no
      go_enter Try.func56, Try.ntmps56
      go_wp2_with fail
      go_ret
      exact ⟨rfl, bel2 _ _ _⟩
    · -- yes
      cases b2 : (s.toList.isEmpty)
      · -- no
        go_enter Try.func56, Try.ntmps56
        go_wp2_with fail
        go_ret
        exact ⟨rfl, bel2 _ _ _⟩
      · -- yes
        unfold nil3
        cases b3 : ((m.length : Int) + (l.length : Int) + (t.length : Int) == 0)
        · -- no
          go_enter Try.func56, Try.ntmps56
          go_wp2_with fail
          go_ret
          exact ⟨rfl, bel2 _ _ _⟩
        · -- yes
          go_enter Try.func56, Try.ntmps56
          go_wp2_with fail
          go_ret
          exact ⟨rfl, bel2 _ _ _⟩
set_option linter.unusedVariables false in
set_option maxHeartbeats 2000000 in
theorem proper_4 (n : Int) (s : ByteArray) (m : List Int) (l t : List Dt) (am : Option Addr) (cm : Nat) (al : Option Addr) (cl : Nat) (at_ : Option Addr) (ct : Nat) (B : Nat) (w : World) (hs : s.size ≤ maxLen) (hB : B ≤ w.heap.size)
    (hm : IntRow w (Lo B) am m.length cm m) (h2 : IsSl al l.length cl) (ht : IsSl at_ t.length ct) (hts : IsDts w (Lo B) at_ 0 t) :
    Calls Try.prog 56 #[.agg #[.int .i64 4, .int .i64 n, .string s, .slice am m.length cm, .slice al l.length cl, .slice at_ t.length ct]] w fun e w' => e = .returned (.bool (textB s && (n == 0) && nil3 m.length l.length t.length)) ∧ Below w.heap.size w w' := by
  have h1 : (m.length : Int) ≤ 17592186044416 := by have a := hm.2.1; have b := hm.2.2.2.1; omega
  have h3 : (l.length : Int) ≤ 17592186044416 := by have a := h2.1; have b := h2.2.2.1; omega
  have h4 : (t.length : Int) ≤ 17592186044416 := by have a := ht.1; have b := ht.2.2.1; omega
  have Hm := Lib.hid hm
  have Ht := Lib.hid ht
  have Hts := Lib.hid hts
  clear hm h2 ht hts
  cases b0 : (textB s)
  · -- no
    have B1 := Lib.hid b0
    clear b0
    go_enter Try.func56, Try.ntmps56
    go_wp2_with (go_at_call 60; refine (text_any s _ hs).mono ?_; rintro e w' ⟨rfl, rfl⟩; rw [B1.out])
    go_ret
    exact ⟨rfl, bel2 _ _ _⟩
  · -- yes
    cases b1 : (n == 0)
    · -- no
      have B1 := Lib.hid b0
      clear b0
      go_enter Try.func56, Try.ntmps56
      go_wp2_with (go_at_call 60; refine (text_any s _ hs).mono ?_; rintro e w' ⟨rfl, rfl⟩; rw [B1.out])
      go_ret
      exact ⟨rfl, bel2 _ _ _⟩
    · -- yes
      unfold nil3
      cases b2 : ((m.length : Int) + (l.length : Int) + (t.length : Int) == 0)
      · -- no
        have B1 := Lib.hid b0
        clear b0
        go_enter Try.func56, Try.ntmps56
        go_wp2_with (go_at_call 60; refine (text_any s _ hs).mono ?_; rintro e w' ⟨rfl, rfl⟩; rw [B1.out])
        go_ret
        exact ⟨rfl, bel2 _ _ _⟩
      · -- yes
        have B1 := Lib.hid b0
        clear b0
        go_enter Try.func56, Try.ntmps56
        go_wp2_with (go_at_call 60; refine (text_any s _ hs).mono ?_; rintro e w' ⟨rfl, rfl⟩; rw [B1.out])
        go_ret
        exact ⟨rfl, bel2 _ _ _⟩
set_option linter.unusedVariables false in
set_option maxHeartbeats 2000000 in
theorem proper_5 (n : Int) (s : ByteArray) (m : List Int) (l t : List Dt) (am : Option Addr) (cm : Nat) (al : Option Addr) (cl : Nat) (at_ : Option Addr) (ct : Nat) (B : Nat) (w : World) (hs : s.size ≤ maxLen) (hB : B ≤ w.heap.size)
    (hm : IntRow w (Lo B) am m.length cm m) (h2 : IsSl al l.length cl) (ht : IsSl at_ t.length ct) (hts : IsDts w (Lo B) at_ 0 t) :
    Calls Try.prog 56 #[.agg #[.int .i64 5, .int .i64 n, .string s, .slice am m.length cm, .slice al l.length cl, .slice at_ t.length ct]] w fun e w' => e = .returned (.bool ((symB s && marksB m) && (n == 0) && nil2 l.length t.length)) ∧ Below w.heap.size w w' := by
  have h1 : (m.length : Int) ≤ 17592186044416 := by have a := hm.2.1; have b := hm.2.2.2.1; omega
  have h3 : (l.length : Int) ≤ 17592186044416 := by have a := h2.1; have b := h2.2.2.1; omega
  have h4 : (t.length : Int) ≤ 17592186044416 := by have a := ht.1; have b := ht.2.2.1; omega
  have Hm := Lib.hid hm
  have Ht := Lib.hid ht
  have Hts := Lib.hid hts
  clear hm h2 ht hts
  cases b0 : (symB s)
  · -- no
    have B1 := Lib.hid b0
    clear b0
    go_enter Try.func56, Try.ntmps56
    go_wp2_with (first | (go_at_call 61; refine (symbol_any s _ hs).mono ?_; rintro e w' ⟨rfl, rfl⟩; rw [B1.out]) | (go_at_call 62; refine (marks_any am m.length cm m B _ (by exact Hm.out.keep (fun _ h => h) (fun b o hb => cell_two _ _ _ (Nat.lt_of_lt_of_le hb hB)))).mono ?_; rintro e w' ⟨rfl, rfl⟩; rw [B5.out]))
    go_ret
    exact ⟨rfl, bel2 _ _ _⟩
  · -- yes
    cases b1 : (marksB m)
    · -- no
      have B1 := Lib.hid b0
      clear b0
      have B5 := Lib.hid b1
      clear b1
      go_enter Try.func56, Try.ntmps56
      go_wp2_with (first | (go_at_call 61; refine (symbol_any s _ hs).mono ?_; rintro e w' ⟨rfl, rfl⟩; rw [B1.out]) | (go_at_call 62; refine (marks_any am m.length cm m B _ (by exact Hm.out.keep (fun _ h => h) (fun b o hb => cell_two _ _ _ (Nat.lt_of_lt_of_le hb hB)))).mono ?_; rintro e w' ⟨rfl, rfl⟩; rw [B5.out]))
      go_ret
      exact ⟨rfl, bel2 _ _ _⟩
    · -- yes
      cases b2 : (n == 0)
      · -- no
        have B1 := Lib.hid b0
        clear b0
        have B5 := Lib.hid b1
        clear b1
        go_enter Try.func56, Try.ntmps56
        go_wp2_with (first | (go_at_call 61; refine (symbol_any s _ hs).mono ?_; rintro e w' ⟨rfl, rfl⟩; rw [B1.out]) | (go_at_call 62; refine (marks_any am m.length cm m B _ (by exact Hm.out.keep (fun _ h => h) (fun b o hb => cell_two _ _ _ (Nat.lt_of_lt_of_le hb hB)))).mono ?_; rintro e w' ⟨rfl, rfl⟩; rw [B5.out]))
        go_ret
        exact ⟨rfl, bel2 _ _ _⟩
      · -- yes
        unfold nil2
        cases b3 : ((l.length : Int) + (t.length : Int) == 0)
        · -- no
          have B1 := Lib.hid b0
          clear b0
          have B5 := Lib.hid b1
          clear b1
          go_enter Try.func56, Try.ntmps56
          go_wp2_with (first | (go_at_call 61; refine (symbol_any s _ hs).mono ?_; rintro e w' ⟨rfl, rfl⟩; rw [B1.out]) | (go_at_call 62; refine (marks_any am m.length cm m B _ (by exact Hm.out.keep (fun _ h => h) (fun b o hb => cell_two _ _ _ (Nat.lt_of_lt_of_le hb hB)))).mono ?_; rintro e w' ⟨rfl, rfl⟩; rw [B5.out]))
          go_ret
          exact ⟨rfl, bel2 _ _ _⟩
        · -- yes
          have B1 := Lib.hid b0
          clear b0
          have B5 := Lib.hid b1
          clear b1
          go_enter Try.func56, Try.ntmps56
          go_wp2_with (first | (go_at_call 61; refine (symbol_any s _ hs).mono ?_; rintro e w' ⟨rfl, rfl⟩; rw [B1.out]) | (go_at_call 62; refine (marks_any am m.length cm m B _ (by exact Hm.out.keep (fun _ h => h) (fun b o hb => cell_two _ _ _ (Nat.lt_of_lt_of_le hb hB)))).mono ?_; rintro e w' ⟨rfl, rfl⟩; rw [B5.out]))
          go_ret
          exact ⟨rfl, bel2 _ _ _⟩
set_option linter.unusedVariables false in
set_option maxHeartbeats 2000000 in
theorem proper_6 (n : Int) (s : ByteArray) (m : List Int) (l t : List Dt) (am : Option Addr) (cm : Nat) (al : Option Addr) (cl : Nat) (at_ : Option Addr) (ct : Nat) (B : Nat) (w : World) (hs : s.size ≤ maxLen) (hB : B ≤ w.heap.size)
    (hm : IntRow w (Lo B) am m.length cm m) (h2 : IsSl al l.length cl) (ht : IsSl at_ t.length ct) (hts : IsDts w (Lo B) at_ 0 t) :
    Calls Try.prog 56 #[.agg #[.int .i64 6, .int .i64 n, .string s, .slice am m.length cm, .slice al l.length cl, .slice at_ t.length ct]] w fun e w' => e = .returned (.bool ((n == 0) && s.toList.isEmpty && nil2 m.length t.length)) ∧ Below w.heap.size w w' := by
  have h1 : (m.length : Int) ≤ 17592186044416 := by have a := hm.2.1; have b := hm.2.2.2.1; omega
  have h3 : (l.length : Int) ≤ 17592186044416 := by have a := h2.1; have b := h2.2.2.1; omega
  have h4 : (t.length : Int) ≤ 17592186044416 := by have a := ht.1; have b := ht.2.2.1; omega
  have Hm := Lib.hid hm
  have Ht := Lib.hid ht
  have Hts := Lib.hid hts
  clear hm h2 ht hts
  cases b0 : (n == 0)
  · -- no
    go_enter Try.func56, Try.ntmps56
    go_wp2_with fail
    go_ret
    exact ⟨rfl, bel2 _ _ _⟩
  · -- yes
    cases b1 : (s.toList.isEmpty)
    · -- no
      go_enter Try.func56, Try.ntmps56
      go_wp2_with fail
      go_ret
      exact ⟨rfl, bel2 _ _ _⟩
    · -- yes
      unfold nil2
      cases b2 : ((m.length : Int) + (t.length : Int) == 0)
      · -- no
        go_enter Try.func56, Try.ntmps56
        go_wp2_with fail
        go_ret
        exact ⟨rfl, bel2 _ _ _⟩
      · -- yes
        go_enter Try.func56, Try.ntmps56
        go_wp2_with fail
        go_ret
        exact ⟨rfl, bel2 _ _ _⟩
set_option linter.unusedVariables false in
set_option maxHeartbeats 2000000 in
theorem proper_7 (n : Int) (s : ByteArray) (m : List Int) (l t : List Dt) (am : Option Addr) (cm : Nat) (al : Option Addr) (cl : Nat) (at_ : Option Addr) (ct : Nat) (B : Nat) (w : World) (hs : s.size ≤ maxLen) (hB : B ≤ w.heap.size)
    (hm : IntRow w (Lo B) am m.length cm m) (h2 : IsSl al l.length cl) (ht : IsSl at_ t.length ct) (hts : IsDts w (Lo B) at_ 0 t) :
    Calls Try.prog 56 #[.agg #[.int .i64 7, .int .i64 n, .string s, .slice am m.length cm, .slice al l.length cl, .slice at_ t.length ct]] w fun e w' => e = .returned (.bool ((decide (0 < (l.length : Int)) && tailB t) && (n == 0) && s.toList.isEmpty && nil1 m.length)) ∧ Below w.heap.size w w' := by
  have h1 : (m.length : Int) ≤ 17592186044416 := by have a := hm.2.1; have b := hm.2.2.2.1; omega
  have h3 : (l.length : Int) ≤ 17592186044416 := by have a := h2.1; have b := h2.2.2.1; omega
  have h4 : (t.length : Int) ≤ 17592186044416 := by have a := ht.1; have b := ht.2.2.1; omega
  have Hm := Lib.hid hm
  have Ht := Lib.hid ht
  have Hts := Lib.hid hts
  clear hm h2 ht hts
  by_cases h0 : 0 < l.length
  · have b0 : decide (0 < (l.length : Int)) = true := by simp [h0]
    rw [b0]
    cases b1 : (tailB t)
    · -- no
      have B5 := Lib.hid b1
      clear b1
      go_enter Try.func56, Try.ntmps56
      go_wp2_with (go_at_call 63; refine (tail_any at_ ct t B _ Ht.out (by exact IsDts.keep (fun _ h => h) (fun b o hb => cell_two _ _ _ (Nat.lt_of_lt_of_le hb hB)) at_ t 0 Hts.out)).mono ?_; rintro e w' ⟨rfl, rfl⟩; rw [B5.out])
      go_ret
      exact ⟨rfl, bel2 _ _ _⟩
    · -- yes
      cases b2 : (n == 0)
      · -- no
        have B5 := Lib.hid b1
        clear b1
        go_enter Try.func56, Try.ntmps56
        go_wp2_with (go_at_call 63; refine (tail_any at_ ct t B _ Ht.out (by exact IsDts.keep (fun _ h => h) (fun b o hb => cell_two _ _ _ (Nat.lt_of_lt_of_le hb hB)) at_ t 0 Hts.out)).mono ?_; rintro e w' ⟨rfl, rfl⟩; rw [B5.out])
        go_ret
        exact ⟨rfl, bel2 _ _ _⟩
      · -- yes
        cases b3 : (s.toList.isEmpty)
        · -- no
          have B5 := Lib.hid b1
          clear b1
          go_enter Try.func56, Try.ntmps56
          go_wp2_with (go_at_call 63; refine (tail_any at_ ct t B _ Ht.out (by exact IsDts.keep (fun _ h => h) (fun b o hb => cell_two _ _ _ (Nat.lt_of_lt_of_le hb hB)) at_ t 0 Hts.out)).mono ?_; rintro e w' ⟨rfl, rfl⟩; rw [B5.out])
          go_ret
          exact ⟨rfl, bel2 _ _ _⟩
        · -- yes
          unfold nil1
          cases b4 : ((m.length : Int) == 0)
          · -- no
            have B5 := Lib.hid b1
            clear b1
            go_enter Try.func56, Try.ntmps56
            go_wp2_with (go_at_call 63; refine (tail_any at_ ct t B _ Ht.out (by exact IsDts.keep (fun _ h => h) (fun b o hb => cell_two _ _ _ (Nat.lt_of_lt_of_le hb hB)) at_ t 0 Hts.out)).mono ?_; rintro e w' ⟨rfl, rfl⟩; rw [B5.out])
            go_ret
            exact ⟨rfl, bel2 _ _ _⟩
          · -- yes
            have B5 := Lib.hid b1
            clear b1
            go_enter Try.func56, Try.ntmps56
            go_wp2_with (go_at_call 63; refine (tail_any at_ ct t B _ Ht.out (by exact IsDts.keep (fun _ h => h) (fun b o hb => cell_two _ _ _ (Nat.lt_of_lt_of_le hb hB)) at_ t 0 Hts.out)).mono ?_; rintro e w' ⟨rfl, rfl⟩; rw [B5.out])
            go_ret
            exact ⟨rfl, bel2 _ _ _⟩
  · have b0 : decide (0 < (l.length : Int)) = false := by simp [h0]
    rw [b0]
    go_enter Try.func56, Try.ntmps56
    go_wp2_with (go_at_call 63; refine (tail_any at_ ct t B _ Ht.out (by exact IsDts.keep (fun _ h => h) (fun b o hb => cell_two _ _ _ (Nat.lt_of_lt_of_le hb hB)) at_ t 0 Hts.out)).mono ?_; rintro e w' ⟨rfl, rfl⟩; rw [B5.out])
    go_ret
    exact ⟨rfl, bel2 _ _ _⟩
set_option linter.unusedVariables false in
set_option maxHeartbeats 2000000 in
theorem proper_8 (n : Int) (s : ByteArray) (m : List Int) (l t : List Dt) (am : Option Addr) (cm : Nat) (al : Option Addr) (cl : Nat) (at_ : Option Addr) (ct : Nat) (B : Nat) (w : World) (hs : s.size ≤ maxLen) (hB : B ≤ w.heap.size)
    (hm : IntRow w (Lo B) am m.length cm m) (h2 : IsSl al l.length cl) (ht : IsSl at_ t.length ct) (hts : IsDts w (Lo B) at_ 0 t) :
    Calls Try.prog 56 #[.agg #[.int .i64 8, .int .i64 n, .string s, .slice am m.length cm, .slice al l.length cl, .slice at_ t.length ct]] w fun e w' => e = .returned (.bool ((n == 0) && s.toList.isEmpty && nil2 m.length t.length)) ∧ Below w.heap.size w w' := by
  have h1 : (m.length : Int) ≤ 17592186044416 := by have a := hm.2.1; have b := hm.2.2.2.1; omega
  have h3 : (l.length : Int) ≤ 17592186044416 := by have a := h2.1; have b := h2.2.2.1; omega
  have h4 : (t.length : Int) ≤ 17592186044416 := by have a := ht.1; have b := ht.2.2.1; omega
  have Hm := Lib.hid hm
  have Ht := Lib.hid ht
  have Hts := Lib.hid hts
  clear hm h2 ht hts
  cases b0 : (n == 0)
  · -- no
    go_enter Try.func56, Try.ntmps56
    go_wp2_with fail
    go_ret
    exact ⟨rfl, bel2 _ _ _⟩
  · -- yes
    cases b1 : (s.toList.isEmpty)
    · -- no
      go_enter Try.func56, Try.ntmps56
      go_wp2_with fail
      go_ret
      exact ⟨rfl, bel2 _ _ _⟩
    · -- yes
      unfold nil2
      cases b2 : ((m.length : Int) + (t.length : Int) == 0)
      · -- no
        go_enter Try.func56, Try.ntmps56
        go_wp2_with fail
        go_ret
        exact ⟨rfl, bel2 _ _ _⟩
      · -- yes
        go_enter Try.func56, Try.ntmps56
        go_wp2_with fail
        go_ret
        exact ⟨rfl, bel2 _ _ _⟩
theorem proper_no (k n : Int) (s : ByteArray) (am : Option Addr) (lm cm : Nat) (al : Option Addr) (ll cl : Nat) (at_ : Option Addr) (lt ct : Nat) (w : World) (d1 : (k == 1) = false) (d2 : (k == 2) = false) (d3 : (k == 3) = false) (d4 : (k == 4) = false) (d5 : (k == 5) = false) (d6 : (k == 6) = false) (d7 : (k == 7) = false) (d8 : (k == 8) = false) :
    Calls Try.prog 56 #[.agg #[.int .i64 k, .int .i64 n, .string s, .slice am lm cm, .slice al ll cl, .slice at_ lt ct]] w fun e w' => e = .returned (.bool false) ∧ Below w.heap.size w w' := by
  go_enter Try.func56, Try.ntmps56
  go_wp2
  go_ret
  exact ⟨rfl, bel2 _ _ _⟩

theorem proper_any (d : Dt) (v : Value) (B : Nat) (w : World) (h : IsDt w (Lo B) d v) (hB : B ≤ w.heap.size) :
    Calls Try.prog 56 #[v] w fun e w' => e = .returned (.bool (properB d)) ∧ Below w.heap.size w w' := by
  obtain ⟨am, cm, al, cl, at_, ct, rfl, h1, h2, hs, hm, hl, hls, ht, hts⟩ := h.open_
  unfold properB properOf
  by_cases c1 : d.K = 1
  · rw [c1]
    exact proper_1 d.N d.S d.M d.L d.T am cm al cl at_ ct B w hs hB hm hl ht hts
  rw [if_neg c1]
  by_cases c2 : d.K = 2
  · rw [c2]
    exact proper_2 d.N d.S d.M d.L d.T am cm al cl at_ ct B w hs hB hm hl ht hts
  rw [if_neg c2]
  by_cases c3 : d.K = 3
  · rw [c3]
    exact proper_3 d.N d.S d.M d.L d.T am cm al cl at_ ct B w hs hB hm hl ht hts
  rw [if_neg c3]
  by_cases c4 : d.K = 4
  · rw [c4]
    exact proper_4 d.N d.S d.M d.L d.T am cm al cl at_ ct B w hs hB hm hl ht hts
  rw [if_neg c4]
  by_cases c5 : d.K = 5
  · rw [c5]
    exact proper_5 d.N d.S d.M d.L d.T am cm al cl at_ ct B w hs hB hm hl ht hts
  rw [if_neg c5]
  by_cases c6 : d.K = 6
  · rw [c6]
    exact proper_6 d.N d.S d.M d.L d.T am cm al cl at_ ct B w hs hB hm hl ht hts
  rw [if_neg c6]
  by_cases c7 : d.K = 7
  · rw [c7]
    exact proper_7 d.N d.S d.M d.L d.T am cm al cl at_ ct B w hs hB hm hl ht hts
  rw [if_neg c7]
  by_cases c8 : d.K = 8
  · rw [c8]
    exact proper_8 d.N d.S d.M d.L d.T am cm al cl at_ ct B w hs hB hm hl ht hts
  rw [if_neg c8]
  exact proper_no d.K d.N d.S am _ cm al _ cl at_ _ ct w (beq_eq_false_iff_ne.2 c1) (beq_eq_false_iff_ne.2 c2) (beq_eq_false_iff_ne.2 c3) (beq_eq_false_iff_ne.2 c4) (beq_eq_false_iff_ne.2 c5) (beq_eq_false_iff_ne.2 c6) (beq_eq_false_iff_ne.2 c7) (beq_eq_false_iff_ne.2 c8)
end Go.Proofs.Ytapnighankepjaa.Da
