/- Size, Deep and Check: what the program returns. -/
import Derived.Test.YteolfkkabhileaaM1
import Derived.RegionTactic
import Derived.ChangeAlike
import Derived.BigRegion
import Derived.Laws.EntriesVeiled
section
namespace Go.Proofs.Yteolfkkabhileaa.Da
open Go.ChangeShapes Go.WideShapes Go.ChangeAt Go.RowKit

def headK : List Dt → Int | [] => 0 | d :: _ => d.K
def tailB (t : List Dt) : Bool := ((t.length : Int) == 1) && (headK t != 6) && (headK t != 7)
theorem headK_at {w : World} {B : Nat} {a : Option Addr} {t : List Dt} (h : IsDts w (Lo B) a 0 t) (hl : t.length = 1) : ∃ b off, a = some ⟨b, off, none⟩ ∧ b < B ∧ w.cell? ⟨b, off, none⟩ = some (.int .i64 (headK t)) := by
  match t, hl with
  | [d], _ =>
    obtain ⟨b, off, x0, x1, x2, x3, x4, x5, ha, hb, hx, hd⟩ := h.at_ 0 d rfl
    obtain ⟨am, cm, al, cl, at_, ct, hv, _⟩ := hd.open_
    injection hv with hv
    simp only [Array.mk.injEq, List.cons.injEq] at hv
    obtain ⟨rfl, _⟩ := hv
    exact ⟨b, off, ha, hb, by simpa [headK] using hx.1⟩
set_option maxHeartbeats 400000 in
theorem tail_any (a : Option Addr) (cap : Nat) (t : List Dt) (B : Nat) (w : World) (h1 : IsSl a t.length cap) (h : IsDts w (Lo B) a 0 t) :
    Calls Try.prog 67 #[.slice a t.length cap] w fun e w' => e = .returned (.bool (tailB t)) ∧ w = w' := by
  obtain ⟨h2, h3, h4, _⟩ := h1
  unfold maxLen at h3
  unfold tailB
  by_cases hl : t.length = 1
  · obtain ⟨b, off, rfl, hb, hc⟩ := headK_at h hl
    obtain ⟨x, hx⟩ : ∃ x, headK t = x := ⟨_, rfl⟩
    rw [hx] at hc
    rw [hx, hl]
    clear hx h hl h2
    cases d1 : (x != 6) <;> cases d2 : (x != 7)
    all_goals
      go_enter Try.func67, Try.ntmps67
      go_wp2
      go_ret
      exact ⟨rfl, rfl⟩
  · have d1 : ((t.length : Int) == 1) = false := by rw [beq_eq_false_iff_ne]; omega
    rw [d1]
    clear h
    go_enter Try.func67, Try.ntmps67
    go_wp2
    go_ret
    exact ⟨rfl, rfl⟩

/-- A datum's value by its fields. -/
structure Fld (w : World) (B : Nat) (d : Dt) (am : Option Addr) (cm : Nat) (al : Option Addr) (cl : Nat) (at_ : Option Addr) (ct : Nat) : Prop where
  m : IntRow w (Lo B) am d.M.length cm d.M
  l : IsSl al d.L.length cl
  ls : IsDts w (Lo B) al 0 d.L
  t : IsSl at_ d.T.length ct
  ts : IsDts w (Lo B) at_ 0 d.T
def inB (a : Int) : Bool := decide (-1152921504606846976 ≤ a) && decide (a ≤ 1152921504606846975)
def nil3 (a b c : Nat) : Bool := ((a : Int) + (b : Int) + (c : Int) == 0)
def nil2 (a b : Nat) : Bool := ((a : Int) + (b : Int) == 0)
def nil1 (a : Nat) : Bool := ((a : Int) == 0)
theorem bel2 (w : World) (o p : Obj) : Below w.heap.size w ((w.alloc o).alloc p) := ((Below.refl _ _).alloc (Nat.le_refl _) _).alloc (by simp) _
theorem cell_two (w : World) (o p : Obj) {b i : Nat} (h : b < w.heap.size) : ((w.alloc o).alloc p).cell? ⟨b, i, none⟩ = w.cell? ⟨b, i, none⟩ := (bel2 w o p).cell (p := ⟨b, i, none⟩) h
def properOf (k n : Int) (s : ByteArray) (m : List Int) (l t : List Dt) : Bool :=
  if k = 1 then inB n && s.toList.isEmpty && nil3 m.length l.length t.length
  else if k = 2 then (n == 0 || n == 1) && s.toList.isEmpty && nil3 m.length l.length t.length
  else if k = 3 then (decide (0 ≤ n) && decide (n < 128)) && s.toList.isEmpty && nil3 m.length l.length t.length
  else if k = 4 then textB s && (n == 0) && nil3 m.length l.length t.length
  else if k = 5 then (symB s && marksB m) && (n == 0) && nil2 l.length t.length
  else if k = 6 then (n == 0) && s.toList.isEmpty && nil2 m.length t.length
  else if k = 7 then (decide (0 < (l.length : Int)) && tailB t) && (n == 0) && s.toList.isEmpty && nil1 m.length
  else if k = 8 then (n == 0) && s.toList.isEmpty && nil2 m.length t.length
  else false
def properB (d : Dt) : Bool := properOf d.K d.N d.S d.M d.L d.T
set_option linter.unusedVariables false in
set_option maxHeartbeats 2000000 in
theorem proper_1 (n : Int) (s : ByteArray) (m : List Int) (l t : List Dt) (am : Option Addr) (cm : Nat) (al : Option Addr) (cl : Nat) (at_ : Option Addr) (ct : Nat) (B : Nat) (w : World) (hs : s.size ≤ maxLen) (hB : B ≤ w.heap.size)
    (hm : IntRow w (Lo B) am m.length cm m) (h2 : IsSl al l.length cl) (ht : IsSl at_ t.length ct) (hts : IsDts w (Lo B) at_ 0 t) :
    Calls Try.prog 60 #[.agg #[.int .i64 1, .int .i64 n, .string s, .slice am m.length cm, .slice al l.length cl, .slice at_ t.length ct]] w fun e w' => e = .returned (.bool (inB n && s.toList.isEmpty && nil3 m.length l.length t.length)) ∧ Below w.heap.size w w' := by
  have h1 : (m.length : Int) ≤ 17592186044416 := by have a := hm.2.1; have b := hm.2.2.2.1; omega
  have h3 : (l.length : Int) ≤ 17592186044416 := by have a := h2.1; have b := h2.2.2.1; omega
  have h4 : (t.length : Int) ≤ 17592186044416 := by have a := ht.1; have b := ht.2.2.1; omega
  have Hm := Lib.hid hm
  have Ht := Lib.hid ht
  have Hts := Lib.hid hts
  clear hm h2 ht hts
  cases b0 : (inB n)
  · -- no
    have B1 := Lib.hid b0
    clear b0
    go_enter Try.func60, Try.ntmps60
    go_wp2_with (go_at_call 63; refine (in_fix n _).mono ?_; rintro e w' ⟨rfl, rfl⟩; have B2 := B1.out; unfold inB at B2; rw [B2]; clear B2)
    go_ret
    exact ⟨rfl, bel2 _ _ _⟩
  · -- yes
    cases b1 : (s.toList.isEmpty)
    · -- no
      have B1 := Lib.hid b0
      clear b0
      go_enter Try.func60, Try.ntmps60
      go_wp2_with (go_at_call 63; refine (in_fix n _).mono ?_; rintro e w' ⟨rfl, rfl⟩; have B2 := B1.out; unfold inB at B2; rw [B2]; clear B2)
      go_ret
      exact ⟨rfl, bel2 _ _ _⟩
    · -- yes
      unfold nil3
      cases b2 : ((m.length : Int) + (l.length : Int) + (t.length : Int) == 0)
      · -- no
        have B1 := Lib.hid b0
        clear b0
        go_enter Try.func60, Try.ntmps60
        go_wp2_with (go_at_call 63; refine (in_fix n _).mono ?_; rintro e w' ⟨rfl, rfl⟩; have B2 := B1.out; unfold inB at B2; rw [B2]; clear B2)
        go_ret
        exact ⟨rfl, bel2 _ _ _⟩
      · -- yes
        have B1 := Lib.hid b0
        clear b0
        go_enter Try.func60, Try.ntmps60
        go_wp2_with (go_at_call 63; refine (in_fix n _).mono ?_; rintro e w' ⟨rfl, rfl⟩; have B2 := B1.out; unfold inB at B2; rw [B2]; clear B2)
        go_ret
        exact ⟨rfl, bel2 _ _ _⟩
set_option linter.unusedVariables false in
set_option maxHeartbeats 2000000 in
theorem proper_2 (n : Int) (s : ByteArray) (m : List Int) (l t : List Dt) (am : Option Addr) (cm : Nat) (al : Option Addr) (cl : Nat) (at_ : Option Addr) (ct : Nat) (B : Nat) (w : World) (hs : s.size ≤ maxLen) (hB : B ≤ w.heap.size)
    (hm : IntRow w (Lo B) am m.length cm m) (h2 : IsSl al l.length cl) (ht : IsSl at_ t.length ct) (hts : IsDts w (Lo B) at_ 0 t) :
    Calls Try.prog 60 #[.agg #[.int .i64 2, .int .i64 n, .string s, .slice am m.length cm, .slice al l.length cl, .slice at_ t.length ct]] w fun e w' => e = .returned (.bool ((n == 0 || n == 1) && s.toList.isEmpty && nil3 m.length l.length t.length)) ∧ Below w.heap.size w w' := by
  have h1 : (m.length : Int) ≤ 17592186044416 := by have a := hm.2.1; have b := hm.2.2.2.1; omega
  have h3 : (l.length : Int) ≤ 17592186044416 := by have a := h2.1; have b := h2.2.2.1; omega
  have h4 : (t.length : Int) ≤ 17592186044416 := by have a := ht.1; have b := ht.2.2.1; omega
  have Hm := Lib.hid hm
  have Ht := Lib.hid ht
  have Hts := Lib.hid hts
  clear hm h2 ht hts
  cases b0 : (n == 0)
  · -- not
    cases b1 : (n == 1)
    · -- no
      go_enter Try.func60, Try.ntmps60
      go_wp2_with fail
      go_ret
      exact ⟨rfl, bel2 _ _ _⟩
    · -- yes
      cases b2 : (s.toList.isEmpty)
      · -- no
        go_enter Try.func60, Try.ntmps60
        go_wp2_with fail
        go_ret
        exact ⟨rfl, bel2 _ _ _⟩
      · -- yes
        unfold nil3
        cases b3 : ((m.length : Int) + (l.length : Int) + (t.length : Int) == 0)
        · -- no
          go_enter Try.func60, Try.ntmps60
          go_wp2_with fail
          go_ret
          exact ⟨rfl, bel2 _ _ _⟩
        · -- yes
          go_enter Try.func60, Try.ntmps60
          go_wp2_with fail
          go_ret
          exact ⟨rfl, bel2 _ _ _⟩
  · -- yes
    cases b2 : (s.toList.isEmpty)
    · -- no
      go_enter Try.func60, Try.ntmps60
      go_wp2_with fail
      go_ret
      exact ⟨rfl, bel2 _ _ _⟩
    · -- yes
      unfold nil3
      cases b3 : ((m.length : Int) + (l.length : Int) + (t.length : Int) == 0)
      · -- no
        go_enter Try.func60, Try.ntmps60
        go_wp2_with fail
        go_ret
        exact ⟨rfl, bel2 _ _ _⟩
      · -- yes
        go_enter Try.func60, Try.ntmps60
        go_wp2_with fail
        go_ret
        exact ⟨rfl, bel2 _ _ _⟩
set_option linter.unusedVariables false in
set_option maxHeartbeats 2000000 in
theorem proper_3 (n : Int) (s : ByteArray) (m : List Int) (l t : List Dt) (am : Option Addr) (cm : Nat) (al : Option Addr) (cl : Nat) (at_ : Option Addr) (ct : Nat) (B : Nat) (w : World) (hs : s.size ≤ maxLen) (hB : B ≤ w.heap.size)
    (hm : IntRow w (Lo B) am m.length cm m) (h2 : IsSl al l.length cl) (ht : IsSl at_ t.length ct) (hts : IsDts w (Lo B) at_ 0 t) :
    Calls Try.prog 60 #[.agg #[.int .i64 3, .int .i64 n, .string s, .slice am m.length cm, .slice al l.length cl, .slice at_ t.length ct]] w fun e w' => e = .returned (.bool ((decide (0 ≤ n) && decide (n < 128)) && s.toList.isEmpty && nil3 m.length l.length t.length)) ∧ Below w.heap.size w w' := by
  have h1 : (m.length : Int) ≤ 17592186044416 := by have a := hm.2.1; have b := hm.2.2.2.1; omega
  have h3 : (l.length : Int) ≤ 17592186044416 := by have a := h2.1; have b := h2.2.2.1; omega
  have h4 : (t.length : Int) ≤ 17592186044416 := by have a := ht.1; have b := ht.2.2.1; omega
  have Hm := Lib.hid hm
  have Ht := Lib.hid ht
  have Hts := Lib.hid hts
  clear hm h2 ht hts
  cases b0 : (decide (0 ≤ n))
  · -- no
    go_enter Try.func60, Try.ntmps60
    go_wp2_with fail
    go_ret
    exact ⟨rfl, bel2 _ _ _⟩
  · -- yes
    cases b1 : (decide (n < 128))
    · -- no
      go_enter Try.func60, Try.ntmps60
      go_wp2_with fail
      go_ret
      exact ⟨rfl, bel2 _ _ _⟩
    · -- yes
      cases b2 : (s.toList.isEmpty)
      · -- no
        go_enter Try.func60, Try.ntmps60
        go_wp2_with fail
        go_ret
        exact ⟨rfl, bel2 _ _ _⟩
      · -- yes
        unfold nil3
        cases b3 : ((m.length : Int) + (l.length : Int) + (t.length : Int) == 0)
        · -- no
          go_enter Try.func60, Try.ntmps60
          go_wp2_with fail
          go_ret
          exact ⟨rfl, bel2 _ _ _⟩
        · -- yes
          go_enter Try.func60, Try.ntmps60
          go_wp2_with fail
          go_ret
          exact ⟨rfl, bel2 _ _ _⟩
set_option linter.unusedVariables false in
set_option maxHeartbeats 2000000 in
theorem proper_4 (n : Int) (s : ByteArray) (m : List Int) (l t : List Dt) (am : Option Addr) (cm : Nat) (al : Option Addr) (cl : Nat) (at_ : Option Addr) (ct : Nat) (B : Nat) (w : World) (hs : s.size ≤ maxLen) (hB : B ≤ w.heap.size)
    (hm : IntRow w (Lo B) am m.length cm m) (h2 : IsSl al l.length cl) (ht : IsSl at_ t.length ct) (hts : IsDts w (Lo B) at_ 0 t) :
    Calls Try.prog 60 #[.agg #[.int .i64 4, .int .i64 n, .string s, .slice am m.length cm, .slice al l.length cl, .slice at_ t.length ct]] w fun e w' => e = .returned (.bool (textB s && (n == 0) && nil3 m.length l.length t.length)) ∧ Below w.heap.size w w' := by
  have h1 : (m.length : Int) ≤ 17592186044416 := by have a := hm.2.1; have b := hm.2.2.2.1; omega
  have h3 : (l.length : Int) ≤ 17592186044416 := by have a := h2.1; have b := h2.2.2.1; omega
  have h4 : (t.length : Int) ≤ 17592186044416 := by have a := ht.1; have b := ht.2.2.1; omega
  have Hm := Lib.hid hm
  have Ht := Lib.hid ht
  have Hts := Lib.hid hts
  clear hm h2 ht hts
  cases b0 : (textB s)
  · -- no
    have B1 := Lib.hid b0
    clear b0
    go_enter Try.func60, Try.ntmps60
    go_wp2_with (go_at_call 64; refine (text_any s _ hs).mono ?_; rintro e w' ⟨rfl, rfl⟩; rw [B1.out])
    go_ret
    exact ⟨rfl, bel2 _ _ _⟩
  · -- yes
    cases b1 : (n == 0)
    · -- no
      have B1 := Lib.hid b0
      clear b0
      go_enter Try.func60, Try.ntmps60
      go_wp2_with (go_at_call 64; refine (text_any s _ hs).mono ?_; rintro e w' ⟨rfl, rfl⟩; rw [B1.out])
      go_ret
      exact ⟨rfl, bel2 _ _ _⟩
    · -- yes
      unfold nil3
      cases b2 : ((m.length : Int) + (l.length : Int) + (t.length : Int) == 0)
      · -- no
        have B1 := Lib.hid b0
        clear b0
        go_enter Try.func60, Try.ntmps60
        go_wp2_with (go_at_call 64; refine (text_any s _ hs).mono ?_; rintro e w' ⟨rfl, rfl⟩; rw [B1.out])
        go_ret
        exact ⟨rfl, bel2 _ _ _⟩
      · -- yes
        have B1 := Lib.hid b0
        clear b0
        go_enter Try.func60, Try.ntmps60
        go_wp2_with (go_at_call 64; refine (text_any s _ hs).mono ?_; rintro e w' ⟨rfl, rfl⟩; rw [B1.out])
        go_ret
        exact ⟨rfl, bel2 _ _ _⟩
set_option linter.unusedVariables false in
set_option maxHeartbeats 2000000 in
theorem proper_5 (n : Int) (s : ByteArray) (m : List Int) (l t : List Dt) (am : Option Addr) (cm : Nat) (al : Option Addr) (cl : Nat) (at_ : Option Addr) (ct : Nat) (B : Nat) (w : World) (hs : s.size ≤ maxLen) (hB : B ≤ w.heap.size)
    (hm : IntRow w (Lo B) am m.length cm m) (h2 : IsSl al l.length cl) (ht : IsSl at_ t.length ct) (hts : IsDts w (Lo B) at_ 0 t) :
    Calls Try.prog 60 #[.agg #[.int .i64 5, .int .i64 n, .string s, .slice am m.length cm, .slice al l.length cl, .slice at_ t.length ct]] w fun e w' => e = .returned (.bool ((symB s && marksB m) && (n == 0) && nil2 l.length t.length)) ∧ Below w.heap.size w w' := by
  have h1 : (m.length : Int) ≤ 17592186044416 := by have a := hm.2.1; have b := hm.2.2.2.1; omega
  have h3 : (l.length : Int) ≤ 17592186044416 := by have a := h2.1; have b := h2.2.2.1; omega
  have h4 : (t.length : Int) ≤ 17592186044416 := by have a := ht.1; have b := ht.2.2.1; omega
  have Hm := Lib.hid hm
  have Ht := Lib.hid ht
  have Hts := Lib.hid hts
  clear hm h2 ht hts
  cases b0 : (symB s)
  · -- no
    have B1 := Lib.hid b0
    clear b0
    go_enter Try.func60, Try.ntmps60
    go_wp2_with (first | (go_at_call 65; refine (symbol_any s _ hs).mono ?_; rintro e w' ⟨rfl, rfl⟩; rw [B1.out]) | (go_at_call 66; refine (marks_any am m.length cm m B _ (by exact Hm.out.keep (fun _ h => h) (fun b o hb => cell_two _ _ _ (Nat.lt_of_lt_of_le hb hB)))).mono ?_; rintro e w' ⟨rfl, rfl⟩; rw [B5.out]))
    go_ret
    exact ⟨rfl, bel2 _ _ _⟩
  · -- yes
    cases b1 : (marksB m)
    · -- no
      have B1 := Lib.hid b0
      clear b0
      have B5 := Lib.hid b1
      clear b1
      go_enter Try.func60, Try.ntmps60
      go_wp2_with (first | (go_at_call 65; refine (symbol_any s _ hs).mono ?_; rintro e w' ⟨rfl, rfl⟩; rw [B1.out]) | (go_at_call 66; refine (marks_any am m.length cm m B _ (by exact Hm.out.keep (fun _ h => h) (fun b o hb => cell_two _ _ _ (Nat.lt_of_lt_of_le hb hB)))).mono ?_; rintro e w' ⟨rfl, rfl⟩; rw [B5.out]))
      go_ret
      exact ⟨rfl, bel2 _ _ _⟩
    · -- yes
      cases b2 : (n == 0)
      · -- no
        have B1 := Lib.hid b0
        clear b0
        have B5 := Lib.hid b1
        clear b1
        go_enter Try.func60, Try.ntmps60
        go_wp2_with (first | (go_at_call 65; refine (symbol_any s _ hs).mono ?_; rintro e w' ⟨rfl, rfl⟩; rw [B1.out]) | (go_at_call 66; refine (marks_any am m.length cm m B _ (by exact Hm.out.keep (fun _ h => h) (fun b o hb => cell_two _ _ _ (Nat.lt_of_lt_of_le hb hB)))).mono ?_; rintro e w' ⟨rfl, rfl⟩; rw [B5.out]))
        go_ret
        exact ⟨rfl, bel2 _ _ _⟩
      · -- yes
        unfold nil2
        cases b3 : ((l.length : Int) + (t.length : Int) == 0)
        · -- no
          have B1 := Lib.hid b0
          clear b0
          have B5 := Lib.hid b1
          clear b1
          go_enter Try.func60, Try.ntmps60
          go_wp2_with (first | (go_at_call 65; refine (symbol_any s _ hs).mono ?_; rintro e w' ⟨rfl, rfl⟩; rw [B1.out]) | (go_at_call 66; refine (marks_any am m.length cm m B _ (by exact Hm.out.keep (fun _ h => h) (fun b o hb => cell_two _ _ _ (Nat.lt_of_lt_of_le hb hB)))).mono ?_; rintro e w' ⟨rfl, rfl⟩; rw [B5.out]))
          go_ret
          exact ⟨rfl, bel2 _ _ _⟩
        · -- yes
          have B1 := Lib.hid b0
          clear b0
          have B5 := Lib.hid b1
          clear b1
          go_enter Try.func60, Try.ntmps60
          go_wp2_with (first | (go_at_call 65; refine (symbol_any s _ hs).mono ?_; rintro e w' ⟨rfl, rfl⟩; rw [B1.out]) | (go_at_call 66; refine (marks_any am m.length cm m B _ (by exact Hm.out.keep (fun _ h => h) (fun b o hb => cell_two _ _ _ (Nat.lt_of_lt_of_le hb hB)))).mono ?_; rintro e w' ⟨rfl, rfl⟩; rw [B5.out]))
          go_ret
          exact ⟨rfl, bel2 _ _ _⟩
set_option linter.unusedVariables false in
set_option maxHeartbeats 2000000 in
theorem proper_6 (n : Int) (s : ByteArray) (m : List Int) (l t : List Dt) (am : Option Addr) (cm : Nat) (al : Option Addr) (cl : Nat) (at_ : Option Addr) (ct : Nat) (B : Nat) (w : World) (hs : s.size ≤ maxLen) (hB : B ≤ w.heap.size)
    (hm : IntRow w (Lo B) am m.length cm m) (h2 : IsSl al l.length cl) (ht : IsSl at_ t.length ct) (hts : IsDts w (Lo B) at_ 0 t) :
    Calls Try.prog 60 #[.agg #[.int .i64 6, .int .i64 n, .string s, .slice am m.length cm, .slice al l.length cl, .slice at_ t.length ct]] w fun e w' => e = .returned (.bool ((n == 0) && s.toList.isEmpty && nil2 m.length t.length)) ∧ Below w.heap.size w w' := by
  have h1 : (m.length : Int) ≤ 17592186044416 := by have a := hm.2.1; have b := hm.2.2.2.1; omega
  have h3 : (l.length : Int) ≤ 17592186044416 := by have a := h2.1; have b := h2.2.2.1; omega
  have h4 : (t.length : Int) ≤ 17592186044416 := by have a := ht.1; have b := ht.2.2.1; omega
  have Hm := Lib.hid hm
  have Ht := Lib.hid ht
  have Hts := Lib.hid hts
  clear hm h2 ht hts
  cases b0 : (n == 0)
  · -- no
    go_enter Try.func60, Try.ntmps60
    go_wp2_with fail
    go_ret
    exact ⟨rfl, bel2 _ _ _⟩
  · -- yes
    cases b1 : (s.toList.isEmpty)
    · -- no
      go_enter Try.func60, Try.ntmps60
      go_wp2_with fail
      go_ret
      exact ⟨rfl, bel2 _ _ _⟩
    · -- yes
      unfold nil2
      cases b2 : ((m.length : Int) + (t.length : Int) == 0)
      · -- no
        go_enter Try.func60, Try.ntmps60
        go_wp2_with fail
        go_ret
        exact ⟨rfl, bel2 _ _ _⟩
      · -- yes
        go_enter Try.func60, Try.ntmps60
        go_wp2_with fail
        go_ret
        exact ⟨rfl, bel2 _ _ _⟩
set_option linter.unusedVariables false in
set_option maxHeartbeats 2000000 in
theorem proper_7 (n : Int) (s : ByteArray) (m : List Int) (l t : List Dt) (am : Option Addr) (cm : Nat) (al : Option Addr) (cl : Nat) (at_ : Option Addr) (ct : Nat) (B : Nat) (w : World) (hs : s.size ≤ maxLen) (hB : B ≤ w.heap.size)
    (hm : IntRow w (Lo B) am m.length cm m) (h2 : IsSl al l.length cl) (ht : IsSl at_ t.length ct) (hts : IsDts w (Lo B) at_ 0 t) :
    Calls Try.prog 60 #[.agg #[.int .i64 7, .int .i64 n, .string s, .slice am m.length cm, .slice al l.length cl, .slice at_ t.length ct]] w fun e w' => e = .returned (.bool ((decide (0 < (l.length : Int)) && tailB t) && (n == 0) && s.toList.isEmpty && nil1 m.length)) ∧ Below w.heap.size w w' := by
  have h1 : (m.length : Int) ≤ 17592186044416 := by have a := hm.2.1; have b := hm.2.2.2.1; omega
  have h3 : (l.length : Int) ≤ 17592186044416 := by have a := h2.1; have b := h2.2.2.1; omega
  have h4 : (t.length : Int) ≤ 17592186044416 := by have a := ht.1; have b := ht.2.2.1; omega
  have Hm := Lib.hid hm
  have Ht := Lib.hid ht
  have Hts := Lib.hid hts
  clear hm h2 ht hts
  by_cases h0 : 0 < l.length
  · have b0 : decide (0 < (l.length : Int)) = true := by simp [h0]
    rw [b0]
    cases b1 : (tailB t)
    · -- no
      have B5 := Lib.hid b1
      clear b1
      go_enter Try.func60, Try.ntmps60
      go_wp2_with (go_at_call 67; refine (tail_any at_ ct t B _ Ht.out (by exact IsDts.keep (fun _ h => h) (fun b o hb => cell_two _ _ _ (Nat.lt_of_lt_of_le hb hB)) at_ t 0 Hts.out)).mono ?_; rintro e w' ⟨rfl, rfl⟩; rw [B5.out])
      go_ret
      exact ⟨rfl, bel2 _ _ _⟩
    · -- yes
      cases b2 : (n == 0)
      · -- no
        have B5 := Lib.hid b1
        clear b1
        go_enter Try.func60, Try.ntmps60
        go_wp2_with (go_at_call 67; refine (tail_any at_ ct t B _ Ht.out (by exact IsDts.keep (fun _ h => h) (fun b o hb => cell_two _ _ _ (Nat.lt_of_lt_of_le hb hB)) at_ t 0 Hts.out)).mono ?_; rintro e w' ⟨rfl, rfl⟩; rw [B5.out])
        go_ret
        exact ⟨rfl, bel2 _ _ _⟩
      · -- yes
        cases b3 : (s.toList.isEmpty)
        · -- no
          have B5 := Lib.hid b1
          clear b1
          go_enter Try.func60, Try.ntmps60
          go_wp2_with (go_at_call 67; refine (tail_any at_ ct t B _ Ht.out (by exact IsDts.keep (fun _ h => h) (fun b o hb => cell_two _ _ _ (Nat.lt_of_lt_of_le hb hB)) at_ t 0 Hts.out)).mono ?_; rintro e w' ⟨rfl, rfl⟩; rw [B5.out])
          go_ret
          exact ⟨rfl, bel2 _ _ _⟩
        · -- yes
          unfold nil1
          cases b4 : ((m.length : Int) == 0)
          · -- no
            have B5 := Lib.hid b1
            clear b1
            go_enter Try.func60, Try.ntmps60
            go_wp2_with (go_at_call 67; refine (tail_any at_ ct t B _ Ht.out (by exact IsDts.keep (fun _ h => h) (fun b o hb => cell_two _ _ _ (Nat.lt_of_lt_of_le hb hB)) at_ t 0 Hts.out)).mono ?_; rintro e w' ⟨rfl, rfl⟩; rw [B5.out])
            go_ret
            exact ⟨rfl, bel2 _ _ _⟩
          · -- yes
            have B5 := Lib.hid b1
            clear b1
            go_enter Try.func60, Try.ntmps60
            go_wp2_with (go_at_call 67; refine (tail_any at_ ct t B _ Ht.out (by exact IsDts.keep (fun _ h => h) (fun b o hb => cell_two _ _ _ (Nat.lt_of_lt_of_le hb hB)) at_ t 0 Hts.out)).mono ?_; rintro e w' ⟨rfl, rfl⟩; rw [B5.out])
            go_ret
            exact ⟨rfl, bel2 _ _ _⟩
  · have b0 : decide (0 < (l.length : Int)) = false := by simp [h0]
    rw [b0]
    go_enter Try.func60, Try.ntmps60
    go_wp2_with (go_at_call 67; refine (tail_any at_ ct t B _ Ht.out (by exact IsDts.keep (fun _ h => h) (fun b o hb => cell_two _ _ _ (Nat.lt_of_lt_of_le hb hB)) at_ t 0 Hts.out)).mono ?_; rintro e w' ⟨rfl, rfl⟩; rw [B5.out])
    go_ret
    exact ⟨rfl, bel2 _ _ _⟩
set_option linter.unusedVariables false in
set_option maxHeartbeats 2000000 in
theorem proper_8 (n : Int) (s : ByteArray) (m : List Int) (l t : List Dt) (am : Option Addr) (cm : Nat) (al : Option Addr) (cl : Nat) (at_ : Option Addr) (ct : Nat) (B : Nat) (w : World) (hs : s.size ≤ maxLen) (hB : B ≤ w.heap.size)
    (hm : IntRow w (Lo B) am m.length cm m) (h2 : IsSl al l.length cl) (ht : IsSl at_ t.length ct) (hts : IsDts w (Lo B) at_ 0 t) :
    Calls Try.prog 60 #[.agg #[.int .i64 8, .int .i64 n, .string s, .slice am m.length cm, .slice al l.length cl, .slice at_ t.length ct]] w fun e w' => e = .returned (.bool ((n == 0) && s.toList.isEmpty && nil2 m.length t.length)) ∧ Below w.heap.size w w' := by
  have h1 : (m.length : Int) ≤ 17592186044416 := by have a := hm.2.1; have b := hm.2.2.2.1; omega
  have h3 : (l.length : Int) ≤ 17592186044416 := by have a := h2.1; have b := h2.2.2.1; omega
  have h4 : (t.length : Int) ≤ 17592186044416 := by have a := ht.1; have b := ht.2.2.1; omega
  have Hm := Lib.hid hm
  have Ht := Lib.hid ht
  have Hts := Lib.hid hts
  clear hm h2 ht hts
  cases b0 : (n == 0)
  · -- no
    go_enter Try.func60, Try.ntmps60
    go_wp2_with fail
    go_ret
    exact ⟨rfl, bel2 _ _ _⟩
  · -- yes
    cases b1 : (s.toList.isEmpty)
    · -- no
      go_enter Try.func60, Try.ntmps60
      go_wp2_with fail
      go_ret
      exact ⟨rfl, bel2 _ _ _⟩
    · -- yes
      unfold nil2
      cases b2 : ((m.length : Int) + (t.length : Int) == 0)
      · -- no
        go_enter Try.func60, Try.ntmps60
        go_wp2_with fail
        go_ret
        exact ⟨rfl, bel2 _ _ _⟩
      · -- yes
        go_enter Try.func60, Try.ntmps60
        go_wp2_with fail
        go_ret
        exact ⟨rfl, bel2 _ _ _⟩
theorem proper_no (k n : Int) (s : ByteArray) (am : Option Addr) (lm cm : Nat) (al : Option Addr) (ll cl : Nat) (at_ : Option Addr) (lt ct : Nat) (w : World) (d1 : (k == 1) = false) (d2 : (k == 2) = false) (d3 : (k == 3) = false) (d4 : (k == 4) = false) (d5 : (k == 5) = false) (d6 : (k == 6) = false) (d7 : (k == 7) = false) (d8 : (k == 8) = false) :
    Calls Try.prog 60 #[.agg #[.int .i64 k, .int .i64 n, .string s, .slice am lm cm, .slice al ll cl, .slice at_ lt ct]] w fun e w' => e = .returned (.bool false) ∧ Below w.heap.size w w' := by
  go_enter Try.func60, Try.ntmps60
  go_wp2
  go_ret
  exact ⟨rfl, bel2 _ _ _⟩

theorem proper_any (d : Dt) (v : Value) (B : Nat) (w : World) (h : IsDt w (Lo B) d v) (hB : B ≤ w.heap.size) :
    Calls Try.prog 60 #[v] w fun e w' => e = .returned (.bool (properB d)) ∧ Below w.heap.size w w' := by
  obtain ⟨am, cm, al, cl, at_, ct, rfl, h1, h2, hs, hm, hl, hls, ht, hts⟩ := h.open_
  unfold properB properOf
  by_cases c1 : d.K = 1
  · rw [c1]
    exact proper_1 d.N d.S d.M d.L d.T am cm al cl at_ ct B w hs hB hm hl ht hts
  rw [if_neg c1]
  by_cases c2 : d.K = 2
  · rw [c2]
    exact proper_2 d.N d.S d.M d.L d.T am cm al cl at_ ct B w hs hB hm hl ht hts
  rw [if_neg c2]
  by_cases c3 : d.K = 3
  · rw [c3]
    exact proper_3 d.N d.S d.M d.L d.T am cm al cl at_ ct B w hs hB hm hl ht hts
  rw [if_neg c3]
  by_cases c4 : d.K = 4
  · rw [c4]
    exact proper_4 d.N d.S d.M d.L d.T am cm al cl at_ ct B w hs hB hm hl ht hts
  rw [if_neg c4]
  by_cases c5 : d.K = 5
  · rw [c5]
    exact proper_5 d.N d.S d.M d.L d.T am cm al cl at_ ct B w hs hB hm hl ht hts
  rw [if_neg c5]
  by_cases c6 : d.K = 6
  · rw [c6]
    exact proper_6 d.N d.S d.M d.L d.T am cm al cl at_ ct B w hs hB hm hl ht hts
  rw [if_neg c6]
  by_cases c7 : d.K = 7
  · rw [c7]
    exact proper_7 d.N d.S d.M d.L d.T am cm al cl at_ ct B w hs hB hm hl ht hts
  rw [if_neg c7]
  by_cases c8 : d.K = 8
  · rw [c8]
    exact proper_8 d.N d.S d.M d.L d.T am cm al cl at_ ct B w hs hB hm hl ht hts
  rw [if_neg c8]
  exact proper_no d.K d.N d.S am _ cm al _ cl at_ _ ct w (beq_eq_false_iff_ne.2 c1) (beq_eq_false_iff_ne.2 c2) (beq_eq_false_iff_ne.2 c3) (beq_eq_false_iff_ne.2 c4) (beq_eq_false_iff_ne.2 c5) (beq_eq_false_iff_ne.2 c6) (beq_eq_false_iff_ne.2 c7) (beq_eq_false_iff_ne.2 c8)
end Go.Proofs.Yteolfkkabhileaa.Da
end
section
namespace Go.Proofs.Yteolfkkabhileaa.Da
open Go.ChangeShapes Go.WideShapes Go.ChangeAt Go.RowKit

/-- What is wrong with a node that c nodes stand ahead of. -/
def mErr (c : Nat) (d : Dt) (k : Nat) : Int := if 64 < k then 4 else if c = 4096 then 3 else if properB d = true then 0 else 20
/-- The three boxes: how many nodes, how deep, what is wrong. -/
structure Boxes (w : World) (b : Nat) (c dp : Nat) (e : Int) : Prop where
  lt : b + 2 < w.heap.size
  c0 : w.cell? ⟨b, 0, none⟩ = some (.int .i64 (c : Int))
  c1 : w.cell? ⟨b + 1, 0, none⟩ = some (.int .i64 (dp : Int))
  c2 : w.cell? ⟨b + 2, 0, none⟩ = some (.int .i64 e)
  f0 : w.frozen? ⟨b, 0, none⟩ = false
  f1 : w.frozen? ⟨b + 1, 0, none⟩ = false
  f2 : w.frozen? ⟨b + 2, 0, none⟩ = false
def Box3 (b : Nat) (i : Nat) : Prop := b ≤ i ∧ i ≤ b + 2
def SeePost (b c dp : Nat) (d : Dt) (k : Nat) (w : World) (e : Ending) (w' : World) : Prop :=
  e = .returned (.bool (mErr c d k == 0)) ∧ Fr (Box3 b) w w' ∧ Boxes w' b (c + 1) (max dp k) (mErr c d k)
theorem Boxes.keep {w w' : World} {b c dp : Nat} {e : Int} (h : Boxes w b c dp e) (hb : Below (b + 3) w w') : Boxes w' b c dp e :=
  ⟨Nat.lt_of_lt_of_le h.lt hb.size, (hb.cell (p := ⟨b, 0, none⟩) (by show b < b + 3; omega)).trans h.c0, (hb.cell (p := ⟨b + 1, 0, none⟩) (by show b + 1 < b + 3; omega)).trans h.c1, (hb.cell (p := ⟨b + 2, 0, none⟩) (by show b + 2 < b + 3; omega)).trans h.c2,
    (hb.frozen (p := ⟨b, 0, none⟩) (by show b < b + 3; omega)).trans h.f0, (hb.frozen (p := ⟨b + 1, 0, none⟩) (by show b + 1 < b + 3; omega)).trans h.f1, (hb.frozen (p := ⟨b + 2, 0, none⟩) (by show b + 2 < b + 3; omega)).trans h.f2⟩
theorem cell_set_ne (w : World) (p q : Nat) (u : Value) (h : q ≠ p) : (w.setCell ⟨p, 0, none⟩ u).cell? ⟨q, 0, none⟩ = w.cell? ⟨q, 0, none⟩ :=
  World.cell?_setCell_other w ⟨p, 0, none⟩ ⟨q, 0, none⟩ u (fun e => h (by cases e; rfl))
theorem cell_set_eq (w : World) (p : Nat) (u v : Value) (h : w.cell? ⟨p, 0, none⟩ = some v) : (w.setCell ⟨p, 0, none⟩ u).cell? ⟨p, 0, none⟩ = some u :=
  World.cell?_setCell_same' _ _ _ (by rw [h]; rfl)
theorem Boxes.set0 {w : World} {b c dp : Nat} {e : Int} (h : Boxes w b c dp e) (c' : Nat) : Boxes (w.setCell ⟨b, 0, none⟩ (.int .i64 (c' : Int))) b c' dp e :=
  ⟨by simpa [World.setCell] using h.lt, cell_set_eq _ _ _ _ h.c0, (cell_set_ne _ _ _ _ (by omega)).trans h.c1, (cell_set_ne _ _ _ _ (by omega)).trans h.c2,
    by rw [World.frozen?_setCell]; exact h.f0, by rw [World.frozen?_setCell]; exact h.f1, by rw [World.frozen?_setCell]; exact h.f2⟩
theorem Boxes.set1 {w : World} {b c dp : Nat} {e : Int} (h : Boxes w b c dp e) (dp' : Nat) : Boxes (w.setCell ⟨b + 1, 0, none⟩ (.int .i64 (dp' : Int))) b c dp' e :=
  ⟨by simpa [World.setCell] using h.lt, (cell_set_ne _ _ _ _ (by omega)).trans h.c0, cell_set_eq _ _ _ _ h.c1, (cell_set_ne _ _ _ _ (by omega)).trans h.c2,
    by rw [World.frozen?_setCell]; exact h.f0, by rw [World.frozen?_setCell]; exact h.f1, by rw [World.frozen?_setCell]; exact h.f2⟩
theorem Boxes.set2 {w : World} {b c dp : Nat} {e : Int} (h : Boxes w b c dp e) (e' : Int) : Boxes (w.setCell ⟨b + 2, 0, none⟩ (.int .i64 e')) b c dp e' :=
  ⟨by simpa [World.setCell] using h.lt, (cell_set_ne _ _ _ _ (by omega)).trans h.c0, (cell_set_ne _ _ _ _ (by omega)).trans h.c1, cell_set_eq _ _ _ _ h.c2,
    by rw [World.frozen?_setCell]; exact h.f0, by rw [World.frozen?_setCell]; exact h.f1, by rw [World.frozen?_setCell]; exact h.f2⟩
theorem Boxes.alloc {w : World} {b c dp : Nat} {e : Int} (h : Boxes w b c dp e) (o : Obj) : Boxes (w.alloc o) b c dp e :=
  h.keep ((Below.refl _ _).alloc (by have := h.lt; omega) o)
theorem box3_0 (b : Nat) : Box3 b b := ⟨by omega, by omega⟩
theorem box3_1 (b : Nat) : Box3 b (b + 1) := ⟨by omega, by omega⟩
theorem box3_2 (b : Nat) : Box3 b (b + 2) := ⟨by omega, by omega⟩
theorem max_cast (a b : Nat) : (max (a : Int) (b : Int)) = ((max a b : Nat) : Int) := by omega
/-- Behind a wrong node. -/
theorem see_bad {w w1 : World} {b c dp : Nat} {e : Int} (k : Nat) (h : Boxes w1 b c dp e) (hf : Fr (Box3 b) w w1) :
    Fr (Box3 b) w ((w1.setCell ⟨b, 0, none⟩ (.int .i64 ((c : Int) + 1))).setCell ⟨b + 1, 0, none⟩ (.int .i64 (max (dp : Int) (k : Int)))) ∧
    Boxes ((w1.setCell ⟨b, 0, none⟩ (.int .i64 ((c : Int) + 1))).setCell ⟨b + 1, 0, none⟩ (.int .i64 (max (dp : Int) (k : Int)))) b (c + 1) (max dp k) e := by
  refine ⟨(hf.setCell (.inl (box3_0 b)) _).setCell (.inl (box3_1 b)) _, ?_⟩
  rw [max_cast]
  exact (h.set0 (c + 1)).set1 (max dp k)
theorem see_end {w w1 : World} {b c dp : Nat} {d : Dt} {k : Nat} {e : Int} (he : mErr c d k = e) (h : Boxes w1 b c dp e) (hf : Fr (Box3 b) w w1) (z : Bool) (hz : (e == 0) = z) :
    SeePost b c dp d k w (.returned (.bool z)) ((w1.setCell ⟨b, 0, none⟩ (.int .i64 ((c : Int) + 1))).setCell ⟨b + 1, 0, none⟩ (.int .i64 (max (dp : Int) (k : Int)))) := by
  obtain ⟨h1, h2⟩ := see_bad k h hf
  exact ⟨by rw [he, hz], h1, by rw [he]; exact h2⟩
theorem see_post_alloc {w w1 : World} {b c dp : Nat} {d : Dt} {k : Nat} {e : Ending} (o : Obj) (h : SeePost b c dp d k w e w1) : SeePost b c dp d k w e (w1.alloc o) :=
  ⟨h.1, h.2.1.alloc o, h.2.2.alloc o⟩
set_option maxHeartbeats 1000000 in
theorem see_any (d : Dt) (v : Value) (B b c dp k : Nat) (w : World) (h : IsDt w (Lo B) d v) (hB : B ≤ w.heap.size) (hx : Boxes w b c dp 0) (hc : c ≤ 4096) (hk : k ≤ 1000) :
    Calls Try.prog 59 #[v, .int .i64 (k : Int), .pointer (some ⟨b + 2, 0, none⟩), .pointer (some ⟨b, 0, none⟩), .pointer (some ⟨b + 1, 0, none⟩)] w (SeePost b c dp d k w) := by
  have h' := h
  obtain ⟨am, cm, al, cl, at_, ct, rfl, _⟩ := h'.open_
  have H := Lib.hid h
  have HX := Lib.hid hx
  obtain ⟨hlt, c0, c1, c2, f0, f1, f2⟩ := hx
  clear h
  have hb0 : b < w.heap.size := by omega
  have hb1 : b + 1 < w.heap.size := by omega
  by_cases k1 : 64 < (k : Int)
  · have d1 : decide (64 < (k : Int)) = true := by simp [k1]
    have he : mErr c d k = 4 := by unfold mErr; rw [if_pos (by omega)]
    have He := Lib.hid he
    clear he
    go_enter Try.func59, Try.ntmps59
    go_wp2_with fail
    go_ret
    exact see_post_alloc _ (see_end He.out (HX.out.set2 4) ((Fr.refl _ _).setCell (.inl (box3_2 b)) _) _ rfl)
  · have d1 : decide (64 < (k : Int)) = false := by simp [k1]
    by_cases k2 : c = 4096
    · have d2 : ((c : Int) == 4096) = true := by rw [beq_iff_eq]; omega
      have he : mErr c d k = 3 := by unfold mErr; rw [if_neg (by omega), if_pos k2]
      have He := Lib.hid he
      clear he k2
      go_enter Try.func59, Try.ntmps59
      go_wp2_with fail
      go_ret
      exact see_post_alloc _ (see_end He.out (HX.out.set2 3) ((Fr.refl _ _).setCell (.inl (box3_2 b)) _) _ rfl)
    · have d2 : ((c : Int) == 4096) = false := by rw [beq_eq_false_iff_ne]; omega
      cases hp : properB d
      · have he : mErr c d k = 20 := by unfold mErr; rw [if_neg (by omega), if_neg k2, hp]; rfl
        have He := Lib.hid he
        have HP := Lib.hid hp
        clear he k2 hp
        go_enter Try.func59, Try.ntmps59
        go_wp2_with fail
        refine (proper_any d _ B _ (by exact H.out.below ((Below.refl _ _).alloc hB _)) (by exact Nat.le_trans hB (by simp))).mono ?_
        rintro e w1 ⟨rfl, hb⟩
        rw [HP.out]
        have hX1 := (HX.out.alloc _).keep (hb.mono (by simp; omega))
        have HX1 := Lib.hid hX1
        have HF := Lib.hid (((Fr.refl (Box3 b) w).alloc _).trans (Fr.of_bel hb (Box3 b)))
        obtain ⟨_, c10, c11, c12, f10, f11, f12⟩ := hX1
        clear hb c0 c1 c2 f0 f1 f2
        go_wp2_with fail
        go_ret
        exact see_end He.out (HX1.out.set2 20) (HF.out.setCell (.inl (box3_2 b)) _) _ rfl
      · have he : mErr c d k = 0 := by unfold mErr; rw [if_neg (by omega), if_neg k2, hp]; rfl
        have He := Lib.hid he
        have HP := Lib.hid hp
        clear he k2 hp
        go_enter Try.func59, Try.ntmps59
        go_wp2_with fail
        refine (proper_any d _ B _ (by exact H.out.below ((Below.refl _ _).alloc hB _)) (by exact Nat.le_trans hB (by simp))).mono ?_
        rintro e w1 ⟨rfl, hb⟩
        rw [HP.out]
        have hX1 := (HX.out.alloc _).keep (hb.mono (by simp; omega))
        have HX1 := Lib.hid hX1
        have HF := Lib.hid (((Fr.refl (Box3 b) w).alloc _).trans (Fr.of_bel hb (Box3 b)))
        obtain ⟨_, c10, c11, c12, f10, f11, f12⟩ := hX1
        clear hb c0 c1 c2 f0 f1 f2
        go_wp2_with fail
        go_ret
        exact see_end He.out HX1.out HF.out _ rfl
end Go.Proofs.Yteolfkkabhileaa.Da
end
section
namespace Go.Proofs.Yteolfkkabhileaa.Da
open Go.ChangeShapes Go.WideShapes Go.ChangeAt Go.RowKit

mutual
/-- The nodes, each with its depth. -/
def nodes : Dt → Nat → List (Dt × Nat)
  | .mk k n s m l t, i => (.mk k n s m l t, i) :: (nodesL l (i + 1) ++ nodesL t (i + 1))
def nodesL : List Dt → Nat → List (Dt × Nat)
  | [], _ => []
  | d :: r, i => nodes d i ++ nodesL r i
end
theorem nodes_eq (d : Dt) (i : Nat) : nodes d i = (d, i) :: (nodesL d.L (i + 1) ++ nodesL d.T (i + 1)) := by
  cases d; simp only [nodes, Dt.L, Dt.T]
theorem nodesL_cons (d : Dt) (r : List Dt) (i : Nat) : nodesL (d :: r) i = nodes d i ++ nodesL r i := by simp only [nodesL]
theorem nodesL_nil (i : Nat) : nodesL [] i = [] := by simp only [nodesL]
theorem nodesL_append (a b : List Dt) (i : Nat) : nodesL (a ++ b) i = nodesL a i ++ nodesL b i := by
  induction a with
  | nil => simp [nodesL_nil]
  | cons x r ih => simp [nodesL_cons, ih]
theorem nodesL_snoc (l : List Dt) (k i : Nat) (d : Dt) (h : l[k]? = some d) : nodesL (l.take (k + 1)) i = nodesL (l.take k) i ++ nodes d i := by
  rw [List.take_add_one, h, nodesL_append]
  simp [nodesL_cons, nodesL_nil]

/-- All went on, or one of them ended it. -/
def VisPost (S : Nat → Prop) (J Jx : List (Dt × Nat) → World → Prop) (pre ns : List (Dt × Nat)) (w : World) (e : Ending) (w' : World) : Prop :=
  Fr S w w' ∧ ((e = .returned (.bool true) ∧ J (pre ++ ns) w') ∨ (e = .returned (.bool false) ∧ ∃ q, q <+: ns ∧ Jx (pre ++ q) w'))
/-- What is asked of that which is done at each node. -/
structure SeeIs (fS : FuncId) (ar : Value → Value → Array Value) (S : Nat → Prop) (B bs : Nat) (N : Dt × Nat → Prop) (J Jx : List (Dt × Nat) → World → Prop) : Prop where
  s : ∀ i, S i → B ≤ i ∧ i < bs
  b : B ≤ bs
  j : ∀ pre w w', J pre w → Below w.heap.size w w' → J pre w'
  jx : ∀ pre w w', Jx pre w → Below w.heap.size w w' → Jx pre w'
  step : ∀ pre d k v w, N (d, k) → k ≤ 1000 → J pre w → B ≤ w.heap.size → bs < w.heap.size → IsDt w (Lo B) d v →
    Calls Try.prog fS (ar v (.int .i64 (k : Int))) w fun e w' => VisPost S J Jx pre [(d, k)] w e w' ∧ (e = .returned (.bool true) → k ≤ 64)

/-- The elements of the first j of the two lists. -/
def pieces (l t : List Dt) : Nat → List Dt | 0 => [] | 1 => l | _ => l ++ t
theorem pieces_all (dd : Dt) (l t : List Dt) (k : Nat) (hL : dd.L = l) (hT : dd.T = t) : (dd, k) :: nodesL (pieces l t 2) (k + 1) = nodes dd k := by
  rw [nodes_eq, hL, hT]; simp [pieces, nodesL_append]
theorem mem_nodesL {x : List Dt} {d : Dt} {i : Nat} {y : Dt × Nat} (hd : d ∈ x) (hy : y ∈ nodes d i) : y ∈ nodesL x i := by
  induction x with
  | nil => cases hd
  | cons a r ih =>
    rw [nodesL_cons, List.mem_append]
    rcases List.mem_cons.1 hd with rfl | hd
    · exact .inl hy
    · exact .inr (ih hd)
theorem mem_nodes {l t x : List Dt} {dd d : Dt} {k i : Nat} {y : Dt × Nat} (hx : x = l ∨ x = t) (hd : d ∈ x) (hy : y ∈ nodes d i) : y ∈ (dd, k) :: (nodesL l i ++ nodesL t i) := by
  rcases hx with rfl | rfl
  · simp [mem_nodesL hd hy]
  · simp [mem_nodesL hd hy]
/-- A loop's state: so many pieces have been done. -/
def VisAt (S : Nat → Prop) (J : List (Dt × Nat) → World → Prop) (pre : List (Dt × Nat)) (dd : Dt) (k : Nat) (_from : List (Dt × Nat)) (done : Nat → List (Dt × Nat)) (n : Nat) (W1 : World) (i : Value) (wr : World) : Prop :=
  ∃ j : Nat, j ≤ n ∧ i = .int .i64 (j : Int) ∧ Fr S W1 wr ∧ J (pre ++ (dd, k) :: done j) wr
theorem pieces_pref (l t : List Dt) (j : Nat) (h : j ≤ 2) : ∃ r, pieces l t 2 = pieces l t j ++ r := by
  match j, h with
  | 0, _ => exact ⟨l ++ t, by simp [pieces]⟩
  | 1, _ => exact ⟨t, by simp [pieces]⟩
  | 2, _ => exact ⟨[], by simp [pieces]⟩
theorem pref_piece {dd xi : Dt} {l t x : List Dt} {j k i : Nat} {q : List (Dt × Nat)} (hall : (dd, k) :: nodesL (pieces l t 2) (k + 1) = nodes dd k) (hpc : pieces l t (j + 1) = pieces l t j ++ x) (hj : j < 2)
    (hxi : x[i]? = some xi) (hq : q <+: nodes xi (k + 1)) : (dd, k) :: (nodesL (pieces l t j) (k + 1) ++ nodesL (x.take i) (k + 1) ++ q) <+: nodes dd k := by
  obtain ⟨r, hr⟩ := pieces_pref l t (j + 1) (by omega)
  obtain ⟨q', hq'⟩ := hq
  have e1 : nodesL x (k + 1) = nodesL (x.take i) (k + 1) ++ nodes xi (k + 1) ++ nodesL (x.drop (i + 1)) (k + 1) := by
    have hlt : i < x.length := by
      rcases Nat.lt_or_ge i x.length with h | h
      · exact h
      · rw [List.getElem?_eq_none h] at hxi; cases hxi
    rw [← nodesL_snoc x i (k + 1) xi hxi, ← nodesL_append, List.take_append_drop]
  refine ⟨q' ++ nodesL (x.drop (i + 1)) (k + 1) ++ nodesL r (k + 1), ?_⟩
  rw [← hall, hr, hpc, nodesL_append, nodesL_append, e1, ← hq']
  simp [List.append_assoc]
/-- What a visit of a datum does. -/
def Vvisit_measure (b : Nat) (S : Nat → Prop) (B bs : Nat) (N : Dt × Nat → Prop) (J Jx : List (Dt × Nat) → World → Prop) (d : Dt) : Prop :=
    ∀ (k : Nat) (kI : Int) (v : Value) (pre : List (Dt × Nat)) (w : World), kI = (k : Int) → (∀ x ∈ nodes d k, N x) → k ≤ 66 → J pre w → IsDt w (Lo B) d v →
    w.cell? ⟨bs, 0, none⟩ = some (.func (.func 59) #[] #[.pointer (some ⟨b + 2, 0, none⟩), .pointer (some ⟨b, 0, none⟩), .pointer (some ⟨b + 1, 0, none⟩)]) → w.cell? ⟨bs + 1, 0, none⟩ = some (.func (.func 62) #[] #[.pointer (some ⟨bs, 0, none⟩), .pointer (some ⟨bs + 1, 0, none⟩)]) → bs + 1 < w.heap.size →
    Calls Try.prog 62 #[v, .int .i64 kI, .pointer (some ⟨bs, 0, none⟩), .pointer (some ⟨bs + 1, 0, none⟩)] w (VisPost S J Jx pre (nodes d k) w)
set_option maxHeartbeats 1000000 in
theorem visit_measure (b : Nat) (S : Nat → Prop) (B bs : Nat) (N : Dt × Nat → Prop) (J Jx : List (Dt × Nat) → World → Prop) (hS : SeeIs 59 (fun x y => #[x, y, .pointer (some ⟨b + 2, 0, none⟩), .pointer (some ⟨b, 0, none⟩), .pointer (some ⟨b + 1, 0, none⟩)]) S B bs N J Jx) (d : Dt) : Vvisit_measure b S B bs N J Jx d := by
  induction d using Dt.ind with | h kk n s m l t ihl iht =>
  intro k kI v pre w hkI hN hk hj hd cs cv hsz
  subst hkI
  have hd' := hd
  obtain ⟨am, cm, al, cl, at_, ct, rfl, _, _, _, _, hl, hls, ht, hts⟩ := hd'.open_
  obtain ⟨dd, hdd⟩ : ∃ dd, Dt.mk kk n s m l t = dd := ⟨_, rfl⟩
  have hL : dd.L = l := by rw [← hdd]; rfl
  have hT : dd.T = t := by rw [← hdd]; rfl
  rw [hdd] at hN hd hl hls ht hts hd' ⊢
  rw [hL] at hl hls hd ⊢
  rw [hT] at ht hts hd ⊢
  have hpc := pieces_all dd l t k hL hT
  have hpN : ∀ (x : List Dt) (d : Dt), (x = l ∨ x = t) → d ∈ x → ∀ y ∈ nodes d (k + 1), N y := fun x d hx hd y hy => hN y (by rw [nodes_eq, hL, hT]; exact mem_nodes hx hd hy)
  have HPC := Lib.hid hpc
  have HPN := Lib.hid hpN
  have HS := Lib.hid hS
  have HN := Lib.hid hN
  have Hj := Lib.hid hj
  have HD := Lib.hid hd
  have Ihl := Lib.hid ihl
  have Iht := Lib.hid iht
  have Hl := Lib.hid hl
  have Hls := Lib.hid hls
  have Ht := Lib.hid ht
  have Hts := Lib.hid hts
  clear hS hN hj hd hd' ihl iht hl hls ht hts hL hT hdd hpc hpN
  have hbs : bs < w.heap.size := by omega
  have hBw : B ≤ w.heap.size := Nat.le_trans HS.out.b (by omega)
  have HCV := Lib.hid cv
  have HCS := Lib.hid cs
  go_enter Try.func62, Try.ntmps62
  go_wp2_with fail
  refine (HS.out.step pre dd k _ _ (by exact HN.out _ (by rw [nodes_eq]; simp)) (by omega) (by exact HS.out.j _ _ _ Hj.out (bel_alloc _ _)) (by simp; omega) (by simp; omega) (by exact HD.out.below ((Below.refl _ _).alloc hBw _))).mono ?_
  rintro e w1 ⟨⟨hf, hres⟩, hk64⟩
  have hnS : ∀ i, bs ≤ i → ¬ S i := fun i hi hs => by have := HS.out.s i hs; omega
  have hfw : Fr S w w1 := ((Fr.refl S w).alloc _).trans hf
  rcases hres with ⟨rfl, hj1⟩ | ⟨rfl, q, hq, hjx⟩
  · have hk : k ≤ 64 := hk64 rfl
    have hx4 : w1.cell? ⟨w.heap.size, 4, none⟩ = some (.slice al l.length cl) := (hf.cell (p := ⟨w.heap.size, 4, none⟩) (by simp) (hnS _ (by show bs ≤ w.heap.size; omega))).trans (by simp [go_sem])
    have hx5 : w1.cell? ⟨w.heap.size, 5, none⟩ = some (.slice at_ t.length ct) := (hf.cell (p := ⟨w.heap.size, 5, none⟩) (by simp) (hnS _ (by show bs ≤ w.heap.size; omega))).trans (by simp [go_sem])
    have Hj1 := Lib.hid hj1
    have Hfw := Lib.hid hfw
    have HnS := Lib.hid hnS
    clear hj1 hfw hf hnS hk64
    go_wp2_with fail
    have hq0 : (w1.alloc (.cells #[.slice al l.length cl, .slice at_ t.length ct] 31)).cell? ⟨w1.heap.size, 0, none⟩ = some (.slice al l.length cl) := by simp [go_sem]
    have hq1 : (w1.alloc (.cells #[.slice al l.length cl, .slice at_ t.length ct] 31)).cell? ⟨w1.heap.size, 1, none⟩ = some (.slice at_ t.length ct) := by simp [go_sem]
    have hj2 : J (pre ++ [(dd, k)]) (w1.alloc (.cells #[.slice al l.length cl, .slice at_ t.length ct] 31)) := HS.out.j _ _ _ Hj1.out (bel_alloc _ _)
    have hf2 := Hfw.out.alloc (.cells #[.slice al l.length cl, .slice at_ t.length ct] 31)
    have hbq : w1.heap.size < (w1.alloc (.cells #[.slice al l.length cl, .slice at_ t.length ct] 31)).heap.size := by simp
    have hsq := Hfw.out.size
    obtain ⟨W1, hW1⟩ : ∃ W1, w1.alloc (.cells #[.slice al l.length cl, .slice at_ t.length ct] 31) = W1 := ⟨_, rfl⟩
    rw [hW1] at hq0 hq1 hj2 hf2 hbq
    rw [hW1]
    obtain ⟨bq, hbqe⟩ : ∃ bq, w1.heap.size = bq := ⟨_, rfl⟩
    rw [hbqe] at hq0 hq1 hbq hsq
    rw [hbqe]
    have hcol : ∀ j, j < 2 → ∃ ax x cx, W1.cell? ⟨bq, j, none⟩ = some (.slice ax x.length cx) ∧ IsSl ax x.length cx ∧ IsDts w (Lo B) ax 0 x ∧ (∀ d ∈ x, Vvisit_measure b S B bs N J Jx d) ∧ pieces l t (j + 1) = pieces l t j ++ x ∧ (x = l ∨ x = t) := by
      intro j hj
      match j, hj with
      | 0, _ => exact ⟨al, l, cl, hq0, Hl.out, Hls.out, Ihl.out, by simp [pieces], .inl rfl⟩
      | 1, _ => exact ⟨at_, t, ct, hq1, Ht.out, Hts.out, Iht.out, by simp [pieces], .inr rfl⟩
    have Hcol := Lib.hid hcol
    have Hj2 := Lib.hid hj2
    have Hf2 := Lib.hid hf2
    clear hcol hj2 hf2 hq0 hq1 hx4 hx5 hW1 hbqe Hj1 cs cv
    go_loopw [22] (fun i wr => VisAt S J pre dd k (nodesL (pieces l t 0) (k + 1)) (fun j => nodesL (pieces l t j) (k + 1)) 2 W1 i wr) (fun i _ => 2 - (intOf i).toNat)
    case atStart => exact ⟨0, by omega, rfl, Fr.refl _ _, by simpa [pieces, nodesL_nil] using Hj2.out⟩
    case round =>
      obtain ⟨j, hj, rfl, hfr, hjr⟩ := hrel
      have Hfr := Lib.hid hfr
      have Hjr := Lib.hid hjr
      clear hfr hjr
      by_cases hlt : j < 2
      · obtain ⟨ax, x, cx, hcell, hsl, hds, ih, hpc, hxx⟩ := Hcol.out j hlt
        have hcell' : wr.cell? ⟨bq, j, none⟩ = some (.slice ax x.length cx) := (Hfr.out.cell (p := ⟨bq, j, none⟩) hbq (HnS.out _ (by show bs ≤ bq; omega))).trans hcell
        have dl : decide ((j : Int) < 2) = true := by simp; omega
        have Hpc := Lib.hid hpc
        have Hds := Lib.hid hds
        have Ih := Lib.hid ih
        have Hxx := Lib.hid hxx
        obtain ⟨hs1, hs2, _, _⟩ := hsl
        unfold maxLen at hs2
        clear hcell hpc hds ih hxx
        obtain ⟨wo, rfl⟩ : ∃ wo : World, wo = wr := ⟨_, rfl⟩
        go_wp2_with fail
        go_loopw [28] (fun i wr => VisAt S J pre dd k (nodesL (pieces l t j) (k + 1)) (fun i => nodesL (pieces l t j) (k + 1) ++ nodesL (x.take i) (k + 1)) x.length W1 i wr) (fun i _ => x.length - (intOf i).toNat)
        case atStart => exact ⟨0, by omega, rfl, Hfr.out, by simpa [nodesL_nil] using Hjr.out⟩
        case round =>
          obtain ⟨i, hi, rfl, hfi, hji⟩ := hrel
          by_cases hlx : i < x.length
          · have dx : decide ((i : Int) < (x.length : Int)) = true := by simp [hlx]
            obtain ⟨xi, hxi⟩ : ∃ xi, x[i]? = some xi := ⟨x[i], by simp [hlx]⟩
            obtain ⟨b', off, am', cm', al', cl', at', ct', rfl, hb', hsix, hdi⟩ := Hds.out.at6 i xi hxi
            have Hxi := Lib.hid hxi
            clear hxi
            have hall : Fr S w wr := Hf2.out.trans hfi
            have hbel : Below B w wr := hall.below hBw (fun y hy hs => by have := (HS.out.s y hs).1; omega)
            obtain ⟨c0, c1, c2, c3, c4, c5⟩ := hsix.keep (w' := wr) (fun o => hbel.cell (p := ⟨b', o, none⟩) hb')
            have cvr : wr.cell? ⟨bs + 1, 0, none⟩ = some (.func (.func 62) #[] #[.pointer (some ⟨bs, 0, none⟩), .pointer (some ⟨bs + 1, 0, none⟩)]) := (hall.cell (p := ⟨bs + 1, 0, none⟩) hsz (HnS.out _ (by show bs ≤ bs + 1; omega))).trans HCV.out
            have Hfi := Lib.hid hfi
            have Hji := Lib.hid hji
            have Hall := Lib.hid hall
            have Hbel := Lib.hid hbel
            have Hdi := Lib.hid hdi
            have hsr : bs + 1 < wr.heap.size := by have := Hall.out.size; omega
            clear hfi hji hall hbel hdi hsix
            go_wp2_with fail
            refine (Ih.out xi (by exact List.mem_of_getElem? Hxi.out) (k + 1) _ _ (pre ++ (dd, k) :: (nodesL (pieces l t j) (k + 1) ++ nodesL (x.take i) (k + 1))) _ (by omega) (by exact HPN.out x xi Hxx.out (List.mem_of_getElem? Hxi.out)) (by omega) (by exact HS.out.j _ _ _ Hji.out (bel_alloc _ _)) (by exact Hdi.out.below (Hbel.out.alloc (Nat.le_trans hBw Hall.out.size) _))
              (by exact ((Hall.out.alloc _).cell (p := ⟨bs, 0, none⟩) hbs (HnS.out _ (Nat.le_refl _))).trans HCS.out) (by exact ((Hall.out.alloc _).cell (p := ⟨bs + 1, 0, none⟩) hsz (HnS.out _ (by show bs ≤ bs + 1; omega))).trans HCV.out) (by simp; omega)).mono ?_
            rintro e w2 ⟨hf3, ⟨rfl, hj3⟩ | ⟨rfl, q, hq, hj3⟩⟩
            · have Hf3 := Lib.hid hf3
              have Hj3 := Lib.hid hj3
              clear hf3 hj3 cvr c0 c1 c2 c3 c4 c5
              go_wp2_with fail
              go_roundw
              case rel => exact ⟨i + 1, by omega, by go_num, (Hfi.out.alloc _).trans Hf3.out, by have h3 := Hj3.out; dsimp only; rw [nodesL_snoc x i (k + 1) xi Hxi.out]; simpa using h3⟩
              case measure => simp [intOf]; omega
            · have Hf3 := Lib.hid hf3
              have Hj3 := Lib.hid (And.intro hq hj3)
              clear hf3 hj3 hq cvr c0 c1 c2 c3 c4 c5
              go_wp2_with fail
              go_ret
              exact ⟨((Hf2.out.trans Hfi.out).alloc _).trans Hf3.out, .inr ⟨rfl, _, pref_piece HPC.out Hpc.out hlt Hxi.out Hj3.out.1, by simpa [List.append_assoc] using Hj3.out.2⟩⟩
          · have dx : decide ((i : Int) < (x.length : Int)) = false := by simp [hlx]
            have hjn : J (pre ++ (dd, k) :: nodesL (pieces l t (j + 1)) (k + 1)) wr := by
              rw [Hpc.out, nodesL_append]
              dsimp only at hji
              rw [List.take_of_length_le (by omega)] at hji
              exact hji
            have Hfi := Lib.hid hfi
            have Hjn := Lib.hid hjn
            clear hfi hji hjn
            go_wp2_with fail
            go_roundw
            case rel => exact ⟨j + 1, by omega, by go_num, Hfi.out, Hjn.out⟩
            case measure => simp [intOf]; omega
      · obtain rfl : j = 2 := by omega
        go_wp2_with fail
        go_ret
        exact ⟨Hf2.out.trans Hfr.out, .inl ⟨rfl, by have h2 := Hjr.out; rw [HPC.out] at h2; exact h2⟩⟩
  · have Hfw := Lib.hid hfw
    have Hjx := Lib.hid hjx
    have Hq := Lib.hid hq
    clear hfw hf hjx hq hnS hk64
    go_wp2_with fail
    go_ret
    exact ⟨Hfw.out, .inr ⟨rfl, q, Hq.out.trans ⟨nodesL (pieces l t 2) (k + 1), HPC.out⟩, Hjx.out⟩⟩
end Go.Proofs.Yteolfkkabhileaa.Da
end
section
namespace Go.Proofs.Yteolfkkabhileaa.Da
open Go.ChangeShapes Go.WideShapes Go.ChangeAt Go.RowKit

/-- What is wrong with the first wrong node, c nodes being ahead of all. -/
def errOf : Nat → List (Dt × Nat) → Int
  | _, [] => 0
  | c, x :: r => if mErr c x.1 x.2 = 0 then errOf (c + 1) r else mErr c x.1 x.2
def maxD (l : List (Dt × Nat)) : Nat := l.foldl (fun a x => max a x.2) 0
theorem maxD_snoc (l : List (Dt × Nat)) (d : Dt) (k : Nat) : maxD (l ++ [(d, k)]) = max (maxD l) k := by simp [maxD]
theorem errOf_append (a b : List (Dt × Nat)) : ∀ c, errOf c (a ++ b) = if errOf c a = 0 then errOf (c + a.length) b else errOf c a := by
  induction a with
  | nil => intro c; simp [errOf]
  | cons x r ih =>
    intro c
    by_cases h : mErr c x.1 x.2 = 0
    · simp only [List.cons_append, errOf, h, if_true, List.length_cons]
      rw [ih (c + 1), show c + 1 + r.length = c + (r.length + 1) by omega]
    · simp only [List.cons_append, errOf, h, if_false]
theorem errOf_prefix {q l : List (Dt × Nat)} {c : Nat} (h : q <+: l) (he : errOf c q ≠ 0) : errOf c l = errOf c q := by
  obtain ⟨r, rfl⟩ := h
  rw [errOf_append, if_neg he]
theorem mErr_zero {c : Nat} {d : Dt} {k : Nat} (h : mErr c d k = 0) : k ≤ 64 ∧ c ≠ 4096 ∧ properB d = true := by
  unfold mErr at h
  by_cases h1 : 64 < k
  · rw [if_pos h1] at h; omega
  · by_cases h2 : c = 4096
    · rw [if_neg h1, if_pos h2] at h; omega
    · by_cases h3 : properB d = true
      · exact ⟨by omega, h2, h3⟩
      · rw [if_neg h1, if_neg h2, if_neg h3] at h; omega
def MJ (b : Nat) (pre : List (Dt × Nat)) (w : World) : Prop := Boxes w b pre.length (maxD pre) 0 ∧ errOf 0 pre = 0 ∧ pre.length ≤ 4096
def MJx (b : Nat) (q : List (Dt × Nat)) (w : World) : Prop := ∃ c dp, Boxes w b c dp (errOf 0 q) ∧ errOf 0 q ≠ 0
theorem seeIs_measure (B b bs : Nat) (hB : B ≤ b) (hb : b + 2 < bs) : SeeIs 59 (fun x y => #[x, y, .pointer (some ⟨b + 2, 0, none⟩), .pointer (some ⟨b, 0, none⟩), .pointer (some ⟨b + 1, 0, none⟩)]) (Box3 b) B bs (fun _ => True) (MJ b) (MJx b) where
  s i hi := ⟨by have := hi.1; omega, by have := hi.2; omega⟩
  b := by omega
  j pre w w' h hbel := ⟨h.1.keep (hbel.mono (by have := h.1.lt; omega)), h.2⟩
  jx pre w w' h hbel := by
    obtain ⟨c, dp, h1, h2⟩ := h
    exact ⟨c, dp, h1.keep (hbel.mono (by have := h1.lt; omega)), h2⟩
  step pre d k v w _ hk hj hBw hbw hd := by
    obtain ⟨hx, he, hl⟩ := hj
    refine (see_any d v B b pre.length (maxD pre) k w hd hBw hx hl hk).mono ?_
    rintro e w' ⟨rfl, hf, hbx⟩
    have hs : errOf 0 (pre ++ [(d, k)]) = mErr pre.length d k := by
      rw [errOf_append, if_pos he]
      simp only [errOf, Nat.zero_add]
      by_cases h : mErr pre.length d k = 0
      · rw [if_pos h, h]
      · rw [if_neg h]
    by_cases h : mErr pre.length d k = 0
    · have hz := mErr_zero h
      refine ⟨⟨hf, .inl ⟨by rw [h]; rfl, ?_, by rw [hs, h], ?_⟩⟩, fun _ => hz.1⟩
      · rw [maxD_snoc, List.length_append]
        rw [h] at hbx
        exact hbx
      · rw [List.length_append]
        show pre.length + 1 ≤ 4096
        have := hz.2.1
        omega
    · have hne : (mErr pre.length d k == 0) = false := by rw [beq_eq_false_iff_ne]; exact h
      refine ⟨⟨hf, .inr ⟨by rw [hne], [(d, k)], List.prefix_refl _, _, _, by rw [hs]; exact hbx, by rw [hs]; exact h⟩⟩, fun hh => ?_⟩
      rw [hne] at hh
      cases hh
def WalkPost (b : Nat) (d : Dt) (w : World) (e : Ending) (w' : World) : Prop := (∃ v, e = .returned v) ∧ Fr (Box3 b) w w' ∧ (MJ b (nodes d 1) w' ∨ ∃ q, q <+: nodes d 1 ∧ MJx b q w')
theorem walk_measure (B b : Nat) (d : Dt) (v : Value) (w : World) (hd : IsDt w (Lo B) d v) (hB : B ≤ b) (hx : Boxes w b 0 0 0) :
    Calls Try.prog 58 #[v, .func (.func 59) #[] #[.pointer (some ⟨b + 2, 0, none⟩), .pointer (some ⟨b, 0, none⟩), .pointer (some ⟨b + 1, 0, none⟩)]] w (WalkPost b d w) := by
  have hd' := hd
  obtain ⟨am, cm, al, cl, at_, ct, rfl, _⟩ := hd'.open_
  have hlt := hx.lt
  have HD := Lib.hid hd
  have HX := Lib.hid hx
  clear hd hd' hx
  go_enter Try.func58, Try.ntmps58
  go_wp2_with fail
  have hbel : Below w.heap.size w (((w.alloc (.cells #[.int .i64 d.K, .int .i64 d.N, .string d.S, .slice am d.M.length cm, .slice al d.L.length cl, .slice at_ d.T.length ct] 33)).alloc (.cells #[.func (.func 59) #[] #[.pointer (some ⟨b + 2, 0, none⟩), .pointer (some ⟨b, 0, none⟩), .pointer (some ⟨b + 1, 0, none⟩)]] 116)).alloc
      (.cells #[.func (.func 62) #[] #[.pointer (some ⟨w.heap.size + 1, 0, none⟩), .pointer (some ⟨w.heap.size + 1 + 1, 0, none⟩)]] 116)) := (((Below.refl _ _).alloc (Nat.le_refl _) _).alloc (by simp) _).alloc (by simp; omega) _
  refine (visit_measure b (Box3 b) B (w.heap.size + 1) (fun _ => True) (MJ b) (MJx b) (seeIs_measure B b _ hB (by omega)) d 1 1 _ [] _ rfl (fun _ _ => trivial) (by omega) (by exact ⟨HX.out.keep (hbel.mono (by omega)), rfl, by simp⟩) (by exact HD.out.below (hbel.mono (by omega)))
    (by simp [go_sem]) (by simp [go_sem]) (by simp)).mono ?_
  have HF := Lib.hid (Fr.of_bel hbel (Box3 b))
  rintro e w2 ⟨hf, ⟨rfl, hj⟩ | ⟨rfl, q, hq, hjx⟩⟩
  · have HR := Lib.hid (And.intro (HF.out.trans hf) hj)
    clear hf hj hbel
    go_wp2_with fail
    go_end0
    exact ⟨⟨_, rfl⟩, HR.out.1, .inl HR.out.2⟩
  · have HR := Lib.hid (And.intro (HF.out.trans hf) (And.intro hq hjx))
    clear hf hq hjx hbel
    go_wp2_with fail
    go_end0
    exact ⟨⟨_, rfl⟩, HR.out.1, .inr ⟨q, HR.out.2.1, HR.out.2.2⟩⟩
/-- How many nodes, how deep, what is wrong. -/
def meas (d : Dt) : Int × Int × Int := if errOf 0 (nodes d 1) = 0 then (((nodes d 1).length : Int), (maxD (nodes d 1) : Int), 0) else (0, 0, errOf 0 (nodes d 1))
def MeasPost (r : Int × Int × Int) (w : World) (e : Ending) (w' : World) : Prop := e = .returned (.tuple #[.int .i64 r.1, .int .i64 r.2.1, .int .i64 r.2.2]) ∧ Below w.heap.size w w'
set_option maxHeartbeats 400000 in
theorem measure_any (d : Dt) (v : Value) (B : Nat) (w : World) (hd : IsDt w (Lo B) d v) (hB : B ≤ w.heap.size) :
    Calls Try.prog 56 #[v] w (MeasPost (meas d) w) := by
  have hd' := hd
  obtain ⟨am, cm, al, cl, at_, ct, rfl, _⟩ := hd'.open_
  have HD := Lib.hid hd
  clear hd hd'
  go_enter Try.func56, Try.ntmps56
  go_wp2_with fail
  have hbel : Below w.heap.size w ((((w.alloc (.cells #[.int .i64 d.K, .int .i64 d.N, .string d.S, .slice am d.M.length cm, .slice al d.L.length cl, .slice at_ d.T.length ct] 33)).alloc (.cells #[.int .i64 0] 3)).alloc (.cells #[.int .i64 0] 3)).alloc (.cells #[.int .i64 0] 38)) :=
    ((((Below.refl _ _).alloc (Nat.le_refl _) _).alloc (by simp) _).alloc (by simp; omega) _).alloc (by simp; omega) _
  refine (walk_measure B (w.heap.size + 1) d _ _ (by exact HD.out.below (hbel.mono hB)) (by omega) (by exact ⟨by simp, by simp [go_sem], by simp [go_sem], by simp [go_sem], by simp [go_sem], by simp [go_sem], by simp [go_sem]⟩)).mono ?_
  rintro e w2 ⟨⟨rv, rfl⟩, hf, ⟨hbx, hz, _⟩ | ⟨q, hq, c, dp, hbx, hnz⟩⟩
  · have hm : meas d = (((nodes d 1).length : Int), (maxD (nodes d 1) : Int), 0) := by unfold meas; rw [if_pos hz]
    have HM := Lib.hid hm
    have HF := Lib.hid ((Fr.of_bel hbel _).trans hf)
    obtain ⟨h0, h1, h2, h3, h4, h5, h6⟩ := hbx
    clear hm hz hf hbel
    go_wp2_with fail
    go_region
    go_wp2_with fail
    refine bodyPost_ret (v := .tuple #[.int .i64 ((nodes d 1).length : Int), .int .i64 (maxD (nodes d 1) : Int), .int .i64 0]) ?_ rfl ?_
    · simp [results, Try.results56, go_sem, h1, h2, h3]
    exact ⟨by rw [HM.out], ((((HF.out.setCell (.inl (box3_0 _)) _).setCell (.inl (box3_1 _)) _).setCell (.inl (box3_2 _)) _).drew).bel (fun i hi hs => by have := hs.1; omega)⟩
  · have hm : meas d = (0, 0, errOf 0 q) := by unfold meas; rw [errOf_prefix hq hnz, if_neg hnz]
    have hne : (errOf 0 q != 0) = true := by rw [bne_iff_ne]; exact hnz
    obtain ⟨er, her⟩ : ∃ er, errOf 0 q = er := ⟨_, rfl⟩
    rw [her] at hm hne hbx
    have HM := Lib.hid hm
    have HF := Lib.hid ((Fr.of_bel hbel _).trans hf)
    obtain ⟨h0, h1, h2, h3, h4, h5, h6⟩ := hbx
    clear hm hnz hf hbel hq her
    go_wp2_with fail
    go_region
    go_wp2_with fail
    refine bodyPost_ret (v := .tuple #[.int .i64 0, .int .i64 0, .int .i64 er]) ?_ rfl ?_
    · simp [results, Try.results56, go_sem, h1, h2, h3]
    exact ⟨by rw [HM.out], ((((HF.out.setCell (.inl (box3_0 _)) _).setCell (.inl (box3_1 _)) _).setCell (.inl (box3_2 _)) _).drew).bel (fun i hi hs => by have := hs.1; omega)⟩
end Go.Proofs.Yteolfkkabhileaa.Da
end
section
namespace Go.Proofs.Yteolfkkabhileaa.Da
open Go.ChangeShapes Go.WideShapes Go.ChangeAt Go.RowKit

def sizeD (d : Dt) : Int := (meas d).1
def deepD (d : Dt) : Int := (meas d).2.1
def chk (d : Dt) : Int := (meas d).2.2
theorem check_any (d : Dt) (v : Value) (B : Nat) (w : World) (hd : IsDt w (Lo B) d v) (hB : B ≤ w.heap.size) :
    Calls Try.prog 48 #[v] w fun e w' => e = .returned (.int .i64 (chk d)) ∧ Below w.heap.size w w' := by
  have hd' := hd
  obtain ⟨am, cm, al, cl, at_, ct, rfl, _⟩ := hd'.open_
  have HD := Lib.hid hd
  clear hd hd'
  go_enter Try.func48, Try.ntmps48
  go_wp2_with fail
  refine (measure_any d _ B _ (by exact HD.out.below ((Below.refl _ _).alloc hB _)) (by simp; omega)).mono ?_
  rintro e w' ⟨rfl, hb⟩
  have HB := Lib.hid hb
  clear hb
  go_wp2_with fail
  go_ret
  exact ⟨rfl, bel_trans (bel_alloc _ _) HB.out⟩
end Go.Proofs.Yteolfkkabhileaa.Da
end
