/- What a run means (layer 3): the program's functions. -/
import Derived.Test.YtpeleifkednmoaaMLexUnq
import Derived.Test.YtpeleifkednmoaaM1
import Derived.Test.YtpeleifkednmoaaM4
section
namespace Go.Proofs.Ytpeleifkednmoaa.Lx
open Go.ChangeShapes Go.WideShapes Go.ChangeAt Go.RowKit
set_option linter.unusedVariables false

/-- Whether a run can be a number only. -/
def numB : Bs → Bool
  | [] => false
  | [c] => digitB c
  | c :: d :: _ => if ((c.toNat : Int) == 45) || ((c.toNat : Int) == 43) then digitB d else digitB c
set_option maxRecDepth 100000 in
set_option maxHeartbeats 1000000 in
theorem numeric_any (s : ByteArray) (w : World) (hs : s.size ≤ maxLen) (h0 : 0 < s.size) (b : Bool) (hb : Hid (numB s.data.toList = b)) :
    Calls Try.prog 69 #[.string s] w fun e w' => e = .returned (.bool b) ∧ w = w' := by
  unfold maxLen at hs
  have hd := drop_at s 0 h0
  rw [List.drop_zero] at hd
  by_cases h1 : 1 < s.size
  · have d1 : decide ((s.size : Int) > 1) = true := by simp; omega
    have hd1 := drop_at s 1 h1
    have hr := run_from s 1 (by omega)
    have hz := ext_size s 1 (by omega)
    have hl : (s.extract 1 s.size).data.toList = s.data.toList.drop 1 := Lib.extract_to_end s 1
    simp only [Int.cast_ofNat_Int] at hr
    generalize s.extract 1 s.size = t at *
    have ht0 : 0 < t.size := by omega
    have e0 : t[0] = s[1] := by
      have a := drop_at t 0 ht0
      rw [List.drop_zero, hl, hd1] at a
      injection a with a b
      exact a.symm
    have hb' : b = if ((s[0].toNat : Int) == 45) || ((s[0].toNat : Int) == 43) then digitB s[1] else digitB s[0] := by
      have h := hb.out
      rw [hd, hd1] at h
      exact h.symm
    have E0 := Lib.hid e0
    have Hb' := Lib.hid hb'
    clear hb hd hd1 hl e0 hb'
    have i0 : 0 < s.size := h0
    cases c1 : (s[0].toNat : Int) == 45 <;> cases c2 : (s[0].toNat : Int) == 43
    · rw [c1, c2] at Hb'
      go_enter Try.func69, Try.ntmps69
      go_wp2_with (go_at_call 66; refine (digit_any s[0] _).mono ?_; rintro e w' ⟨rfl, rfl⟩)
      go_ret
      exact ⟨by rw [Hb'.out]; rfl, rfl⟩
    all_goals
      rw [c1, c2] at Hb'
      go_enter Try.func69, Try.ntmps69
      go_wp2_with (go_at_call 66; refine (digit_any t[0] _).mono ?_; rintro e w' ⟨rfl, rfl⟩)
      go_ret
      exact ⟨by rw [Hb'.out, ← E0.out]; rfl, rfl⟩
  · have d1 : decide ((s.size : Int) > 1) = false := by simp; omega
    have hb' : b = digitB s[0] := by
      have h := hb.out
      rw [hd, drop_none s 1 (by omega)] at h
      exact h.symm
    have Hb' := Lib.hid hb'
    clear hb hd hb'
    have i0 : 0 < s.size := h0
    go_enter Try.func69, Try.ntmps69
    go_wp2_with (go_at_call 66; refine (digit_any s[0] _).mono ?_; rintro e w' ⟨rfl, rfl⟩)
    go_ret
    exact ⟨by rw [Hb'.out]; rfl, rfl⟩
/-- A word as a value: kind, from, to, number, text. -/
def tokV (k a z n : Int) (S : Bs) : Value := .agg #[.int .i64 k, .int .i64 a, .int .i64 z, .int .i64 n, .string ⟨S.toArray⟩]
def hdB : Bs → Bool | [] => false | c :: _ => Da.begB c
/-- Whether a run is a symbol's text. -/
def symL (l : Bs) : Bool := l == [43] || l == [45] || l == [46, 46, 46] || (!l.isEmpty && !decide (32 < (l.length : Int)) && hdB l && l.all Da.contB)
theorem symL_eq (s : ByteArray) : Da.symB s = symL s.data.toList := by
  have hh : Da.headB Da.begB s = hdB s.data.toList := by
    unfold Da.headB
    by_cases h : 0 < s.size
    · rw [dif_pos h]
      have hd := drop_at s 0 h
      rw [List.drop_zero] at hd
      rw [hd]; rfl
    · rw [dif_neg h]
      have : s.data.toList = [] := by rw [← List.drop_zero (l := s.data.toList)]; exact drop_none s 0 (by omega)
      rw [this]; rfl
  unfold Da.symB symL
  rw [hh, ByteArray.toList_eq, len_of]
  rfl
/-- What a run means: kind, number, text, and what is wrong. -/
structure Mean where
  (k n : Int) (S : Bs) (e : Int)
def meanR (l : Bs) : Mean :=
  if (l == [46]) = true then ⟨8, 0, [], 0⟩ else if (l == [35, 102]) = true then ⟨10, 0, [], 0⟩ else if (l == [35, 116]) = true then ⟨10, 1, [], 0⟩
  else if numB l = true then ⟨9, Fx.parV l, [], if (Fx.parE l == 5) = true then 30 else Fx.parE l⟩
  else if symL l = true then ⟨13, 0, l, 0⟩ else ⟨0, 0, [], 30⟩
theorem mark_8 (w : World) : Calls Try.prog 14 #[.int .i64 8] w fun e w' => e = .returned (.string ⟨#[46]⟩) ∧ w = w' := mark_any 8 w
theorem boolean_0 (w : World) : Calls Try.prog 18 #[.int .i64 0] w fun e w' => e = .returned (.string ⟨#[35, 102]⟩) ∧ w = w' := boolean_any 0 w
theorem boolean_1 (w : World) : Calls Try.prog 18 #[.int .i64 1] w fun e w' => e = .returned (.string ⟨#[35, 116]⟩) ∧ w = w' := boolean_any 1 w
set_option maxRecDepth 100000 in
set_option maxHeartbeats 2000000 in
theorem meaning_any (s : ByteArray) (w : World) (hs : s.size ≤ maxLen) (h0 : 0 < s.size) :
    Calls Try.prog 55 #[.string s] w fun e w' => e = .returned (.tuple #[tokV (meanR s.data.toList).k 0 0 (meanR s.data.toList).n (meanR s.data.toList).S, .int .i64 (meanR s.data.toList).e]) ∧ Below w.heap.size w w' := by
  have Hs := Lib.hid hs
  have hmr : meanR s.data.toList = if (s.toList == [46]) = true then ⟨8, 0, [], 0⟩ else if (s.toList == [35, 102]) = true then ⟨10, 0, [], 0⟩ else if (s.toList == [35, 116]) = true then ⟨10, 1, [], 0⟩
    else if numB s.data.toList = true then ⟨9, Fx.parV s.data.toList, [], if (Fx.parE s.data.toList == 5) = true then 30 else Fx.parE s.data.toList⟩
    else if Da.symB s = true then ⟨13, 0, s.data.toList, 0⟩ else ⟨0, 0, [], 30⟩ := by rw [ByteArray.toList_eq, symL_eq]; rfl
  rw [hmr]
  clear hmr hs
  cases a1 : s.toList == [46]
  case true =>
    rw [if_pos rfl]
    go_enter Try.func55, Try.ntmps55
    go_wp2_with (first | (go_at_call 14; refine (mark_8 _).mono ?_; rintro e w' ⟨rfl, rfl⟩) | (go_at_call 18; refine (boolean_0 _).mono ?_; rintro e w' ⟨rfl, rfl⟩) | (go_at_call 18; refine (boolean_1 _).mono ?_; rintro e w' ⟨rfl, rfl⟩))
    refine bodyPost_ret (v := .tuple #[tokV 8 0 0 0 [], .int .i64 0]) ?_ rfl ?_
    · simp [results, Try.results55, go_sem, tokV]
    · exact ⟨rfl, bel_alloc _ _⟩
  rw [if_neg (by decide)]
  cases a2 : s.toList == [35, 102]
  case true =>
    rw [if_pos rfl]
    go_enter Try.func55, Try.ntmps55
    go_wp2_with (first | (go_at_call 14; refine (mark_8 _).mono ?_; rintro e w' ⟨rfl, rfl⟩) | (go_at_call 18; refine (boolean_0 _).mono ?_; rintro e w' ⟨rfl, rfl⟩) | (go_at_call 18; refine (boolean_1 _).mono ?_; rintro e w' ⟨rfl, rfl⟩))
    refine bodyPost_ret (v := .tuple #[tokV 10 0 0 0 [], .int .i64 0]) ?_ rfl ?_
    · simp [results, Try.results55, go_sem, tokV]
    · exact ⟨rfl, bel_alloc _ _⟩
  rw [if_neg (by decide)]
  cases a3 : s.toList == [35, 116]
  case true =>
    rw [if_pos rfl]
    go_enter Try.func55, Try.ntmps55
    go_wp2_with (first | (go_at_call 14; refine (mark_8 _).mono ?_; rintro e w' ⟨rfl, rfl⟩) | (go_at_call 18; refine (boolean_0 _).mono ?_; rintro e w' ⟨rfl, rfl⟩) | (go_at_call 18; refine (boolean_1 _).mono ?_; rintro e w' ⟨rfl, rfl⟩))
    refine bodyPost_ret (v := .tuple #[tokV 10 0 0 1 [], .int .i64 0]) ?_ rfl ?_
    · simp [results, Try.results55, go_sem, tokV]
    · exact ⟨rfl, bel_alloc _ _⟩
  rw [if_neg (by decide)]
  obtain ⟨b, hb⟩ : ∃ b, numB s.data.toList = b := ⟨_, rfl⟩
  rw [hb]
  have HN := Lib.hid hb
  clear hb
  cases b
  case true =>
    rw [if_pos rfl]
    obtain ⟨pv, hpv⟩ : ∃ x, Fx.parV s.data.toList = x := ⟨_, rfl⟩
    obtain ⟨pe, hpe⟩ : ∃ x, Fx.parE s.data.toList = x := ⟨_, rfl⟩
    rw [hpv, hpe]
    have HPV := Lib.hid hpv
    have HPE := Lib.hid hpe
    clear hpv hpe
    cases d5 : pe == 5
    · rw [if_neg (by decide)]
      go_enter Try.func55, Try.ntmps55
      go_wp2_with (first | (go_at_call 14; refine (mark_8 _).mono ?_; rintro e w' ⟨rfl, rfl⟩) | (go_at_call 18; refine (boolean_0 _).mono ?_; rintro e w' ⟨rfl, rfl⟩) | (go_at_call 18; refine (boolean_1 _).mono ?_; rintro e w' ⟨rfl, rfl⟩) | (go_at_call 69; refine (numeric_any s _ Hs.out h0 _ HN).mono ?_; rintro e w' ⟨rfl, rfl⟩) | (go_at_call 70; refine (Fx.parse_fix s _ Hs.out).mono ?_; rintro e w' ⟨rfl, rfl⟩; rw [HPV.out, HPE.out]))
      refine bodyPost_ret (v := .tuple #[tokV 9 0 0 pv [], .int .i64 pe]) ?_ rfl ?_
      · simp [results, Try.results55, go_sem, tokV]
      · exact ⟨rfl, bel_alloc _ _⟩
    · rw [if_pos rfl]
      go_enter Try.func55, Try.ntmps55
      go_wp2_with (first | (go_at_call 14; refine (mark_8 _).mono ?_; rintro e w' ⟨rfl, rfl⟩) | (go_at_call 18; refine (boolean_0 _).mono ?_; rintro e w' ⟨rfl, rfl⟩) | (go_at_call 18; refine (boolean_1 _).mono ?_; rintro e w' ⟨rfl, rfl⟩) | (go_at_call 69; refine (numeric_any s _ Hs.out h0 _ HN).mono ?_; rintro e w' ⟨rfl, rfl⟩) | (go_at_call 70; refine (Fx.parse_fix s _ Hs.out).mono ?_; rintro e w' ⟨rfl, rfl⟩; rw [HPV.out, HPE.out]))
      refine bodyPost_ret (v := .tuple #[tokV 9 0 0 pv [], .int .i64 30]) ?_ rfl ?_
      · simp [results, Try.results55, go_sem, tokV]
      · exact ⟨rfl, bel_alloc _ _⟩
  rw [if_neg (by decide)]
  obtain ⟨b, hb⟩ : ∃ b, Da.symB s = b := ⟨_, rfl⟩
  rw [hb]
  have HS := Lib.hid hb
  clear hb
  cases b
  · rw [if_neg (by decide)]
    go_enter Try.func55, Try.ntmps55
    go_wp2_with (first | (go_at_call 14; refine (mark_8 _).mono ?_; rintro e w' ⟨rfl, rfl⟩) | (go_at_call 18; refine (boolean_0 _).mono ?_; rintro e w' ⟨rfl, rfl⟩) | (go_at_call 18; refine (boolean_1 _).mono ?_; rintro e w' ⟨rfl, rfl⟩) | (go_at_call 69; refine (numeric_any s _ Hs.out h0 _ HN).mono ?_; rintro e w' ⟨rfl, rfl⟩) | (go_at_call 71; refine (Da.symbol_any s _ Hs.out).mono ?_; rintro e w' ⟨rfl, rfl⟩; rw [HS.out]))
    refine bodyPost_ret (v := .tuple #[tokV 0 0 0 0 [], .int .i64 30]) ?_ rfl ?_
    · simp [results, Try.results55, go_sem, tokV]
    · exact ⟨rfl, bel_alloc _ _⟩
  · rw [if_pos rfl]
    go_enter Try.func55, Try.ntmps55
    go_wp2_with (first | (go_at_call 14; refine (mark_8 _).mono ?_; rintro e w' ⟨rfl, rfl⟩) | (go_at_call 18; refine (boolean_0 _).mono ?_; rintro e w' ⟨rfl, rfl⟩) | (go_at_call 18; refine (boolean_1 _).mono ?_; rintro e w' ⟨rfl, rfl⟩) | (go_at_call 69; refine (numeric_any s _ Hs.out h0 _ HN).mono ?_; rintro e w' ⟨rfl, rfl⟩) | (go_at_call 71; refine (Da.symbol_any s _ Hs.out).mono ?_; rintro e w' ⟨rfl, rfl⟩; rw [HS.out]))
    refine bodyPost_ret (v := .tuple #[tokV 13 0 0 0 s.data.toList, .int .i64 0]) ?_ rfl ?_
    · simp [results, Try.results55, go_sem, tokV]
    · exact ⟨rfl, bel_alloc _ _⟩
end Go.Proofs.Ytpeleifkednmoaa.Lx
end
