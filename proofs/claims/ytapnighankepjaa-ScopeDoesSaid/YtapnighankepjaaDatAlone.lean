/- What the document asks of a datum by itself, and that it is what the program asks. -/
import Derived.Test.YtapnighankepjaaDatRef
import Derived.Test.YtapnighankepjaaDatProper2
import Derived.Test.YtapnighankepjaaDatConsMath
namespace Go.Proofs.Ytapnighankepjaa.Da
open Go.ChangeShapes Go.WideShapes Go.ChangeAt Go.RowKit

theorem in_any (n : Int) (w : World) : Calls Try.prog 64 #[.int .i64 n] w fun e w' => e = .returned (.bool (inB n)) ∧ w = w' := by
  unfold inB
  have q1 : decide (n ≥ -1152921504606846976) = decide (-1152921504606846976 ≤ n) := rfl
  cases d1 : decide (-1152921504606846976 ≤ n) <;> cases d2 : decide (n ≤ 1152921504606846975)
  all_goals
    rw [d1] at q1
    go_enter Try.func64, Try.ntmps64
    go_wp2_with fail
    go_ret
    exact ⟨rfl, rfl⟩
theorem nil3_eq (a b c : Nat) : nil3 a b c = (((a : Int) == 0) && (((b : Int) == 0) && ((c : Int) == 0))) := by
  unfold nil3
  rw [Bool.eq_iff_iff]
  simp only [Bool.and_eq_true, beq_iff_eq]
  omega
theorem nil2_eq (a b : Nat) : nil2 a b = (((a : Int) == 0) && ((b : Int) == 0)) := by
  unfold nil2
  rw [Bool.eq_iff_iff]
  simp only [Bool.and_eq_true, beq_iff_eq]
  omega
set_option linter.unusedVariables false in
set_option linter.unusedSimpArgs false in
set_option maxRecDepth 100000 in
set_option maxHeartbeats 2000000 in
theorem alone_1 (n : Int) (s : ByteArray) (m : List Int) (l t : List Dt) (am : Option Addr) (cm : Nat) (al : Option Addr) (cl : Nat) (at_ : Option Addr) (ct : Nat) (B : Nat) (w : World) (hs : s.size ≤ maxLen) (hB : B ≤ w.heap.size) (hm : IntRow w (Lo B) am m.length cm m) (h2 : IsSl al l.length cl) (ht : IsSl at_ t.length ct) (hts : IsDts w (Lo B) at_ 0 t) :
    Calls Try.prog 57 #[.agg #[.int .i64 1, .int .i64 n, .string s, .slice am m.length cm, .slice al l.length cl, .slice at_ t.length ct]] w fun e w' => e = .returned (.bool (properOf 1 n s m l t)) ∧ Below w.heap.size w w' := by
  have h1 : (m.length : Int) ≤ 17592186044416 := by have a := hm.2.1; have b := hm.2.2.2.1; omega
  have h3 : (l.length : Int) ≤ 17592186044416 := by have a := h2.1; have b := h2.2.2.1; omega
  have h4 : (t.length : Int) ≤ 17592186044416 := by have a := ht.1; have b := ht.2.2.1; omega
  have he : properOf 1 n s m l t = (inB n && (s.toList.isEmpty && (((m.length : Int) == 0) && (((l.length : Int) == 0) && (((t.length : Int) == 0)))))) := by
    simp only [properOf, nil3_eq, nil2_eq, nil1, Bool.and_assoc, if_true, if_false]
  have He := Lib.hid he
  clear he hm h2
  cases c0 : inB n
  · go_enter Try.func57, Try.ntmps57
    go_wp2_with (go_at_call 64; refine (in_any n _).mono ?_; rintro e w' ⟨rfl, rfl⟩)
    go_ret
    exact ⟨by rw [He.out, c0]; rfl, bel_alloc _ _⟩
  · cases c1 : s.toList.isEmpty
    · go_enter Try.func57, Try.ntmps57
      go_wp2_with (go_at_call 64; refine (in_any n _).mono ?_; rintro e w' ⟨rfl, rfl⟩)
      go_ret
      exact ⟨by rw [He.out, c0, c1]; rfl, bel_alloc _ _⟩
    · cases c2 : ((m.length : Int) == 0)
      · go_enter Try.func57, Try.ntmps57
        go_wp2_with (go_at_call 64; refine (in_any n _).mono ?_; rintro e w' ⟨rfl, rfl⟩)
        go_ret
        exact ⟨by rw [He.out, c0, c1, c2]; rfl, bel_alloc _ _⟩
      · cases c3 : ((l.length : Int) == 0)
        · go_enter Try.func57, Try.ntmps57
          go_wp2_with (go_at_call 64; refine (in_any n _).mono ?_; rintro e w' ⟨rfl, rfl⟩)
          go_ret
          exact ⟨by rw [He.out, c0, c1, c2, c3]; rfl, bel_alloc _ _⟩
        · cases c4 : ((t.length : Int) == 0)
          · go_enter Try.func57, Try.ntmps57
            go_wp2_with (go_at_call 64; refine (in_any n _).mono ?_; rintro e w' ⟨rfl, rfl⟩)
            go_ret
            exact ⟨by rw [He.out, c0, c1, c2, c3, c4]; rfl, bel_alloc _ _⟩
          · go_enter Try.func57, Try.ntmps57
            go_wp2_with (go_at_call 64; refine (in_any n _).mono ?_; rintro e w' ⟨rfl, rfl⟩)
            go_ret
            exact ⟨by rw [He.out, c0, c1, c2, c3, c4]; rfl, bel_alloc _ _⟩
set_option linter.unusedVariables false in
set_option linter.unusedSimpArgs false in
set_option maxRecDepth 100000 in
set_option maxHeartbeats 2000000 in
theorem alone_2 (n : Int) (s : ByteArray) (m : List Int) (l t : List Dt) (am : Option Addr) (cm : Nat) (al : Option Addr) (cl : Nat) (at_ : Option Addr) (ct : Nat) (B : Nat) (w : World) (hs : s.size ≤ maxLen) (hB : B ≤ w.heap.size) (hm : IntRow w (Lo B) am m.length cm m) (h2 : IsSl al l.length cl) (ht : IsSl at_ t.length ct) (hts : IsDts w (Lo B) at_ 0 t) :
    Calls Try.prog 57 #[.agg #[.int .i64 2, .int .i64 n, .string s, .slice am m.length cm, .slice al l.length cl, .slice at_ t.length ct]] w fun e w' => e = .returned (.bool (properOf 2 n s m l t)) ∧ Below w.heap.size w w' := by
  have h1 : (m.length : Int) ≤ 17592186044416 := by have a := hm.2.1; have b := hm.2.2.2.1; omega
  have h3 : (l.length : Int) ≤ 17592186044416 := by have a := h2.1; have b := h2.2.2.1; omega
  have h4 : (t.length : Int) ≤ 17592186044416 := by have a := ht.1; have b := ht.2.2.1; omega
  have he : properOf 2 n s m l t = (((n == 0) || (n == 1)) && (s.toList.isEmpty && (((m.length : Int) == 0) && (((l.length : Int) == 0) && (((t.length : Int) == 0)))))) := by
    simp only [properOf, nil3_eq, nil2_eq, nil1, Bool.and_assoc, if_true, if_false, show ¬ (2 : Int) = 1 by decide]
  have He := Lib.hid he
  clear he hm h2
  cases c0 : (n == 0)
  · cases c1 : (n == 1)
    · go_enter Try.func57, Try.ntmps57
      go_wp2_with fail
      go_ret
      exact ⟨by rw [He.out, c0, c1]; rfl, bel_alloc _ _⟩
    · cases c2 : s.toList.isEmpty
      · go_enter Try.func57, Try.ntmps57
        go_wp2_with fail
        go_ret
        exact ⟨by rw [He.out, c0, c1, c2]; rfl, bel_alloc _ _⟩
      · cases c3 : ((m.length : Int) == 0)
        · go_enter Try.func57, Try.ntmps57
          go_wp2_with fail
          go_ret
          exact ⟨by rw [He.out, c0, c1, c2, c3]; rfl, bel_alloc _ _⟩
        · cases c4 : ((l.length : Int) == 0)
          · go_enter Try.func57, Try.ntmps57
            go_wp2_with fail
            go_ret
            exact ⟨by rw [He.out, c0, c1, c2, c3, c4]; rfl, bel_alloc _ _⟩
          · cases c5 : ((t.length : Int) == 0)
            · go_enter Try.func57, Try.ntmps57
              go_wp2_with fail
              go_ret
              exact ⟨by rw [He.out, c0, c1, c2, c3, c4, c5]; rfl, bel_alloc _ _⟩
            · go_enter Try.func57, Try.ntmps57
              go_wp2_with fail
              go_ret
              exact ⟨by rw [He.out, c0, c1, c2, c3, c4, c5]; rfl, bel_alloc _ _⟩
  · cases c6 : s.toList.isEmpty
    · go_enter Try.func57, Try.ntmps57
      go_wp2_with fail
      go_ret
      exact ⟨by rw [He.out, c0, c6]; rfl, bel_alloc _ _⟩
    · cases c7 : ((m.length : Int) == 0)
      · go_enter Try.func57, Try.ntmps57
        go_wp2_with fail
        go_ret
        exact ⟨by rw [He.out, c0, c6, c7]; rfl, bel_alloc _ _⟩
      · cases c8 : ((l.length : Int) == 0)
        · go_enter Try.func57, Try.ntmps57
          go_wp2_with fail
          go_ret
          exact ⟨by rw [He.out, c0, c6, c7, c8]; rfl, bel_alloc _ _⟩
        · cases c9 : ((t.length : Int) == 0)
          · go_enter Try.func57, Try.ntmps57
            go_wp2_with fail
            go_ret
            exact ⟨by rw [He.out, c0, c6, c7, c8, c9]; rfl, bel_alloc _ _⟩
          · go_enter Try.func57, Try.ntmps57
            go_wp2_with fail
            go_ret
            exact ⟨by rw [He.out, c0, c6, c7, c8, c9]; rfl, bel_alloc _ _⟩
set_option linter.unusedVariables false in
set_option linter.unusedSimpArgs false in
set_option maxRecDepth 100000 in
set_option maxHeartbeats 2000000 in
theorem alone_3 (n : Int) (s : ByteArray) (m : List Int) (l t : List Dt) (am : Option Addr) (cm : Nat) (al : Option Addr) (cl : Nat) (at_ : Option Addr) (ct : Nat) (B : Nat) (w : World) (hs : s.size ≤ maxLen) (hB : B ≤ w.heap.size) (hm : IntRow w (Lo B) am m.length cm m) (h2 : IsSl al l.length cl) (ht : IsSl at_ t.length ct) (hts : IsDts w (Lo B) at_ 0 t) :
    Calls Try.prog 57 #[.agg #[.int .i64 3, .int .i64 n, .string s, .slice am m.length cm, .slice al l.length cl, .slice at_ t.length ct]] w fun e w' => e = .returned (.bool (properOf 3 n s m l t)) ∧ Below w.heap.size w w' := by
  have h1 : (m.length : Int) ≤ 17592186044416 := by have a := hm.2.1; have b := hm.2.2.2.1; omega
  have h3 : (l.length : Int) ≤ 17592186044416 := by have a := h2.1; have b := h2.2.2.1; omega
  have h4 : (t.length : Int) ≤ 17592186044416 := by have a := ht.1; have b := ht.2.2.1; omega
  have he : properOf 3 n s m l t = (decide (n ≥ 0) && (decide (n ≤ 127) && (s.toList.isEmpty && (((m.length : Int) == 0) && (((l.length : Int) == 0) && (((t.length : Int) == 0))))))) := by
    simp only [properOf, nil3_eq, nil2_eq, nil1, Bool.and_assoc, if_true, if_false, show ¬ (3 : Int) = 1 by decide, show ¬ (3 : Int) = 2 by decide]
    rw [show decide (n < 128) = decide (n ≤ 127) by rw [decide_eq_decide]; omega]
  have He := Lib.hid he
  clear he hm h2
  cases c0 : decide (n ≥ 0)
  · go_enter Try.func57, Try.ntmps57
    go_wp2_with fail
    go_ret
    exact ⟨by rw [He.out, c0]; rfl, bel_alloc _ _⟩
  · cases c1 : decide (n ≤ 127)
    · go_enter Try.func57, Try.ntmps57
      go_wp2_with fail
      go_ret
      exact ⟨by rw [He.out, c0, c1]; rfl, bel_alloc _ _⟩
    · cases c2 : s.toList.isEmpty
      · go_enter Try.func57, Try.ntmps57
        go_wp2_with fail
        go_ret
        exact ⟨by rw [He.out, c0, c1, c2]; rfl, bel_alloc _ _⟩
      · cases c3 : ((m.length : Int) == 0)
        · go_enter Try.func57, Try.ntmps57
          go_wp2_with fail
          go_ret
          exact ⟨by rw [He.out, c0, c1, c2, c3]; rfl, bel_alloc _ _⟩
        · cases c4 : ((l.length : Int) == 0)
          · go_enter Try.func57, Try.ntmps57
            go_wp2_with fail
            go_ret
            exact ⟨by rw [He.out, c0, c1, c2, c3, c4]; rfl, bel_alloc _ _⟩
          · cases c5 : ((t.length : Int) == 0)
            · go_enter Try.func57, Try.ntmps57
              go_wp2_with fail
              go_ret
              exact ⟨by rw [He.out, c0, c1, c2, c3, c4, c5]; rfl, bel_alloc _ _⟩
            · go_enter Try.func57, Try.ntmps57
              go_wp2_with fail
              go_ret
              exact ⟨by rw [He.out, c0, c1, c2, c3, c4, c5]; rfl, bel_alloc _ _⟩
set_option linter.unusedVariables false in
set_option linter.unusedSimpArgs false in
set_option maxRecDepth 100000 in
set_option maxHeartbeats 2000000 in
theorem alone_6 (n : Int) (s : ByteArray) (m : List Int) (l t : List Dt) (am : Option Addr) (cm : Nat) (al : Option Addr) (cl : Nat) (at_ : Option Addr) (ct : Nat) (B : Nat) (w : World) (hs : s.size ≤ maxLen) (hB : B ≤ w.heap.size) (hm : IntRow w (Lo B) am m.length cm m) (h2 : IsSl al l.length cl) (ht : IsSl at_ t.length ct) (hts : IsDts w (Lo B) at_ 0 t) :
    Calls Try.prog 57 #[.agg #[.int .i64 6, .int .i64 n, .string s, .slice am m.length cm, .slice al l.length cl, .slice at_ t.length ct]] w fun e w' => e = .returned (.bool (properOf 6 n s m l t)) ∧ Below w.heap.size w w' := by
  have h1 : (m.length : Int) ≤ 17592186044416 := by have a := hm.2.1; have b := hm.2.2.2.1; omega
  have h3 : (l.length : Int) ≤ 17592186044416 := by have a := h2.1; have b := h2.2.2.1; omega
  have h4 : (t.length : Int) ≤ 17592186044416 := by have a := ht.1; have b := ht.2.2.1; omega
  have he : properOf 6 n s m l t = ((n == 0) && (s.toList.isEmpty && (((m.length : Int) == 0) && (((t.length : Int) == 0))))) := by
    simp only [properOf, nil3_eq, nil2_eq, nil1, Bool.and_assoc, if_true, if_false, show ¬ (6 : Int) = 1 by decide, show ¬ (6 : Int) = 2 by decide, show ¬ (6 : Int) = 3 by decide, show ¬ (6 : Int) = 4 by decide, show ¬ (6 : Int) = 5 by decide]
  have He := Lib.hid he
  clear he hm h2
  cases c0 : (n == 0)
  · go_enter Try.func57, Try.ntmps57
    go_wp2_with fail
    go_ret
    exact ⟨by rw [He.out, c0]; rfl, bel_alloc _ _⟩
  · cases c1 : s.toList.isEmpty
    · go_enter Try.func57, Try.ntmps57
      go_wp2_with fail
      go_ret
      exact ⟨by rw [He.out, c0, c1]; rfl, bel_alloc _ _⟩
    · cases c2 : ((m.length : Int) == 0)
      · go_enter Try.func57, Try.ntmps57
        go_wp2_with fail
        go_ret
        exact ⟨by rw [He.out, c0, c1, c2]; rfl, bel_alloc _ _⟩
      · cases c3 : ((t.length : Int) == 0)
        · go_enter Try.func57, Try.ntmps57
          go_wp2_with fail
          go_ret
          exact ⟨by rw [He.out, c0, c1, c2, c3]; rfl, bel_alloc _ _⟩
        · go_enter Try.func57, Try.ntmps57
          go_wp2_with fail
          go_ret
          exact ⟨by rw [He.out, c0, c1, c2, c3]; rfl, bel_alloc _ _⟩
set_option linter.unusedVariables false in
set_option linter.unusedSimpArgs false in
set_option maxRecDepth 100000 in
set_option maxHeartbeats 2000000 in
theorem alone_8 (n : Int) (s : ByteArray) (m : List Int) (l t : List Dt) (am : Option Addr) (cm : Nat) (al : Option Addr) (cl : Nat) (at_ : Option Addr) (ct : Nat) (B : Nat) (w : World) (hs : s.size ≤ maxLen) (hB : B ≤ w.heap.size) (hm : IntRow w (Lo B) am m.length cm m) (h2 : IsSl al l.length cl) (ht : IsSl at_ t.length ct) (hts : IsDts w (Lo B) at_ 0 t) :
    Calls Try.prog 57 #[.agg #[.int .i64 8, .int .i64 n, .string s, .slice am m.length cm, .slice al l.length cl, .slice at_ t.length ct]] w fun e w' => e = .returned (.bool (properOf 8 n s m l t)) ∧ Below w.heap.size w w' := by
  have h1 : (m.length : Int) ≤ 17592186044416 := by have a := hm.2.1; have b := hm.2.2.2.1; omega
  have h3 : (l.length : Int) ≤ 17592186044416 := by have a := h2.1; have b := h2.2.2.1; omega
  have h4 : (t.length : Int) ≤ 17592186044416 := by have a := ht.1; have b := ht.2.2.1; omega
  have he : properOf 8 n s m l t = ((n == 0) && (s.toList.isEmpty && (((m.length : Int) == 0) && (((t.length : Int) == 0))))) := by
    simp only [properOf, nil3_eq, nil2_eq, nil1, Bool.and_assoc, if_true, if_false, show ¬ (8 : Int) = 1 by decide, show ¬ (8 : Int) = 2 by decide, show ¬ (8 : Int) = 3 by decide, show ¬ (8 : Int) = 4 by decide, show ¬ (8 : Int) = 5 by decide, show ¬ (8 : Int) = 6 by decide, show ¬ (8 : Int) = 7 by decide]
  have He := Lib.hid he
  clear he hm h2
  cases c0 : (n == 0)
  · go_enter Try.func57, Try.ntmps57
    go_wp2_with fail
    go_ret
    exact ⟨by rw [He.out, c0]; rfl, bel_alloc _ _⟩
  · cases c1 : s.toList.isEmpty
    · go_enter Try.func57, Try.ntmps57
      go_wp2_with fail
      go_ret
      exact ⟨by rw [He.out, c0, c1]; rfl, bel_alloc _ _⟩
    · cases c2 : ((m.length : Int) == 0)
      · go_enter Try.func57, Try.ntmps57
        go_wp2_with fail
        go_ret
        exact ⟨by rw [He.out, c0, c1, c2]; rfl, bel_alloc _ _⟩
      · cases c3 : ((t.length : Int) == 0)
        · go_enter Try.func57, Try.ntmps57
          go_wp2_with fail
          go_ret
          exact ⟨by rw [He.out, c0, c1, c2, c3]; rfl, bel_alloc _ _⟩
        · go_enter Try.func57, Try.ntmps57
          go_wp2_with fail
          go_ret
          exact ⟨by rw [He.out, c0, c1, c2, c3]; rfl, bel_alloc _ _⟩
set_option linter.unusedVariables false in
set_option linter.unusedSimpArgs false in
set_option maxRecDepth 100000 in
set_option maxHeartbeats 2000000 in
theorem alone_7 (n : Int) (s : ByteArray) (m : List Int) (l t : List Dt) (am : Option Addr) (cm : Nat) (al : Option Addr) (cl : Nat) (at_ : Option Addr) (ct : Nat) (B : Nat) (w : World) (hs : s.size ≤ maxLen) (hB : B ≤ w.heap.size) (hm : IntRow w (Lo B) am m.length cm m) (h2 : IsSl al l.length cl) (ht : IsSl at_ t.length ct) (hts : IsDts w (Lo B) at_ 0 t) :
    Calls Try.prog 57 #[.agg #[.int .i64 7, .int .i64 n, .string s, .slice am m.length cm, .slice al l.length cl, .slice at_ t.length ct]] w fun e w' => e = .returned (.bool (properOf 7 n s m l t)) ∧ Below w.heap.size w w' := by
  have h1 : (m.length : Int) ≤ 17592186044416 := by have a := hm.2.1; have b := hm.2.2.2.1; omega
  have h3 : (l.length : Int) ≤ 17592186044416 := by have a := h2.1; have b := h2.2.2.1; omega
  have h4 : (t.length : Int) ≤ 17592186044416 := by have a := ht.1; have b := ht.2.2.1; omega
  have he : properOf 7 n s m l t = ((n == 0) && (s.toList.isEmpty && (((m.length : Int) == 0) && ((!((l.length : Int) == 0)) && (((t.length : Int) == 1) && ((headK t != 6) && ((headK t != 7)))))))) := by
    simp only [properOf, nil3_eq, nil2_eq, nil1, Bool.and_assoc, if_true, if_false, show ¬ (7 : Int) = 1 by decide, show ¬ (7 : Int) = 2 by decide, show ¬ (7 : Int) = 3 by decide, show ¬ (7 : Int) = 4 by decide, show ¬ (7 : Int) = 5 by decide, show ¬ (7 : Int) = 6 by decide]
    rw [show decide (0 < (l.length : Int)) = !((l.length : Int) == 0) by rw [Bool.eq_iff_iff]; simp only [decide_eq_true_eq, Bool.not_eq_true', beq_eq_false_iff_ne]; omega]
    unfold tailB
    simp only [Bool.and_assoc]
    cases (n == 0) <;> cases s.toList.isEmpty <;> cases ((m.length : Int) == 0) <;> cases ((l.length : Int) == 0) <;> cases ((t.length : Int) == 1) <;> cases (headK t != 6) <;> cases (headK t != 7) <;> rfl
  have He := Lib.hid he
  clear he hm h2
  cases c0 : (n == 0)
  · go_enter Try.func57, Try.ntmps57
    go_wp2_with fail
    go_ret
    exact ⟨by rw [He.out, c0]; rfl, bel_alloc _ _⟩
  · cases c1 : s.toList.isEmpty
    · go_enter Try.func57, Try.ntmps57
      go_wp2_with fail
      go_ret
      exact ⟨by rw [He.out, c0, c1]; rfl, bel_alloc _ _⟩
    · cases c2 : ((m.length : Int) == 0)
      · go_enter Try.func57, Try.ntmps57
        go_wp2_with fail
        go_ret
        exact ⟨by rw [He.out, c0, c1, c2]; rfl, bel_alloc _ _⟩
      · cases c3 : (!((l.length : Int) == 0))
        · go_enter Try.func57, Try.ntmps57
          go_wp2_with fail
          go_ret
          exact ⟨by rw [He.out, c0, c1, c2, c3]; rfl, bel_alloc _ _⟩
        · cases c4 : ((t.length : Int) == 1)
          · go_enter Try.func57, Try.ntmps57
            go_wp2_with fail
            go_ret
            exact ⟨by rw [He.out, c0, c1, c2, c3, c4]; rfl, bel_alloc _ _⟩
          · have hl : t.length = 1 := by have := beq_iff_eq.1 c4; omega
            obtain ⟨b, off, rfl, hb, hc⟩ := headK_at hts hl
            have hb1 : b < w.heap.size := Nat.lt_of_lt_of_le hb hB
            have k1 : (0 : Int) < (t.length : Int) := by omega
            clear hl
            cases c5 : (headK t != 6)
            · go_enter Try.func57, Try.ntmps57
              go_wp2_with fail
              go_ret
              exact ⟨by rw [He.out, c0, c1, c2, c3, c4, c5]; rfl, bel_alloc _ _⟩
            · cases c6 : (headK t != 7)
              · go_enter Try.func57, Try.ntmps57
                go_wp2_with fail
                go_ret
                exact ⟨by rw [He.out, c0, c1, c2, c3, c4, c5, c6]; rfl, bel_alloc _ _⟩
              · go_enter Try.func57, Try.ntmps57
                go_wp2_with fail
                go_ret
                exact ⟨by rw [He.out, c0, c1, c2, c3, c4, c5, c6]; rfl, bel_alloc _ _⟩
end Go.Proofs.Ytapnighankepjaa.Da
