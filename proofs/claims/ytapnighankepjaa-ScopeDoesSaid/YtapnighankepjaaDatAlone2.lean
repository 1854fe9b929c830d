/- What the document asks of a text and of a symbol by themselves. -/
import Derived.Test.YtapnighankepjaaDatAlone
namespace Go.Proofs.Ytapnighankepjaa.Da
open Go.ChangeShapes Go.WideShapes Go.ChangeAt Go.RowKit

def TxAt (s : ByteArray) (i : Value) : Prop := ∃ k : Nat, k ≤ s.size ∧ k ≤ 256 ∧ i = .int .i64 (k : Int) ∧ (s.data.toList.take k).all lowB = true
def MkAt (m : List Int) (i : Value) : Prop := ∃ k : Nat, k ≤ m.length ∧ k ≤ 16 ∧ i = .int .i64 (k : Int) ∧ (m.take k).all markB = true
set_option linter.unusedVariables false in
set_option linter.unusedSimpArgs false in
set_option maxRecDepth 100000 in
set_option maxHeartbeats 2000000 in
theorem alone_4 (n : Int) (s : ByteArray) (m : List Int) (l t : List Dt) (am : Option Addr) (cm : Nat) (al : Option Addr) (cl : Nat) (at_ : Option Addr) (ct : Nat) (B : Nat) (w : World) (hs : s.size ≤ maxLen) (hB : B ≤ w.heap.size) (hm : IntRow w (Lo B) am m.length cm m) (h2 : IsSl al l.length cl) (ht : IsSl at_ t.length ct) (hts : IsDts w (Lo B) at_ 0 t) :
    Calls Try.prog 57 #[.agg #[.int .i64 4, .int .i64 n, .string s, .slice am m.length cm, .slice al l.length cl, .slice at_ t.length ct]] w fun e w' => e = .returned (.bool (properOf 4 n s m l t)) ∧ Below w.heap.size w w' := by
  have h1 : (m.length : Int) ≤ 17592186044416 := by have a := hm.2.1; have b := hm.2.2.2.1; omega
  have h3 : (l.length : Int) ≤ 17592186044416 := by have a := h2.1; have b := h2.2.2.1; omega
  have h4 : (t.length : Int) ≤ 17592186044416 := by have a := ht.1; have b := ht.2.2.1; omega
  have he : properOf 4 n s m l t = (textB s && ((n == 0) && (((m.length : Int) == 0) && (((l.length : Int) == 0) && (((t.length : Int) == 0)))))) := by
    simp only [properOf, nil3_eq, nil2_eq, nil1, Bool.and_assoc, if_true, if_false, show ¬ (4 : Int) = 1 by decide, show ¬ (4 : Int) = 2 by decide, show ¬ (4 : Int) = 3 by decide]
  have He := Lib.hid he
  clear he hm h2
  have hs' : s.size ≤ 9223372036854775807 := by unfold maxLen at hs; omega
  go_enter Try.func57, Try.ntmps57
  go_wp2_with fail
  go_loop [8] (fun i => TxAt s i) (fun i => s.size - (intOf i).toNat)
  case atStart => exact ⟨0, Nat.zero_le _, by omega, rfl, rfl⟩
  case round =>
    obtain ⟨k, hk, hk2, rfl, ha⟩ := hrel
    have Ha := Lib.hid ha
    clear ha
    by_cases hlt : k < s.size
    · have dl : decide ((k : Int) < (s.size : Int)) = true := by simp [hlt]
      by_cases h256 : (k : Int) ≥ 256
      · have dg : decide ((k : Int) ≥ 256) = true := by simpa using h256
        have HB := Lib.hid (show textB s = false by unfold textB; rw [decide_eq_true (show 256 < (s.size : Int) by omega)]; rfl)
        clear h256
        go_wp2_with fail
        go_ret
        exact ⟨by rw [He.out, HB.out]; rfl, bel_alloc _ _⟩

      · have dg : decide ((k : Int) ≥ 256) = false := by simpa using h256
        have hn := all_snoc s lowB k hlt
        have hno := all_no s lowB k hlt
        have hq : lowB s[k] = !decide ((s[k].toNat : Int) > 127) := by unfold lowB; congr 1
        rw [Ha.out] at hn
        cases hb : decide ((s[k].toNat : Int) > 127)
        · rw [hb] at hq
          rw [hq] at hn
          have Hn := Lib.hid hn
          have Hk := Lib.hid h256
          clear hn hno hq h256
          go_wp2_with fail
          go_round
          case rel => exact ⟨k + 1, by omega, by have := Hk.out; omega, by go_num, Hn.out⟩
          case measure => simp [intOf]; omega
        · rw [hb] at hq
          have HB := Lib.hid (show textB s = false by unfold textB; rw [hno (by rw [hq]; rfl)]; simp)
          clear hn hno hq h256
          go_wp2_with fail
          go_ret
          exact ⟨by rw [He.out, HB.out]; rfl, bel_alloc _ _⟩

    · have dl : decide ((k : Int) < (s.size : Int)) = false := by simp [hlt]
      have hf := all_full s lowB k (by omega)
      rw [Ha.out] at hf
      have HT := Lib.hid (show textB s = true by unfold textB; rw [← hf, decide_eq_false (show ¬ 256 < (s.size : Int) by omega)]; rfl)
      clear hf
      cases c0 : (n == 0)
      · go_wp2_with fail
        go_ret
        exact ⟨by rw [He.out, HT.out, c0]; rfl, bel_alloc _ _⟩
      · cases c1 : ((m.length : Int) == 0)
        · go_wp2_with fail
          go_ret
          exact ⟨by rw [He.out, HT.out, c0, c1]; rfl, bel_alloc _ _⟩
        · cases c2 : ((l.length : Int) == 0)
          · go_wp2_with fail
            go_ret
            exact ⟨by rw [He.out, HT.out, c0, c1, c2]; rfl, bel_alloc _ _⟩
          · cases c3 : ((t.length : Int) == 0)
            · go_wp2_with fail
              go_ret
              exact ⟨by rw [He.out, HT.out, c0, c1, c2, c3]; rfl, bel_alloc _ _⟩
            · go_wp2_with fail
              go_ret
              exact ⟨by rw [He.out, HT.out, c0, c1, c2, c3]; rfl, bel_alloc _ _⟩
set_option linter.unusedVariables false in
set_option linter.unusedSimpArgs false in
set_option maxRecDepth 100000 in
set_option maxHeartbeats 2000000 in
theorem alone_5 (n : Int) (s : ByteArray) (m : List Int) (l t : List Dt) (am : Option Addr) (cm : Nat) (al : Option Addr) (cl : Nat) (at_ : Option Addr) (ct : Nat) (B : Nat) (w : World) (hs : s.size ≤ maxLen) (hB : B ≤ w.heap.size) (hm : IntRow w (Lo B) am m.length cm m) (h2 : IsSl al l.length cl) (ht : IsSl at_ t.length ct) (hts : IsDts w (Lo B) at_ 0 t) :
    Calls Try.prog 57 #[.agg #[.int .i64 5, .int .i64 n, .string s, .slice am m.length cm, .slice al l.length cl, .slice at_ t.length ct]] w fun e w' => e = .returned (.bool (properOf 5 n s m l t)) ∧ Below w.heap.size w w' := by
  have h1 : (m.length : Int) ≤ 17592186044416 := by have a := hm.2.1; have b := hm.2.2.2.1; omega
  have h3 : (l.length : Int) ≤ 17592186044416 := by have a := h2.1; have b := h2.2.2.1; omega
  have h4 : (t.length : Int) ≤ 17592186044416 := by have a := ht.1; have b := ht.2.2.1; omega
  have he : properOf 5 n s m l t = (symB s && (marksB m && ((n == 0) && (((l.length : Int) == 0) && (((t.length : Int) == 0)))))) := by
    simp only [properOf, nil3_eq, nil2_eq, nil1, Bool.and_assoc, if_true, if_false, show ¬ (5 : Int) = 1 by decide, show ¬ (5 : Int) = 2 by decide, show ¬ (5 : Int) = 3 by decide, show ¬ (5 : Int) = 4 by decide]
  have He := Lib.hid he
  have Hm := Lib.hid hm
  clear he h2 hm
  go_enter Try.func57, Try.ntmps57
  go_wp2_with fail
  go_loop [9] (fun i => MkAt m i) (fun i => m.length - (intOf i).toNat)
  case atStart => exact ⟨0, Nat.zero_le _, by omega, rfl, rfl⟩
  case round =>
    obtain ⟨k, hk, hk2, rfl, ha⟩ := hrel
    have Ha := Lib.hid ha
    clear ha
    by_cases hlt : k < m.length
    · have dl : decide ((k : Int) < (m.length : Int)) = true := by simp [hlt]
      by_cases h16 : (k : Int) ≥ 16
      · have dg : decide ((k : Int) ≥ 16) = true := by simpa using h16
        have HB := Lib.hid (show (symB s && (marksB m && ((n == 0) && (((l.length : Int) == 0) && ((t.length : Int) == 0))))) = false by unfold marksB; rw [decide_eq_true (show 16 < (m.length : Int) by omega)]; simp)
        clear h16
        go_wp2_with fail
        go_ret
        exact ⟨by rw [He.out, HB.out]; rfl, bel_alloc _ _⟩

      · have dg : decide ((k : Int) ≥ 16) = false := by simpa using h16
        obtain ⟨b, off, rfl, hb, hc⟩ := Hm.out.2.2.2.2.2.2 k hlt
        have hb1 : b < w.heap.size := Nat.lt_of_lt_of_le hb hB
        have hn := allI_snoc m markB k hlt
        have hno := allI_no m markB k hlt
        obtain ⟨x, hx⟩ : ∃ x, m.getD k 0 = x := ⟨_, rfl⟩
        rw [hx] at hc hn hno
        have hq : markB x = !(decide (x < 1) || decide (x > 1048576)) := rfl
        have k0 : (0 : Int) ≤ (k : Int) := Int.natCast_nonneg _
        have k1 : (k : Int) < (m.length : Int) := by omega
        rw [Ha.out] at hn
        have Hk := Lib.hid h16
        clear hb hx h16
        cases e1 : decide (x < 1)
        · cases e2 : decide (x > 1048576)
          · rw [e1, e2] at hq
            rw [hq] at hn
            have Hn := Lib.hid hn
            clear hn hno hq
            go_wp2_with fail
            go_round
            case rel => exact ⟨k + 1, by omega, by have := Hk.out; omega, by go_num, Hn.out⟩
            case measure => simp [intOf]; omega
          · rw [e1, e2] at hq
            have HB := Lib.hid (show (symB s && (marksB m && ((n == 0) && (((l.length : Int) == 0) && ((t.length : Int) == 0))))) = false by unfold marksB; rw [hno (by rw [hq]; rfl)]; simp)
            clear hn hno hq
            go_wp2_with fail
            go_ret
            exact ⟨by rw [He.out, HB.out]; rfl, bel_alloc _ _⟩

        · rw [e1] at hq
          have HB := Lib.hid (show (symB s && (marksB m && ((n == 0) && (((l.length : Int) == 0) && ((t.length : Int) == 0))))) = false by unfold marksB; rw [hno (by rw [hq]; rfl)]; simp)
          clear hn hno hq
          go_wp2_with fail
          go_ret
          exact ⟨by rw [He.out, HB.out]; rfl, bel_alloc _ _⟩

    · have dl : decide ((k : Int) < (m.length : Int)) = false := by simp [hlt]
      have hf := allI_full m markB k (by omega)
      rw [Ha.out] at hf
      have HT := Lib.hid (show marksB m = true by unfold marksB; rw [← hf, decide_eq_false (show ¬ 16 < (m.length : Int) by omega)]; rfl)
      clear hf
      obtain ⟨sy, hsy⟩ : ∃ sy, symB s = sy := ⟨_, rfl⟩
      have HS := Lib.hid hsy
      clear hsy
      cases sy
      · go_wp2_with (go_at_call 65; refine (rsymbol_any s _ hs).mono ?_; rintro e w' ⟨rfl, rfl⟩; rw [HS.out])
        go_ret
        exact ⟨by rw [He.out, HS.out]; rfl, bel_alloc _ _⟩
      · skip
        cases c0 : (n == 0)
        · go_wp2_with (go_at_call 65; refine (rsymbol_any s _ hs).mono ?_; rintro e w' ⟨rfl, rfl⟩; rw [HS.out])
          go_ret
          exact ⟨by rw [He.out, HS.out, HT.out, c0]; rfl, bel_alloc _ _⟩
        · cases c1 : ((l.length : Int) == 0)
          · go_wp2_with (go_at_call 65; refine (rsymbol_any s _ hs).mono ?_; rintro e w' ⟨rfl, rfl⟩; rw [HS.out])
            go_ret
            exact ⟨by rw [He.out, HS.out, HT.out, c0, c1]; rfl, bel_alloc _ _⟩
          · cases c2 : ((t.length : Int) == 0)
            · go_wp2_with (go_at_call 65; refine (rsymbol_any s _ hs).mono ?_; rintro e w' ⟨rfl, rfl⟩; rw [HS.out])
              go_ret
              exact ⟨by rw [He.out, HS.out, HT.out, c0, c1, c2]; rfl, bel_alloc _ _⟩
            · go_wp2_with (go_at_call 65; refine (rsymbol_any s _ hs).mono ?_; rintro e w' ⟨rfl, rfl⟩; rw [HS.out])
              go_ret
              exact ⟨by rw [He.out, HS.out, HT.out, c0, c1, c2]; rfl, bel_alloc _ _⟩
end Go.Proofs.Ytapnighankepjaa.Da
