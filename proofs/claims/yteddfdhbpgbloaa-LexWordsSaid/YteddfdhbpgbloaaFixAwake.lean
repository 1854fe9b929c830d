/- What the document's texts of layer 1's numbers are, and that numbers are reckoned with. -/
import Derived.Test.YteddfdhbpgbloaaFixText
namespace Go.Proofs.Yteddfdhbpgbloaa.Fx
open Go.ChangeShapes Go.WideShapes Go.ChangeAt Go.RowKit

theorem ret_str {s t : ByteArray} (h : s = t) : Ending.returned (.string s) = Ending.returned (.string t) := by rw [h]
theorem one_conv (n : Nat) (w : World) :
    (convert 86 9 (.slice (some ⟨w.heap.size, 0, none⟩) 1 1)).run Try.prog (w.alloc (.cells #[.int .u8 (48 + (n : Int) % 10)] 5)) = .ok (.string ⟨[digB n].toArray⟩) (w.alloc (.cells #[.int .u8 (48 + (n : Int) % 10)] 5)) := by
  refine run_convert_bytes_back (P := Try.prog) _ 86 9 5 ⟨w.heap.size, 0, none⟩ 1 [digB n] Try.underlying86 Try.underlying5 Try.underlying9 (fun j hj => ?_)
  obtain rfl : j = 0 := by simpa using hj
  rw [show (⟨w.heap.size, 0, none⟩ : Addr).add 0 = ⟨w.heap.size, 0, none⟩ from rfl, World.cell?_alloc_mark]
  simp [digB_toNat]
theorem bel_alloc (w : World) (o : Obj) : Below w.heap.size w (w.alloc o) := (Below.refl _ _).alloc (Nat.le_refl _) o
theorem digits_ref_small (n : Nat) (w : World) (c : n < 10) :
    Calls Try.prog 103 #[.int .i64 (n : Int)] w fun e w' => e = .returned (.string ⟨(decL n).toArray⟩) ∧ Below w.heap.size w w' := by
  have hc := one_conv n w
  have d : decide ((n : Int) < 10) = true := by simp; omega
  rw [decL_small c]
  go_enter Try.func103, Try.ntmps103
  go_wp2_with fail
  go_ret
  exact ⟨rfl, bel_alloc _ _⟩
theorem digits_ref (k : Nat) : ∀ (n : Nat) (w : World), n ≤ k → n ≤ 1152921504606846976 →
    Calls Try.prog 103 #[.int .i64 (n : Int)] w fun e w' => e = .returned (.string ⟨(decL n).toArray⟩) ∧ Below w.heap.size w w' := by
  induction k with
  | zero => exact fun n w hk _ => digits_ref_small n w (by omega)
  | succ k ih =>
    intro n w hk hn
    by_cases c : n < 10
    · exact digits_ref_small n w c
    · have hc := one_conv n w
      have d : decide ((n : Int) < 10) = false := by simp; omega
      have hl := decL_len (n / 10)
      have hd := nd_fix (n := n / 10) (by omega)
      have e1 : (n : Int) / 10 = ((n / 10 : Nat) : Int) := by omega
      have Ih := Lib.hid ih
      obtain ⟨m, hm⟩ : ∃ m, n / 10 = m := ⟨_, rfl⟩
      have hmk : m ≤ k := by omega
      have hmn : m ≤ 1152921504606846976 := by omega
      rw [decL_big c, hm]
      rw [hm] at e1 hl hd
      have Hl := Lib.hid hl
      have hlen : (decL m).length ≤ 19 := by omega
      clear ih hm hl hk
      go_enter Try.func103, Try.ntmps103
      go_wp2_with (go_at_call 103; refine (Ih.out m _ hmk hmn).mono ?_; rintro e w' ⟨rfl, hb⟩; have Hb := Lib.hid hb; clear hb)
      go_ret
      exact ⟨ret_str (ByteArray.mk_append_mk _ _), bel_trans (bel_alloc _ _) Hb.out⟩
def textR (a : Int) : List UInt8 := if inB a = true then textL a else []
def textE (a : Int) : Int := if inB a = true then 0 else 1
theorem text_fix (a : Int) (w : World) :
    Calls Try.prog 57 #[.int .i64 a] w fun e w' => e = .returned (.tuple #[.string ⟨(textR a).toArray⟩, .int .i64 (textE a)]) ∧ Below w.heap.size w w' := by
  unfold textR textE
  cases ha : inB a
  · go_enter Try.func57, Try.ntmps57
    go_wp2_with (go_at_call 96; refine (in_fix _ _).mono ?_; rintro e w' ⟨rfl, rfl⟩)
    go_ret2
    exact ⟨rfl, bel_refl _⟩
  · exact text_fix_in a w ha
set_option maxHeartbeats 400000 in
theorem text_ref (a : Int) (w : World) :
    Calls Try.prog 63 #[.int .i64 a] w fun e w' => e = .returned (.tuple #[.string ⟨(textR a).toArray⟩, .int .i64 (textE a)]) ∧ Below w.heap.size w w' := by
  unfold textR textE
  cases ha : inB a
  · go_enter Try.func63, Try.ntmps63
    go_wp2_with (go_at_call 102; refine (in_ref _ _).mono ?_; rintro e w' ⟨rfl, rfl⟩)
    go_ret2
    exact ⟨rfl, bel_refl _⟩
  · have A1 := abs_in ha
    obtain ⟨a1, a2⟩ := in_yes ha
    have hl := decL_len a.natAbs
    have hd := nd_fix A1
    have hlen : (decL a.natAbs).length ≤ 19 := by omega
    clear hl hd
    unfold textL
    by_cases h0 : a < 0
    · rw [if_pos h0]
      have e1 : ((a.natAbs : Nat) : Int) = -a := by omega
      have E1 := Lib.hid e1
      clear e1
      go_enter Try.func63, Try.ntmps63
      go_wp2_with (first | (go_at_call 102; refine (in_ref _ _).mono ?_; rintro e w' ⟨rfl, rfl⟩) | (go_at_call 103; rw [← E1.out]; refine (digits_ref _ a.natAbs _ (Nat.le_refl _) A1).mono ?_; rintro e w' ⟨rfl, hb⟩; have Hb := Lib.hid hb; clear hb))
      go_ret2
      exact ⟨ret_text (ByteArray.mk_append_mk [45] _), Hb.out⟩
    · rw [if_neg h0]
      have d0 : decide (a < 0) = false := by simpa using h0
      have e1 : ((a.natAbs : Nat) : Int) = a := by omega
      have E1 := Lib.hid e1
      clear e1
      go_enter Try.func63, Try.ntmps63
      go_wp2_with (first | (go_at_call 102; refine (in_ref _ _).mono ?_; rintro e w' ⟨rfl, rfl⟩) | (go_at_call 103; rw [← E1.out]; refine (digits_ref _ a.natAbs _ (Nat.le_refl _) A1).mono ?_; rintro e w' ⟨rfl, hb⟩; have Hb := Lib.hid hb; clear hb))
      go_ret2
      exact ⟨rfl, Hb.out⟩
end Go.Proofs.Yteddfdhbpgbloaa.Fx
