/- What the texts of layer 1's numbers, and the document's, are: for every number of 64 bits. -/
import Derived.Test.YteddfdhbpgbloaaFixSqrt
import Derived.Test.YteddfdhbpgbloaaFixDec
import Derived.OwnWalk
namespace Go.Proofs.Yteddfdhbpgbloaa.Fx
open Go.ChangeShapes Go.WideShapes Go.ChangeAt Go.RowKit

def DigAt (n : Nat) (m c : Value) : Prop := ∃ r k : Nat, m = .int .u64 (r : Int) ∧ c = .int .i64 (k : Int) ∧ k + nd r = nd n + 1 ∧ r ≤ n
theorem digits_fix (n : Nat) (w : World) (hn : n ≤ 1152921504606846976) :
    Calls Try.prog 98 #[.int .u64 (n : Int)] w fun e w' => e = .returned (.int .i64 ((nd n : Nat) : Int)) ∧ w = w' := by
  have hd := nd_fix hn
  go_enter Try.func98, Try.ntmps98
  go_wp2
  go_loop [0, 3] (fun m c => DigAt n m c) (fun m _ => (intOf m).toNat)
  case atStart => exact ⟨n, 1, rfl, rfl, by omega, Nat.le_refl _⟩
  case round =>
    obtain ⟨r, k, rfl, rfl, hk, hr⟩ := hrel
    have p := nd_pos r
    by_cases c : r < 10
    · obtain rfl : k = nd n := by rw [nd_small c] at hk; omega
      have d : decide ((10 : Int) ≤ (r : Int)) = false := by simp; omega
      clear hk
      go_wp2
      go_ret
      exact ⟨rfl, rfl⟩
    · have hs := nd_big c
      have Hk := Lib.hid (show k + 1 + nd (r / 10) = nd n + 1 from by omega)
      have kb : k ≤ 20 := by omega
      clear hk hs p
      go_wp2
      go_round
      case rel => exact ⟨r / 10, k + 1, by go_num, by go_num, Hk.out, by omega⟩
      case measure => simp [intOf]; omega
theorem info_u8 : (Try.prog.info? 5).map (fun i => (i.zero, i.size, i.bytes)) = some (some (.int .u8 0), 1, 1) := by kernel_rfl
/-- The cells of the text as far as it is written: from its end. -/
def rowAt (n i : Nat) : List Value := List.replicate (nd n - i) (.int .u8 0) ++ (lastD n i).map (fun b => Value.int .u8 (b.toNat : Int))
theorem rowAt_len (n i : Nat) (h : i ≤ nd n) : (rowAt n i).length = nd n := by simp [rowAt, lastD_len]; omega
theorem rowAt_step (n i : Nat) (h : i < nd n) : (rowAt n i).set (nd n - 1 - i) (.int .u8 (48 + ((cutD n i : Nat) : Int) % 10)) = rowAt n (i + 1) := by
  unfold rowAt
  have e : nd n - i = (nd n - (i + 1)) + 1 := by omega
  have e2 : nd n - 1 - i = nd n - (i + 1) := by omega
  rw [e, e2, List.replicate_succ', List.append_assoc, List.set_append_right _ _ (by simp)]
  simp [lastD, digB_toNat]
theorem ret_text {s t : ByteArray} {v : Value} (h : s = t) : Ending.returned (.tuple #[.string s, v]) = Ending.returned (.tuple #[.string t, v]) := by rw [h]
def TextAt (n : Nat) (w : World) (m i : Value) (wr : World) : Prop :=
  ∃ k : Nat, k ≤ nd n ∧ m = .int .u64 ((cutD n k : Nat) : Int) ∧ i = .int .i64 (k : Int) ∧ wr.ownsRow w.heap.size 5 1 (.slice (some ⟨w.heap.size, 0, none⟩) (nd n) (nd n)) (nd n) (rowAt n k) ∧ Below w.heap.size w wr
theorem text_conv (n : Nat) (W wr : World) (h : wr.ownsRow W.heap.size 5 1 (.slice (some ⟨W.heap.size, 0, none⟩) (nd n) (nd n)) (nd n) (rowAt n (nd n))) :
    (convert 86 9 (.slice (some ⟨W.heap.size, 0, none⟩) (nd n) (nd n))).run Try.prog wr = .ok (.string ⟨(decL n).toArray⟩) wr := by
  have := run_convert_bytes_back (P := Try.prog) wr 86 9 5 ⟨W.heap.size, 0, none⟩ (nd n) (decL n) Try.underlying86 Try.underlying5 Try.underlying9 (fun j hj => by
    rw [decL_len] at hj
    have hc := h.cellAt j (by omega)
    rw [show (⟨W.heap.size, 0, none⟩ : Addr).add j = ⟨W.heap.size, j, none⟩ from by simp [Addr.add]; exact Eq.symm]
    rw [hc]
    simp [rowAt, lastD_all, List.getElem?_eq_getElem (by rw [decL_len]; exact hj : j < (decL n).length)])
  rw [decL_len] at this
  exact this
set_option maxHeartbeats 800000 in
theorem text_fix_in (a : Int) (w : World) (ha : inB a = true) :
    Calls Try.prog 57 #[.int .i64 a] w fun e w' => e = .returned (.tuple #[.string ⟨(textL a).toArray⟩, .int .i64 0]) ∧ Below w.heap.size w w' := by
  have A1 := abs_in ha
  have hd := nd_fix A1
  have hp := nd_pos a.natAbs
  obtain ⟨a1, a2⟩ := in_yes ha
  obtain ⟨i0, hi, hz0, hz1, hz2⟩ := info_parts info_u8
  obtain ⟨L, hL⟩ : ∃ L, textL a = L := ⟨_, rfl⟩
  rw [hL]
  have HL := Lib.hid hL
  clear hL
  go_enter Try.func57, Try.ntmps57
  go_wp2_with (first | (go_at_call 96; refine (in_fix _ _).mono ?_; rintro e w' ⟨rfl, rfl⟩) | (go_at_call 97; refine (size_fix _ _ ha).mono ?_; rintro e w' ⟨rfl, rfl⟩) | (go_at_call 98; refine (digits_fix _ _ A1).mono ?_; rintro e w' ⟨rfl, rfl⟩) | (at_make; refine wpList_make_full _ rfl _ _ 86 rfl w.heap.size 5 i0 (.int .u8 0) 1 Try.underlying86 hi hz0 hz1 _ _ _ _ (nd a.natAbs) rfl rfl rfl rfl ?b2 ?b3 (Nat.le_refl _) ?_))
  case b2 => rw [hz2]; omega
  case b3 => unfold maxLen; omega
  intro w1 hown hgrow
  have Hown := Lib.hid hown
  have Hgrow := Lib.hid hgrow
  clear hown hgrow
  go_wp2
  go_loopw [4, 18] (fun m i wr => TextAt a.natAbs w m i wr) (fun _ i _ => nd a.natAbs - (intOf i).toNat)
  case atStart => exact ⟨0, Nat.zero_le _, rfl, rfl, by have := Hown.out; simpa [rowAt, lastD, toList_madeCells_one, Value.cells] using this, (Below.refl _ _).grown Hgrow.out (Nat.le_refl _) (fun k h => by cases h)⟩
  case round =>
    obtain ⟨k, hk, rfl, rfl, hown, hb⟩ := hrel
    have Hown2 := Lib.hid hown
    have hsz := hb.size
    have Hb := Lib.hid hb
    have cle := cutD_le a.natAbs k
    clear hown hb Hown Hgrow w1 hi hz0 hz1 hz2 i0
    by_cases hlt : k < nd a.natAbs
    · have cc : wr.cell? ⟨w.heap.size, nd a.natAbs - 1 - k, none⟩ = some (.int .u8 0) := by
        rw [Hown2.out.cellAt _ (by omega), rowAt, List.getElem?_append_left (by rw [List.length_replicate]; omega), List.getElem?_replicate, if_pos (by omega)]
      have cf : wr.frozen? ⟨w.heap.size, nd a.natAbs - 1 - k, none⟩ = false := Hown2.out.frozenAt _
      have dlt : decide ((k : Int) < ((nd a.natAbs : Nat) : Int)) = true := by simp [hlt]
      go_wp2
      go_roundw
      case rel =>
        refine ⟨k + 1, hlt, by show _ = Value.int .u64 (((cutD a.natAbs k) / 10 : Nat) : Int); go_num, by go_num, ?_, Hb.out.setCell (Nat.le_refl _) _⟩
        rw [← rowAt_step _ _ hlt]
        exact (Hown2.out.stored _ _).1
      case measure => simp [intOf]; omega
    · obtain rfl : k = nd a.natAbs := by omega
      have dlt : decide (((nd a.natAbs : Nat) : Int) < ((nd a.natAbs : Nat) : Int)) = false := by simp
      have hcv := text_conv a.natAbs w wr Hown2.out
      have hlen : (decL a.natAbs).length ≤ 19 := by rw [decL_len]; exact hd
      by_cases h0 : a < 0
      · obtain rfl : L = 45 :: decL a.natAbs := by rw [← HL.out, textL, if_pos h0]
        go_wp2
        go_ret2
        exact ⟨ret_text (ByteArray.mk_append_mk [45] (decL a.natAbs)), Hb.out⟩
      · obtain rfl : L = decL a.natAbs := by rw [← HL.out, textL, if_neg h0]
        have d0 : decide (a < 0) = false := by simpa using h0
        go_wp2
        go_ret2
        exact ⟨rfl, Hb.out⟩
end Go.Proofs.Yteddfdhbpgbloaa.Fx
