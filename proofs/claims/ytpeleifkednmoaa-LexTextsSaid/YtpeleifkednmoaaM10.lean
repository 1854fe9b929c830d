/- What a run means (layer 3): the program's functions. -/
import Derived.Test.YtpeleifkednmoaaM9
import Derived.Laws.IdiomRangeMap
import Derived.OwnWalk
import Derived.Laws.BytesString
import Derived.Laws.BytesArg
import Derived.Maps.AppendAt
import Derived.Test.YtpeleifkednmoaaM1
import Derived.Test.YtpeleifkednmoaaM4
section
namespace Go.Proofs.Ytpeleifkednmoaa.Lx
open Go.ChangeShapes Go.WideShapes Go.ChangeAt Go.RowKit
set_option linter.unusedVariables false

def digitsL : Bs := [48, 49, 50, 51, 52, 53, 54, 55, 56, 57, 97, 98, 99, 100, 101, 102]
/-- A digit's number, or -1. -/
def hexV (c : UInt8) : Int := Lib.indexByte digitsL c
theorem hexV_all : ∀ n : Fin 256, -1 ≤ hexV (UInt8.ofNat n.val) ∧ hexV (UInt8.ofNat n.val) ≤ 15 := by decide +kernel
theorem hexV_le (c : UInt8) : -1 ≤ hexV c ∧ hexV c ≤ 15 := by
  have h := hexV_all ⟨c.toNat, c.toNat_lt⟩
  simpa using h
theorem hexV_any (c : UInt8) (w : World) :
    Calls Try.prog 62 #[.string ⟨#[48, 49, 50, 51, 52, 53, 54, 55, 56, 57, 97, 98, 99, 100, 101, 102]⟩, .int .u8 (c.toNat : Int)] w fun e w' => e = .returned (.int .i64 (hexV c)) ∧ w' = w := by
  have hx := Try.strings_IndexByte ⟨digitsL.toArray⟩ (c.toNat : Int) w
  rw [show ((c.toNat : Int)).toNat.toUInt8 = c by simp] at hx
  exact hx
/-- The character of a code, or -1. -/
def decI (l : Bs) : Int := match l with
  | [c, a, b] => if c = 120 ∧ 0 ≤ hexV a ∧ hexV a ≤ 7 ∧ 0 ≤ hexV b then 16 * hexV a + hexV b else -1
  | _ => -1
theorem decI_le (l : Bs) : -1 ≤ decI l ∧ decI l ≤ 127 := by
  unfold decI
  split
  · next c a b =>
    have h1 := hexV_le a
    have h2 := hexV_le b
    split <;> omega
  · omega
def decV (l : Bs) : Int := if 0 ≤ decI l then decI l else 0
theorem list_three (s : ByteArray) (h : s.size = 3) : s.data.toList = [s[0], s[1], s[2]] := by
  have h0 := drop_at s 0 (by omega)
  rw [List.drop_zero] at h0
  rw [h0, drop_at s 1 (by omega), drop_at s 2 (by omega), drop_none s 3 (by omega)]
theorem decI_short {s : ByteArray} (h : s.size ≠ 3) : decI s.data.toList = -1 := by
  unfold decI
  split
  · next c a b e =>
    exact absurd (by rw [← len_of, e]; rfl) h
  · rfl
def DecR (v : Int) (b : Bool) : Value := .tuple #[.int .u8 v, .bool b]
set_option maxRecDepth 100000 in
set_option maxHeartbeats 1000000 in
theorem decode_any (s : ByteArray) (w : World) (hs : s.size ≤ maxLen) :
    Calls Try.prog 67 #[.string s] w fun e w' => e = .returned (.tuple #[.int .u8 (decV s.data.toList), .bool (decide (0 ≤ decI s.data.toList))]) ∧ ∃ n, w' = w.drewN n := by
  unfold maxLen at hs
  by_cases h3 : s.size = 3
  · have h3 := Lib.hid h3
    have hl := list_three s h3.out
    have hsz : ((s.size : Int) != 3) = false := by have := h3.out; simp; omega
    have i1 : (1 : Int) < s.size := by have := h3.out; omega
    have i2 : (2 : Int) < s.size := by have := h3.out; omega
    have i0 : 0 < s.size := by have := h3.out; omega
    by_cases hx : s[0] = 120
    · have hd : decI s.data.toList = if (0 : Int) ≤ hexV s[1] ∧ hexV s[1] ≤ (7 : Int) ∧ (0 : Int) ≤ hexV s[2] then (16 : Int) * hexV s[1] + hexV s[2] else (-1 : Int) := by
        rw [hl]; show (if s[0] = 120 ∧ _ then _ else _) = _; simp only [hx, true_and]
      have b1 := hexV_le s[1]
      have b2 := hexV_le s[2]
      have H1 := Lib.hid (hexV_any s[1])
      have H2 := Lib.hid (hexV_any s[2])
      have n0 : ((s[0].toNat : Int) != 120) = false := by rw [hx]; rfl
      generalize hexV s[1] = x at *
      generalize hexV s[2] = y at *
      have hv : decV s.data.toList = if 0 ≤ x ∧ x ≤ 7 ∧ 0 ≤ y then 16 * x + y else 0 := by
        unfold decV; rw [hd]
        by_cases hc : 0 ≤ x ∧ x ≤ 7 ∧ 0 ≤ y
        · rw [if_pos hc, if_pos hc, if_pos (show (0 : Int) ≤ 16 * x + y by omega)]
        · rw [if_neg hc, if_neg hc]; rfl
      rw [hv, hd]
      clear hl hx hd hv
      by_cases c1 : x < 0
      · have d1 : decide (x < 0) = true := by simpa using c1
        have e1 : ¬ (0 ≤ x ∧ x ≤ 7 ∧ 0 ≤ y) := by omega
        rw [if_neg e1, if_neg e1]
        clear e1
        go_enter Try.func67, Try.ntmps67
        go_wp2_with fail
        go_quiet ((go_at_call 62; first | exact Calls.quiet_of_same (H1.out _) | exact Calls.quiet_of_same (H2.out _)))
        go_wp2_with fail
        go_ret2
        exact ⟨rfl, _, rfl⟩
      · have d1 : decide (x < 0) = false := by simpa using c1
        by_cases c2 : x > 7
        · have d2 : decide (x > 7) = true := by simpa using c2
          have e1 : ¬ (0 ≤ x ∧ x ≤ 7 ∧ 0 ≤ y) := by omega
          rw [if_neg e1, if_neg e1]
          clear e1
          go_enter Try.func67, Try.ntmps67
          go_wp2_with fail
          go_quiet ((go_at_call 62; first | exact Calls.quiet_of_same (H1.out _) | exact Calls.quiet_of_same (H2.out _)))
          go_wp2_with fail
          go_ret2
          exact ⟨rfl, _, rfl⟩
        · have d2 : decide (x > 7) = false := by simpa using c2
          by_cases c3 : y < 0
          · have d3 : decide (y < 0) = true := by simpa using c3
            have e1 : ¬ (0 ≤ x ∧ x ≤ 7 ∧ 0 ≤ y) := by omega
            rw [if_neg e1, if_neg e1]
            clear e1
            go_enter Try.func67, Try.ntmps67
            go_wp2_with fail
            go_quiet ((go_at_call 62; first | exact Calls.quiet_of_same (H1.out _) | exact Calls.quiet_of_same (H2.out _)))
            go_wp2_with fail
            go_ret2
            exact ⟨rfl, _, rfl⟩
          · have d3 : decide (y < 0) = false := by simpa using c3
            have e1 : (0 ≤ x ∧ x ≤ 7 ∧ 0 ≤ y) := by omega
            rw [if_pos e1, if_pos e1]
            have e2 : decide (0 ≤ 16 * x + y) = true := by simp; omega
            rw [e2]
            have g1 : 0 ≤ x := by omega
            have g2 : x ≤ 7 := by omega
            have g3 : 0 ≤ y := by omega
            clear e1 c1 c2 c3
            go_enter Try.func67, Try.ntmps67
            go_wp2_with fail
            go_quiet ((go_at_call 62; first | exact Calls.quiet_of_same (H1.out _) | exact Calls.quiet_of_same (H2.out _)))
            go_wp2_with fail
            go_ret2
            exact ⟨rfl, _, rfl⟩
    · have hd : decI s.data.toList = -1 := by rw [hl]; show (if s[0] = 120 ∧ _ then _ else _) = _; rw [if_neg (by intro h; exact hx h.1)]
      have hv : decV s.data.toList = 0 := by unfold decV; rw [hd]; rfl
      rw [hv, hd]
      have n0 : ((s[0].toNat : Int) != 120) = true := by rw [bne, show ((s[0].toNat : Int) == 120) = (s[0] == 120) from u8_toNat _ 120 (by decide)]; simp; exact hx
      clear hl hx hd hv
      go_enter Try.func67, Try.ntmps67
      go_wp2_with fail
      go_ret2
      exact ⟨rfl, 0, rfl⟩
  · have hd := decI_short h3
    have hv : decV s.data.toList = 0 := by unfold decV; rw [hd]; rfl
    rw [hv, hd]
    have hsz : ((s.size : Int) != 3) = true := by simp; omega
    clear hd hv h3
    go_enter Try.func67, Try.ntmps67
    go_wp2_with fail
    go_ret2
    exact ⟨rfl, 0, rfl⟩
end Go.Proofs.Ytpeleifkednmoaa.Lx
end
section
namespace Go.Proofs.Ytpeleifkednmoaa.Lx
open Go.ChangeShapes Go.WideShapes Go.ChangeAt Go.RowKit
set_option linter.unusedVariables false

theorem bel_refl (w : World) : Below w.heap.size w w := Below.refl _ _
theorem bel_trans {a b c : World} (h : Below a.heap.size a b) (k : Below b.heap.size b c) : Below a.heap.size a c := h.trans (k.mono h.size)
theorem bel_alloc (w : World) (o : Obj) : Below w.heap.size w (w.alloc o) := (Below.refl _ _).alloc (Nat.le_refl _) o
theorem bel_drewN (w : World) : ∀ n, Below w.heap.size w (w.drewN n)
  | 0 => Below.refl _ _
  | n + 1 => by
    have h := bel_drewN w n
    exact ⟨h.os, h.tape, h.output, h.size, h.block⟩
theorem decode_bel (s : ByteArray) (w : World) (hs : s.size ≤ maxLen) :
    Calls Try.prog 67 #[.string s] w fun e w' => e = .returned (.tuple #[.int .u8 (decV s.data.toList), .bool (decide (0 ≤ decI s.data.toList))]) ∧ Below w.heap.size w w' :=
  (decode_any s w hs).mono fun e w' ⟨h, n, hn⟩ => ⟨h, by rw [hn]; exact bel_drewN w n⟩
theorem ext_le (s : ByteArray) (a b : Nat) : (s.extract a b).size ≤ s.size := by
  rw [← len_of, Lib.extract_data, List.length_take, List.length_drop, len_of]; omega
/-- The first character whose escape a text begins with. -/
def escF : List UInt8 → Bs → Option UInt8
  | [], _ => none
  | c :: r, l => if Lib.hasPrefix l (escapeS c) = true then some c else escF r l
def escs : List UInt8 := [10, 9, 92, 34]
def codeL (l : Bs) : Bs := (l.drop 1).take 3
def unescV (l : Bs) : Int := match escF escs l with | some c => (c.toNat : Int) | none => decV (codeL l)
def unescN (l : Bs) : Int := match escF escs l with | some _ => 2 | none => min (l.length : Int) 4
def unescB (l : Bs) : Bool := match escF escs l with | some _ => true | none => decide (0 ≤ decI (codeL l))
def EscAt (l : Bs) (E : Option UInt8) (i : Value) : Prop := ∃ k : Nat, k ≤ 4 ∧ i = .int .i64 (k : Int) ∧ E = escF (escs.drop k) l
set_option maxRecDepth 100000 in
set_option maxHeartbeats 4000000 in
theorem unescape_any (s : ByteArray) (w : World) (hs : s.size ≤ maxLen) (h0 : 0 < s.size) (v n : Int) (b : Bool) (hv : Hid (unescV s.data.toList = v)) (hn : Hid (unescN s.data.toList = n)) (hb : Hid (unescB s.data.toList = b)) :
    Calls Try.prog 64 #[.string s] w fun e w' => e = .returned (.tuple #[.int .u8 v, .int .i64 n, .bool b]) ∧ Below w.heap.size w w' := by
  have Hs := Lib.hid hs
  unfold maxLen at hs
  unfold unescV at hv
  unfold unescN at hn
  unfold unescB at hb
  rw [len_of] at hn
  obtain ⟨E, hE⟩ : ∃ E, escF escs s.data.toList = E := ⟨_, rfl⟩
  rw [hE] at hv hn hb
  have HE := Lib.hid hE
  clear hE
  go_enter Try.func64, Try.ntmps64
  go_wp2_with fail
  go_loop [9] (fun i => EscAt s.data.toList E i) (fun i => 4 - (intOf i).toNat)
  case atStart => exact ⟨0, by omega, rfl, HE.out.symm⟩
  case round =>
    obtain ⟨k, hk, rfl, ha⟩ := hrel
    have Ha := Lib.hid ha
    clear ha HE
    have hk' : k = 0 ∨ k = 1 ∨ k = 2 ∨ k = 3 ∨ k = 4 := by omega
    rcases hk' with rfl | rfl | rfl | rfl | rfl
    · obtain ⟨c, hc⟩ : ∃ c, Lib.hasPrefix s.data.toList (escapeS 10) = c := ⟨_, rfl⟩
      have hN : escF (escs.drop 0) s.data.toList = if c = true then some 10 else escF (escs.drop 1) s.data.toList := by rw [← hc]; rfl
      have Hb := Lib.hid hc
      have Hn := Lib.hid hN
      clear hc hN
      cases c
      · go_wp2_with (first | (go_at_call 37; refine (escape_any 10 _).mono ?_; rintro e w' ⟨rfl, rfl⟩) | (go_at_call 47; refine (hasPrefix_is s ⟨(escapeS 10).toArray⟩ _ false Hb).mono ?_; rintro e w' ⟨rfl, rfl⟩))
        go_round
        case rel => exact ⟨1, by omega, by go_num, by rw [Ha.out, Hn.out]; rfl⟩
        case measure => simp [intOf]
      · have hT : E = some 10 := by rw [Ha.out, Hn.out]; rfl
        subst hT
        obtain rfl : 10 = v := hv.out
        obtain rfl : 2 = n := hn.out
        obtain rfl : true = b := hb.out
        clear hv hn hb
        go_wp2_with (first | (go_at_call 37; refine (escape_any 10 _).mono ?_; rintro e w' ⟨rfl, rfl⟩) | (go_at_call 47; refine (hasPrefix_is s ⟨(escapeS 10).toArray⟩ _ true Hb).mono ?_; rintro e w' ⟨rfl, rfl⟩))
        go_ret3
        exact ⟨rfl, (Below.refl _ _).alloc (Nat.le_refl _) _⟩
    · obtain ⟨c, hc⟩ : ∃ c, Lib.hasPrefix s.data.toList (escapeS 9) = c := ⟨_, rfl⟩
      have hN : escF (escs.drop 1) s.data.toList = if c = true then some 9 else escF (escs.drop 2) s.data.toList := by rw [← hc]; rfl
      have Hb := Lib.hid hc
      have Hn := Lib.hid hN
      clear hc hN
      cases c
      · go_wp2_with (first | (go_at_call 37; refine (escape_any 9 _).mono ?_; rintro e w' ⟨rfl, rfl⟩) | (go_at_call 47; refine (hasPrefix_is s ⟨(escapeS 9).toArray⟩ _ false Hb).mono ?_; rintro e w' ⟨rfl, rfl⟩))
        go_round
        case rel => exact ⟨2, by omega, by go_num, by rw [Ha.out, Hn.out]; rfl⟩
        case measure => simp [intOf]
      · have hT : E = some 9 := by rw [Ha.out, Hn.out]; rfl
        subst hT
        obtain rfl : 9 = v := hv.out
        obtain rfl : 2 = n := hn.out
        obtain rfl : true = b := hb.out
        clear hv hn hb
        go_wp2_with (first | (go_at_call 37; refine (escape_any 9 _).mono ?_; rintro e w' ⟨rfl, rfl⟩) | (go_at_call 47; refine (hasPrefix_is s ⟨(escapeS 9).toArray⟩ _ true Hb).mono ?_; rintro e w' ⟨rfl, rfl⟩))
        go_ret3
        exact ⟨rfl, (Below.refl _ _).alloc (Nat.le_refl _) _⟩
    · obtain ⟨c, hc⟩ : ∃ c, Lib.hasPrefix s.data.toList (escapeS 92) = c := ⟨_, rfl⟩
      have hN : escF (escs.drop 2) s.data.toList = if c = true then some 92 else escF (escs.drop 3) s.data.toList := by rw [← hc]; rfl
      have Hb := Lib.hid hc
      have Hn := Lib.hid hN
      clear hc hN
      cases c
      · go_wp2_with (first | (go_at_call 37; refine (escape_any 92 _).mono ?_; rintro e w' ⟨rfl, rfl⟩) | (go_at_call 47; refine (hasPrefix_is s ⟨(escapeS 92).toArray⟩ _ false Hb).mono ?_; rintro e w' ⟨rfl, rfl⟩))
        go_round
        case rel => exact ⟨3, by omega, by go_num, by rw [Ha.out, Hn.out]; rfl⟩
        case measure => simp [intOf]
      · have hT : E = some 92 := by rw [Ha.out, Hn.out]; rfl
        subst hT
        obtain rfl : 92 = v := hv.out
        obtain rfl : 2 = n := hn.out
        obtain rfl : true = b := hb.out
        clear hv hn hb
        go_wp2_with (first | (go_at_call 37; refine (escape_any 92 _).mono ?_; rintro e w' ⟨rfl, rfl⟩) | (go_at_call 47; refine (hasPrefix_is s ⟨(escapeS 92).toArray⟩ _ true Hb).mono ?_; rintro e w' ⟨rfl, rfl⟩))
        go_ret3
        exact ⟨rfl, (Below.refl _ _).alloc (Nat.le_refl _) _⟩
    · obtain ⟨c, hc⟩ : ∃ c, Lib.hasPrefix s.data.toList (escapeS 34) = c := ⟨_, rfl⟩
      have hN : escF (escs.drop 3) s.data.toList = if c = true then some 34 else escF (escs.drop 4) s.data.toList := by rw [← hc]; rfl
      have Hb := Lib.hid hc
      have Hn := Lib.hid hN
      clear hc hN
      cases c
      · go_wp2_with (first | (go_at_call 37; refine (escape_any 34 _).mono ?_; rintro e w' ⟨rfl, rfl⟩) | (go_at_call 47; refine (hasPrefix_is s ⟨(escapeS 34).toArray⟩ _ false Hb).mono ?_; rintro e w' ⟨rfl, rfl⟩))
        go_round
        case rel => exact ⟨4, by omega, by go_num, by rw [Ha.out, Hn.out]; rfl⟩
        case measure => simp [intOf]
      · have hT : E = some 34 := by rw [Ha.out, Hn.out]; rfl
        subst hT
        obtain rfl : 34 = v := hv.out
        obtain rfl : 2 = n := hn.out
        obtain rfl : true = b := hb.out
        clear hv hn hb
        go_wp2_with (first | (go_at_call 37; refine (escape_any 34 _).mono ?_; rintro e w' ⟨rfl, rfl⟩) | (go_at_call 47; refine (hasPrefix_is s ⟨(escapeS 34).toArray⟩ _ true Hb).mono ?_; rintro e w' ⟨rfl, rfl⟩))
        go_ret3
        exact ⟨rfl, (Below.refl _ _).alloc (Nat.le_refl _) _⟩
    · have hT : E = none := by rw [Ha.out]; rfl
      subst hT
      have hcode : (s.extract 1 (min s.size 4)).data.toList = codeL s.data.toList := by
        rw [Lib.extract_data]
        unfold codeL
        by_cases h4 : 4 ≤ s.size
        · rw [show min s.size 4 - 1 = 3 by omega]
        · rw [List.take_of_length_le (by rw [List.length_drop, len_of]; omega), List.take_of_length_le (by rw [List.length_drop, len_of]; omega)]
      have Hcode := Lib.hid hcode
      clear hcode Ha
      obtain rfl : decV (codeL s.data.toList) = v := hv.out
      obtain rfl : decide (0 ≤ decI (codeL s.data.toList)) = b := hb.out
      by_cases h4 : 4 ≤ s.size
      · have e4 : min s.size 4 = 4 := by omega
        obtain rfl : 4 = n := by have h := hn.out; simp only at h; omega
        rw [e4] at Hcode
        have d4 : min (s.size : Int) 4 = 4 := by omega
        have hr := run_sub s 1 4 (by omega) (by omega) (by omega)
        simp only [Int.reduceToNat] at hr
        clear e4 hv hb hn
        go_wp2_with fail
        refine (decode_bel (s.extract 1 4) _ (Nat.le_trans (ext_le s 1 4) Hs.out)).mono ?_; rintro e w2 ⟨rfl, hB⟩; rw [Hcode.out]; have HB := Lib.hid hB; clear hB
        go_wp2_with fail
        go_ret3
        exact ⟨rfl, bel_trans (bel_alloc _ _) HB.out⟩
      · have e4 : min s.size 4 = s.size := by omega
        obtain rfl : (s.size : Int) = n := by have h := hn.out; simp only at h; omega
        rw [e4] at Hcode
        have d4 : min (s.size : Int) 4 = (s.size : Int) := by omega
        have hr := run_sub s 1 s.size (by omega) (by omega) (by omega)
        simp only [Int.reduceToNat, Int.toNat_natCast] at hr
        clear e4 hv hb hn
        go_wp2_with fail
        refine (decode_bel (s.extract 1 s.size) _ (Nat.le_trans (ext_le s 1 s.size) Hs.out)).mono ?_; rintro e w2 ⟨rfl, hB⟩; rw [Hcode.out]; have HB := Lib.hid hB; clear hB
        go_wp2_with fail
        go_ret3
        exact ⟨rfl, bel_trans (bel_alloc _ _) HB.out⟩
end Go.Proofs.Ytpeleifkednmoaa.Lx
end
section
namespace Go.Proofs.Ytpeleifkednmoaa.Lx
open Go.ChangeShapes Go.WideShapes Go.ChangeAt Go.RowKit

def Blk (w : World) (g : Nat) (t : TypeId) (cs : Array Value) : Prop := w.heap[g]? = some (.cells cs t (0, 0))
theorem Blk.cell {w : World} {g : Nat} {t : TypeId} {cs : Array Value} (h : Blk w g t cs) (i : Nat) : w.cell? ⟨g, i, none⟩ = cs[i]? := cell_of_row w g i cs t (0, 0) h
theorem Blk.frozen {w : World} {g : Nat} {t : TypeId} {cs : Array Value} (h : Blk w g t cs) (i : Nat) : w.frozen? ⟨g, i, none⟩ = false := by
  have h' : w.heap[g]? = some (.cells cs t (0, 0)) := h
  simp [World.frozen?, h']
theorem Blk.lt {w : World} {b : Nat} {t : TypeId} {c : Array Value} (h : Blk w b t c) : b < w.heap.size := (Array.getElem?_eq_some_iff.1 h).1
theorem Blk.bel {w w' : World} {b : Nat} {t : TypeId} {c : Array Value} (h : Blk w b t c) (hb : Below w.heap.size w w') : Blk w' b t c := (hb.block b h.lt).trans h
theorem Blk.other {w : World} {b g : Nat} {t : TypeId} {c : Array Value} (h : Blk w b t c) (hne : g ≠ b) (o : Nat) (v : Value) : Blk (w.setCell ⟨g, o, none⟩ v) b t c := by
  show (w.setCell _ v).heap[b]? = _
  rw [Below.heap_setCell _ _ _ _ (by simpa using Ne.symm hne)]
  exact h
theorem Blk.set {w : World} {b : Nat} {t : TypeId} {c : Array Value} (h : Blk w b t c) (o : Nat) (v : Value) : Blk (w.setCell ⟨b, o, none⟩ v) b t (c.setIfInBounds o v) := by
  have h' : w.heap[b]? = some (.cells c t (0, 0)) := h
  have hl := h.lt
  show (w.setCell _ v).heap[b]? = _
  unfold World.setCell
  simp [Array.getElem?_modify, h']
def allocs (w : World) (l : List (Array Value × TypeId)) : World := l.foldl (fun w x => w.alloc (.cells x.1 x.2)) w
theorem start_allocs : ∀ (l : List (Array Value × TypeId)) (w : World), Below w.heap.size w (allocs w l) ∧ (allocs w l).heap.size = w.heap.size + l.length ∧ ∀ i x, l[i]? = some x → Blk (allocs w l) (w.heap.size + i) x.2 x.1
  | [], w => ⟨Below.refl _ _, rfl, fun i x h => by simp at h⟩
  | y :: r, w => by
    obtain ⟨h1, h2, h3⟩ := start_allocs r (w.alloc (.cells y.1 y.2))
    have hs : (w.alloc (.cells y.1 y.2)).heap.size = w.heap.size + 1 := by simp
    refine ⟨bel_trans (bel_alloc _ _) h1, by show (allocs _ r).heap.size = _; rw [h2, hs, List.length_cons]; omega, fun i x hx => ?_⟩
    cases i with
    | zero =>
      obtain rfl : y = x := by simpa using hx
      exact (h1.block _ (by rw [hs]; omega)).trans (heap_alloc_new w _)
    | succ i =>
      have := h3 i x (by simpa using hx)
      rw [hs] at this
      rwa [show w.heap.size + 1 + i = w.heap.size + (i + 1) by omega] at this
end Go.Proofs.Ytpeleifkednmoaa.Lx
end
section
namespace Go.Proofs.Ytpeleifkednmoaa.Lx
open Go.ChangeShapes Go.WideShapes Go.ChangeAt Go.RowKit
set_option linter.unusedVariables false

/-- The first character that is called so. -/
def nmF : List UInt8 → Bs → Option UInt8
  | [], _ => none
  | c :: r, l => if (l == nameS c) = true then some c else nmF r l
def names4 : List UInt8 := [32, 10, 9, 0]
def charV (l : Bs) : Int := match nmF names4 l with | some c => (c.toNat : Int) | none => match l with | [c] => (c.toNat : Int) | _ => decV l
def charB (l : Bs) : Bool := match nmF names4 l with | some _ => true | none => match l with | [c] => !blankB c | _ => decide (0 ≤ decI l)
def NmAt (l : Bs) (E : Option UInt8) (i : Value) : Prop := ∃ k : Nat, k ≤ 4 ∧ i = .int .i64 (k : Int) ∧ E = nmF (names4.drop k) l
theorem name_32 (w : World) : Calls Try.prog 34 #[.int .u8 32] w fun e w' => e = .returned (.string ⟨#[115, 112, 97, 99, 101]⟩) ∧ w = w' := name_any 32 w
theorem name_10 (w : World) : Calls Try.prog 34 #[.int .u8 10] w fun e w' => e = .returned (.string ⟨#[110, 101, 119, 108, 105, 110, 101]⟩) ∧ w = w' := name_any 10 w
theorem name_9 (w : World) : Calls Try.prog 34 #[.int .u8 9] w fun e w' => e = .returned (.string ⟨#[116, 97, 98]⟩) ∧ w = w' := name_any 9 w
theorem name_0 (w : World) : Calls Try.prog 34 #[.int .u8 0] w fun e w' => e = .returned (.string ⟨#[110, 117, 108]⟩) ∧ w = w' := name_any 0 w
set_option maxRecDepth 100000 in
set_option maxHeartbeats 4000000 in
theorem character_any (s : ByteArray) (w : World) (hs : s.size ≤ maxLen) (v : Int) (b : Bool) (hv : Hid (charV s.data.toList = v)) (hb : Hid (charB s.data.toList = b)) :
    Calls Try.prog 53 #[.string s] w fun e w' => e = .returned (.tuple #[.int .i64 v, .bool b]) ∧ Below w.heap.size w w' := by
  have Hs := Lib.hid hs
  unfold maxLen at hs
  unfold charV at hv
  unfold charB at hb
  obtain ⟨E, hE⟩ : ∃ E, nmF names4 s.data.toList = E := ⟨_, rfl⟩
  rw [hE] at hv hb
  have HE := Lib.hid hE
  clear hE
  go_enter Try.func53, Try.ntmps53
  go_wp2_with fail
  go_loop [10] (fun i => NmAt s.data.toList E i) (fun i => 4 - (intOf i).toNat)
  case atStart => exact ⟨0, by omega, rfl, HE.out.symm⟩
  case round =>
    obtain ⟨k, hk, rfl, ha⟩ := hrel
    have Ha := Lib.hid ha
    clear ha HE
    have hk' : k = 0 ∨ k = 1 ∨ k = 2 ∨ k = 3 ∨ k = 4 := by omega
    rcases hk' with rfl | rfl | rfl | rfl | rfl
    · obtain ⟨c, hc⟩ : ∃ c, (s.toList == [115, 112, 97, 99, 101]) = c := ⟨_, rfl⟩
      have hN : nmF (names4.drop 0) s.data.toList = if c = true then some 32 else nmF (names4.drop 1) s.data.toList := by rw [← hc, ByteArray.toList_eq]; rfl
      have Hn := Lib.hid hN
      clear hN
      cases c
      · go_wp2_with (go_at_call 34; refine (name_32 _).mono ?_; rintro e w' ⟨rfl, rfl⟩)
        go_round
        case rel => exact ⟨1, by omega, by go_num, by rw [Ha.out, Hn.out]; rfl⟩
        case measure => simp [intOf]
      · have hT : E = some 32 := by rw [Ha.out, Hn.out]; rfl
        subst hT
        obtain rfl : 32 = v := hv.out
        obtain rfl : true = b := hb.out
        clear hv hb
        go_wp2_with (go_at_call 34; refine (name_32 _).mono ?_; rintro e w' ⟨rfl, rfl⟩)
        go_ret2
        exact ⟨rfl, (Below.refl _ _).alloc (Nat.le_refl _) _⟩
    · obtain ⟨c, hc⟩ : ∃ c, (s.toList == [110, 101, 119, 108, 105, 110, 101]) = c := ⟨_, rfl⟩
      have hN : nmF (names4.drop 1) s.data.toList = if c = true then some 10 else nmF (names4.drop 2) s.data.toList := by rw [← hc, ByteArray.toList_eq]; rfl
      have Hn := Lib.hid hN
      clear hN
      cases c
      · go_wp2_with (go_at_call 34; refine (name_10 _).mono ?_; rintro e w' ⟨rfl, rfl⟩)
        go_round
        case rel => exact ⟨2, by omega, by go_num, by rw [Ha.out, Hn.out]; rfl⟩
        case measure => simp [intOf]
      · have hT : E = some 10 := by rw [Ha.out, Hn.out]; rfl
        subst hT
        obtain rfl : 10 = v := hv.out
        obtain rfl : true = b := hb.out
        clear hv hb
        go_wp2_with (go_at_call 34; refine (name_10 _).mono ?_; rintro e w' ⟨rfl, rfl⟩)
        go_ret2
        exact ⟨rfl, (Below.refl _ _).alloc (Nat.le_refl _) _⟩
    · obtain ⟨c, hc⟩ : ∃ c, (s.toList == [116, 97, 98]) = c := ⟨_, rfl⟩
      have hN : nmF (names4.drop 2) s.data.toList = if c = true then some 9 else nmF (names4.drop 3) s.data.toList := by rw [← hc, ByteArray.toList_eq]; rfl
      have Hn := Lib.hid hN
      clear hN
      cases c
      · go_wp2_with (go_at_call 34; refine (name_9 _).mono ?_; rintro e w' ⟨rfl, rfl⟩)
        go_round
        case rel => exact ⟨3, by omega, by go_num, by rw [Ha.out, Hn.out]; rfl⟩
        case measure => simp [intOf]
      · have hT : E = some 9 := by rw [Ha.out, Hn.out]; rfl
        subst hT
        obtain rfl : 9 = v := hv.out
        obtain rfl : true = b := hb.out
        clear hv hb
        go_wp2_with (go_at_call 34; refine (name_9 _).mono ?_; rintro e w' ⟨rfl, rfl⟩)
        go_ret2
        exact ⟨rfl, (Below.refl _ _).alloc (Nat.le_refl _) _⟩
    · obtain ⟨c, hc⟩ : ∃ c, (s.toList == [110, 117, 108]) = c := ⟨_, rfl⟩
      have hN : nmF (names4.drop 3) s.data.toList = if c = true then some 0 else nmF (names4.drop 4) s.data.toList := by rw [← hc, ByteArray.toList_eq]; rfl
      have Hn := Lib.hid hN
      clear hN
      cases c
      · go_wp2_with (go_at_call 34; refine (name_0 _).mono ?_; rintro e w' ⟨rfl, rfl⟩)
        go_round
        case rel => exact ⟨4, by omega, by go_num, by rw [Ha.out, Hn.out]; rfl⟩
        case measure => simp [intOf]
      · have hT : E = some 0 := by rw [Ha.out, Hn.out]; rfl
        subst hT
        obtain rfl : 0 = v := hv.out
        obtain rfl : true = b := hb.out
        clear hv hb
        go_wp2_with (go_at_call 34; refine (name_0 _).mono ?_; rintro e w' ⟨rfl, rfl⟩)
        go_ret2
        exact ⟨rfl, (Below.refl _ _).alloc (Nat.le_refl _) _⟩
    · have hT : E = none := by rw [Ha.out]; rfl
      subst hT
      clear Ha
      by_cases h1 : s.size = 1
      · have hz : ((s.size : Int) == 1) = true := by simp; omega
        have hl : s.data.toList = [s[0]] := by
          have h0 := drop_at s 0 (by omega)
          rw [List.drop_zero] at h0
          rw [h0, drop_none s 1 (by omega)]
        rw [hl] at hv hb
        obtain rfl : (s[0].toNat : Int) = v := hv.out
        obtain rfl : (!blankB s[0]) = b := hb.out
        have H1 : Hid (∀ w : World, Calls Try.prog 45 #[.int .u8 (s[0].toNat : Int)] w fun e w' => e = .returned (.bool (blankB s[0])) ∧ w' = w) := fun w => (blank_any s[0] w).mono fun e w' ⟨h, h2⟩ => ⟨h, h2.symm⟩
        have i0 : (0 : Int) < s.size := by omega
        have hsz := Lib.hid h1
        clear hl hv hb
        go_wp2_with fail
        go_quiet ((go_at_call 45; exact Calls.quiet_of_same (H1.out _)))
        go_wp2_with fail
        go_ret2
        refine ⟨?_, bel_trans (bel_alloc _ _) (bel_drewN _ _)⟩
        show Ending.returned (.tuple #[.int .i64 (wrap64 (s[0].toNat : Int)), .bool (!blankB s[0])]) = _
        rw [IntWalk.wrap64_in _ (by have := s[0].toNat_lt; omega)]
      · have hz : ((s.size : Int) == 1) = false := by simp; omega
        have hl : charV s.data.toList = charV s.data.toList := rfl
        have hv' : v = decV s.data.toList := by
          have h := hv.out
          revert h
          show (match s.data.toList with | [c] => (c.toNat : Int) | _ => decV s.data.toList) = v → _
          split
          · next c e => exact absurd (by rw [← len_of, e]; rfl) h1
          · exact fun h => h.symm
        have hb' : b = decide (0 ≤ decI s.data.toList) := by
          have h := hb.out
          revert h
          show (match s.data.toList with | [c] => !blankB c | _ => decide (0 ≤ decI s.data.toList)) = b → _
          split
          · next c e => exact absurd (by rw [← len_of, e]; rfl) h1
          · exact fun h => h.symm
        subst hv'
        subst hb'
        have hr1 := decI_le s.data.toList
        have hr2 : 0 ≤ decV s.data.toList ∧ decV s.data.toList ≤ 127 := by unfold decV; split <;> omega
        clear hv hb hl hr1
        have hr3 := hr2.1
        have hr4 := hr2.2
        clear hr2
        go_wp2_with fail
        refine (decode_bel s _ Hs.out).mono ?_; rintro e w2 ⟨rfl, hB⟩; have HB := Lib.hid hB; clear hB
        go_wp2_with fail
        go_ret2
        exact ⟨rfl, bel_trans (bel_alloc _ _) HB.out⟩
end Go.Proofs.Ytpeleifkednmoaa.Lx
end
section
namespace Go.Proofs.Ytpeleifkednmoaa.Lx
open Go.ChangeShapes Go.WideShapes Go.ChangeAt Go.RowKit
set_option linter.unusedVariables false

theorem info_u8 : (Try.prog.info? 5).map (fun i => (i.zero, i.size, i.bytes)) = some (some (.int .u8 0), 1, 1) := by kernel_rfl
def isEsc : Bs → Bool | 92 :: _ => true | _ => false
/-- The next character, how many bytes denote it, whether they do. -/
def stV (l : Bs) : Int := if isEsc l then unescV l else match l with | c :: _ => (c.toNat : Int) | [] => 0
def stC (l : Bs) : UInt8 := UInt8.ofNat (stV l).toNat
def stN (l : Bs) : Nat := if isEsc l then (match escF escs l with | some _ => 2 | none => min l.length 4) else 1
def stB (l : Bs) : Bool := if isEsc l then unescB l else match l with | c :: _ => decide ((c.toNat : Int) ≥ 32) | [] => false
def unqF : Nat → Bs → Option Bs
  | _, [] => some []
  | 0, _ :: _ => none
  | f + 1, c :: r => if stB (c :: r) then (unqF f ((c :: r).drop (stN (c :: r)))).map (stC (c :: r) :: ·) else none
def unqL (l : Bs) : Option Bs := unqF l.length l
theorem prefix_len : ∀ (p l : Bs), Lib.hasPrefix l p = true → p.length ≤ l.length := fun p l h => (List.isPrefixOf_iff_prefix.1 h).length_le
theorem escF_len {l : Bs} {c : UInt8} (h : escF escs l = some c) : 2 ≤ l.length := by
  have go : ∀ (r : List UInt8), (∀ x ∈ r, x ∈ escs) → escF r l = some c → 2 ≤ l.length := by
    intro r
    induction r with
    | nil => intro _ h; cases h
    | cons x r ih =>
      intro hx h
      rw [escF] at h
      by_cases hp : Lib.hasPrefix l (escapeS x) = true
      · have := prefix_len _ _ hp
        have hx' : x ∈ escs := hx x (List.mem_cons_self ..)
        simp only [escs, List.mem_cons, List.not_mem_nil, or_false] at hx'
        rcases hx' with rfl | rfl | rfl | rfl <;> exact this
      · rw [if_neg hp] at h
        exact ih (fun y hy => hx y (List.mem_cons_of_mem _ hy)) h
  exact go escs (fun _ h => h) h
theorem stN_pos {c : UInt8} {r : Bs} : 1 ≤ stN (c :: r) := by
  unfold stN
  split
  · split
    · omega
    · simp only [List.length_cons]; omega
  · omega
theorem stN_le {c : UInt8} {r : Bs} : stN (c :: r) ≤ (c :: r).length := by
  unfold stN
  split
  · split
    · next h => exact escF_len h
    · omega
  · simp
theorem unqF_more : ∀ (f g : Nat) (l : Bs), l.length ≤ f → l.length ≤ g → unqF f l = unqF g l
  | f, g, [], _, _ => by cases f <;> cases g <;> rfl
  | 0, _, c :: r, h, _ => by simp at h
  | f + 1, 0, c :: r, _, h => by simp at h
  | f + 1, g + 1, c :: r, h1, h2 => by
    have hp := stN_pos (c := c) (r := r)
    have hl : ((c :: r).drop (stN (c :: r))).length ≤ r.length := by rw [List.length_drop, List.length_cons]; omega
    simp only [List.length_cons] at h1 h2
    rw [unqF, unqF, unqF_more f g _ (by omega) (by omega)]
theorem unqL_step {c : UInt8} {r : Bs} (h : stB (c :: r) = true) : unqL (c :: r) = (unqL ((c :: r).drop (stN (c :: r)))).map (stC (c :: r) :: ·) := by
  have hp := stN_pos (c := c) (r := r)
  unfold unqL
  rw [List.length_cons, unqF, if_pos h, unqF_more r.length _ _ _ (Nat.le_refl _)]
  rw [List.length_drop, List.length_cons]; omega
theorem unqL_bad {c : UInt8} {r : Bs} (h : stB (c :: r) = false) : unqL (c :: r) = none := by
  unfold unqL
  rw [List.length_cons, unqF, if_neg (by rw [h]; simp)]
theorem unescV_le (l : Bs) : 0 ≤ unescV l ∧ unescV l ≤ 255 := by
  unfold unescV
  split
  · next c _ => have := c.toNat_lt; omega
  · have := decI_le (codeL l); unfold decV; split <;> omega
theorem stV_le (l : Bs) : 0 ≤ stV l ∧ stV l ≤ 255 := by
  unfold stV
  split
  · exact unescV_le l
  · cases l with
    | nil => exact ⟨Int.le_refl _, by decide⟩
    | cons c r => have := c.toNat_lt; exact ⟨Int.natCast_nonneg _, by show (c.toNat : Int) ≤ 255; omega⟩
theorem stC_nat (l : Bs) : ((stC l).toNat : Int) = stV l := by
  have := stV_le l
  unfold stC
  rw [UInt8.toNat_ofNat']
  omega
def bytesV (l : Bs) : List Value := l.map fun b => .int .u8 (b.toNat : Int)
theorem bytesV_len (l : Bs) : (bytesV l).length = l.length := List.length_map _
theorem bytesV_snoc (l : Bs) (c : UInt8) : bytesV (l ++ [c]) = bytesV l ++ [.int .u8 (c.toNat : Int)] := by simp [bytesV]
theorem own_below {w w' : World} {base : Nat} {e : TypeId} {size : Nat} {v : Value} {n : Nat} {xs : List Value} (h : w.ownsRow base e size v n xs) (hb : Below w.heap.size w w') : w'.ownsRow base e size v n xs := by
  refine ⟨h.1, h.2.imp id ?_⟩
  rintro ⟨g, cap, cur, h1, h2, hg, r⟩
  have hlt : g < w.heap.size := by
    rcases Nat.lt_or_ge g w.heap.size with hl | hl
    · exact hl
    · rw [Array.getElem?_eq_none hl] at hg; cases hg
  exact ⟨g, cap, cur, h1, h2, (hb.block g hlt).trans hg, r⟩
theorem own_drewN {w : World} {base : Nat} {e : TypeId} {size : Nat} {v : Value} {n : Nat} {xs : List Value} (h : w.ownsRow base e size v n xs) (k : Nat) : (w.drewN k).ownsRow base e size v n xs := own_below h (bel_drewN w k)
theorem cell_one_drewN (w : World) (n : Nat) (x : Value) (t : TypeId) : ∀ j u, [x][j]? = some u → ((w.drewN n).alloc (.cells #[x] t)).cell? ((⟨w.heap.size, 0, none⟩ : Addr).add j) = some u := by
  exact cell_one_new (w.drewN n) x t
theorem unq_next {l : Bs} {U : Option Bs} {out : Bs} (hl : l ≠ []) (h : U = (unqL l).map (out ++ ·)) (hb : stB l = true) : U = (unqL (l.drop (stN l))).map ((out ++ [stC l]) ++ ·) := by
  cases l with
  | nil => exact absurd rfl hl
  | cons c r =>
    rw [h, unqL_step hb, Option.map_map]
    congr 1
    funext x
    simp
theorem own_conv {w : World} {B : Nat} {v : Value} {out : Bs} (h : w.ownsRow B 5 1 v out.length (bytesV out)) : (convert 48 9 v).run Try.prog w = .ok (.string ⟨out.toArray⟩) w := by
  have h2 := h.2
  rcases h2 with ⟨rfl, h0⟩ | ⟨g, cap, cur, rfl, _⟩
  · have := List.eq_nil_of_length_eq_zero h0
    subst this
    exact run_convert_bytes_nil (P := Try.prog) w 48 5 Try.underlying48 Try.underlying5 0 0 9 Try.underlying9
  · exact run_convert_bytes_back (P := Try.prog) w 48 9 5 ⟨g, 0, none⟩ cap out Try.underlying48 Try.underlying5 Try.underlying9 (fun j hj => h.cells rfl j _ (by simp [bytesV, hj]))
theorem own_slice {w : World} {B : Nat} {e : TypeId} {sz : Nat} {v : Value} {n : Nat} {xs : List Value} (h : w.ownsRow B e sz v n xs) : ∃ a c, v = .slice a n c := by
  rcases h.2 with ⟨rfl, h0⟩ | ⟨g, cap, cur, rfl, _⟩
  · subst h0; exact ⟨_, _, rfl⟩
  · exact ⟨_, _, rfl⟩
def UnqAt (s : ByteArray) (w : World) (U : Option Bs) (v i : Value) (wr : World) : Prop :=
  ∃ (k : Nat) (out : Bs), k ≤ s.size ∧ out.length ≤ k ∧ i = .int .i64 (k : Int) ∧ wr.ownsRow w.heap.size 5 1 v out.length (bytesV out) ∧ Below w.heap.size w wr ∧ U = (unqL (s.data.toList.drop k)).map (out ++ ·)
set_option maxRecDepth 100000 in
set_option maxHeartbeats 4000000 in
theorem unquote_any (s : ByteArray) (w : World) (hs : s.size ≤ 140737488351232) (S : Bs) (b : Bool) (hS : Hid (S = match unqL s.data.toList with | some l => l | none => [])) (hb : Hid (b = match unqL s.data.toList with | some l => decide ((l.length : Int) ≤ 256) | none => false)) :
    Calls Try.prog 51 #[.string s] w fun e w' => e = .returned (.tuple #[.string ⟨S.toArray⟩, .bool b]) ∧ Below w.heap.size w w' := by
  have Hs := Lib.hid hs
  obtain ⟨U, hU⟩ : ∃ U, unqL s.data.toList = U := ⟨_, rfl⟩
  rw [hU] at hS hb
  have HU := Lib.hid hU
  clear hU
  obtain ⟨i0, hi, hz0, hz1, hz2⟩ := info_parts info_u8
  go_enter Try.func51, Try.ntmps51
  go_wp2_with fail
  go_loopw [4, 5] (fun v i wr => UnqAt s w U v i wr) (fun _ i _ => s.size - (intOf i).toNat)
  case atStart => exact ⟨0, [], Nat.zero_le _, Nat.le_refl _, rfl, World.ownsRow_nil _ _ _ _, Below.refl _ _, by rw [List.drop_zero, HU.out]; cases U <;> rfl⟩
  case round =>
    obtain ⟨k, out, hk, ho, rfl, hown, hbel, ha⟩ := hrel
    have Ha := Lib.hid ha
    have Hown := Lib.hid hown
    have Hbel := Lib.hid hbel
    have hsz := hbel.size
    clear ha hown hbel HU
    by_cases hlt : k < s.size
    · have dl : decide ((k : Int) < (s.size : Int)) = true := by simp [hlt]
      have i1 : (k : Int) < s.size := by omega
      have hd := drop_at s k hlt
      have Hd := Lib.hid hd
      clear hd
      go_wp2_with fail
      go_quiet (fail)
      cases e1 : (s[k].toNat : Int) == 92
      · have hesc : isEsc (s.data.toList.drop k) = false := by
          rw [Hd.out]; have hne := u8_ne (n := 92) (by decide) e1; unfold isEsc; split
          · next h => injection h with a b; exact absurd a hne
          · rfl
        have hV : stV (s.data.toList.drop k) = (s[k].toNat : Int) := by unfold stV; rw [hesc, Hd.out]; rfl
        have hN : stN (s.data.toList.drop k) = 1 := by unfold stN; rw [hesc]; rfl
        have hB : stB (s.data.toList.drop k) = decide ((s[k].toNat : Int) ≥ 32) := by unfold stB; rw [hesc, Hd.out]; rfl
        have hC : ((stC (s.data.toList.drop k)).toNat : Int) = (s[k].toNat : Int) := by rw [stC_nat, hV]
        have hne : s.data.toList.drop k ≠ [] := by rw [Hd.out]; simp
        cases e2 : decide ((s[k].toNat : Int) ≥ 32)
        · rw [e2] at hB
          have hU : U = none := by rw [Ha.out, Hd.out, unqL_bad (by rw [← Hd.out]; exact hB)]; rfl
          subst hU
          obtain rfl : S = [] := hS.out
          obtain rfl : b = false := hb.out
          clear hesc hV hN hB hC hS hb hne
          go_wp2_with fail
          go_ret2
          exact ⟨rfl, bel_trans Hbel.out (bel_drewN _ _)⟩
        · rw [e2] at hB
          have hU := unq_next hne Ha.out hB
          rw [hN, List.drop_drop] at hU
          have HU := Lib.hid hU
          have HC := Lib.hid hC
          clear hesc hV hN hB hC hne hU
          go_wp2_with (at_builtin; refine wpList_append_own _ rfl (.tmp 32) (.tmp 34) 48 rfl w.heap.size 5 i0 (.int .u8 0) 1 1 Try.underlying48 hi hz0 hz1 hz2 rfl (by omega) _ out.length (bytesV out) rfl ((own_drewN Hown.out _).alloc _) ⟨wr.heap.size, 0, none⟩ 1 1 [.int .u8 (s[k].toNat : Int)] rfl rfl (cell_one_drewN _ _ _ _) (by simp [Value.oneCell']) (by simp only [maxLen]; omega) (by omega) (by simp; omega) ?_; intro v' w3 hown3 hg3 _)
          have hb3 : Below w.heap.size w w3 := ((Hbel.out.trans ((bel_drewN wr nq).mono hsz)).alloc hsz _).grown hg3 (by simp; omega) (fun j h => (Hown.out.lt j h).1)
          have HB3 := Lib.hid hb3
          have HO3 := Lib.hid hown3
          clear hb3 hown3 hg3
          go_wp2_with fail
          go_roundw
          case rel =>
            refine ⟨k + 1, out ++ [stC (s.data.toList.drop k)], by omega, by simp; omega, by go_num, ?_, HB3.out, HU.out⟩
            rw [bytesV_snoc, HC.out, List.length_append]
            exact HO3.out
          case measure => simp [intOf]; omega
      · have hesc : isEsc (s.data.toList.drop k) = true := by
          rw [Hd.out, u8_is (n := 92) (by decide) e1]; rfl
        have hr := run_from s k hk
        have hz := ext_size s k hk
        have hl : (s.extract k s.size).data.toList = s.data.toList.drop k := Lib.extract_to_end s k
        generalize s.extract k s.size = t at *
        have hV : stV (s.data.toList.drop k) = unescV t.data.toList := by unfold stV; rw [hesc, hl]; rfl
        have hN : unescN t.data.toList = (stN (s.data.toList.drop k) : Int) := by
          unfold stN unescN; rw [hesc, hl]
          rw [if_pos rfl]
          split <;> rename_i h <;> (try rw [h])
          · rfl
          · (try simp only); omega
        have hB : stB (s.data.toList.drop k) = unescB t.data.toList := by unfold stB; rw [hesc, hl]; rfl
        have hne : s.data.toList.drop k ≠ [] := by rw [Hd.out]; simp
        have hle : stN (s.data.toList.drop k) ≤ s.size - k := by
          rw [Hd.out, ← len_of, ← List.length_drop, Hd.out]; exact stN_le
        have hpos : 1 ≤ stN (s.data.toList.drop k) := by rw [Hd.out]; exact stN_pos
        have hC : ((stC (s.data.toList.drop k)).toNat : Int) = stV (s.data.toList.drop k) := stC_nat _
        obtain ⟨m, hm⟩ : ∃ m, stN (s.data.toList.drop k) = m := ⟨_, rfl⟩
        obtain ⟨V, hVV⟩ : ∃ V, stV (s.data.toList.drop k) = V := ⟨_, rfl⟩
        rw [hVV] at hV hC
        rw [hm] at hN hle hpos
        have HV : Hid (unescV t.data.toList = V) := hV.symm
        have HN : Hid (unescN t.data.toList = (m : Int)) := hN
        have HT : Hid (0 < t.size ∧ t.size ≤ maxLen) := ⟨by omega, by simp only [maxLen]; omega⟩
        cases e2 : unescB t.data.toList
        · rw [e2] at hB
          have hU : U = none := by rw [Ha.out, Hd.out, unqL_bad (by rw [← Hd.out]; exact hB)]; rfl
          subst hU
          obtain rfl : S = [] := hS.out
          obtain rfl : b = false := hb.out
          have HE := Lib.hid e2
          clear hesc hV hN hB hC hS hb hne hVV hm e2
          go_wp2_with (go_at_call 64; refine (unescape_any t _ HT.out.2 HT.out.1 _ _ _ HV HN HE).mono ?_; rintro e w2 ⟨rfl, hB2⟩; have HB2 := Lib.hid hB2; clear hB2)
          go_ret2
          exact ⟨rfl, bel_trans (bel_trans Hbel.out (bel_drewN _ _)) HB2.out⟩
        · rw [e2] at hB
          have hU := unq_next hne Ha.out hB
          rw [hm, List.drop_drop] at hU
          have HU := Lib.hid hU
          have HC := Lib.hid hC
          have HE := Lib.hid e2
          clear hesc hV hN hB hne hU hC hVV hm e2 hl hz
          go_wp2_with (first | (go_at_call 64; refine (unescape_any t _ HT.out.2 HT.out.1 _ _ _ HV HN HE).mono ?_; rintro e w2 ⟨rfl, hB2⟩; have HB2 := Lib.hid hB2; have hs2 := hB2.size; clear hB2; have hs3 : wr.heap.size ≤ w2.heap.size := hs2; clear hs2) | (at_builtin; refine wpList_append_own _ rfl (.tmp 32) (.tmp 34) 48 rfl w.heap.size 5 i0 (.int .u8 0) 1 1 Try.underlying48 hi hz0 hz1 hz2 rfl (by omega) _ out.length (bytesV out) rfl ((own_below (own_drewN Hown.out _) HB2.out).alloc _) ⟨w2.heap.size, 0, none⟩ 1 1 [.int .u8 V] rfl rfl (cell_one_new _ _ _) (by simp [Value.oneCell']) (by simp only [maxLen]; omega) (by omega) (by simp; omega) ?_; intro v' w3 hown3 hg3 _))
          have hb3 : Below w.heap.size w w3 := ((Hbel.out.trans ((bel_trans (bel_drewN wr nq) HB2.out).mono hsz)).alloc (by omega) _).grown hg3 (by simp; omega) (fun j h => (Hown.out.lt j h).1)
          have HB3 := Lib.hid hb3
          have HO3 := Lib.hid hown3
          clear hb3 hown3 hg3
          have hkm : k + m ≤ s.size := by omega
          go_wp2_with fail
          go_roundw
          case rel =>
            refine ⟨k + m, out ++ [stC (s.data.toList.drop k)], hkm, by simp; omega, by go_num, ?_, HB3.out, HU.out⟩
            rw [bytesV_snoc, HC.out, List.length_append]
            exact HO3.out
          case measure => simp [intOf]; omega
    · have dl : decide ((k : Int) < (s.size : Int)) = false := by simp [hlt]
      have hU : U = some out := by
        rw [Ha.out, drop_none s k (by omega)]
        show some (out ++ []) = _
        rw [List.append_nil]
      subst hU
      obtain rfl : S = out := hS.out
      obtain rfl : b = decide ((S.length : Int) ≤ 256) := hb.out
      have hcv := own_conv Hown.out
      obtain ⟨va, vc, rfl⟩ := own_slice Hown.out
      clear hS hb
      go_wp2_with fail
      go_ret2
      exact ⟨rfl, Hbel.out⟩
end Go.Proofs.Ytpeleifkednmoaa.Lx
end
section
namespace Go.Proofs.Ytpeleifkednmoaa.Lx
open Go.ChangeShapes Go.WideShapes Go.ChangeAt Go.RowKit
set_option linter.unusedVariables false

/-- Whether a run can be a number only. -/
def numB : Bs → Bool
  | [] => false
  | [c] => digitB c
  | c :: d :: _ => if ((c.toNat : Int) == 45) || ((c.toNat : Int) == 43) then digitB d else digitB c
set_option maxRecDepth 100000 in
set_option maxHeartbeats 1000000 in
theorem numeric_any (s : ByteArray) (w : World) (hs : s.size ≤ maxLen) (h0 : 0 < s.size) (b : Bool) (hb : Hid (numB s.data.toList = b)) :
    Calls Try.prog 69 #[.string s] w fun e w' => e = .returned (.bool b) ∧ w = w' := by
  unfold maxLen at hs
  have hd := drop_at s 0 h0
  rw [List.drop_zero] at hd
  by_cases h1 : 1 < s.size
  · have d1 : decide ((s.size : Int) > 1) = true := by simp; omega
    have hd1 := drop_at s 1 h1
    have hr := run_from s 1 (by omega)
    have hz := ext_size s 1 (by omega)
    have hl : (s.extract 1 s.size).data.toList = s.data.toList.drop 1 := Lib.extract_to_end s 1
    simp only [Int.cast_ofNat_Int] at hr
    generalize s.extract 1 s.size = t at *
    have ht0 : 0 < t.size := by omega
    have e0 : t[0] = s[1] := by
      have a := drop_at t 0 ht0
      rw [List.drop_zero, hl, hd1] at a
      injection a with a b
      exact a.symm
    have hb' : b = if ((s[0].toNat : Int) == 45) || ((s[0].toNat : Int) == 43) then digitB s[1] else digitB s[0] := by
      have h := hb.out
      rw [hd, hd1] at h
      exact h.symm
    have E0 := Lib.hid e0
    have Hb' := Lib.hid hb'
    clear hb hd hd1 hl e0 hb'
    have i0 : 0 < s.size := h0
    cases c1 : (s[0].toNat : Int) == 45 <;> cases c2 : (s[0].toNat : Int) == 43
    · rw [c1, c2] at Hb'
      go_enter Try.func69, Try.ntmps69
      go_wp2_with (go_at_call 66; refine (digit_any s[0] _).mono ?_; rintro e w' ⟨rfl, rfl⟩)
      go_ret
      exact ⟨by rw [Hb'.out]; rfl, rfl⟩
    all_goals
      rw [c1, c2] at Hb'
      go_enter Try.func69, Try.ntmps69
      go_wp2_with (go_at_call 66; refine (digit_any t[0] _).mono ?_; rintro e w' ⟨rfl, rfl⟩)
      go_ret
      exact ⟨by rw [Hb'.out, ← E0.out]; rfl, rfl⟩
  · have d1 : decide ((s.size : Int) > 1) = false := by simp; omega
    have hb' : b = digitB s[0] := by
      have h := hb.out
      rw [hd, drop_none s 1 (by omega)] at h
      exact h.symm
    have Hb' := Lib.hid hb'
    clear hb hd hb'
    have i0 : 0 < s.size := h0
    go_enter Try.func69, Try.ntmps69
    go_wp2_with (go_at_call 66; refine (digit_any s[0] _).mono ?_; rintro e w' ⟨rfl, rfl⟩)
    go_ret
    exact ⟨by rw [Hb'.out]; rfl, rfl⟩
/-- A word as a value: kind, from, to, number, text. -/
def tokV (k a z n : Int) (S : Bs) : Value := .agg #[.int .i64 k, .int .i64 a, .int .i64 z, .int .i64 n, .string ⟨S.toArray⟩]
def hdB : Bs → Bool | [] => false | c :: _ => Da.begB c
/-- Whether a run is a symbol's text. -/
def symL (l : Bs) : Bool := l == [43] || l == [45] || l == [46, 46, 46] || (!l.isEmpty && !decide (32 < (l.length : Int)) && hdB l && l.all Da.contB)
theorem symL_eq (s : ByteArray) : Da.symB s = symL s.data.toList := by
  have hh : Da.headB Da.begB s = hdB s.data.toList := by
    unfold Da.headB
    by_cases h : 0 < s.size
    · rw [dif_pos h]
      have hd := drop_at s 0 h
      rw [List.drop_zero] at hd
      rw [hd]; rfl
    · rw [dif_neg h]
      have : s.data.toList = [] := by rw [← List.drop_zero (l := s.data.toList)]; exact drop_none s 0 (by omega)
      rw [this]; rfl
  unfold Da.symB symL
  rw [hh, ByteArray.toList_eq, len_of]
  rfl
/-- What a run means: kind, number, text, and what is wrong. -/
structure Mean where
  (k n : Int) (S : Bs) (e : Int)
def meanR (l : Bs) : Mean :=
  if (l == [46]) = true then ⟨8, 0, [], 0⟩ else if (l == [35, 102]) = true then ⟨10, 0, [], 0⟩ else if (l == [35, 116]) = true then ⟨10, 1, [], 0⟩
  else if numB l = true then ⟨9, Fx.parV l, [], if (Fx.parE l == 5) = true then 30 else Fx.parE l⟩
  else if symL l = true then ⟨13, 0, l, 0⟩ else ⟨0, 0, [], 30⟩
theorem mark_8 (w : World) : Calls Try.prog 14 #[.int .i64 8] w fun e w' => e = .returned (.string ⟨#[46]⟩) ∧ w = w' := mark_any 8 w
theorem boolean_0 (w : World) : Calls Try.prog 18 #[.int .i64 0] w fun e w' => e = .returned (.string ⟨#[35, 102]⟩) ∧ w = w' := boolean_any 0 w
theorem boolean_1 (w : World) : Calls Try.prog 18 #[.int .i64 1] w fun e w' => e = .returned (.string ⟨#[35, 116]⟩) ∧ w = w' := boolean_any 1 w
set_option maxRecDepth 100000 in
set_option maxHeartbeats 2000000 in
theorem meaning_any (s : ByteArray) (w : World) (hs : s.size ≤ maxLen) (h0 : 0 < s.size) :
    Calls Try.prog 55 #[.string s] w fun e w' => e = .returned (.tuple #[tokV (meanR s.data.toList).k 0 0 (meanR s.data.toList).n (meanR s.data.toList).S, .int .i64 (meanR s.data.toList).e]) ∧ Below w.heap.size w w' := by
  have Hs := Lib.hid hs
  have hmr : meanR s.data.toList = if (s.toList == [46]) = true then ⟨8, 0, [], 0⟩ else if (s.toList == [35, 102]) = true then ⟨10, 0, [], 0⟩ else if (s.toList == [35, 116]) = true then ⟨10, 1, [], 0⟩
    else if numB s.data.toList = true then ⟨9, Fx.parV s.data.toList, [], if (Fx.parE s.data.toList == 5) = true then 30 else Fx.parE s.data.toList⟩
    else if Da.symB s = true then ⟨13, 0, s.data.toList, 0⟩ else ⟨0, 0, [], 30⟩ := by rw [ByteArray.toList_eq, symL_eq]; rfl
  rw [hmr]
  clear hmr hs
  cases a1 : s.toList == [46]
  case true =>
    rw [if_pos rfl]
    go_enter Try.func55, Try.ntmps55
    go_wp2_with (first | (go_at_call 14; refine (mark_8 _).mono ?_; rintro e w' ⟨rfl, rfl⟩) | (go_at_call 18; refine (boolean_0 _).mono ?_; rintro e w' ⟨rfl, rfl⟩) | (go_at_call 18; refine (boolean_1 _).mono ?_; rintro e w' ⟨rfl, rfl⟩))
    refine bodyPost_ret (v := .tuple #[tokV 8 0 0 0 [], .int .i64 0]) ?_ rfl ?_
    · simp [results, Try.results55, go_sem, tokV]
    · exact ⟨rfl, bel_alloc _ _⟩
  rw [if_neg (by decide)]
  cases a2 : s.toList == [35, 102]
  case true =>
    rw [if_pos rfl]
    go_enter Try.func55, Try.ntmps55
    go_wp2_with (first | (go_at_call 14; refine (mark_8 _).mono ?_; rintro e w' ⟨rfl, rfl⟩) | (go_at_call 18; refine (boolean_0 _).mono ?_; rintro e w' ⟨rfl, rfl⟩) | (go_at_call 18; refine (boolean_1 _).mono ?_; rintro e w' ⟨rfl, rfl⟩))
    refine bodyPost_ret (v := .tuple #[tokV 10 0 0 0 [], .int .i64 0]) ?_ rfl ?_
    · simp [results, Try.results55, go_sem, tokV]
    · exact ⟨rfl, bel_alloc _ _⟩
  rw [if_neg (by decide)]
  cases a3 : s.toList == [35, 116]
  case true =>
    rw [if_pos rfl]
    go_enter Try.func55, Try.ntmps55
    go_wp2_with (first | (go_at_call 14; refine (mark_8 _).mono ?_; rintro e w' ⟨rfl, rfl⟩) | (go_at_call 18; refine (boolean_0 _).mono ?_; rintro e w' ⟨rfl, rfl⟩) | (go_at_call 18; refine (boolean_1 _).mono ?_; rintro e w' ⟨rfl, rfl⟩))
    refine bodyPost_ret (v := .tuple #[tokV 10 0 0 1 [], .int .i64 0]) ?_ rfl ?_
    · simp [results, Try.results55, go_sem, tokV]
    · exact ⟨rfl, bel_alloc _ _⟩
  rw [if_neg (by decide)]
  obtain ⟨b, hb⟩ : ∃ b, numB s.data.toList = b := ⟨_, rfl⟩
  rw [hb]
  have HN := Lib.hid hb
  clear hb
  cases b
  case true =>
    rw [if_pos rfl]
    obtain ⟨pv, hpv⟩ : ∃ x, Fx.parV s.data.toList = x := ⟨_, rfl⟩
    obtain ⟨pe, hpe⟩ : ∃ x, Fx.parE s.data.toList = x := ⟨_, rfl⟩
    rw [hpv, hpe]
    have HPV := Lib.hid hpv
    have HPE := Lib.hid hpe
    clear hpv hpe
    cases d5 : pe == 5
    · rw [if_neg (by decide)]
      go_enter Try.func55, Try.ntmps55
      go_wp2_with (first | (go_at_call 14; refine (mark_8 _).mono ?_; rintro e w' ⟨rfl, rfl⟩) | (go_at_call 18; refine (boolean_0 _).mono ?_; rintro e w' ⟨rfl, rfl⟩) | (go_at_call 18; refine (boolean_1 _).mono ?_; rintro e w' ⟨rfl, rfl⟩) | (go_at_call 69; refine (numeric_any s _ Hs.out h0 _ HN).mono ?_; rintro e w' ⟨rfl, rfl⟩) | (go_at_call 70; refine (Fx.parse_fix s _ Hs.out).mono ?_; rintro e w' ⟨rfl, rfl⟩; rw [HPV.out, HPE.out]))
      refine bodyPost_ret (v := .tuple #[tokV 9 0 0 pv [], .int .i64 pe]) ?_ rfl ?_
      · simp [results, Try.results55, go_sem, tokV]
      · exact ⟨rfl, bel_alloc _ _⟩
    · rw [if_pos rfl]
      go_enter Try.func55, Try.ntmps55
      go_wp2_with (first | (go_at_call 14; refine (mark_8 _).mono ?_; rintro e w' ⟨rfl, rfl⟩) | (go_at_call 18; refine (boolean_0 _).mono ?_; rintro e w' ⟨rfl, rfl⟩) | (go_at_call 18; refine (boolean_1 _).mono ?_; rintro e w' ⟨rfl, rfl⟩) | (go_at_call 69; refine (numeric_any s _ Hs.out h0 _ HN).mono ?_; rintro e w' ⟨rfl, rfl⟩) | (go_at_call 70; refine (Fx.parse_fix s _ Hs.out).mono ?_; rintro e w' ⟨rfl, rfl⟩; rw [HPV.out, HPE.out]))
      refine bodyPost_ret (v := .tuple #[tokV 9 0 0 pv [], .int .i64 30]) ?_ rfl ?_
      · simp [results, Try.results55, go_sem, tokV]
      · exact ⟨rfl, bel_alloc _ _⟩
  rw [if_neg (by decide)]
  obtain ⟨b, hb⟩ : ∃ b, Da.symB s = b := ⟨_, rfl⟩
  rw [hb]
  have HS := Lib.hid hb
  clear hb
  cases b
  · rw [if_neg (by decide)]
    go_enter Try.func55, Try.ntmps55
    go_wp2_with (first | (go_at_call 14; refine (mark_8 _).mono ?_; rintro e w' ⟨rfl, rfl⟩) | (go_at_call 18; refine (boolean_0 _).mono ?_; rintro e w' ⟨rfl, rfl⟩) | (go_at_call 18; refine (boolean_1 _).mono ?_; rintro e w' ⟨rfl, rfl⟩) | (go_at_call 69; refine (numeric_any s _ Hs.out h0 _ HN).mono ?_; rintro e w' ⟨rfl, rfl⟩) | (go_at_call 71; refine (Da.symbol_any s _ Hs.out).mono ?_; rintro e w' ⟨rfl, rfl⟩; rw [HS.out]))
    refine bodyPost_ret (v := .tuple #[tokV 0 0 0 0 [], .int .i64 30]) ?_ rfl ?_
    · simp [results, Try.results55, go_sem, tokV]
    · exact ⟨rfl, bel_alloc _ _⟩
  · rw [if_pos rfl]
    go_enter Try.func55, Try.ntmps55
    go_wp2_with (first | (go_at_call 14; refine (mark_8 _).mono ?_; rintro e w' ⟨rfl, rfl⟩) | (go_at_call 18; refine (boolean_0 _).mono ?_; rintro e w' ⟨rfl, rfl⟩) | (go_at_call 18; refine (boolean_1 _).mono ?_; rintro e w' ⟨rfl, rfl⟩) | (go_at_call 69; refine (numeric_any s _ Hs.out h0 _ HN).mono ?_; rintro e w' ⟨rfl, rfl⟩) | (go_at_call 71; refine (Da.symbol_any s _ Hs.out).mono ?_; rintro e w' ⟨rfl, rfl⟩; rw [HS.out]))
    refine bodyPost_ret (v := .tuple #[tokV 13 0 0 0 s.data.toList, .int .i64 0]) ?_ rfl ?_
    · simp [results, Try.results55, go_sem, tokV]
    · exact ⟨rfl, bel_alloc _ _⟩
end Go.Proofs.Ytpeleifkednmoaa.Lx
end
