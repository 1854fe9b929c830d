/- Escapes in strings and spelled characters of layer 3: what the program's functions return. -/
import Derived.Test.YtpeleifkednmoaaMLexScan4
section
namespace Go.Proofs.Ytpeleifkednmoaa.Lx
open Go.ChangeShapes Go.WideShapes Go.ChangeAt Go.RowKit
set_option linter.unusedVariables false

theorem bel_refl (w : World) : Below w.heap.size w w := Below.refl _ _
theorem bel_trans {a b c : World} (h : Below a.heap.size a b) (k : Below b.heap.size b c) : Below a.heap.size a c := h.trans (k.mono h.size)
theorem bel_alloc (w : World) (o : Obj) : Below w.heap.size w (w.alloc o) := (Below.refl _ _).alloc (Nat.le_refl _) o
theorem bel_drewN (w : World) : ∀ n, Below w.heap.size w (w.drewN n)
  | 0 => Below.refl _ _
  | n + 1 => by
    have h := bel_drewN w n
    exact ⟨h.os, h.tape, h.output, h.size, h.block⟩
theorem decode_bel (s : ByteArray) (w : World) (hs : s.size ≤ maxLen) :
    Calls Try.prog 67 #[.string s] w fun e w' => e = .returned (.tuple #[.int .u8 (decV s.data.toList), .bool (decide (0 ≤ decI s.data.toList))]) ∧ Below w.heap.size w w' :=
  (decode_any s w hs).mono fun e w' ⟨h, n, hn⟩ => ⟨h, by rw [hn]; exact bel_drewN w n⟩
theorem ext_le (s : ByteArray) (a b : Nat) : (s.extract a b).size ≤ s.size := by
  rw [← len_of, Lib.extract_data, List.length_take, List.length_drop, len_of]; omega
/-- The first character whose escape a text begins with. -/
def escF : List UInt8 → Bs → Option UInt8
  | [], _ => none
  | c :: r, l => if Lib.hasPrefix l (escapeS c) = true then some c else escF r l
def escs : List UInt8 := [10, 9, 92, 34]
def codeL (l : Bs) : Bs := (l.drop 1).take 3
def unescV (l : Bs) : Int := match escF escs l with | some c => (c.toNat : Int) | none => decV (codeL l)
def unescN (l : Bs) : Int := match escF escs l with | some _ => 2 | none => min (l.length : Int) 4
def unescB (l : Bs) : Bool := match escF escs l with | some _ => true | none => decide (0 ≤ decI (codeL l))
def EscAt (l : Bs) (E : Option UInt8) (i : Value) : Prop := ∃ k : Nat, k ≤ 4 ∧ i = .int .i64 (k : Int) ∧ E = escF (escs.drop k) l
set_option maxRecDepth 100000 in
set_option maxHeartbeats 4000000 in
theorem unescape_any (s : ByteArray) (w : World) (hs : s.size ≤ maxLen) (h0 : 0 < s.size) (v n : Int) (b : Bool) (hv : Hid (unescV s.data.toList = v)) (hn : Hid (unescN s.data.toList = n)) (hb : Hid (unescB s.data.toList = b)) :
    Calls Try.prog 64 #[.string s] w fun e w' => e = .returned (.tuple #[.int .u8 v, .int .i64 n, .bool b]) ∧ Below w.heap.size w w' := by
  have Hs := Lib.hid hs
  unfold maxLen at hs
  unfold unescV at hv
  unfold unescN at hn
  unfold unescB at hb
  rw [len_of] at hn
  obtain ⟨E, hE⟩ : ∃ E, escF escs s.data.toList = E := ⟨_, rfl⟩
  rw [hE] at hv hn hb
  have HE := Lib.hid hE
  clear hE
  go_enter Try.func64, Try.ntmps64
  go_wp2_with fail
  go_loop [9] (fun i => EscAt s.data.toList E i) (fun i => 4 - (intOf i).toNat)
  case atStart => exact ⟨0, by omega, rfl, HE.out.symm⟩
  case round =>
    obtain ⟨k, hk, rfl, ha⟩ := hrel
    have Ha := Lib.hid ha
    clear ha HE
    have hk' : k = 0 ∨ k = 1 ∨ k = 2 ∨ k = 3 ∨ k = 4 := by omega
    rcases hk' with rfl | rfl | rfl | rfl | rfl
    · obtain ⟨c, hc⟩ : ∃ c, Lib.hasPrefix s.data.toList (escapeS 10) = c := ⟨_, rfl⟩
      have hN : escF (escs.drop 0) s.data.toList = if c = true then some 10 else escF (escs.drop 1) s.data.toList := by rw [← hc]; rfl
      have Hb := Lib.hid hc
      have Hn := Lib.hid hN
      clear hc hN
      cases c
      · go_wp2_with (first | (go_at_call 37; refine (escape_any 10 _).mono ?_; rintro e w' ⟨rfl, rfl⟩) | (go_at_call 47; refine (hasPrefix_is s ⟨(escapeS 10).toArray⟩ _ false Hb).mono ?_; rintro e w' ⟨rfl, rfl⟩))
        go_round
        case rel => exact ⟨1, by omega, by go_num, by rw [Ha.out, Hn.out]; rfl⟩
        case measure => simp [intOf]
      · have hT : E = some 10 := by rw [Ha.out, Hn.out]; rfl
        subst hT
        obtain rfl : 10 = v := hv.out
        obtain rfl : 2 = n := hn.out
        obtain rfl : true = b := hb.out
        clear hv hn hb
        go_wp2_with (first | (go_at_call 37; refine (escape_any 10 _).mono ?_; rintro e w' ⟨rfl, rfl⟩) | (go_at_call 47; refine (hasPrefix_is s ⟨(escapeS 10).toArray⟩ _ true Hb).mono ?_; rintro e w' ⟨rfl, rfl⟩))
        go_ret3
        exact ⟨rfl, (Below.refl _ _).alloc (Nat.le_refl _) _⟩
    · obtain ⟨c, hc⟩ : ∃ c, Lib.hasPrefix s.data.toList (escapeS 9) = c := ⟨_, rfl⟩
      have hN : escF (escs.drop 1) s.data.toList = if c = true then some 9 else escF (escs.drop 2) s.data.toList := by rw [← hc]; rfl
      have Hb := Lib.hid hc
      have Hn := Lib.hid hN
      clear hc hN
      cases c
      · go_wp2_with (first | (go_at_call 37; refine (escape_any 9 _).mono ?_; rintro e w' ⟨rfl, rfl⟩) | (go_at_call 47; refine (hasPrefix_is s ⟨(escapeS 9).toArray⟩ _ false Hb).mono ?_; rintro e w' ⟨rfl, rfl⟩))
        go_round
        case rel => exact ⟨2, by omega, by go_num, by rw [Ha.out, Hn.out]; rfl⟩
        case measure => simp [intOf]
      · have hT : E = some 9 := by rw [Ha.out, Hn.out]; rfl
        subst hT
        obtain rfl : 9 = v := hv.out
        obtain rfl : 2 = n := hn.out
        obtain rfl : true = b := hb.out
        clear hv hn hb
        go_wp2_with (first | (go_at_call 37; refine (escape_any 9 _).mono ?_; rintro e w' ⟨rfl, rfl⟩) | (go_at_call 47; refine (hasPrefix_is s ⟨(escapeS 9).toArray⟩ _ true Hb).mono ?_; rintro e w' ⟨rfl, rfl⟩))
        go_ret3
        exact ⟨rfl, (Below.refl _ _).alloc (Nat.le_refl _) _⟩
    · obtain ⟨c, hc⟩ : ∃ c, Lib.hasPrefix s.data.toList (escapeS 92) = c := ⟨_, rfl⟩
      have hN : escF (escs.drop 2) s.data.toList = if c = true then some 92 else escF (escs.drop 3) s.data.toList := by rw [← hc]; rfl
      have Hb := Lib.hid hc
      have Hn := Lib.hid hN
      clear hc hN
      cases c
      · go_wp2_with (first | (go_at_call 37; refine (escape_any 92 _).mono ?_; rintro e w' ⟨rfl, rfl⟩) | (go_at_call 47; refine (hasPrefix_is s ⟨(escapeS 92).toArray⟩ _ false Hb).mono ?_; rintro e w' ⟨rfl, rfl⟩))
        go_round
        case rel => exact ⟨3, by omega, by go_num, by rw [Ha.out, Hn.out]; rfl⟩
        case measure => simp [intOf]
      · have hT : E = some 92 := by rw [Ha.out, Hn.out]; rfl
        subst hT
        obtain rfl : 92 = v := hv.out
        obtain rfl : 2 = n := hn.out
        obtain rfl : true = b := hb.out
        clear hv hn hb
        go_wp2_with (first | (go_at_call 37; refine (escape_any 92 _).mono ?_; rintro e w' ⟨rfl, rfl⟩) | (go_at_call 47; refine (hasPrefix_is s ⟨(escapeS 92).toArray⟩ _ true Hb).mono ?_; rintro e w' ⟨rfl, rfl⟩))
        go_ret3
        exact ⟨rfl, (Below.refl _ _).alloc (Nat.le_refl _) _⟩
    · obtain ⟨c, hc⟩ : ∃ c, Lib.hasPrefix s.data.toList (escapeS 34) = c := ⟨_, rfl⟩
      have hN : escF (escs.drop 3) s.data.toList = if c = true then some 34 else escF (escs.drop 4) s.data.toList := by rw [← hc]; rfl
      have Hb := Lib.hid hc
      have Hn := Lib.hid hN
      clear hc hN
      cases c
      · go_wp2_with (first | (go_at_call 37; refine (escape_any 34 _).mono ?_; rintro e w' ⟨rfl, rfl⟩) | (go_at_call 47; refine (hasPrefix_is s ⟨(escapeS 34).toArray⟩ _ false Hb).mono ?_; rintro e w' ⟨rfl, rfl⟩))
        go_round
        case rel => exact ⟨4, by omega, by go_num, by rw [Ha.out, Hn.out]; rfl⟩
        case measure => simp [intOf]
      · have hT : E = some 34 := by rw [Ha.out, Hn.out]; rfl
        subst hT
        obtain rfl : 34 = v := hv.out
        obtain rfl : 2 = n := hn.out
        obtain rfl : true = b := hb.out
        clear hv hn hb
        go_wp2_with (first | (go_at_call 37; refine (escape_any 34 _).mono ?_; rintro e w' ⟨rfl, rfl⟩) | (go_at_call 47; refine (hasPrefix_is s ⟨(escapeS 34).toArray⟩ _ true Hb).mono ?_; rintro e w' ⟨rfl, rfl⟩))
        go_ret3
        exact ⟨rfl, (Below.refl _ _).alloc (Nat.le_refl _) _⟩
    · have hT : E = none := by rw [Ha.out]; rfl
      subst hT
      have hcode : (s.extract 1 (min s.size 4)).data.toList = codeL s.data.toList := by
        rw [Lib.extract_data]
        unfold codeL
        by_cases h4 : 4 ≤ s.size
        · rw [show min s.size 4 - 1 = 3 by omega]
        · rw [List.take_of_length_le (by rw [List.length_drop, len_of]; omega), List.take_of_length_le (by rw [List.length_drop, len_of]; omega)]
      have Hcode := Lib.hid hcode
      clear hcode Ha
      obtain rfl : decV (codeL s.data.toList) = v := hv.out
      obtain rfl : decide (0 ≤ decI (codeL s.data.toList)) = b := hb.out
      by_cases h4 : 4 ≤ s.size
      · have e4 : min s.size 4 = 4 := by omega
        obtain rfl : 4 = n := by have h := hn.out; simp only at h; omega
        rw [e4] at Hcode
        have d4 : min (s.size : Int) 4 = 4 := by omega
        have hr := run_sub s 1 4 (by omega) (by omega) (by omega)
        simp only [Int.reduceToNat] at hr
        clear e4 hv hb hn
        go_wp2_with fail
        refine (decode_bel (s.extract 1 4) _ (Nat.le_trans (ext_le s 1 4) Hs.out)).mono ?_; rintro e w2 ⟨rfl, hB⟩; rw [Hcode.out]; have HB := Lib.hid hB; clear hB
        go_wp2_with fail
        go_ret3
        exact ⟨rfl, bel_trans (bel_alloc _ _) HB.out⟩
      · have e4 : min s.size 4 = s.size := by omega
        obtain rfl : (s.size : Int) = n := by have h := hn.out; simp only at h; omega
        rw [e4] at Hcode
        have d4 : min (s.size : Int) 4 = (s.size : Int) := by omega
        have hr := run_sub s 1 s.size (by omega) (by omega) (by omega)
        simp only [Int.reduceToNat, Int.toNat_natCast] at hr
        clear e4 hv hb hn
        go_wp2_with fail
        refine (decode_bel (s.extract 1 s.size) _ (Nat.le_trans (ext_le s 1 s.size) Hs.out)).mono ?_; rintro e w2 ⟨rfl, hB⟩; rw [Hcode.out]; have HB := Lib.hid hB; clear hB
        go_wp2_with fail
        go_ret3
        exact ⟨rfl, bel_trans (bel_alloc _ _) HB.out⟩
end Go.Proofs.Ytpeleifkednmoaa.Lx
end
