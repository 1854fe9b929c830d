/- The line and the column of a place of a text (layer 3): the program's and the document's. -/
import Derived.Test.YtcnhoogljagkhaaLexAwake
namespace Go.Proofs.Ytcnhoogljagkhaa.Lx
open Go.ChangeShapes Go.WideShapes Go.ChangeAt Go.RowKit
set_option linter.unusedVariables false

def lineF (l : Bs) : Nat := 1 + l.count 10
def colF (l : Bs) : Nat := 1 + (l.reverse.takeWhile (fun c => !(c == 10))).length
theorem lineF_snoc (l : Bs) (c : UInt8) : lineF (l ++ [c]) = if (c == 10) = true then lineF l + 1 else lineF l := by
  unfold lineF
  rw [List.count_append, List.count_singleton]
  split <;> simp_all <;> omega
theorem colF_snoc (l : Bs) (c : UInt8) : colF (l ++ [c]) = if (c == 10) = true then 1 else colF l + 1 := by
  unfold colF
  rw [List.reverse_append, List.reverse_singleton, List.singleton_append, List.takeWhile_cons]
  cases h : c == 10
  · simp; omega
  · simp
theorem col_at (s : ByteArray) : ∀ k : Nat, k ≤ s.size → (k : Int) - Lib.lastIdx s 10 k = (colF (s.data.toList.take k) : Int)
  | 0, _ => by simp [Lib.lastIdx, colF]
  | k + 1, h => by
    have hk : k < s.size := by omega
    have ih := col_at s k (by omega)
    rw [take_at s k hk, colF_snoc]
    have e : s.data[k]! = s[k] := by
      rw [getElem!_pos s.data k hk]; rfl
    have e2 : (((s.data[k]!).toNat : Int) = 10) ↔ (s[k] == 10) = true := by
      rw [e, beq_iff_eq]
      constructor
      · intro h; exact UInt8.toNat_inj.1 (by show s[k].toNat = 10; omega)
      · intro h; rw [h]; rfl
    unfold Lib.lastIdx
    by_cases hc : (s[k] == 10) = true
    · rw [if_pos hc, if_pos (e2.2 hc)]; omega
    · rw [if_neg hc, if_neg (fun h => hc (e2.1 h))]; omega
theorem colF_le (l : Bs) : 1 ≤ colF l ∧ colF l ≤ l.length + 1 := by
  unfold colF
  have := (List.takeWhile_prefix (l := l.reverse) (fun c => !(c == 10))).length_le
  rw [List.length_reverse] at this
  omega
theorem lineF_le (l : Bs) : 1 ≤ lineF l ∧ lineF l ≤ l.length + 1 := by
  unfold lineF
  have := List.count_le_length (a := (10 : UInt8)) (l := l)
  omega
/-- A place of a text of so many bytes. -/
def placeP (n : Nat) (a : Int) : Nat := (min (max a 0) (n : Int)).toNat
theorem placeP_eq (n : Nat) (a : Int) : min (max a 0) (n : Int) = (placeP n a : Int) ∧ placeP n a ≤ n := by unfold placeP; omega
set_option maxRecDepth 100000 in
theorem place_any (s : ByteArray) (a : Int) (w : World) (hs : s.size ≤ 100000) :
    Calls Try.prog 20 #[.string s, .int .i64 a] w fun e w' => e = .returned (.tuple #[.int .i64 (lineF (s.data.toList.take (placeP s.size a)) : Int), .int .i64 (colF (s.data.toList.take (placeP s.size a)) : Int)]) ∧ Below w.heap.size w w' := by
  obtain ⟨hp, hle⟩ := placeP_eq s.size a
  generalize placeP s.size a = p at *
  have hr := run_to s p hle
  have hc := col_at s p hle
  have hl : (s.extract 0 p).data.toList = s.data.toList.take p := by rw [Lib.extract_data]; rfl
  have hz : (s.extract 0 p).size = p := by rw [← len_of, hl, List.length_take, len_of]; omega
  have hc2 := col_at (s.extract 0 p) p (by omega)
  rw [hl, List.take_take, Nat.min_self] at hc2
  have hli : Lib.lastIndexByte (s.extract 0 p) 10 = Lib.lastIdx (s.extract 0 p) 10 p := by unfold Lib.lastIndexByte; rw [hz]
  rw [← hli] at hc2
  generalize s.extract 0 p = t at *
  have H1 : Hid (∀ w : World, Calls Try.prog 43 #[.string t, .string ⟨#[10]⟩] w fun e w' => e = .returned (.int .i64 ((t.data.toList.count 10 : Nat) : Int)) ∧ w = w') := fun w => (Try.strings_Count_one t 10 w).mono fun e w' ⟨h1, h2⟩ => ⟨h1, h2.symm⟩
  have H2 : Hid (∀ w : World, Calls Try.prog 44 #[.string t, .int .u8 10] w fun e w' => e = .returned (.int .i64 (Lib.lastIndexByte t 10)) ∧ w = w') := fun w => (Try.strings_LastIndexByte t 10 (by omega) w).mono fun e w' ⟨h1, h2⟩ => ⟨h1, h2.symm⟩
  rw [hl] at H1
  have hl1 := lineF_le (s.data.toList.take p)
  have hc1 := colF_le (s.data.toList.take p)
  rw [List.length_take, len_of] at hl1 hc1
  unfold lineF at hl1 ⊢
  generalize (s.data.toList.take p).count 10 = n at *
  generalize colF (s.data.toList.take p) = m at *
  generalize Lib.lastIndexByte t 10 = x at *
  have hx : x = (p : Int) - (m : Int) := by omega
  subst hx
  have htz : (t.size : Int) = (p : Int) := by omega
  have hn1 : (1 : Int) + (n : Int) ≤ 100001 := by omega
  have hm1 : (m : Int) ≤ 100001 := by omega
  have hm2 : 1 ≤ (m : Int) := by omega
  have hp1 : (p : Int) ≤ 100000 := by omega
  clear hl hz hc hc2 hli hl1 hc1 hle
  go_enter Try.func20, Try.ntmps20
  go_wp2_with (first | (go_at_call 43; refine (H1.out _).mono ?_; rintro e w' ⟨rfl, rfl⟩) | (go_at_call 44; refine (H2.out _).mono ?_; rintro e w' ⟨rfl, rfl⟩))
  go_ret2
  refine ⟨?_, Below.refl _ _⟩
  show Ending.returned (.tuple #[.int .i64 (1 + (n : Int)), .int .i64 ((p : Int) - ((p : Int) - (m : Int)))]) = _
  rw [show (p : Int) - ((p : Int) - (m : Int)) = m by omega, Int.natCast_add]
  rfl
def PlaceAt (l : Bs) (n : Nat) (x y i : Value) : Prop := ∃ k : Nat, k ≤ n ∧ i = .int .i64 (k : Int) ∧ x = .int .i64 (lineF (l.take k) : Int) ∧ y = .int .i64 (colF (l.take k) : Int)
set_option maxRecDepth 100000 in
set_option maxHeartbeats 1000000 in
theorem rplace_any (s : ByteArray) (a : Int) (w : World) (hs : s.size ≤ 100000) :
    Calls Try.prog 21 #[.string s, .int .i64 a] w fun e w' => e = .returned (.tuple #[.int .i64 (lineF (s.data.toList.take (placeP s.size a)) : Int), .int .i64 (colF (s.data.toList.take (placeP s.size a)) : Int)]) ∧ Below w.heap.size w w' := by
  obtain ⟨hp, hle⟩ := placeP_eq s.size a
  generalize placeP s.size a = p at *
  go_enter Try.func21, Try.ntmps21
  go_wp2_with fail
  clear hp
  go_loop [6, 7, 8] (fun x y i => PlaceAt s.data.toList p x y i) (fun _ _ i => p - (intOf i).toNat)
  case atStart => exact ⟨0, Nat.zero_le _, rfl, rfl, rfl⟩
  case round =>
    obtain ⟨k, hk, rfl, rfl, rfl⟩ := hrel
    have hl1 := lineF_le (s.data.toList.take k)
    have hc1 := colF_le (s.data.toList.take k)
    rw [List.length_take, len_of] at hl1 hc1
    by_cases hlt : k < p
    · have dl : decide ((k : Int) < (p : Int)) = true := by simp [hlt]
      have hks : k < s.size := by omega
      have hL := lineF_snoc (s.data.toList.take k) s[k]
      have hC := colF_snoc (s.data.toList.take k) s[k]
      rw [← take_at s k hks] at hL hC
      have e10 := u8_toNat s[k] 10 (by decide)
      obtain ⟨b, hb⟩ : ∃ b, (s[k] == 10) = b := ⟨_, rfl⟩
      rw [hb] at hL hC
      have e10' : ((s[k].toNat : Int) == 10) = b := by rw [← hb]; exact e10
      clear hb e10
      generalize lineF (s.data.toList.take k) = x at *
      generalize colF (s.data.toList.take k) = y at *
      have b1 : (x : Int) ≤ 100001 := by omega
      have b2 : (y : Int) ≤ 100001 := by omega
      cases b
      · simp only [Bool.false_eq_true, if_false] at hL hC
        have HL := Lib.hid hL
        have HC := Lib.hid hC
        clear hL hC hl1 hc1
        go_wp2
        go_round
        case rel => exact ⟨k + 1, hlt, by go_num, by rw [HL.out], by rw [HC.out]; go_num⟩
        case measure => simp [intOf]; omega
      · simp only [if_true] at hL hC
        have HL := Lib.hid hL
        have HC := Lib.hid hC
        clear hL hC hl1 hc1
        go_wp2
        go_round
        case rel => exact ⟨k + 1, hlt, by go_num, by rw [HL.out]; go_num, by rw [HC.out]; rfl⟩
        case measure => simp [intOf]; omega
    · obtain rfl : k = p := by omega
      have dl : decide ((k : Int) < (k : Int)) = false := by simp
      clear hl1 hc1
      go_wp2
      go_ret2
      exact ⟨rfl, Below.refl _ _⟩
end Go.Proofs.Ytcnhoogljagkhaa.Lx
