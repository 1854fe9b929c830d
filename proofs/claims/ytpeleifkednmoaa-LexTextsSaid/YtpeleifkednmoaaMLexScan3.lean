/- Marks, names, escapes and codes of characters of layer 3: what the program's functions return. -/
import Derived.Deep.QuietTactic
import Derived.BigQuiet
import Derived.Test.YtpeleifkednmoaaMLexSkip
section
namespace Go.Proofs.Ytpeleifkednmoaa.Lx
open Go.ChangeShapes Go.WideShapes Go.ChangeAt Go.RowKit
set_option linter.unusedVariables false

def markS (k : Int) : Bs := if ((k) == 1) = true then [40] else if ((k) == 2) = true then [41] else if ((k) == 3) = true then [35, 40] else if ((k) == 4) = true then [39] else if ((k) == 5) = true then [96] else if ((k) == 6) = true then [44] else if ((k) == 7) = true then [44, 64] else if ((k) == 8) = true then [46] else []
theorem mark_any (k : Int) (w : World) : Calls Try.prog 14 #[.int .i64 (k)] w fun e w' => e = .returned (.string ⟨(markS k).toArray⟩) ∧ w = w' := by
  unfold markS
  cases a0 : (k) == 1
  case true =>
    rw [if_pos rfl]
    go_enter Try.func14, Try.ntmps14
    go_wp2_with fail
    go_ret
    exact ⟨rfl, rfl⟩
  rw [if_neg (by decide)]
  cases a1 : (k) == 2
  case true =>
    rw [if_pos rfl]
    go_enter Try.func14, Try.ntmps14
    go_wp2_with fail
    go_ret
    exact ⟨rfl, rfl⟩
  rw [if_neg (by decide)]
  cases a2 : (k) == 3
  case true =>
    rw [if_pos rfl]
    go_enter Try.func14, Try.ntmps14
    go_wp2_with fail
    go_ret
    exact ⟨rfl, rfl⟩
  rw [if_neg (by decide)]
  cases a3 : (k) == 4
  case true =>
    rw [if_pos rfl]
    go_enter Try.func14, Try.ntmps14
    go_wp2_with fail
    go_ret
    exact ⟨rfl, rfl⟩
  rw [if_neg (by decide)]
  cases a4 : (k) == 5
  case true =>
    rw [if_pos rfl]
    go_enter Try.func14, Try.ntmps14
    go_wp2_with fail
    go_ret
    exact ⟨rfl, rfl⟩
  rw [if_neg (by decide)]
  cases a5 : (k) == 6
  case true =>
    rw [if_pos rfl]
    go_enter Try.func14, Try.ntmps14
    go_wp2_with fail
    go_ret
    exact ⟨rfl, rfl⟩
  rw [if_neg (by decide)]
  cases a6 : (k) == 7
  case true =>
    rw [if_pos rfl]
    go_enter Try.func14, Try.ntmps14
    go_wp2_with fail
    go_ret
    exact ⟨rfl, rfl⟩
  rw [if_neg (by decide)]
  cases a7 : (k) == 8
  case true =>
    rw [if_pos rfl]
    go_enter Try.func14, Try.ntmps14
    go_wp2_with fail
    go_ret
    exact ⟨rfl, rfl⟩
  rw [if_neg (by decide)]
  go_enter Try.func14, Try.ntmps14
  go_wp2_with fail
  go_ret
  exact ⟨rfl, rfl⟩
def nameS (k : UInt8) : Bs := if ((k.toNat : Int) == 32) = true then [115, 112, 97, 99, 101] else if ((k.toNat : Int) == 10) = true then [110, 101, 119, 108, 105, 110, 101] else if ((k.toNat : Int) == 9) = true then [116, 97, 98] else if ((k.toNat : Int) == 0) = true then [110, 117, 108] else []
theorem name_any (k : UInt8) (w : World) : Calls Try.prog 34 #[.int .u8 (k.toNat : Int)] w fun e w' => e = .returned (.string ⟨(nameS k).toArray⟩) ∧ w = w' := by
  unfold nameS
  cases a0 : (k.toNat : Int) == 32
  case true =>
    rw [if_pos rfl]
    go_enter Try.func34, Try.ntmps34
    go_wp2_with fail
    go_ret
    exact ⟨rfl, rfl⟩
  rw [if_neg (by decide)]
  cases a1 : (k.toNat : Int) == 10
  case true =>
    rw [if_pos rfl]
    go_enter Try.func34, Try.ntmps34
    go_wp2_with fail
    go_ret
    exact ⟨rfl, rfl⟩
  rw [if_neg (by decide)]
  cases a2 : (k.toNat : Int) == 9
  case true =>
    rw [if_pos rfl]
    go_enter Try.func34, Try.ntmps34
    go_wp2_with fail
    go_ret
    exact ⟨rfl, rfl⟩
  rw [if_neg (by decide)]
  cases a3 : (k.toNat : Int) == 0
  case true =>
    rw [if_pos rfl]
    go_enter Try.func34, Try.ntmps34
    go_wp2_with fail
    go_ret
    exact ⟨rfl, rfl⟩
  rw [if_neg (by decide)]
  go_enter Try.func34, Try.ntmps34
  go_wp2_with fail
  go_ret
  exact ⟨rfl, rfl⟩
def escapeS (k : UInt8) : Bs := if ((k.toNat : Int) == 10) = true then [92, 110] else if ((k.toNat : Int) == 9) = true then [92, 116] else if ((k.toNat : Int) == 92) = true then [92, 92] else if ((k.toNat : Int) == 34) = true then [92, 34] else []
theorem escape_any (k : UInt8) (w : World) : Calls Try.prog 37 #[.int .u8 (k.toNat : Int)] w fun e w' => e = .returned (.string ⟨(escapeS k).toArray⟩) ∧ w = w' := by
  unfold escapeS
  cases a0 : (k.toNat : Int) == 10
  case true =>
    rw [if_pos rfl]
    go_enter Try.func37, Try.ntmps37
    go_wp2_with fail
    go_ret
    exact ⟨rfl, rfl⟩
  rw [if_neg (by decide)]
  cases a1 : (k.toNat : Int) == 9
  case true =>
    rw [if_pos rfl]
    go_enter Try.func37, Try.ntmps37
    go_wp2_with fail
    go_ret
    exact ⟨rfl, rfl⟩
  rw [if_neg (by decide)]
  cases a2 : (k.toNat : Int) == 92
  case true =>
    rw [if_pos rfl]
    go_enter Try.func37, Try.ntmps37
    go_wp2_with fail
    go_ret
    exact ⟨rfl, rfl⟩
  rw [if_neg (by decide)]
  cases a3 : (k.toNat : Int) == 34
  case true =>
    rw [if_pos rfl]
    go_enter Try.func37, Try.ntmps37
    go_wp2_with fail
    go_ret
    exact ⟨rfl, rfl⟩
  rw [if_neg (by decide)]
  go_enter Try.func37, Try.ntmps37
  go_wp2_with fail
  go_ret
  exact ⟨rfl, rfl⟩
theorem boolean_any (n : Int) (w : World) : Calls Try.prog 18 #[.int .i64 n] w fun e w' => e = .returned (.string (if (n == 0) = true then ⟨#[35, 102]⟩ else ⟨#[35, 116]⟩)) ∧ w = w' := by
  cases a0 : n == 0
  all_goals
    go_enter Try.func18, Try.ntmps18
    go_wp2_with fail
    go_ret
    exact ⟨rfl, rfl⟩
/-- The first kind of mark that a text begins with, 0 if it begins with none. -/
def markF : List Int → Bs → Int
  | [], _ => 0
  | k :: r, l => if Lib.hasPrefix l (markS k) = true then k else markF r l
def kinds7 : List Int := [1, 2, 3, 4, 5, 7, 6]
def MarkAt (l : Bs) (i : Value) : Prop := ∃ k : Nat, k ≤ 7 ∧ i = .int .i64 (k : Int) ∧ markF kinds7 l = markF (kinds7.drop k) l
set_option maxHeartbeats 4000000 in
theorem marked_any (s : ByteArray) (w : World) :
    Calls Try.prog 49 #[.string s] w fun e w' => e = .returned (.int .i64 (markF kinds7 s.data.toList)) ∧ Below w.heap.size w w' := by
  obtain ⟨T, hT⟩ : ∃ T, markF kinds7 s.data.toList = T := ⟨_, rfl⟩
  rw [hT]
  have HT := Lib.hid hT
  clear hT
  go_enter Try.func49, Try.ntmps49
  go_wp2_with fail
  go_loop [7] (fun i => MarkAt s.data.toList i) (fun i => 7 - (intOf i).toNat)
  case atStart => exact ⟨0, by omega, rfl, rfl⟩
  case round =>
    obtain ⟨k, hk, rfl, ha⟩ := hrel
    have Ha := Lib.hid ha
    clear ha
    have hk' : k = 0 ∨ k = 1 ∨ k = 2 ∨ k = 3 ∨ k = 4 ∨ k = 5 ∨ k = 6 ∨ k = 7 := by omega
    rcases hk' with rfl | rfl | rfl | rfl | rfl | rfl | rfl | rfl
    · obtain ⟨b, hb⟩ : ∃ b, Lib.hasPrefix s.data.toList (markS 1) = b := ⟨_, rfl⟩
      have hn : markF (kinds7.drop 0) s.data.toList = if b = true then 1 else markF (kinds7.drop 1) s.data.toList := by rw [← hb]; rfl
      have Hb := Lib.hid hb
      have Hn := Lib.hid hn
      clear hb hn
      cases b
      · go_wp2_with (first | (go_at_call 14; refine (mark_any 1 _).mono ?_; rintro e w' ⟨rfl, rfl⟩) | (go_at_call 47; refine (hasPrefix_is s ⟨(markS 1).toArray⟩ _ false Hb).mono ?_; rintro e w' ⟨rfl, rfl⟩))
        go_round
        case rel => exact ⟨1, by omega, by go_num, by rw [Ha.out, Hn.out]; rfl⟩
        case measure => simp [intOf]
      · have hT : T = 1 := by rw [← HT.out, Ha.out, Hn.out]; rfl
        have HT2 := Lib.hid hT
        clear hT
        go_wp2_with (first | (go_at_call 14; refine (mark_any 1 _).mono ?_; rintro e w' ⟨rfl, rfl⟩) | (go_at_call 47; refine (hasPrefix_is s ⟨(markS 1).toArray⟩ _ true Hb).mono ?_; rintro e w' ⟨rfl, rfl⟩))
        go_ret
        exact ⟨by rw [HT2.out]; rfl, (Below.refl _ _).alloc (Nat.le_refl _) _⟩
    · obtain ⟨b, hb⟩ : ∃ b, Lib.hasPrefix s.data.toList (markS 2) = b := ⟨_, rfl⟩
      have hn : markF (kinds7.drop 1) s.data.toList = if b = true then 2 else markF (kinds7.drop 2) s.data.toList := by rw [← hb]; rfl
      have Hb := Lib.hid hb
      have Hn := Lib.hid hn
      clear hb hn
      cases b
      · go_wp2_with (first | (go_at_call 14; refine (mark_any 2 _).mono ?_; rintro e w' ⟨rfl, rfl⟩) | (go_at_call 47; refine (hasPrefix_is s ⟨(markS 2).toArray⟩ _ false Hb).mono ?_; rintro e w' ⟨rfl, rfl⟩))
        go_round
        case rel => exact ⟨2, by omega, by go_num, by rw [Ha.out, Hn.out]; rfl⟩
        case measure => simp [intOf]
      · have hT : T = 2 := by rw [← HT.out, Ha.out, Hn.out]; rfl
        have HT2 := Lib.hid hT
        clear hT
        go_wp2_with (first | (go_at_call 14; refine (mark_any 2 _).mono ?_; rintro e w' ⟨rfl, rfl⟩) | (go_at_call 47; refine (hasPrefix_is s ⟨(markS 2).toArray⟩ _ true Hb).mono ?_; rintro e w' ⟨rfl, rfl⟩))
        go_ret
        exact ⟨by rw [HT2.out]; rfl, (Below.refl _ _).alloc (Nat.le_refl _) _⟩
    · obtain ⟨b, hb⟩ : ∃ b, Lib.hasPrefix s.data.toList (markS 3) = b := ⟨_, rfl⟩
      have hn : markF (kinds7.drop 2) s.data.toList = if b = true then 3 else markF (kinds7.drop 3) s.data.toList := by rw [← hb]; rfl
      have Hb := Lib.hid hb
      have Hn := Lib.hid hn
      clear hb hn
      cases b
      · go_wp2_with (first | (go_at_call 14; refine (mark_any 3 _).mono ?_; rintro e w' ⟨rfl, rfl⟩) | (go_at_call 47; refine (hasPrefix_is s ⟨(markS 3).toArray⟩ _ false Hb).mono ?_; rintro e w' ⟨rfl, rfl⟩))
        go_round
        case rel => exact ⟨3, by omega, by go_num, by rw [Ha.out, Hn.out]; rfl⟩
        case measure => simp [intOf]
      · have hT : T = 3 := by rw [← HT.out, Ha.out, Hn.out]; rfl
        have HT2 := Lib.hid hT
        clear hT
        go_wp2_with (first | (go_at_call 14; refine (mark_any 3 _).mono ?_; rintro e w' ⟨rfl, rfl⟩) | (go_at_call 47; refine (hasPrefix_is s ⟨(markS 3).toArray⟩ _ true Hb).mono ?_; rintro e w' ⟨rfl, rfl⟩))
        go_ret
        exact ⟨by rw [HT2.out]; rfl, (Below.refl _ _).alloc (Nat.le_refl _) _⟩
    · obtain ⟨b, hb⟩ : ∃ b, Lib.hasPrefix s.data.toList (markS 4) = b := ⟨_, rfl⟩
      have hn : markF (kinds7.drop 3) s.data.toList = if b = true then 4 else markF (kinds7.drop 4) s.data.toList := by rw [← hb]; rfl
      have Hb := Lib.hid hb
      have Hn := Lib.hid hn
      clear hb hn
      cases b
      · go_wp2_with (first | (go_at_call 14; refine (mark_any 4 _).mono ?_; rintro e w' ⟨rfl, rfl⟩) | (go_at_call 47; refine (hasPrefix_is s ⟨(markS 4).toArray⟩ _ false Hb).mono ?_; rintro e w' ⟨rfl, rfl⟩))
        go_round
        case rel => exact ⟨4, by omega, by go_num, by rw [Ha.out, Hn.out]; rfl⟩
        case measure => simp [intOf]
      · have hT : T = 4 := by rw [← HT.out, Ha.out, Hn.out]; rfl
        have HT2 := Lib.hid hT
        clear hT
        go_wp2_with (first | (go_at_call 14; refine (mark_any 4 _).mono ?_; rintro e w' ⟨rfl, rfl⟩) | (go_at_call 47; refine (hasPrefix_is s ⟨(markS 4).toArray⟩ _ true Hb).mono ?_; rintro e w' ⟨rfl, rfl⟩))
        go_ret
        exact ⟨by rw [HT2.out]; rfl, (Below.refl _ _).alloc (Nat.le_refl _) _⟩
    · obtain ⟨b, hb⟩ : ∃ b, Lib.hasPrefix s.data.toList (markS 5) = b := ⟨_, rfl⟩
      have hn : markF (kinds7.drop 4) s.data.toList = if b = true then 5 else markF (kinds7.drop 5) s.data.toList := by rw [← hb]; rfl
      have Hb := Lib.hid hb
      have Hn := Lib.hid hn
      clear hb hn
      cases b
      · go_wp2_with (first | (go_at_call 14; refine (mark_any 5 _).mono ?_; rintro e w' ⟨rfl, rfl⟩) | (go_at_call 47; refine (hasPrefix_is s ⟨(markS 5).toArray⟩ _ false Hb).mono ?_; rintro e w' ⟨rfl, rfl⟩))
        go_round
        case rel => exact ⟨5, by omega, by go_num, by rw [Ha.out, Hn.out]; rfl⟩
        case measure => simp [intOf]
      · have hT : T = 5 := by rw [← HT.out, Ha.out, Hn.out]; rfl
        have HT2 := Lib.hid hT
        clear hT
        go_wp2_with (first | (go_at_call 14; refine (mark_any 5 _).mono ?_; rintro e w' ⟨rfl, rfl⟩) | (go_at_call 47; refine (hasPrefix_is s ⟨(markS 5).toArray⟩ _ true Hb).mono ?_; rintro e w' ⟨rfl, rfl⟩))
        go_ret
        exact ⟨by rw [HT2.out]; rfl, (Below.refl _ _).alloc (Nat.le_refl _) _⟩
    · obtain ⟨b, hb⟩ : ∃ b, Lib.hasPrefix s.data.toList (markS 7) = b := ⟨_, rfl⟩
      have hn : markF (kinds7.drop 5) s.data.toList = if b = true then 7 else markF (kinds7.drop 6) s.data.toList := by rw [← hb]; rfl
      have Hb := Lib.hid hb
      have Hn := Lib.hid hn
      clear hb hn
      cases b
      · go_wp2_with (first | (go_at_call 14; refine (mark_any 7 _).mono ?_; rintro e w' ⟨rfl, rfl⟩) | (go_at_call 47; refine (hasPrefix_is s ⟨(markS 7).toArray⟩ _ false Hb).mono ?_; rintro e w' ⟨rfl, rfl⟩))
        go_round
        case rel => exact ⟨6, by omega, by go_num, by rw [Ha.out, Hn.out]; rfl⟩
        case measure => simp [intOf]
      · have hT : T = 7 := by rw [← HT.out, Ha.out, Hn.out]; rfl
        have HT2 := Lib.hid hT
        clear hT
        go_wp2_with (first | (go_at_call 14; refine (mark_any 7 _).mono ?_; rintro e w' ⟨rfl, rfl⟩) | (go_at_call 47; refine (hasPrefix_is s ⟨(markS 7).toArray⟩ _ true Hb).mono ?_; rintro e w' ⟨rfl, rfl⟩))
        go_ret
        exact ⟨by rw [HT2.out]; rfl, (Below.refl _ _).alloc (Nat.le_refl _) _⟩
    · obtain ⟨b, hb⟩ : ∃ b, Lib.hasPrefix s.data.toList (markS 6) = b := ⟨_, rfl⟩
      have hn : markF (kinds7.drop 6) s.data.toList = if b = true then 6 else markF (kinds7.drop 7) s.data.toList := by rw [← hb]; rfl
      have Hb := Lib.hid hb
      have Hn := Lib.hid hn
      clear hb hn
      cases b
      · go_wp2_with (first | (go_at_call 14; refine (mark_any 6 _).mono ?_; rintro e w' ⟨rfl, rfl⟩) | (go_at_call 47; refine (hasPrefix_is s ⟨(markS 6).toArray⟩ _ false Hb).mono ?_; rintro e w' ⟨rfl, rfl⟩))
        go_round
        case rel => exact ⟨7, by omega, by go_num, by rw [Ha.out, Hn.out]; rfl⟩
        case measure => simp [intOf]
      · have hT : T = 6 := by rw [← HT.out, Ha.out, Hn.out]; rfl
        have HT2 := Lib.hid hT
        clear hT
        go_wp2_with (first | (go_at_call 14; refine (mark_any 6 _).mono ?_; rintro e w' ⟨rfl, rfl⟩) | (go_at_call 47; refine (hasPrefix_is s ⟨(markS 6).toArray⟩ _ true Hb).mono ?_; rintro e w' ⟨rfl, rfl⟩))
        go_ret
        exact ⟨by rw [HT2.out]; rfl, (Below.refl _ _).alloc (Nat.le_refl _) _⟩
    · have hT : T = 0 := by rw [← HT.out, Ha.out]; rfl
      have HT2 := Lib.hid hT
      clear hT
      go_wp2_with fail
      go_ret
      exact ⟨by rw [HT2.out]; rfl, (Below.refl _ _).alloc (Nat.le_refl _) _⟩
end Go.Proofs.Ytpeleifkednmoaa.Lx
end
