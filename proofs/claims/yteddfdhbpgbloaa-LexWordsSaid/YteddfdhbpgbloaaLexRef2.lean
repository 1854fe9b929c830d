/- The document's escapes, and what it passes over (layer 3). -/
import Derived.Test.YteddfdhbpgbloaaLexRef1
namespace Go.Proofs.Yteddfdhbpgbloaa.Lx
open Go.ChangeShapes Go.WideShapes Go.ChangeAt Go.RowKit
set_option linter.unusedVariables false

/-- The character behind a backslash, or -1, and how many bytes it has. -/
def escRV : Bs → Int
  | [] => -1
  | c :: r => if ((c.toNat : Int) == 110) = true then 10 else if ((c.toNat : Int) == 116) = true then 9 else if ((c.toNat : Int) == 92) = true then (c.toNat : Int) else if ((c.toNat : Int) == 34) = true then (c.toNat : Int) else if ((c.toNat : Int) == 120) = true then hexR r else -1
def escRN : Bs → Int
  | [] => 1
  | c :: r => if ((c.toNat : Int) == 110) = true then 1 else if ((c.toNat : Int) == 116) = true then 1 else if ((c.toNat : Int) == 92) = true then 1 else if ((c.toNat : Int) == 34) = true then 1 else if ((c.toNat : Int) == 120) = true then 3 else 1
set_option maxRecDepth 100000 in
set_option maxHeartbeats 2000000 in
theorem escaped_any (s : ByteArray) (p : Nat) (w : World) (hs : s.size < 1000000) (hp : p < s.size) :
    Calls Try.prog 122 #[.string s, .int .i64 (p : Int)] w fun e w' => e = .returned (.tuple #[.int .i64 (escRV (s.data.toList.drop p)), .int .i64 (escRN (s.data.toList.drop p))]) ∧ w = w' := by
  have i1 : (p : Int) < s.size := by omega
  have HX : Hid (∀ w : World, Calls Try.prog 125 #[.string s, .int .i64 ((p : Int) + 1)] w fun e w' => e = .returned (.int .i64 (hexR (s.data.toList.drop (p + 1)))) ∧ w = w') := fun w => hex_any s (p + 1) w hs (by omega)
  have hp2 : (p : Int) ≤ 1000000 := by omega
  have hc := s[p].toNat_lt
  have hc1 : (s[p].toNat : Int) ≤ 255 := by omega
  clear hc
  rw [drop_at s p hp]
  rw [escRV, escRN]
  cases a0 : (s[p].toNat : Int) == 110
  case true =>
    simp only [↓reduceIte]
    go_enter Try.func122, Try.ntmps122
    go_wp2_with (go_at_call 125; refine (HX.out _).mono ?_; rintro e w' ⟨rfl, rfl⟩)
    go_ret2
    exact ⟨rfl, rfl⟩
  simp only [Bool.false_eq_true, ↓reduceIte]
  cases a1 : (s[p].toNat : Int) == 116
  case true =>
    simp only [↓reduceIte]
    go_enter Try.func122, Try.ntmps122
    go_wp2_with (go_at_call 125; refine (HX.out _).mono ?_; rintro e w' ⟨rfl, rfl⟩)
    go_ret2
    exact ⟨rfl, rfl⟩
  simp only [Bool.false_eq_true, ↓reduceIte]
  cases a2 : (s[p].toNat : Int) == 92
  case true =>
    simp only [↓reduceIte]
    go_enter Try.func122, Try.ntmps122
    go_wp2_with (go_at_call 125; refine (HX.out _).mono ?_; rintro e w' ⟨rfl, rfl⟩)
    go_ret2
    exact ⟨rfl, rfl⟩
  simp only [Bool.false_eq_true, ↓reduceIte]
  cases a3 : (s[p].toNat : Int) == 34
  case true =>
    simp only [↓reduceIte]
    go_enter Try.func122, Try.ntmps122
    go_wp2_with (go_at_call 125; refine (HX.out _).mono ?_; rintro e w' ⟨rfl, rfl⟩)
    go_ret2
    exact ⟨rfl, rfl⟩
  simp only [Bool.false_eq_true, ↓reduceIte]
  cases a4 : (s[p].toNat : Int) == 120
  case true =>
    simp only [↓reduceIte]
    go_enter Try.func122, Try.ntmps122
    go_wp2_with (go_at_call 125; refine (HX.out _).mono ?_; rintro e w' ⟨rfl, rfl⟩)
    go_ret2
    exact ⟨rfl, rfl⟩
  simp only [Bool.false_eq_true, ↓reduceIte]
  go_enter Try.func122, Try.ntmps122
  go_wp2_with fail
  go_ret2
  exact ⟨rfl, rfl⟩
end Go.Proofs.Yteddfdhbpgbloaa.Lx
