/- Marks, names, escapes and codes of characters of layer 3: what the program's functions return. -/
import Derived.WalkKit
import Derived.Lib.Bytealg
import Derived.Lib.IndexBytes
import Derived.Test.YtpeleifkednmoaaRows
import Derived.ProofKit
import Derived.OpenShut
import Derived.Lib.Hide
import Derived.Outline
import Derived.Test.YtpeleifkednmoaaShelf
import Derived.Deep.QuietTactic
import Derived.BigQuiet
section
namespace Go.Proofs.Ytpeleifkednmoaa.Lx
open Go Go.RowKit

abbrev Bs := List UInt8
def blankB (c : UInt8) : Bool := ((c.toNat : Int) == 32) || ((c.toNat : Int) == 9) || ((c.toNat : Int) == 10) || ((c.toNat : Int) == 13)
def printB (c : UInt8) : Bool := decide (32 ≤ (c.toNat : Int)) && decide ((c.toNat : Int) ≤ 126)
def digitB (c : UInt8) : Bool := decide (48 ≤ (c.toNat : Int)) && decide ((c.toNat : Int) ≤ 57)
def lowerB (c : UInt8) : Bool := decide (97 ≤ (c.toNat : Int)) && decide ((c.toNat : Int) ≤ 122)
def delimB (c : UInt8) : Bool := blankB c || ((c.toNat : Int) == 40) || ((c.toNat : Int) == 41) || ((c.toNat : Int) == 34) || ((c.toNat : Int) == 59)
/-- A byte that is a character of the language. -/
def okC (c : UInt8) : Bool := printB c || blankB c
/-- The first byte that is none, or -1. -/
def nightI (l : Bs) : Int := if l.all okC = true then -1 else (l.findIdx (fun c => !okC c) : Int)
/-- How far a line goes. -/
def lineN (l : Bs) : Nat := l.findIdx (fun c => c == 10)
/-- A comment from where so many are open: how long it is till all are closed. -/
def comR : Nat → Bs → Option Nat
  | 0, _ => some 0
  | _ + 1, [] => none
  | _ + 1, [_] => none
  | o + 1, 35 :: 124 :: r => (comR (o + 2) r).map (· + 2)
  | o + 1, 124 :: 35 :: r => (comR o r).map (· + 2)
  | o + 1, _ :: r => (comR (o + 1) r).map (· + 1)
/-- A comment that begins here: how long it is; 0: it has no end. -/
def comN (l : Bs) : Nat := match comR 1 (l.drop 2) with | some n => n + 2 | none => 0
def isCom : Bs → Bool | 35 :: 124 :: _ => true | _ => false
/-- What is passed over at once; 0: nothing. -/
def gapN : Bs → Nat
  | [] => 0
  | c :: r => if blankB c then 1 else if c == 59 then lineN (c :: r) else if isCom (c :: r) then comN (c :: r) else 0
/-- What is passed over. -/
def skipF : Nat → Bs → Nat
  | 0, _ => 0
  | f + 1, l => if gapN l = 0 then 0 else gapN l + skipF f (l.drop (gapN l))
def skipN (l : Bs) : Nat := skipF l.length l
/-- Where a string ends, from behind its first quote: the place of the last one. -/
def qEnd : Bs → Option Nat
  | [] => none
  | 34 :: _ => some 0
  | [92] => none
  | 92 :: _ :: r => (qEnd r).map (· + 2)
  | _ :: r => (qEnd r).map (· + 1)
def hexI (c : UInt8) : Option Nat := if digitB c then some (c.toNat - 48) else if 97 ≤ c.toNat ∧ c.toNat ≤ 102 then some (c.toNat - 87) else none
def hex2 (a b : UInt8) : Option UInt8 := match hexI a, hexI b with | some x, some y => if x ≤ 7 then some (UInt8.ofNat (16 * x + y)) else none | _, _ => none
/-- What the inside of a string denotes. -/
def unq : Bs → Option Bs
  | [] => some []
  | 92 :: 110 :: r => (unq r).map (10 :: ·)
  | 92 :: 116 :: r => (unq r).map (9 :: ·)
  | 92 :: 92 :: r => (unq r).map (92 :: ·)
  | 92 :: 34 :: r => (unq r).map (34 :: ·)
  | 92 :: 120 :: a :: b :: r => match hex2 a b with | some c => (unq r).map (c :: ·) | none => none
  | 92 :: _ => none
  | c :: r => if 32 ≤ c.toNat then (unq r).map (c :: ·) else none
def markK : Bs → Int
  | 40 :: _ => 1
  | 41 :: _ => 2
  | 35 :: 40 :: _ => 3
  | 39 :: _ => 4
  | 96 :: _ => 5
  | 44 :: 64 :: _ => 7
  | 44 :: _ => 6
  | _ => 0
/-- How long what follows the opening of a character is. -/
def spellN : Bs → Nat
  | [] => 0
  | c :: r => if lowerB c then 1 + (r.takeWhile (fun x => lowerB x || digitB x)).length else 1
/-- Which character is spelled so. -/
def charI (l : Bs) : Option Int :=
  if l = [115, 112, 97, 99, 101] then some 32 else if l = [110, 101, 119, 108, 105, 110, 101] then some 10 else if l = [116, 97, 98] then some 9 else if l = [110, 117, 108] then some 0
  else match l with
    | [c] => if blankB c then none else some (c.toNat : Int)
    | [120, a, b] => (hex2 a b).map (fun c => (c.toNat : Int))
    | _ => none
def runN : Bs → Nat
  | [] => 0
  | _ :: r => 1 + (r.takeWhile (fun x => !delimB x)).length

theorem findIdx_at (l : Bs) (p : UInt8 → Bool) (k : Nat) (hk : k < l.length) (h : (l.take k).all (fun c => !p c) = true) (hp : p l[k] = true) : l.findIdx p = k := by
  rw [List.findIdx_eq hk]
  refine ⟨hp, fun j hj => ?_⟩
  have := List.all_eq_true.1 h l[j] (List.mem_take_iff_getElem.2 ⟨j, by omega, rfl⟩)
  simpa using this
theorem nightI_at (l : Bs) (k : Nat) (hk : k < l.length) (h : (l.take k).all okC = true) (hp : okC l[k] = false) : nightI l = (k : Int) := by
  unfold nightI
  rw [if_neg, findIdx_at l _ k hk (by simpa using h) (by simp [hp])]
  intro ha
  have := List.all_eq_true.1 ha l[k] (List.getElem_mem hk)
  rw [hp] at this
  cases this
theorem nightI_no (l : Bs) (h : l.all okC = true) : nightI l = -1 := by unfold nightI; rw [if_pos h]
theorem len_of (t : ByteArray) : t.data.toList.length = t.size := by rw [Array.length_toList]; rfl
theorem byte_at (t : ByteArray) (k : Nat) (h : k < t.size) : t.data.toList[k]? = some t[k] := by
  rw [List.getElem?_eq_getElem (by rw [len_of]; exact h), Array.getElem_toList]; rfl
theorem drop_at (t : ByteArray) (k : Nat) (h : k < t.size) : t.data.toList.drop k = t[k] :: t.data.toList.drop (k + 1) := by
  have h' : k < t.data.toList.length := by rw [len_of]; exact h
  rw [List.drop_eq_getElem_cons h', Array.getElem_toList]; rfl
theorem drop_none (t : ByteArray) (k : Nat) (h : t.size ≤ k) : t.data.toList.drop k = [] := List.drop_eq_nil_of_le (by rw [len_of]; exact h)
theorem take_at (t : ByteArray) (k : Nat) (h : k < t.size) : t.data.toList.take (k + 1) = t.data.toList.take k ++ [t[k]] := by
  rw [List.take_add_one, byte_at t k h]; rfl
theorem drop_add (l : Bs) (a b : Nat) : (l.drop a).drop b = l.drop (a + b) := by rw [List.drop_drop]
theorem u8_toNat (c : UInt8) (n : Nat) (hn : n < 256) : ((c.toNat : Int) == (n : Int)) = (c == UInt8.ofNat n) := by
  by_cases h : c = UInt8.ofNat n
  · have : c.toNat = n := by rw [h]; simp; omega
    rw [this, h]; simp
  · have : c.toNat ≠ n := fun e => h (UInt8.toNat_inj.1 (by rw [e]; simp; omega))
    rw [beq_eq_false_iff_ne.2 h, beq_eq_false_iff_ne]; omega
theorem u8_ne {c : UInt8} {n : Nat} (hn : n < 256) (h : ((c.toNat : Int) == (n : Int)) = false) : c ≠ UInt8.ofNat n := by
  rw [u8_toNat c n hn] at h; exact beq_eq_false_iff_ne.1 h
theorem u8_is {c : UInt8} {n : Nat} (hn : n < 256) (h : ((c.toNat : Int) == (n : Int)) = true) : c = UInt8.ofNat n := by
  rw [u8_toNat c n hn] at h; exact beq_iff_eq.1 h

/- A line. -/
theorem lineN_eq (l : Bs) : (if 0 ≤ Lib.indexByte l 10 then Lib.indexByte l 10 else (l.length : Int)) = (lineN l : Int) := by
  unfold lineN
  induction l with
  | nil => rfl
  | cons c r ih =>
    unfold Lib.indexByte
    rw [List.findIdx_cons]
    cases h : c == 10
    · have hg := Lib.indexByte_ge r 10
      simp only [Bool.false_eq_true, if_false, cond_false]
      by_cases h1 : Lib.indexByte r 10 = -1
      · rw [h1] at ih
        simp only [h1, List.length_cons]
        simp at ih ⊢
        omega
      · have h2 : ¬ (Lib.indexByte r 10 == -1) = true := by simpa using h1
        rw [if_neg h2]
        rw [if_pos (by omega)] at ih
        rw [if_pos (by omega)]
        omega
    · rfl
theorem lineN_le (l : Bs) : lineN l ≤ l.length := List.findIdx_le_length

/- A comment. -/
theorem comR_open (o : Nat) (r : Bs) : comR (o + 1) (35 :: 124 :: r) = (comR (o + 2) r).map (· + 2) := by rfl
theorem comR_shut (o : Nat) (r : Bs) : comR (o + 1) (124 :: 35 :: r) = (comR o r).map (· + 2) := by rfl
theorem comR_one (o : Nat) (c d : UInt8) (r : Bs) (h1 : ¬ (c = 35 ∧ d = 124)) (h2 : ¬ (c = 124 ∧ d = 35)) : comR (o + 1) (c :: d :: r) = (comR (o + 1) (d :: r)).map (· + 1) := by
  rw [comR]
  · intro h; cases h
  · intro r' h h'; injection h' with a b; exact h1 ⟨h, a⟩
  · intro r' h h'; injection h' with a b; exact h2 ⟨h, a⟩
theorem comR_le : ∀ (l : Bs) (o n : Nat), comR o l = some n → n ≤ l.length
  | l, 0, n, h => by simp [comR] at h; omega
  | [], _ + 1, n, h => by simp [comR] at h
  | [_], _ + 1, n, h => by simp [comR] at h
  | c :: d :: r, o + 1, n, h => by
    by_cases h1 : c = 35 ∧ d = 124
    · obtain ⟨rfl, rfl⟩ := h1
      rw [comR_open] at h
      cases e : comR (o + 2) r with
      | none => rw [e] at h; cases h
      | some m => have := comR_le r _ _ e; rw [e] at h; simp at h ⊢; omega
    · by_cases h2 : c = 124 ∧ d = 35
      · obtain ⟨rfl, rfl⟩ := h2
        rw [comR_shut] at h
        cases e : comR o r with
        | none => rw [e] at h; cases h
        | some m => have := comR_le r _ _ e; rw [e] at h; simp at h ⊢; omega
      · rw [comR_one o c d r h1 h2] at h
        cases e : comR (o + 1) (d :: r) with
        | none => rw [e] at h; cases h
        | some m => have := comR_le (d :: r) _ _ e; rw [e] at h; simp at h this ⊢; omega
theorem isCom_iff {l : Bs} : isCom l = true ↔ ∃ r, l = 35 :: 124 :: r := by
  constructor
  · intro h; unfold isCom at h; split at h
    · exact ⟨_, rfl⟩
    · cases h
  · rintro ⟨r, rfl⟩; rfl
theorem comN_le (l : Bs) (h : isCom l = true) : comN l ≤ l.length := by
  obtain ⟨r, rfl⟩ := isCom_iff.1 h
  unfold comN
  cases e : comR 1 ((35 :: 124 :: r).drop 2) with
  | none => simp
  | some n => have := comR_le _ _ _ e; simp at this ⊢; omega

/- A string. -/
theorem qEnd_quote (r : Bs) : qEnd (34 :: r) = some 0 := by rfl
theorem qEnd_esc (r : Bs) : qEnd (92 :: r) = (qEnd (r.drop 1)).map (· + 2) := by
  cases r with
  | nil => rfl
  | cons c r => rfl
theorem qEnd_one (c : UInt8) (r : Bs) (h1 : c ≠ 34) (h2 : c ≠ 92) : qEnd (c :: r) = (qEnd r).map (· + 1) := by
  rw [qEnd]
  · exact h1
  · intro h; exact absurd h (by simp [h2])
  · intro c' r' h; exact absurd h (by simp [h2])
/- What is passed over. -/
theorem gapN_le (l : Bs) : gapN l ≤ l.length := by
  cases l with
  | nil => exact Nat.le_refl _
  | cons c r =>
    rw [gapN]
    by_cases h1 : blankB c = true
    · rw [if_pos h1]; simp
    · rw [if_neg h1]
      by_cases h2 : (c == 59) = true
      · rw [if_pos h2]; exact lineN_le _
      · rw [if_neg h2]
        by_cases h3 : isCom (c :: r) = true
        · rw [if_pos h3]; exact comN_le _ h3
        · rw [if_neg h3]; exact Nat.zero_le _
theorem skipF_more : ∀ (f g : Nat) (l : Bs), l.length ≤ f → l.length ≤ g → skipF f l = skipF g l
  | 0, 0, _, _, _ => rfl
  | 0, g + 1, l, h, _ => by
    have : l = [] := List.eq_nil_of_length_eq_zero (by omega)
    subst this; simp [skipF, gapN]
  | f + 1, 0, l, _, h => by
    have : l = [] := List.eq_nil_of_length_eq_zero (by omega)
    subst this; simp [skipF, gapN]
  | f + 1, g + 1, l, h1, h2 => by
    unfold skipF
    split
    · rfl
    · rw [skipF_more f g (l.drop (gapN l)) (by rw [List.length_drop]; omega) (by rw [List.length_drop]; omega)]
theorem skipN_eq (l : Bs) : skipN l = if gapN l = 0 then 0 else gapN l + skipN (l.drop (gapN l)) := by
  unfold skipN
  by_cases h : gapN l = 0
  · rw [if_pos h]
    cases hl : l.length with
    | zero => rfl
    | succ n => unfold skipF; rw [if_pos h]
  · rw [if_neg h]
    cases hl : l.length with
    | zero => have := gapN_le l; omega
    | succ n =>
      rw [skipF, if_neg h]
      rw [skipF_more n (l.drop (gapN l)).length _ (by rw [List.length_drop]; omega) (Nat.le_refl _)]
theorem skipN_zero {l : Bs} (h : gapN l = 0) : skipN l = 0 := by rw [skipN_eq, if_pos h]
theorem skipN_gap {l : Bs} (h : gapN l ≠ 0) : skipN l = gapN l + skipN (l.drop (gapN l)) := by rw [skipN_eq, if_neg h]
theorem skipF_le : ∀ (f : Nat) (l : Bs), skipF f l ≤ l.length
  | 0, _ => Nat.zero_le _
  | f + 1, l => by
    unfold skipF
    split
    · exact Nat.zero_le _
    · have := skipF_le f (l.drop (gapN l))
      have := gapN_le l
      rw [List.length_drop] at *
      omega
theorem skipN_le (l : Bs) : skipN l ≤ l.length := skipF_le _ _
theorem gapN_blank {c : UInt8} {r : Bs} (h : blankB c = true) : gapN (c :: r) = 1 := by rw [gapN, if_pos h]
theorem gapN_line {c : UInt8} {r : Bs} (h : blankB c = false) (h2 : c = 59) : gapN (c :: r) = lineN (c :: r) := by rw [gapN, if_neg (by rw [h]; simp), if_pos (by simp [h2])]
theorem gapN_com {c : UInt8} {r : Bs} (h : blankB c = false) (h2 : c ≠ 59) (h3 : isCom (c :: r) = true) : gapN (c :: r) = comN (c :: r) := by rw [gapN, if_neg (by rw [h]; simp), if_neg (by simp [h2]), if_pos h3]
theorem gapN_word {c : UInt8} {r : Bs} (h : blankB c = false) (h2 : c ≠ 59) (h3 : isCom (c :: r) = false) : gapN (c :: r) = 0 := by rw [gapN, if_neg (by rw [h]; simp), if_neg (by simp [h2]), if_neg (by rw [h3]; simp)]
theorem lineN_pos {c : UInt8} {r : Bs} (h : c ≠ 10) : 0 < lineN (c :: r) := by
  unfold lineN
  rw [List.findIdx_cons, show (c == 10) = false by simp [h]]
  exact Nat.succ_pos _
/-- What is wrong with what is left when all is passed over that can be: a comment that does not end. -/
def skipE (l : Bs) : Int := if isCom (l.drop (skipN l)) then 31 else 0
theorem skipE_gap {l : Bs} (h : gapN l ≠ 0) : skipE l = skipE (l.drop (gapN l)) := by unfold skipE; rw [skipN_gap h, List.drop_drop]
theorem skipE_zero {l : Bs} (h : gapN l = 0) : skipE l = if isCom l then 31 else 0 := by unfold skipE; rw [skipN_zero h]; rfl
theorem prefix_com (l : Bs) : Lib.hasPrefix l [35, 124] = isCom l := by
  match l with
  | [] => rfl
  | [c] => show ((35 : UInt8) == c && false) = _; rw [Bool.and_false]; unfold isCom; split <;> simp_all
  | c :: d :: r =>
    show ((35 : UInt8) == c && ((124 : UInt8) == d && true)) = _
    by_cases h : c = 35 ∧ d = 124
    · obtain ⟨rfl, rfl⟩ := h; rfl
    · have : isCom (c :: d :: r) = false := by unfold isCom; split <;> simp_all
      rw [this]
      rw [Bool.and_true, Bool.and_eq_false_iff]
      by_cases h1 : c = 35
      · right; rw [beq_eq_false_iff_ne]; exact fun e => h ⟨h1, e.symm⟩
      · left; rw [beq_eq_false_iff_ne]; exact fun e => h1 e.symm
end Go.Proofs.Ytpeleifkednmoaa.Lx
end
section
namespace Go.Proofs.Ytpeleifkednmoaa.Lx
open Go.ChangeShapes Go.WideShapes Go.ChangeAt Go.RowKit

theorem blank_any (c : UInt8) (w : World) :
    Calls Try.prog 45 #[.int .u8 (c.toNat : Int)] w fun e w' => e = .returned (.bool (blankB c)) ∧ w = w' := by
  unfold blankB
  cases a0 : ((c.toNat : Int) == 32) <;> cases a1 : ((c.toNat : Int) == 9) <;> cases a2 : ((c.toNat : Int) == 10) <;> cases a3 : ((c.toNat : Int) == 13)
  all_goals
    go_enter Try.func45, Try.ntmps45
    go_wp2_with fail
    go_ret
    exact ⟨rfl, rfl⟩
theorem printed_any (c : UInt8) (w : World) :
    Calls Try.prog 35 #[.int .u8 (c.toNat : Int)] w fun e w' => e = .returned (.bool (printB c)) ∧ w = w' := by
  unfold printB
  cases a0 : decide (32 ≤ (c.toNat : Int)) <;> cases a1 : decide ((c.toNat : Int) ≤ 126)
  all_goals
    go_enter Try.func35, Try.ntmps35
    go_wp2_with fail
    go_ret
    exact ⟨rfl, rfl⟩
theorem digit_any (c : UInt8) (w : World) :
    Calls Try.prog 66 #[.int .u8 (c.toNat : Int)] w fun e w' => e = .returned (.bool (digitB c)) ∧ w = w' := by
  unfold digitB
  cases a0 : decide (48 ≤ (c.toNat : Int)) <;> cases a1 : decide ((c.toNat : Int) ≤ 57)
  all_goals
    go_enter Try.func66, Try.ntmps66
    go_wp2_with fail
    go_ret
    exact ⟨rfl, rfl⟩
theorem lower_any (c : UInt8) (w : World) :
    Calls Try.prog 65 #[.int .u8 (c.toNat : Int)] w fun e w' => e = .returned (.bool (lowerB c)) ∧ w = w' := by
  unfold lowerB
  cases a0 : decide (97 ≤ (c.toNat : Int)) <;> cases a1 : decide ((c.toNat : Int) ≤ 122)
  all_goals
    go_enter Try.func65, Try.ntmps65
    go_wp2_with fail
    go_ret
    exact ⟨rfl, rfl⟩
theorem delimits_any (c : UInt8) (w : World) :
    Calls Try.prog 68 #[.int .u8 (c.toNat : Int)] w fun e w' => e = .returned (.bool (delimB c)) ∧ w = w' := by
  unfold delimB
  obtain ⟨b, hb⟩ : ∃ b, blankB c = b := ⟨_, rfl⟩
  rw [hb]
  have Hb := Lib.hid hb
  clear hb
  cases b <;> cases a0 : ((c.toNat : Int) == 40) <;> cases a1 : ((c.toNat : Int) == 41) <;> cases a2 : ((c.toNat : Int) == 34) <;> cases a3 : ((c.toNat : Int) == 59)
  all_goals
    go_enter Try.func68, Try.ntmps68
    go_wp2_with (go_at_call 45; refine (blank_any c _).mono ?_; rintro e w' ⟨rfl, rfl⟩; rw [Hb.out])
    go_ret
    exact ⟨rfl, rfl⟩
end Go.Proofs.Ytpeleifkednmoaa.Lx
end
section
namespace Go.Proofs.Ytpeleifkednmoaa.Lx
open Go.ChangeShapes Go.WideShapes Go.ChangeAt Go.RowKit
set_option linter.unusedVariables false

theorem all_at (s : ByteArray) (p : UInt8 → Bool) (k : Nat) (h : k < s.size) : (s.data.toList.take (k + 1)).all p = ((s.data.toList.take k).all p && p s[k]) := by
  rw [take_at s k h, List.all_append]; simp
def NightAt (s : ByteArray) (i : Value) : Prop := ∃ k : Nat, k ≤ s.size ∧ i = .int .i64 (k : Int) ∧ (s.data.toList.take k).all okC = true
set_option maxHeartbeats 400000 in
theorem night_any (s : ByteArray) (w : World) (hs : s.size ≤ maxLen) :
    Calls Try.prog 27 #[.string s] w fun e w' => e = .returned (.int .i64 (nightI s.data.toList)) ∧ w = w' := by
  unfold maxLen at hs
  go_enter Try.func27, Try.ntmps27
  go_wp2_with fail
  go_loop [7] (fun i => NightAt s i) (fun i => s.size - (intOf i).toNat)
  case atStart => exact ⟨0, Nat.zero_le _, rfl, rfl⟩
  case round =>
    obtain ⟨k, hk, rfl, ha⟩ := hrel
    have Ha := Lib.hid ha
    clear ha
    by_cases hlt : k < s.size
    · have dl : decide ((k : Int) < (s.size : Int)) = true := by simp [hlt]
      have hn := all_at s okC k hlt
      rw [Ha.out] at hn
      obtain ⟨b, hb⟩ : ∃ b, printB s[k] = b := ⟨_, rfl⟩
      obtain ⟨c, hc⟩ : ∃ c, blankB s[k] = c := ⟨_, rfl⟩
      have hok : okC s[k] = (b || c) := by unfold okC; rw [hb, hc]
      have Hb := Lib.hid hb
      have Hc := Lib.hid hc
      clear hb hc
      cases b
      · cases c
        · have hx := nightI_at s.data.toList k (by rw [len_of]; exact hlt) Ha.out (by rw [Array.getElem_toList]; exact hok)
          have Hx := Lib.hid hx
          clear hx hn hok
          go_wp2_with (first | (go_at_call 35; refine (printed_any s[k] _).mono ?_; rintro e w' ⟨rfl, rfl⟩; rw [Hb.out]) | (go_at_call 45; refine (blank_any s[k] _).mono ?_; rintro e w' ⟨rfl, rfl⟩; rw [Hc.out]))
          go_ret
          exact ⟨by rw [Hx.out]; rfl, rfl⟩
        · rw [hok] at hn
          have Hn := Lib.hid hn
          clear hn hok
          go_wp2_with (first | (go_at_call 35; refine (printed_any s[k] _).mono ?_; rintro e w' ⟨rfl, rfl⟩; rw [Hb.out]) | (go_at_call 45; refine (blank_any s[k] _).mono ?_; rintro e w' ⟨rfl, rfl⟩; rw [Hc.out]))
          go_round
          case rel => exact ⟨k + 1, by omega, by go_num, Hn.out⟩
          case measure => simp [intOf]; omega
      · rw [hok] at hn
        have Hn := Lib.hid hn
        clear hn hok
        go_wp2_with (first | (go_at_call 35; refine (printed_any s[k] _).mono ?_; rintro e w' ⟨rfl, rfl⟩; rw [Hb.out]) | (go_at_call 45; refine (blank_any s[k] _).mono ?_; rintro e w' ⟨rfl, rfl⟩; rw [Hc.out]))
        go_round
        case rel => exact ⟨k + 1, by omega, by go_num, by rw [Hn.out]; rfl⟩
        case measure => simp [intOf]; omega
    · have dl : decide ((k : Int) < (s.size : Int)) = false := by simp [hlt]
      have hx : nightI s.data.toList = -1 := nightI_no _ (by rw [← Ha.out, List.take_of_length_le (by rw [len_of]; omega)])
      have Hx := Lib.hid hx
      clear hx
      go_wp2
      go_ret
      exact ⟨by rw [Hx.out]; rfl, rfl⟩
theorem line_any (s : ByteArray) (w : World) (hs : s.size ≤ maxLen) :
    Calls Try.prog 46 #[.string s] w fun e w' => e = .returned (.int .i64 (lineN s.data.toList)) ∧ w = w' := by
  unfold maxLen at hs
  rw [← lineN_eq]
  have hx : Calls Try.prog 62 #[.string s, .int .u8 10] w fun e w' => e = .returned (.int .i64 (Lib.indexByte s.data.toList 10)) ∧ w = w' := (Try.strings_IndexByte s 10 w).mono fun e w' ⟨h1, h2⟩ => ⟨h1, h2.symm⟩
  have Hx := Lib.hid hx
  clear hx
  rw [len_of]
  obtain ⟨i, hi⟩ : ∃ i, Lib.indexByte s.data.toList 10 = i := ⟨_, rfl⟩
  rw [hi] at Hx
  rw [hi]
  clear hi
  by_cases h : 0 ≤ i
  · have d : decide (i ≥ 0) = true := by simpa using h
    rw [if_pos h]
    go_enter Try.func46, Try.ntmps46
    go_wp2_with (go_at_call 62; refine Hx.out.mono ?_; rintro e w' ⟨rfl, rfl⟩)
    go_ret
    exact ⟨rfl, rfl⟩
  · have d : decide (i ≥ 0) = false := by simpa using h
    rw [if_neg h]
    go_enter Try.func46, Try.ntmps46
    go_wp2_with (go_at_call 62; refine Hx.out.mono ?_; rintro e w' ⟨rfl, rfl⟩)
    go_ret
    exact ⟨rfl, rfl⟩
def quotedN (l : Bs) : Nat := match qEnd (l.drop 1) with | some n => n + 2 | none => 0
def QuotedAt (s : ByteArray) (i : Value) : Prop := ∃ k : Nat, 1 ≤ k ∧ k ≤ s.size + 1 ∧ i = .int .i64 (k : Int) ∧ qEnd (s.data.toList.drop 1) = (qEnd (s.data.toList.drop k)).map (· + (k - 1))
set_option maxHeartbeats 400000 in
theorem quoted_any (s : ByteArray) (w : World) (hs : s.size < maxLen) :
    Calls Try.prog 50 #[.string s] w fun e w' => e = .returned (.int .i64 (quotedN s.data.toList)) ∧ w = w' := by
  unfold maxLen at hs
  go_enter Try.func50, Try.ntmps50
  go_wp2_with fail
  go_loop [3] (fun i => QuotedAt s i) (fun i => s.size + 1 - (intOf i).toNat)
  case atStart => exact ⟨1, Nat.le_refl _, by omega, rfl, by simp⟩
  case round =>
    obtain ⟨k, hk1, hk, rfl, ha⟩ := hrel
    have Ha := Lib.hid ha
    clear ha
    by_cases hlt : k < s.size
    · have dl : decide ((k : Int) < (s.size : Int)) = true := by simp [hlt]
      have hd := drop_at s k hlt
      have Hd := Lib.hid hd
      clear hd
      cases e1 : (s[k].toNat : Int) == 92
      · cases e2 : (s[k].toNat : Int) == 34
        · have hq := qEnd_one s[k] (s.data.toList.drop (k + 1)) (u8_ne (n := 34) (by decide) e2) (u8_ne (n := 92) (by decide) e1)
          have Hq := Lib.hid hq
          clear hq
          go_wp2
          go_round
          case rel => exact ⟨k + 1, by omega, by omega, by go_num, by rw [Ha.out, Hd.out, Hq.out, Option.map_map]; congr 1; funext n; simp only [Function.comp]; omega⟩
          case measure => simp [intOf]; omega
        · have hq : quotedN s.data.toList = k + 1 := by
            unfold quotedN
            rw [Ha.out, Hd.out, u8_is (n := 34) (by decide) e2]
            show (0 + (k - 1)) + 2 = k + 1
            omega
          have Hq := Lib.hid hq
          clear hq
          go_wp2
          go_ret
          exact ⟨by rw [Hq.out]; exact congrArg Ending.returned (by go_num), rfl⟩
      · have hq : qEnd (s.data.toList.drop k) = (qEnd (s.data.toList.drop (k + 2))).map (· + 2) := by
          rw [Hd.out, u8_is (n := 92) (by decide) e1]
          show qEnd (92 :: _) = _
          rw [qEnd_esc, List.drop_drop]
        have Hq := Lib.hid hq
        clear hq
        go_wp2
        go_round
        case rel => exact ⟨k + 2, by omega, by omega, by go_num, by rw [Ha.out, Hq.out, Option.map_map]; congr 1; funext n; simp only [Function.comp]; omega⟩
        case measure => simp [intOf]; omega
    · have dl : decide ((k : Int) < (s.size : Int)) = false := by simp [hlt]
      have hq : quotedN s.data.toList = 0 := by unfold quotedN; rw [Ha.out, drop_none s k (by omega)]; rfl
      have Hq := Lib.hid hq
      clear hq
      go_wp2
      go_ret
      exact ⟨by rw [Hq.out]; rfl, rfl⟩
end Go.Proofs.Ytpeleifkednmoaa.Lx
end
section
namespace Go.Proofs.Ytpeleifkednmoaa.Lx
open Go.ChangeShapes Go.WideShapes Go.ChangeAt Go.RowKit
set_option linter.unusedVariables false

def RunAt (s : ByteArray) (p : UInt8 → Bool) (T : Nat) (i : Value) : Prop := ∃ k : Nat, k ≤ s.size ∧ i = .int .i64 (k : Int) ∧ T = k + ((s.data.toList.drop k).takeWhile p).length
theorem RunAt.step {s : ByteArray} {p : UInt8 → Bool} {T k : Nat} (h : T = k + ((s.data.toList.drop k).takeWhile p).length) (hk : k < s.size) (hp : p s[k] = true) : T = k + 1 + ((s.data.toList.drop (k + 1)).takeWhile p).length := by
  rw [drop_at s k hk, List.takeWhile_cons, hp] at h
  simp at h; omega
theorem RunAt.stop {s : ByteArray} {p : UInt8 → Bool} {T k : Nat} (h : T = k + ((s.data.toList.drop k).takeWhile p).length) (hk : k < s.size) (hp : p s[k] = false) : T = k := by
  rw [drop_at s k hk, List.takeWhile_cons, hp] at h
  simpa using h
theorem RunAt.end_ {s : ByteArray} {p : UInt8 → Bool} {T k : Nat} (h : T = k + ((s.data.toList.drop k).takeWhile p).length) (hk : s.size ≤ k) : T = k := by
  rw [drop_none s k hk] at h
  simpa using h
theorem runN_at (s : ByteArray) (h : 0 < s.size) : runN s.data.toList = 1 + ((s.data.toList.drop 1).takeWhile (fun x => !delimB x)).length := by
  have := drop_at s 0 h
  rw [List.drop_zero] at this
  rw [this]; rfl
set_option maxHeartbeats 400000 in
theorem run_any (s : ByteArray) (w : World) (hs : s.size ≤ maxLen) (h0 : 0 < s.size) :
    Calls Try.prog 54 #[.string s] w fun e w' => e = .returned (.int .i64 (runN s.data.toList)) ∧ w = w' := by
  unfold maxLen at hs
  have hr := runN_at s h0
  obtain ⟨T, hT⟩ : ∃ T, runN s.data.toList = T := ⟨_, rfl⟩
  rw [hT] at hr ⊢
  have Hr := Lib.hid hr
  clear hr hT
  go_enter Try.func54, Try.ntmps54
  go_wp2_with fail
  go_loop [3] (fun i => RunAt s (fun x => !delimB x) T i) (fun i => s.size - (intOf i).toNat)
  case atStart => exact ⟨1, h0, rfl, Hr.out⟩
  case round =>
    obtain ⟨k, hk, rfl, ha⟩ := hrel
    have Ha := Lib.hid ha
    clear ha
    by_cases hlt : k < s.size
    · have dl : decide ((k : Int) < (s.size : Int)) = true := by simp [hlt]
      obtain ⟨b, hb⟩ : ∃ b, delimB s[k] = b := ⟨_, rfl⟩
      have Hb := Lib.hid hb
      clear hb
      cases b
      · have hn := RunAt.step Ha.out hlt (by show (!delimB s[k]) = true; rw [Hb.out]; rfl)
        have Hn := Lib.hid hn
        clear hn
        go_wp2_with (go_at_call 68; refine (delimits_any s[k] _).mono ?_; rintro e w' ⟨rfl, rfl⟩; rw [Hb.out])
        go_round
        case rel => exact ⟨k + 1, by omega, by go_num, Hn.out⟩
        case measure => simp [intOf]; omega
      · have hn := RunAt.stop Ha.out hlt (by show (!delimB s[k]) = false; rw [Hb.out]; rfl)
        have Hn := Lib.hid hn
        clear hn
        go_wp2_with (go_at_call 68; refine (delimits_any s[k] _).mono ?_; rintro e w' ⟨rfl, rfl⟩; rw [Hb.out])
        go_ret
        exact ⟨by rw [Hn.out]; rfl, rfl⟩
    · have dl : decide ((k : Int) < (s.size : Int)) = false := by simp [hlt]
      have hn := RunAt.end_ Ha.out (by omega)
      have Hn := Lib.hid hn
      clear hn
      go_wp2
      go_ret
      exact ⟨by rw [Hn.out]; rfl, rfl⟩
/-- How long the character is with which a text begins. -/
def spelledN (l : Bs) : Nat := 2 + spellN (l.drop 2)
theorem spelledN_at (s : ByteArray) (h : 2 < s.size) : spelledN s.data.toList = if lowerB s[2] = true then 3 + ((s.data.toList.drop 3).takeWhile (fun x => lowerB x || digitB x)).length else 3 := by
  unfold spelledN
  rw [drop_at s 2 h]
  show 2 + (if lowerB s[2] = true then _ else _) = _
  by_cases hb : lowerB s[2] = true
  · rw [if_pos hb, if_pos hb]; show 2 + (1 + (List.takeWhile (fun x => lowerB x || digitB x) (List.drop 3 s.data.toList)).length) = _; omega
  · rw [if_neg hb, if_neg hb]
set_option maxHeartbeats 400000 in
theorem spelled_any (s : ByteArray) (w : World) (hs : s.size ≤ maxLen) (h0 : 2 < s.size) :
    Calls Try.prog 52 #[.string s] w fun e w' => e = .returned (.int .i64 (spelledN s.data.toList)) ∧ w = w' := by
  unfold maxLen at hs
  have hr := spelledN_at s h0
  obtain ⟨T, hT⟩ : ∃ T, spelledN s.data.toList = T := ⟨_, rfl⟩
  rw [hT] at hr ⊢
  clear hT
  obtain ⟨b, hb⟩ : ∃ b, lowerB s[2] = b := ⟨_, rfl⟩
  rw [hb] at hr
  have Hb := Lib.hid hb
  clear hb
  cases b
  · simp only [Bool.false_eq_true, if_false] at hr
    subst hr
    go_enter Try.func52, Try.ntmps52
    go_wp2_with (go_at_call 65; refine (lower_any s[2] _).mono ?_; rintro e w' ⟨rfl, rfl⟩; rw [Hb.out])
    go_ret
    exact ⟨rfl, rfl⟩
  · simp only [if_true] at hr
    have Hr := Lib.hid hr
    clear hr
    go_enter Try.func52, Try.ntmps52
    go_wp2_with (go_at_call 65; refine (lower_any s[2] _).mono ?_; rintro e w' ⟨rfl, rfl⟩; rw [Hb.out])
    clear Hb
    go_loop [3] (fun i => RunAt s (fun x => lowerB x || digitB x) T i) (fun i => s.size - (intOf i).toNat)
    case atStart => exact ⟨3, h0, rfl, Hr.out⟩
    case round =>
      obtain ⟨k, hk, rfl, ha⟩ := hrel
      have Ha := Lib.hid ha
      clear ha
      by_cases hlt : k < s.size
      · have dl : decide ((k : Int) < (s.size : Int)) = true := by simp [hlt]
        obtain ⟨b, hb⟩ : ∃ b, lowerB s[k] = b := ⟨_, rfl⟩
        have Hb := Lib.hid hb
        clear hb
        obtain ⟨c, hc⟩ : ∃ c, digitB s[k] = c := ⟨_, rfl⟩
        have Hc := Lib.hid hc
        clear hc
        cases b
        · cases c
          · have hn := RunAt.stop Ha.out hlt (by show (lowerB s[k] || digitB s[k]) = false; rw [Hb.out, Hc.out]; rfl)
            have Hn := Lib.hid hn
            clear hn
            go_wp2_with (first | (go_at_call 65; refine (lower_any s[k] _).mono ?_; rintro e w' ⟨rfl, rfl⟩; rw [Hb.out]) | (go_at_call 66; refine (digit_any s[k] _).mono ?_; rintro e w' ⟨rfl, rfl⟩; rw [Hc.out]))
            go_ret
            exact ⟨by rw [Hn.out]; rfl, rfl⟩
          · have hn := RunAt.step Ha.out hlt (by show (lowerB s[k] || digitB s[k]) = true; rw [Hb.out, Hc.out]; rfl)
            have Hn := Lib.hid hn
            clear hn
            go_wp2_with (first | (go_at_call 65; refine (lower_any s[k] _).mono ?_; rintro e w' ⟨rfl, rfl⟩; rw [Hb.out]) | (go_at_call 66; refine (digit_any s[k] _).mono ?_; rintro e w' ⟨rfl, rfl⟩; rw [Hc.out]))
            go_round
            case rel => exact ⟨k + 1, by omega, by go_num, Hn.out⟩
            case measure => simp [intOf]; omega
        · have hn := RunAt.step Ha.out hlt (by show (lowerB s[k] || digitB s[k]) = true; rw [Hb.out]; rfl)
          have Hn := Lib.hid hn
          clear hn
          go_wp2_with (go_at_call 65; refine (lower_any s[k] _).mono ?_; rintro e w' ⟨rfl, rfl⟩; rw [Hb.out])
          go_round
          case rel => exact ⟨k + 1, by omega, by go_num, Hn.out⟩
          case measure => simp [intOf]; omega
      · have dl : decide ((k : Int) < (s.size : Int)) = false := by simp [hlt]
        have hn := RunAt.end_ Ha.out (by omega)
        have Hn := Lib.hid hn
        clear hn
        go_wp2
        go_ret
        exact ⟨by rw [Hn.out]; rfl, rfl⟩
/- A comment. -/
def ComAt (s : ByteArray) (o i : Value) : Prop := ∃ (j k : Nat), i = .int .i64 (k : Int) ∧ o = .int .i64 (j : Int) ∧ ((j = 0 ∧ k = 0) ∨ (1 ≤ j ∧ 2 ≤ k ∧ j ≤ k ∧ k ≤ s.size ∧ comR 1 (s.data.toList.drop 2) = (comR j (s.data.toList.drop k)).map (· + (k - 2))))
theorem ext_two (s : ByteArray) (k : Nat) (h : k + 1 < s.size) : (s.extract k (k + 2)).toList = [s[k], s[k + 1]] := by
  rw [ByteArray.toList_eq, Lib.extract_data, drop_at s k (by omega), drop_at s (k + 1) h]
  show List.take (k + 2 - k) _ = _
  rw [show k + 2 - k = 2 by omega]
  rfl
theorem run_sub (s : ByteArray) (i j : Int) (h0 : 0 ≤ i) (h1 : i ≤ j) (h2 : j ≤ s.size) (w : World) :
    (Instr.slice 9 (.string s) (some (.int .i64 i)) (some (.int .i64 j)) none).run Try.prog w = .ok (.string (s.extract i.toNat j.toNat)) w :=
  run_slice_string (P := Try.prog) w 9 s .i64 .i64 i j Try.underlying9 h0 h1 h2
set_option maxRecDepth 100000 in
set_option maxHeartbeats 1000000 in
theorem comment_any (s : ByteArray) (w : World) (hs : s.size < maxLen) (hc : isCom s.data.toList = true) :
    Calls Try.prog 48 #[.string s] w fun e w' => e = .returned (.int .i64 (comN s.data.toList)) ∧ w = w' := by
  unfold maxLen at hs
  have hN : comN s.data.toList = match comR 1 (s.data.toList.drop 2) with | some n => n + 2 | none => 0 := rfl
  obtain ⟨r0, hr0⟩ := isCom_iff.1 hc
  have hsz : 2 ≤ s.size := by rw [← len_of, hr0]; simp
  have h1 : s[0] = 35 ∧ s[1] = 124 := by
    have a := byte_at s 0 (by omega)
    have b := byte_at s 1 (by omega)
    rw [hr0] at a b
    simp at a b
    exact ⟨a.symm, b.symm⟩
  have H1 := Lib.hid h1
  clear hc hr0 h1
  have HN := Lib.hid hN
  clear hN
  go_enter Try.func48, Try.ntmps48
  go_wp2_with fail
  go_loop [3, 4] (fun o i => ComAt s o i) (fun _ i => s.size - (intOf i).toNat)
  case atStart => exact ⟨0, 0, rfl, rfl, .inl ⟨rfl, rfl⟩⟩
  case round =>
    obtain ⟨j, k, rfl, rfl, h⟩ := hrel
    rcases h with ⟨rfl, rfl⟩ | ⟨hj, hk2, hjk, hk, ha⟩
    · have hx := ext_two s 0 (by omega)
      rw [H1.out.1, show s[0 + 1] = 124 from H1.out.2] at hx
      have c1 : ((s.extract 0 2).toList == [35, 124]) = true := by rw [hx]; rfl
      have dl : decide ((0 : Int) < (s.size : Int) - 1) = true := by simp; omega
      have hr := run_sub s 0 2 (by omega) (by omega) (by omega)
      simp only [Int.toNat_zero, Int.reduceToNat] at hr
      clear hx
      go_wp2
      go_round
      case rel => exact ⟨1, 2, rfl, rfl, .inr ⟨by omega, by omega, by omega, hsz, by simp⟩⟩
      case measure => simp [intOf]; omega
    · obtain ⟨j, rfl⟩ : ∃ i, j = i + 1 := ⟨j - 1, by omega⟩
      have Ha := Lib.hid ha
      clear ha
      by_cases hlt : k + 1 < s.size
      · have hx := ext_two s k hlt
        have hd : s.data.toList.drop k = s[k] :: s[k + 1] :: s.data.toList.drop (k + 2) := by rw [drop_at s k (by omega), drop_at s (k + 1) hlt]
        have dl : decide ((k : Int) < (s.size : Int) - 1) = true := by simp; omega
        have hr := run_sub s k (k + 2 : Nat) (by omega) (by omega) (by omega)
        simp only [Int.toNat_natCast] at hr
        rw [show ((k + 2 : Nat) : Int) = (k : Int) + 2 by omega] at hr
        by_cases c1 : s[k] = 35 ∧ s[k + 1] = 124
        · have e1 : ((s.extract k (k + 2)).toList == [35, 124]) = true := by rw [hx, c1.1, c1.2]; rfl
          have hn : comR 1 (s.data.toList.drop 2) = (comR (j + 1 + 1) (s.data.toList.drop (k + 2))).map (· + (k + 2 - 2)) := by
            rw [Ha.out, hd, c1.1, c1.2, comR_open, Option.map_map]; congr 1; funext n; simp only [Function.comp]; omega
          have Hn := Lib.hid hn
          clear hn hx hd c1
          go_wp2
          go_round
          case rel => exact ⟨j + 1 + 1, k + 2, by go_num, by go_num, .inr ⟨by omega, by omega, by omega, by omega, Hn.out⟩⟩
          case measure => simp [intOf]; omega
        · have e1 : ((s.extract k (k + 2)).toList == [35, 124]) = false := by rw [hx]; simp; exact fun a b => c1 ⟨a, b⟩
          by_cases c2 : s[k] = 124 ∧ s[k + 1] = 35
          · have e2 : ((s.extract k (k + 2)).toList == [124, 35]) = true := by rw [hx, c2.1, c2.2]; rfl
            have hn : comR 1 (s.data.toList.drop 2) = (comR j (s.data.toList.drop (k + 2))).map (· + (k + 2 - 2)) := by
              rw [Ha.out, hd, c2.1, c2.2, comR_shut, Option.map_map]; congr 1; funext n; simp only [Function.comp]; omega
            clear hx hd c1 c2
            by_cases hj0 : j = 0
            · subst hj0
              have hN : comN s.data.toList = k + 2 := by
                rw [HN.out, hn, show comR 0 (s.data.toList.drop (k + 2)) = some 0 by simp [comR]]
                show (0 + (k + 2 - 2)) + 2 = k + 2
                omega
              have HM := Lib.hid hN
              clear hN hn
              have d0 : ((0 : Int) == 0) = true := rfl
              go_wp2
              go_ret
              exact ⟨by rw [HM.out]; exact congrArg Ending.returned (by go_num), rfl⟩
            · have Hn := Lib.hid hn
              clear hn
              have d0 : ((j : Int) == 0) = false := by simp; omega
              go_wp2
              go_round
              case rel => exact ⟨j, k + 2, by go_num, by go_num, .inr ⟨by omega, by omega, by omega, by omega, Hn.out⟩⟩
              case measure => simp [intOf]; omega
          · have e2 : ((s.extract k (k + 2)).toList == [124, 35]) = false := by rw [hx]; simp; exact fun a b => c2 ⟨a, b⟩
            have hn : comR 1 (s.data.toList.drop 2) = (comR (j + 1) (s.data.toList.drop (k + 1))).map (· + (k + 1 - 2)) := by
              rw [Ha.out, hd, comR_one j _ _ _ c1 c2, Option.map_map, drop_at s (k + 1) hlt]; congr 1; funext n; simp only [Function.comp]; omega
            have Hn := Lib.hid hn
            clear hx hd c1 c2 hn
            have d0 : (((j : Int) + 1) == 0) = false := by simp; omega
            go_wp2
            go_round
            case rel => exact ⟨j + 1, k + 1, by go_num, by go_num, .inr ⟨by omega, by omega, by omega, by omega, Hn.out⟩⟩
            case measure => simp [intOf]; omega
      · have dl : decide ((k : Int) < (s.size : Int) - 1) = false := by simp; omega
        have hN : comN s.data.toList = 0 := by
          rw [HN.out, Ha.out]
          by_cases hks : k = s.size
          · rw [drop_none s k (by omega)]; rfl
          · rw [drop_at s k (by omega), drop_none s (k + 1) (by omega)]; rfl
        have HM := Lib.hid hN
        clear hN
        go_wp2
        go_ret
        exact ⟨by rw [HM.out]; rfl, rfl⟩
end Go.Proofs.Ytpeleifkednmoaa.Lx
end
section
namespace Go.Proofs.Ytpeleifkednmoaa.Lx
open Go.ChangeShapes Go.WideShapes Go.ChangeAt Go.RowKit
set_option linter.unusedVariables false

theorem ext_size (s : ByteArray) (k : Nat) (hk : k ≤ s.size) : (s.extract k s.size).size = s.size - k := by rw [← len_of, Lib.extract_to_end, List.length_drop, len_of]
def SkipAt (s : ByteArray) (T : Nat) (E : Int) (i : Value) : Prop := ∃ k : Nat, k ≤ s.size ∧ i = .int .i64 (k : Int) ∧ T = k + skipN (s.data.toList.drop k) ∧ E = skipE (s.data.toList.drop k)
theorem run_from (s : ByteArray) (i : Nat) (h : i ≤ s.size) (w : World) :
    (Instr.slice 9 (.string s) (some (.int .i64 (i : Int))) none none).run Try.prog w = .ok (.string (s.extract i s.size)) w := by
  rw [run_slice_string_from_if (P := Try.prog) w 9 s .i64 (i : Int) Try.underlying9, if_pos (by omega)]
  simp
theorem hasPrefix_is (s p : ByteArray) (w : World) (b : Bool) (h : Hid (Lib.hasPrefix s.data.toList p.data.toList = b)) :
    Calls Try.prog 47 #[.string s, .string p] w fun e w' => e = .returned (.bool b) ∧ w = w' := by
  have := Try.strings_HasPrefix s p w
  rw [h.out] at this
  exact this.mono fun e w' ⟨h1, h2⟩ => ⟨h1, h2.symm⟩
set_option maxHeartbeats 1000000 in
set_option maxRecDepth 100000 in
theorem skip_any (s : ByteArray) (at_ : Nat) (w : World) (hs : s.size < maxLen) (hat : at_ ≤ s.size) :
    Calls Try.prog 28 #[.string s, .int .i64 (at_ : Int)] w fun e w' => e = .returned (.tuple #[.int .i64 ((at_ + skipN (s.data.toList.drop at_) : Nat) : Int), .int .i64 (skipE (s.data.toList.drop at_))]) ∧ w = w' := by
  have Hs := Lib.hid hs
  unfold maxLen at hs
  obtain ⟨T, hT⟩ : ∃ T, at_ + skipN (s.data.toList.drop at_) = T := ⟨_, rfl⟩
  obtain ⟨E, hE⟩ : ∃ E, skipE (s.data.toList.drop at_) = E := ⟨_, rfl⟩
  rw [hT, hE]
  have HT := Lib.hid hT
  have HE := Lib.hid hE
  clear hT hE
  go_enter Try.func28, Try.ntmps28
  go_wp2_with fail
  go_loop [1] (fun i => SkipAt s T E i) (fun i => s.size - (intOf i).toNat)
  case atStart => exact ⟨at_, hat, rfl, HT.out.symm, HE.out.symm⟩
  case round =>
    clear HT HE
    obtain ⟨k, hk, rfl, ha, hb⟩ := hrel
    have Ha := Lib.hid ha
    have Hb := Lib.hid hb
    clear ha hb
    by_cases hlt : k < s.size
    · have dl : decide ((k : Int) < (s.size : Int)) = true := by simp [hlt]
      have hr := run_from s k hk
      have hz := ext_size s k hk
      have hl : (s.extract k s.size).data.toList = s.data.toList.drop k := Lib.extract_to_end s k
      generalize s.extract k s.size = t at *
      have htz : 0 < t.size := by omega
      have hts : t.size ≤ s.size := by omega
      have hd := drop_at t 0 htz
      rw [List.drop_zero] at hd
      have Hl := Lib.hid hl
      have Hz := Lib.hid hz
      clear hl hz
      have Hd := Lib.hid hd
      clear hd
      obtain ⟨b, hb⟩ : ∃ b, blankB t[0] = b := ⟨_, rfl⟩
      have Hbl := Lib.hid hb
      clear hb
      cases b
      · cases e1 : (t[0].toNat : Int) == 59
        · have hp := prefix_com t.data.toList
          obtain ⟨c, hc⟩ : ∃ c, isCom t.data.toList = c := ⟨_, rfl⟩
          rw [hc] at hp
          have Hp := Lib.hid hp
          have Hc := Lib.hid hc
          clear hp hc
          cases c
          · have hg : gapN (s.data.toList.drop k) = 0 := by
              rw [← Hl.out, Hd.out]
              exact gapN_word Hbl.out (u8_ne (n := 59) (by decide) e1) (by rw [← Hd.out]; exact Hc.out)
            have hT : T = k := by rw [Ha.out, skipN_zero hg]; rfl
            have hE : E = 0 := by rw [Hb.out, skipE_zero hg, ← Hl.out, Hc.out]; rfl
            subst hE
            have HT := Lib.hid hT
            clear hT hg
            go_wp2_with (first | (go_at_call 45; refine (blank_any t[0] _).mono ?_; rintro e w' ⟨rfl, rfl⟩; rw [Hbl.out]) | (go_at_call 47; refine (hasPrefix_is t ⟨#[35, 124]⟩ _ false Hp).mono ?_; rintro e w' ⟨rfl, rfl⟩))
            go_ret2
            exact ⟨by rw [HT.out]; rfl, rfl⟩
          · have hcs := comN_le t.data.toList Hc.out
            rw [len_of] at hcs
            have hgc : gapN (s.data.toList.drop k) = comN t.data.toList := by
              rw [← Hl.out, Hd.out]
              exact gapN_com Hbl.out (u8_ne (n := 59) (by decide) e1) (by rw [← Hd.out]; exact Hc.out)
            obtain ⟨m, hm⟩ : ∃ m, comN t.data.toList = m := ⟨_, rfl⟩
            rw [hm] at hgc hcs
            have Hm := Lib.hid hm
            clear hm
            by_cases h0 : m = 0
            · subst h0
              have hT : T = k := by rw [Ha.out, skipN_zero hgc]; rfl
              have hE : E = 31 := by rw [Hb.out, skipE_zero hgc, ← Hl.out, Hc.out]; rfl
              subst hE
              have HT := Lib.hid hT
              clear hT hgc
              have d0 : ((0 : Int) == 0) = true := rfl
              go_wp2_with (first | (go_at_call 45; refine (blank_any t[0] _).mono ?_; rintro e w' ⟨rfl, rfl⟩; rw [Hbl.out]) | (go_at_call 47; refine (hasPrefix_is t ⟨#[35, 124]⟩ _ true Hp).mono ?_; rintro e w' ⟨rfl, rfl⟩) | (go_at_call 48; refine (comment_any t _ (by have := Hs.out; omega) Hc.out).mono ?_; rintro e w' ⟨rfl, rfl⟩; rw [Hm.out]))
              go_ret2
              exact ⟨by rw [HT.out]; rfl, rfl⟩
            · have hT : T = (k + m) + skipN (s.data.toList.drop (k + m)) := by rw [Ha.out, skipN_gap (by rw [hgc]; exact h0), hgc, List.drop_drop]; omega
              have hE : E = skipE (s.data.toList.drop (k + m)) := by rw [Hb.out, skipE_gap (by rw [hgc]; exact h0), hgc, List.drop_drop]
              have HT := Lib.hid hT
              have HE := Lib.hid hE
              clear hT hE hgc
              have d0 : ((m : Int) == 0) = false := by simp; omega
              have Hz' := Hz.out
              have hkm : k + m ≤ s.size := by omega
              clear Hz'
              go_wp2_with (first | (go_at_call 45; refine (blank_any t[0] _).mono ?_; rintro e w' ⟨rfl, rfl⟩; rw [Hbl.out]) | (go_at_call 47; refine (hasPrefix_is t ⟨#[35, 124]⟩ _ true Hp).mono ?_; rintro e w' ⟨rfl, rfl⟩) | (go_at_call 48; refine (comment_any t _ (by have := Hs.out; omega) Hc.out).mono ?_; rintro e w' ⟨rfl, rfl⟩; rw [Hm.out]))
              go_round
              case rel => exact ⟨k + m, hkm, by go_num, HT.out, HE.out⟩
              case measure => simp [intOf]; omega
        · have hne : t[0] ≠ 10 := by rw [u8_is (n := 59) (by decide) e1]; decide
          have hgc : gapN (s.data.toList.drop k) = lineN t.data.toList := by
            rw [← Hl.out, Hd.out]
            exact gapN_line Hbl.out (u8_is (n := 59) (by decide) e1)
          have hcs := lineN_le t.data.toList
          have hcp : 0 < lineN t.data.toList := by rw [Hd.out]; exact lineN_pos hne
          rw [len_of] at hcs
          obtain ⟨m, hm⟩ : ∃ m, lineN t.data.toList = m := ⟨_, rfl⟩
          rw [hm] at hgc hcs hcp
          have Hm := Lib.hid hm
          clear hm hne
          have hT : T = (k + m) + skipN (s.data.toList.drop (k + m)) := by rw [Ha.out, skipN_gap (by rw [hgc]; omega), hgc, List.drop_drop]; omega
          have hE : E = skipE (s.data.toList.drop (k + m)) := by rw [Hb.out, skipE_gap (by rw [hgc]; omega), hgc, List.drop_drop]
          have HT := Lib.hid hT
          have HE := Lib.hid hE
          clear hT hE hgc
          have Hz' := Hz.out
          have hkm : k + m ≤ s.size := by omega
          clear Hz'
          go_wp2_with (first | (go_at_call 45; refine (blank_any t[0] _).mono ?_; rintro e w' ⟨rfl, rfl⟩; rw [Hbl.out]) | (go_at_call 46; refine (line_any t _ (by have := Hs.out; omega)).mono ?_; rintro e w' ⟨rfl, rfl⟩; rw [Hm.out]))
          go_round
          case rel => exact ⟨k + m, hkm, by go_num, HT.out, HE.out⟩
          case measure => simp [intOf]; omega
      · have hg : gapN (s.data.toList.drop k) = 1 := by rw [← Hl.out, Hd.out]; exact gapN_blank Hbl.out
        have hT : T = (k + 1) + skipN (s.data.toList.drop (k + 1)) := by rw [Ha.out, skipN_gap (by rw [hg]; omega), hg, List.drop_drop]; omega
        have hE : E = skipE (s.data.toList.drop (k + 1)) := by rw [Hb.out, skipE_gap (by rw [hg]; omega), hg, List.drop_drop]
        have HT := Lib.hid hT
        have HE := Lib.hid hE
        clear hT hE hg
        go_wp2_with (go_at_call 45; refine (blank_any t[0] _).mono ?_; rintro e w' ⟨rfl, rfl⟩; rw [Hbl.out])
        go_round
        case rel => exact ⟨k + 1, by omega, by go_num, HT.out, HE.out⟩
        case measure => simp [intOf]; omega
    · have dl : decide ((k : Int) < (s.size : Int)) = false := by simp [hlt]
      have hn : s.data.toList.drop k = [] := drop_none s k (by omega)
      have hT : T = k := by rw [Ha.out, hn]; rfl
      have hE : E = 0 := by rw [Hb.out, hn]; rfl
      subst hE
      have HT := Lib.hid hT
      clear hT hn
      go_wp2
      go_ret2
      exact ⟨by rw [HT.out]; rfl, rfl⟩
end Go.Proofs.Ytpeleifkednmoaa.Lx
end
section
namespace Go.Proofs.Ytpeleifkednmoaa.Lx
open Go.ChangeShapes Go.WideShapes Go.ChangeAt Go.RowKit
set_option linter.unusedVariables false

def markS (k : Int) : Bs := if ((k) == 1) = true then [40] else if ((k) == 2) = true then [41] else if ((k) == 3) = true then [35, 40] else if ((k) == 4) = true then [39] else if ((k) == 5) = true then [96] else if ((k) == 6) = true then [44] else if ((k) == 7) = true then [44, 64] else if ((k) == 8) = true then [46] else []
theorem mark_any (k : Int) (w : World) : Calls Try.prog 14 #[.int .i64 (k)] w fun e w' => e = .returned (.string ⟨(markS k).toArray⟩) ∧ w = w' := by
  unfold markS
  cases a0 : (k) == 1
  case true =>
    rw [if_pos rfl]
    go_enter Try.func14, Try.ntmps14
    go_wp2_with fail
    go_ret
    exact ⟨rfl, rfl⟩
  rw [if_neg (by decide)]
  cases a1 : (k) == 2
  case true =>
    rw [if_pos rfl]
    go_enter Try.func14, Try.ntmps14
    go_wp2_with fail
    go_ret
    exact ⟨rfl, rfl⟩
  rw [if_neg (by decide)]
  cases a2 : (k) == 3
  case true =>
    rw [if_pos rfl]
    go_enter Try.func14, Try.ntmps14
    go_wp2_with fail
    go_ret
    exact ⟨rfl, rfl⟩
  rw [if_neg (by decide)]
  cases a3 : (k) == 4
  case true =>
    rw [if_pos rfl]
    go_enter Try.func14, Try.ntmps14
    go_wp2_with fail
    go_ret
    exact ⟨rfl, rfl⟩
  rw [if_neg (by decide)]
  cases a4 : (k) == 5
  case true =>
    rw [if_pos rfl]
    go_enter Try.func14, Try.ntmps14
    go_wp2_with fail
    go_ret
    exact ⟨rfl, rfl⟩
  rw [if_neg (by decide)]
  cases a5 : (k) == 6
  case true =>
    rw [if_pos rfl]
    go_enter Try.func14, Try.ntmps14
    go_wp2_with fail
    go_ret
    exact ⟨rfl, rfl⟩
  rw [if_neg (by decide)]
  cases a6 : (k) == 7
  case true =>
    rw [if_pos rfl]
    go_enter Try.func14, Try.ntmps14
    go_wp2_with fail
    go_ret
    exact ⟨rfl, rfl⟩
  rw [if_neg (by decide)]
  cases a7 : (k) == 8
  case true =>
    rw [if_pos rfl]
    go_enter Try.func14, Try.ntmps14
    go_wp2_with fail
    go_ret
    exact ⟨rfl, rfl⟩
  rw [if_neg (by decide)]
  go_enter Try.func14, Try.ntmps14
  go_wp2_with fail
  go_ret
  exact ⟨rfl, rfl⟩
def nameS (k : UInt8) : Bs := if ((k.toNat : Int) == 32) = true then [115, 112, 97, 99, 101] else if ((k.toNat : Int) == 10) = true then [110, 101, 119, 108, 105, 110, 101] else if ((k.toNat : Int) == 9) = true then [116, 97, 98] else if ((k.toNat : Int) == 0) = true then [110, 117, 108] else []
theorem name_any (k : UInt8) (w : World) : Calls Try.prog 34 #[.int .u8 (k.toNat : Int)] w fun e w' => e = .returned (.string ⟨(nameS k).toArray⟩) ∧ w = w' := by
  unfold nameS
  cases a0 : (k.toNat : Int) == 32
  case true =>
    rw [if_pos rfl]
    go_enter Try.func34, Try.ntmps34
    go_wp2_with fail
    go_ret
    exact ⟨rfl, rfl⟩
  rw [if_neg (by decide)]
  cases a1 : (k.toNat : Int) == 10
  case true =>
    rw [if_pos rfl]
    go_enter Try.func34, Try.ntmps34
    go_wp2_with fail
    go_ret
    exact ⟨rfl, rfl⟩
  rw [if_neg (by decide)]
  cases a2 : (k.toNat : Int) == 9
  case true =>
    rw [if_pos rfl]
    go_enter Try.func34, Try.ntmps34
    go_wp2_with fail
    go_ret
    exact ⟨rfl, rfl⟩
  rw [if_neg (by decide)]
  cases a3 : (k.toNat : Int) == 0
  case true =>
    rw [if_pos rfl]
    go_enter Try.func34, Try.ntmps34
    go_wp2_with fail
    go_ret
    exact ⟨rfl, rfl⟩
  rw [if_neg (by decide)]
  go_enter Try.func34, Try.ntmps34
  go_wp2_with fail
  go_ret
  exact ⟨rfl, rfl⟩
def escapeS (k : UInt8) : Bs := if ((k.toNat : Int) == 10) = true then [92, 110] else if ((k.toNat : Int) == 9) = true then [92, 116] else if ((k.toNat : Int) == 92) = true then [92, 92] else if ((k.toNat : Int) == 34) = true then [92, 34] else []
theorem escape_any (k : UInt8) (w : World) : Calls Try.prog 37 #[.int .u8 (k.toNat : Int)] w fun e w' => e = .returned (.string ⟨(escapeS k).toArray⟩) ∧ w = w' := by
  unfold escapeS
  cases a0 : (k.toNat : Int) == 10
  case true =>
    rw [if_pos rfl]
    go_enter Try.func37, Try.ntmps37
    go_wp2_with fail
    go_ret
    exact ⟨rfl, rfl⟩
  rw [if_neg (by decide)]
  cases a1 : (k.toNat : Int) == 9
  case true =>
    rw [if_pos rfl]
    go_enter Try.func37, Try.ntmps37
    go_wp2_with fail
    go_ret
    exact ⟨rfl, rfl⟩
  rw [if_neg (by decide)]
  cases a2 : (k.toNat : Int) == 92
  case true =>
    rw [if_pos rfl]
    go_enter Try.func37, Try.ntmps37
    go_wp2_with fail
    go_ret
    exact ⟨rfl, rfl⟩
  rw [if_neg (by decide)]
  cases a3 : (k.toNat : Int) == 34
  case true =>
    rw [if_pos rfl]
    go_enter Try.func37, Try.ntmps37
    go_wp2_with fail
    go_ret
    exact ⟨rfl, rfl⟩
  rw [if_neg (by decide)]
  go_enter Try.func37, Try.ntmps37
  go_wp2_with fail
  go_ret
  exact ⟨rfl, rfl⟩
theorem boolean_any (n : Int) (w : World) : Calls Try.prog 18 #[.int .i64 n] w fun e w' => e = .returned (.string (if (n == 0) = true then ⟨#[35, 102]⟩ else ⟨#[35, 116]⟩)) ∧ w = w' := by
  cases a0 : n == 0
  all_goals
    go_enter Try.func18, Try.ntmps18
    go_wp2_with fail
    go_ret
    exact ⟨rfl, rfl⟩
/-- The first kind of mark that a text begins with, 0 if it begins with none. -/
def markF : List Int → Bs → Int
  | [], _ => 0
  | k :: r, l => if Lib.hasPrefix l (markS k) = true then k else markF r l
def kinds7 : List Int := [1, 2, 3, 4, 5, 7, 6]
def MarkAt (l : Bs) (i : Value) : Prop := ∃ k : Nat, k ≤ 7 ∧ i = .int .i64 (k : Int) ∧ markF kinds7 l = markF (kinds7.drop k) l
set_option maxHeartbeats 4000000 in
theorem marked_any (s : ByteArray) (w : World) :
    Calls Try.prog 49 #[.string s] w fun e w' => e = .returned (.int .i64 (markF kinds7 s.data.toList)) ∧ Below w.heap.size w w' := by
  obtain ⟨T, hT⟩ : ∃ T, markF kinds7 s.data.toList = T := ⟨_, rfl⟩
  rw [hT]
  have HT := Lib.hid hT
  clear hT
  go_enter Try.func49, Try.ntmps49
  go_wp2_with fail
  go_loop [7] (fun i => MarkAt s.data.toList i) (fun i => 7 - (intOf i).toNat)
  case atStart => exact ⟨0, by omega, rfl, rfl⟩
  case round =>
    obtain ⟨k, hk, rfl, ha⟩ := hrel
    have Ha := Lib.hid ha
    clear ha
    have hk' : k = 0 ∨ k = 1 ∨ k = 2 ∨ k = 3 ∨ k = 4 ∨ k = 5 ∨ k = 6 ∨ k = 7 := by omega
    rcases hk' with rfl | rfl | rfl | rfl | rfl | rfl | rfl | rfl
    · obtain ⟨b, hb⟩ : ∃ b, Lib.hasPrefix s.data.toList (markS 1) = b := ⟨_, rfl⟩
      have hn : markF (kinds7.drop 0) s.data.toList = if b = true then 1 else markF (kinds7.drop 1) s.data.toList := by rw [← hb]; rfl
      have Hb := Lib.hid hb
      have Hn := Lib.hid hn
      clear hb hn
      cases b
      · go_wp2_with (first | (go_at_call 14; refine (mark_any 1 _).mono ?_; rintro e w' ⟨rfl, rfl⟩) | (go_at_call 47; refine (hasPrefix_is s ⟨(markS 1).toArray⟩ _ false Hb).mono ?_; rintro e w' ⟨rfl, rfl⟩))
        go_round
        case rel => exact ⟨1, by omega, by go_num, by rw [Ha.out, Hn.out]; rfl⟩
        case measure => simp [intOf]
      · have hT : T = 1 := by rw [← HT.out, Ha.out, Hn.out]; rfl
        have HT2 := Lib.hid hT
        clear hT
        go_wp2_with (first | (go_at_call 14; refine (mark_any 1 _).mono ?_; rintro e w' ⟨rfl, rfl⟩) | (go_at_call 47; refine (hasPrefix_is s ⟨(markS 1).toArray⟩ _ true Hb).mono ?_; rintro e w' ⟨rfl, rfl⟩))
        go_ret
        exact ⟨by rw [HT2.out]; rfl, (Below.refl _ _).alloc (Nat.le_refl _) _⟩
    · obtain ⟨b, hb⟩ : ∃ b, Lib.hasPrefix s.data.toList (markS 2) = b := ⟨_, rfl⟩
      have hn : markF (kinds7.drop 1) s.data.toList = if b = true then 2 else markF (kinds7.drop 2) s.data.toList := by rw [← hb]; rfl
      have Hb := Lib.hid hb
      have Hn := Lib.hid hn
      clear hb hn
      cases b
      · go_wp2_with (first | (go_at_call 14; refine (mark_any 2 _).mono ?_; rintro e w' ⟨rfl, rfl⟩) | (go_at_call 47; refine (hasPrefix_is s ⟨(markS 2).toArray⟩ _ false Hb).mono ?_; rintro e w' ⟨rfl, rfl⟩))
        go_round
        case rel => exact ⟨2, by omega, by go_num, by rw [Ha.out, Hn.out]; rfl⟩
        case measure => simp [intOf]
      · have hT : T = 2 := by rw [← HT.out, Ha.out, Hn.out]; rfl
        have HT2 := Lib.hid hT
        clear hT
        go_wp2_with (first | (go_at_call 14; refine (mark_any 2 _).mono ?_; rintro e w' ⟨rfl, rfl⟩) | (go_at_call 47; refine (hasPrefix_is s ⟨(markS 2).toArray⟩ _ true Hb).mono ?_; rintro e w' ⟨rfl, rfl⟩))
        go_ret
        exact ⟨by rw [HT2.out]; rfl, (Below.refl _ _).alloc (Nat.le_refl _) _⟩
    · obtain ⟨b, hb⟩ : ∃ b, Lib.hasPrefix s.data.toList (markS 3) = b := ⟨_, rfl⟩
      have hn : markF (kinds7.drop 2) s.data.toList = if b = true then 3 else markF (kinds7.drop 3) s.data.toList := by rw [← hb]; rfl
      have Hb := Lib.hid hb
      have Hn := Lib.hid hn
      clear hb hn
      cases b
      · go_wp2_with (first | (go_at_call 14; refine (mark_any 3 _).mono ?_; rintro e w' ⟨rfl, rfl⟩) | (go_at_call 47; refine (hasPrefix_is s ⟨(markS 3).toArray⟩ _ false Hb).mono ?_; rintro e w' ⟨rfl, rfl⟩))
        go_round
        case rel => exact ⟨3, by omega, by go_num, by rw [Ha.out, Hn.out]; rfl⟩
        case measure => simp [intOf]
      · have hT : T = 3 := by rw [← HT.out, Ha.out, Hn.out]; rfl
        have HT2 := Lib.hid hT
        clear hT
        go_wp2_with (first | (go_at_call 14; refine (mark_any 3 _).mono ?_; rintro e w' ⟨rfl, rfl⟩) | (go_at_call 47; refine (hasPrefix_is s ⟨(markS 3).toArray⟩ _ true Hb).mono ?_; rintro e w' ⟨rfl, rfl⟩))
        go_ret
        exact ⟨by rw [HT2.out]; rfl, (Below.refl _ _).alloc (Nat.le_refl _) _⟩
    · obtain ⟨b, hb⟩ : ∃ b, Lib.hasPrefix s.data.toList (markS 4) = b := ⟨_, rfl⟩
      have hn : markF (kinds7.drop 3) s.data.toList = if b = true then 4 else markF (kinds7.drop 4) s.data.toList := by rw [← hb]; rfl
      have Hb := Lib.hid hb
      have Hn := Lib.hid hn
      clear hb hn
      cases b
      · go_wp2_with (first | (go_at_call 14; refine (mark_any 4 _).mono ?_; rintro e w' ⟨rfl, rfl⟩) | (go_at_call 47; refine (hasPrefix_is s ⟨(markS 4).toArray⟩ _ false Hb).mono ?_; rintro e w' ⟨rfl, rfl⟩))
        go_round
        case rel => exact ⟨4, by omega, by go_num, by rw [Ha.out, Hn.out]; rfl⟩
        case measure => simp [intOf]
      · have hT : T = 4 := by rw [← HT.out, Ha.out, Hn.out]; rfl
        have HT2 := Lib.hid hT
        clear hT
        go_wp2_with (first | (go_at_call 14; refine (mark_any 4 _).mono ?_; rintro e w' ⟨rfl, rfl⟩) | (go_at_call 47; refine (hasPrefix_is s ⟨(markS 4).toArray⟩ _ true Hb).mono ?_; rintro e w' ⟨rfl, rfl⟩))
        go_ret
        exact ⟨by rw [HT2.out]; rfl, (Below.refl _ _).alloc (Nat.le_refl _) _⟩
    · obtain ⟨b, hb⟩ : ∃ b, Lib.hasPrefix s.data.toList (markS 5) = b := ⟨_, rfl⟩
      have hn : markF (kinds7.drop 4) s.data.toList = if b = true then 5 else markF (kinds7.drop 5) s.data.toList := by rw [← hb]; rfl
      have Hb := Lib.hid hb
      have Hn := Lib.hid hn
      clear hb hn
      cases b
      · go_wp2_with (first | (go_at_call 14; refine (mark_any 5 _).mono ?_; rintro e w' ⟨rfl, rfl⟩) | (go_at_call 47; refine (hasPrefix_is s ⟨(markS 5).toArray⟩ _ false Hb).mono ?_; rintro e w' ⟨rfl, rfl⟩))
        go_round
        case rel => exact ⟨5, by omega, by go_num, by rw [Ha.out, Hn.out]; rfl⟩
        case measure => simp [intOf]
      · have hT : T = 5 := by rw [← HT.out, Ha.out, Hn.out]; rfl
        have HT2 := Lib.hid hT
        clear hT
        go_wp2_with (first | (go_at_call 14; refine (mark_any 5 _).mono ?_; rintro e w' ⟨rfl, rfl⟩) | (go_at_call 47; refine (hasPrefix_is s ⟨(markS 5).toArray⟩ _ true Hb).mono ?_; rintro e w' ⟨rfl, rfl⟩))
        go_ret
        exact ⟨by rw [HT2.out]; rfl, (Below.refl _ _).alloc (Nat.le_refl _) _⟩
    · obtain ⟨b, hb⟩ : ∃ b, Lib.hasPrefix s.data.toList (markS 7) = b := ⟨_, rfl⟩
      have hn : markF (kinds7.drop 5) s.data.toList = if b = true then 7 else markF (kinds7.drop 6) s.data.toList := by rw [← hb]; rfl
      have Hb := Lib.hid hb
      have Hn := Lib.hid hn
      clear hb hn
      cases b
      · go_wp2_with (first | (go_at_call 14; refine (mark_any 7 _).mono ?_; rintro e w' ⟨rfl, rfl⟩) | (go_at_call 47; refine (hasPrefix_is s ⟨(markS 7).toArray⟩ _ false Hb).mono ?_; rintro e w' ⟨rfl, rfl⟩))
        go_round
        case rel => exact ⟨6, by omega, by go_num, by rw [Ha.out, Hn.out]; rfl⟩
        case measure => simp [intOf]
      · have hT : T = 7 := by rw [← HT.out, Ha.out, Hn.out]; rfl
        have HT2 := Lib.hid hT
        clear hT
        go_wp2_with (first | (go_at_call 14; refine (mark_any 7 _).mono ?_; rintro e w' ⟨rfl, rfl⟩) | (go_at_call 47; refine (hasPrefix_is s ⟨(markS 7).toArray⟩ _ true Hb).mono ?_; rintro e w' ⟨rfl, rfl⟩))
        go_ret
        exact ⟨by rw [HT2.out]; rfl, (Below.refl _ _).alloc (Nat.le_refl _) _⟩
    · obtain ⟨b, hb⟩ : ∃ b, Lib.hasPrefix s.data.toList (markS 6) = b := ⟨_, rfl⟩
      have hn : markF (kinds7.drop 6) s.data.toList = if b = true then 6 else markF (kinds7.drop 7) s.data.toList := by rw [← hb]; rfl
      have Hb := Lib.hid hb
      have Hn := Lib.hid hn
      clear hb hn
      cases b
      · go_wp2_with (first | (go_at_call 14; refine (mark_any 6 _).mono ?_; rintro e w' ⟨rfl, rfl⟩) | (go_at_call 47; refine (hasPrefix_is s ⟨(markS 6).toArray⟩ _ false Hb).mono ?_; rintro e w' ⟨rfl, rfl⟩))
        go_round
        case rel => exact ⟨7, by omega, by go_num, by rw [Ha.out, Hn.out]; rfl⟩
        case measure => simp [intOf]
      · have hT : T = 6 := by rw [← HT.out, Ha.out, Hn.out]; rfl
        have HT2 := Lib.hid hT
        clear hT
        go_wp2_with (first | (go_at_call 14; refine (mark_any 6 _).mono ?_; rintro e w' ⟨rfl, rfl⟩) | (go_at_call 47; refine (hasPrefix_is s ⟨(markS 6).toArray⟩ _ true Hb).mono ?_; rintro e w' ⟨rfl, rfl⟩))
        go_ret
        exact ⟨by rw [HT2.out]; rfl, (Below.refl _ _).alloc (Nat.le_refl _) _⟩
    · have hT : T = 0 := by rw [← HT.out, Ha.out]; rfl
      have HT2 := Lib.hid hT
      clear hT
      go_wp2_with fail
      go_ret
      exact ⟨by rw [HT2.out]; rfl, (Below.refl _ _).alloc (Nat.le_refl _) _⟩
end Go.Proofs.Ytpeleifkednmoaa.Lx
end
