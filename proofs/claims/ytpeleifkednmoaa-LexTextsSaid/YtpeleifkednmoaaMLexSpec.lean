/- The words of a text, as plain functions on bytes. -/
import Derived.WalkKit
import Derived.Lib.Bytealg
import Derived.Lib.IndexBytes
section
namespace Go.Proofs.Ytpeleifkednmoaa.Lx
open Go Go.RowKit

abbrev Bs := List UInt8
def blankB (c : UInt8) : Bool := ((c.toNat : Int) == 32) || ((c.toNat : Int) == 9) || ((c.toNat : Int) == 10) || ((c.toNat : Int) == 13)
def printB (c : UInt8) : Bool := decide (32 ≤ (c.toNat : Int)) && decide ((c.toNat : Int) ≤ 126)
def digitB (c : UInt8) : Bool := decide (48 ≤ (c.toNat : Int)) && decide ((c.toNat : Int) ≤ 57)
def lowerB (c : UInt8) : Bool := decide (97 ≤ (c.toNat : Int)) && decide ((c.toNat : Int) ≤ 122)
def delimB (c : UInt8) : Bool := blankB c || ((c.toNat : Int) == 40) || ((c.toNat : Int) == 41) || ((c.toNat : Int) == 34) || ((c.toNat : Int) == 59)
/-- A byte that is a character of the language. -/
def okC (c : UInt8) : Bool := printB c || blankB c
/-- The first byte that is none, or -1. -/
def nightI (l : Bs) : Int := if l.all okC = true then -1 else (l.findIdx (fun c => !okC c) : Int)
/-- How far a line goes. -/
def lineN (l : Bs) : Nat := l.findIdx (fun c => c == 10)
/-- A comment from where so many are open: how long it is till all are closed. -/
def comR : Nat → Bs → Option Nat
  | 0, _ => some 0
  | _ + 1, [] => none
  | _ + 1, [_] => none
  | o + 1, 35 :: 124 :: r => (comR (o + 2) r).map (· + 2)
  | o + 1, 124 :: 35 :: r => (comR o r).map (· + 2)
  | o + 1, _ :: r => (comR (o + 1) r).map (· + 1)
/-- A comment that begins here: how long it is; 0: it has no end. -/
def comN (l : Bs) : Nat := match comR 1 (l.drop 2) with | some n => n + 2 | none => 0
def isCom : Bs → Bool | 35 :: 124 :: _ => true | _ => false
/-- What is passed over at once; 0: nothing. -/
def gapN : Bs → Nat
  | [] => 0
  | c :: r => if blankB c then 1 else if c == 59 then lineN (c :: r) else if isCom (c :: r) then comN (c :: r) else 0
/-- What is passed over. -/
def skipF : Nat → Bs → Nat
  | 0, _ => 0
  | f + 1, l => if gapN l = 0 then 0 else gapN l + skipF f (l.drop (gapN l))
def skipN (l : Bs) : Nat := skipF l.length l
/-- Where a string ends, from behind its first quote: the place of the last one. -/
def qEnd : Bs → Option Nat
  | [] => none
  | 34 :: _ => some 0
  | [92] => none
  | 92 :: _ :: r => (qEnd r).map (· + 2)
  | _ :: r => (qEnd r).map (· + 1)
def hexI (c : UInt8) : Option Nat := if digitB c then some (c.toNat - 48) else if 97 ≤ c.toNat ∧ c.toNat ≤ 102 then some (c.toNat - 87) else none
def hex2 (a b : UInt8) : Option UInt8 := match hexI a, hexI b with | some x, some y => if x ≤ 7 then some (UInt8.ofNat (16 * x + y)) else none | _, _ => none
/-- What the inside of a string denotes. -/
def unq : Bs → Option Bs
  | [] => some []
  | 92 :: 110 :: r => (unq r).map (10 :: ·)
  | 92 :: 116 :: r => (unq r).map (9 :: ·)
  | 92 :: 92 :: r => (unq r).map (92 :: ·)
  | 92 :: 34 :: r => (unq r).map (34 :: ·)
  | 92 :: 120 :: a :: b :: r => match hex2 a b with | some c => (unq r).map (c :: ·) | none => none
  | 92 :: _ => none
  | c :: r => if 32 ≤ c.toNat then (unq r).map (c :: ·) else none
def markK : Bs → Int
  | 40 :: _ => 1
  | 41 :: _ => 2
  | 35 :: 40 :: _ => 3
  | 39 :: _ => 4
  | 96 :: _ => 5
  | 44 :: 64 :: _ => 7
  | 44 :: _ => 6
  | _ => 0
/-- How long what follows the opening of a character is. -/
def spellN : Bs → Nat
  | [] => 0
  | c :: r => if lowerB c then 1 + (r.takeWhile (fun x => lowerB x || digitB x)).length else 1
/-- Which character is spelled so. -/
def charI (l : Bs) : Option Int :=
  if l = [115, 112, 97, 99, 101] then some 32 else if l = [110, 101, 119, 108, 105, 110, 101] then some 10 else if l = [116, 97, 98] then some 9 else if l = [110, 117, 108] then some 0
  else match l with
    | [c] => if blankB c then none else some (c.toNat : Int)
    | [120, a, b] => (hex2 a b).map (fun c => (c.toNat : Int))
    | _ => none
def runN : Bs → Nat
  | [] => 0
  | _ :: r => 1 + (r.takeWhile (fun x => !delimB x)).length

theorem findIdx_at (l : Bs) (p : UInt8 → Bool) (k : Nat) (hk : k < l.length) (h : (l.take k).all (fun c => !p c) = true) (hp : p l[k] = true) : l.findIdx p = k := by
  rw [List.findIdx_eq hk]
  refine ⟨hp, fun j hj => ?_⟩
  have := List.all_eq_true.1 h l[j] (List.mem_take_iff_getElem.2 ⟨j, by omega, rfl⟩)
  simpa using this
theorem nightI_at (l : Bs) (k : Nat) (hk : k < l.length) (h : (l.take k).all okC = true) (hp : okC l[k] = false) : nightI l = (k : Int) := by
  unfold nightI
  rw [if_neg, findIdx_at l _ k hk (by simpa using h) (by simp [hp])]
  intro ha
  have := List.all_eq_true.1 ha l[k] (List.getElem_mem hk)
  rw [hp] at this
  cases this
theorem nightI_no (l : Bs) (h : l.all okC = true) : nightI l = -1 := by unfold nightI; rw [if_pos h]
theorem len_of (t : ByteArray) : t.data.toList.length = t.size := by rw [Array.length_toList]; rfl
theorem byte_at (t : ByteArray) (k : Nat) (h : k < t.size) : t.data.toList[k]? = some t[k] := by
  rw [List.getElem?_eq_getElem (by rw [len_of]; exact h), Array.getElem_toList]; rfl
theorem drop_at (t : ByteArray) (k : Nat) (h : k < t.size) : t.data.toList.drop k = t[k] :: t.data.toList.drop (k + 1) := by
  have h' : k < t.data.toList.length := by rw [len_of]; exact h
  rw [List.drop_eq_getElem_cons h', Array.getElem_toList]; rfl
theorem drop_none (t : ByteArray) (k : Nat) (h : t.size ≤ k) : t.data.toList.drop k = [] := List.drop_eq_nil_of_le (by rw [len_of]; exact h)
theorem take_at (t : ByteArray) (k : Nat) (h : k < t.size) : t.data.toList.take (k + 1) = t.data.toList.take k ++ [t[k]] := by
  rw [List.take_add_one, byte_at t k h]; rfl
theorem drop_add (l : Bs) (a b : Nat) : (l.drop a).drop b = l.drop (a + b) := by rw [List.drop_drop]
theorem u8_toNat (c : UInt8) (n : Nat) (hn : n < 256) : ((c.toNat : Int) == (n : Int)) = (c == UInt8.ofNat n) := by
  by_cases h : c = UInt8.ofNat n
  · have : c.toNat = n := by rw [h]; simp; omega
    rw [this, h]; simp
  · have : c.toNat ≠ n := fun e => h (UInt8.toNat_inj.1 (by rw [e]; simp; omega))
    rw [beq_eq_false_iff_ne.2 h, beq_eq_false_iff_ne]; omega
theorem u8_ne {c : UInt8} {n : Nat} (hn : n < 256) (h : ((c.toNat : Int) == (n : Int)) = false) : c ≠ UInt8.ofNat n := by
  rw [u8_toNat c n hn] at h; exact beq_eq_false_iff_ne.1 h
theorem u8_is {c : UInt8} {n : Nat} (hn : n < 256) (h : ((c.toNat : Int) == (n : Int)) = true) : c = UInt8.ofNat n := by
  rw [u8_toNat c n hn] at h; exact beq_iff_eq.1 h

/- A line. -/
theorem lineN_eq (l : Bs) : (if 0 ≤ Lib.indexByte l 10 then Lib.indexByte l 10 else (l.length : Int)) = (lineN l : Int) := by
  unfold lineN
  induction l with
  | nil => rfl
  | cons c r ih =>
    unfold Lib.indexByte
    rw [List.findIdx_cons]
    cases h : c == 10
    · have hg := Lib.indexByte_ge r 10
      simp only [Bool.false_eq_true, if_false, cond_false]
      by_cases h1 : Lib.indexByte r 10 = -1
      · rw [h1] at ih
        simp only [h1, List.length_cons]
        simp at ih ⊢
        omega
      · have h2 : ¬ (Lib.indexByte r 10 == -1) = true := by simpa using h1
        rw [if_neg h2]
        rw [if_pos (by omega)] at ih
        rw [if_pos (by omega)]
        omega
    · rfl
theorem lineN_le (l : Bs) : lineN l ≤ l.length := List.findIdx_le_length

/- A comment. -/
theorem comR_open (o : Nat) (r : Bs) : comR (o + 1) (35 :: 124 :: r) = (comR (o + 2) r).map (· + 2) := by rfl
theorem comR_shut (o : Nat) (r : Bs) : comR (o + 1) (124 :: 35 :: r) = (comR o r).map (· + 2) := by rfl
theorem comR_one (o : Nat) (c d : UInt8) (r : Bs) (h1 : ¬ (c = 35 ∧ d = 124)) (h2 : ¬ (c = 124 ∧ d = 35)) : comR (o + 1) (c :: d :: r) = (comR (o + 1) (d :: r)).map (· + 1) := by
  rw [comR]
  · intro h; cases h
  · intro r' h h'; injection h' with a b; exact h1 ⟨h, a⟩
  · intro r' h h'; injection h' with a b; exact h2 ⟨h, a⟩
theorem comR_le : ∀ (l : Bs) (o n : Nat), comR o l = some n → n ≤ l.length
  | l, 0, n, h => by simp [comR] at h; omega
  | [], _ + 1, n, h => by simp [comR] at h
  | [_], _ + 1, n, h => by simp [comR] at h
  | c :: d :: r, o + 1, n, h => by
    by_cases h1 : c = 35 ∧ d = 124
    · obtain ⟨rfl, rfl⟩ := h1
      rw [comR_open] at h
      cases e : comR (o + 2) r with
      | none => rw [e] at h; cases h
      | some m => have := comR_le r _ _ e; rw [e] at h; simp at h ⊢; omega
    · by_cases h2 : c = 124 ∧ d = 35
      · obtain ⟨rfl, rfl⟩ := h2
        rw [comR_shut] at h
        cases e : comR o r with
        | none => rw [e] at h; cases h
        | some m => have := comR_le r _ _ e; rw [e] at h; simp at h ⊢; omega
      · rw [comR_one o c d r h1 h2] at h
        cases e : comR (o + 1) (d :: r) with
        | none => rw [e] at h; cases h
        | some m => have := comR_le (d :: r) _ _ e; rw [e] at h; simp at h this ⊢; omega
theorem isCom_iff {l : Bs} : isCom l = true ↔ ∃ r, l = 35 :: 124 :: r := by
  constructor
  · intro h; unfold isCom at h; split at h
    · exact ⟨_, rfl⟩
    · cases h
  · rintro ⟨r, rfl⟩; rfl
theorem comN_le (l : Bs) (h : isCom l = true) : comN l ≤ l.length := by
  obtain ⟨r, rfl⟩ := isCom_iff.1 h
  unfold comN
  cases e : comR 1 ((35 :: 124 :: r).drop 2) with
  | none => simp
  | some n => have := comR_le _ _ _ e; simp at this ⊢; omega

/- A string. -/
theorem qEnd_quote (r : Bs) : qEnd (34 :: r) = some 0 := by rfl
theorem qEnd_esc (r : Bs) : qEnd (92 :: r) = (qEnd (r.drop 1)).map (· + 2) := by
  cases r with
  | nil => rfl
  | cons c r => rfl
theorem qEnd_one (c : UInt8) (r : Bs) (h1 : c ≠ 34) (h2 : c ≠ 92) : qEnd (c :: r) = (qEnd r).map (· + 1) := by
  rw [qEnd]
  · exact h1
  · intro h; exact absurd h (by simp [h2])
  · intro c' r' h; exact absurd h (by simp [h2])
/- What is passed over. -/
theorem gapN_le (l : Bs) : gapN l ≤ l.length := by
  cases l with
  | nil => exact Nat.le_refl _
  | cons c r =>
    rw [gapN]
    by_cases h1 : blankB c = true
    · rw [if_pos h1]; simp
    · rw [if_neg h1]
      by_cases h2 : (c == 59) = true
      · rw [if_pos h2]; exact lineN_le _
      · rw [if_neg h2]
        by_cases h3 : isCom (c :: r) = true
        · rw [if_pos h3]; exact comN_le _ h3
        · rw [if_neg h3]; exact Nat.zero_le _
theorem skipF_more : ∀ (f g : Nat) (l : Bs), l.length ≤ f → l.length ≤ g → skipF f l = skipF g l
  | 0, 0, _, _, _ => rfl
  | 0, g + 1, l, h, _ => by
    have : l = [] := List.eq_nil_of_length_eq_zero (by omega)
    subst this; simp [skipF, gapN]
  | f + 1, 0, l, _, h => by
    have : l = [] := List.eq_nil_of_length_eq_zero (by omega)
    subst this; simp [skipF, gapN]
  | f + 1, g + 1, l, h1, h2 => by
    unfold skipF
    split
    · rfl
    · rw [skipF_more f g (l.drop (gapN l)) (by rw [List.length_drop]; omega) (by rw [List.length_drop]; omega)]
theorem skipN_eq (l : Bs) : skipN l = if gapN l = 0 then 0 else gapN l + skipN (l.drop (gapN l)) := by
  unfold skipN
  by_cases h : gapN l = 0
  · rw [if_pos h]
    cases hl : l.length with
    | zero => rfl
    | succ n => unfold skipF; rw [if_pos h]
  · rw [if_neg h]
    cases hl : l.length with
    | zero => have := gapN_le l; omega
    | succ n =>
      rw [skipF, if_neg h]
      rw [skipF_more n (l.drop (gapN l)).length _ (by rw [List.length_drop]; omega) (Nat.le_refl _)]
theorem skipN_zero {l : Bs} (h : gapN l = 0) : skipN l = 0 := by rw [skipN_eq, if_pos h]
theorem skipN_gap {l : Bs} (h : gapN l ≠ 0) : skipN l = gapN l + skipN (l.drop (gapN l)) := by rw [skipN_eq, if_neg h]
theorem skipF_le : ∀ (f : Nat) (l : Bs), skipF f l ≤ l.length
  | 0, _ => Nat.zero_le _
  | f + 1, l => by
    unfold skipF
    split
    · exact Nat.zero_le _
    · have := skipF_le f (l.drop (gapN l))
      have := gapN_le l
      rw [List.length_drop] at *
      omega
theorem skipN_le (l : Bs) : skipN l ≤ l.length := skipF_le _ _
theorem gapN_blank {c : UInt8} {r : Bs} (h : blankB c = true) : gapN (c :: r) = 1 := by rw [gapN, if_pos h]
theorem gapN_line {c : UInt8} {r : Bs} (h : blankB c = false) (h2 : c = 59) : gapN (c :: r) = lineN (c :: r) := by rw [gapN, if_neg (by rw [h]; simp), if_pos (by simp [h2])]
theorem gapN_com {c : UInt8} {r : Bs} (h : blankB c = false) (h2 : c ≠ 59) (h3 : isCom (c :: r) = true) : gapN (c :: r) = comN (c :: r) := by rw [gapN, if_neg (by rw [h]; simp), if_neg (by simp [h2]), if_pos h3]
theorem gapN_word {c : UInt8} {r : Bs} (h : blankB c = false) (h2 : c ≠ 59) (h3 : isCom (c :: r) = false) : gapN (c :: r) = 0 := by rw [gapN, if_neg (by rw [h]; simp), if_neg (by simp [h2]), if_neg (by rw [h3]; simp)]
theorem lineN_pos {c : UInt8} {r : Bs} (h : c ≠ 10) : 0 < lineN (c :: r) := by
  unfold lineN
  rw [List.findIdx_cons, show (c == 10) = false by simp [h]]
  exact Nat.succ_pos _
/-- What is wrong with what is left when all is passed over that can be: a comment that does not end. -/
def skipE (l : Bs) : Int := if isCom (l.drop (skipN l)) then 31 else 0
theorem skipE_gap {l : Bs} (h : gapN l ≠ 0) : skipE l = skipE (l.drop (gapN l)) := by unfold skipE; rw [skipN_gap h, List.drop_drop]
theorem skipE_zero {l : Bs} (h : gapN l = 0) : skipE l = if isCom l then 31 else 0 := by unfold skipE; rw [skipN_zero h]; rfl
theorem prefix_com (l : Bs) : Lib.hasPrefix l [35, 124] = isCom l := by
  match l with
  | [] => rfl
  | [c] => show ((35 : UInt8) == c && false) = _; rw [Bool.and_false]; unfold isCom; split <;> simp_all
  | c :: d :: r =>
    show ((35 : UInt8) == c && ((124 : UInt8) == d && true)) = _
    by_cases h : c = 35 ∧ d = 124
    · obtain ⟨rfl, rfl⟩ := h; rfl
    · have : isCom (c :: d :: r) = false := by unfold isCom; split <;> simp_all
      rw [this]
      rw [Bool.and_true, Bool.and_eq_false_iff]
      by_cases h1 : c = 35
      · right; rw [beq_eq_false_iff_ne]; exact fun e => h ⟨h1, e.symm⟩
      · left; rw [beq_eq_false_iff_ne]; exact fun e => h1 e.symm
end Go.Proofs.Ytpeleifkednmoaa.Lx
end
