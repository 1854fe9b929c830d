/- What the text of several words is (layer 3): the mathematics. -/
import Derived.Lib.Join
import Derived.Test.YtpeleifkednmoaaMLexText3
section
namespace Go.Proofs.Ytpeleifkednmoaa.Lx
open Go.ChangeShapes Go.WideShapes Go.ChangeAt Go.RowKit
set_option linter.unusedVariables false

def txt (t : Tk) : Bs := (textTk t).1
def er (t : Tk) : Int := (textTk t).2
def joinL (l : List Tk) : Bs := Lib.join (l.map txt) [32]
/-- The first word's error that has one. -/
def firstE : List Tk → Int
  | [] => 0
  | t :: r => if er t = 0 then firstE r else er t
/-- The text of words, and what is wrong with it. -/
def joinTk (l : List Tk) : Bs × Int := if 4096 < l.length then ([], 3) else if firstE l ≠ 0 then ([], firstE l) else if 16384 < (joinL l).length then ([], 3) else (joinL l, 0)
theorem joinL_nil : joinL [] = [] := rfl
theorem joinL_one (t : Tk) : joinL [t] = txt t := Lib.join_one _ _
theorem joinTail_snoc (sep : List UInt8) (r : List (List UInt8)) (y : List UInt8) : Lib.joinTail sep (r ++ [y]) = Lib.joinTail sep r ++ (sep ++ y) := by simp [Lib.joinTail]
theorem joinL_snoc (l : List Tk) (t : Tk) (h : l ≠ []) : joinL (l ++ [t]) = joinL l ++ [32] ++ txt t := by
  cases l with
  | nil => exact absurd rfl h
  | cons x r =>
    unfold joinL
    rw [List.cons_append, List.map_cons, List.map_cons, Lib.join_cons, Lib.join_cons, List.map_append, List.map_cons, List.map_nil, joinTail_snoc]
    simp
theorem er_is (t : Tk) : er t = 0 ∨ (er t = 30 ∧ txt t = []) := by
  unfold er txt textTk
  repeat' split
  all_goals simp
theorem firstE_no {l : List Tk} (h : ∀ t ∈ l, er t = 0) : firstE l = 0 := by
  induction l with
  | nil => rfl
  | cons x r ih => rw [firstE, if_pos (h x (List.mem_cons_self ..))]; exact ih (fun t ht => h t (List.mem_cons_of_mem _ ht))
theorem firstE_at : ∀ {l : List Tk} {k : Nat} (hk : k < l.length), (∀ t ∈ l.take k, er t = 0) → er l[k] ≠ 0 → firstE l = er l[k]
  | x :: r, 0, _, _, he => by rw [firstE]; exact if_neg he
  | x :: r, k + 1, hk, h, he => by
    rw [firstE, if_pos (h x (by simp))]
    exact firstE_at (by simpa using hk) (fun t ht => h t (by rw [List.take_succ_cons]; exact List.mem_cons_of_mem _ ht)) he
theorem take_mem {l : List Tk} {k : Nat} (hk : k < l.length) (h : ∀ t ∈ l.take k, er t = 0) (he : er l[k] = 0) : ∀ t ∈ l.take (k + 1), er t = 0 := by
  intro t ht
  rw [List.take_succ_eq_append_getElem hk, List.mem_append] at ht
  rcases ht with ht | ht
  · exact h t ht
  · rw [List.mem_singleton] at ht; rw [ht]; exact he
theorem take_tk {l : List Tk} {k : Nat} (hk : k < l.length) : l.take (k + 1) = l.take k ++ [l[k]] := List.take_succ_eq_append_getElem hk
theorem decL_le : ∀ (n : Nat), (Fx.decL n).length ≤ n + 1 := by
  intro n
  induction n using Nat.strongRecOn with
  | ind n ih =>
    by_cases c : n < 10
    · rw [Fx.decL_small c]; simp
    · rw [Fx.decL_big c, List.length_append]
      have := ih (n / 10) (by omega)
      simp only [List.length_cons, List.length_nil]
      omega
theorem decL_20 : ∀ (k n : Nat), n < 10 ^ (k + 1) → (Fx.decL n).length ≤ k + 1
  | 0, n, h => by rw [Fx.decL_small (by simpa using h)]; simp
  | k + 1, n, h => by
    by_cases c : n < 10
    · rw [Fx.decL_small c]; simp
    · rw [Fx.decL_big c, List.length_append]
      have := decL_20 k (n / 10) (by rw [Nat.pow_succ] at h; omega)
      simp only [List.length_cons, List.length_nil]
      omega
theorem txt_len {t : Tk} (h : TkW t) : (txt t).length ≤ 4194306 := by
  have hn : -9223372036854775808 ≤ t.n ∧ t.n ≤ 9223372036854775807 := by
    have := bounds_i64 h.n
    exact this
  have hd : (Fx.decL t.n.natAbs).length ≤ 20 := decL_20 19 _ (by have : t.n.natAbs ≤ 9223372036854775808 := by omega
                                                                 exact Nat.lt_of_le_of_lt this (by decide))
  have hq : (quoteS t.S).length ≤ 4194306 := by
    have h1 := quoteR_len t.S
    have h2 := h.S
    unfold quoteS
    rw [List.length_cons, List.length_append]
    simp only [List.length_cons, List.length_nil]
    omega
  have hs : (spellS (chrC t.n)).length ≤ 10 := by have := spell_sz (chrC t.n); rwa [show (⟨(spellS (chrC t.n)).toArray⟩ : ByteArray).size = (spellS (chrC t.n)).length from List.size_toArray] at this
  have hb : (bodyT t).length ≤ 4194306 := by
    have h2 := h.S
    unfold bodyT Fx.textL
    repeat' split
    all_goals (try simp only [List.length_cons, List.length_nil])
    all_goals omega
  have hm : (markS t.k).length ≤ 2 := by
    unfold markS
    repeat' split
    all_goals simp
  unfold txt textTk
  repeat' split
  all_goals (try simp only [List.length_nil])
  all_goals omega
theorem lens_le : ∀ {l : List Tk}, (∀ t ∈ l, TkW t) → Lib.lens (l.map txt) ≤ 4194306 * l.length
  | [], _ => by simp [Lib.lens]
  | x :: r, h => by
    have h1 := lens_le (l := r) (fun t ht => h t (List.mem_cons_of_mem _ ht))
    have h2 := txt_len (h x (List.mem_cons_self ..))
    unfold Lib.lens at h1 ⊢
    simp only [List.map_cons, List.sum_cons, List.length_cons]
    omega
theorem joinL_len {l : List Tk} (h : ∀ t ∈ l, TkW t) : (joinL l).length ≤ 4194307 * l.length := by
  have h1 := lens_le h
  cases l with
  | nil => simp [joinL_nil]
  | cons x r =>
    unfold joinL
    rw [List.map_cons, Lib.join_length, List.length_map]
    rw [List.map_cons] at h1
    simp only [List.length_cons, List.length_nil] at h1 ⊢
    omega
def strT (t : Tk) : Value := .string ⟨(txt t).toArray⟩
/-- The texts of the first k words, and empty ones. -/
def rowT (l : List Tk) (k : Nat) : List Value := (l.take k).map strT ++ List.replicate (l.length - k) (.string ⟨#[]⟩)
theorem rowT_set {l : List Tk} {k : Nat} (hk : k < l.length) : (rowT l k).set k (strT l[k]) = rowT l (k + 1) := by
  have hl : ((l.take k).map strT).length = k := by rw [List.length_map, List.length_take]; omega
  unfold rowT
  rw [take_tk hk, List.map_append, List.append_assoc, List.set_append_right _ _ (by omega), hl, Nat.sub_self]
  congr 1
  obtain ⟨m, hm⟩ : ∃ m, l.length - k = m + 1 := ⟨l.length - k - 1, by omega⟩
  rw [hm, show l.length - (k + 1) = m by omega]
  rfl
theorem rowT_full (l : List Tk) : rowT l l.length = l.map strT := by unfold rowT; rw [List.take_length, Nat.sub_self]; simp
theorem joinTk_long {l : List Tk} (h : 4096 < l.length) : joinTk l = ([], 3) := by unfold joinTk; rw [if_pos h]
theorem joinTk_bad {l : List Tk} (h : ¬ 4096 < l.length) {e : Int} (he : firstE l = e) (h0 : e ≠ 0) : joinTk l = ([], e) := by unfold joinTk; rw [if_neg h, he, if_pos h0]
theorem joinTk_great {l : List Tk} (h : ¬ 4096 < l.length) (h0 : firstE l = 0) (hj : 16384 < (joinL l).length) : joinTk l = ([], 3) := by unfold joinTk; rw [if_neg h, if_neg (by rw [h0]; simp), if_pos hj]
theorem joinTk_ok {l : List Tk} (h : ¬ 4096 < l.length) (h0 : firstE l = 0) (hj : ¬ 16384 < (joinL l).length) : joinTk l = (joinL l, 0) := by unfold joinTk; rw [if_neg h, if_neg (by rw [h0]; simp), if_neg hj]
end Go.Proofs.Ytpeleifkednmoaa.Lx
end
