/- Two data are the same just where their parts are, one by one. -/
import Derived.Test.YtapnighankepjaaDatRWalk
import Derived.Test.YtapnighankepjaaDatMarks
namespace Go.Proofs.Ytapnighankepjaa.Da
open Go.ChangeShapes Go.WideShapes Go.ChangeAt Go.RowKit

/-- Two parts are the same but for what is in them. -/
def nodeB (x y : Dt) : Bool := (x.K == y.K) && ((x.N == y.N) && ((x.S.toList == y.S.toList) && ((x.M == y.M) && ((x.L.length == y.L.length) && (x.T.length == y.T.length)))))
def rowB : List (Dt × Nat) → List (Dt × Nat) → Bool
  | [], [] => true
  | a :: l, b :: r => nodeB a.1 b.1 && rowB l r
  | _, _ => false
theorem nodeB_refl (x : Dt) : nodeB x x = true := by simp [nodeB]
theorem rowB_refl : ∀ l, rowB l l = true
  | [] => rfl
  | a :: l => by simp [rowB, nodeB_refl, rowB_refl l]
theorem rowB_len : ∀ {l r}, rowB l r = true → l.length = r.length
  | [], [], _ => rfl
  | a :: l, b :: r, h => by
    simp only [rowB, Bool.and_eq_true] at h
    simp [rowB_len h.2]
  | [], _ :: _, h => by simp [rowB] at h
  | _ :: _, [], h => by simp [rowB] at h
theorem rowB_not : ∀ {l r : List (Dt × Nat)} {j : Nat} {x y}, l[j]? = some x → r[j]? = some y → nodeB x.1 y.1 = false → rowB l r = false
  | a :: l, b :: r, 0, x, y, hx, hy, h => by
    obtain rfl : a = x := by simpa using hx
    obtain rfl : b = y := by simpa using hy
    simp [rowB, h]
  | a :: l, b :: r, j + 1, x, y, hx, hy, h => by
    simp [rowB, rowB_not (l := l) (r := r) (j := j) (by simpa using hx) (by simpa using hy) h]
  | [], _, _, _, _, hx, _, _ => by simp at hx
  | _ :: _, [], _, _, _, _, hy, _ => by simp at hy
theorem rowB_all : ∀ {l r : List (Dt × Nat)}, l.length = r.length → (∀ (j : Nat) x y, l[j]? = some x → r[j]? = some y → nodeB x.1 y.1 = true) → rowB l r = true
  | [], [], _, _ => rfl
  | a :: l, b :: r, h, ha => by
    simp only [rowB, ha 0 a b rfl rfl, Bool.true_and]
    exact rowB_all (by simpa using h) (fun j x y hx hy => ha (j + 1) x y (by simpa using hx) (by simpa using hy))
  | [], _ :: _, h, _ => by simp at h
  | _ :: _, [], h, _ => by simp at h
mutual
theorem row_eq : ∀ (a b : Dt) (p q : List (Dt × Nat)) (i : Nat), rowB (nodes a i ++ p) (nodes b i ++ q) = true → eqD a b = true ∧ rowB p q = true
  | .mk k n s m l t, b, p, q, i, h => by
    rw [nodes_eq, nodes_eq b] at h
    simp only [List.cons_append, rowB, Bool.and_eq_true, List.append_assoc] at h
    obtain ⟨hn, hr⟩ := h
    simp only [nodeB, Bool.and_eq_true, beq_iff_eq, Dt.K, Dt.N, Dt.S, Dt.M] at hn
    obtain ⟨h1, h2, h3, h4, h5, h6⟩ := hn
    obtain ⟨e1, hr⟩ := rowL_eq l b.L _ _ (i + 1) h5 hr
    obtain ⟨e2, hr⟩ := rowL_eq t b.T _ _ (i + 1) h6 hr
    refine ⟨?_, hr⟩
    simp only [eqD, Bool.and_eq_true, beq_iff_eq]
    exact ⟨h1, h2, h3, h4, e1, e2⟩
theorem rowL_eq : ∀ (l r : List Dt) (p q : List (Dt × Nat)) (i : Nat), l.length = r.length → rowB (nodesL l i ++ p) (nodesL r i ++ q) = true → eqL l r = true ∧ rowB p q = true
  | [], [], p, q, i, _, h => by
    rw [nodesL_nil] at h
    exact ⟨by simp only [eqL], by simpa using h⟩
  | a :: l, b :: r, p, q, i, hl, h => by
    rw [nodesL_cons, nodesL_cons, List.append_assoc, List.append_assoc] at h
    obtain ⟨e1, h⟩ := row_eq a b _ _ i h
    obtain ⟨e2, h⟩ := rowL_eq l r _ _ i (by simpa using hl) h
    exact ⟨by simp only [eqL, e1, e2, Bool.and_self], h⟩
  | [], _ :: _, _, _, _, hl, _ => by simp at hl
  | _ :: _, [], _, _, _, hl, _ => by simp at hl
end
theorem bytes_eq {s t : ByteArray} (h : s.toList = t.toList) : s = t := by
  rw [ByteArray.toList_eq, ByteArray.toList_eq] at h
  cases s with | mk s => cases t with | mk t =>
  have : s = t := by
    have h2 : s.toList = t.toList := h
    exact Array.toList_inj.1 h2
  rw [this]
mutual
theorem eqD_is : ∀ (a b : Dt), eqD a b = true → a = b
  | .mk k n s m l t, .mk k' n' s' m' l' t', h => by
    simp only [eqD, Bool.and_eq_true, beq_iff_eq, Dt.K, Dt.N, Dt.S, Dt.M, Dt.L, Dt.T] at h
    obtain ⟨rfl, rfl, h3, rfl, e1, e2⟩ := h
    rw [bytes_eq h3, eqL_is l l' e1, eqL_is t t' e2]
theorem eqL_is : ∀ (l r : List Dt), eqL l r = true → l = r
  | [], [], _ => rfl
  | a :: l, b :: r, h => by
    simp only [eqL, Bool.and_eq_true] at h
    rw [eqD_is a b h.1, eqL_is l r h.2]
  | [], _ :: _, h => by simp [eqL] at h
  | _ :: _, [], h => by simp [eqL] at h
end
/-- The document's Same, by the parts. -/
def sameN (a b : Dt) : Bool := !(partsD a).isEmpty && rowB (partsD a) (partsD b)
theorem sameN_eq (a b : Dt) : sameN a b = ((chk a == 0) && eqD a b) := by
  unfold sameN
  by_cases ha : chk a = 0
  · have pa : partsD a = nodes a 1 := by unfold partsD; rw [if_pos ha]
    have pn : (nodes a 1).isEmpty = false := by rw [nodes_eq]; rfl
    rw [pa, pn, ha]
    simp only [Bool.not_false, Bool.true_and, beq_self_eq_true]
    cases he : eqD a b
    · by_cases hb : chk b = 0
      · have pb : partsD b = nodes b 1 := by unfold partsD; rw [if_pos hb]
        rw [pb]
        cases hr : rowB (nodes a 1) (nodes b 1)
        · rfl
        · have := (row_eq a b [] [] 1 (by simpa using hr)).1
          rw [he] at this; cases this
      · have pb : partsD b = [] := by unfold partsD; rw [if_neg hb]
        rw [pb, nodes_eq]; rfl
    · obtain rfl := eqD_is a b he
      rw [pa]; exact rowB_refl _
  · have pa : partsD a = [] := by unfold partsD; rw [if_neg ha]
    rw [pa, beq_eq_false_iff_ne.2 ha]; rfl
end Go.Proofs.Ytapnighankepjaa.Da
