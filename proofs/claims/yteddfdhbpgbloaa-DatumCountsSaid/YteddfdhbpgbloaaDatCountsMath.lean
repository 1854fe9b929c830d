/- Data without marks (P2.6): what is reckoned without a walk. -/
import Derived.Test.YteddfdhbpgbloaaDatPlain
import Derived.Test.YteddfdhbpgbloaaDatAlone
namespace Go.Proofs.Yteddfdhbpgbloaa.Da
open Go.ChangeShapes Go.WideShapes Go.ChangeAt Go.RowKit

def bare (x : Dt × Nat) : Dt × Nat := (plainD x.1, x.2)
mutual
theorem nodes_plain : ∀ (d : Dt) (i : Nat), nodes (plainD d) i = (nodes d i).map bare
  | .mk k n s m l t, i => by
    simp only [plainD, nodes, List.map_cons, List.map_append, nodesL_plain l, nodesL_plain t, bare]
theorem nodesL_plain : ∀ (l : List Dt) (i : Nat), nodesL (plainL l) i = (nodesL l i).map bare
  | [], _ => by simp only [plainL, nodesL, List.map_nil]
  | d :: r, i => by simp only [plainL, nodesL, List.map_append, nodes_plain d, nodesL_plain r]
end
mutual
theorem plain_twice : ∀ d : Dt, plainD (plainD d) = plainD d
  | .mk k n s m l t => by simp only [plainD, plainL_twice l, plainL_twice t]
theorem plainL_twice : ∀ l : List Dt, plainL (plainL l) = plainL l
  | [] => by simp only [plainL]
  | d :: r => by simp only [plainL, plain_twice d, plainL_twice r]
end
theorem headK_plain (t : List Dt) : headK (plainL t) = headK t := by
  cases t with
  | nil => simp only [plainL]
  | cons d r => simp only [plainL, headK, plainD_mk, Dt.K]
theorem properOf_plain {k n : Int} {s : ByteArray} {m : List Int} {l t : List Dt} (h : properOf k n s m l t = true) : properOf k n s [] (plainL l) (plainL t) = true := by
  have ht : tailB (plainL t) = tailB t := by unfold tailB; rw [plainL_len, headK_plain]
  have hm0 : marksB [] = true := by decide
  have h3 : nil3 m.length l.length t.length = true → nil3 ([] : List Int).length (plainL l).length (plainL t).length = true := fun h => by
    rw [plainL_len, plainL_len]
    rw [nil3_eq] at h ⊢
    simp only [Bool.and_eq_true] at h ⊢
    exact ⟨by decide, h.2⟩
  have h2 : ∀ q : List Dt, nil2 m.length q.length = true → nil2 ([] : List Int).length (plainL q).length = true := fun q h => by
    rw [plainL_len]
    rw [nil2_eq] at h ⊢
    simp only [Bool.and_eq_true] at h ⊢
    exact ⟨by decide, h.2⟩
  unfold properOf at h ⊢
  by_cases c1 : k = 1
  · rw [if_pos c1] at h ⊢
    simp only [Bool.and_eq_true] at h ⊢
    exact ⟨h.1, h3 h.2⟩
  by_cases c2 : k = 2
  · rw [if_neg c1, if_pos c2] at h ⊢
    simp only [Bool.and_eq_true] at h ⊢
    exact ⟨h.1, h3 h.2⟩
  by_cases c3 : k = 3
  · rw [if_neg c1, if_neg c2, if_pos c3] at h ⊢
    simp only [Bool.and_eq_true] at h ⊢
    exact ⟨h.1, h3 h.2⟩
  by_cases c4 : k = 4
  · rw [if_neg c1, if_neg c2, if_neg c3, if_pos c4] at h ⊢
    simp only [Bool.and_eq_true] at h ⊢
    exact ⟨h.1, h3 h.2⟩
  by_cases c5 : k = 5
  · rw [if_neg c1, if_neg c2, if_neg c3, if_neg c4, if_pos c5] at h ⊢
    simp only [Bool.and_eq_true] at h ⊢
    exact ⟨⟨⟨h.1.1.1, hm0⟩, h.1.2⟩, by rw [plainL_len, plainL_len]; exact h.2⟩
  by_cases c6 : k = 6
  · rw [if_neg c1, if_neg c2, if_neg c3, if_neg c4, if_neg c5, if_pos c6] at h ⊢
    simp only [Bool.and_eq_true] at h ⊢
    exact ⟨h.1, h2 t h.2⟩
  by_cases c7 : k = 7
  · rw [if_neg c1, if_neg c2, if_neg c3, if_neg c4, if_neg c5, if_neg c6, if_pos c7] at h ⊢
    simp only [Bool.and_eq_true] at h ⊢
    exact ⟨⟨⟨⟨by rw [plainL_len]; exact h.1.1.1.1, by rw [ht]; exact h.1.1.1.2⟩, h.1.1.2⟩, h.1.2⟩, by decide⟩
  by_cases c8 : k = 8
  · rw [if_neg c1, if_neg c2, if_neg c3, if_neg c4, if_neg c5, if_neg c6, if_neg c7, if_pos c8] at h ⊢
    simp only [Bool.and_eq_true] at h ⊢
    exact ⟨h.1, h2 t h.2⟩
  rw [if_neg c1, if_neg c2, if_neg c3, if_neg c4, if_neg c5, if_neg c6, if_neg c7, if_neg c8] at h
  cases h
theorem proper_plain {d : Dt} (h : properB d = true) : properB (plainD d) = true := by
  cases d
  rw [plainD_mk]
  exact properOf_plain h
theorem maxD_bare : ∀ l : List (Dt × Nat), maxD (l.map bare) = maxD l
  | [] => rfl
  | x :: r => by rw [List.map_cons, maxD_cons, maxD_cons, maxD_bare r]; rfl
/-- Without marks there are as many parts, as deep. -/
theorem plain_valid {d : Dt} (h : chk d = 0) : chk (plainD d) = 0 ∧ sizeD (plainD d) = sizeD d ∧ deepD (plainD d) = deepD d := by
  have hl : cnt (plainD d) = cnt d := by rw [← nodes_len _ 1, nodes_plain, List.length_map, nodes_len]
  obtain ⟨h1, h2⟩ := (chk_iff d).1 h
  have h0 : chk (plainD d) = 0 := (chk_iff _).2 ⟨fun x hx => by
    rw [nodes_plain] at hx
    obtain ⟨y, hy, rfl⟩ := List.mem_map.1 hx
    exact ⟨proper_plain (h1 y hy).1, (h1 y hy).2⟩, by rw [hl]; exact h2⟩
  obtain ⟨s1, s2, _⟩ := sizeD_ok h
  obtain ⟨p1, p2, _⟩ := sizeD_ok h0
  exact ⟨h0, by rw [p1, s1, hl], by rw [p2, s2, nodes_plain, maxD_bare]⟩
end Go.Proofs.Yteddfdhbpgbloaa.Da
