/- A list has one part and those of all that is in it (P2.5): what is reckoned without a walk. -/
import Derived.Test.YtapnighankepjaaDatAwake
namespace Go.Proofs.Ytapnighankepjaa.Da
open Go.ChangeShapes Go.WideShapes Go.ChangeAt Go.RowKit

def up1 (x : Dt × Nat) : Dt × Nat := (x.1, x.2 + 1)
mutual
theorem nodes_up : ∀ (d : Dt) (i : Nat), nodes d (i + 1) = (nodes d i).map up1
  | .mk k n s m l t, i => by
    simp only [nodes, List.map_cons, List.map_append, nodesL_up l (i + 1), nodesL_up t (i + 1), up1]
theorem nodesL_up : ∀ (l : List Dt) (i : Nat), nodesL l (i + 1) = (nodesL l i).map up1
  | [], _ => by simp only [nodesL, List.map_nil]
  | d :: r, i => by simp only [nodesL, List.map_append, nodes_up d, nodesL_up r]
end
theorem maxD_foldl (l : List (Dt × Nat)) : ∀ a, l.foldl (fun a x => max a x.2) a = max a (maxD l) := by
  induction l with
  | nil => intro a; simp [maxD]
  | cons x r ih =>
    intro a
    have h := ih (max 0 x.2)
    unfold maxD
    simp only [List.foldl_cons]
    rw [ih (max a x.2), h]
    omega
theorem maxD_cons (x : Dt × Nat) (r : List (Dt × Nat)) : maxD (x :: r) = max x.2 (maxD r) := by
  show List.foldl _ _ _ = _
  rw [List.foldl_cons, maxD_foldl]; omega
theorem maxD_append (a b : List (Dt × Nat)) : maxD (a ++ b) = max (maxD a) (maxD b) := by
  show List.foldl _ _ _ = _
  rw [List.foldl_append, maxD_foldl]; rfl
theorem maxD_up : ∀ (l : List (Dt × Nat)), l ≠ [] → maxD (l.map up1) = maxD l + 1
  | [x], _ => by simp [maxD, up1]
  | x :: y :: r, _ => by
    have h := maxD_up (y :: r) (by simp)
    rw [List.map_cons, maxD_cons, h, maxD_cons x]
    show max (x.2 + 1) _ = _
    omega
theorem maxD_mem : ∀ (l : List (Dt × Nat)) (x : Dt × Nat), x ∈ l → x.2 ≤ maxD l
  | y :: r, x, h => by
    rw [maxD_cons]
    rcases List.mem_cons.1 h with rfl | h
    · omega
    · have := maxD_mem r x h; omega
theorem maxD_le : ∀ (l : List (Dt × Nat)) (k : Nat), (∀ x ∈ l, x.2 ≤ k) → maxD l ≤ k
  | [], k, _ => by simp [maxD]
  | y :: r, k, h => by
    rw [maxD_cons]
    have := maxD_le r k (fun x hx => h x (List.mem_cons_of_mem _ hx))
    have := h y (List.mem_cons_self ..)
    omega
/-- Where each part may be by itself, what is wrong is how many there are, or how deep they lie. -/
theorem errOf_sound : ∀ (l : List (Dt × Nat)) (c : Nat), c ≤ 4096 → (∀ x ∈ l, properB x.1 = true) → (errOf c l = 0 ∨ errOf c l = 3 ∨ errOf c l = 4) ∧ (errOf c l = 0 ↔ c + l.length ≤ 4096 ∧ ∀ x ∈ l, x.2 ≤ 64)
  | [], c, hc, _ => ⟨.inl rfl, by simpa [errOf] using hc⟩
  | x :: r, c, hc, hp => by
    have hx := hp x (List.mem_cons_self ..)
    have hr : ∀ y ∈ r, properB y.1 = true := fun y hy => hp y (List.mem_cons_of_mem _ hy)
    simp only [errOf]
    by_cases h1 : 64 < x.2
    · have hm : mErr c x.1 x.2 = 4 := by unfold mErr; rw [if_pos h1]
      rw [hm, if_neg (by decide)]
      refine ⟨.inr (.inr rfl), ⟨fun h => absurd h (by decide), fun h => ?_⟩⟩
      have := h.2 x (List.mem_cons_self ..)
      omega
    · by_cases h2 : c = 4096
      · have hm : mErr c x.1 x.2 = 3 := by unfold mErr; rw [if_neg h1, if_pos h2]
        rw [hm, if_neg (by decide)]
        refine ⟨.inr (.inl rfl), ⟨fun h => absurd h (by decide), fun h => ?_⟩⟩
        have h3 := h.1
        rw [List.length_cons] at h3
        omega
      · have hm : mErr c x.1 x.2 = 0 := by unfold mErr; rw [if_neg h1, if_neg h2, if_pos hx]
        rw [hm, if_pos rfl]
        obtain ⟨i1, i2⟩ := errOf_sound r (c + 1) (by omega) hr
        refine ⟨i1, i2.trans ⟨fun h => ⟨by rw [List.length_cons]; omega, fun y hy => ?_⟩, fun h => ⟨by have := h.1; rw [List.length_cons] at this; omega, fun y hy => h.2 y (List.mem_cons_of_mem _ hy)⟩⟩⟩
        rcases List.mem_cons.1 hy with rfl | hy
        · omega
        · exact h.2 y hy
theorem errOf_proper : ∀ (l : List (Dt × Nat)) (c : Nat), errOf c l = 0 → ∀ x ∈ l, properB x.1 = true ∧ x.2 ≤ 64
  | x :: r, c, h, y, hy => by
    simp only [errOf] at h
    by_cases hx : mErr c x.1 x.2 = 0
    · rw [if_pos hx] at h
      rcases List.mem_cons.1 hy with rfl | hy
      · exact ⟨(mErr_zero hx).2.2, (mErr_zero hx).1⟩
      · exact errOf_proper r (c + 1) h y hy
    · rw [if_neg hx] at h
      exact absurd h hx
theorem listD_proper (l : List Dt) : properB (listD l) = true := by
  simp [properB, listD, properOf, Dt.K, Dt.N, Dt.S, Dt.M, Dt.T, nil2, ByteArray.toList_eq]
def sumD (l : List Dt) : Int := (l.map sizeD).foldl (· + ·) 0
def topD (l : List Dt) : Int := (l.map deepD).foldl max 0
theorem sumD_snoc (l : List Dt) (d : Dt) : sumD (l ++ [d]) = sumD l + sizeD d := by simp [sumD]
theorem topD_snoc (l : List Dt) (d : Dt) : topD (l ++ [d]) = max (topD l) (deepD d) := by simp [topD]
theorem sizeD_ok {d : Dt} (h : chk d = 0) : sizeD d = cnt d ∧ deepD d = maxD (nodes d 1) ∧ cnt d ≤ 4096 ∧ maxD (nodes d 1) ≤ 64 ∧ 0 < maxD (nodes d 1) := by
  have h0 := chk_zero.1 h
  refine ⟨?_, ?_, chk_cnt h, maxD_le _ _ fun x hx => (errOf_proper _ _ h0 x hx).2, ?_⟩
  · unfold sizeD meas; rw [if_pos h0, nodes_len]
  · unfold deepD meas; rw [if_pos h0]
  · rw [nodes_eq, maxD_cons]; show 0 < max 1 _; omega
theorem sizeD_bad {d : Dt} (h : chk d ≠ 0) : sizeD d = 0 := by
  have h0 : ¬ errOf 0 (nodes d 1) = 0 := fun e => h (chk_zero.2 e)
  unfold sizeD meas; rw [if_neg h0]
theorem chk_err (d : Dt) : chk d = errOf 0 (nodes d 1) := by
  unfold chk meas
  by_cases h : errOf 0 (nodes d 1) = 0
  · rw [if_pos h, h]
  · rw [if_neg h]
/-- The sums, in the parts. -/
theorem sums_take (l : List Dt) : ∀ j, j ≤ l.length → (∀ d ∈ l.take j, chk d = 0) → sumD (l.take j) = (cntL (l.take j) : Int) ∧ topD (l.take j) = (maxD (nodesL (l.take j) 1) : Int) ∧ (cntL (l.take j) ≤ 4096 * j) ∧ maxD (nodesL (l.take j) 1) ≤ 64 := by
  intro j
  induction j with
  | zero => intro _ _; simp [sumD, topD, cntL, nodesL, maxD]
  | succ j ih =>
    intro hj h
    obtain ⟨d, hd⟩ : ∃ d, l[j]? = some d := ⟨l[j], by simp⟩
    rw [take_snoc_dt l j d hd] at h ⊢
    obtain ⟨h1, h2, h3, h4⟩ := ih (by omega) (fun x hx => h x (by simp [hx]))
    obtain ⟨s1, s2, s3, s4, s5⟩ := sizeD_ok (h d (by simp))
    have hc : cntL [d] = cnt d := by simp [cntL]
    have hn : nodesL [d] 1 = nodes d 1 := by simp [nodesL]
    rw [sumD_snoc, topD_snoc, cntL_append, nodesL_append, maxD_append, hc, hn, h1, h2, s1, s2]
    exact ⟨by omega, by omega, by omega, by omega⟩
theorem sums (l : List Dt) (h : ∀ d ∈ l, chk d = 0) : sumD l = (cntL l : Int) ∧ topD l = (maxD (nodesL l 1) : Int) ∧ (cntL l ≤ 4096 * l.length) ∧ maxD (nodesL l 1) ≤ 64 := by
  have := sums_take l l.length (Nat.le_refl _)
  rw [List.take_length] at this
  exact this h
theorem parts_math (l : List Dt) (h : ∀ d ∈ l, chk d = 0) :
    ((1 + sumD l > 4096 ∨ topD l ≥ 64) → (chk (listD l) = 3 ∨ chk (listD l) = 4) ∧ sizeD (listD l) = 0) ∧
    (¬ (1 + sumD l > 4096 ∨ topD l ≥ 64) → chk (listD l) = 0 ∧ sizeD (listD l) = 1 + sumD l ∧ deepD (listD l) = topD l + 1) := by
  obtain ⟨h1, h2, _, _⟩ := sums l h
  have hn : nodes (listD l) 1 = (listD l, 1) :: (nodesL l 1).map up1 := by
    rw [nodes_eq, show (listD l).L = l from rfl, show (listD l).T = [] from rfl, nodesL_nil, List.append_nil, nodesL_up]
  have hp : ∀ x ∈ nodesL l 1, properB x.1 = true := by
    intro x hx
    have key : ∀ l : List Dt, (∀ d ∈ l, chk d = 0) → x ∈ nodesL l 1 → properB x.1 = true := by
      intro l
      induction l with
      | nil => intro _ hx; simp [nodesL] at hx
      | cons d r ih =>
        intro h hx
        rw [nodesL_cons] at hx
        rcases List.mem_append.1 hx with hx | hx
        · exact (errOf_proper _ _ (chk_zero.1 (h d (by simp))) x hx).1
        · exact ih (fun y hy => h y (by simp [hy])) hx
    exact key l h hx
  have hs := errOf_sound (nodes (listD l) 1) 0 (by omega) (by
    rw [hn]
    intro x hx
    rcases List.mem_cons.1 hx with rfl | hx
    · exact listD_proper l
    · obtain ⟨y, hy, rfl⟩ := List.mem_map.1 hx
      exact hp y hy)
  rw [← chk_err] at hs
  have hlen : (nodes (listD l) 1).length = 1 + cntL l := by rw [hn, List.length_cons, List.length_map, nodesL_len]; omega
  have hdeep : (∀ x ∈ nodes (listD l) 1, x.2 ≤ 64) ↔ maxD (nodesL l 1) < 64 := by
    rw [hn]
    constructor
    · intro hx
      have := maxD_le (nodesL l 1) 63 (fun y hy => by have := hx (up1 y) (List.mem_cons_of_mem _ (List.mem_map_of_mem hy)); simp only [up1] at this; omega)
      omega
    · intro hx y hy
      rcases List.mem_cons.1 hy with rfl | hy
      · show (1 : Nat) ≤ 64; omega
      · obtain ⟨z, hz, rfl⟩ := List.mem_map.1 hy
        have := maxD_mem _ z hz
        simp only [up1]; omega
  obtain ⟨hs1, hs2⟩ := hs
  rw [hlen, hdeep] at hs2
  refine ⟨fun hb => ?_, fun hb => ?_⟩
  · have hne : chk (listD l) ≠ 0 := fun e => by have := hs2.1 e; omega
    exact ⟨hs1.resolve_left hne, sizeD_bad hne⟩
  · have h0 : chk (listD l) = 0 := hs2.2 (by omega)
    obtain ⟨s1, s2, _⟩ := sizeD_ok h0
    refine ⟨h0, by rw [s1, h1, ← nodes_len _ 1, hlen]; omega, ?_⟩
    rw [s2, hn, h2, maxD_cons]
    by_cases he : nodesL l 1 = []
    · rw [he]; simp [maxD]
    · rw [maxD_up _ he]
      show ((max 1 (maxD (nodesL l 1) + 1) : Nat) : Int) = _
      omega
end Go.Proofs.Ytapnighankepjaa.Da
