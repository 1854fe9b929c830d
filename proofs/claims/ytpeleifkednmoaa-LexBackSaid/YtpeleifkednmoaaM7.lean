/- The document's walk: what lies in memory behind a part that is put behind the others. -/
import Derived.Test.YtpeleifkednmoaaM6
import Derived.Test.YtpeleifkednmoaaM2
import Derived.Deep.AppendLies
import Derived.Laws.OwnMore
import Derived.OneCell
section
namespace Go.Proofs.Ytpeleifkednmoaa.Da
open Go.ChangeShapes Go.WideShapes Go.ChangeAt Go.RowKit

theorem chk_iff (d : Dt) : chk d = 0 ↔ (∀ x ∈ nodes d 1, properB x.1 = true ∧ x.2 ≤ 64) ∧ cnt d ≤ 4096 := by
  constructor
  · intro h
    exact ⟨errOf_proper _ _ (chk_zero.1 h), chk_cnt h⟩
  · intro h
    have hs := errOf_sound (nodes d 1) 0 (by omega) (fun x hx => (h.1 x hx).1)
    exact chk_zero.2 (hs.2.2 ⟨by rw [nodes_len]; omega, fun x hx => (h.1 x hx).2⟩)
theorem nodesL_mem {l : List Dt} {x : Dt} {i : Nat} (hx : x ∈ l) : ∀ y ∈ nodes x i, y ∈ nodesL l i := by
  induction l with
  | nil => cases hx
  | cons d r ih =>
    intro y hy
    rw [nodesL_cons]
    rcases List.mem_cons.1 hx with rfl | hx
    · exact List.mem_append_left _ hy
    · exact List.mem_append_right _ (ih hx y hy)
theorem cntL_mem {l : List Dt} {x : Dt} (hx : x ∈ l) : cnt x ≤ cntL l := by
  induction l with
  | nil => cases hx
  | cons d r ih =>
    simp only [cntL]
    rcases List.mem_cons.1 hx with rfl | hx
    · omega
    · have := ih hx; omega
theorem chk_child {d x : Dt} (h : chk d = 0) (hx : x ∈ d.L ∨ x ∈ d.T) : chk x = 0 := by
  obtain ⟨h1, h2⟩ := (chk_iff d).1 h
  rw [cnt_eq] at h2
  refine (chk_iff x).2 ⟨fun y hy => ?_, ?_⟩
  · have hm : up1 y ∈ nodes d 1 := by
      rw [nodes_eq]
      have : up1 y ∈ nodes x 2 := by rw [nodes_up x 1]; exact List.mem_map_of_mem hy
      rcases hx with hx | hx
      · exact List.mem_cons_of_mem _ (List.mem_append_left _ (nodesL_mem hx _ this))
      · exact List.mem_cons_of_mem _ (List.mem_append_right _ (nodesL_mem hx _ this))
    have := h1 _ hm
    simp only [up1] at this
    exact ⟨this.1, by omega⟩
  · rcases hx with hx | hx
    · have := cntL_mem hx; omega
    · have := cntL_mem hx; omega
theorem chk_self {d : Dt} (h : chk d = 0) : properB d = true := ((chk_iff d).1 h).1 (d, 1) (by rw [nodes_eq]; exact List.mem_cons_self ..) |>.1
theorem chk_rest {d : Dt} (h : chk d = 0) (hp : properB (restD d) = true) : chk (restD d) = 0 := by
  obtain ⟨h1, h2⟩ := (chk_iff d).1 h
  rw [cnt_eq] at h2
  have ht : ∀ y ∈ nodesL d.L.tail 2, y ∈ nodesL d.L 2 := by
    cases d.L with
    | nil => intro y hy; exact hy
    | cons a r => intro y hy; rw [nodesL_cons]; exact List.mem_append_right _ hy
  have hc : cntL d.L.tail ≤ cntL d.L := by
    cases d.L with
    | nil => exact Nat.le_refl _
    | cons a r => show cntL r ≤ _; simp only [cntL]; omega
  refine (chk_iff _).2 ⟨fun y hy => ?_, ?_⟩
  · rw [nodes_eq] at hy
    rcases List.mem_cons.1 hy with rfl | hy
    · exact ⟨hp, by show (1 : Nat) ≤ 64; omega⟩
    · refine h1 y ?_
      rw [nodes_eq]
      refine List.mem_cons_of_mem _ ?_
      rcases List.mem_append.1 hy with hy | hy
      · exact List.mem_append_left _ (ht y hy)
      · exact List.mem_append_right _ hy
  · rw [cnt_eq]
    show 1 + (cntL d.L.tail + cntL d.T) ≤ 4096
    omega
theorem proper7 {n : Int} {s : ByteArray} {m : List Int} {l t : List Dt} (h : properB (.mk 7 n s m l t) = true) : n = 0 ∧ s = ⟨#[]⟩ ∧ m = [] ∧ 0 < l.length ∧ ∃ x, t = [x] ∧ x.K ≠ 6 ∧ x.K ≠ 7 := by
  simp only [properB, properOf, Dt.K, Dt.N, Dt.S, Dt.M, Dt.L, Dt.T] at h
  simp only [show ¬ (7 : Int) = 1 by decide, show ¬ (7 : Int) = 2 by decide, show ¬ (7 : Int) = 3 by decide, show ¬ (7 : Int) = 4 by decide, show ¬ (7 : Int) = 5 by decide, show ¬ (7 : Int) = 6 by decide, if_false, if_true, Bool.and_eq_true, beq_iff_eq, nil1, tailB, bne_iff_ne] at h
  obtain ⟨⟨⟨⟨h1', ⟨h2, h3⟩, h4⟩, h5⟩, h6⟩, h7⟩ := h
  have h1 := of_decide_eq_true h1'
  refine ⟨h5, ?_, List.eq_nil_of_length_eq_zero (by omega), by omega, ?_⟩
  · rw [ByteArray.toList_eq] at h6
    obtain ⟨s⟩ := s
    have : s.toList = [] := by simpa using h6
    have : s = #[] := by simpa using this
    rw [this]
  · match t, h2 with
    | [x], _ => exact ⟨x, rfl, h3, h4⟩
theorem halves_put {a d : Dt} (h : consE a d = 0) : chk a = 0 ∧ chk d = 0 ∧ pairE (consD a d) = 0 ∧ carD (consD a d) = a ∧ cdrD (consD a d) = d := by
  have ha : chk a = 0 := by
    by_cases h1 : chk a = 0
    · exact h1
    · unfold consE at h; rw [if_pos h1] at h; exact h
  have hd : chk d = 0 := by
    by_cases h1 : chk d = 0
    · exact h1
    · unfold consE at h; rw [if_neg (by simp [ha]), if_pos h1] at h; exact h
  have hp : chk (consD a d) = 0 := by
    unfold consE at h
    rw [if_neg (by simp [ha]), if_neg (by simp [hd])] at h
    exact h
  refine ⟨ha, hd, ?_⟩
  obtain ⟨k, n, s, m, l, t⟩ := d
  by_cases hk : k = 6 ∨ k = 7
  · have hcons : consD a (.mk k n s m l t) = .mk k n s m (a :: l) t := by unfold consD; exact if_pos hk
    rw [hcons] at hp ⊢
    refine ⟨?_, rfl, ?_⟩
    · unfold pairE
      rw [if_neg (by simp [hp]), if_neg]
      rintro (h1 | h1)
      · simp only [Dt.K] at h1; omega
      · cases h1
    · unfold cdrD
      rw [if_neg]
      · rfl
      · rintro ⟨h7, h1⟩
        simp only [Dt.K, Dt.L, List.length_cons] at h7 h1
        subst h7
        have := (proper7 (chk_self hd)).2.2.2.1
        omega
  · have hcons : consD a (.mk k n s m l t) = .mk 7 0 ⟨#[]⟩ [] [a] [.mk k n s m l t] := by unfold consD; exact if_neg hk
    rw [hcons] at hp ⊢
    refine ⟨?_, rfl, ?_⟩
    · unfold pairE
      rw [if_neg (by simp [hp]), if_neg]
      rintro (h1 | h1)
      · simp only [Dt.K] at h1; omega
      · cases h1
    · unfold cdrD
      rw [if_pos ⟨rfl, rfl⟩]
      rfl
theorem halves_take {d : Dt} (h : pairE d = 0) : consE (carD d) (cdrD d) = 0 ∧ consD (carD d) (cdrD d) = d ∧ (d.K = 7 → d.L.length = 1 → d.T[0]? = some (cdrD d)) := by
  obtain ⟨hc, hk, hl⟩ := pairE_zero h
  obtain ⟨k, n, s, m, l, t⟩ := d
  simp only [Dt.K, Dt.L, Dt.T] at hk hl ⊢
  cases l with
  | nil => exact absurd rfl hl
  | cons a r =>
    have hca : chk a = 0 := chk_child hc (.inl (List.mem_cons_self ..))
    have hcar : carD (.mk k n s m (a :: r) t) = a := rfl
    rw [hcar]
    by_cases h7 : k = 7 ∧ (a :: r).length = 1
    · obtain ⟨rfl, h1⟩ := h7
      obtain ⟨rfl, rfl, rfl, _, x, rfl, hx6, hx7⟩ := proper7 (chk_self hc)
      obtain rfl : r = [] := List.eq_nil_of_length_eq_zero (by simpa using h1)
      have hcdr : cdrD (.mk 7 0 ⟨#[]⟩ [] [a] [x]) = x := by unfold cdrD; rw [if_pos ⟨rfl, rfl⟩]; rfl
      have hcx : chk x = 0 := chk_child hc (.inr (List.mem_cons_self ..))
      have hcons : consD a x = .mk 7 0 ⟨#[]⟩ [] [a] [x] := by unfold consD; rw [if_neg (by rintro (h | h); exact hx6 h; exact hx7 h)]
      rw [hcdr, hcons]
      refine ⟨?_, rfl, fun _ _ => rfl⟩
      unfold consE
      rw [if_neg (by simp [hca]), if_neg (by simp [hcx]), hcons]
      exact hc
    · have hcdr : cdrD (.mk k n s m (a :: r) t) = .mk k n s m r t := by unfold cdrD; exact if_neg h7
      have hp : properB (.mk k n s m r t) = true := by
        have hpd := chk_self hc
        rcases hk with rfl | rfl
        · exact hpd
        · have hr : 0 < r.length := by
            cases r with
            | nil => exact absurd ⟨rfl, rfl⟩ h7
            | cons b q => simp
          simp only [properB, properOf, Dt.K, Dt.N, Dt.S, Dt.M, Dt.L, Dt.T] at hpd ⊢
          simp only [show ¬ (7 : Int) = 1 by decide, show ¬ (7 : Int) = 2 by decide, show ¬ (7 : Int) = 3 by decide, show ¬ (7 : Int) = 4 by decide, show ¬ (7 : Int) = 5 by decide, show ¬ (7 : Int) = 6 by decide, if_false, if_true, Bool.and_eq_true] at hpd ⊢
          exact ⟨⟨⟨⟨decide_eq_true (by omega), hpd.1.1.1.2⟩, hpd.1.1.2⟩, hpd.1.2⟩, hpd.2⟩
      have hcr : chk (.mk k n s m r t) = 0 := chk_rest hc hp
      have hcons : consD a (.mk k n s m r t) = .mk k n s m (a :: r) t := by unfold consD; exact if_pos hk
      rw [hcdr, hcons]
      refine ⟨?_, rfl, fun h1 h2 => absurd ⟨h1, h2⟩ h7⟩
      unfold consE
      rw [if_neg (by simp [hca]), if_neg (by simp [hcr]), hcons]
      exact hc
theorem TwoR.lo {w : World} {B : Nat} {er : Int} {d : Dt} {e : Ending} {w' : World} (h : TwoR w (Lo B) er d e w') (hB : B ≤ w.heap.size) :
    ∃ v', e = .returned (.tuple #[v', .int .i64 er]) ∧ Below w.heap.size w w' ∧ (er ≠ 0 → v' = zeroV) ∧ (er = 0 → IsDt w' (Lo w'.heap.size) d v') := by
  obtain ⟨v', he, hb, h1, h2⟩ := h
  refine ⟨v', he, hb, h1, fun h0 => (h2 h0).more fun b hq => ?_⟩
  have := hb.size
  rcases hq with h | ⟨h1, h2⟩
  · have h1 : b < B := h
    show b < w'.heap.size
    omega
  · exact h2
end Go.Proofs.Ytpeleifkednmoaa.Da
end
section
namespace Go.Proofs.Ytpeleifkednmoaa.Da
open Go.ChangeShapes Go.WideShapes Go.ChangeAt Go.RowKit

theorem IsDt.up {w w' : World} {d : Dt} {v : Value} (h : IsDt w (Lo w.heap.size) d v) (hb : Below w.heap.size w w') : IsDt w' (Lo w'.heap.size) d v :=
  (h.below hb).more fun b hq => by
    have h1 : b < w.heap.size := hq
    have := hb.size
    show b < w'.heap.size
    omega
end Go.Proofs.Ytpeleifkednmoaa.Da
end
section
namespace Go.Proofs.Ytpeleifkednmoaa.Da
open Go.ChangeShapes Go.WideShapes Go.ChangeAt Go.RowKit

/-- The parts so far, and what is wrong. -/
abbrev St := List (Dt × Nat) × Int
def goStep (st : St) (x : Dt × Nat) : St := if st.2 = 0 then (if mErr st.1.length x.1 x.2 = 0 then (st.1 ++ [x], 0) else (st.1, mErr st.1.length x.1 x.2)) else st
def goAll (st : St) (l : List (Dt × Nat)) : St := l.foldl goStep st
theorem goAll_bad {st : St} (h : st.2 ≠ 0) : ∀ l, goAll st l = st
  | [] => rfl
  | x :: r => by
    have e : goStep st x = st := by unfold goStep; rw [if_neg h]
    show goAll (goStep st x) r = st
    rw [e]; exact goAll_bad h r
theorem goAll_append (st : St) (a b : List (Dt × Nat)) : goAll st (a ++ b) = goAll (goAll st a) b := by simp [goAll]
theorem goAll_nodes (st : St) (d : Dt) (k : Nat) : goAll st (nodes d k) = goAll (goAll (goStep st (d, k)) (nodesL d.L (k + 1))) (nodesL d.T (k + 1)) := by
  rw [nodes_eq, ← goAll_append]; rfl
theorem goStep_len {st : St} {x : Dt × Nat} (h : st.1.length ≤ 4096) : (goStep st x).1.length ≤ 4096 := by
  unfold goStep
  by_cases h0 : st.2 = 0
  · rw [if_pos h0]
    by_cases hm : mErr st.1.length x.1 x.2 = 0
    · rw [if_pos hm]
      have := (mErr_zero hm).2.1
      simp only [List.length_append, List.length_cons, List.length_nil]
      omega
    · rw [if_neg hm]; exact h
  · rw [if_neg h0]; exact h
theorem goAll_len : ∀ (l : List (Dt × Nat)) (st : St), st.1.length ≤ 4096 → (goAll st l).1.length ≤ 4096
  | [], _, h => h
  | x :: r, st, h => goAll_len r (goStep st x) (goStep_len h)
theorem goAll_err : ∀ (l pre : List (Dt × Nat)), (goAll (pre, 0) l).2 = errOf pre.length l
  | [], _ => rfl
  | x :: r, pre => by
    show (goAll (goStep (pre, 0) x) r).2 = _
    by_cases hm : mErr pre.length x.1 x.2 = 0
    · have e : goStep (pre, 0) x = (pre ++ [x], 0) := by unfold goStep; rw [if_pos rfl]; show (if mErr pre.length x.1 x.2 = 0 then _ else _) = _; rw [if_pos hm]
      rw [e, goAll_err r]
      simp only [errOf, if_pos hm, List.length_append, List.length_cons, List.length_nil]
    · have e : goStep (pre, 0) x = (pre, mErr pre.length x.1 x.2) := by unfold goStep; rw [if_pos rfl]; show (if mErr pre.length x.1 x.2 = 0 then _ else _) = _; rw [if_neg hm]
      rw [e, goAll_bad (st := (pre, mErr pre.length x.1 x.2)) hm]
      simp only [errOf, if_neg hm]
theorem goAll_ok : ∀ (l pre : List (Dt × Nat)), errOf pre.length l = 0 → goAll (pre, 0) l = (pre ++ l, 0)
  | [], pre, _ => by simp [goAll]
  | x :: r, pre, h => by
    show goAll (goStep (pre, 0) x) r = _
    simp only [errOf] at h
    by_cases hm : mErr pre.length x.1 x.2 = 0
    · rw [if_pos hm] at h
      have e : goStep (pre, 0) x = (pre ++ [x], 0) := by unfold goStep; rw [if_pos rfl]; show (if mErr pre.length x.1 x.2 = 0 then _ else _) = _; rw [if_pos hm]
      rw [e, goAll_ok r _ (by simpa using h)]
      simp
    · rw [if_neg hm] at h
      exact absurd h hm
theorem goAll_chk (d : Dt) : (goAll ([], 0) (nodes d 1)).2 = chk d := by rw [goAll_err, chk_err]; rfl
theorem goAll_good {d : Dt} (h : chk d = 0) : goAll ([], 0) (nodes d 1) = (nodes d 1, 0) := by
  rw [goAll_ok _ _ (by rw [chk_err] at h; exact h)]; rfl
/-- The cells of parts. -/
def PartsIs (w : World) (B : Nat) (l : List (Dt × Nat)) (xs : List Value) : Prop :=
  ∀ i x, l[i]? = some x → ∃ x0 x1 x2 x3 x4 x5, xs[i * 6]? = some x0 ∧ xs[i * 6 + 1]? = some x1 ∧ xs[i * 6 + 2]? = some x2 ∧ xs[i * 6 + 3]? = some x3 ∧ xs[i * 6 + 4]? = some x4 ∧ xs[i * 6 + 5]? = some x5 ∧ IsDt w (Lo B) x.1 (.agg #[x0, x1, x2, x3, x4, x5])
theorem PartsIs.below {w w' : World} {B : Nat} {l : List (Dt × Nat)} {xs : List Value} (h : PartsIs w B l xs) (hb : Below B w w') : PartsIs w' B l xs := fun i x hx => by
  obtain ⟨x0, x1, x2, x3, x4, x5, h0, h1, h2, h3, h4, h5, hd⟩ := h i x hx
  exact ⟨x0, x1, x2, x3, x4, x5, h0, h1, h2, h3, h4, h5, hd.below hb⟩
theorem PartsIs.nil (w : World) (B : Nat) : PartsIs w B [] [] := fun i x hx => by simp at hx
theorem PartsIs.snoc {w : World} {B : Nat} {l : List (Dt × Nat)} {xs : List Value} {d : Dt} {k : Nat} {y0 y1 y2 y3 y4 y5 : Value} (h : PartsIs w B l xs) (hl : xs.length = l.length * 6) (hd : IsDt w (Lo B) d (.agg #[y0, y1, y2, y3, y4, y5])) :
    PartsIs w B (l ++ [(d, k)]) (xs ++ [y0, y1, y2, y3, y4, y5]) := fun i x hx => by
  by_cases hi : i < l.length
  · rw [List.getElem?_append_left hi] at hx
    obtain ⟨x0, x1, x2, x3, x4, x5, h0, h1, h2, h3, h4, h5, hd⟩ := h i x hx
    refine ⟨x0, x1, x2, x3, x4, x5, ?_, ?_, ?_, ?_, ?_, ?_, hd⟩ <;> rw [List.getElem?_append_left (by omega)] <;> assumption
  · have hi2 : i = l.length := by
      have := (List.getElem?_eq_some_iff.1 hx).1
      simp at this
      omega
    subst hi2
    rw [List.getElem?_append_right (Nat.le_refl _)] at hx
    simp at hx
    subst hx
    refine ⟨y0, y1, y2, y3, y4, y5, ?_, ?_, ?_, ?_, ?_, ?_, hd⟩
    · rw [List.getElem?_append_right (by omega), hl]; simp
    · rw [List.getElem?_append_right (by omega), hl]; simp
    · rw [List.getElem?_append_right (by omega), hl]; simp
    · rw [List.getElem?_append_right (by omega), hl]; simp
    · rw [List.getElem?_append_right (by omega), hl]; simp
    · rw [List.getElem?_append_right (by omega), hl]; simp
/-- The block of a slice. -/
def ob (a : Option Addr) : Option Nat := a.map (·.block)
theorem ob_slice (a : Option Addr) (n c : Nat) : (Value.slice a n c).ownBlock = ob a := by cases a <;> rfl
/-- The walk's block: the parts, how deep each stands, what is wrong. -/
structure Wk (w : World) (B b : Nat) (st : St) (pv dv : Option Addr) (pc dc : Nat) (xs : List Value) : Prop where
  hB : B ≤ b
  blk : Blk w b 64 #[.slice pv st.1.length pc, .slice dv st.1.length dc, .int .i64 st.2]
  own0 : w.ownsRow B 43 6 (.slice pv st.1.length pc) st.1.length xs
  own1 : w.ownsRow B 3 1 (.slice dv st.1.length dc) st.1.length (st.1.map fun x => .int .i64 (x.2 : Int))
  rows : PartsIs w B st.1 xs
  len : st.1.length ≤ 4096
theorem Blk.lt {w : World} {b : Nat} {t : TypeId} {c : Array Value} (h : Blk w b t c) : b < w.heap.size := (Array.getElem?_eq_some_iff.1 h).1
theorem row_ne {w : World} {b base size n : Nat} {t e : TypeId} {c : Array Value} {v : Value} {xs : List Value} (h : Blk w b t c) (hte : t ≠ e) (hr : w.ownsRow base e size v n xs) : some b ≠ v.ownBlock := by
  rcases hr.2 with ⟨rfl, _⟩ | ⟨g, cap, cur, rfl, _, hgb, _⟩
  · simp [Value.ownBlock]
  · intro e'
    obtain rfl : b = g := by simpa [Value.ownBlock] using e'
    have := (show w.heap[b]? = _ from h).symm.trans hgb
    simp at this
    exact hte this.2
/-- What the walk leaves of other blocks. -/
def WS (b : Nat) (pv dv : Option Addr) : Nat → Prop := fun i => i = b ∨ ob pv = some i ∨ ob dv = some i
theorem own_stay {w w' : World} {base : Nat} {e : TypeId} {size : Nat} {v : Value} {n : Nat} {xs : List Value} (h : w.ownsRow base e size v n xs) (hk : ∀ g, v.ownBlock = some g → g < w.heap.size → w'.heap[g]? = w.heap[g]?) : w'.ownsRow base e size v n xs := by
  obtain ⟨h1, h2⟩ := h
  refine ⟨h1, ?_⟩
  rcases h2 with h2 | ⟨g, cap, cur, rfl, b, c, d⟩
  · exact .inl h2
  · refine .inr ⟨g, cap, cur, rfl, b, (hk g rfl ?_).trans c, d⟩
    exact (Array.getElem?_eq_some_iff.1 c).1
/-- Behind something that turns none of the walk's blocks. -/
theorem Wk.keep {w w' : World} {B b : Nat} {st : St} {pv dv : Option Addr} {pc dc : Nat} {xs : List Value} (h : Wk w B b st pv dv pc dc xs) (hb : Below w.heap.size w w') : Wk w' B b st pv dv pc dc xs :=
  ⟨h.hB, (hb.block b h.blk.lt).trans h.blk, own_stay h.own0 fun g _ hg => hb.block g hg, own_stay h.own1 fun g _ hg => hb.block g hg, h.rows.below (hb.mono (by have := h.hB; have := h.blk.lt; omega)), h.len⟩
theorem Wk.bLt {w : World} {B b : Nat} {st : St} {pv dv : Option Addr} {pc dc : Nat} {xs : List Value} (h : Wk w B b st pv dv pc dc xs) : (∀ g, ob pv = some g → B ≤ g ∧ g < w.heap.size ∧ g ≠ b) ∧ (∀ g, ob dv = some g → B ≤ g ∧ g < w.heap.size ∧ g ≠ b) := by
  refine ⟨fun g hg => ?_, fun g hg => ?_⟩
  · have h1 := h.own0.lt g (by rw [ob_slice]; exact hg)
    exact ⟨h1.1, h1.2, fun e => row_ne h.blk (by decide) h.own0 (by rw [ob_slice, hg, e])⟩
  · have h1 := h.own1.lt g (by rw [ob_slice]; exact hg)
    exact ⟨h1.1, h1.2, fun e => row_ne h.blk (by decide) h.own1 (by rw [ob_slice, hg, e])⟩
/-- What a call of the walk leaves. -/
def GoR (B b : Nat) (st' : St) (pv dv : Option Addr) (w w' : World) : Prop :=
  ∃ pv' dv' pc' dc' xs', Wk w' B b st' pv' dv' pc' dc' xs' ∧ Fr (WS b pv dv) w w' ∧ (∀ g, ob pv' = some g → ob pv = some g ∨ w.heap.size ≤ g) ∧ (∀ g, ob dv' = some g → ob dv = some g ∨ w.heap.size ≤ g)
def GoP (B b : Nat) (st' : St) (pv dv : Option Addr) (w : World) (e : Ending) (w' : World) : Prop := e = .returned (.tuple #[]) ∧ GoR B b st' pv dv w w'
theorem GoR.trans {B b : Nat} {st2 : St} {pv dv pv1 dv1 : Option Addr} {w w1 w2 : World} (h1 : Fr (WS b pv dv) w w1) (hp : ∀ g, ob pv1 = some g → ob pv = some g ∨ w.heap.size ≤ g) (hd : ∀ g, ob dv1 = some g → ob dv = some g ∨ w.heap.size ≤ g) (h2 : GoR B b st2 pv1 dv1 w1 w2) : GoR B b st2 pv dv w w2 := by
  obtain ⟨pv2, dv2, pc2, dc2, xs2, hk, hf, q1, q2⟩ := h2
  refine ⟨pv2, dv2, pc2, dc2, xs2, hk, h1.trans' hf (fun i hi hlt => ?_), fun g hg => ?_, fun g hg => ?_⟩
  · rcases hi with rfl | hi | hi
    · exact .inl rfl
    · rcases hp i hi with h | h
      · exact .inr (.inl h)
      · omega
    · rcases hd i hi with h | h
      · exact .inr (.inr h)
      · omega
  · rcases q1 g hg with h | h
    · exact hp g h
    · have := h1.size; exact .inr (by omega)
  · rcases q2 g hg with h | h
    · exact hd g h
    · have := h1.size; exact .inr (by omega)
/-- The walk's third cell is set. -/
theorem Wk.setErr {w : World} {B b : Nat} {st : St} {pv dv : Option Addr} {pc dc : Nat} {xs : List Value} (h : Wk w B b st pv dv pc dc xs) (e : Int) : Wk (w.setCell ⟨b, 2, none⟩ (.int .i64 e)) B b (st.1, e) pv dv pc dc xs := by
  obtain ⟨n0, n1⟩ := h.bLt
  have hbl : ∀ k, k ≠ b → (w.setCell ⟨b, 2, none⟩ (.int .i64 e)).heap[k]? = w.heap[k]? := fun k hk => Below.heap_setCell _ _ _ _ (by simpa using hk)
  refine ⟨h.hB, ?_, own_stay h.own0 fun g hg _ => hbl g ?_, own_stay h.own1 fun g hg _ => hbl g ?_, h.rows.below ((Below.refl B w).setCell (p := ⟨b, 2, none⟩) h.hB _), h.len⟩
  · exact (heap_setCell_same w b 2 _ _ _ h.blk).trans rfl
  · rw [ob_slice] at hg; exact (n0 g hg).2.2
  · rw [ob_slice] at hg; exact (n1 g hg).2.2
end Go.Proofs.Ytpeleifkednmoaa.Da
end
section
namespace Go.Proofs.Ytpeleifkednmoaa.Da
open Go.ChangeShapes Go.WideShapes Go.ChangeAt Go.RowKit

theorem set6_list (xs : List Value) (n : Nat) (h : xs.length = n * 6) (z0 z1 z2 z3 z4 z5 y0 y1 y2 y3 y4 y5 : Value) :
    ((((((xs ++ [z0, z1, z2, z3, z4, z5]).set (n * 6) y0).set (n * 6 + 1) y1).set (n * 6 + 2) y2).set (n * 6 + 3) y3).set (n * 6 + 4) y4).set (n * 6 + 5) y5 = xs ++ [y0, y1, y2, y3, y4, y5] := by
  rw [← h]
  simp
theorem set6_own {w : World} {base g cap n m : Nat} {xs : List Value} (h : w.ownsRow base 43 6 (.slice (some ⟨g, 0, none⟩) m cap) m xs) (y0 y1 y2 y3 y4 y5 : Value) :
    (set6 w g n y0 y1 y2 y3 y4 y5).ownsRow base 43 6 (.slice (some ⟨g, 0, none⟩) m cap) m ((((((xs.set n y0).set (n + 1) y1).set (n + 2) y2).set (n + 3) y3).set (n + 4) y4).set (n + 5) y5) := by
  unfold set6
  exact ((((((h.stored n y0).1.stored (n + 1) y1).1.stored (n + 2) y2).1.stored (n + 3) y3).1.stored (n + 4) y4).1.stored (n + 5) y5).1
theorem blk_set {w : World} {b : Nat} {t : TypeId} {c : Array Value} (h : Blk w b t c) (o : Nat) (u : Value) : Blk (w.setCell ⟨b, o, none⟩ u) b t (c.setIfInBounds o u) := heap_setCell_same w b o c t u h
/-- What lies behind the first append: the part's cells in the row, the row in the walk's block. -/
structure Mid (w W : World) (B b n g cap : Nat) (pre : List (Dt × Nat)) (pv dv : Option Addr) (dc : Nat) (q : Nat) (cs : Array Value) (ys : List Value) : Prop where
  blk : Blk W b 64 #[.slice (some ⟨g, 0, none⟩) (n + 1) cap, .slice dv n dc, .int .i64 0]
  own0 : W.ownsRow B 43 6 (.slice (some ⟨g, 0, none⟩) (n + 1) cap) (n + 1) ys
  own1 : W.ownsRow B 3 1 (.slice dv n dc) n (pre.map fun x => .int .i64 (x.2 : Int))
  prm : Blk W q 43 cs
  fr : Fr (WS b pv dv) w W
  at_ : ob pv = some g ∨ q < g
  gq : g ≠ q
theorem mid_of {w w2 : World} {B b n g cap : Nat} {pre : List (Dt × Nat)} {pv dv : Option Addr} {pc dc : Nat} {xs : List Value} {q : Nat} {cs : Array Value} {X : World} {z0 z1 z2 z3 z4 z5 : Value} (y0 y1 y2 y3 y4 y5 : Value)
    (hn : pre.length = n) (hk : Wk w B b (pre, 0) pv dv pc dc xs) (hq : q = w.heap.size) (hX : Below w.heap.size w X) (hqX : q + 1 < X.heap.size) (hcs : Blk X q 43 cs)
    (hown : w2.ownsRow B 43 6 (.slice (some ⟨g, 0, none⟩) (n + 1) cap) (n + 1) (xs ++ [z0, z1, z2, z3, z4, z5])) (hg : X.grownBy w2 (ob pv)) (hat : ob pv = some g ∨ g = X.heap.size) :
    Mid w ((set6 w2 g (n * 6) y0 y1 y2 y3 y4 y5).setCell ⟨b, 0, none⟩ (.slice (some ⟨g, 0, none⟩) (n + 1) cap)) B b n g cap pre pv dv dc q cs (xs ++ [y0, y1, y2, y3, y4, y5]) := by
  subst hn hq
  obtain ⟨n0, n1⟩ := hk.bLt
  have hbw := hk.blk.lt
  have hxl : xs.length = pre.length * 6 := hk.own0.1
  have hbX : Blk X b 64 _ := (hX.block b hbw).trans hk.blk
  have hb2 : Blk w2 b 64 #[.slice pv pre.length pc, .slice dv pre.length dc, .int .i64 0] := (hg.block b (Nat.lt_of_lt_of_le hbw hX.size) (fun e => (n0 b e.symm).2.2 rfl)).trans hbX
  have hgb : g ≠ b := fun e => by
    subst e
    exact row_ne hb2 (by decide) hown rfl
  have f6 := set6_fr w2 g (pre.length * 6) y0 y1 y2 y3 y4 y5
  have s6 := set6_size w2 g (pre.length * 6) y0 y1 y2 y3 y4 y5
  have o6 := set6_own (n := pre.length * 6) hown y0 y1 y2 y3 y4 y5
  rw [set6_list xs pre.length hxl] at o6
  generalize set6 w2 g (pre.length * 6) y0 y1 y2 y3 y4 y5 = W6 at *
  have hs2 := hg.size
  have hsX := hX.size
  have hb6 : Blk W6 b 64 #[.slice pv pre.length pc, .slice dv pre.length dc, .int .i64 0] := (f6.block b (by omega) (fun e => hgb e.symm)).trans hb2
  have hgq : g ≠ w.heap.size := by
    rcases hat with h | h
    · have := (n0 g h).2.1; omega
    · omega
  refine ⟨(blk_set hb6 0 _).trans rfl, ?_, ?_, ?_, ?_, ?_, hgq⟩
  · exact ownsRow_setCell_other o6 (by simpa [Value.ownBlock] using hgb) _
  · have hd2 : w2.ownsRow B 3 1 (.slice dv pre.length dc) pre.length (pre.map fun x => .int .i64 (x.2 : Int)) := own_stay hk.own1 fun i hi hlt => by
      rw [ob_slice] at hi
      refine (hg.block i (by omega) (fun e => ?_)).trans (hX.block i hlt)
      have h1 := hk.own0
      rcases h1.2 with ⟨hv, _⟩ | ⟨g0, cap0, cur0, hv, _, hc0, _⟩
      · simp at hv
        rw [hv.1] at e
        cases e
      · simp only [Value.slice.injEq] at hv
        rw [hv.1] at e
        have e1 : i = g0 := by simpa [ob] using e
        subst e1
        rcases hk.own1.2 with ⟨hv2, _⟩ | ⟨g3, cap3, cur3, hv2, _, hc3, _⟩
        · simp at hv2
          rw [hv2.1] at hi
          cases hi
        · simp only [Value.slice.injEq] at hv2
          rw [hv2.1] at hi
          have e3 : g3 = i := by simpa [ob] using hi
          subst e3
          rw [hc0] at hc3
          simp at hc3
    have hd6 : W6.ownsRow B 3 1 (.slice dv pre.length dc) pre.length (pre.map fun x => .int .i64 (x.2 : Int)) := own_stay hd2 fun i hi hlt => f6.block i hlt (fun e => by
      subst e
      rcases hown.2 with ⟨hv, _⟩ | ⟨g0, cap0, cur0, hv, _, hc0, _⟩
      · simp at hv
      · simp only [Value.slice.injEq, Option.some.injEq, Addr.mk.injEq, and_true, true_and] at hv
        obtain ⟨rfl, rfl⟩ := hv
        rcases hd2.2 with ⟨hv2, _⟩ | ⟨g3, cap3, cur3, hv2, _, hc3, _⟩
        · rw [hv2] at hi; cases hi
        · rw [hv2] at hi
          have e3 : g3 = i := by simpa [Value.ownBlock] using hi
          subst e3
          rw [hc0] at hc3
          simp at hc3)
    exact ownsRow_setCell_other hd6 (by rw [ob_slice]; exact fun e => (n1 b e).2.2 rfl) _
  · have p2 : Blk w2 w.heap.size 43 cs := (hg.block _ (by omega) (fun e => by have := (n0 _ e.symm).2.1; omega)).trans hcs
    have p6 : Blk W6 w.heap.size 43 cs := (f6.block _ (by omega) (fun e => hgq e.symm)).trans p2
    exact (Below.heap_setCell _ _ _ _ (by show w.heap.size ≠ b; omega)).trans p6
  · have f1 : Fr (WS b pv dv) w X := Fr.of_bel hX _
    have f2 : Fr (WS b pv dv) w w2 := ⟨hg.os.trans hX.os, hg.tape.trans hX.tape, hg.output.trans hX.output, by omega, fun i hi hs => (hg.block i (by omega) (fun e => hs (.inr (.inl e.symm)))).trans (hX.block i hi)⟩
    have f3 : Fr (WS b pv dv) w W6 := f2.trans' f6 (fun i hi hlt => by
      subst hi
      rcases hat with h | h
      · exact .inr (.inl h)
      · omega)
    exact f3.setCell (.inl (.inl rfl)) _
  · rcases hat with h | h
    · exact .inl h
    · exact .inr (by omega)
/-- What lies behind the second append. -/
theorem wk_of {w Wf W4 : World} {B b n g cap g2 cap2 k : Nat} {pre : List (Dt × Nat)} {pv dv : Option Addr} {pc dc : Nat} {xs : List Value} {d : Dt} {q : Nat} {cs : Array Value} {y0 y1 y2 y3 y4 y5 : Value} {X : World}
    (hn : pre.length = n) (h4096 : n + 1 ≤ 4096) (hk : Wk w B b (pre, 0) pv dv pc dc xs) (hq : q = w.heap.size) (hm : Mid w Wf B b n g cap pre pv dv dc q cs (xs ++ [y0, y1, y2, y3, y4, y5])) (hd : IsDt w (Lo B) d (.agg #[y0, y1, y2, y3, y4, y5])) (hX : Below Wf.heap.size Wf X) (hXs : X.heap.size = Wf.heap.size + 1)
    (hown : W4.ownsRow B 3 1 (.slice (some ⟨g2, 0, none⟩) (n + 1) cap2) (n + 1) (pre.map (fun x => .int .i64 (x.2 : Int)) ++ [.int .i64 (k : Int)])) (hg : X.grownBy W4 (ob dv)) (hat : ob dv = some g2 ∨ g2 = X.heap.size) :
    ∃ W5, W4.setCell ⟨b, 1, none⟩ (.slice (some ⟨g2, 0, none⟩) (n + 1) cap2) = W5 ∧ Wk W5 B b (pre ++ [(d, k)], 0) (some ⟨g, 0, none⟩) (some ⟨g2, 0, none⟩) cap cap2 (xs ++ [y0, y1, y2, y3, y4, y5]) ∧ Fr (WS b pv dv) w W5 ∧ Blk W5 q 43 cs ∧ q < W5.heap.size ∧ ¬ WS b (some ⟨g, 0, none⟩) (some ⟨g2, 0, none⟩) q ∧
      (∀ i, ob (some ⟨g, 0, none⟩) = some i → ob pv = some i ∨ w.heap.size ≤ i) ∧ (∀ i, ob (some ⟨g2, 0, none⟩) = some i → ob dv = some i ∨ w.heap.size ≤ i) := by
  subst hn hq
  obtain ⟨n0, n1⟩ := hk.bLt
  have hbw := hk.blk.lt
  have hBw := hk.hB
  have hbF := hm.blk.lt
  have hsX := hX.size
  have hs4 := hg.size
  have hsF := hm.fr.size
  have hbX : Blk X b 64 _ := (hX.block b hbF).trans hm.blk
  have hb4 : Blk W4 b 64 #[.slice (some ⟨g, 0, none⟩) (pre.length + 1) cap, .slice dv pre.length dc, .int .i64 0] := (hg.block b (by omega) (fun e => (n1 b e.symm).2.2 rfl)).trans hbX
  have hgb : g2 ≠ b := fun e => by
    subst e
    exact row_ne hb4 (by decide) hown rfl
  have hqF := hm.prm.lt
  have hq2 : g2 ≠ w.heap.size := by
    rcases hat with h | h
    · have := (n1 g2 h).2.1; omega
    · omega
  have f2 : Fr (WS b pv dv) w W4 := (hm.fr.trans (Fr.of_bel hX _)).trans' (T := fun i => ob dv = some i) ⟨hg.os, hg.tape, hg.output, hg.size, fun i hi hs => hg.block i hi (fun e => hs e.symm)⟩ (fun i hi _ => .inr (.inr hi))
  have o4 : W4.ownsRow B 43 6 (.slice (some ⟨g, 0, none⟩) (pre.length + 1) cap) (pre.length + 1) (xs ++ [y0, y1, y2, y3, y4, y5]) := own_stay hm.own0 fun i hi hlt => by
    refine (hg.block i (by omega) (fun e => ?_)).trans (hX.block i hlt)
    obtain rfl : g = i := by simpa [Value.ownBlock] using hi
    rcases hm.own0.2 with ⟨hv, _⟩ | ⟨g0, cap0, cur0, hv, _, hc0, _⟩
    · simp at hv
    · simp only [Value.slice.injEq, Option.some.injEq, Addr.mk.injEq, and_true, true_and] at hv
      obtain ⟨rfl, rfl⟩ := hv
      rcases hm.own1.2 with ⟨hv2, _⟩ | ⟨g3, cap3, cur3, hv2, _, hc3, _⟩
      · simp at hv2
        rw [hv2.1] at e
        cases e
      · simp only [Value.slice.injEq] at hv2
        rw [hv2.1] at e
        have e3 : g = g3 := by simpa [ob] using e
        subst e3
        rw [hc0] at hc3
        simp at hc3
  have hmap : (pre ++ [(d, k)]).map (fun x => Value.int .i64 (x.2 : Int)) = pre.map (fun x => .int .i64 (x.2 : Int)) ++ [.int .i64 (k : Int)] := by simp
  have hlen : (pre ++ [(d, k)]).length = pre.length + 1 := by simp
  refine ⟨_, rfl, ⟨hBw, ?_, ?_, ?_, ?_, ?_⟩, ?_, ?_, ?_, ?_, ?_, ?_⟩
  · rw [hlen]; exact (blk_set hb4 1 _).trans rfl
  · rw [hlen]; exact ownsRow_setCell_other o4 (by rw [ob_slice]; intro e; have e2 : g = b := by simpa [ob] using e
                                                  subst e2
                                                  exact row_ne hb4 (by decide) o4 rfl) _
  · rw [hlen, hmap]; exact ownsRow_setCell_other hown (by simpa [Value.ownBlock] using hgb) _
  · have hbel : Below B w (W4.setCell ⟨b, 1, none⟩ (.slice (some ⟨g2, 0, none⟩) (pre.length + 1) cap2)) := (f2.setCell (p := ⟨b, 1, none⟩) (.inl (.inl rfl)) _).below (by omega) (fun i hi hs => by
      rcases hs with rfl | h | h
      · omega
      · have := (n0 i h).1; omega
      · have := (n1 i h).1; omega)
    exact (hk.rows.below hbel).snoc hk.own0.1 (hd.below hbel)
  · rw [hlen]; omega
  · exact f2.setCell (.inl (.inl rfl)) _
  · refine (Below.heap_setCell _ _ _ _ (by show w.heap.size ≠ b; omega)).trans ?_
    exact (hg.block _ (by omega) (fun e => by have := (n1 _ e.symm).2.1; omega)).trans ((hX.block _ hqF).trans hm.prm)
  · simp only [World.setCell, Array.size_modify]; omega
  · rintro (h | h | h)
    · omega
    · simp [ob] at h; exact hm.gq h
    · simp [ob] at h; exact hq2 h
  · intro i hi
    obtain rfl : g = i := by simpa [ob] using hi
    rcases hm.at_ with h | h
    · exact .inl h
    · exact .inr (by omega)
  · intro i hi
    obtain rfl : g2 = i := by simpa [ob] using hi
    rcases hat with h | h
    · exact .inl h
    · exact .inr (by omega)
end Go.Proofs.Ytpeleifkednmoaa.Da
end
