/- Two data put together: what is reckoned without a walk. -/
import Derived.Test.YtapnighankepjaaDatConcat
namespace Go.Proofs.Ytapnighankepjaa.Da
open Go.ChangeShapes Go.WideShapes Go.ChangeAt Go.RowKit

/-- Several new blocks, one behind the other. -/
def allocs (w : World) (l : List (Array Value × TypeId)) : World := l.foldl (fun w x => w.alloc (.cells x.1 x.2)) w
theorem start_allocs : ∀ (l : List (Array Value × TypeId)) (w : World), Below w.heap.size w (allocs w l) ∧ (allocs w l).heap.size = w.heap.size + l.length ∧ ∀ i x, l[i]? = some x → Blk (allocs w l) (w.heap.size + i) x.2 x.1
  | [], w => ⟨Below.refl _ _, rfl, fun i x h => by simp at h⟩
  | y :: r, w => by
    obtain ⟨h1, h2, h3⟩ := start_allocs r (w.alloc (.cells y.1 y.2))
    have hs : (w.alloc (.cells y.1 y.2)).heap.size = w.heap.size + 1 := by simp
    refine ⟨bel_trans (bel_alloc _ _) h1, by show (allocs _ r).heap.size = _; rw [h2, hs, List.length_cons]; omega, fun i x hx => ?_⟩
    cases i with
    | zero =>
      obtain rfl : y = x := by simpa using hx
      exact (h1.block _ (by rw [hs]; omega)).trans (heap_alloc_new w _)
    | succ i =>
      have := h3 i x (by simpa using hx)
      rw [hs] at this
      rwa [show w.heap.size + 1 + i = w.heap.size + (i + 1) by omega] at this
def consD (a d : Dt) : Dt := if d.K = 6 ∨ d.K = 7 then .mk d.K d.N d.S d.M (a :: d.L) d.T else .mk 7 0 ⟨#[]⟩ [] [a] [d]
def consE (a d : Dt) : Int := if chk a ≠ 0 then chk a else if chk d ≠ 0 then chk d else chk (consD a d)
theorem errOf_len : ∀ (l : List (Dt × Nat)) (c : Nat), c ≤ 4096 → errOf c l = 0 → c + l.length ≤ 4096
  | [], c, hc, _ => by simpa using hc
  | x :: r, c, hc, h => by
    simp only [errOf] at h
    by_cases hx : mErr c x.1 x.2 = 0
    · rw [if_pos hx] at h
      have h1 := (mErr_zero hx).2.1
      have := errOf_len r (c + 1) (by omega) h
      rw [List.length_cons]
      omega
    · rw [if_neg hx] at h
      exact absurd h hx
theorem chk_zero {d : Dt} : chk d = 0 ↔ errOf 0 (nodes d 1) = 0 := by
  unfold chk meas
  by_cases h : errOf 0 (nodes d 1) = 0
  · simp [h]
  · simp [h]
theorem chk_cnt {d : Dt} (h : chk d = 0) : cnt d ≤ 4096 := by
  have := errOf_len (nodes d 1) 0 (by omega) (chk_zero.1 h)
  rw [nodes_len] at this
  omega
/-- What comes back of a copy that owns its memory. -/
theorem two_own {w w2 : World} {Q : Nat → Prop} {b : Nat} {d : Dt} {v : Value} {lo hi : Nat} {y0 y1 y2 y3 y4 y5 : Value} (hb0 : w.heap.size ≤ b) (hb1 : b < lo) (hw2 : Below w.heap.size w w2) (hhi : hi ≤ w2.heap.size) (ho : OwnDt w2 d lo hi v) :
    TwoR w Q 0 d (.returned (.tuple #[v, .int .i64 0])) (set6 w2 b 0 y0 y1 y2 y3 y4 y5) := by
  have f6 := set6_fr w2 b 0 y0 y1 y2 y3 y4 y5
  have s6 := set6_size w2 b 0 y0 y1 y2 y3 y4 y5
  generalize set6 w2 b 0 y0 y1 y2 y3 y4 y5 = Wf at *
  have s2 := hw2.size
  refine ⟨v, rfl, hw2.trans (f6.below s2 (fun i hi h => by omega)), fun h => absurd rfl h, fun _ => ?_⟩
  have hh : ∀ c, Rg lo hi c → lo ≤ c ∧ c < hi := fun c h => h
  refine IsDt.keep (fun c hc => .inr ⟨by have := hh c hc; omega, by have := hh c hc; omega⟩) (fun c o hc => ?_) d v (ho.isDt d lo _ v)
  have := hh c hc
  exact f6.cell (p := ⟨c, o, none⟩) (by show c < w2.heap.size; omega) (by show ¬ c = b; omega)
/-- A slice of one datum in a block of its own. -/
theorem one_dts {w : World} {Q : Nat → Prop} {d : Dt} {x0 x1 x2 x3 x4 x5 : Value} {b : Nat} (hb : Q b) (h : Blk w b 33 #[x0, x1, x2, x3, x4, x5]) (hd : IsDt w Q d (.agg #[x0, x1, x2, x3, x4, x5])) : IsDts w Q (some ⟨b, 0, none⟩) 0 [d] := by
  simp only [IsDts]
  exact ⟨⟨b, 0, x0, x1, x2, x3, x4, x5, rfl, hb, ⟨(h.cell 0).trans rfl, (h.cell 1).trans rfl, (h.cell 2).trans rfl, (h.cell 3).trans rfl, (h.cell 4).trans rfl, (h.cell 5).trans rfl⟩, hd⟩, trivial⟩
theorem one_sl (b : Nat) : IsSl (some ⟨b, 0, none⟩) 1 1 := ⟨Nat.le_refl _, by simp [maxLen], by omega, fun h => by cases h⟩
/-- Two data put together as an improper list. -/
theorem dot_isDt {w : World} {Q : Nat → Prop} {a d : Dt} {ba bd : Nat} (h1 : IsDts w Q (some ⟨ba, 0, none⟩) 0 [a]) (h2 : IsDts w Q (some ⟨bd, 0, none⟩) 0 [d]) :
    IsDt w Q (.mk 7 0 ⟨#[]⟩ [] [a] [d]) (.agg #[.int .i64 7, .int .i64 0, .string ⟨#[]⟩, .slice none 0 0, .slice (some ⟨ba, 0, none⟩) 1 1, .slice (some ⟨bd, 0, none⟩) 1 1]) := by
  simp only [IsDt]
  exact ⟨rfl, rfl, by show (0 : Nat) ≤ _; exact Nat.zero_le _, none, 0, _, 1, _, 1, rfl, ⟨rfl, Nat.le_refl _, by simp [maxLen], by simp, fun _ => rfl, by simp, fun k hk => absurd hk (Nat.not_lt_zero _)⟩, one_sl ba, h1, one_sl bd, h2⟩
/-- The cells of some data in a row, one behind the other. -/
theorem dts_cells {w : World} {Q : Nat → Prop} {ad : Addr} {l : List Dt} (h : IsDts w Q (some ad) 0 l) : ∃ news : List Value, news.length = l.length * 6 ∧ (∀ j u, news[j]? = some u → w.cell? (ad.add j) = some u) ∧ (∀ u ∈ news, u.oneCell' = true) := by
  have hc := src_cells h
  refine ⟨(List.range (l.length * 6)).map fun j => (w.cell? (ad.add j)).getD undef, by simp, fun j u hu => ?_, fun u hu => ?_⟩
  · simp only [List.getElem?_map, Option.map_eq_some_iff] at hu
    obtain ⟨x, hx, hu⟩ := hu
    obtain ⟨hj, hx⟩ := List.getElem?_eq_some_iff.1 hx
    rw [List.getElem_range] at hx
    subst hx
    rw [List.length_range] at hj
    obtain ⟨y, hy, _⟩ := hc j hj
    rw [hy] at hu
    rw [hy, ← hu]
    rfl
  · simp only [List.mem_map, List.mem_range] at hu
    obtain ⟨j, hj, hu⟩ := hu
    obtain ⟨y, hy, hy1⟩ := hc j hj
    rw [hy] at hu
    rw [← hu]
    exact hy1
/-- A row that holds a datum's cells, and those of some more behind it. -/
theorem cat_dts {w : World} {Q : Nat → Prop} {g : Nat} {a1 : Option Addr} {a : Dt} {l : List Dt} {x0 x1 x2 x3 x4 x5 : Value} {news1 : List Value} (hg : Q g) (ha : IsDt w Q a (.agg #[x0, x1, x2, x3, x4, x5])) (hl : IsDts w Q a1 0 l)
    (h1 : ∀ ad, a1 = some ad → ∀ j, j < l.length * 6 → ∃ u, news1[j]? = some u ∧ w.cell? (ad.add j) = some u) (hc : ∀ j, j < (1 + l.length) * 6 → w.cell? ⟨g, j, none⟩ = ([x0, x1, x2, x3, x4, x5] ++ news1)[j]?) : IsDts w Q (some ⟨g, 0, none⟩) 0 (a :: l) := by
  refine IsDts.of_at (fun k d hd => ?_)
  rw [Nat.zero_add]
  cases k with
  | zero =>
    obtain rfl : a = d := by simpa using hd
    exact ⟨g, 0, x0, x1, x2, x3, x4, x5, rfl, hg, ⟨(hc 0 (by omega)).trans rfl, (hc 1 (by omega)).trans rfl, (hc 2 (by omega)).trans rfl, (hc 3 (by omega)).trans rfl, (hc 4 (by omega)).trans rfl, (hc 5 (by omega)).trans rfl⟩, ha⟩
  | succ k =>
    have hd' : l[k]? = some d := by simpa using hd
    have hk : k < l.length := (List.getElem?_eq_some_iff.1 hd').1
    obtain ⟨b, off, y0, y1, y2, y3, y4, y5, he, hb, ⟨e0, e1, e2, e3, e4, e5⟩, hi⟩ := hl.at_ k d hd'
    rw [Nat.zero_add] at e0 e1 e2 e3 e4 e5
    have key : ∀ r u, r < 6 → w.cell? ⟨b, off + k * 6 + r, none⟩ = some u → w.cell? ⟨g, (k + 1) * 6 + r, none⟩ = some u := fun r u hr hu => by
      obtain ⟨u', hu1, hu2⟩ := h1 _ he (k * 6 + r) (by omega)
      rw [add_plain, ← Nat.add_assoc, hu] at hu2
      rw [hc _ (by omega), show (k + 1) * 6 + r = 6 + (k * 6 + r) by omega, List.getElem?_append_right (by simp)]
      simpa [hu1] using hu2.symm
    refine ⟨g, 0, y0, y1, y2, y3, y4, y5, rfl, hg, ?_, hi⟩
    rw [Nat.zero_add]
    exact ⟨key 0 _ (by omega) e0, key 1 _ (by omega) e1, key 2 _ (by omega) e2, key 3 _ (by omega) e3, key 4 _ (by omega) e4, key 5 _ (by omega) e5⟩
theorem len_le_cntL : ∀ l : List Dt, l.length ≤ cntL l
  | [] => by simp [cntL]
  | d :: r => by
    have := len_le_cntL r
    have h : 0 < cnt d := by rw [cnt_eq]; omega
    simp only [cntL, List.length_cons]
    omega
theorem len_le {d : Dt} (h : chk d = 0) : d.L.length ≤ 4096 := by
  have h1 := chk_cnt h
  have h2 := len_le_cntL d.L
  rw [cnt_eq] at h1
  omega
/-- One more ahead of a list's elements. -/
theorem more_isDt {w : World} {Q : Nat → Prop} {a d : Dt} {am at_ : Option Addr} {cm cl ct g cap : Nat} {al : Option Addr} (h : IsDt w Q d (.agg #[.int .i64 d.K, .int .i64 d.N, .string d.S, .slice am d.M.length cm, .slice al d.L.length cl, .slice at_ d.T.length ct])) (hn : d.L.length ≤ 4096) (hc : 1 + d.L.length ≤ cap) (hm : cap ≤ maxLen) (hs : IsDts w Q (some ⟨g, 0, none⟩) 0 (a :: d.L)) :
    IsDt w Q (.mk d.K d.N d.S d.M (a :: d.L) d.T) (.agg #[.int .i64 d.K, .int .i64 d.N, .string d.S, .slice am d.M.length cm, .slice (some ⟨g, 0, none⟩) (1 + d.L.length) cap, .slice at_ d.T.length ct]) := by
  obtain ⟨k, n, s, m, l, t⟩ := d
  simp only [IsDt, Dt.K, Dt.N, Dt.S, Dt.M, Dt.L, Dt.T] at h hs hn hc ⊢
  obtain ⟨h1, h2, h3, am', cm', al', cl', at', ct', hv, hmm, hl, hls, ht, hts⟩ := h
  injection hv with hv
  simp only [Array.mk.injEq, List.cons.injEq, and_true, true_and, Value.slice.injEq] at hv
  obtain ⟨⟨rfl, rfl⟩, ⟨rfl, rfl⟩, rfl, rfl⟩ := hv
  exact ⟨h1, h2, h3, am, cm, some ⟨g, 0, none⟩, cap, at_, ct, by rw [List.length_cons, Nat.add_comm], hmm, ⟨by rw [List.length_cons]; omega, hm, by rw [List.length_cons]; omega, fun h => by cases h⟩, hs, ht, hts⟩
/-- The row that a list's elements lie in with one more ahead of them. -/
theorem cons_row {w Y w4 : World} {B P g cap2 : Nat} {a d : Dt} {am' al' at' : Option Addr} {cm' cl' ct' : Nat} {y0 y1 y2 y3 y4 y5 : Value} {news1 : List Value} (hB : B ≤ w.heap.size) (ha : IsDt w (Lo B) a (.agg #[y0, y1, y2, y3, y4, y5]))
    (hd : IsDt w (Lo B) d (.agg #[.int .i64 d.K, .int .i64 d.N, .string d.S, .slice am' d.M.length cm', .slice al' d.L.length cl', .slice at' d.T.length ct'])) (hY : Below w.heap.size w Y) (hls : IsDts Y (Lo B) al' 0 d.L)
    (hn : news1.length = d.L.length * 6 ∧ (∀ ad, al' = some ad → ∀ j u, news1[j]? = some u → Y.cell? (ad.add j) = some u) ∧ d.L.length ≤ 4096)
    (hg : Y.heap.size ≤ g ∧ g < w4.heap.size ∧ 1 + d.L.length ≤ cap2 ∧ cap2 ≤ maxLen ∧ ∀ j, j < (1 + d.L.length) * 6 → w4.cell? ⟨g, j, none⟩ = ([y0, y1, y2, y3, y4, y5] ++ news1)[j]?) (hb4 : Below Y.heap.size Y w4) (hP : w.heap.size ≤ P) (hPY : P < Y.heap.size) (x : Value) :
    Below w.heap.size w (w4.setCell ⟨P, 4, none⟩ x) ∧ (w4.setCell ⟨P, 4, none⟩ x).heap.size = w4.heap.size ∧
      IsDt (w4.setCell ⟨P, 4, none⟩ x) (Lo (w4.setCell ⟨P, 4, none⟩ x).heap.size) (.mk d.K d.N d.S d.M (a :: d.L) d.T) (.agg #[.int .i64 d.K, .int .i64 d.N, .string d.S, .slice am' d.M.length cm', .slice (some ⟨g, 0, none⟩) (1 + d.L.length) cap2, .slice at' d.T.length ct']) := by
  obtain ⟨hg1, hg2, hg3, hg4, hg5⟩ := hg
  obtain ⟨hn1, hn2, hn3⟩ := hn
  have fX : Fr (fun i => i = P) w4 (w4.setCell ⟨P, 4, none⟩ x) := (Fr.refl (fun i => i = P) w4).setCell (p := ⟨P, 4, none⟩) (.inl rfl) _
  have sX : (w4.setCell ⟨P, 4, none⟩ x).heap.size = w4.heap.size := by simp [World.setCell]
  have c5 : ∀ j, (w4.setCell ⟨P, 4, none⟩ x).cell? ⟨g, j, none⟩ = w4.cell? ⟨g, j, none⟩ := fun j => set_ne _ _ _ _ _ _ (.inl (by omega))
  generalize w4.setCell ⟨P, 4, none⟩ x = X at *
  have s1 := hY.size
  have s2 := hb4.size
  have h4 : Below w.heap.size w w4 := hY.trans (hb4.mono s1)
  have hX : Below w.heap.size w X := h4.trans (fX.below (by omega) (fun i hi h => by omega))
  have hYX : Below w.heap.size Y X := (hb4.mono s1).trans (fX.below (by omega) (fun i hi h => by omega))
  have up : ∀ b, Lo B b → Lo X.heap.size b := fun b h => by have h1 : b < B := h; show b < X.heap.size; omega
  refine ⟨hX, sX, more_isDt ((hd.below (hX.mono hB)).more up) hn3 hg3 hg4 (cat_dts (by show g < X.heap.size; omega) ((ha.below (hX.mono hB)).more up) ((hls.below (hYX.mono hB)).more up) (fun ad had j hj => ?_) (fun j hj => (c5 j).trans (hg5 j hj)))⟩
  have hj' : j < news1.length := by omega
  refine ⟨news1[j], by simp [hj'], ?_⟩
  have h1 := hn2 ad had j news1[j] (by simp [hj'])
  obtain ⟨b', off, _, _, _, _, _, _, he, hb', _⟩ := hls.at6 0 (d.L[0]'(by omega)) (by simp)
  rw [had] at he
  injection he with he
  subst he
  have h2 : b' < B := hb'
  rw [hYX.cell (by rw [add_plain]; show b' < w.heap.size; omega)]
  exact h1
end Go.Proofs.Ytapnighankepjaa.Da
