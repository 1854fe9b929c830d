/- Whether two data are the same: what the program answers. -/
import Derived.Test.YtpeleifkednmoaaM5
import Derived.Test.YtpeleifkednmoaaM4
import Derived.Test.YtpeleifkednmoaaShelf
section
namespace Go.Proofs.Ytpeleifkednmoaa.Da
open Go.ChangeShapes Go.WideShapes Go.ChangeAt Go.RowKit

/-- Several new blocks, one behind the other. -/
def allocs (w : World) (l : List (Array Value × TypeId)) : World := l.foldl (fun w x => w.alloc (.cells x.1 x.2)) w
theorem start_allocs : ∀ (l : List (Array Value × TypeId)) (w : World), Below w.heap.size w (allocs w l) ∧ (allocs w l).heap.size = w.heap.size + l.length ∧ ∀ i x, l[i]? = some x → Blk (allocs w l) (w.heap.size + i) x.2 x.1
  | [], w => ⟨Below.refl _ _, rfl, fun i x h => by simp at h⟩
  | y :: r, w => by
    obtain ⟨h1, h2, h3⟩ := start_allocs r (w.alloc (.cells y.1 y.2))
    have hs : (w.alloc (.cells y.1 y.2)).heap.size = w.heap.size + 1 := by simp
    refine ⟨bel_trans (bel_alloc _ _) h1, by show (allocs _ r).heap.size = _; rw [h2, hs, List.length_cons]; omega, fun i x hx => ?_⟩
    cases i with
    | zero =>
      obtain rfl : y = x := by simpa using hx
      exact (h1.block _ (by rw [hs]; omega)).trans (heap_alloc_new w _)
    | succ i =>
      have := h3 i x (by simpa using hx)
      rw [hs] at this
      rwa [show w.heap.size + 1 + i = w.heap.size + (i + 1) by omega] at this
def consD (a d : Dt) : Dt := if d.K = 6 ∨ d.K = 7 then .mk d.K d.N d.S d.M (a :: d.L) d.T else .mk 7 0 ⟨#[]⟩ [] [a] [d]
def consE (a d : Dt) : Int := if chk a ≠ 0 then chk a else if chk d ≠ 0 then chk d else chk (consD a d)
theorem errOf_len : ∀ (l : List (Dt × Nat)) (c : Nat), c ≤ 4096 → errOf c l = 0 → c + l.length ≤ 4096
  | [], c, hc, _ => by simpa using hc
  | x :: r, c, hc, h => by
    simp only [errOf] at h
    by_cases hx : mErr c x.1 x.2 = 0
    · rw [if_pos hx] at h
      have h1 := (mErr_zero hx).2.1
      have := errOf_len r (c + 1) (by omega) h
      rw [List.length_cons]
      omega
    · rw [if_neg hx] at h
      exact absurd h hx
theorem chk_zero {d : Dt} : chk d = 0 ↔ errOf 0 (nodes d 1) = 0 := by
  unfold chk meas
  by_cases h : errOf 0 (nodes d 1) = 0
  · simp [h]
  · simp [h]
theorem chk_cnt {d : Dt} (h : chk d = 0) : cnt d ≤ 4096 := by
  have := errOf_len (nodes d 1) 0 (by omega) (chk_zero.1 h)
  rw [nodes_len] at this
  omega
/-- What comes back of a copy that owns its memory. -/
theorem two_own {w w2 : World} {Q : Nat → Prop} {b : Nat} {d : Dt} {v : Value} {lo hi : Nat} {y0 y1 y2 y3 y4 y5 : Value} (hb0 : w.heap.size ≤ b) (hb1 : b < lo) (hw2 : Below w.heap.size w w2) (hhi : hi ≤ w2.heap.size) (ho : OwnDt w2 d lo hi v) :
    TwoR w Q 0 d (.returned (.tuple #[v, .int .i64 0])) (set6 w2 b 0 y0 y1 y2 y3 y4 y5) := by
  have f6 := set6_fr w2 b 0 y0 y1 y2 y3 y4 y5
  have s6 := set6_size w2 b 0 y0 y1 y2 y3 y4 y5
  generalize set6 w2 b 0 y0 y1 y2 y3 y4 y5 = Wf at *
  have s2 := hw2.size
  refine ⟨v, rfl, hw2.trans (f6.below s2 (fun i hi h => by omega)), fun h => absurd rfl h, fun _ => ?_⟩
  have hh : ∀ c, Rg lo hi c → lo ≤ c ∧ c < hi := fun c h => h
  refine IsDt.keep (fun c hc => .inr ⟨by have := hh c hc; omega, by have := hh c hc; omega⟩) (fun c o hc => ?_) d v (ho.isDt d lo _ v)
  have := hh c hc
  exact f6.cell (p := ⟨c, o, none⟩) (by show c < w2.heap.size; omega) (by show ¬ c = b; omega)
/-- A slice of one datum in a block of its own. -/
theorem one_dts {w : World} {Q : Nat → Prop} {d : Dt} {x0 x1 x2 x3 x4 x5 : Value} {b : Nat} (hb : Q b) (h : Blk w b 43 #[x0, x1, x2, x3, x4, x5]) (hd : IsDt w Q d (.agg #[x0, x1, x2, x3, x4, x5])) : IsDts w Q (some ⟨b, 0, none⟩) 0 [d] := by
  simp only [IsDts]
  exact ⟨⟨b, 0, x0, x1, x2, x3, x4, x5, rfl, hb, ⟨(h.cell 0).trans rfl, (h.cell 1).trans rfl, (h.cell 2).trans rfl, (h.cell 3).trans rfl, (h.cell 4).trans rfl, (h.cell 5).trans rfl⟩, hd⟩, trivial⟩
theorem one_sl (b : Nat) : IsSl (some ⟨b, 0, none⟩) 1 1 := ⟨Nat.le_refl _, by simp [maxLen], by omega, fun h => by cases h⟩
/-- Two data put together as an improper list. -/
theorem dot_isDt {w : World} {Q : Nat → Prop} {a d : Dt} {ba bd : Nat} (h1 : IsDts w Q (some ⟨ba, 0, none⟩) 0 [a]) (h2 : IsDts w Q (some ⟨bd, 0, none⟩) 0 [d]) :
    IsDt w Q (.mk 7 0 ⟨#[]⟩ [] [a] [d]) (.agg #[.int .i64 7, .int .i64 0, .string ⟨#[]⟩, .slice none 0 0, .slice (some ⟨ba, 0, none⟩) 1 1, .slice (some ⟨bd, 0, none⟩) 1 1]) := by
  simp only [IsDt]
  exact ⟨rfl, rfl, by show (0 : Nat) ≤ _; exact Nat.zero_le _, none, 0, _, 1, _, 1, rfl, ⟨rfl, Nat.le_refl _, by simp [maxLen], by simp, fun _ => rfl, by simp, fun k hk => absurd hk (Nat.not_lt_zero _)⟩, one_sl ba, h1, one_sl bd, h2⟩
/-- The cells of some data in a row, one behind the other. -/
theorem dts_cells {w : World} {Q : Nat → Prop} {ad : Addr} {l : List Dt} (h : IsDts w Q (some ad) 0 l) : ∃ news : List Value, news.length = l.length * 6 ∧ (∀ j u, news[j]? = some u → w.cell? (ad.add j) = some u) ∧ (∀ u ∈ news, u.oneCell' = true) := by
  have hc := src_cells h
  refine ⟨(List.range (l.length * 6)).map fun j => (w.cell? (ad.add j)).getD undef, by simp, fun j u hu => ?_, fun u hu => ?_⟩
  · simp only [List.getElem?_map, Option.map_eq_some_iff] at hu
    obtain ⟨x, hx, hu⟩ := hu
    obtain ⟨hj, hx⟩ := List.getElem?_eq_some_iff.1 hx
    rw [List.getElem_range] at hx
    subst hx
    rw [List.length_range] at hj
    obtain ⟨y, hy, _⟩ := hc j hj
    rw [hy] at hu
    rw [hy, ← hu]
    rfl
  · simp only [List.mem_map, List.mem_range] at hu
    obtain ⟨j, hj, hu⟩ := hu
    obtain ⟨y, hy, hy1⟩ := hc j hj
    rw [hy] at hu
    rw [← hu]
    exact hy1
/-- A row that holds a datum's cells, and those of some more behind it. -/
theorem cat_dts {w : World} {Q : Nat → Prop} {g : Nat} {a1 : Option Addr} {a : Dt} {l : List Dt} {x0 x1 x2 x3 x4 x5 : Value} {news1 : List Value} (hg : Q g) (ha : IsDt w Q a (.agg #[x0, x1, x2, x3, x4, x5])) (hl : IsDts w Q a1 0 l)
    (h1 : ∀ ad, a1 = some ad → ∀ j, j < l.length * 6 → ∃ u, news1[j]? = some u ∧ w.cell? (ad.add j) = some u) (hc : ∀ j, j < (1 + l.length) * 6 → w.cell? ⟨g, j, none⟩ = ([x0, x1, x2, x3, x4, x5] ++ news1)[j]?) : IsDts w Q (some ⟨g, 0, none⟩) 0 (a :: l) := by
  refine IsDts.of_at (fun k d hd => ?_)
  rw [Nat.zero_add]
  cases k with
  | zero =>
    obtain rfl : a = d := by simpa using hd
    exact ⟨g, 0, x0, x1, x2, x3, x4, x5, rfl, hg, ⟨(hc 0 (by omega)).trans rfl, (hc 1 (by omega)).trans rfl, (hc 2 (by omega)).trans rfl, (hc 3 (by omega)).trans rfl, (hc 4 (by omega)).trans rfl, (hc 5 (by omega)).trans rfl⟩, ha⟩
  | succ k =>
    have hd' : l[k]? = some d := by simpa using hd
    have hk : k < l.length := (List.getElem?_eq_some_iff.1 hd').1
    obtain ⟨b, off, y0, y1, y2, y3, y4, y5, he, hb, ⟨e0, e1, e2, e3, e4, e5⟩, hi⟩ := hl.at_ k d hd'
    rw [Nat.zero_add] at e0 e1 e2 e3 e4 e5
    have key : ∀ r u, r < 6 → w.cell? ⟨b, off + k * 6 + r, none⟩ = some u → w.cell? ⟨g, (k + 1) * 6 + r, none⟩ = some u := fun r u hr hu => by
      obtain ⟨u', hu1, hu2⟩ := h1 _ he (k * 6 + r) (by omega)
      rw [add_plain, ← Nat.add_assoc, hu] at hu2
      rw [hc _ (by omega), show (k + 1) * 6 + r = 6 + (k * 6 + r) by omega, List.getElem?_append_right (by simp)]
      simpa [hu1] using hu2.symm
    refine ⟨g, 0, y0, y1, y2, y3, y4, y5, rfl, hg, ?_, hi⟩
    rw [Nat.zero_add]
    exact ⟨key 0 _ (by omega) e0, key 1 _ (by omega) e1, key 2 _ (by omega) e2, key 3 _ (by omega) e3, key 4 _ (by omega) e4, key 5 _ (by omega) e5⟩
theorem len_le_cntL : ∀ l : List Dt, l.length ≤ cntL l
  | [] => by simp [cntL]
  | d :: r => by
    have := len_le_cntL r
    have h : 0 < cnt d := by rw [cnt_eq]; omega
    simp only [cntL, List.length_cons]
    omega
theorem len_le {d : Dt} (h : chk d = 0) : d.L.length ≤ 4096 := by
  have h1 := chk_cnt h
  have h2 := len_le_cntL d.L
  rw [cnt_eq] at h1
  omega
/-- One more ahead of a list's elements. -/
theorem more_isDt {w : World} {Q : Nat → Prop} {a d : Dt} {am at_ : Option Addr} {cm cl ct g cap : Nat} {al : Option Addr} (h : IsDt w Q d (.agg #[.int .i64 d.K, .int .i64 d.N, .string d.S, .slice am d.M.length cm, .slice al d.L.length cl, .slice at_ d.T.length ct])) (hn : d.L.length ≤ 4096) (hc : 1 + d.L.length ≤ cap) (hm : cap ≤ maxLen) (hs : IsDts w Q (some ⟨g, 0, none⟩) 0 (a :: d.L)) :
    IsDt w Q (.mk d.K d.N d.S d.M (a :: d.L) d.T) (.agg #[.int .i64 d.K, .int .i64 d.N, .string d.S, .slice am d.M.length cm, .slice (some ⟨g, 0, none⟩) (1 + d.L.length) cap, .slice at_ d.T.length ct]) := by
  obtain ⟨k, n, s, m, l, t⟩ := d
  simp only [IsDt, Dt.K, Dt.N, Dt.S, Dt.M, Dt.L, Dt.T] at h hs hn hc ⊢
  obtain ⟨h1, h2, h3, am', cm', al', cl', at', ct', hv, hmm, hl, hls, ht, hts⟩ := h
  injection hv with hv
  simp only [Array.mk.injEq, List.cons.injEq, and_true, true_and, Value.slice.injEq] at hv
  obtain ⟨⟨rfl, rfl⟩, ⟨rfl, rfl⟩, rfl, rfl⟩ := hv
  exact ⟨h1, h2, h3, am, cm, some ⟨g, 0, none⟩, cap, at_, ct, by rw [List.length_cons, Nat.add_comm], hmm, ⟨by rw [List.length_cons]; omega, hm, by rw [List.length_cons]; omega, fun h => by cases h⟩, hs, ht, hts⟩
/-- The row that a list's elements lie in with one more ahead of them. -/
theorem cons_row {w Y w4 : World} {B P g cap2 : Nat} {a d : Dt} {am' al' at' : Option Addr} {cm' cl' ct' : Nat} {y0 y1 y2 y3 y4 y5 : Value} {news1 : List Value} (hB : B ≤ w.heap.size) (ha : IsDt w (Lo B) a (.agg #[y0, y1, y2, y3, y4, y5]))
    (hd : IsDt w (Lo B) d (.agg #[.int .i64 d.K, .int .i64 d.N, .string d.S, .slice am' d.M.length cm', .slice al' d.L.length cl', .slice at' d.T.length ct'])) (hY : Below w.heap.size w Y) (hls : IsDts Y (Lo B) al' 0 d.L)
    (hn : news1.length = d.L.length * 6 ∧ (∀ ad, al' = some ad → ∀ j u, news1[j]? = some u → Y.cell? (ad.add j) = some u) ∧ d.L.length ≤ 4096)
    (hg : Y.heap.size ≤ g ∧ g < w4.heap.size ∧ 1 + d.L.length ≤ cap2 ∧ cap2 ≤ maxLen ∧ ∀ j, j < (1 + d.L.length) * 6 → w4.cell? ⟨g, j, none⟩ = ([y0, y1, y2, y3, y4, y5] ++ news1)[j]?) (hb4 : Below Y.heap.size Y w4) (hP : w.heap.size ≤ P) (hPY : P < Y.heap.size) (x : Value) :
    Below w.heap.size w (w4.setCell ⟨P, 4, none⟩ x) ∧ (w4.setCell ⟨P, 4, none⟩ x).heap.size = w4.heap.size ∧
      IsDt (w4.setCell ⟨P, 4, none⟩ x) (Lo (w4.setCell ⟨P, 4, none⟩ x).heap.size) (.mk d.K d.N d.S d.M (a :: d.L) d.T) (.agg #[.int .i64 d.K, .int .i64 d.N, .string d.S, .slice am' d.M.length cm', .slice (some ⟨g, 0, none⟩) (1 + d.L.length) cap2, .slice at' d.T.length ct']) := by
  obtain ⟨hg1, hg2, hg3, hg4, hg5⟩ := hg
  obtain ⟨hn1, hn2, hn3⟩ := hn
  have fX : Fr (fun i => i = P) w4 (w4.setCell ⟨P, 4, none⟩ x) := (Fr.refl (fun i => i = P) w4).setCell (p := ⟨P, 4, none⟩) (.inl rfl) _
  have sX : (w4.setCell ⟨P, 4, none⟩ x).heap.size = w4.heap.size := by simp [World.setCell]
  have c5 : ∀ j, (w4.setCell ⟨P, 4, none⟩ x).cell? ⟨g, j, none⟩ = w4.cell? ⟨g, j, none⟩ := fun j => set_ne _ _ _ _ _ _ (.inl (by omega))
  generalize w4.setCell ⟨P, 4, none⟩ x = X at *
  have s1 := hY.size
  have s2 := hb4.size
  have h4 : Below w.heap.size w w4 := hY.trans (hb4.mono s1)
  have hX : Below w.heap.size w X := h4.trans (fX.below (by omega) (fun i hi h => by omega))
  have hYX : Below w.heap.size Y X := (hb4.mono s1).trans (fX.below (by omega) (fun i hi h => by omega))
  have up : ∀ b, Lo B b → Lo X.heap.size b := fun b h => by have h1 : b < B := h; show b < X.heap.size; omega
  refine ⟨hX, sX, more_isDt ((hd.below (hX.mono hB)).more up) hn3 hg3 hg4 (cat_dts (by show g < X.heap.size; omega) ((ha.below (hX.mono hB)).more up) ((hls.below (hYX.mono hB)).more up) (fun ad had j hj => ?_) (fun j hj => (c5 j).trans (hg5 j hj)))⟩
  have hj' : j < news1.length := by omega
  refine ⟨news1[j], by simp [hj'], ?_⟩
  have h1 := hn2 ad had j news1[j] (by simp [hj'])
  obtain ⟨b', off, _, _, _, _, _, _, he, hb', _⟩ := hls.at6 0 (d.L[0]'(by omega)) (by simp)
  rw [had] at he
  injection he with he
  subst he
  have h2 : b' < B := hb'
  rw [hYX.cell (by rw [add_plain]; show b' < w.heap.size; omega)]
  exact h1
end Go.Proofs.Ytpeleifkednmoaa.Da
end
section
namespace Go.Proofs.Ytpeleifkednmoaa.Da
open Go.ChangeShapes Go.WideShapes Go.ChangeAt Go.RowKit

theorem in_any (n : Int) (w : World) : Calls Try.prog 39 #[.int .i64 n] w fun e w' => e = .returned (.bool (inB n)) ∧ w = w' := by
  unfold inB
  have q1 : decide (n ≥ -1152921504606846976) = decide (-1152921504606846976 ≤ n) := rfl
  cases d1 : decide (-1152921504606846976 ≤ n) <;> cases d2 : decide (n ≤ 1152921504606846975)
  all_goals
    rw [d1] at q1
    go_enter Try.func39, Try.ntmps39
    go_wp2_with fail
    go_ret
    exact ⟨rfl, rfl⟩
theorem nil3_eq (a b c : Nat) : nil3 a b c = (((a : Int) == 0) && (((b : Int) == 0) && ((c : Int) == 0))) := by
  unfold nil3
  rw [Bool.eq_iff_iff]
  simp only [Bool.and_eq_true, beq_iff_eq]
  omega
theorem nil2_eq (a b : Nat) : nil2 a b = (((a : Int) == 0) && ((b : Int) == 0)) := by
  unfold nil2
  rw [Bool.eq_iff_iff]
  simp only [Bool.and_eq_true, beq_iff_eq]
  omega
set_option linter.unusedVariables false in
set_option linter.unusedSimpArgs false in
set_option maxRecDepth 100000 in
set_option maxHeartbeats 2000000 in
theorem alone_1 (n : Int) (s : ByteArray) (m : List Int) (l t : List Dt) (am : Option Addr) (cm : Nat) (al : Option Addr) (cl : Nat) (at_ : Option Addr) (ct : Nat) (B : Nat) (w : World) (hs : s.size ≤ maxLen) (hB : B ≤ w.heap.size) (hm : IntRow w (Lo B) am m.length cm m) (h2 : IsSl al l.length cl) (ht : IsSl at_ t.length ct) (hts : IsDts w (Lo B) at_ 0 t) :
    Calls Try.prog 76 #[.agg #[.int .i64 1, .int .i64 n, .string s, .slice am m.length cm, .slice al l.length cl, .slice at_ t.length ct]] w fun e w' => e = .returned (.bool (properOf 1 n s m l t)) ∧ Below w.heap.size w w' := by
  have h1 : (m.length : Int) ≤ 17592186044416 := by have a := hm.2.1; have b := hm.2.2.2.1; omega
  have h3 : (l.length : Int) ≤ 17592186044416 := by have a := h2.1; have b := h2.2.2.1; omega
  have h4 : (t.length : Int) ≤ 17592186044416 := by have a := ht.1; have b := ht.2.2.1; omega
  have he : properOf 1 n s m l t = (inB n && (s.toList.isEmpty && (((m.length : Int) == 0) && (((l.length : Int) == 0) && (((t.length : Int) == 0)))))) := by
    simp only [properOf, nil3_eq, nil2_eq, nil1, Bool.and_assoc, if_true, if_false]
  have He := Lib.hid he
  clear he hm h2
  cases c0 : inB n
  · go_enter Try.func76, Try.ntmps76
    go_wp2_with (go_at_call 39; refine (in_any n _).mono ?_; rintro e w' ⟨rfl, rfl⟩)
    go_ret
    exact ⟨by rw [He.out, c0]; rfl, bel_alloc _ _⟩
  · cases c1 : s.toList.isEmpty
    · go_enter Try.func76, Try.ntmps76
      go_wp2_with (go_at_call 39; refine (in_any n _).mono ?_; rintro e w' ⟨rfl, rfl⟩)
      go_ret
      exact ⟨by rw [He.out, c0, c1]; rfl, bel_alloc _ _⟩
    · cases c2 : ((m.length : Int) == 0)
      · go_enter Try.func76, Try.ntmps76
        go_wp2_with (go_at_call 39; refine (in_any n _).mono ?_; rintro e w' ⟨rfl, rfl⟩)
        go_ret
        exact ⟨by rw [He.out, c0, c1, c2]; rfl, bel_alloc _ _⟩
      · cases c3 : ((l.length : Int) == 0)
        · go_enter Try.func76, Try.ntmps76
          go_wp2_with (go_at_call 39; refine (in_any n _).mono ?_; rintro e w' ⟨rfl, rfl⟩)
          go_ret
          exact ⟨by rw [He.out, c0, c1, c2, c3]; rfl, bel_alloc _ _⟩
        · cases c4 : ((t.length : Int) == 0)
          · go_enter Try.func76, Try.ntmps76
            go_wp2_with (go_at_call 39; refine (in_any n _).mono ?_; rintro e w' ⟨rfl, rfl⟩)
            go_ret
            exact ⟨by rw [He.out, c0, c1, c2, c3, c4]; rfl, bel_alloc _ _⟩
          · go_enter Try.func76, Try.ntmps76
            go_wp2_with (go_at_call 39; refine (in_any n _).mono ?_; rintro e w' ⟨rfl, rfl⟩)
            go_ret
            exact ⟨by rw [He.out, c0, c1, c2, c3, c4]; rfl, bel_alloc _ _⟩
set_option linter.unusedVariables false in
set_option linter.unusedSimpArgs false in
set_option maxRecDepth 100000 in
set_option maxHeartbeats 2000000 in
theorem alone_2 (n : Int) (s : ByteArray) (m : List Int) (l t : List Dt) (am : Option Addr) (cm : Nat) (al : Option Addr) (cl : Nat) (at_ : Option Addr) (ct : Nat) (B : Nat) (w : World) (hs : s.size ≤ maxLen) (hB : B ≤ w.heap.size) (hm : IntRow w (Lo B) am m.length cm m) (h2 : IsSl al l.length cl) (ht : IsSl at_ t.length ct) (hts : IsDts w (Lo B) at_ 0 t) :
    Calls Try.prog 76 #[.agg #[.int .i64 2, .int .i64 n, .string s, .slice am m.length cm, .slice al l.length cl, .slice at_ t.length ct]] w fun e w' => e = .returned (.bool (properOf 2 n s m l t)) ∧ Below w.heap.size w w' := by
  have h1 : (m.length : Int) ≤ 17592186044416 := by have a := hm.2.1; have b := hm.2.2.2.1; omega
  have h3 : (l.length : Int) ≤ 17592186044416 := by have a := h2.1; have b := h2.2.2.1; omega
  have h4 : (t.length : Int) ≤ 17592186044416 := by have a := ht.1; have b := ht.2.2.1; omega
  have he : properOf 2 n s m l t = (((n == 0) || (n == 1)) && (s.toList.isEmpty && (((m.length : Int) == 0) && (((l.length : Int) == 0) && (((t.length : Int) == 0)))))) := by
    simp only [properOf, nil3_eq, nil2_eq, nil1, Bool.and_assoc, if_true, if_false, show ¬ (2 : Int) = 1 by decide]
  have He := Lib.hid he
  clear he hm h2
  cases c0 : (n == 0)
  · cases c1 : (n == 1)
    · go_enter Try.func76, Try.ntmps76
      go_wp2_with fail
      go_ret
      exact ⟨by rw [He.out, c0, c1]; rfl, bel_alloc _ _⟩
    · cases c2 : s.toList.isEmpty
      · go_enter Try.func76, Try.ntmps76
        go_wp2_with fail
        go_ret
        exact ⟨by rw [He.out, c0, c1, c2]; rfl, bel_alloc _ _⟩
      · cases c3 : ((m.length : Int) == 0)
        · go_enter Try.func76, Try.ntmps76
          go_wp2_with fail
          go_ret
          exact ⟨by rw [He.out, c0, c1, c2, c3]; rfl, bel_alloc _ _⟩
        · cases c4 : ((l.length : Int) == 0)
          · go_enter Try.func76, Try.ntmps76
            go_wp2_with fail
            go_ret
            exact ⟨by rw [He.out, c0, c1, c2, c3, c4]; rfl, bel_alloc _ _⟩
          · cases c5 : ((t.length : Int) == 0)
            · go_enter Try.func76, Try.ntmps76
              go_wp2_with fail
              go_ret
              exact ⟨by rw [He.out, c0, c1, c2, c3, c4, c5]; rfl, bel_alloc _ _⟩
            · go_enter Try.func76, Try.ntmps76
              go_wp2_with fail
              go_ret
              exact ⟨by rw [He.out, c0, c1, c2, c3, c4, c5]; rfl, bel_alloc _ _⟩
  · cases c6 : s.toList.isEmpty
    · go_enter Try.func76, Try.ntmps76
      go_wp2_with fail
      go_ret
      exact ⟨by rw [He.out, c0, c6]; rfl, bel_alloc _ _⟩
    · cases c7 : ((m.length : Int) == 0)
      · go_enter Try.func76, Try.ntmps76
        go_wp2_with fail
        go_ret
        exact ⟨by rw [He.out, c0, c6, c7]; rfl, bel_alloc _ _⟩
      · cases c8 : ((l.length : Int) == 0)
        · go_enter Try.func76, Try.ntmps76
          go_wp2_with fail
          go_ret
          exact ⟨by rw [He.out, c0, c6, c7, c8]; rfl, bel_alloc _ _⟩
        · cases c9 : ((t.length : Int) == 0)
          · go_enter Try.func76, Try.ntmps76
            go_wp2_with fail
            go_ret
            exact ⟨by rw [He.out, c0, c6, c7, c8, c9]; rfl, bel_alloc _ _⟩
          · go_enter Try.func76, Try.ntmps76
            go_wp2_with fail
            go_ret
            exact ⟨by rw [He.out, c0, c6, c7, c8, c9]; rfl, bel_alloc _ _⟩
set_option linter.unusedVariables false in
set_option linter.unusedSimpArgs false in
set_option maxRecDepth 100000 in
set_option maxHeartbeats 2000000 in
theorem alone_3 (n : Int) (s : ByteArray) (m : List Int) (l t : List Dt) (am : Option Addr) (cm : Nat) (al : Option Addr) (cl : Nat) (at_ : Option Addr) (ct : Nat) (B : Nat) (w : World) (hs : s.size ≤ maxLen) (hB : B ≤ w.heap.size) (hm : IntRow w (Lo B) am m.length cm m) (h2 : IsSl al l.length cl) (ht : IsSl at_ t.length ct) (hts : IsDts w (Lo B) at_ 0 t) :
    Calls Try.prog 76 #[.agg #[.int .i64 3, .int .i64 n, .string s, .slice am m.length cm, .slice al l.length cl, .slice at_ t.length ct]] w fun e w' => e = .returned (.bool (properOf 3 n s m l t)) ∧ Below w.heap.size w w' := by
  have h1 : (m.length : Int) ≤ 17592186044416 := by have a := hm.2.1; have b := hm.2.2.2.1; omega
  have h3 : (l.length : Int) ≤ 17592186044416 := by have a := h2.1; have b := h2.2.2.1; omega
  have h4 : (t.length : Int) ≤ 17592186044416 := by have a := ht.1; have b := ht.2.2.1; omega
  have he : properOf 3 n s m l t = (decide (n ≥ 0) && (decide (n ≤ 127) && (s.toList.isEmpty && (((m.length : Int) == 0) && (((l.length : Int) == 0) && (((t.length : Int) == 0))))))) := by
    simp only [properOf, nil3_eq, nil2_eq, nil1, Bool.and_assoc, if_true, if_false, show ¬ (3 : Int) = 1 by decide, show ¬ (3 : Int) = 2 by decide]
    rw [show decide (n < 128) = decide (n ≤ 127) by rw [decide_eq_decide]; omega]
  have He := Lib.hid he
  clear he hm h2
  cases c0 : decide (n ≥ 0)
  · go_enter Try.func76, Try.ntmps76
    go_wp2_with fail
    go_ret
    exact ⟨by rw [He.out, c0]; rfl, bel_alloc _ _⟩
  · cases c1 : decide (n ≤ 127)
    · go_enter Try.func76, Try.ntmps76
      go_wp2_with fail
      go_ret
      exact ⟨by rw [He.out, c0, c1]; rfl, bel_alloc _ _⟩
    · cases c2 : s.toList.isEmpty
      · go_enter Try.func76, Try.ntmps76
        go_wp2_with fail
        go_ret
        exact ⟨by rw [He.out, c0, c1, c2]; rfl, bel_alloc _ _⟩
      · cases c3 : ((m.length : Int) == 0)
        · go_enter Try.func76, Try.ntmps76
          go_wp2_with fail
          go_ret
          exact ⟨by rw [He.out, c0, c1, c2, c3]; rfl, bel_alloc _ _⟩
        · cases c4 : ((l.length : Int) == 0)
          · go_enter Try.func76, Try.ntmps76
            go_wp2_with fail
            go_ret
            exact ⟨by rw [He.out, c0, c1, c2, c3, c4]; rfl, bel_alloc _ _⟩
          · cases c5 : ((t.length : Int) == 0)
            · go_enter Try.func76, Try.ntmps76
              go_wp2_with fail
              go_ret
              exact ⟨by rw [He.out, c0, c1, c2, c3, c4, c5]; rfl, bel_alloc _ _⟩
            · go_enter Try.func76, Try.ntmps76
              go_wp2_with fail
              go_ret
              exact ⟨by rw [He.out, c0, c1, c2, c3, c4, c5]; rfl, bel_alloc _ _⟩
set_option linter.unusedVariables false in
set_option linter.unusedSimpArgs false in
set_option maxRecDepth 100000 in
set_option maxHeartbeats 2000000 in
theorem alone_6 (n : Int) (s : ByteArray) (m : List Int) (l t : List Dt) (am : Option Addr) (cm : Nat) (al : Option Addr) (cl : Nat) (at_ : Option Addr) (ct : Nat) (B : Nat) (w : World) (hs : s.size ≤ maxLen) (hB : B ≤ w.heap.size) (hm : IntRow w (Lo B) am m.length cm m) (h2 : IsSl al l.length cl) (ht : IsSl at_ t.length ct) (hts : IsDts w (Lo B) at_ 0 t) :
    Calls Try.prog 76 #[.agg #[.int .i64 6, .int .i64 n, .string s, .slice am m.length cm, .slice al l.length cl, .slice at_ t.length ct]] w fun e w' => e = .returned (.bool (properOf 6 n s m l t)) ∧ Below w.heap.size w w' := by
  have h1 : (m.length : Int) ≤ 17592186044416 := by have a := hm.2.1; have b := hm.2.2.2.1; omega
  have h3 : (l.length : Int) ≤ 17592186044416 := by have a := h2.1; have b := h2.2.2.1; omega
  have h4 : (t.length : Int) ≤ 17592186044416 := by have a := ht.1; have b := ht.2.2.1; omega
  have he : properOf 6 n s m l t = ((n == 0) && (s.toList.isEmpty && (((m.length : Int) == 0) && (((t.length : Int) == 0))))) := by
    simp only [properOf, nil3_eq, nil2_eq, nil1, Bool.and_assoc, if_true, if_false, show ¬ (6 : Int) = 1 by decide, show ¬ (6 : Int) = 2 by decide, show ¬ (6 : Int) = 3 by decide, show ¬ (6 : Int) = 4 by decide, show ¬ (6 : Int) = 5 by decide]
  have He := Lib.hid he
  clear he hm h2
  cases c0 : (n == 0)
  · go_enter Try.func76, Try.ntmps76
    go_wp2_with fail
    go_ret
    exact ⟨by rw [He.out, c0]; rfl, bel_alloc _ _⟩
  · cases c1 : s.toList.isEmpty
    · go_enter Try.func76, Try.ntmps76
      go_wp2_with fail
      go_ret
      exact ⟨by rw [He.out, c0, c1]; rfl, bel_alloc _ _⟩
    · cases c2 : ((m.length : Int) == 0)
      · go_enter Try.func76, Try.ntmps76
        go_wp2_with fail
        go_ret
        exact ⟨by rw [He.out, c0, c1, c2]; rfl, bel_alloc _ _⟩
      · cases c3 : ((t.length : Int) == 0)
        · go_enter Try.func76, Try.ntmps76
          go_wp2_with fail
          go_ret
          exact ⟨by rw [He.out, c0, c1, c2, c3]; rfl, bel_alloc _ _⟩
        · go_enter Try.func76, Try.ntmps76
          go_wp2_with fail
          go_ret
          exact ⟨by rw [He.out, c0, c1, c2, c3]; rfl, bel_alloc _ _⟩
set_option linter.unusedVariables false in
set_option linter.unusedSimpArgs false in
set_option maxRecDepth 100000 in
set_option maxHeartbeats 2000000 in
theorem alone_8 (n : Int) (s : ByteArray) (m : List Int) (l t : List Dt) (am : Option Addr) (cm : Nat) (al : Option Addr) (cl : Nat) (at_ : Option Addr) (ct : Nat) (B : Nat) (w : World) (hs : s.size ≤ maxLen) (hB : B ≤ w.heap.size) (hm : IntRow w (Lo B) am m.length cm m) (h2 : IsSl al l.length cl) (ht : IsSl at_ t.length ct) (hts : IsDts w (Lo B) at_ 0 t) :
    Calls Try.prog 76 #[.agg #[.int .i64 8, .int .i64 n, .string s, .slice am m.length cm, .slice al l.length cl, .slice at_ t.length ct]] w fun e w' => e = .returned (.bool (properOf 8 n s m l t)) ∧ Below w.heap.size w w' := by
  have h1 : (m.length : Int) ≤ 17592186044416 := by have a := hm.2.1; have b := hm.2.2.2.1; omega
  have h3 : (l.length : Int) ≤ 17592186044416 := by have a := h2.1; have b := h2.2.2.1; omega
  have h4 : (t.length : Int) ≤ 17592186044416 := by have a := ht.1; have b := ht.2.2.1; omega
  have he : properOf 8 n s m l t = ((n == 0) && (s.toList.isEmpty && (((m.length : Int) == 0) && (((t.length : Int) == 0))))) := by
    simp only [properOf, nil3_eq, nil2_eq, nil1, Bool.and_assoc, if_true, if_false, show ¬ (8 : Int) = 1 by decide, show ¬ (8 : Int) = 2 by decide, show ¬ (8 : Int) = 3 by decide, show ¬ (8 : Int) = 4 by decide, show ¬ (8 : Int) = 5 by decide, show ¬ (8 : Int) = 6 by decide, show ¬ (8 : Int) = 7 by decide]
  have He := Lib.hid he
  clear he hm h2
  cases c0 : (n == 0)
  · go_enter Try.func76, Try.ntmps76
    go_wp2_with fail
    go_ret
    exact ⟨by rw [He.out, c0]; rfl, bel_alloc _ _⟩
  · cases c1 : s.toList.isEmpty
    · go_enter Try.func76, Try.ntmps76
      go_wp2_with fail
      go_ret
      exact ⟨by rw [He.out, c0, c1]; rfl, bel_alloc _ _⟩
    · cases c2 : ((m.length : Int) == 0)
      · go_enter Try.func76, Try.ntmps76
        go_wp2_with fail
        go_ret
        exact ⟨by rw [He.out, c0, c1, c2]; rfl, bel_alloc _ _⟩
      · cases c3 : ((t.length : Int) == 0)
        · go_enter Try.func76, Try.ntmps76
          go_wp2_with fail
          go_ret
          exact ⟨by rw [He.out, c0, c1, c2, c3]; rfl, bel_alloc _ _⟩
        · go_enter Try.func76, Try.ntmps76
          go_wp2_with fail
          go_ret
          exact ⟨by rw [He.out, c0, c1, c2, c3]; rfl, bel_alloc _ _⟩
set_option linter.unusedVariables false in
set_option linter.unusedSimpArgs false in
set_option maxRecDepth 100000 in
set_option maxHeartbeats 2000000 in
theorem alone_7 (n : Int) (s : ByteArray) (m : List Int) (l t : List Dt) (am : Option Addr) (cm : Nat) (al : Option Addr) (cl : Nat) (at_ : Option Addr) (ct : Nat) (B : Nat) (w : World) (hs : s.size ≤ maxLen) (hB : B ≤ w.heap.size) (hm : IntRow w (Lo B) am m.length cm m) (h2 : IsSl al l.length cl) (ht : IsSl at_ t.length ct) (hts : IsDts w (Lo B) at_ 0 t) :
    Calls Try.prog 76 #[.agg #[.int .i64 7, .int .i64 n, .string s, .slice am m.length cm, .slice al l.length cl, .slice at_ t.length ct]] w fun e w' => e = .returned (.bool (properOf 7 n s m l t)) ∧ Below w.heap.size w w' := by
  have h1 : (m.length : Int) ≤ 17592186044416 := by have a := hm.2.1; have b := hm.2.2.2.1; omega
  have h3 : (l.length : Int) ≤ 17592186044416 := by have a := h2.1; have b := h2.2.2.1; omega
  have h4 : (t.length : Int) ≤ 17592186044416 := by have a := ht.1; have b := ht.2.2.1; omega
  have he : properOf 7 n s m l t = ((n == 0) && (s.toList.isEmpty && (((m.length : Int) == 0) && ((!((l.length : Int) == 0)) && (((t.length : Int) == 1) && ((headK t != 6) && ((headK t != 7)))))))) := by
    simp only [properOf, nil3_eq, nil2_eq, nil1, Bool.and_assoc, if_true, if_false, show ¬ (7 : Int) = 1 by decide, show ¬ (7 : Int) = 2 by decide, show ¬ (7 : Int) = 3 by decide, show ¬ (7 : Int) = 4 by decide, show ¬ (7 : Int) = 5 by decide, show ¬ (7 : Int) = 6 by decide]
    rw [show decide (0 < (l.length : Int)) = !((l.length : Int) == 0) by rw [Bool.eq_iff_iff]; simp only [decide_eq_true_eq, Bool.not_eq_true', beq_eq_false_iff_ne]; omega]
    unfold tailB
    simp only [Bool.and_assoc]
    cases (n == 0) <;> cases s.toList.isEmpty <;> cases ((m.length : Int) == 0) <;> cases ((l.length : Int) == 0) <;> cases ((t.length : Int) == 1) <;> cases (headK t != 6) <;> cases (headK t != 7) <;> rfl
  have He := Lib.hid he
  clear he hm h2
  cases c0 : (n == 0)
  · go_enter Try.func76, Try.ntmps76
    go_wp2_with fail
    go_ret
    exact ⟨by rw [He.out, c0]; rfl, bel_alloc _ _⟩
  · cases c1 : s.toList.isEmpty
    · go_enter Try.func76, Try.ntmps76
      go_wp2_with fail
      go_ret
      exact ⟨by rw [He.out, c0, c1]; rfl, bel_alloc _ _⟩
    · cases c2 : ((m.length : Int) == 0)
      · go_enter Try.func76, Try.ntmps76
        go_wp2_with fail
        go_ret
        exact ⟨by rw [He.out, c0, c1, c2]; rfl, bel_alloc _ _⟩
      · cases c3 : (!((l.length : Int) == 0))
        · go_enter Try.func76, Try.ntmps76
          go_wp2_with fail
          go_ret
          exact ⟨by rw [He.out, c0, c1, c2, c3]; rfl, bel_alloc _ _⟩
        · cases c4 : ((t.length : Int) == 1)
          · go_enter Try.func76, Try.ntmps76
            go_wp2_with fail
            go_ret
            exact ⟨by rw [He.out, c0, c1, c2, c3, c4]; rfl, bel_alloc _ _⟩
          · have hl : t.length = 1 := by have := beq_iff_eq.1 c4; omega
            obtain ⟨b, off, rfl, hb, hc⟩ := headK_at hts hl
            have hb1 : b < w.heap.size := Nat.lt_of_lt_of_le hb hB
            have k1 : (0 : Int) < (t.length : Int) := by omega
            clear hl
            cases c5 : (headK t != 6)
            · go_enter Try.func76, Try.ntmps76
              go_wp2_with fail
              go_ret
              exact ⟨by rw [He.out, c0, c1, c2, c3, c4, c5]; rfl, bel_alloc _ _⟩
            · cases c6 : (headK t != 7)
              · go_enter Try.func76, Try.ntmps76
                go_wp2_with fail
                go_ret
                exact ⟨by rw [He.out, c0, c1, c2, c3, c4, c5, c6]; rfl, bel_alloc _ _⟩
              · go_enter Try.func76, Try.ntmps76
                go_wp2_with fail
                go_ret
                exact ⟨by rw [He.out, c0, c1, c2, c3, c4, c5, c6]; rfl, bel_alloc _ _⟩
end Go.Proofs.Ytpeleifkednmoaa.Da
end
section
namespace Go.Proofs.Ytpeleifkednmoaa.Da
open Go.ChangeShapes Go.WideShapes Go.ChangeAt Go.RowKit

def TxAt (s : ByteArray) (i : Value) : Prop := ∃ k : Nat, k ≤ s.size ∧ k ≤ 256 ∧ i = .int .i64 (k : Int) ∧ (s.data.toList.take k).all lowB = true
def MkAt (m : List Int) (i : Value) : Prop := ∃ k : Nat, k ≤ m.length ∧ k ≤ 16 ∧ i = .int .i64 (k : Int) ∧ (m.take k).all markB = true
set_option linter.unusedVariables false in
set_option linter.unusedSimpArgs false in
set_option maxRecDepth 100000 in
set_option maxHeartbeats 2000000 in
theorem alone_4 (n : Int) (s : ByteArray) (m : List Int) (l t : List Dt) (am : Option Addr) (cm : Nat) (al : Option Addr) (cl : Nat) (at_ : Option Addr) (ct : Nat) (B : Nat) (w : World) (hs : s.size ≤ maxLen) (hB : B ≤ w.heap.size) (hm : IntRow w (Lo B) am m.length cm m) (h2 : IsSl al l.length cl) (ht : IsSl at_ t.length ct) (hts : IsDts w (Lo B) at_ 0 t) :
    Calls Try.prog 76 #[.agg #[.int .i64 4, .int .i64 n, .string s, .slice am m.length cm, .slice al l.length cl, .slice at_ t.length ct]] w fun e w' => e = .returned (.bool (properOf 4 n s m l t)) ∧ Below w.heap.size w w' := by
  have h1 : (m.length : Int) ≤ 17592186044416 := by have a := hm.2.1; have b := hm.2.2.2.1; omega
  have h3 : (l.length : Int) ≤ 17592186044416 := by have a := h2.1; have b := h2.2.2.1; omega
  have h4 : (t.length : Int) ≤ 17592186044416 := by have a := ht.1; have b := ht.2.2.1; omega
  have he : properOf 4 n s m l t = (textB s && ((n == 0) && (((m.length : Int) == 0) && (((l.length : Int) == 0) && (((t.length : Int) == 0)))))) := by
    simp only [properOf, nil3_eq, nil2_eq, nil1, Bool.and_assoc, if_true, if_false, show ¬ (4 : Int) = 1 by decide, show ¬ (4 : Int) = 2 by decide, show ¬ (4 : Int) = 3 by decide]
  have He := Lib.hid he
  clear he hm h2
  have hs' : s.size ≤ 9223372036854775807 := by unfold maxLen at hs; omega
  go_enter Try.func76, Try.ntmps76
  go_wp2_with fail
  go_loop [8] (fun i => TxAt s i) (fun i => s.size - (intOf i).toNat)
  case atStart => exact ⟨0, Nat.zero_le _, by omega, rfl, rfl⟩
  case round =>
    obtain ⟨k, hk, hk2, rfl, ha⟩ := hrel
    have Ha := Lib.hid ha
    clear ha
    by_cases hlt : k < s.size
    · have dl : decide ((k : Int) < (s.size : Int)) = true := by simp [hlt]
      by_cases h256 : (k : Int) ≥ 256
      · have dg : decide ((k : Int) ≥ 256) = true := by simpa using h256
        have HB := Lib.hid (show textB s = false by unfold textB; rw [decide_eq_true (show 256 < (s.size : Int) by omega)]; rfl)
        clear h256
        go_wp2_with fail
        go_ret
        exact ⟨by rw [He.out, HB.out]; rfl, bel_alloc _ _⟩

      · have dg : decide ((k : Int) ≥ 256) = false := by simpa using h256
        have hn := all_snoc s lowB k hlt
        have hno := all_no s lowB k hlt
        have hq : lowB s[k] = !decide ((s[k].toNat : Int) > 127) := by unfold lowB; congr 1
        rw [Ha.out] at hn
        cases hb : decide ((s[k].toNat : Int) > 127)
        · rw [hb] at hq
          rw [hq] at hn
          have Hn := Lib.hid hn
          have Hk := Lib.hid h256
          clear hn hno hq h256
          go_wp2_with fail
          go_round
          case rel => exact ⟨k + 1, by omega, by have := Hk.out; omega, by go_num, Hn.out⟩
          case measure => simp [intOf]; omega
        · rw [hb] at hq
          have HB := Lib.hid (show textB s = false by unfold textB; rw [hno (by rw [hq]; rfl)]; simp)
          clear hn hno hq h256
          go_wp2_with fail
          go_ret
          exact ⟨by rw [He.out, HB.out]; rfl, bel_alloc _ _⟩

    · have dl : decide ((k : Int) < (s.size : Int)) = false := by simp [hlt]
      have hf := all_full s lowB k (by omega)
      rw [Ha.out] at hf
      have HT := Lib.hid (show textB s = true by unfold textB; rw [← hf, decide_eq_false (show ¬ 256 < (s.size : Int) by omega)]; rfl)
      clear hf
      cases c0 : (n == 0)
      · go_wp2_with fail
        go_ret
        exact ⟨by rw [He.out, HT.out, c0]; rfl, bel_alloc _ _⟩
      · cases c1 : ((m.length : Int) == 0)
        · go_wp2_with fail
          go_ret
          exact ⟨by rw [He.out, HT.out, c0, c1]; rfl, bel_alloc _ _⟩
        · cases c2 : ((l.length : Int) == 0)
          · go_wp2_with fail
            go_ret
            exact ⟨by rw [He.out, HT.out, c0, c1, c2]; rfl, bel_alloc _ _⟩
          · cases c3 : ((t.length : Int) == 0)
            · go_wp2_with fail
              go_ret
              exact ⟨by rw [He.out, HT.out, c0, c1, c2, c3]; rfl, bel_alloc _ _⟩
            · go_wp2_with fail
              go_ret
              exact ⟨by rw [He.out, HT.out, c0, c1, c2, c3]; rfl, bel_alloc _ _⟩
set_option linter.unusedVariables false in
set_option linter.unusedSimpArgs false in
set_option maxRecDepth 100000 in
set_option maxHeartbeats 2000000 in
theorem alone_5 (n : Int) (s : ByteArray) (m : List Int) (l t : List Dt) (am : Option Addr) (cm : Nat) (al : Option Addr) (cl : Nat) (at_ : Option Addr) (ct : Nat) (B : Nat) (w : World) (hs : s.size ≤ maxLen) (hB : B ≤ w.heap.size) (hm : IntRow w (Lo B) am m.length cm m) (h2 : IsSl al l.length cl) (ht : IsSl at_ t.length ct) (hts : IsDts w (Lo B) at_ 0 t) :
    Calls Try.prog 76 #[.agg #[.int .i64 5, .int .i64 n, .string s, .slice am m.length cm, .slice al l.length cl, .slice at_ t.length ct]] w fun e w' => e = .returned (.bool (properOf 5 n s m l t)) ∧ Below w.heap.size w w' := by
  have h1 : (m.length : Int) ≤ 17592186044416 := by have a := hm.2.1; have b := hm.2.2.2.1; omega
  have h3 : (l.length : Int) ≤ 17592186044416 := by have a := h2.1; have b := h2.2.2.1; omega
  have h4 : (t.length : Int) ≤ 17592186044416 := by have a := ht.1; have b := ht.2.2.1; omega
  have he : properOf 5 n s m l t = (symB s && (marksB m && ((n == 0) && (((l.length : Int) == 0) && (((t.length : Int) == 0)))))) := by
    simp only [properOf, nil3_eq, nil2_eq, nil1, Bool.and_assoc, if_true, if_false, show ¬ (5 : Int) = 1 by decide, show ¬ (5 : Int) = 2 by decide, show ¬ (5 : Int) = 3 by decide, show ¬ (5 : Int) = 4 by decide]
  have He := Lib.hid he
  have Hm := Lib.hid hm
  clear he h2 hm
  go_enter Try.func76, Try.ntmps76
  go_wp2_with fail
  go_loop [9] (fun i => MkAt m i) (fun i => m.length - (intOf i).toNat)
  case atStart => exact ⟨0, Nat.zero_le _, by omega, rfl, rfl⟩
  case round =>
    obtain ⟨k, hk, hk2, rfl, ha⟩ := hrel
    have Ha := Lib.hid ha
    clear ha
    by_cases hlt : k < m.length
    · have dl : decide ((k : Int) < (m.length : Int)) = true := by simp [hlt]
      by_cases h16 : (k : Int) ≥ 16
      · have dg : decide ((k : Int) ≥ 16) = true := by simpa using h16
        have HB := Lib.hid (show (symB s && (marksB m && ((n == 0) && (((l.length : Int) == 0) && ((t.length : Int) == 0))))) = false by unfold marksB; rw [decide_eq_true (show 16 < (m.length : Int) by omega)]; simp)
        clear h16
        go_wp2_with fail
        go_ret
        exact ⟨by rw [He.out, HB.out]; rfl, bel_alloc _ _⟩

      · have dg : decide ((k : Int) ≥ 16) = false := by simpa using h16
        obtain ⟨b, off, rfl, hb, hc⟩ := Hm.out.2.2.2.2.2.2 k hlt
        have hb1 : b < w.heap.size := Nat.lt_of_lt_of_le hb hB
        have hn := allI_snoc m markB k hlt
        have hno := allI_no m markB k hlt
        obtain ⟨x, hx⟩ : ∃ x, m.getD k 0 = x := ⟨_, rfl⟩
        rw [hx] at hc hn hno
        have hq : markB x = !(decide (x < 1) || decide (x > 1048576)) := rfl
        have k0 : (0 : Int) ≤ (k : Int) := Int.natCast_nonneg _
        have k1 : (k : Int) < (m.length : Int) := by omega
        rw [Ha.out] at hn
        have Hk := Lib.hid h16
        clear hb hx h16
        cases e1 : decide (x < 1)
        · cases e2 : decide (x > 1048576)
          · rw [e1, e2] at hq
            rw [hq] at hn
            have Hn := Lib.hid hn
            clear hn hno hq
            go_wp2_with fail
            go_round
            case rel => exact ⟨k + 1, by omega, by have := Hk.out; omega, by go_num, Hn.out⟩
            case measure => simp [intOf]; omega
          · rw [e1, e2] at hq
            have HB := Lib.hid (show (symB s && (marksB m && ((n == 0) && (((l.length : Int) == 0) && ((t.length : Int) == 0))))) = false by unfold marksB; rw [hno (by rw [hq]; rfl)]; simp)
            clear hn hno hq
            go_wp2_with fail
            go_ret
            exact ⟨by rw [He.out, HB.out]; rfl, bel_alloc _ _⟩

        · rw [e1] at hq
          have HB := Lib.hid (show (symB s && (marksB m && ((n == 0) && (((l.length : Int) == 0) && ((t.length : Int) == 0))))) = false by unfold marksB; rw [hno (by rw [hq]; rfl)]; simp)
          clear hn hno hq
          go_wp2_with fail
          go_ret
          exact ⟨by rw [He.out, HB.out]; rfl, bel_alloc _ _⟩

    · have dl : decide ((k : Int) < (m.length : Int)) = false := by simp [hlt]
      have hf := allI_full m markB k (by omega)
      rw [Ha.out] at hf
      have HT := Lib.hid (show marksB m = true by unfold marksB; rw [← hf, decide_eq_false (show ¬ 16 < (m.length : Int) by omega)]; rfl)
      clear hf
      obtain ⟨sy, hsy⟩ : ∃ sy, symB s = sy := ⟨_, rfl⟩
      have HS := Lib.hid hsy
      clear hsy
      cases sy
      · go_wp2_with (go_at_call 85; refine (rsymbol_any s _ hs).mono ?_; rintro e w' ⟨rfl, rfl⟩; rw [HS.out])
        go_ret
        exact ⟨by rw [He.out, HS.out]; rfl, bel_alloc _ _⟩
      · skip
        cases c0 : (n == 0)
        · go_wp2_with (go_at_call 85; refine (rsymbol_any s _ hs).mono ?_; rintro e w' ⟨rfl, rfl⟩; rw [HS.out])
          go_ret
          exact ⟨by rw [He.out, HS.out, HT.out, c0]; rfl, bel_alloc _ _⟩
        · cases c1 : ((l.length : Int) == 0)
          · go_wp2_with (go_at_call 85; refine (rsymbol_any s _ hs).mono ?_; rintro e w' ⟨rfl, rfl⟩; rw [HS.out])
            go_ret
            exact ⟨by rw [He.out, HS.out, HT.out, c0, c1]; rfl, bel_alloc _ _⟩
          · cases c2 : ((t.length : Int) == 0)
            · go_wp2_with (go_at_call 85; refine (rsymbol_any s _ hs).mono ?_; rintro e w' ⟨rfl, rfl⟩; rw [HS.out])
              go_ret
              exact ⟨by rw [He.out, HS.out, HT.out, c0, c1, c2]; rfl, bel_alloc _ _⟩
            · go_wp2_with (go_at_call 85; refine (rsymbol_any s _ hs).mono ?_; rintro e w' ⟨rfl, rfl⟩; rw [HS.out])
              go_ret
              exact ⟨by rw [He.out, HS.out, HT.out, c0, c1, c2]; rfl, bel_alloc _ _⟩
end Go.Proofs.Ytpeleifkednmoaa.Da
end
section
namespace Go.Proofs.Ytpeleifkednmoaa.Da
open Go.ChangeShapes Go.WideShapes Go.ChangeAt Go.RowKit

set_option linter.unusedVariables false in
set_option maxRecDepth 100000 in
theorem alone_no (k n : Int) (s : ByteArray) (am : Option Addr) (lm cm : Nat) (al : Option Addr) (ll cl : Nat) (at_ : Option Addr) (lt ct : Nat) (w : World) (h1 : (lm : Int) ≤ 17592186044416) (h3 : (ll : Int) ≤ 17592186044416) (h4 : (lt : Int) ≤ 17592186044416)
    (d1 : (k == 1) = false) (d2 : (k == 2) = false) (d3 : (k == 3) = false) (d4 : (k == 4) = false) (d5 : (k == 5) = false) (d6 : (k == 6) = false) (d7 : (k == 7) = false) (d8 : (k == 8) = false) :
    Calls Try.prog 76 #[.agg #[.int .i64 k, .int .i64 n, .string s, .slice am lm cm, .slice al ll cl, .slice at_ lt ct]] w fun e w' => e = .returned (.bool false) ∧ Below w.heap.size w w' := by
  go_enter Try.func76, Try.ntmps76
  go_wp2_with fail
  go_ret
  exact ⟨rfl, bel_alloc _ _⟩
theorem alone_any (d : Dt) (v : Value) (B : Nat) (w : World) (h : IsDt w (Lo B) d v) (hB : B ≤ w.heap.size) :
    Calls Try.prog 76 #[v] w fun e w' => e = .returned (.bool (properB d)) ∧ Below w.heap.size w w' := by
  obtain ⟨am, cm, al, cl, at_, ct, rfl, _, _, hs, hm, hl, _, ht, hts⟩ := h.open_
  have h1 : (d.M.length : Int) ≤ 17592186044416 := by have a := hm.2.1; have b := hm.2.2.2.1; omega
  have h3 : (d.L.length : Int) ≤ 17592186044416 := by have a := hl.1; have b := hl.2.2.1; omega
  have h4 : (d.T.length : Int) ≤ 17592186044416 := by have a := ht.1; have b := ht.2.2.1; omega
  unfold properB
  by_cases c1 : d.K = 1
  · rw [c1]; exact alone_1 d.N d.S d.M d.L d.T am cm al cl at_ ct B w hs hB hm hl ht hts
  by_cases c2 : d.K = 2
  · rw [c2]; exact alone_2 d.N d.S d.M d.L d.T am cm al cl at_ ct B w hs hB hm hl ht hts
  by_cases c3 : d.K = 3
  · rw [c3]; exact alone_3 d.N d.S d.M d.L d.T am cm al cl at_ ct B w hs hB hm hl ht hts
  by_cases c4 : d.K = 4
  · rw [c4]; exact alone_4 d.N d.S d.M d.L d.T am cm al cl at_ ct B w hs hB hm hl ht hts
  by_cases c5 : d.K = 5
  · rw [c5]; exact alone_5 d.N d.S d.M d.L d.T am cm al cl at_ ct B w hs hB hm hl ht hts
  by_cases c6 : d.K = 6
  · rw [c6]; exact alone_6 d.N d.S d.M d.L d.T am cm al cl at_ ct B w hs hB hm hl ht hts
  by_cases c7 : d.K = 7
  · rw [c7]; exact alone_7 d.N d.S d.M d.L d.T am cm al cl at_ ct B w hs hB hm hl ht hts
  by_cases c8 : d.K = 8
  · rw [c8]; exact alone_8 d.N d.S d.M d.L d.T am cm al cl at_ ct B w hs hB hm hl ht hts
  have he : properOf d.K d.N d.S d.M d.L d.T = false := by unfold properOf; rw [if_neg c1, if_neg c2, if_neg c3, if_neg c4, if_neg c5, if_neg c6, if_neg c7, if_neg c8]
  rw [he]
  exact alone_no d.K d.N d.S am _ cm al _ cl at_ _ ct w h1 h3 h4 (beq_eq_false_iff_ne.2 c1) (beq_eq_false_iff_ne.2 c2) (beq_eq_false_iff_ne.2 c3) (beq_eq_false_iff_ne.2 c4) (beq_eq_false_iff_ne.2 c5) (beq_eq_false_iff_ne.2 c6) (beq_eq_false_iff_ne.2 c7) (beq_eq_false_iff_ne.2 c8)
end Go.Proofs.Ytpeleifkednmoaa.Da
end
section
namespace Go.Proofs.Ytpeleifkednmoaa.Da
open Go.ChangeShapes Go.WideShapes Go.ChangeAt Go.RowKit

def ConsAt (W1 : World) (a d : Dt) (i : Value) (wr : World) : Prop := ∃ j : Nat, j ≤ 2 ∧ i = .int .i64 (j : Int) ∧ Below W1.heap.size W1 wr ∧ (1 ≤ j → chk a = 0) ∧ (2 ≤ j → chk d = 0)
end Go.Proofs.Ytpeleifkednmoaa.Da
end
section
namespace Go.Proofs.Ytpeleifkednmoaa.Da
open Go.ChangeShapes Go.WideShapes Go.ChangeAt Go.RowKit

def fixD (n : Int) : Dt := .mk 1 n ⟨#[]⟩ [] [] []
def fixV (n : Int) : Value := .agg #[.int .i64 1, .int .i64 n, .string ⟨#[]⟩, .slice none 0 0, .slice none 0 0, .slice none 0 0]
theorem fix_isDt (w : World) (Q : Nat → Prop) (n : Int) (hn : (Lit.int .i64 n).wf = true) : IsDt w Q (fixD n) (fixV n) := by
  unfold fixD fixV
  simp only [IsDt, IsDts]
  exact ⟨rfl, hn, by show (0 : Nat) ≤ _; exact Nat.zero_le _, none, 0, _, 0, _, 0, rfl, ⟨rfl, Nat.le_refl _, by simp [maxLen], by simp, fun _ => rfl, by simp, fun k hk => absurd hk (Nat.not_lt_zero _)⟩, ⟨Nat.le_refl _, by simp [maxLen], by simp, fun _ => rfl⟩, trivial, ⟨Nat.le_refl _, by simp [maxLen], by simp, fun _ => rfl⟩, trivial⟩
def smallB (d : Dt) : Bool := decide ((d.S.size : Int) ≤ 5000) && decide ((d.M.length : Int) ≤ 5000) && decide ((d.L.length : Int) ≤ 5000) && decide ((d.T.length : Int) ≤ 5000)
theorem listD_chk : chk (listD [fixD 2]) = 0 ∧ chk (fixD 1) = 0 ∧ consE (fixD 1) (listD [fixD 2]) = 0 := by decide +kernel
theorem consD_is : consD (fixD 1) (listD [fixD 2]) = .mk 6 0 ⟨#[]⟩ [] [fixD 1, fixD 2] [] := rfl
theorem pairE_is : pairE (.mk 6 0 ⟨#[]⟩ [] [fixD 1, fixD 2] []) = 0 := by decide +kernel
theorem rest_is : restD (.mk 6 0 ⟨#[]⟩ [] [fixD 1, fixD 2] []) = listD [fixD 2] := rfl
theorem size_is : sizeD (.mk 6 0 ⟨#[]⟩ [] [fixD 1, fixD 2] []) = 3 ∧ deepD (.mk 6 0 ⟨#[]⟩ [] [fixD 1, fixD 2] []) = 2 := by decide +kernel
theorem sym_is : symB ⟨#[97, 45, 62, 98]⟩ = true := by decide +kernel
end Go.Proofs.Ytpeleifkednmoaa.Da
end
section
namespace Go.Proofs.Ytpeleifkednmoaa.Da
open Go.ChangeShapes Go.WideShapes Go.ChangeAt Go.RowKit

def up1 (x : Dt × Nat) : Dt × Nat := (x.1, x.2 + 1)
mutual
theorem nodes_up : ∀ (d : Dt) (i : Nat), nodes d (i + 1) = (nodes d i).map up1
  | .mk k n s m l t, i => by
    simp only [nodes, List.map_cons, List.map_append, nodesL_up l (i + 1), nodesL_up t (i + 1), up1]
theorem nodesL_up : ∀ (l : List Dt) (i : Nat), nodesL l (i + 1) = (nodesL l i).map up1
  | [], _ => by simp only [nodesL, List.map_nil]
  | d :: r, i => by simp only [nodesL, List.map_append, nodes_up d, nodesL_up r]
end
theorem maxD_foldl (l : List (Dt × Nat)) : ∀ a, l.foldl (fun a x => max a x.2) a = max a (maxD l) := by
  induction l with
  | nil => intro a; simp [maxD]
  | cons x r ih =>
    intro a
    have h := ih (max 0 x.2)
    unfold maxD
    simp only [List.foldl_cons]
    rw [ih (max a x.2), h]
    omega
theorem maxD_cons (x : Dt × Nat) (r : List (Dt × Nat)) : maxD (x :: r) = max x.2 (maxD r) := by
  show List.foldl _ _ _ = _
  rw [List.foldl_cons, maxD_foldl]; omega
theorem maxD_append (a b : List (Dt × Nat)) : maxD (a ++ b) = max (maxD a) (maxD b) := by
  show List.foldl _ _ _ = _
  rw [List.foldl_append, maxD_foldl]; rfl
theorem maxD_up : ∀ (l : List (Dt × Nat)), l ≠ [] → maxD (l.map up1) = maxD l + 1
  | [x], _ => by simp [maxD, up1]
  | x :: y :: r, _ => by
    have h := maxD_up (y :: r) (by simp)
    rw [List.map_cons, maxD_cons, h, maxD_cons x]
    show max (x.2 + 1) _ = _
    omega
theorem maxD_mem : ∀ (l : List (Dt × Nat)) (x : Dt × Nat), x ∈ l → x.2 ≤ maxD l
  | y :: r, x, h => by
    rw [maxD_cons]
    rcases List.mem_cons.1 h with rfl | h
    · omega
    · have := maxD_mem r x h; omega
theorem maxD_le : ∀ (l : List (Dt × Nat)) (k : Nat), (∀ x ∈ l, x.2 ≤ k) → maxD l ≤ k
  | [], k, _ => by simp [maxD]
  | y :: r, k, h => by
    rw [maxD_cons]
    have := maxD_le r k (fun x hx => h x (List.mem_cons_of_mem _ hx))
    have := h y (List.mem_cons_self ..)
    omega
/-- Where each part may be by itself, what is wrong is how many there are, or how deep they lie. -/
theorem errOf_sound : ∀ (l : List (Dt × Nat)) (c : Nat), c ≤ 4096 → (∀ x ∈ l, properB x.1 = true) → (errOf c l = 0 ∨ errOf c l = 3 ∨ errOf c l = 4) ∧ (errOf c l = 0 ↔ c + l.length ≤ 4096 ∧ ∀ x ∈ l, x.2 ≤ 64)
  | [], c, hc, _ => ⟨.inl rfl, by simpa [errOf] using hc⟩
  | x :: r, c, hc, hp => by
    have hx := hp x (List.mem_cons_self ..)
    have hr : ∀ y ∈ r, properB y.1 = true := fun y hy => hp y (List.mem_cons_of_mem _ hy)
    simp only [errOf]
    by_cases h1 : 64 < x.2
    · have hm : mErr c x.1 x.2 = 4 := by unfold mErr; rw [if_pos h1]
      rw [hm, if_neg (by decide)]
      refine ⟨.inr (.inr rfl), ⟨fun h => absurd h (by decide), fun h => ?_⟩⟩
      have := h.2 x (List.mem_cons_self ..)
      omega
    · by_cases h2 : c = 4096
      · have hm : mErr c x.1 x.2 = 3 := by unfold mErr; rw [if_neg h1, if_pos h2]
        rw [hm, if_neg (by decide)]
        refine ⟨.inr (.inl rfl), ⟨fun h => absurd h (by decide), fun h => ?_⟩⟩
        have h3 := h.1
        rw [List.length_cons] at h3
        omega
      · have hm : mErr c x.1 x.2 = 0 := by unfold mErr; rw [if_neg h1, if_neg h2, if_pos hx]
        rw [hm, if_pos rfl]
        obtain ⟨i1, i2⟩ := errOf_sound r (c + 1) (by omega) hr
        refine ⟨i1, i2.trans ⟨fun h => ⟨by rw [List.length_cons]; omega, fun y hy => ?_⟩, fun h => ⟨by have := h.1; rw [List.length_cons] at this; omega, fun y hy => h.2 y (List.mem_cons_of_mem _ hy)⟩⟩⟩
        rcases List.mem_cons.1 hy with rfl | hy
        · omega
        · exact h.2 y hy
theorem errOf_proper : ∀ (l : List (Dt × Nat)) (c : Nat), errOf c l = 0 → ∀ x ∈ l, properB x.1 = true ∧ x.2 ≤ 64
  | x :: r, c, h, y, hy => by
    simp only [errOf] at h
    by_cases hx : mErr c x.1 x.2 = 0
    · rw [if_pos hx] at h
      rcases List.mem_cons.1 hy with rfl | hy
      · exact ⟨(mErr_zero hx).2.2, (mErr_zero hx).1⟩
      · exact errOf_proper r (c + 1) h y hy
    · rw [if_neg hx] at h
      exact absurd h hx
theorem listD_proper (l : List Dt) : properB (listD l) = true := by
  simp [properB, listD, properOf, Dt.K, Dt.N, Dt.S, Dt.M, Dt.T, nil2, ByteArray.toList_eq]
def sumD (l : List Dt) : Int := (l.map sizeD).foldl (· + ·) 0
def topD (l : List Dt) : Int := (l.map deepD).foldl max 0
theorem sumD_snoc (l : List Dt) (d : Dt) : sumD (l ++ [d]) = sumD l + sizeD d := by simp [sumD]
theorem topD_snoc (l : List Dt) (d : Dt) : topD (l ++ [d]) = max (topD l) (deepD d) := by simp [topD]
theorem sizeD_ok {d : Dt} (h : chk d = 0) : sizeD d = cnt d ∧ deepD d = maxD (nodes d 1) ∧ cnt d ≤ 4096 ∧ maxD (nodes d 1) ≤ 64 ∧ 0 < maxD (nodes d 1) := by
  have h0 := chk_zero.1 h
  refine ⟨?_, ?_, chk_cnt h, maxD_le _ _ fun x hx => (errOf_proper _ _ h0 x hx).2, ?_⟩
  · unfold sizeD meas; rw [if_pos h0, nodes_len]
  · unfold deepD meas; rw [if_pos h0]
  · rw [nodes_eq, maxD_cons]; show 0 < max 1 _; omega
theorem sizeD_bad {d : Dt} (h : chk d ≠ 0) : sizeD d = 0 := by
  have h0 : ¬ errOf 0 (nodes d 1) = 0 := fun e => h (chk_zero.2 e)
  unfold sizeD meas; rw [if_neg h0]
theorem chk_err (d : Dt) : chk d = errOf 0 (nodes d 1) := by
  unfold chk meas
  by_cases h : errOf 0 (nodes d 1) = 0
  · rw [if_pos h, h]
  · rw [if_neg h]
/-- The sums, in the parts. -/
theorem sums_take (l : List Dt) : ∀ j, j ≤ l.length → (∀ d ∈ l.take j, chk d = 0) → sumD (l.take j) = (cntL (l.take j) : Int) ∧ topD (l.take j) = (maxD (nodesL (l.take j) 1) : Int) ∧ (cntL (l.take j) ≤ 4096 * j) ∧ maxD (nodesL (l.take j) 1) ≤ 64 := by
  intro j
  induction j with
  | zero => intro _ _; simp [sumD, topD, cntL, nodesL, maxD]
  | succ j ih =>
    intro hj h
    obtain ⟨d, hd⟩ : ∃ d, l[j]? = some d := ⟨l[j], by simp⟩
    rw [take_snoc_dt l j d hd] at h ⊢
    obtain ⟨h1, h2, h3, h4⟩ := ih (by omega) (fun x hx => h x (by simp [hx]))
    obtain ⟨s1, s2, s3, s4, s5⟩ := sizeD_ok (h d (by simp))
    have hc : cntL [d] = cnt d := by simp [cntL]
    have hn : nodesL [d] 1 = nodes d 1 := by simp [nodesL]
    rw [sumD_snoc, topD_snoc, cntL_append, nodesL_append, maxD_append, hc, hn, h1, h2, s1, s2]
    exact ⟨by omega, by omega, by omega, by omega⟩
theorem sums (l : List Dt) (h : ∀ d ∈ l, chk d = 0) : sumD l = (cntL l : Int) ∧ topD l = (maxD (nodesL l 1) : Int) ∧ (cntL l ≤ 4096 * l.length) ∧ maxD (nodesL l 1) ≤ 64 := by
  have := sums_take l l.length (Nat.le_refl _)
  rw [List.take_length] at this
  exact this h
theorem parts_math (l : List Dt) (h : ∀ d ∈ l, chk d = 0) :
    ((1 + sumD l > 4096 ∨ topD l ≥ 64) → (chk (listD l) = 3 ∨ chk (listD l) = 4) ∧ sizeD (listD l) = 0) ∧
    (¬ (1 + sumD l > 4096 ∨ topD l ≥ 64) → chk (listD l) = 0 ∧ sizeD (listD l) = 1 + sumD l ∧ deepD (listD l) = topD l + 1) := by
  obtain ⟨h1, h2, _, _⟩ := sums l h
  have hn : nodes (listD l) 1 = (listD l, 1) :: (nodesL l 1).map up1 := by
    rw [nodes_eq, show (listD l).L = l from rfl, show (listD l).T = [] from rfl, nodesL_nil, List.append_nil, nodesL_up]
  have hp : ∀ x ∈ nodesL l 1, properB x.1 = true := by
    intro x hx
    have key : ∀ l : List Dt, (∀ d ∈ l, chk d = 0) → x ∈ nodesL l 1 → properB x.1 = true := by
      intro l
      induction l with
      | nil => intro _ hx; simp [nodesL] at hx
      | cons d r ih =>
        intro h hx
        rw [nodesL_cons] at hx
        rcases List.mem_append.1 hx with hx | hx
        · exact (errOf_proper _ _ (chk_zero.1 (h d (by simp))) x hx).1
        · exact ih (fun y hy => h y (by simp [hy])) hx
    exact key l h hx
  have hs := errOf_sound (nodes (listD l) 1) 0 (by omega) (by
    rw [hn]
    intro x hx
    rcases List.mem_cons.1 hx with rfl | hx
    · exact listD_proper l
    · obtain ⟨y, hy, rfl⟩ := List.mem_map.1 hx
      exact hp y hy)
  rw [← chk_err] at hs
  have hlen : (nodes (listD l) 1).length = 1 + cntL l := by rw [hn, List.length_cons, List.length_map, nodesL_len]; omega
  have hdeep : (∀ x ∈ nodes (listD l) 1, x.2 ≤ 64) ↔ maxD (nodesL l 1) < 64 := by
    rw [hn]
    constructor
    · intro hx
      have := maxD_le (nodesL l 1) 63 (fun y hy => by have := hx (up1 y) (List.mem_cons_of_mem _ (List.mem_map_of_mem hy)); simp only [up1] at this; omega)
      omega
    · intro hx y hy
      rcases List.mem_cons.1 hy with rfl | hy
      · show (1 : Nat) ≤ 64; omega
      · obtain ⟨z, hz, rfl⟩ := List.mem_map.1 hy
        have := maxD_mem _ z hz
        simp only [up1]; omega
  obtain ⟨hs1, hs2⟩ := hs
  rw [hlen, hdeep] at hs2
  refine ⟨fun hb => ?_, fun hb => ?_⟩
  · have hne : chk (listD l) ≠ 0 := fun e => by have := hs2.1 e; omega
    exact ⟨hs1.resolve_left hne, sizeD_bad hne⟩
  · have h0 : chk (listD l) = 0 := hs2.2 (by omega)
    obtain ⟨s1, s2, _⟩ := sizeD_ok h0
    refine ⟨h0, by rw [s1, h1, ← nodes_len _ 1, hlen]; omega, ?_⟩
    rw [s2, hn, h2, maxD_cons]
    by_cases he : nodesL l 1 = []
    · rw [he]; simp [maxD]
    · rw [maxD_up _ he]
      show ((max 1 (maxD (nodesL l 1) + 1) : Nat) : Int) = _
      omega
end Go.Proofs.Ytpeleifkednmoaa.Da
end
section
namespace Go.Proofs.Ytpeleifkednmoaa.Da
open Go.ChangeShapes Go.WideShapes Go.ChangeAt Go.RowKit

mutual
def eqD : Dt → Dt → Bool
  | .mk k n s m l t, b => k == b.K && (n == b.N && (s.toList == b.S.toList && (m == b.M && (eqL l b.L && eqL t b.T))))
def eqL : List Dt → List Dt → Bool
  | [], [] => true
  | x :: r, y :: q => eqD x y && eqL r q
  | _, _ => false
end
theorem eqD_eq (a b : Dt) : eqD a b = (a.K == b.K && (a.N == b.N && (a.S.toList == b.S.toList && (a.M == b.M && (eqL a.L b.L && eqL a.T b.T))))) := by
  cases a; simp only [eqD, Dt.K, Dt.N, Dt.S, Dt.M, Dt.L, Dt.T]
mutual
theorem eqD_refl : ∀ a : Dt, eqD a a = true
  | .mk k n s m l t => by
    simp only [eqD, Dt.K, Dt.N, Dt.S, Dt.M, Dt.L, Dt.T, eqL_refl l, eqL_refl t, beq_self_eq_true, Bool.and_self]
theorem eqL_refl : ∀ l : List Dt, eqL l l = true
  | [] => by simp only [eqL]
  | x :: r => by simp only [eqL, eqD_refl x, eqL_refl r, Bool.and_self]
end
theorem eqL_len : ∀ {l r : List Dt}, eqL l r = true → l.length = r.length
  | [], [], _ => rfl
  | x :: l, y :: r, h => by
    simp only [eqL, Bool.and_eq_true] at h
    rw [List.length_cons, List.length_cons, eqL_len h.2]
  | [], _ :: _, h => by simp [eqL] at h
  | _ :: _, [], h => by simp [eqL] at h
theorem eqL_all : ∀ {l r : List Dt}, l.length = r.length → (∀ (j : Nat) (x y : Dt), l[j]? = some x → r[j]? = some y → eqD x y = true) → eqL l r = true
  | [], [], _, _ => by simp only [eqL]
  | x :: l, y :: r, h, ha => by
    have h1 : l.length = r.length := by simpa using h
    simp only [eqL, ha 0 x y rfl rfl, eqL_all h1 (fun j x y hx hy => ha (j + 1) x y (by simpa using hx) (by simpa using hy)), Bool.and_self]
theorem eqL_not : ∀ {l r : List Dt} {j : Nat} {x y : Dt}, l[j]? = some x → r[j]? = some y → eqD x y = false → eqL l r = false
  | a :: l, b :: r, 0, x, y, hx, hy, h => by
    obtain rfl : a = x := by simpa using hx
    obtain rfl : b = y := by simpa using hy
    simp only [eqL, h, Bool.false_and]
  | a :: l, b :: r, j + 1, x, y, hx, hy, h => by
    simp only [eqL, eqL_not (l := l) (r := r) (j := j) (by simpa using hx) (by simpa using hy) h, Bool.and_false]
  | [], _, _, _, _, hx, _, _ => by simp at hx
  | _ :: _, [], _, _, _, _, hy, _ => by simp at hy
theorem bel_drewN (w : World) (q : Nat) : Below w.heap.size w (w.drewN q) := ⟨rfl, rfl, rfl, Nat.le_refl _, fun _ _ => rfl⟩
def EqAt (W1 : World) (l r : List Dt) (i : Value) (wr : World) : Prop := ∃ j : Nat, j ≤ l.length ∧ i = .int .i64 (j : Int) ∧ Below W1.heap.size W1 wr ∧ ∀ k x y, k < j → l[k]? = some x → r[k]? = some y → eqD x y = true
theorem rows_below {w w' : World} {B : Nat} {a : Option Addr} {n c : Nat} {zs : List Int} (h : IntRow w (Lo B) a n c zs) (hb : Below B w w') : IntRow w' (Lo B) a n c zs := by
  obtain ⟨h1, h2, h3, h4, h5, h6, h7⟩ := h
  refine ⟨h1, h2, h3, h4, h5, h6, fun k hk => ?_⟩
  obtain ⟨b, off, e, hq, hc⟩ := h7 k hk
  exact ⟨b, off, e, hq, (hb.cell (p := ⟨b, off + k, none⟩) hq).trans hc⟩
end Go.Proofs.Ytpeleifkednmoaa.Da
end
