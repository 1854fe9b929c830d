/- P2.2: the parts of a datum, as far as one goes through them: the walk. -/
import Derived.Test.YteddfdhbpgbloaaDatTold3
import Derived.Test.YteddfdhbpgbloaaDatRSame
import Derived.Test.YteddfdhbpgbloaaDatAwake
import Derived.Test.YteddfdhbpgbloaaDatHalvesMath
import Derived.IntWalk
namespace Go.Proofs.Yteddfdhbpgbloaa.Da
open Go.ChangeShapes Go.WideShapes Go.ChangeAt Go.RowKit Go.Shelf
set_option linter.unusedVariables false
set_option linter.unusedSimpArgs false

theorem parts_len (d : Dt) : (partsD d).length ≤ 4096 := by
  unfold partsD
  by_cases h : chk d = 0
  · rw [if_pos h, nodes_len]; exact chk_cnt h
  · rw [if_neg h]; exact Nat.zero_le _
mutual
theorem nodes_shift : ∀ (d : Dt) (i k : Nat), nodes d (i + k) = (nodes d i).map (fun x => (x.1, x.2 + k))
  | .mk kk n s m l t, i, k => by
    rw [nodes_eq, nodes_eq (.mk kk n s m l t) i]
    simp only [Dt.L, Dt.T, List.map_cons, List.map_append]
    rw [show i + k + 1 = i + 1 + k by omega, nodesL_shift l (i + 1) k, nodesL_shift t (i + 1) k]
theorem nodesL_shift : ∀ (l : List Dt) (i k : Nat), nodesL l (i + k) = (nodesL l i).map (fun x => (x.1, x.2 + k))
  | [], i, k => by rw [nodesL_nil, nodesL_nil]; rfl
  | d :: r, i, k => by rw [nodesL_cons, nodesL_cons, List.map_append, nodes_shift d i k, nodesL_shift r i k]
end
theorem nodes_sub (d : Dt) : ∀ (i : Nat) (x : Dt × Nat), x ∈ nodes d i → i ≤ x.2 ∧ ∀ y ∈ nodes x.1 x.2, y ∈ nodes d i := by
  induction d using Dt.ind with | h k n s m l t ihl iht =>
  intro i x hx
  rw [nodes_eq] at hx
  rcases List.mem_cons.1 hx with rfl | hx
  · exact ⟨Nat.le_refl _, fun y hy => hy⟩
  · simp only [Dt.L, Dt.T] at hx
    rcases List.mem_append.1 hx with hx | hx
    · obtain ⟨z, h1, h2⟩ := mem_nodesL' hx
      obtain ⟨h3, h4⟩ := ihl z h1 _ _ h2
      exact ⟨by omega, fun y hy => by rw [nodes_eq]; simp only [Dt.L, Dt.T]; exact List.mem_cons_of_mem _ (List.mem_append_left _ (mem_nodesL h1 (h4 y hy)))⟩
    · obtain ⟨z, h1, h2⟩ := mem_nodesL' hx
      obtain ⟨h3, h4⟩ := iht z h1 _ _ h2
      exact ⟨by omega, fun y hy => by rw [nodes_eq]; simp only [Dt.L, Dt.T]; exact List.mem_cons_of_mem _ (List.mem_append_right _ (mem_nodesL h1 (h4 y hy)))⟩
/-- A part of a datum that may be may be. -/
theorem part_chk {d : Dt} {x : Dt × Nat} (hx : x ∈ partsD d) : chk x.1 = 0 := by
  unfold partsD at hx
  by_cases h : chk d = 0
  · rw [if_pos h] at hx
    obtain ⟨h1, h2⟩ := (chk_iff d).1 h
    obtain ⟨h3, h4⟩ := nodes_sub d 1 x hx
    refine (chk_iff x.1).2 ⟨fun y hy => ?_, Nat.le_trans (nodes_cnt d 1 x hx) h2⟩
    have hs := nodes_shift x.1 1 (x.2 - 1)
    rw [show 1 + (x.2 - 1) = x.2 by omega] at hs
    have := h1 (y.1, y.2 + (x.2 - 1)) (h4 _ (by rw [hs]; exact List.mem_map_of_mem hy))
    exact ⟨this.1, by have := this.2; simp only at this; omega⟩
  · rw [if_neg h] at hx; cases hx
theorem same_self {d : Dt} {x : Dt × Nat} (hx : x ∈ partsD d) : ((chk x.1 == 0) && eqD x.1 x.1) = true := by rw [part_chk hx, eqD_refl]; rfl
/-- A row of parts that was collected. -/
structure RowN (B : Nat) (ds : List Dt) (ys : List Ne) (a : Option Addr) (c : Nat) (w : World) : Prop where
  mk ::
  own : w.ownsRow B 25 6 (.slice a ys.length c) ys.length (cellsN ys)
  ds : ys.map Ne.d = ds
  dt : ∀ y ∈ ys, IsDt w (Lo w.heap.size) y.d y.v
theorem own_bel {w w' : World} {B e sz : Nat} {a : Option Addr} {n c : Nat} {xs : List Value} (h : w.ownsRow B e sz (.slice a n c) n xs) (hb : Below w.heap.size w w') : w'.ownsRow B e sz (.slice a n c) n xs := by
  rcases h.2 with ⟨h1, _⟩ | ⟨g, cap, cur, h1, _⟩
  · rw [h1] at h ⊢; exact h.kept (Rg.grown_of_below hb) (.inl rfl)
  · rw [h1] at h ⊢; exact h.kept (Rg.grown_of_below hb) (.inr (by simp [Value.ownBlock]))
theorem row_up {B : Nat} {ds : List Dt} {ys : List Ne} {a : Option Addr} {c : Nat} {w w' : World} (h : RowN B ds ys a c w) (hb : Below w.heap.size w w') : RowN B ds ys a c w' := ⟨own_bel h.own hb, h.ds, fun y hy => (h.dt y hy).up hb⟩
theorem cellsN_at : ∀ (l : List Ne) (i : Nat) (y : Ne), l[i]? = some y → ∀ j, j < 6 → (cellsN l)[i * 6 + j]? = y.cells[j]?
  | [], i, y, h, j, hj => by simp at h
  | t :: r, 0, y, h, j, hj => by
    obtain rfl : t = y := by simpa using h
    rw [cellsN, List.flatMap_cons, List.getElem?_append_left (by show 0 * 6 + j < 6; omega)]
    simp
  | t :: r, i + 1, y, h, j, hj => by
    rw [cellsN, List.flatMap_cons, List.getElem?_append_right (by show 6 ≤ _; omega)]
    have := cellsN_at r i y (by simpa using h) j hj
    rw [show (i + 1) * 6 + j - t.cells.length = i * 6 + j from by show _ - 6 = _; omega]
    exact this
theorem own_rowf {w : World} {B e sz : Nat} {a : Option Addr} {n c : Nat} {xs : List Value} (h : w.ownsRow B e sz (.slice a n c) n xs) (hn : 0 < n) : ∃ g, a = some ⟨g, 0, none⟩ ∧ n ≤ c ∧ g < w.heap.size ∧ ∀ j u, xs[j]? = some u → w.cell? ⟨g, j, none⟩ = some u := by
  rcases h.2 with ⟨h1, h0⟩ | ⟨g, cap, cur, h1, h2, h3, h4, _⟩
  · omega
  · injection h1 with e1 e2 e3
    subst e1
    subst e3
    refine ⟨g, rfl, h4, (Array.getElem?_eq_some_iff.1 h3).1, fun j u hu => ?_⟩
    have := h.cells rfl j u hu
    rwa [show (⟨g, 0, none⟩ : Addr).add j = ⟨g, j, none⟩ by unfold Addr.add; split <;> simp_all] at this
theorem RowN.at_ {B : Nat} {ds : List Dt} {ys : List Ne} {a : Option Addr} {c : Nat} {w : World} (h : RowN B ds ys a c w) (j : Nat) (hj : j < ys.length) (dj : Dt) (hd : ds[j]? = some dj) :
    ∃ g a1 a2 a3 e1 e2 e3, a = some ⟨g, 0, none⟩ ∧ g < w.heap.size ∧ w.cell? ⟨g, j * 6, none⟩ = some (.int .i64 dj.K) ∧ w.cell? ⟨g, j * 6 + 1, none⟩ = some (.int .i64 dj.N) ∧ w.cell? ⟨g, j * 6 + 2, none⟩ = some (.string dj.S) ∧ w.cell? ⟨g, j * 6 + 3, none⟩ = some (.slice a1 dj.M.length e1) ∧ w.cell? ⟨g, j * 6 + 4, none⟩ = some (.slice a2 dj.L.length e2) ∧ w.cell? ⟨g, j * 6 + 5, none⟩ = some (.slice a3 dj.T.length e3) ∧ IsDt w (Lo w.heap.size) dj (.agg #[.int .i64 dj.K, .int .i64 dj.N, .string dj.S, .slice a1 dj.M.length e1, .slice a2 dj.L.length e2, .slice a3 dj.T.length e3]) := by
  obtain ⟨g, ha, _, hg, hc⟩ := own_rowf h.own (by omega)
  obtain ⟨y, hy⟩ : ∃ y, ys[j]? = some y := ⟨ys[j], by simp [hj]⟩
  have he : y.d = dj := by
    have := h.ds
    rw [← this, List.getElem?_map, hy] at hd
    simpa using hd
  subst he
  exact ⟨g, y.am, y.al, y.at_, y.cm, y.cl, y.ct, ha, hg, hc (j * 6 + 0) _ (cellsN_at ys j y hy 0 (by decide)), hc (j * 6 + 1) _ (cellsN_at ys j y hy 1 (by decide)), hc (j * 6 + 2) _ (cellsN_at ys j y hy 2 (by decide)), hc (j * 6 + 3) _ (cellsN_at ys j y hy 3 (by decide)), hc (j * 6 + 4) _ (cellsN_at ys j y hy 4 (by decide)), hc (j * 6 + 5) _ (cellsN_at ys j y hy 5 (by decide)), h.dt y (List.mem_of_getElem? hy)⟩
/-- A row of parts that the document tells. -/
def PartsRow (d : Dt) (pv : Option Addr) (pc : Nat) (w : World) : Prop := ∃ B xs, w.ownsRow B 25 6 (.slice pv (partsD d).length pc) (partsD d).length xs ∧ PartsIs w B (partsD d) xs ∧ B ≤ w.heap.size
theorem parts_up {d : Dt} {pv : Option Addr} {pc : Nat} {w w' : World} (h : PartsRow d pv pc w) (hb : Below w.heap.size w w') : PartsRow d pv pc w' := by
  obtain ⟨B, xs, h1, h2, h3⟩ := h
  exact ⟨B, xs, own_bel h1 hb, h2.below (hb.mono h3), Nat.le_trans h3 hb.size⟩
theorem PartsRow.at_ {d : Dt} {pv : Option Addr} {pc : Nat} {w : World} (h : PartsRow d pv pc w) (j : Nat) (x : Dt × Nat) (hx : (partsD d)[j]? = some x) :
    ∃ g a1 a2 a3 e1 e2 e3, pv = some ⟨g, 0, none⟩ ∧ g < w.heap.size ∧ w.cell? ⟨g, j * 6, none⟩ = some (.int .i64 x.1.K) ∧ w.cell? ⟨g, j * 6 + 1, none⟩ = some (.int .i64 x.1.N) ∧ w.cell? ⟨g, j * 6 + 2, none⟩ = some (.string x.1.S) ∧ w.cell? ⟨g, j * 6 + 3, none⟩ = some (.slice a1 x.1.M.length e1) ∧ w.cell? ⟨g, j * 6 + 4, none⟩ = some (.slice a2 x.1.L.length e2) ∧ w.cell? ⟨g, j * 6 + 5, none⟩ = some (.slice a3 x.1.T.length e3) ∧ IsDt w (Lo w.heap.size) x.1 (.agg #[.int .i64 x.1.K, .int .i64 x.1.N, .string x.1.S, .slice a1 x.1.M.length e1, .slice a2 x.1.L.length e2, .slice a3 x.1.T.length e3]) := by
  obtain ⟨B, xs, h1, h2, h3⟩ := h
  obtain ⟨x0, x1, x2, x3, x4, x5, g0, g1, g2, g3, g4, g5, hd⟩ := h2 j x hx
  have hj : j < (partsD d).length := (List.getElem?_eq_some_iff.1 hx).1
  obtain ⟨g, ha, _, hg, hc⟩ := own_rowf h1 (by omega)
  have hd' : IsDt w (Lo w.heap.size) x.1 _ := hd.more (fun i hi => Nat.lt_of_lt_of_le hi h3)
  obtain ⟨am, cm, al, cl, at_, ct, hv, _⟩ := hd.open_
  injection hv with hv
  simp only [Array.mk.injEq, List.cons.injEq, and_true] at hv
  obtain ⟨rfl, rfl, rfl, rfl, rfl, rfl⟩ := hv
  exact ⟨g, am, al, at_, cm, cl, ct, ha, hg, hc _ _ g0, hc _ _ g1, hc _ _ g2, hc _ _ g3, hc _ _ g4, hc _ _ g5, hd'⟩
/-- Whatever All answers, what is collected of it is known. -/
theorem all_form {d : Dt} {w : World} {e : Ending} {w' : World} (h : (chk d ≠ 0 ∧ e = .returned (.func (.func 38) #[] #[])) ∨ (chk d = 0 ∧ ∃ g am al at_ cm cl ct, e = .returned (.func (.func 40) #[] #[.pointer (some ⟨g, 0, none⟩)]) ∧ w.heap.size ≤ g ∧
      w'.heap[g]? = some (.cells #[.int .i64 d.K, .int .i64 d.N, .string d.S, .slice am d.M.length cm, .slice al d.L.length cl, .slice at_ d.T.length ct] 25 (0, 0)) ∧ IsDt w' (fun i => i < w'.heap.size) d (.agg #[.int .i64 d.K, .int .i64 d.N, .string d.S, .slice am d.M.length cm, .slice al d.L.length cl, .slice at_ d.T.length ct]))) :
    ∃ f caps, e = .returned (.func (.func f) #[] caps) ∧ ∀ m, m ≤ 1048576 → Calls Try.prog 11 #[.func (.func f) #[] caps, .int .i64 ((m : Nat) : Int)] w' (PartsR w'.heap.size (((partsD d).map Prod.fst).take m) w') := by
  rcases h with ⟨h0, rfl⟩ | ⟨h0, g, am, al, at_, cm, cl, ct, rfl, _, hg, hd⟩
  · refine ⟨_, _, rfl, fun m hm => ?_⟩
    have hp : partsD d = [] := by unfold partsD; rw [if_neg h0]
    rw [hp, List.map_nil, List.take_nil]
    exact told_none m hm w'
  · exact ⟨_, _, rfl, fun m hm => told_all m hm w' d g am al at_ cm cl ct h0 hg hd⟩
def WalksAt (n : Nat) (W1 : World) (i : Value) (wr : World) : Prop := ∃ j : Nat, j ≤ n ∧ i = .int .i64 (j : Int) ∧ Below W1.heap.size W1 wr
theorem bel_drew' (w : World) : Below w.heap.size w w.drew := ⟨rfl, rfl, rfl, Nat.le_refl _, fun _ _ => rfl⟩
set_option maxRecDepth 100000 in
set_option maxHeartbeats 16000000 in
theorem dwalks_law (d : Dt) (v : Value) (m : Nat) (w : World) (hd : IsDt w (Lo w.heap.size) d v) (hm : m ≤ 255) :
    Calls Try.prog 3 #[v, .int .u8 (m : Int)] w fun e w' => e = .returned (.bool true) ∧ Below w.heap.size w w' := by
  have hd' := hd
  obtain ⟨am, cm, al, cl, at_, ct, rfl, _⟩ := hd'.open_
  have HD := Lib.hid hd
  clear hd hd'
  obtain ⟨sd, hsd⟩ : ∃ c, smallB d = c := ⟨_, rfl⟩
  have Sd := Lib.hid hsd
  clear hsd
  have hX : Below w.heap.size w (w.alloc (.cells #[.int .i64 d.K, .int .i64 d.N, .string d.S, .slice am d.M.length cm, .slice al d.L.length cl, .slice at_ d.T.length ct] 25)) := bel_alloc _ _
  have hblk := heap_alloc_new w (.cells #[.int .i64 d.K, .int .i64 d.N, .string d.S, .slice am d.M.length cm, .slice al d.L.length cl, .slice at_ d.T.length ct] 25)
  cases sd
  · go_enter Try.func3, Try.ntmps3
    go_wp2_with fail
    generalize w.alloc (.cells #[.int .i64 d.K, .int .i64 d.N, .string d.S, .slice am d.M.length cm, .slice al d.L.length cl, .slice at_ d.T.length ct] 25) = X at *
    have y0 : X.cell? ⟨w.heap.size, 0, none⟩ = some (.int .i64 d.K) := by rw [World.cell?, hblk]; rfl
    have y1 : X.cell? ⟨w.heap.size, 1, none⟩ = some (.int .i64 d.N) := by rw [World.cell?, hblk]; rfl
    have y2 : X.cell? ⟨w.heap.size, 2, none⟩ = some (.string d.S) := by rw [World.cell?, hblk]; rfl
    have y3 : X.cell? ⟨w.heap.size, 3, none⟩ = some (.slice am d.M.length cm) := by rw [World.cell?, hblk]; rfl
    have y4 : X.cell? ⟨w.heap.size, 4, none⟩ = some (.slice al d.L.length cl) := by rw [World.cell?, hblk]; rfl
    have y5 : X.cell? ⟨w.heap.size, 5, none⟩ = some (.slice at_ d.T.length ct) := by rw [World.cell?, hblk]; rfl
    have zd : w.heap.size < X.heap.size := (Array.getElem?_eq_some_iff.1 hblk).1
    replace HD := Lib.hid (HD.out.up hX)
    have HW := Lib.hid hX
    clear hX hblk
    refine (awake_any _).mono ?_
    rintro e w1 ⟨rfl, hb⟩
    replace y0 := (hb.cell (p := ⟨w.heap.size, 0, none⟩) zd).trans y0
    replace y1 := (hb.cell (p := ⟨w.heap.size, 1, none⟩) zd).trans y1
    replace y2 := (hb.cell (p := ⟨w.heap.size, 2, none⟩) zd).trans y2
    replace y3 := (hb.cell (p := ⟨w.heap.size, 3, none⟩) zd).trans y3
    replace y4 := (hb.cell (p := ⟨w.heap.size, 4, none⟩) zd).trans y4
    replace y5 := (hb.cell (p := ⟨w.heap.size, 5, none⟩) zd).trans y5
    replace zd : w.heap.size < w1.heap.size := Nat.lt_of_lt_of_le zd hb.size
    replace HD := Lib.hid (HD.out.up hb)
    replace HW := Lib.hid (bel_trans HW.out hb)
    clear hb
    go_wp2_with fail
    refine (small_any d _ _ _ HD.out (Nat.le_refl _)).mono ?_
    rintro e w2 ⟨rfl, hb⟩
    replace y0 := (hb.cell (p := ⟨w.heap.size, 0, none⟩) zd).trans y0
    replace y1 := (hb.cell (p := ⟨w.heap.size, 1, none⟩) zd).trans y1
    replace y2 := (hb.cell (p := ⟨w.heap.size, 2, none⟩) zd).trans y2
    replace y3 := (hb.cell (p := ⟨w.heap.size, 3, none⟩) zd).trans y3
    replace y4 := (hb.cell (p := ⟨w.heap.size, 4, none⟩) zd).trans y4
    replace y5 := (hb.cell (p := ⟨w.heap.size, 5, none⟩) zd).trans y5
    replace zd : w.heap.size < w2.heap.size := Nat.lt_of_lt_of_le zd hb.size
    replace HD := Lib.hid (HD.out.up hb)
    replace HW := Lib.hid (bel_trans HW.out hb)
    rw [Sd.out]
    clear hb
    go_wp2_with fail
    refine (awake_any _).mono ?_
    rintro e w3 ⟨rfl, hb⟩
    replace y0 := (hb.cell (p := ⟨w.heap.size, 0, none⟩) zd).trans y0
    replace y1 := (hb.cell (p := ⟨w.heap.size, 1, none⟩) zd).trans y1
    replace y2 := (hb.cell (p := ⟨w.heap.size, 2, none⟩) zd).trans y2
    replace y3 := (hb.cell (p := ⟨w.heap.size, 3, none⟩) zd).trans y3
    replace y4 := (hb.cell (p := ⟨w.heap.size, 4, none⟩) zd).trans y4
    replace y5 := (hb.cell (p := ⟨w.heap.size, 5, none⟩) zd).trans y5
    replace zd : w.heap.size < w3.heap.size := Nat.lt_of_lt_of_le zd hb.size
    replace HD := Lib.hid (HD.out.up hb)
    replace HW := Lib.hid (bel_trans HW.out hb)
    clear hb
    go_wp2_with fail
    go_ret
    exact ⟨rfl, HW.out⟩
  · go_enter Try.func3, Try.ntmps3
    go_wp2_with fail
    generalize w.alloc (.cells #[.int .i64 d.K, .int .i64 d.N, .string d.S, .slice am d.M.length cm, .slice al d.L.length cl, .slice at_ d.T.length ct] 25) = X at *
    have y0 : X.cell? ⟨w.heap.size, 0, none⟩ = some (.int .i64 d.K) := by rw [World.cell?, hblk]; rfl
    have y1 : X.cell? ⟨w.heap.size, 1, none⟩ = some (.int .i64 d.N) := by rw [World.cell?, hblk]; rfl
    have y2 : X.cell? ⟨w.heap.size, 2, none⟩ = some (.string d.S) := by rw [World.cell?, hblk]; rfl
    have y3 : X.cell? ⟨w.heap.size, 3, none⟩ = some (.slice am d.M.length cm) := by rw [World.cell?, hblk]; rfl
    have y4 : X.cell? ⟨w.heap.size, 4, none⟩ = some (.slice al d.L.length cl) := by rw [World.cell?, hblk]; rfl
    have y5 : X.cell? ⟨w.heap.size, 5, none⟩ = some (.slice at_ d.T.length ct) := by rw [World.cell?, hblk]; rfl
    have zd : w.heap.size < X.heap.size := (Array.getElem?_eq_some_iff.1 hblk).1
    replace HD := Lib.hid (HD.out.up hX)
    have HW := Lib.hid hX
    clear hX hblk
    refine (awake_any _).mono ?_
    rintro e w1 ⟨rfl, hb⟩
    replace y0 := (hb.cell (p := ⟨w.heap.size, 0, none⟩) zd).trans y0
    replace y1 := (hb.cell (p := ⟨w.heap.size, 1, none⟩) zd).trans y1
    replace y2 := (hb.cell (p := ⟨w.heap.size, 2, none⟩) zd).trans y2
    replace y3 := (hb.cell (p := ⟨w.heap.size, 3, none⟩) zd).trans y3
    replace y4 := (hb.cell (p := ⟨w.heap.size, 4, none⟩) zd).trans y4
    replace y5 := (hb.cell (p := ⟨w.heap.size, 5, none⟩) zd).trans y5
    replace zd : w.heap.size < w1.heap.size := Nat.lt_of_lt_of_le zd hb.size
    replace HD := Lib.hid (HD.out.up hb)
    replace HW := Lib.hid (bel_trans HW.out hb)
    clear hb
    go_wp2_with fail
    refine (small_any d _ _ _ HD.out (Nat.le_refl _)).mono ?_
    rintro e w2 ⟨rfl, hb⟩
    replace y0 := (hb.cell (p := ⟨w.heap.size, 0, none⟩) zd).trans y0
    replace y1 := (hb.cell (p := ⟨w.heap.size, 1, none⟩) zd).trans y1
    replace y2 := (hb.cell (p := ⟨w.heap.size, 2, none⟩) zd).trans y2
    replace y3 := (hb.cell (p := ⟨w.heap.size, 3, none⟩) zd).trans y3
    replace y4 := (hb.cell (p := ⟨w.heap.size, 4, none⟩) zd).trans y4
    replace y5 := (hb.cell (p := ⟨w.heap.size, 5, none⟩) zd).trans y5
    replace zd : w.heap.size < w2.heap.size := Nat.lt_of_lt_of_le zd hb.size
    replace HD := Lib.hid (HD.out.up hb)
    replace HW := Lib.hid (bel_trans HW.out hb)
    rw [Sd.out]
    clear hb
    go_wp2_with fail
    refine (rall_any d _ _ _ HD.out (Nat.le_refl _)).mono ?_
    rintro e w3 ⟨pv, pc, pxs, rfl, hb, hpo, hpp⟩
    replace y0 := (hb.cell (p := ⟨w.heap.size, 0, none⟩) zd).trans y0
    replace y1 := (hb.cell (p := ⟨w.heap.size, 1, none⟩) zd).trans y1
    replace y2 := (hb.cell (p := ⟨w.heap.size, 2, none⟩) zd).trans y2
    replace y3 := (hb.cell (p := ⟨w.heap.size, 3, none⟩) zd).trans y3
    replace y4 := (hb.cell (p := ⟨w.heap.size, 4, none⟩) zd).trans y4
    replace y5 := (hb.cell (p := ⟨w.heap.size, 5, none⟩) zd).trans y5
    replace zd : w.heap.size < w3.heap.size := Nat.lt_of_lt_of_le zd hb.size
    replace HD := Lib.hid (HD.out.up hb)
    replace HW := Lib.hid (bel_trans HW.out hb)
    have HP := Lib.hid (show PartsRow d pv pc w3 from ⟨_, pxs, hpo, hpp, hb.size⟩)
    clear hpo hpp
    clear hb
    go_wp2_with fail
    replace HP := Lib.hid (parts_up HP.out (bel_drew' w3))
    replace HD := Lib.hid (HD.out.up (bel_drew' w3))
    replace HW := Lib.hid (bel_trans HW.out (bel_drew' w3))
    replace y0 : w3.drew.cell? ⟨w.heap.size, 0, none⟩ = some (.int .i64 d.K) := y0
    replace y1 : w3.drew.cell? ⟨w.heap.size, 1, none⟩ = some (.int .i64 d.N) := y1
    replace y2 : w3.drew.cell? ⟨w.heap.size, 2, none⟩ = some (.string d.S) := y2
    replace y3 : w3.drew.cell? ⟨w.heap.size, 3, none⟩ = some (.slice am d.M.length cm) := y3
    replace y4 : w3.drew.cell? ⟨w.heap.size, 4, none⟩ = some (.slice al d.L.length cl) := y4
    replace y5 : w3.drew.cell? ⟨w.heap.size, 5, none⟩ = some (.slice at_ d.T.length ct) := y5
    replace zd : w.heap.size < w3.drew.heap.size := zd
    have hT0 : (fun w' : World => w'.cell? ⟨w.heap.size, 0, none⟩ = some (.int .i64 d.K) ∧ w'.cell? ⟨w.heap.size, 1, none⟩ = some (.int .i64 d.N) ∧ w'.cell? ⟨w.heap.size, 2, none⟩ = some (.string d.S) ∧ w'.cell? ⟨w.heap.size, 3, none⟩ = some (.slice am d.M.length cm) ∧ w'.cell? ⟨w.heap.size, 4, none⟩ = some (.slice al d.L.length cl) ∧ w'.cell? ⟨w.heap.size, 5, none⟩ = some (.slice at_ d.T.length ct)) w3.drew := ⟨y0, y1, y2, y3, y4, y5⟩
    refine Od.till_region 10 (fun _ : World => True) (fun w' : World => w'.cell? ⟨w.heap.size, 0, none⟩ = some (.int .i64 d.K) ∧ w'.cell? ⟨w.heap.size, 1, none⟩ = some (.int .i64 d.N) ∧ w'.cell? ⟨w.heap.size, 2, none⟩ = some (.string d.S) ∧ w'.cell? ⟨w.heap.size, 3, none⟩ = some (.slice am d.M.length cm) ∧ w'.cell? ⟨w.heap.size, 4, none⟩ = some (.slice al d.L.length cl) ∧ w'.cell? ⟨w.heap.size, 5, none⟩ = some (.slice at_ d.T.length ct)) 10 (by kernel_rfl) rfl ?_
    simp only [Array.replicate_succ, Array.replicate_zero, List.push_toArray, List.nil_append, List.cons_append]
    refine Od.Till.takeT (i := 0) (d := 20) (v := .agg #[.int .i64 d.K, .int .i64 d.N, .string d.S, .slice am d.M.length cm, .slice al d.L.length cl, .slice at_ d.T.length ct]) rfl rfl (by kernel_rfl) (by kernel_rfl) (by kernel_rfl) (by kernel_rfl) (fun _ _ _ h => h) (.inl ⟨by rfl, ?_⟩) trivial hT0 ?_
    · intro wx hSw
      obtain ⟨j0, j1, j2, j3, j4, j5⟩ := hSw
      go_simp
    simp only [Act.put, List.setIfInBounds_toArray, List.set_cons_zero, List.set_cons_succ]
    refine Od.Till.takeT (i := 3) (d := 23) (v := .agg #[.int .i64 d.K, .int .i64 d.N, .string d.S, .slice am d.M.length cm, .slice al d.L.length cl, .slice at_ d.T.length ct]) rfl rfl (by kernel_rfl) (by kernel_rfl) (by kernel_rfl) (by kernel_rfl) (fun _ _ _ h => h) (.inl ⟨by rfl, ?_⟩) trivial hT0 ?_
    · intro wx hSw
      obtain ⟨j0, j1, j2, j3, j4, j5⟩ := hSw
      go_simp
    simp only [Act.put, List.setIfInBounds_toArray, List.set_cons_zero, List.set_cons_succ]
    refine Od.Till.takeT (i := 5) (d := 25) (v := .int .u8 (m : Int)) rfl rfl (by kernel_rfl) (by kernel_rfl) (by kernel_rfl) (by kernel_rfl) (fun _ _ _ h => h) (.inl ⟨by rfl, ?_⟩) trivial hT0 ?_
    · intro wx hSw
      obtain ⟨j0, j1, j2, j3, j4, j5⟩ := hSw
      go_simp
    simp only [Act.put, List.setIfInBounds_toArray, List.set_cons_zero, List.set_cons_succ]
    refine Od.Till.takeT (i := 6) (d := 26) (v := .int .i64 (m : Int)) rfl rfl (by kernel_rfl) (by kernel_rfl) (by kernel_rfl) (by kernel_rfl) (fun _ _ _ h => h) (.inl ⟨by rfl, ?_⟩) trivial hT0 ?_
    · intro wx hSw
      obtain ⟨j0, j1, j2, j3, j4, j5⟩ := hSw
      go_simp; exact IntWalk.i64_in _ (by omega)
    simp only [Act.put, List.setIfInBounds_toArray, List.set_cons_zero, List.set_cons_succ]
    refine Od.Till.one (i := 1) (by kernel_rfl) rfl (fun K hK => ?_)
    rw [if_pos (by kernel_rfl)]
    go_simp
    refine (all_any d _ _ _ HD.out (Nat.le_refl _)).mono ?_
    rintro e4 w4 ⟨hb, hres⟩
    replace HD := Lib.hid (HD.out.up hb)
    replace HW := Lib.hid (bel_trans HW.out hb)
    replace HP := Lib.hid (parts_up HP.out hb)
    replace y0 := (hb.cell (p := ⟨w.heap.size, 0, none⟩) zd).trans y0
    replace y1 := (hb.cell (p := ⟨w.heap.size, 1, none⟩) zd).trans y1
    replace y2 := (hb.cell (p := ⟨w.heap.size, 2, none⟩) zd).trans y2
    replace y3 := (hb.cell (p := ⟨w.heap.size, 3, none⟩) zd).trans y3
    replace y4 := (hb.cell (p := ⟨w.heap.size, 4, none⟩) zd).trans y4
    replace y5 := (hb.cell (p := ⟨w.heap.size, 5, none⟩) zd).trans y5
    replace zd : w.heap.size < w4.heap.size := Nat.lt_of_lt_of_le zd hb.size
    have hT1 : (fun w' : World => w'.cell? ⟨w.heap.size, 0, none⟩ = some (.int .i64 d.K) ∧ w'.cell? ⟨w.heap.size, 1, none⟩ = some (.int .i64 d.N) ∧ w'.cell? ⟨w.heap.size, 2, none⟩ = some (.string d.S) ∧ w'.cell? ⟨w.heap.size, 3, none⟩ = some (.slice am d.M.length cm) ∧ w'.cell? ⟨w.heap.size, 4, none⟩ = some (.slice al d.L.length cl) ∧ w'.cell? ⟨w.heap.size, 5, none⟩ = some (.slice at_ d.T.length ct)) w4 := ⟨y0, y1, y2, y3, y4, y5⟩
    clear hb
    obtain ⟨raf, rac, rfl, hh⟩ := all_form hres
    have Hra := Lib.hid hh
    clear hres hh
    refine hK.out _ _ ⟨fun _ => trivial, hT1⟩ ?_
    clear hK K
    simp only [Act.put, List.setIfInBounds_toArray, List.set_cons_zero, List.set_cons_succ]
    refine Od.Till.one (i := 2) (by kernel_rfl) rfl (fun K hK => ?_)
    rw [if_pos (by kernel_rfl)]
    go_simp
    refine (Hra.out 1048576 (Nat.le_refl _)).mono ?_
    rintro e4 w5 ⟨xs, xa, xc, rfl, hb, hown, hmap, hdt⟩
    have xl := congrArg List.length hmap
    rw [List.length_map, List.length_take, List.length_map] at xl
    have HX := Lib.hid (RowN.mk hown hmap hdt)
    clear hown hmap hdt
    replace HD := Lib.hid (HD.out.up hb)
    replace HW := Lib.hid (bel_trans HW.out hb)
    replace HP := Lib.hid (parts_up HP.out hb)
    replace y0 := (hb.cell (p := ⟨w.heap.size, 0, none⟩) zd).trans y0
    replace y1 := (hb.cell (p := ⟨w.heap.size, 1, none⟩) zd).trans y1
    replace y2 := (hb.cell (p := ⟨w.heap.size, 2, none⟩) zd).trans y2
    replace y3 := (hb.cell (p := ⟨w.heap.size, 3, none⟩) zd).trans y3
    replace y4 := (hb.cell (p := ⟨w.heap.size, 4, none⟩) zd).trans y4
    replace y5 := (hb.cell (p := ⟨w.heap.size, 5, none⟩) zd).trans y5
    replace zd : w.heap.size < w5.heap.size := Nat.lt_of_lt_of_le zd hb.size
    have hT2 : (fun w' : World => w'.cell? ⟨w.heap.size, 0, none⟩ = some (.int .i64 d.K) ∧ w'.cell? ⟨w.heap.size, 1, none⟩ = some (.int .i64 d.N) ∧ w'.cell? ⟨w.heap.size, 2, none⟩ = some (.string d.S) ∧ w'.cell? ⟨w.heap.size, 3, none⟩ = some (.slice am d.M.length cm) ∧ w'.cell? ⟨w.heap.size, 4, none⟩ = some (.slice al d.L.length cl) ∧ w'.cell? ⟨w.heap.size, 5, none⟩ = some (.slice at_ d.T.length ct)) w5 := ⟨y0, y1, y2, y3, y4, y5⟩
    clear hb
    refine hK.out _ _ ⟨fun _ => trivial, hT2⟩ ?_
    clear hK K
    simp only [Act.put, List.setIfInBounds_toArray, List.set_cons_zero, List.set_cons_succ]
    refine Od.Till.one (i := 4) (by kernel_rfl) rfl (fun K hK => ?_)
    rw [if_pos (by kernel_rfl)]
    go_simp
    refine (all_any d _ _ _ HD.out (Nat.le_refl _)).mono ?_
    rintro e4 w6 ⟨hb, hres⟩
    replace HD := Lib.hid (HD.out.up hb)
    replace HW := Lib.hid (bel_trans HW.out hb)
    replace HP := Lib.hid (parts_up HP.out hb)
    replace HX := Lib.hid (row_up HX.out hb)
    replace y0 := (hb.cell (p := ⟨w.heap.size, 0, none⟩) zd).trans y0
    replace y1 := (hb.cell (p := ⟨w.heap.size, 1, none⟩) zd).trans y1
    replace y2 := (hb.cell (p := ⟨w.heap.size, 2, none⟩) zd).trans y2
    replace y3 := (hb.cell (p := ⟨w.heap.size, 3, none⟩) zd).trans y3
    replace y4 := (hb.cell (p := ⟨w.heap.size, 4, none⟩) zd).trans y4
    replace y5 := (hb.cell (p := ⟨w.heap.size, 5, none⟩) zd).trans y5
    replace zd : w.heap.size < w6.heap.size := Nat.lt_of_lt_of_le zd hb.size
    have hT3 : (fun w' : World => w'.cell? ⟨w.heap.size, 0, none⟩ = some (.int .i64 d.K) ∧ w'.cell? ⟨w.heap.size, 1, none⟩ = some (.int .i64 d.N) ∧ w'.cell? ⟨w.heap.size, 2, none⟩ = some (.string d.S) ∧ w'.cell? ⟨w.heap.size, 3, none⟩ = some (.slice am d.M.length cm) ∧ w'.cell? ⟨w.heap.size, 4, none⟩ = some (.slice al d.L.length cl) ∧ w'.cell? ⟨w.heap.size, 5, none⟩ = some (.slice at_ d.T.length ct)) w6 := ⟨y0, y1, y2, y3, y4, y5⟩
    clear hb
    obtain ⟨rbf, rbc, rfl, hh⟩ := all_form hres
    have Hrb := Lib.hid hh
    clear hres hh
    refine hK.out _ _ ⟨fun _ => trivial, hT3⟩ ?_
    clear hK K
    simp only [Act.put, List.setIfInBounds_toArray, List.set_cons_zero, List.set_cons_succ]
    refine Od.Till.one (i := 7) (by kernel_rfl) rfl (fun K hK => ?_)
    rw [if_pos (by kernel_rfl)]
    go_simp
    refine (Hrb.out m (by omega)).mono ?_
    rintro e4 w7 ⟨ys, ya, yc, rfl, hb, hown, hmap, hdt⟩
    have yl := congrArg List.length hmap
    rw [List.length_map, List.length_take, List.length_map] at yl
    have HY := Lib.hid (RowN.mk hown hmap hdt)
    clear hown hmap hdt
    replace HD := Lib.hid (HD.out.up hb)
    replace HW := Lib.hid (bel_trans HW.out hb)
    replace HP := Lib.hid (parts_up HP.out hb)
    replace HX := Lib.hid (row_up HX.out hb)
    replace y0 := (hb.cell (p := ⟨w.heap.size, 0, none⟩) zd).trans y0
    replace y1 := (hb.cell (p := ⟨w.heap.size, 1, none⟩) zd).trans y1
    replace y2 := (hb.cell (p := ⟨w.heap.size, 2, none⟩) zd).trans y2
    replace y3 := (hb.cell (p := ⟨w.heap.size, 3, none⟩) zd).trans y3
    replace y4 := (hb.cell (p := ⟨w.heap.size, 4, none⟩) zd).trans y4
    replace y5 := (hb.cell (p := ⟨w.heap.size, 5, none⟩) zd).trans y5
    replace zd : w.heap.size < w7.heap.size := Nat.lt_of_lt_of_le zd hb.size
    have hT4 : (fun w' : World => w'.cell? ⟨w.heap.size, 0, none⟩ = some (.int .i64 d.K) ∧ w'.cell? ⟨w.heap.size, 1, none⟩ = some (.int .i64 d.N) ∧ w'.cell? ⟨w.heap.size, 2, none⟩ = some (.string d.S) ∧ w'.cell? ⟨w.heap.size, 3, none⟩ = some (.slice am d.M.length cm) ∧ w'.cell? ⟨w.heap.size, 4, none⟩ = some (.slice al d.L.length cl) ∧ w'.cell? ⟨w.heap.size, 5, none⟩ = some (.slice at_ d.T.length ct)) w7 := ⟨y0, y1, y2, y3, y4, y5⟩
    clear hb
    refine hK.out _ _ ⟨fun _ => trivial, hT4⟩ ?_
    clear hK K
    simp only [Act.put, List.setIfInBounds_toArray, List.set_cons_zero, List.set_cons_succ]
    refine Od.Till.takeT (i := 8) (d := 6) (v := .slice xa xs.length xc) rfl rfl (by kernel_rfl) (by kernel_rfl) (by kernel_rfl) (by kernel_rfl) (fun _ _ _ h => h) (.inl ⟨by rfl, ?_⟩) trivial hT4 ?_
    · intro wx hSw
      obtain ⟨j0, j1, j2, j3, j4, j5⟩ := hSw
      go_simp
    simp only [Act.put, List.setIfInBounds_toArray, List.set_cons_zero, List.set_cons_succ]
    refine Od.Till.takeT (i := 9) (d := 7) (v := .slice ya ys.length yc) rfl rfl (by kernel_rfl) (by kernel_rfl) (by kernel_rfl) (by kernel_rfl) (fun _ _ _ h => h) (.inl ⟨by rfl, ?_⟩) trivial hT4 ?_
    · intro wx hSw
      obtain ⟨j0, j1, j2, j3, j4, j5⟩ := hSw
      go_simp
    simp only [Act.put, List.setIfInBounds_toArray, List.set_cons_zero, List.set_cons_succ]
    refine Od.Till.done (by kernel_rfl) ?_
    obtain ⟨n, hn⟩ : ∃ n, (partsD d).length = n := ⟨_, rfl⟩
    have hn4 := parts_len d
    rw [hn] at xl yl hn4 ⊢
    have e1 : xs.length = n := by omega
    have e2 : ((xs.length : Int) != (n : Int)) = false := by rw [e1]; simp
    have e3 : min (n : Int) (m : Int) = (ys.length : Int) := by omega
    have e4 : ((ys.length : Int) != (ys.length : Int)) = false := by simp
    have Hyl := Lib.hid yl
    have He1 := Lib.hid e1
    clear yl xl
    have hw8 : IntKind.i64.wrap (m : Int) = (m : Int) := IntWalk.i64_in _ (by omega)
    clear y0 y1 y2 y3 y4 y5 zd
    go_wp2_with fail
    clear e1 e2 e3 e4
    go_loopw [45] (fun i wr => WalksAt xs.length w7 i wr) (fun i _ => xs.length - (intOf i).toNat)
    case atStart => exact ⟨0, Nat.zero_le _, rfl, Below.refl _ _⟩
    case round =>
      have HW7 := HW
      obtain ⟨j, hj, rfl, hbr⟩ := hrel
      by_cases hlt : j < xs.length
      · have dl : decide ((j : Int) < (xs.length : Int)) = true := by simp [hlt]
        obtain ⟨wo, rfl⟩ : ∃ wo : World, wo = wr := ⟨_, rfl⟩
        have hjp : j < (partsD d).length := by have := He1.out; omega
        obtain ⟨x, hx⟩ : ∃ x, (partsD d)[j]? = some x := ⟨_, List.getElem?_eq_getElem hjp⟩
        have hsm := same_self (List.mem_of_getElem? hx)
        have hPr := (parts_up HP.out hbr).at_ j x hx
        have hdn : (((partsD d).map Prod.fst).take 1048576)[j]? = some x.1 := by rw [List.getElem?_take_of_lt (by have := He1.out; omega), List.getElem?_map, hx]; rfl
        have hdm' : j < m → (((partsD d).map Prod.fst).take m)[j]? = some x.1 := fun h => by rw [List.getElem?_take_of_lt h, List.getElem?_map, hx]; rfl
        have hXr := (row_up HX.out hbr).at_ j hlt x.1 hdn
        obtain ⟨dj, kj⟩ := x
        simp only at hsm hPr hdn hdm' hXr
        obtain ⟨gw, b1, b2, b3, f1, f2, f3, rfl, zw, q0, q1, q2, q3, q4, q5, hwj⟩ := hPr
        obtain ⟨gx, a1, a2, a3, e1', e2', e3', rfl, zx, s0, s1, s2, s3, s4, s5, hpj⟩ := hXr
        have HWj := Lib.hid hwj
        have HPj := Lib.hid hpj
        replace HW := Lib.hid hbr
        have i0 : (0 : Int) ≤ (j : Int) := Int.natCast_nonneg _
        have i1 : (j : Int) < (n : Int) := by have := He1.out; omega
        have i2 : (j : Int) < (xs.length : Int) := by omega
        rw [hn] at hjp
        clear hwj hpj hx hdn
        by_cases hly : j < ys.length
        · have hdm := hdm' (by have := Hyl.out; omega)
          have i3 : (j : Int) < (ys.length : Int) := by omega
          have dy : decide ((j : Int) < (ys.length : Int)) = true := by simp; omega
          obtain ⟨gy, u1, u2, u3, v1, v2, v3, rfl, zy, r0, r1, r2, r3, r4, r5, hyj⟩ := (row_up HY.out hbr).at_ j hly dj hdm
          have HYj := Lib.hid hyj
          clear hyj
          have hbA : Below wo.heap.size wo (wo.alloc (.cells #[.int .i64 dj.K, .int .i64 dj.N, .string dj.S, .slice a1 dj.M.length e1', .slice a2 dj.L.length e2', .slice a3 dj.T.length e3'] 25)).drew := bel_trans (bel_alloc wo _) (bel_drew' _)
          have hblA : (wo.alloc (.cells #[.int .i64 dj.K, .int .i64 dj.N, .string dj.S, .slice a1 dj.M.length e1', .slice a2 dj.L.length e2', .slice a3 dj.T.length e3'] 25)).drew.heap[wo.heap.size]? = some (.cells #[.int .i64 dj.K, .int .i64 dj.N, .string dj.S, .slice a1 dj.M.length e1', .slice a2 dj.L.length e2', .slice a3 dj.T.length e3'] 25 (0, 0)) := heap_alloc_new wo _
          go_wp2_with fail
          replace HW := Lib.hid (HW.out.trans (hbA.mono HW.out.size))
          replace HPj := Lib.hid (HPj.out.up hbA)
          replace HWj := Lib.hid (HWj.out.up hbA)
          replace HYj := Lib.hid (HYj.out.up hbA)
          replace q0 := (hbA.cell (p := ⟨gw, j * 6, none⟩) zw).trans q0
          replace q1 := (hbA.cell (p := ⟨gw, j * 6 + 1, none⟩) zw).trans q1
          replace q2 := (hbA.cell (p := ⟨gw, j * 6 + 2, none⟩) zw).trans q2
          replace q3 := (hbA.cell (p := ⟨gw, j * 6 + 3, none⟩) zw).trans q3
          replace q4 := (hbA.cell (p := ⟨gw, j * 6 + 4, none⟩) zw).trans q4
          replace q5 := (hbA.cell (p := ⟨gw, j * 6 + 5, none⟩) zw).trans q5
          replace r0 := (hbA.cell (p := ⟨gy, j * 6, none⟩) zy).trans r0
          replace r1 := (hbA.cell (p := ⟨gy, j * 6 + 1, none⟩) zy).trans r1
          replace r2 := (hbA.cell (p := ⟨gy, j * 6 + 2, none⟩) zy).trans r2
          replace r3 := (hbA.cell (p := ⟨gy, j * 6 + 3, none⟩) zy).trans r3
          replace r4 := (hbA.cell (p := ⟨gy, j * 6 + 4, none⟩) zy).trans r4
          replace r5 := (hbA.cell (p := ⟨gy, j * 6 + 5, none⟩) zy).trans r5
          replace zw := Nat.lt_of_lt_of_le zw hbA.size
          replace zy := Nat.lt_of_lt_of_le zy hbA.size
          have p0 : (wo.alloc (.cells #[.int .i64 dj.K, .int .i64 dj.N, .string dj.S, .slice a1 dj.M.length e1', .slice a2 dj.L.length e2', .slice a3 dj.T.length e3'] 25)).drew.cell? ⟨wo.heap.size, 0, none⟩ = some (.int .i64 dj.K) := by rw [World.cell?, hblA]; rfl
          have p1 : (wo.alloc (.cells #[.int .i64 dj.K, .int .i64 dj.N, .string dj.S, .slice a1 dj.M.length e1', .slice a2 dj.L.length e2', .slice a3 dj.T.length e3'] 25)).drew.cell? ⟨wo.heap.size, 1, none⟩ = some (.int .i64 dj.N) := by rw [World.cell?, hblA]; rfl
          have p2 : (wo.alloc (.cells #[.int .i64 dj.K, .int .i64 dj.N, .string dj.S, .slice a1 dj.M.length e1', .slice a2 dj.L.length e2', .slice a3 dj.T.length e3'] 25)).drew.cell? ⟨wo.heap.size, 2, none⟩ = some (.string dj.S) := by rw [World.cell?, hblA]; rfl
          have p3 : (wo.alloc (.cells #[.int .i64 dj.K, .int .i64 dj.N, .string dj.S, .slice a1 dj.M.length e1', .slice a2 dj.L.length e2', .slice a3 dj.T.length e3'] 25)).drew.cell? ⟨wo.heap.size, 3, none⟩ = some (.slice a1 dj.M.length e1') := by rw [World.cell?, hblA]; rfl
          have p4 : (wo.alloc (.cells #[.int .i64 dj.K, .int .i64 dj.N, .string dj.S, .slice a1 dj.M.length e1', .slice a2 dj.L.length e2', .slice a3 dj.T.length e3'] 25)).drew.cell? ⟨wo.heap.size, 4, none⟩ = some (.slice a2 dj.L.length e2') := by rw [World.cell?, hblA]; rfl
          have p5 : (wo.alloc (.cells #[.int .i64 dj.K, .int .i64 dj.N, .string dj.S, .slice a1 dj.M.length e1', .slice a2 dj.L.length e2', .slice a3 dj.T.length e3'] 25)).drew.cell? ⟨wo.heap.size, 5, none⟩ = some (.slice a3 dj.T.length e3') := by rw [World.cell?, hblA]; rfl
          have zp := (Array.getElem?_eq_some_iff.1 hblA).1
          clear hbA hblA
          have hT0 : (fun w' : World => w'.cell? ⟨wo.heap.size, 0, none⟩ = some (.int .i64 dj.K) ∧ w'.cell? ⟨wo.heap.size, 1, none⟩ = some (.int .i64 dj.N) ∧ w'.cell? ⟨wo.heap.size, 2, none⟩ = some (.string dj.S) ∧ w'.cell? ⟨wo.heap.size, 3, none⟩ = some (.slice a1 dj.M.length e1') ∧ w'.cell? ⟨wo.heap.size, 4, none⟩ = some (.slice a2 dj.L.length e2') ∧ w'.cell? ⟨wo.heap.size, 5, none⟩ = some (.slice a3 dj.T.length e3') ∧ w'.cell? ⟨gw, j * 6, none⟩ = some (.int .i64 dj.K) ∧ w'.cell? ⟨gw, j * 6 + 1, none⟩ = some (.int .i64 dj.N) ∧ w'.cell? ⟨gw, j * 6 + 2, none⟩ = some (.string dj.S) ∧ w'.cell? ⟨gw, j * 6 + 3, none⟩ = some (.slice b1 dj.M.length f1) ∧ w'.cell? ⟨gw, j * 6 + 4, none⟩ = some (.slice b2 dj.L.length f2) ∧ w'.cell? ⟨gw, j * 6 + 5, none⟩ = some (.slice b3 dj.T.length f3) ∧ w'.cell? ⟨gy, j * 6, none⟩ = some (.int .i64 dj.K) ∧ w'.cell? ⟨gy, j * 6 + 1, none⟩ = some (.int .i64 dj.N) ∧ w'.cell? ⟨gy, j * 6 + 2, none⟩ = some (.string dj.S) ∧ w'.cell? ⟨gy, j * 6 + 3, none⟩ = some (.slice u1 dj.M.length v1) ∧ w'.cell? ⟨gy, j * 6 + 4, none⟩ = some (.slice u2 dj.L.length v2) ∧ w'.cell? ⟨gy, j * 6 + 5, none⟩ = some (.slice u3 dj.T.length v3)) (wo.alloc (.cells #[.int .i64 dj.K, .int .i64 dj.N, .string dj.S, .slice a1 dj.M.length e1', .slice a2 dj.L.length e2', .slice a3 dj.T.length e3'] 25)).drew := ⟨p0, p1, p2, p3, p4, p5, q0, q1, q2, q3, q4, q5, r0, r1, r2, r3, r4, r5⟩
          refine Od.till_region 22 (fun _ : World => True) (fun w' : World => w'.cell? ⟨wo.heap.size, 0, none⟩ = some (.int .i64 dj.K) ∧ w'.cell? ⟨wo.heap.size, 1, none⟩ = some (.int .i64 dj.N) ∧ w'.cell? ⟨wo.heap.size, 2, none⟩ = some (.string dj.S) ∧ w'.cell? ⟨wo.heap.size, 3, none⟩ = some (.slice a1 dj.M.length e1') ∧ w'.cell? ⟨wo.heap.size, 4, none⟩ = some (.slice a2 dj.L.length e2') ∧ w'.cell? ⟨wo.heap.size, 5, none⟩ = some (.slice a3 dj.T.length e3') ∧ w'.cell? ⟨gw, j * 6, none⟩ = some (.int .i64 dj.K) ∧ w'.cell? ⟨gw, j * 6 + 1, none⟩ = some (.int .i64 dj.N) ∧ w'.cell? ⟨gw, j * 6 + 2, none⟩ = some (.string dj.S) ∧ w'.cell? ⟨gw, j * 6 + 3, none⟩ = some (.slice b1 dj.M.length f1) ∧ w'.cell? ⟨gw, j * 6 + 4, none⟩ = some (.slice b2 dj.L.length f2) ∧ w'.cell? ⟨gw, j * 6 + 5, none⟩ = some (.slice b3 dj.T.length f3) ∧ w'.cell? ⟨gy, j * 6, none⟩ = some (.int .i64 dj.K) ∧ w'.cell? ⟨gy, j * 6 + 1, none⟩ = some (.int .i64 dj.N) ∧ w'.cell? ⟨gy, j * 6 + 2, none⟩ = some (.string dj.S) ∧ w'.cell? ⟨gy, j * 6 + 3, none⟩ = some (.slice u1 dj.M.length v1) ∧ w'.cell? ⟨gy, j * 6 + 4, none⟩ = some (.slice u2 dj.L.length v2) ∧ w'.cell? ⟨gy, j * 6 + 5, none⟩ = some (.slice u3 dj.T.length v3)) 22 (by kernel_rfl) rfl ?_
          simp only [Array.replicate_succ, Array.replicate_zero, List.push_toArray, List.nil_append, List.cons_append]
          refine Od.Till.takeT (i := 0) (d := 50) (v := .agg #[.int .i64 dj.K, .int .i64 dj.N, .string dj.S, .slice a1 dj.M.length e1', .slice a2 dj.L.length e2', .slice a3 dj.T.length e3']) rfl rfl (by kernel_rfl) (by kernel_rfl) (by kernel_rfl) (by kernel_rfl) (fun _ _ _ h => h) (.inl ⟨by rfl, ?_⟩) trivial hT0 ?_
          · intro wx hSw
            obtain ⟨j0, j1, j2, j3, j4, j5, j6, j7, j8, j9, j10, j11, j12, j13, j14, j15, j16, j17⟩ := hSw
            go_simp
          simp only [Act.put, List.setIfInBounds_toArray, List.set_cons_zero, List.set_cons_succ]
          refine Od.Till.takeT (i := 1) (d := 51) (v := .slice (some ⟨gw, 0, none⟩) n pc) rfl rfl (by kernel_rfl) (by kernel_rfl) (by kernel_rfl) (by kernel_rfl) (fun _ _ _ h => h) (.inl ⟨by rfl, ?_⟩) trivial hT0 ?_
          · intro wx hSw
            obtain ⟨j0, j1, j2, j3, j4, j5, j6, j7, j8, j9, j10, j11, j12, j13, j14, j15, j16, j17⟩ := hSw
            go_simp
          simp only [Act.put, List.setIfInBounds_toArray, List.set_cons_zero, List.set_cons_succ]
          refine Od.Till.takeT (i := 2) (d := 52) (v := .int .i64 (j : Int)) rfl rfl (by kernel_rfl) (by kernel_rfl) (by kernel_rfl) (by kernel_rfl) (fun _ _ _ h => h) (.inl ⟨by rfl, ?_⟩) trivial hT0 ?_
          · intro wx hSw
            obtain ⟨j0, j1, j2, j3, j4, j5, j6, j7, j8, j9, j10, j11, j12, j13, j14, j15, j16, j17⟩ := hSw
            go_simp
          simp only [Act.put, List.setIfInBounds_toArray, List.set_cons_zero, List.set_cons_succ]
          refine Od.Till.takeT (i := 3) (d := 53) (v := .pointer (some ⟨gw, j * 6, none⟩)) rfl rfl (by kernel_rfl) (by kernel_rfl) (by kernel_rfl) (by kernel_rfl) (fun _ _ _ h => h) (.inl ⟨by rfl, ?_⟩) trivial hT0 ?_
          · intro wx hSw
            obtain ⟨j0, j1, j2, j3, j4, j5, j6, j7, j8, j9, j10, j11, j12, j13, j14, j15, j16, j17⟩ := hSw
            go_simp
          simp only [Act.put, List.setIfInBounds_toArray, List.set_cons_zero, List.set_cons_succ]
          refine Od.Till.takeT (i := 4) (d := 54) (v := .agg #[.int .i64 dj.K, .int .i64 dj.N, .string dj.S, .slice b1 dj.M.length f1, .slice b2 dj.L.length f2, .slice b3 dj.T.length f3]) rfl rfl (by kernel_rfl) (by kernel_rfl) (by kernel_rfl) (by kernel_rfl) (fun _ _ _ h => h) (.inl ⟨by rfl, ?_⟩) trivial hT0 ?_
          · intro wx hSw
            obtain ⟨j0, j1, j2, j3, j4, j5, j6, j7, j8, j9, j10, j11, j12, j13, j14, j15, j16, j17⟩ := hSw
            go_simp
          simp only [Act.put, List.setIfInBounds_toArray, List.set_cons_zero, List.set_cons_succ]
          refine Od.Till.one (i := 5) (by kernel_rfl) rfl (fun K hK => ?_)
          rw [if_pos (by kernel_rfl)]
          go_simp
          refine (rsame_any dj dj _ _ _ _ HPj.out HWj.out (Nat.le_refl _)).mono ?_
          rintro e4 w8 ⟨rfl, hb⟩
          rw [hsm]
          replace HW := Lib.hid (HW.out.trans (hb.mono HW.out.size))
          replace HPj := Lib.hid (HPj.out.up hb)
          replace HWj := Lib.hid (HWj.out.up hb)
          replace HYj := Lib.hid (HYj.out.up hb)
          replace p0 := (hb.cell (p := ⟨wo.heap.size, 0, none⟩) zp).trans p0
          replace p1 := (hb.cell (p := ⟨wo.heap.size, 1, none⟩) zp).trans p1
          replace p2 := (hb.cell (p := ⟨wo.heap.size, 2, none⟩) zp).trans p2
          replace p3 := (hb.cell (p := ⟨wo.heap.size, 3, none⟩) zp).trans p3
          replace p4 := (hb.cell (p := ⟨wo.heap.size, 4, none⟩) zp).trans p4
          replace p5 := (hb.cell (p := ⟨wo.heap.size, 5, none⟩) zp).trans p5
          replace q0 := (hb.cell (p := ⟨gw, j * 6, none⟩) zw).trans q0
          replace q1 := (hb.cell (p := ⟨gw, j * 6 + 1, none⟩) zw).trans q1
          replace q2 := (hb.cell (p := ⟨gw, j * 6 + 2, none⟩) zw).trans q2
          replace q3 := (hb.cell (p := ⟨gw, j * 6 + 3, none⟩) zw).trans q3
          replace q4 := (hb.cell (p := ⟨gw, j * 6 + 4, none⟩) zw).trans q4
          replace q5 := (hb.cell (p := ⟨gw, j * 6 + 5, none⟩) zw).trans q5
          replace r0 := (hb.cell (p := ⟨gy, j * 6, none⟩) zy).trans r0
          replace r1 := (hb.cell (p := ⟨gy, j * 6 + 1, none⟩) zy).trans r1
          replace r2 := (hb.cell (p := ⟨gy, j * 6 + 2, none⟩) zy).trans r2
          replace r3 := (hb.cell (p := ⟨gy, j * 6 + 3, none⟩) zy).trans r3
          replace r4 := (hb.cell (p := ⟨gy, j * 6 + 4, none⟩) zy).trans r4
          replace r5 := (hb.cell (p := ⟨gy, j * 6 + 5, none⟩) zy).trans r5
          replace zp : wo.heap.size < w8.heap.size := Nat.lt_of_lt_of_le zp hb.size
          replace zw : gw < w8.heap.size := Nat.lt_of_lt_of_le zw hb.size
          replace zy : gy < w8.heap.size := Nat.lt_of_lt_of_le zy hb.size
          have hT1 : (fun w' : World => w'.cell? ⟨wo.heap.size, 0, none⟩ = some (.int .i64 dj.K) ∧ w'.cell? ⟨wo.heap.size, 1, none⟩ = some (.int .i64 dj.N) ∧ w'.cell? ⟨wo.heap.size, 2, none⟩ = some (.string dj.S) ∧ w'.cell? ⟨wo.heap.size, 3, none⟩ = some (.slice a1 dj.M.length e1') ∧ w'.cell? ⟨wo.heap.size, 4, none⟩ = some (.slice a2 dj.L.length e2') ∧ w'.cell? ⟨wo.heap.size, 5, none⟩ = some (.slice a3 dj.T.length e3') ∧ w'.cell? ⟨gw, j * 6, none⟩ = some (.int .i64 dj.K) ∧ w'.cell? ⟨gw, j * 6 + 1, none⟩ = some (.int .i64 dj.N) ∧ w'.cell? ⟨gw, j * 6 + 2, none⟩ = some (.string dj.S) ∧ w'.cell? ⟨gw, j * 6 + 3, none⟩ = some (.slice b1 dj.M.length f1) ∧ w'.cell? ⟨gw, j * 6 + 4, none⟩ = some (.slice b2 dj.L.length f2) ∧ w'.cell? ⟨gw, j * 6 + 5, none⟩ = some (.slice b3 dj.T.length f3) ∧ w'.cell? ⟨gy, j * 6, none⟩ = some (.int .i64 dj.K) ∧ w'.cell? ⟨gy, j * 6 + 1, none⟩ = some (.int .i64 dj.N) ∧ w'.cell? ⟨gy, j * 6 + 2, none⟩ = some (.string dj.S) ∧ w'.cell? ⟨gy, j * 6 + 3, none⟩ = some (.slice u1 dj.M.length v1) ∧ w'.cell? ⟨gy, j * 6 + 4, none⟩ = some (.slice u2 dj.L.length v2) ∧ w'.cell? ⟨gy, j * 6 + 5, none⟩ = some (.slice u3 dj.T.length v3)) w8 := ⟨p0, p1, p2, p3, p4, p5, q0, q1, q2, q3, q4, q5, r0, r1, r2, r3, r4, r5⟩
          clear hb
          refine hK.out _ _ ⟨fun _ => trivial, hT1⟩ ?_
          clear hK K
          simp only [Act.put, List.setIfInBounds_toArray, List.set_cons_zero, List.set_cons_succ]
          refine Od.Till.takeT (i := 6) (d := 56) (v := .bool false) rfl rfl (by kernel_rfl) (by kernel_rfl) (by kernel_rfl) (by kernel_rfl) (fun _ _ _ h => h) (.inl ⟨by rfl, ?_⟩) trivial hT1 ?_
          · intro wx hSw
            obtain ⟨j0, j1, j2, j3, j4, j5, j6, j7, j8, j9, j10, j11, j12, j13, j14, j15, j16, j17⟩ := hSw
            go_simp
          simp only [Act.put, List.setIfInBounds_toArray, List.set_cons_zero, List.set_cons_succ]
          refine Od.Till.takeT (i := 7) (d := 57) (v := .bool false) rfl rfl (by kernel_rfl) (by kernel_rfl) (by kernel_rfl) (by kernel_rfl) (fun _ _ _ h => h) (.inl ⟨by rfl, ?_⟩) trivial hT1 ?_
          · intro wx hSw
            obtain ⟨j0, j1, j2, j3, j4, j5, j6, j7, j8, j9, j10, j11, j12, j13, j14, j15, j16, j17⟩ := hSw
            go_simp
          simp only [Act.put, List.setIfInBounds_toArray, List.set_cons_zero, List.set_cons_succ]
          refine Od.Till.takeT (i := 8) (d := 58) (v := .int .i64 (j : Int)) rfl rfl (by kernel_rfl) (by kernel_rfl) (by kernel_rfl) (by kernel_rfl) (fun _ _ _ h => h) (.inl ⟨by rfl, ?_⟩) trivial hT1 ?_
          · intro wx hSw
            obtain ⟨j0, j1, j2, j3, j4, j5, j6, j7, j8, j9, j10, j11, j12, j13, j14, j15, j16, j17⟩ := hSw
            go_simp
          simp only [Act.put, List.setIfInBounds_toArray, List.set_cons_zero, List.set_cons_succ]
          refine Od.Till.takeT (i := 9) (d := 59) (v := .slice (some ⟨gy, 0, none⟩) ys.length yc) rfl rfl (by kernel_rfl) (by kernel_rfl) (by kernel_rfl) (by kernel_rfl) (fun _ _ _ h => h) (.inl ⟨by rfl, ?_⟩) trivial hT1 ?_
          · intro wx hSw
            obtain ⟨j0, j1, j2, j3, j4, j5, j6, j7, j8, j9, j10, j11, j12, j13, j14, j15, j16, j17⟩ := hSw
            go_simp
          simp only [Act.put, List.setIfInBounds_toArray, List.set_cons_zero, List.set_cons_succ]
          refine Od.Till.takeT (i := 10) (d := 60) (v := .int .i64 (ys.length : Int)) rfl rfl (by kernel_rfl) (by kernel_rfl) (by kernel_rfl) (by kernel_rfl) (fun _ _ _ h => h) (.inl ⟨by rfl, ?_⟩) trivial hT1 ?_
          · intro wx hSw
            obtain ⟨j0, j1, j2, j3, j4, j5, j6, j7, j8, j9, j10, j11, j12, j13, j14, j15, j16, j17⟩ := hSw
            go_simp
          simp only [Act.put, List.setIfInBounds_toArray, List.set_cons_zero, List.set_cons_succ]
          refine Od.Till.takeT (i := 11) (d := 61) (v := .bool true) rfl rfl (by kernel_rfl) (by kernel_rfl) (by kernel_rfl) (by kernel_rfl) (fun _ _ _ h => h) (.inl ⟨by rfl, ?_⟩) trivial hT1 ?_
          · intro wx hSw
            obtain ⟨j0, j1, j2, j3, j4, j5, j6, j7, j8, j9, j10, j11, j12, j13, j14, j15, j16, j17⟩ := hSw
            go_simp
          simp only [Act.put, List.setIfInBounds_toArray, List.set_cons_zero, List.set_cons_succ]
          refine Od.Till.takeT (i := 12) (d := 62) (v := .bool true) rfl rfl (by kernel_rfl) (by kernel_rfl) (by kernel_rfl) (by kernel_rfl) (fun _ _ _ h => h) (.inl ⟨by rfl, ?_⟩) trivial hT1 ?_
          · intro wx hSw
            obtain ⟨j0, j1, j2, j3, j4, j5, j6, j7, j8, j9, j10, j11, j12, j13, j14, j15, j16, j17⟩ := hSw
            go_simp
          simp only [Act.put, List.setIfInBounds_toArray, List.set_cons_zero, List.set_cons_succ]
          refine Od.Till.takeT (i := 13) (d := 63) (v := .slice (some ⟨gy, 0, none⟩) ys.length yc) rfl rfl (by kernel_rfl) (by kernel_rfl) (by kernel_rfl) (by kernel_rfl) (fun _ _ _ h => h) (.inl ⟨by rfl, ?_⟩) trivial hT1 ?_
          · intro wx hSw
            obtain ⟨j0, j1, j2, j3, j4, j5, j6, j7, j8, j9, j10, j11, j12, j13, j14, j15, j16, j17⟩ := hSw
            go_simp
          simp only [Act.put, List.setIfInBounds_toArray, List.set_cons_zero, List.set_cons_succ]
          refine Od.Till.takeT (i := 14) (d := 64) (v := .int .i64 (j : Int)) rfl rfl (by kernel_rfl) (by kernel_rfl) (by kernel_rfl) (by kernel_rfl) (fun _ _ _ h => h) (.inl ⟨by rfl, ?_⟩) trivial hT1 ?_
          · intro wx hSw
            obtain ⟨j0, j1, j2, j3, j4, j5, j6, j7, j8, j9, j10, j11, j12, j13, j14, j15, j16, j17⟩ := hSw
            go_simp
          simp only [Act.put, List.setIfInBounds_toArray, List.set_cons_zero, List.set_cons_succ]
          refine Od.Till.takeT (i := 15) (d := 65) (v := .pointer (some ⟨gy, j * 6, none⟩)) rfl rfl (by kernel_rfl) (by kernel_rfl) (by kernel_rfl) (by kernel_rfl) (fun _ _ _ h => h) (.inl ⟨by rfl, ?_⟩) trivial hT1 ?_
          · intro wx hSw
            obtain ⟨j0, j1, j2, j3, j4, j5, j6, j7, j8, j9, j10, j11, j12, j13, j14, j15, j16, j17⟩ := hSw
            go_simp
          simp only [Act.put, List.setIfInBounds_toArray, List.set_cons_zero, List.set_cons_succ]
          refine Od.Till.takeT (i := 16) (d := 66) (v := .agg #[.int .i64 dj.K, .int .i64 dj.N, .string dj.S, .slice u1 dj.M.length v1, .slice u2 dj.L.length v2, .slice u3 dj.T.length v3]) rfl rfl (by kernel_rfl) (by kernel_rfl) (by kernel_rfl) (by kernel_rfl) (fun _ _ _ h => h) (.inl ⟨by rfl, ?_⟩) trivial hT1 ?_
          · intro wx hSw
            obtain ⟨j0, j1, j2, j3, j4, j5, j6, j7, j8, j9, j10, j11, j12, j13, j14, j15, j16, j17⟩ := hSw
            go_simp
          simp only [Act.put, List.setIfInBounds_toArray, List.set_cons_zero, List.set_cons_succ]
          refine Od.Till.takeT (i := 17) (d := 67) (v := .agg #[.int .i64 dj.K, .int .i64 dj.N, .string dj.S, .slice a1 dj.M.length e1', .slice a2 dj.L.length e2', .slice a3 dj.T.length e3']) rfl rfl (by kernel_rfl) (by kernel_rfl) (by kernel_rfl) (by kernel_rfl) (fun _ _ _ h => h) (.inl ⟨by rfl, ?_⟩) trivial hT1 ?_
          · intro wx hSw
            obtain ⟨j0, j1, j2, j3, j4, j5, j6, j7, j8, j9, j10, j11, j12, j13, j14, j15, j16, j17⟩ := hSw
            go_simp
          simp only [Act.put, List.setIfInBounds_toArray, List.set_cons_zero, List.set_cons_succ]
          refine Od.Till.one (i := 18) (by kernel_rfl) rfl (fun K hK => ?_)
          rw [if_pos (by kernel_rfl)]
          go_simp
          refine (rsame_any dj dj _ _ _ _ HYj.out HPj.out (Nat.le_refl _)).mono ?_
          rintro e4 w9 ⟨rfl, hb⟩
          rw [hsm]
          replace HW := Lib.hid (HW.out.trans (hb.mono HW.out.size))
          replace HPj := Lib.hid (HPj.out.up hb)
          replace HWj := Lib.hid (HWj.out.up hb)
          replace HYj := Lib.hid (HYj.out.up hb)
          replace p0 := (hb.cell (p := ⟨wo.heap.size, 0, none⟩) zp).trans p0
          replace p1 := (hb.cell (p := ⟨wo.heap.size, 1, none⟩) zp).trans p1
          replace p2 := (hb.cell (p := ⟨wo.heap.size, 2, none⟩) zp).trans p2
          replace p3 := (hb.cell (p := ⟨wo.heap.size, 3, none⟩) zp).trans p3
          replace p4 := (hb.cell (p := ⟨wo.heap.size, 4, none⟩) zp).trans p4
          replace p5 := (hb.cell (p := ⟨wo.heap.size, 5, none⟩) zp).trans p5
          replace q0 := (hb.cell (p := ⟨gw, j * 6, none⟩) zw).trans q0
          replace q1 := (hb.cell (p := ⟨gw, j * 6 + 1, none⟩) zw).trans q1
          replace q2 := (hb.cell (p := ⟨gw, j * 6 + 2, none⟩) zw).trans q2
          replace q3 := (hb.cell (p := ⟨gw, j * 6 + 3, none⟩) zw).trans q3
          replace q4 := (hb.cell (p := ⟨gw, j * 6 + 4, none⟩) zw).trans q4
          replace q5 := (hb.cell (p := ⟨gw, j * 6 + 5, none⟩) zw).trans q5
          replace r0 := (hb.cell (p := ⟨gy, j * 6, none⟩) zy).trans r0
          replace r1 := (hb.cell (p := ⟨gy, j * 6 + 1, none⟩) zy).trans r1
          replace r2 := (hb.cell (p := ⟨gy, j * 6 + 2, none⟩) zy).trans r2
          replace r3 := (hb.cell (p := ⟨gy, j * 6 + 3, none⟩) zy).trans r3
          replace r4 := (hb.cell (p := ⟨gy, j * 6 + 4, none⟩) zy).trans r4
          replace r5 := (hb.cell (p := ⟨gy, j * 6 + 5, none⟩) zy).trans r5
          replace zp : wo.heap.size < w9.heap.size := Nat.lt_of_lt_of_le zp hb.size
          replace zw : gw < w9.heap.size := Nat.lt_of_lt_of_le zw hb.size
          replace zy : gy < w9.heap.size := Nat.lt_of_lt_of_le zy hb.size
          have hT2 : (fun w' : World => w'.cell? ⟨wo.heap.size, 0, none⟩ = some (.int .i64 dj.K) ∧ w'.cell? ⟨wo.heap.size, 1, none⟩ = some (.int .i64 dj.N) ∧ w'.cell? ⟨wo.heap.size, 2, none⟩ = some (.string dj.S) ∧ w'.cell? ⟨wo.heap.size, 3, none⟩ = some (.slice a1 dj.M.length e1') ∧ w'.cell? ⟨wo.heap.size, 4, none⟩ = some (.slice a2 dj.L.length e2') ∧ w'.cell? ⟨wo.heap.size, 5, none⟩ = some (.slice a3 dj.T.length e3') ∧ w'.cell? ⟨gw, j * 6, none⟩ = some (.int .i64 dj.K) ∧ w'.cell? ⟨gw, j * 6 + 1, none⟩ = some (.int .i64 dj.N) ∧ w'.cell? ⟨gw, j * 6 + 2, none⟩ = some (.string dj.S) ∧ w'.cell? ⟨gw, j * 6 + 3, none⟩ = some (.slice b1 dj.M.length f1) ∧ w'.cell? ⟨gw, j * 6 + 4, none⟩ = some (.slice b2 dj.L.length f2) ∧ w'.cell? ⟨gw, j * 6 + 5, none⟩ = some (.slice b3 dj.T.length f3) ∧ w'.cell? ⟨gy, j * 6, none⟩ = some (.int .i64 dj.K) ∧ w'.cell? ⟨gy, j * 6 + 1, none⟩ = some (.int .i64 dj.N) ∧ w'.cell? ⟨gy, j * 6 + 2, none⟩ = some (.string dj.S) ∧ w'.cell? ⟨gy, j * 6 + 3, none⟩ = some (.slice u1 dj.M.length v1) ∧ w'.cell? ⟨gy, j * 6 + 4, none⟩ = some (.slice u2 dj.L.length v2) ∧ w'.cell? ⟨gy, j * 6 + 5, none⟩ = some (.slice u3 dj.T.length v3)) w9 := ⟨p0, p1, p2, p3, p4, p5, q0, q1, q2, q3, q4, q5, r0, r1, r2, r3, r4, r5⟩
          clear hb
          refine hK.out _ _ ⟨fun _ => trivial, hT2⟩ ?_
          clear hK K
          simp only [Act.put, List.setIfInBounds_toArray, List.set_cons_zero, List.set_cons_succ]
          refine Od.Till.takeT (i := 19) (d := 69) (v := .bool false) rfl rfl (by kernel_rfl) (by kernel_rfl) (by kernel_rfl) (by kernel_rfl) (fun _ _ _ h => h) (.inl ⟨by rfl, ?_⟩) trivial hT2 ?_
          · intro wx hSw
            obtain ⟨j0, j1, j2, j3, j4, j5, j6, j7, j8, j9, j10, j11, j12, j13, j14, j15, j16, j17⟩ := hSw
            go_simp
          simp only [Act.put, List.setIfInBounds_toArray, List.set_cons_zero, List.set_cons_succ]
          refine Od.Till.takeT (i := 20) (d := 70) (v := .bool false) rfl rfl (by kernel_rfl) (by kernel_rfl) (by kernel_rfl) (by kernel_rfl) (fun _ _ _ h => h) (.inl ⟨by rfl, ?_⟩) trivial hT2 ?_
          · intro wx hSw
            obtain ⟨j0, j1, j2, j3, j4, j5, j6, j7, j8, j9, j10, j11, j12, j13, j14, j15, j16, j17⟩ := hSw
            go_simp
          simp only [Act.put, List.setIfInBounds_toArray, List.set_cons_zero, List.set_cons_succ]
          refine Od.Till.takeT (i := 21) (d := 71) (v := .bool false) rfl rfl (by kernel_rfl) (by kernel_rfl) (by kernel_rfl) (by kernel_rfl) (fun _ _ _ h => h) (.inl ⟨by rfl, ?_⟩) trivial hT2 ?_
          · intro wx hSw
            obtain ⟨j0, j1, j2, j3, j4, j5, j6, j7, j8, j9, j10, j11, j12, j13, j14, j15, j16, j17⟩ := hSw
            go_simp
          simp only [Act.put, List.setIfInBounds_toArray, List.set_cons_zero, List.set_cons_succ]
          refine Od.Till.done (by kernel_rfl) ?_
          go_wp2_with fail
          go_roundw
          case rel => exact ⟨j + 1, hlt, by go_num, HW.out⟩
          case measure => simp [intOf]; omega
        · clear hdm'
          have dy : decide ((j : Int) < (ys.length : Int)) = false := by simp; omega
          have hbA : Below wo.heap.size wo (wo.alloc (.cells #[.int .i64 dj.K, .int .i64 dj.N, .string dj.S, .slice a1 dj.M.length e1', .slice a2 dj.L.length e2', .slice a3 dj.T.length e3'] 25)).drew := bel_trans (bel_alloc wo _) (bel_drew' _)
          have hblA : (wo.alloc (.cells #[.int .i64 dj.K, .int .i64 dj.N, .string dj.S, .slice a1 dj.M.length e1', .slice a2 dj.L.length e2', .slice a3 dj.T.length e3'] 25)).drew.heap[wo.heap.size]? = some (.cells #[.int .i64 dj.K, .int .i64 dj.N, .string dj.S, .slice a1 dj.M.length e1', .slice a2 dj.L.length e2', .slice a3 dj.T.length e3'] 25 (0, 0)) := heap_alloc_new wo _
          go_wp2_with fail
          replace HW := Lib.hid (HW.out.trans (hbA.mono HW.out.size))
          replace HPj := Lib.hid (HPj.out.up hbA)
          replace HWj := Lib.hid (HWj.out.up hbA)
          replace q0 := (hbA.cell (p := ⟨gw, j * 6, none⟩) zw).trans q0
          replace q1 := (hbA.cell (p := ⟨gw, j * 6 + 1, none⟩) zw).trans q1
          replace q2 := (hbA.cell (p := ⟨gw, j * 6 + 2, none⟩) zw).trans q2
          replace q3 := (hbA.cell (p := ⟨gw, j * 6 + 3, none⟩) zw).trans q3
          replace q4 := (hbA.cell (p := ⟨gw, j * 6 + 4, none⟩) zw).trans q4
          replace q5 := (hbA.cell (p := ⟨gw, j * 6 + 5, none⟩) zw).trans q5
          replace zw := Nat.lt_of_lt_of_le zw hbA.size
          have p0 : (wo.alloc (.cells #[.int .i64 dj.K, .int .i64 dj.N, .string dj.S, .slice a1 dj.M.length e1', .slice a2 dj.L.length e2', .slice a3 dj.T.length e3'] 25)).drew.cell? ⟨wo.heap.size, 0, none⟩ = some (.int .i64 dj.K) := by rw [World.cell?, hblA]; rfl
          have p1 : (wo.alloc (.cells #[.int .i64 dj.K, .int .i64 dj.N, .string dj.S, .slice a1 dj.M.length e1', .slice a2 dj.L.length e2', .slice a3 dj.T.length e3'] 25)).drew.cell? ⟨wo.heap.size, 1, none⟩ = some (.int .i64 dj.N) := by rw [World.cell?, hblA]; rfl
          have p2 : (wo.alloc (.cells #[.int .i64 dj.K, .int .i64 dj.N, .string dj.S, .slice a1 dj.M.length e1', .slice a2 dj.L.length e2', .slice a3 dj.T.length e3'] 25)).drew.cell? ⟨wo.heap.size, 2, none⟩ = some (.string dj.S) := by rw [World.cell?, hblA]; rfl
          have p3 : (wo.alloc (.cells #[.int .i64 dj.K, .int .i64 dj.N, .string dj.S, .slice a1 dj.M.length e1', .slice a2 dj.L.length e2', .slice a3 dj.T.length e3'] 25)).drew.cell? ⟨wo.heap.size, 3, none⟩ = some (.slice a1 dj.M.length e1') := by rw [World.cell?, hblA]; rfl
          have p4 : (wo.alloc (.cells #[.int .i64 dj.K, .int .i64 dj.N, .string dj.S, .slice a1 dj.M.length e1', .slice a2 dj.L.length e2', .slice a3 dj.T.length e3'] 25)).drew.cell? ⟨wo.heap.size, 4, none⟩ = some (.slice a2 dj.L.length e2') := by rw [World.cell?, hblA]; rfl
          have p5 : (wo.alloc (.cells #[.int .i64 dj.K, .int .i64 dj.N, .string dj.S, .slice a1 dj.M.length e1', .slice a2 dj.L.length e2', .slice a3 dj.T.length e3'] 25)).drew.cell? ⟨wo.heap.size, 5, none⟩ = some (.slice a3 dj.T.length e3') := by rw [World.cell?, hblA]; rfl
          have zp := (Array.getElem?_eq_some_iff.1 hblA).1
          clear hbA hblA
          have hT0 : (fun w' : World => w'.cell? ⟨wo.heap.size, 0, none⟩ = some (.int .i64 dj.K) ∧ w'.cell? ⟨wo.heap.size, 1, none⟩ = some (.int .i64 dj.N) ∧ w'.cell? ⟨wo.heap.size, 2, none⟩ = some (.string dj.S) ∧ w'.cell? ⟨wo.heap.size, 3, none⟩ = some (.slice a1 dj.M.length e1') ∧ w'.cell? ⟨wo.heap.size, 4, none⟩ = some (.slice a2 dj.L.length e2') ∧ w'.cell? ⟨wo.heap.size, 5, none⟩ = some (.slice a3 dj.T.length e3') ∧ w'.cell? ⟨gw, j * 6, none⟩ = some (.int .i64 dj.K) ∧ w'.cell? ⟨gw, j * 6 + 1, none⟩ = some (.int .i64 dj.N) ∧ w'.cell? ⟨gw, j * 6 + 2, none⟩ = some (.string dj.S) ∧ w'.cell? ⟨gw, j * 6 + 3, none⟩ = some (.slice b1 dj.M.length f1) ∧ w'.cell? ⟨gw, j * 6 + 4, none⟩ = some (.slice b2 dj.L.length f2) ∧ w'.cell? ⟨gw, j * 6 + 5, none⟩ = some (.slice b3 dj.T.length f3)) (wo.alloc (.cells #[.int .i64 dj.K, .int .i64 dj.N, .string dj.S, .slice a1 dj.M.length e1', .slice a2 dj.L.length e2', .slice a3 dj.T.length e3'] 25)).drew := ⟨p0, p1, p2, p3, p4, p5, q0, q1, q2, q3, q4, q5⟩
          refine Od.till_region 22 (fun _ : World => True) (fun w' : World => w'.cell? ⟨wo.heap.size, 0, none⟩ = some (.int .i64 dj.K) ∧ w'.cell? ⟨wo.heap.size, 1, none⟩ = some (.int .i64 dj.N) ∧ w'.cell? ⟨wo.heap.size, 2, none⟩ = some (.string dj.S) ∧ w'.cell? ⟨wo.heap.size, 3, none⟩ = some (.slice a1 dj.M.length e1') ∧ w'.cell? ⟨wo.heap.size, 4, none⟩ = some (.slice a2 dj.L.length e2') ∧ w'.cell? ⟨wo.heap.size, 5, none⟩ = some (.slice a3 dj.T.length e3') ∧ w'.cell? ⟨gw, j * 6, none⟩ = some (.int .i64 dj.K) ∧ w'.cell? ⟨gw, j * 6 + 1, none⟩ = some (.int .i64 dj.N) ∧ w'.cell? ⟨gw, j * 6 + 2, none⟩ = some (.string dj.S) ∧ w'.cell? ⟨gw, j * 6 + 3, none⟩ = some (.slice b1 dj.M.length f1) ∧ w'.cell? ⟨gw, j * 6 + 4, none⟩ = some (.slice b2 dj.L.length f2) ∧ w'.cell? ⟨gw, j * 6 + 5, none⟩ = some (.slice b3 dj.T.length f3)) 22 (by kernel_rfl) rfl ?_
          simp only [Array.replicate_succ, Array.replicate_zero, List.push_toArray, List.nil_append, List.cons_append]
          refine Od.Till.takeT (i := 0) (d := 50) (v := .agg #[.int .i64 dj.K, .int .i64 dj.N, .string dj.S, .slice a1 dj.M.length e1', .slice a2 dj.L.length e2', .slice a3 dj.T.length e3']) rfl rfl (by kernel_rfl) (by kernel_rfl) (by kernel_rfl) (by kernel_rfl) (fun _ _ _ h => h) (.inl ⟨by rfl, ?_⟩) trivial hT0 ?_
          · intro wx hSw
            obtain ⟨j0, j1, j2, j3, j4, j5, j6, j7, j8, j9, j10, j11⟩ := hSw
            go_simp
          simp only [Act.put, List.setIfInBounds_toArray, List.set_cons_zero, List.set_cons_succ]
          refine Od.Till.takeT (i := 1) (d := 51) (v := .slice (some ⟨gw, 0, none⟩) n pc) rfl rfl (by kernel_rfl) (by kernel_rfl) (by kernel_rfl) (by kernel_rfl) (fun _ _ _ h => h) (.inl ⟨by rfl, ?_⟩) trivial hT0 ?_
          · intro wx hSw
            obtain ⟨j0, j1, j2, j3, j4, j5, j6, j7, j8, j9, j10, j11⟩ := hSw
            go_simp
          simp only [Act.put, List.setIfInBounds_toArray, List.set_cons_zero, List.set_cons_succ]
          refine Od.Till.takeT (i := 2) (d := 52) (v := .int .i64 (j : Int)) rfl rfl (by kernel_rfl) (by kernel_rfl) (by kernel_rfl) (by kernel_rfl) (fun _ _ _ h => h) (.inl ⟨by rfl, ?_⟩) trivial hT0 ?_
          · intro wx hSw
            obtain ⟨j0, j1, j2, j3, j4, j5, j6, j7, j8, j9, j10, j11⟩ := hSw
            go_simp
          simp only [Act.put, List.setIfInBounds_toArray, List.set_cons_zero, List.set_cons_succ]
          refine Od.Till.takeT (i := 3) (d := 53) (v := .pointer (some ⟨gw, j * 6, none⟩)) rfl rfl (by kernel_rfl) (by kernel_rfl) (by kernel_rfl) (by kernel_rfl) (fun _ _ _ h => h) (.inl ⟨by rfl, ?_⟩) trivial hT0 ?_
          · intro wx hSw
            obtain ⟨j0, j1, j2, j3, j4, j5, j6, j7, j8, j9, j10, j11⟩ := hSw
            go_simp
          simp only [Act.put, List.setIfInBounds_toArray, List.set_cons_zero, List.set_cons_succ]
          refine Od.Till.takeT (i := 4) (d := 54) (v := .agg #[.int .i64 dj.K, .int .i64 dj.N, .string dj.S, .slice b1 dj.M.length f1, .slice b2 dj.L.length f2, .slice b3 dj.T.length f3]) rfl rfl (by kernel_rfl) (by kernel_rfl) (by kernel_rfl) (by kernel_rfl) (fun _ _ _ h => h) (.inl ⟨by rfl, ?_⟩) trivial hT0 ?_
          · intro wx hSw
            obtain ⟨j0, j1, j2, j3, j4, j5, j6, j7, j8, j9, j10, j11⟩ := hSw
            go_simp
          simp only [Act.put, List.setIfInBounds_toArray, List.set_cons_zero, List.set_cons_succ]
          refine Od.Till.one (i := 5) (by kernel_rfl) rfl (fun K hK => ?_)
          rw [if_pos (by kernel_rfl)]
          go_simp
          refine (rsame_any dj dj _ _ _ _ HPj.out HWj.out (Nat.le_refl _)).mono ?_
          rintro e4 w8 ⟨rfl, hb⟩
          rw [hsm]
          replace HW := Lib.hid (HW.out.trans (hb.mono HW.out.size))
          replace HPj := Lib.hid (HPj.out.up hb)
          replace HWj := Lib.hid (HWj.out.up hb)
          replace p0 := (hb.cell (p := ⟨wo.heap.size, 0, none⟩) zp).trans p0
          replace p1 := (hb.cell (p := ⟨wo.heap.size, 1, none⟩) zp).trans p1
          replace p2 := (hb.cell (p := ⟨wo.heap.size, 2, none⟩) zp).trans p2
          replace p3 := (hb.cell (p := ⟨wo.heap.size, 3, none⟩) zp).trans p3
          replace p4 := (hb.cell (p := ⟨wo.heap.size, 4, none⟩) zp).trans p4
          replace p5 := (hb.cell (p := ⟨wo.heap.size, 5, none⟩) zp).trans p5
          replace q0 := (hb.cell (p := ⟨gw, j * 6, none⟩) zw).trans q0
          replace q1 := (hb.cell (p := ⟨gw, j * 6 + 1, none⟩) zw).trans q1
          replace q2 := (hb.cell (p := ⟨gw, j * 6 + 2, none⟩) zw).trans q2
          replace q3 := (hb.cell (p := ⟨gw, j * 6 + 3, none⟩) zw).trans q3
          replace q4 := (hb.cell (p := ⟨gw, j * 6 + 4, none⟩) zw).trans q4
          replace q5 := (hb.cell (p := ⟨gw, j * 6 + 5, none⟩) zw).trans q5
          replace zp : wo.heap.size < w8.heap.size := Nat.lt_of_lt_of_le zp hb.size
          replace zw : gw < w8.heap.size := Nat.lt_of_lt_of_le zw hb.size
          have hT1 : (fun w' : World => w'.cell? ⟨wo.heap.size, 0, none⟩ = some (.int .i64 dj.K) ∧ w'.cell? ⟨wo.heap.size, 1, none⟩ = some (.int .i64 dj.N) ∧ w'.cell? ⟨wo.heap.size, 2, none⟩ = some (.string dj.S) ∧ w'.cell? ⟨wo.heap.size, 3, none⟩ = some (.slice a1 dj.M.length e1') ∧ w'.cell? ⟨wo.heap.size, 4, none⟩ = some (.slice a2 dj.L.length e2') ∧ w'.cell? ⟨wo.heap.size, 5, none⟩ = some (.slice a3 dj.T.length e3') ∧ w'.cell? ⟨gw, j * 6, none⟩ = some (.int .i64 dj.K) ∧ w'.cell? ⟨gw, j * 6 + 1, none⟩ = some (.int .i64 dj.N) ∧ w'.cell? ⟨gw, j * 6 + 2, none⟩ = some (.string dj.S) ∧ w'.cell? ⟨gw, j * 6 + 3, none⟩ = some (.slice b1 dj.M.length f1) ∧ w'.cell? ⟨gw, j * 6 + 4, none⟩ = some (.slice b2 dj.L.length f2) ∧ w'.cell? ⟨gw, j * 6 + 5, none⟩ = some (.slice b3 dj.T.length f3)) w8 := ⟨p0, p1, p2, p3, p4, p5, q0, q1, q2, q3, q4, q5⟩
          clear hb
          refine hK.out _ _ ⟨fun _ => trivial, hT1⟩ ?_
          clear hK K
          simp only [Act.put, List.setIfInBounds_toArray, List.set_cons_zero, List.set_cons_succ]
          refine Od.Till.takeT (i := 6) (d := 56) (v := .bool false) rfl rfl (by kernel_rfl) (by kernel_rfl) (by kernel_rfl) (by kernel_rfl) (fun _ _ _ h => h) (.inl ⟨by rfl, ?_⟩) trivial hT1 ?_
          · intro wx hSw
            obtain ⟨j0, j1, j2, j3, j4, j5, j6, j7, j8, j9, j10, j11⟩ := hSw
            go_simp
          simp only [Act.put, List.setIfInBounds_toArray, List.set_cons_zero, List.set_cons_succ]
          refine Od.Till.takeT (i := 7) (d := 57) (v := .bool false) rfl rfl (by kernel_rfl) (by kernel_rfl) (by kernel_rfl) (by kernel_rfl) (fun _ _ _ h => h) (.inl ⟨by rfl, ?_⟩) trivial hT1 ?_
          · intro wx hSw
            obtain ⟨j0, j1, j2, j3, j4, j5, j6, j7, j8, j9, j10, j11⟩ := hSw
            go_simp
          simp only [Act.put, List.setIfInBounds_toArray, List.set_cons_zero, List.set_cons_succ]
          refine Od.Till.takeT (i := 8) (d := 58) (v := .int .i64 (j : Int)) rfl rfl (by kernel_rfl) (by kernel_rfl) (by kernel_rfl) (by kernel_rfl) (fun _ _ _ h => h) (.inl ⟨by rfl, ?_⟩) trivial hT1 ?_
          · intro wx hSw
            obtain ⟨j0, j1, j2, j3, j4, j5, j6, j7, j8, j9, j10, j11⟩ := hSw
            go_simp
          simp only [Act.put, List.setIfInBounds_toArray, List.set_cons_zero, List.set_cons_succ]
          refine Od.Till.takeT (i := 9) (d := 59) (v := .slice ya ys.length yc) rfl rfl (by kernel_rfl) (by kernel_rfl) (by kernel_rfl) (by kernel_rfl) (fun _ _ _ h => h) (.inl ⟨by rfl, ?_⟩) trivial hT1 ?_
          · intro wx hSw
            obtain ⟨j0, j1, j2, j3, j4, j5, j6, j7, j8, j9, j10, j11⟩ := hSw
            go_simp
          simp only [Act.put, List.setIfInBounds_toArray, List.set_cons_zero, List.set_cons_succ]
          refine Od.Till.takeT (i := 10) (d := 60) (v := .int .i64 (ys.length : Int)) rfl rfl (by kernel_rfl) (by kernel_rfl) (by kernel_rfl) (by kernel_rfl) (fun _ _ _ h => h) (.inl ⟨by rfl, ?_⟩) trivial hT1 ?_
          · intro wx hSw
            obtain ⟨j0, j1, j2, j3, j4, j5, j6, j7, j8, j9, j10, j11⟩ := hSw
            go_simp
          simp only [Act.put, List.setIfInBounds_toArray, List.set_cons_zero, List.set_cons_succ]
          refine Od.Till.takeT (i := 11) (d := 61) (v := .bool false) rfl rfl (by kernel_rfl) (by kernel_rfl) (by kernel_rfl) (by kernel_rfl) (fun _ _ _ h => h) (.inl ⟨by rfl, ?_⟩) trivial hT1 ?_
          · intro wx hSw
            obtain ⟨j0, j1, j2, j3, j4, j5, j6, j7, j8, j9, j10, j11⟩ := hSw
            go_simp
          simp only [Act.put, List.setIfInBounds_toArray, List.set_cons_zero, List.set_cons_succ]
          refine Od.Till.takeT (i := 12) (d := 62) (v := .bool false) rfl rfl (by kernel_rfl) (by kernel_rfl) (by kernel_rfl) (by kernel_rfl) (fun _ _ _ h => h) (.inl ⟨by rfl, ?_⟩) trivial hT1 ?_
          · intro wx hSw
            obtain ⟨j0, j1, j2, j3, j4, j5, j6, j7, j8, j9, j10, j11⟩ := hSw
            go_simp
          simp only [Act.put, List.setIfInBounds_toArray, List.set_cons_zero, List.set_cons_succ]
          refine Od.Till.takeT (i := 13) (d := 63) (v := undef) rfl rfl (by kernel_rfl) (by kernel_rfl) (by kernel_rfl) (by kernel_rfl) (fun _ _ _ h => h) (.inr ⟨by rfl, rfl⟩) trivial hT1 ?_
          simp only [Act.put, List.setIfInBounds_toArray, List.set_cons_zero, List.set_cons_succ]
          refine Od.Till.takeT (i := 14) (d := 64) (v := undef) rfl rfl (by kernel_rfl) (by kernel_rfl) (by kernel_rfl) (by kernel_rfl) (fun _ _ _ h => h) (.inr ⟨by rfl, rfl⟩) trivial hT1 ?_
          simp only [Act.put, List.setIfInBounds_toArray, List.set_cons_zero, List.set_cons_succ]
          refine Od.Till.takeT (i := 15) (d := 65) (v := undef) rfl rfl (by kernel_rfl) (by kernel_rfl) (by kernel_rfl) (by kernel_rfl) (fun _ _ _ h => h) (.inr ⟨by rfl, rfl⟩) trivial hT1 ?_
          simp only [Act.put, List.setIfInBounds_toArray, List.set_cons_zero, List.set_cons_succ]
          refine Od.Till.takeT (i := 16) (d := 66) (v := undef) rfl rfl (by kernel_rfl) (by kernel_rfl) (by kernel_rfl) (by kernel_rfl) (fun _ _ _ h => h) (.inr ⟨by rfl, rfl⟩) trivial hT1 ?_
          simp only [Act.put, List.setIfInBounds_toArray, List.set_cons_zero, List.set_cons_succ]
          refine Od.Till.takeT (i := 17) (d := 67) (v := undef) rfl rfl (by kernel_rfl) (by kernel_rfl) (by kernel_rfl) (by kernel_rfl) (fun _ _ _ h => h) (.inr ⟨by rfl, rfl⟩) trivial hT1 ?_
          simp only [Act.put, List.setIfInBounds_toArray, List.set_cons_zero, List.set_cons_succ]
          refine Od.Till.one (i := 18) (by kernel_rfl) rfl (fun K hK => ?_)
          rw [if_neg (Bool.eq_false_iff.1 (by kernel_rfl))]
          refine hK.out _ _ ⟨fun _ => trivial, hT1⟩ ?_
          clear hK K
          simp only [Act.put, List.setIfInBounds_toArray, List.set_cons_zero, List.set_cons_succ]
          refine Od.Till.takeT (i := 19) (d := 69) (v := undef) rfl rfl (by kernel_rfl) (by kernel_rfl) (by kernel_rfl) (by kernel_rfl) (fun _ _ _ h => h) (.inr ⟨by rfl, rfl⟩) trivial hT1 ?_
          simp only [Act.put, List.setIfInBounds_toArray, List.set_cons_zero, List.set_cons_succ]
          refine Od.Till.takeT (i := 20) (d := 70) (v := .bool false) rfl rfl (by kernel_rfl) (by kernel_rfl) (by kernel_rfl) (by kernel_rfl) (fun _ _ _ h => h) (.inl ⟨by rfl, ?_⟩) trivial hT1 ?_
          · intro wx hSw
            obtain ⟨j0, j1, j2, j3, j4, j5, j6, j7, j8, j9, j10, j11⟩ := hSw
            go_simp
          simp only [Act.put, List.setIfInBounds_toArray, List.set_cons_zero, List.set_cons_succ]
          refine Od.Till.takeT (i := 21) (d := 71) (v := .bool false) rfl rfl (by kernel_rfl) (by kernel_rfl) (by kernel_rfl) (by kernel_rfl) (fun _ _ _ h => h) (.inl ⟨by rfl, ?_⟩) trivial hT1 ?_
          · intro wx hSw
            obtain ⟨j0, j1, j2, j3, j4, j5, j6, j7, j8, j9, j10, j11⟩ := hSw
            go_simp
          simp only [Act.put, List.setIfInBounds_toArray, List.set_cons_zero, List.set_cons_succ]
          refine Od.Till.done (by kernel_rfl) ?_
          go_wp2_with fail
          go_roundw
          case rel => exact ⟨j + 1, hlt, by go_num, HW.out⟩
          case measure => simp [intOf]; omega
      · have dl : decide ((j : Int) < (n : Int)) = false := by have := He1.out; simp; omega
        have hlt' : ¬ j < n := by have := He1.out; omega
        go_wp2_with fail
        go_ret
        exact ⟨rfl, HW.out.trans (hbr.mono HW.out.size)⟩
theorem dwalks_walk (d : Dt) (v : Value) (m : Int) (w : World) (hd : IsDt w (Lo w.heap.size) d v) (hm : (Lit.int .u8 m).wf = true) :
    Calls Try.prog 3 #[v, .int .u8 m] w fun e w' => e = .returned (.bool true) ∧ Below w.heap.size w w' := by
  obtain ⟨h0, h1⟩ := bounds_u8 hm
  obtain ⟨k, rfl⟩ := Int.eq_ofNat_of_zero_le h0
  exact dwalks_law d v k w hd (by omega)
end Go.Proofs.Yteddfdhbpgbloaa.Da
