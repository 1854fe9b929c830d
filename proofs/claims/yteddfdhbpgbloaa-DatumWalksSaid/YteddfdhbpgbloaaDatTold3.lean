/- The parts of a datum, as far as one goes through them: what is handed on, and what the law collects of it. -/
import Derived.Test.YteddfdhbpgbloaaDatTold2
import Derived.Test.YteddfdhbpgbloaaDatRWalk
namespace Go.Proofs.Yteddfdhbpgbloaa.Da
open Go.ChangeShapes Go.WideShapes Go.ChangeAt Go.RowKit Go.Shelf
set_option linter.unusedVariables false

theorem cntL_in {x : Dt} : ∀ {l : List Dt}, x ∈ l → cnt x ≤ cntL l
  | [], h => by cases h
  | y :: r, h => by
    simp only [cntL]
    rcases List.mem_cons.1 h with rfl | h
    · omega
    · have := cntL_in h; omega
theorem mem_nodesL' {y : Dt × Nat} : ∀ {l : List Dt} {i : Nat}, y ∈ nodesL l i → ∃ d ∈ l, y ∈ nodes d i
  | [], i, h => by rw [nodesL_nil] at h; cases h
  | d :: r, i, h => by
    rw [nodesL_cons, List.mem_append] at h
    rcases h with h | h
    · exact ⟨d, List.mem_cons_self .., h⟩
    · obtain ⟨x, h1, h2⟩ := mem_nodesL' h
      exact ⟨x, List.mem_cons_of_mem _ h1, h2⟩
theorem nodes_cnt (d : Dt) : ∀ (i : Nat) (x : Dt × Nat), x ∈ nodes d i → cnt x.1 ≤ cnt d := by
  induction d using Dt.ind with | h k n s m l t ihl iht =>
  intro i x hx
  rw [nodes_eq] at hx
  rcases List.mem_cons.1 hx with rfl | hx
  · exact Nat.le_refl _
  · rw [cnt_eq (.mk k n s m l t)]
    rcases List.mem_append.1 hx with hx | hx
    · obtain ⟨y, h1, h2⟩ := mem_nodesL' hx
      have := ihl y h1 _ _ h2
      have := cntL_in h1
      simp only [Dt.L] at *
      omega
    · obtain ⟨y, h1, h2⟩ := mem_nodesL' hx
      have := iht y h1 _ _ h2
      have := cntL_in h1
      simp only [Dt.T] at *
      omega
theorem err_deep : ∀ (l : List (Dt × Nat)) (c : Nat), errOf c l = 0 → ∀ x ∈ l, x.2 ≤ 64
  | [], _, _, x, hx => by cases hx
  | y :: r, c, h, x, hx => by
    rw [errOf] at h
    by_cases h0 : mErr c y.1 y.2 = 0
    · rw [if_pos h0] at h
      rcases List.mem_cons.1 hx with rfl | hx
      · exact (mErr_zero h0).1
      · exact err_deep r _ h x hx
    · rw [if_neg h0] at h; exact absurd h h0
theorem few_of {d : Dt} (h : chk d = 0) : ∀ x ∈ nodes d 1, Few x := fun x hx => ⟨Nat.le_trans (nodes_cnt d 1 x hx) (chk_cnt h), err_deep _ 0 (chk_zero.1 h) x hx⟩
/-- The iterator's value. -/
def AllRes (d : Dt) (w : World) (e : Ending) (w' : World) : Prop :=
  Below w.heap.size w w' ∧ ((chk d ≠ 0 ∧ e = .returned (.func (.func 38) #[] #[])) ∨
    (chk d = 0 ∧ ∃ g am al at_ cm cl ct, e = .returned (.func (.func 40) #[] #[.pointer (some ⟨g, 0, none⟩)]) ∧ w.heap.size ≤ g ∧
      w'.heap[g]? = some (.cells #[.int .i64 d.K, .int .i64 d.N, .string d.S, .slice am d.M.length cm, .slice al d.L.length cl, .slice at_ d.T.length ct] 25 (0, 0)) ∧
      IsDt w' (fun i => i < w'.heap.size) d (.agg #[.int .i64 d.K, .int .i64 d.N, .string d.S, .slice am d.M.length cm, .slice al d.L.length cl, .slice at_ d.T.length ct])))
set_option maxHeartbeats 2000000 in
theorem all_any (d : Dt) (v : Value) (B : Nat) (w : World) (hd : IsDt w (Lo B) d v) (hB : B ≤ w.heap.size) : Calls Try.prog 12 #[v] w (AllRes d w) := by
  have hd' := hd
  obtain ⟨am, cm, al, cl, at_, ct, rfl, _⟩ := hd'.open_
  have HD := Lib.hid hd
  clear hd hd'
  go_enter Try.func12, Try.ntmps12
  go_wp2_with fail
  have hX : Below w.heap.size w (w.alloc (.cells #[.int .i64 d.K, .int .i64 d.N, .string d.S, .slice am d.M.length cm, .slice al d.L.length cl, .slice at_ d.T.length ct] 25)) := bel_alloc _ _
  have hblk := heap_alloc_new w (.cells #[.int .i64 d.K, .int .i64 d.N, .string d.S, .slice am d.M.length cm, .slice al d.L.length cl, .slice at_ d.T.length ct] 25)
  refine (check_any d _ B _ (by exact HD.out.below (hX.mono hB)) (by simp; omega)).mono ?_
  rintro e w1 ⟨rfl, hb1⟩
  have hb01 := bel_trans hX hb1
  have hblk1 := (hb1.block w.heap.size (by simp)).trans hblk
  have c0 : w1.cell? ⟨w.heap.size, 0, none⟩ = some (.int .i64 d.K) := by rw [World.cell?, hblk1]; rfl
  have c1 : w1.cell? ⟨w.heap.size, 1, none⟩ = some (.int .i64 d.N) := by rw [World.cell?, hblk1]; rfl
  have c2 : w1.cell? ⟨w.heap.size, 2, none⟩ = some (.string d.S) := by rw [World.cell?, hblk1]; rfl
  have c3 : w1.cell? ⟨w.heap.size, 3, none⟩ = some (.slice am d.M.length cm) := by rw [World.cell?, hblk1]; rfl
  have c4 : w1.cell? ⟨w.heap.size, 4, none⟩ = some (.slice al d.L.length cl) := by rw [World.cell?, hblk1]; rfl
  have c5 : w1.cell? ⟨w.heap.size, 5, none⟩ = some (.slice at_ d.T.length ct) := by rw [World.cell?, hblk1]; rfl
  have hlt := (Array.getElem?_eq_some_iff.1 hblk1).1
  have HB1 := Lib.hid hb01
  obtain ⟨c, hc⟩ : ∃ c, chk d = c := ⟨_, rfl⟩
  have HC := Lib.hid hc
  rw [hc]
  clear hX hblk hb1 hb01 hblk1 hc
  by_cases h0 : c = 0
  · subst h0
    go_wp2_with fail
    refine (own_any d _ B _ (HD.out.below (HB1.out.mono hB)) (Nat.le_trans hB HB1.out.size)).mono ?_
    rintro e w2 ⟨v2, rfl, hb2, _, hown⟩
    have hv2 := (hown (chk_cnt HC.out)).isDt d _ _ _
    obtain ⟨am2, cm2, al2, cl2, at2, ct2, rfl, _⟩ := hv2.open_
    have HV2 := Lib.hid hv2
    have HB2 := Lib.hid (HB1.out.trans (hb2.mono HB1.out.size))
    clear hb2 hown hv2 c0 c1 c2 c3 c4 c5
    go_wp2_with fail
    go_ret
    refine ⟨HB2.out.alloc HB2.out.size _, .inr ⟨HC.out, w2.heap.size, am2, al2, at2, cm2, cl2, ct2, rfl, HB2.out.size, heap_alloc_new w2 _, ?_⟩⟩
    refine IsDt.keep2 (fun i hi => ?_) (fun i o u hi hu => ?_) d _ HV2.out
    · have h1 := hi.2; simp; omega
    · exact (Below.cell (B := w2.heap.size) (bel_alloc w2 _) (p := ⟨i, o, none⟩) hi.2).trans hu
  · have hne : (c != 0) = true := by simp [h0]
    have H0 := Lib.hid h0
    clear h0
    go_wp2_with fail
    go_ret
    exact ⟨HB1.out, .inl ⟨by rw [HC.out]; exact H0.out, rfl⟩⟩
set_option maxHeartbeats 2000000 in
theorem all1_comes (n b : Nat) (w : World) (hb : b < w.heap.size) : Rg.Comes n Try.prog 38 #[] (fun x : Ne => #[x.v]) (Rg.Kp b) (SAll b []) (SPart b []) w := by
  intro l J Jx W hW hJ hJx hY h0
  have H0 := Lib.hid h0
  have hbW := Nat.lt_of_lt_of_le hb hW.size
  clear h0 hY hJx hJ
  refine callsIn_wide.2 ?_
  simp only [List.append_toArray, List.append_nil]
  go_enter Try.func38, Try.ntmps38
  go_wp2_with fail
  go_end0
  exact ⟨⟨_, rfl⟩, .inl ⟨[], ⟨rfl, hbW, fun y hy => by cases hy⟩, H0.out⟩⟩
/-- What is collected of an iterator's value. -/
def PartsR (B : Nat) (ds : List Dt) (w : World) (e : Ending) (w' : World) : Prop :=
  ∃ (ys : List Ne) (a : Option Addr) (c : Nat), e = .returned (.slice a ys.length c) ∧ Below w.heap.size w w' ∧ w'.ownsRow w.heap.size 25 6 (.slice a ys.length c) ys.length (cellsN ys) ∧ ys.map Ne.d = ds ∧ ∀ y ∈ ys, IsDt w' (Lo w'.heap.size) y.d y.v
theorem told_none (m : Nat) (hm : m ≤ 1048576) (w : World) :
    Calls Try.prog 11 #[.func (.func 38) #[] #[], .int .i64 (m : Int)] w (PartsR w.heap.size [] w) := by
  have h := dtold 38 #[] m hm w [] (fun _ => by kernel_rfl) (enters_of Try.func38 (by kernel_rfl) rfl) (fun X hX hn hs => all1_comes _ _ X (by omega))
  refine h.mono fun e w' ⟨ys, a, c, h1, h2, h3, h4, h5⟩ => ⟨ys, a, c, h1, h2, h3, by rw [h4, List.take_nil], h5⟩
theorem told_all (m : Nat) (hm : m ≤ 1048576) (w : World) (d : Dt) (g : Nat) (am al at_ : Option Addr) (cm cl ct : Nat) (h0 : chk d = 0)
    (hg : w.heap[g]? = some (.cells #[.int .i64 d.K, .int .i64 d.N, .string d.S, .slice am d.M.length cm, .slice al d.L.length cl, .slice at_ d.T.length ct] 25 (0, 0)))
    (hd : IsDt w (fun i => i < w.heap.size) d (.agg #[.int .i64 d.K, .int .i64 d.N, .string d.S, .slice am d.M.length cm, .slice al d.L.length cl, .slice at_ d.T.length ct])) :
    Calls Try.prog 11 #[.func (.func 40) #[] #[.pointer (some ⟨g, 0, none⟩)], .int .i64 (m : Int)] w (PartsR w.heap.size (((partsD d).map Prod.fst).take m) w) := by
  have hglt : g < w.heap.size := (Array.getElem?_eq_some_iff.1 hg).1
  have h := dtold 40 #[.pointer (some ⟨g, 0, none⟩)] m hm w ((partsD d).map Prod.fst) (fun _ => by kernel_rfl) (enters_of Try.func40 (by kernel_rfl) rfl) (fun X hX hn hs => by
    have hb : w.heap.size + 1 < X.heap.size := by omega
    have hp : partsD d = nodes d 1 := by unfold partsD; rw [if_pos h0]
    rw [hp]
    refine all2_comes _ _ g d _ X hb hn (Rg.Sf.nil (by omega) (by omega) hn) (Lib.hid (few_of h0)) (IsDt.keep2 (fun i hi => Rg.Sf.nil (by have h1 : i < w.heap.size := hi; omega) (by have h1 : i < w.heap.size := hi; omega) hn) (fun i o u hi hu => (hX.cell (p := ⟨i, o, none⟩) hi).trans hu) d _ hd) am al at_ cm cl ct rfl ((hX.block g hglt).trans hg))
  exact h
end Go.Proofs.Yteddfdhbpgbloaa.Da
