/- Whether two data are the same: what the program answers. -/
import Derived.Test.YteddfdhbpgbloaaDatAwake
import Derived.Test.YteddfdhbpgbloaaShelf
namespace Go.Proofs.Yteddfdhbpgbloaa.Da
open Go.ChangeShapes Go.WideShapes Go.ChangeAt Go.RowKit

mutual
def eqD : Dt → Dt → Bool
  | .mk k n s m l t, b => k == b.K && (n == b.N && (s.toList == b.S.toList && (m == b.M && (eqL l b.L && eqL t b.T))))
def eqL : List Dt → List Dt → Bool
  | [], [] => true
  | x :: r, y :: q => eqD x y && eqL r q
  | _, _ => false
end
theorem eqD_eq (a b : Dt) : eqD a b = (a.K == b.K && (a.N == b.N && (a.S.toList == b.S.toList && (a.M == b.M && (eqL a.L b.L && eqL a.T b.T))))) := by
  cases a; simp only [eqD, Dt.K, Dt.N, Dt.S, Dt.M, Dt.L, Dt.T]
mutual
theorem eqD_refl : ∀ a : Dt, eqD a a = true
  | .mk k n s m l t => by
    simp only [eqD, Dt.K, Dt.N, Dt.S, Dt.M, Dt.L, Dt.T, eqL_refl l, eqL_refl t, beq_self_eq_true, Bool.and_self]
theorem eqL_refl : ∀ l : List Dt, eqL l l = true
  | [] => by simp only [eqL]
  | x :: r => by simp only [eqL, eqD_refl x, eqL_refl r, Bool.and_self]
end
theorem eqL_len : ∀ {l r : List Dt}, eqL l r = true → l.length = r.length
  | [], [], _ => rfl
  | x :: l, y :: r, h => by
    simp only [eqL, Bool.and_eq_true] at h
    rw [List.length_cons, List.length_cons, eqL_len h.2]
  | [], _ :: _, h => by simp [eqL] at h
  | _ :: _, [], h => by simp [eqL] at h
theorem eqL_all : ∀ {l r : List Dt}, l.length = r.length → (∀ (j : Nat) (x y : Dt), l[j]? = some x → r[j]? = some y → eqD x y = true) → eqL l r = true
  | [], [], _, _ => by simp only [eqL]
  | x :: l, y :: r, h, ha => by
    have h1 : l.length = r.length := by simpa using h
    simp only [eqL, ha 0 x y rfl rfl, eqL_all h1 (fun j x y hx hy => ha (j + 1) x y (by simpa using hx) (by simpa using hy)), Bool.and_self]
theorem eqL_not : ∀ {l r : List Dt} {j : Nat} {x y : Dt}, l[j]? = some x → r[j]? = some y → eqD x y = false → eqL l r = false
  | a :: l, b :: r, 0, x, y, hx, hy, h => by
    obtain rfl : a = x := by simpa using hx
    obtain rfl : b = y := by simpa using hy
    simp only [eqL, h, Bool.false_and]
  | a :: l, b :: r, j + 1, x, y, hx, hy, h => by
    simp only [eqL, eqL_not (l := l) (r := r) (j := j) (by simpa using hx) (by simpa using hy) h, Bool.and_false]
  | [], _, _, _, _, hx, _, _ => by simp at hx
  | _ :: _, [], _, _, _, _, hy, _ => by simp at hy
theorem bel_drewN (w : World) (q : Nat) : Below w.heap.size w (w.drewN q) := ⟨rfl, rfl, rfl, Nat.le_refl _, fun _ _ => rfl⟩
theorem ints_any {w : World} {Q1 Q2 : Nat → Prop} {a1 a2 : Option Addr} {c1 c2 : Nat} {m1 m2 : List Int} (h1 : IntRow w Q1 a1 m1.length c1 m1) (h2 : IntRow w Q2 a2 m2.length c2 m2) :
    Calls Try.prog 79 #[.slice a1 m1.length c1, .slice a2 m2.length c2] w fun e w' => e = .returned (.bool (m1 == m2)) ∧ Below w.heap.size w w' := by
  by_cases hl : m1.length = m2.length
  · rcases Nat.eq_zero_or_pos m1.length with h0 | h0
    · obtain rfl : m1 = [] := List.eq_nil_of_length_eq_zero h0
      obtain rfl : m2 = [] := List.eq_nil_of_length_eq_zero (by rw [← hl]; rfl)
      refine (Try.slices_Equal_int_empty a1 a2 c1 0 c2 w (by omega)).mono ?_
      rintro e w' ⟨rfl, rfl⟩
      exact ⟨by simp, Below.refl _ _⟩
    · obtain ⟨_, _, _, s1, _, _, g1⟩ := h1
      obtain ⟨_, _, _, s2, _, _, g2⟩ := h2
      obtain ⟨b1, o1, rfl, _, _⟩ := g1 0 h0
      obtain ⟨b2, o2, rfl, _, _⟩ := g2 0 (by omega)
      refine (Try.slices_Equal_int b1 o1 m1.length c1 b2 o2 m2.length c2 m1 m2 w (Nat.le_refl _) (Nat.le_refl _) (by omega) (by omega) (fun j hj => ?_) (fun j hj => ?_)).mono ?_
      · obtain ⟨b, o, he, _, hc⟩ := g1 j hj
        injection he with he
        injection he with he1 he2
        subst he1 he2
        exact hc
      · obtain ⟨b, o, he, _, hc⟩ := g2 j hj
        injection he with he
        injection he with he1 he2
        subst he1 he2
        exact hc
      · rintro e w' ⟨rfl, q, rfl⟩
        exact ⟨by rw [List.take_length, List.take_length], bel_drewN w q⟩
  · refine (Try.slices_Equal_int_lens a1 a2 m1.length c1 m2.length c2 w hl).mono ?_
    rintro e w' ⟨rfl, rfl⟩
    exact ⟨by rw [beq_eq_false_iff_ne.2 (fun h => hl (by rw [h]))], Below.refl _ _⟩
def EqAt (W1 : World) (l r : List Dt) (i : Value) (wr : World) : Prop := ∃ j : Nat, j ≤ l.length ∧ i = .int .i64 (j : Int) ∧ Below W1.heap.size W1 wr ∧ ∀ k x y, k < j → l[k]? = some x → r[k]? = some y → eqD x y = true
def EqIs (a : Dt) : Prop := ∀ (b : Dt) (va vb : Value) (B : Nat) (w : World), IsDt w (Lo B) a va → IsDt w (Lo B) b vb → B ≤ w.heap.size →
  Calls Try.prog 47 #[va, vb] w fun e w' => e = .returned (.bool (eqD a b)) ∧ Below w.heap.size w w'
set_option maxHeartbeats 2000000 in
theorem func_any (l r : List Dt) (ih : ∀ d ∈ l, EqIs d) (a1 a2 : Option Addr) (c1 c2 : Nat) (B : Nat) (w : World) (h1 : IsSl a1 l.length c1) (h2 : IsSl a2 r.length c2) (hl : IsDts w (Lo B) a1 0 l) (hr : IsDts w (Lo B) a2 0 r) (hB : B ≤ w.heap.size) :
    Calls Try.prog 80 #[.slice a1 l.length c1, .slice a2 r.length c2, .func (.func 47) #[] #[]] w fun e w' => e = .returned (.bool (eqL l r)) ∧ Below w.heap.size w w' := by
  have b1 : (l.length : Int) ≤ 17592186044416 := by have a := h1.1; have b := h1.2.2.1; omega
  have b2 : (r.length : Int) ≤ 17592186044416 := by have a := h2.1; have b := h2.2.2.1; omega
  have H1 := Lib.hid hl
  have H2 := Lib.hid hr
  have S1 := Lib.hid h1
  have S2 := Lib.hid h2
  clear h1 h2 hl hr
  by_cases hne : l.length = r.length
  · have dl : ((l.length : Int) != (r.length : Int)) = false := by simp [hne]
    go_enter Try.func80, Try.ntmps80
    have Hne := Lib.hid hne
    clear hne
    go_wp2_with fail
    go_loopw [17] (fun i wr => EqAt w l r i wr) (fun i _ => l.length - (intOf i).toNat)
    case atStart => exact ⟨0, Nat.zero_le _, rfl, Below.refl _ _, fun k x y hk => absurd hk (Nat.not_lt_zero _)⟩
    case round =>
      obtain ⟨j, hj, rfl, hbw, hall⟩ := hrel
      have Hbw := Lib.hid hbw
      have Hall := Lib.hid hall
      clear hbw hall
      by_cases hlt : j < l.length
      · have dj : decide ((j : Int) < (l.length : Int)) = true := by simp [hlt]
        obtain ⟨x, hx⟩ : ∃ x, l[j]? = some x := ⟨l[j], by simp⟩
        obtain ⟨y, hy⟩ : ∃ y, r[j]? = some y := ⟨r[j]'(by have := Hne.out; omega), by simp⟩
        obtain ⟨bx, ox, pm, pcm, pl, pcl, pt, pct, rfl, hbx, sx, ix⟩ := H1.out.at6 j x hx
        obtain ⟨bz, oz, qm, qcm, ql, qcl, qt, qct, rfl, hbz, sz, iz⟩ := H2.out.at6 j y hy
        have hbx' : bx < w.heap.size := Nat.lt_of_lt_of_le hbx hB
        have hbz' : bz < w.heap.size := Nat.lt_of_lt_of_le hbz hB
        obtain ⟨e0, e1, e2, e3, e4, e5⟩ := sx.keep (w' := wr) (fun o => Hbw.out.cell (p := ⟨bx, o, none⟩) hbx')
        obtain ⟨g0, g1, g2, g3, g4, g5⟩ := sz.keep (w' := wr) (fun o => Hbw.out.cell (p := ⟨bz, o, none⟩) hbz')
        have hsz := Hbw.out.size
        have hbz1 : bz < wr.heap.size := by omega
        have k0 : (0 : Int) ≤ (j : Int) := Int.natCast_nonneg _
        have k1 : (j : Int) < (l.length : Int) := by omega
        have k2 : (j : Int) < (r.length : Int) := by have := Hne.out; omega
        have Hx := Lib.hid hx
        have Hy := Lib.hid hy
        have Ix := Lib.hid ix
        have Iz := Lib.hid iz
        have Ihx := Lib.hid (ih x (List.mem_of_getElem? hx))
        clear hx hy ix iz sx sz hbx hbz dl
        obtain ⟨c, hc⟩ : ∃ c, eqD x y = c := ⟨_, rfl⟩
        have Hc := Lib.hid hc
        clear hc
        cases c
        · have he : eqL l r = false := eqL_not Hx.out Hy.out Hc.out
          have He := Lib.hid he
          clear he
          go_wp2_with fail
          obtain ⟨hbX, hsX, hkX⟩ := start_allocs [(#[.int .i64 x.K, .int .i64 x.N, .string x.S, .slice pm x.M.length pcm, .slice pl x.L.length pcl, .slice pt x.T.length pct], 25), (#[.int .i64 y.K, .int .i64 y.N, .string y.S, .slice qm y.M.length qcm, .slice ql y.L.length qcl, .slice qt y.T.length qct], 25)] wr
          clear hkX
          simp only [allocs, List.foldl_cons, List.foldl_nil, List.length_cons, List.length_nil, Nat.zero_add] at hbX hsX
          generalize (wr.alloc (.cells #[.int .i64 x.K, .int .i64 x.N, .string x.S, .slice pm x.M.length pcm, .slice pl x.L.length pcl, .slice pt x.T.length pct] 25)).alloc (.cells #[.int .i64 y.K, .int .i64 y.N, .string y.S, .slice qm y.M.length qcm, .slice ql y.L.length qcl, .slice qt y.T.length qct] 25) = X at *
          refine (Ihx.out y _ _ B _ (by exact Ix.out.below ((Hbw.out.trans (hbX.mono Hbw.out.size)).mono hB)) (by exact Iz.out.below ((Hbw.out.trans (hbX.mono Hbw.out.size)).mono hB)) (by omega)).mono ?_
          rintro e w2 ⟨rfl, hb2⟩
          rw [Hc.out]
          go_wp2_with fail
          go_ret
          exact ⟨by rw [He.out]; rfl, Hbw.out.trans ((hbX.trans (hb2.mono hbX.size)).mono Hbw.out.size)⟩
        · go_wp2_with fail
          obtain ⟨hbX, hsX, hkX⟩ := start_allocs [(#[.int .i64 x.K, .int .i64 x.N, .string x.S, .slice pm x.M.length pcm, .slice pl x.L.length pcl, .slice pt x.T.length pct], 25), (#[.int .i64 y.K, .int .i64 y.N, .string y.S, .slice qm y.M.length qcm, .slice ql y.L.length qcl, .slice qt y.T.length qct], 25)] wr
          clear hkX
          simp only [allocs, List.foldl_cons, List.foldl_nil, List.length_cons, List.length_nil, Nat.zero_add] at hbX hsX
          generalize (wr.alloc (.cells #[.int .i64 x.K, .int .i64 x.N, .string x.S, .slice pm x.M.length pcm, .slice pl x.L.length pcl, .slice pt x.T.length pct] 25)).alloc (.cells #[.int .i64 y.K, .int .i64 y.N, .string y.S, .slice qm y.M.length qcm, .slice ql y.L.length qcl, .slice qt y.T.length qct] 25) = X at *
          refine (Ihx.out y _ _ B _ (by exact Ix.out.below ((Hbw.out.trans (hbX.mono Hbw.out.size)).mono hB)) (by exact Iz.out.below ((Hbw.out.trans (hbX.mono Hbw.out.size)).mono hB)) (by omega)).mono ?_
          rintro e w2 ⟨rfl, hb2⟩
          rw [Hc.out]
          go_wp2_with fail
          go_roundw
          case rel =>
            refine ⟨j + 1, by omega, by go_num, Hbw.out.trans ((hbX.trans (hb2.mono hbX.size)).mono Hbw.out.size), fun k x' y' hk hx' hy' => ?_⟩
            by_cases hkj : k = j
            · subst hkj
              obtain rfl : x = x' := by have := Hx.out.symm.trans hx'; injection this
              obtain rfl : y = y' := by have := Hy.out.symm.trans hy'; injection this
              exact Hc.out
            · exact Hall.out k x' y' (by omega) hx' hy'
          case measure => simp [intOf]; omega
      · obtain rfl : j = l.length := by omega
        have dj : decide ((l.length : Int) < (l.length : Int)) = false := by simp
        have he : eqL l r = true := eqL_all Hne.out (fun k x y hx hy => Hall.out k x y (List.getElem?_eq_some_iff.1 hx).1 hx hy)
        have He := Lib.hid he
        clear he
        go_wp2_with fail
        go_ret
        exact ⟨by rw [He.out]; rfl, Hbw.out⟩
  · have dl : ((l.length : Int) != (r.length : Int)) = true := by simp; omega
    have he : eqL l r = false := by
      cases h : eqL l r
      · rfl
      · exact absurd (eqL_len h) hne
    rw [he]
    go_enter Try.func80, Try.ntmps80
    go_wp2_with fail
    go_ret
    exact ⟨rfl, Below.refl _ _⟩
theorem rows_below {w w' : World} {B : Nat} {a : Option Addr} {n c : Nat} {zs : List Int} (h : IntRow w (Lo B) a n c zs) (hb : Below B w w') : IntRow w' (Lo B) a n c zs := by
  obtain ⟨h1, h2, h3, h4, h5, h6, h7⟩ := h
  refine ⟨h1, h2, h3, h4, h5, h6, fun k hk => ?_⟩
  obtain ⟨b, off, e, hq, hc⟩ := h7 k hk
  exact ⟨b, off, e, hq, (hb.cell (p := ⟨b, off + k, none⟩) hq).trans hc⟩
set_option maxHeartbeats 2000000 in
theorem equal_step (a : Dt) (ihL : ∀ d ∈ a.L, EqIs d) (ihT : ∀ d ∈ a.T, EqIs d) : EqIs a := by
  intro b va vb B w h1 h2 hB
  have H1 := Lib.hid h1
  have H2 := Lib.hid h2
  obtain ⟨am, cm, al, cl, at_, ct, rfl, _, _, _, im, sl, dl, st, dt⟩ := h1.open_
  obtain ⟨am', cm', al', cl', at', ct', rfl, _, _, _, im', sl', dl', st', dt'⟩ := h2.open_
  have Im := Lib.hid (And.intro im im')
  have Il := Lib.hid (And.intro (And.intro sl dl) (And.intro sl' dl'))
  have It := Lib.hid (And.intro (And.intro st dt) (And.intro st' dt'))
  have IHL := Lib.hid ihL
  have IHT := Lib.hid ihT
  clear h1 h2 im im' sl dl st dt sl' dl' st' dt' ihL ihT
  have he := eqD_eq a b
  obtain ⟨c4, h4⟩ : ∃ c, (a.M == b.M) = c := ⟨_, rfl⟩
  obtain ⟨c5, h5⟩ : ∃ c, eqL a.L b.L = c := ⟨_, rfl⟩
  obtain ⟨c6, h6⟩ : ∃ c, eqL a.T b.T = c := ⟨_, rfl⟩
  rw [h4, h5, h6] at he
  have H4 := Lib.hid h4
  have H5 := Lib.hid h5
  have H6 := Lib.hid h6
  clear h4 h5 h6
  have He := Lib.hid he
  clear he
  cases c1 : a.K == b.K
  · go_enter Try.func47, Try.ntmps47
    go_wp2_with fail
    go_ret
    exact ⟨by rw [He.out, c1]; rfl, ((bel_alloc _ _).trans ((bel_alloc _ _).mono (by simp)))⟩
  · cases c2 : a.N == b.N
    · go_enter Try.func47, Try.ntmps47
      go_wp2_with fail
      go_ret
      exact ⟨by rw [He.out, c1, c2]; rfl, ((bel_alloc _ _).trans ((bel_alloc _ _).mono (by simp)))⟩
    · cases c3 : a.S.toList == b.S.toList
      · go_enter Try.func47, Try.ntmps47
        go_wp2_with fail
        go_ret
        exact ⟨by rw [He.out, c1, c2, c3]; rfl, ((bel_alloc _ _).trans ((bel_alloc _ _).mono (by simp)))⟩
      · cases c4
        · go_enter Try.func47, Try.ntmps47
          go_wp2_with fail
          obtain ⟨hbX, hsX, hkX⟩ := start_allocs [(#[.int .i64 a.K, .int .i64 a.N, .string a.S, .slice am a.M.length cm, .slice al a.L.length cl, .slice at_ a.T.length ct], 25), (#[.int .i64 b.K, .int .i64 b.N, .string b.S, .slice am' b.M.length cm', .slice al' b.L.length cl', .slice at' b.T.length ct'], 25)] w
          have g0 := hkX 0 _ rfl
          have g1 := hkX 1 _ rfl
          simp only [allocs, List.foldl_cons, List.foldl_nil, Nat.add_zero, List.length_cons, List.length_nil, Nat.zero_add] at hbX hsX g0 g1
          clear hkX
          generalize (w.alloc (.cells #[.int .i64 a.K, .int .i64 a.N, .string a.S, .slice am a.M.length cm, .slice al a.L.length cl, .slice at_ a.T.length ct] 25)).alloc (.cells #[.int .i64 b.K, .int .i64 b.N, .string b.S, .slice am' b.M.length cm', .slice al' b.L.length cl', .slice at' b.T.length ct'] 25) = X at *
          have x0 : X.cell? ⟨w.heap.size, 0, none⟩ = some (.int .i64 a.K) := (g0.cell 0).trans rfl
          have x1 : X.cell? ⟨w.heap.size, 1, none⟩ = some (.int .i64 a.N) := (g0.cell 1).trans rfl
          have x2 : X.cell? ⟨w.heap.size, 2, none⟩ = some (.string a.S) := (g0.cell 2).trans rfl
          have x3 : X.cell? ⟨w.heap.size, 3, none⟩ = some (.slice am a.M.length cm) := (g0.cell 3).trans rfl
          have x4 : X.cell? ⟨w.heap.size, 4, none⟩ = some (.slice al a.L.length cl) := (g0.cell 4).trans rfl
          have x5 : X.cell? ⟨w.heap.size, 5, none⟩ = some (.slice at_ a.T.length ct) := (g0.cell 5).trans rfl
          have y0 : X.cell? ⟨w.heap.size + 1, 0, none⟩ = some (.int .i64 b.K) := (g1.cell 0).trans rfl
          have y1 : X.cell? ⟨w.heap.size + 1, 1, none⟩ = some (.int .i64 b.N) := (g1.cell 1).trans rfl
          have y2 : X.cell? ⟨w.heap.size + 1, 2, none⟩ = some (.string b.S) := (g1.cell 2).trans rfl
          have y3 : X.cell? ⟨w.heap.size + 1, 3, none⟩ = some (.slice am' b.M.length cm') := (g1.cell 3).trans rfl
          have y4 : X.cell? ⟨w.heap.size + 1, 4, none⟩ = some (.slice al' b.L.length cl') := (g1.cell 4).trans rfl
          have y5 : X.cell? ⟨w.heap.size + 1, 5, none⟩ = some (.slice at' b.T.length ct') := (g1.cell 5).trans rfl
          have hl1 : w.heap.size < X.heap.size := by omega
          have hl2 : w.heap.size + 1 < X.heap.size := by omega
          clear g0 g1
          refine (ints_any (w := X) (Q1 := Lo B) (Q2 := Lo B) (rows_below Im.out.1 (hbX.mono hB)) (rows_below Im.out.2 (hbX.mono hB))).mono ?_
          rintro e w2 ⟨rfl, hb2⟩
          rw [H4.out]
          obtain ⟨hc2, _⟩ := bcell hb2
          have s2 := hb2.size
          have hB2 : Below B w w2 := (bel_trans hbX hb2).mono hB
          go_wp2_with fail
          go_ret
          exact ⟨by rw [He.out, c1, c2, c3]; rfl, bel_trans hbX hb2⟩
        · cases c5
          · go_enter Try.func47, Try.ntmps47
            go_wp2_with fail
            obtain ⟨hbX, hsX, hkX⟩ := start_allocs [(#[.int .i64 a.K, .int .i64 a.N, .string a.S, .slice am a.M.length cm, .slice al a.L.length cl, .slice at_ a.T.length ct], 25), (#[.int .i64 b.K, .int .i64 b.N, .string b.S, .slice am' b.M.length cm', .slice al' b.L.length cl', .slice at' b.T.length ct'], 25)] w
            have g0 := hkX 0 _ rfl
            have g1 := hkX 1 _ rfl
            simp only [allocs, List.foldl_cons, List.foldl_nil, Nat.add_zero, List.length_cons, List.length_nil, Nat.zero_add] at hbX hsX g0 g1
            clear hkX
            generalize (w.alloc (.cells #[.int .i64 a.K, .int .i64 a.N, .string a.S, .slice am a.M.length cm, .slice al a.L.length cl, .slice at_ a.T.length ct] 25)).alloc (.cells #[.int .i64 b.K, .int .i64 b.N, .string b.S, .slice am' b.M.length cm', .slice al' b.L.length cl', .slice at' b.T.length ct'] 25) = X at *
            have x0 : X.cell? ⟨w.heap.size, 0, none⟩ = some (.int .i64 a.K) := (g0.cell 0).trans rfl
            have x1 : X.cell? ⟨w.heap.size, 1, none⟩ = some (.int .i64 a.N) := (g0.cell 1).trans rfl
            have x2 : X.cell? ⟨w.heap.size, 2, none⟩ = some (.string a.S) := (g0.cell 2).trans rfl
            have x3 : X.cell? ⟨w.heap.size, 3, none⟩ = some (.slice am a.M.length cm) := (g0.cell 3).trans rfl
            have x4 : X.cell? ⟨w.heap.size, 4, none⟩ = some (.slice al a.L.length cl) := (g0.cell 4).trans rfl
            have x5 : X.cell? ⟨w.heap.size, 5, none⟩ = some (.slice at_ a.T.length ct) := (g0.cell 5).trans rfl
            have y0 : X.cell? ⟨w.heap.size + 1, 0, none⟩ = some (.int .i64 b.K) := (g1.cell 0).trans rfl
            have y1 : X.cell? ⟨w.heap.size + 1, 1, none⟩ = some (.int .i64 b.N) := (g1.cell 1).trans rfl
            have y2 : X.cell? ⟨w.heap.size + 1, 2, none⟩ = some (.string b.S) := (g1.cell 2).trans rfl
            have y3 : X.cell? ⟨w.heap.size + 1, 3, none⟩ = some (.slice am' b.M.length cm') := (g1.cell 3).trans rfl
            have y4 : X.cell? ⟨w.heap.size + 1, 4, none⟩ = some (.slice al' b.L.length cl') := (g1.cell 4).trans rfl
            have y5 : X.cell? ⟨w.heap.size + 1, 5, none⟩ = some (.slice at' b.T.length ct') := (g1.cell 5).trans rfl
            have hl1 : w.heap.size < X.heap.size := by omega
            have hl2 : w.heap.size + 1 < X.heap.size := by omega
            clear g0 g1
            refine (ints_any (w := X) (Q1 := Lo B) (Q2 := Lo B) (rows_below Im.out.1 (hbX.mono hB)) (rows_below Im.out.2 (hbX.mono hB))).mono ?_
            rintro e w2 ⟨rfl, hb2⟩
            rw [H4.out]
            obtain ⟨hc2, _⟩ := bcell hb2
            have s2 := hb2.size
            have hB2 : Below B w w2 := (bel_trans hbX hb2).mono hB
            go_wp2_with fail
            refine (func_any a.L b.L IHL.out al al' cl cl' B _ Il.out.1.1 Il.out.2.1 (by exact Il.out.1.2.below hB2) (by exact Il.out.2.2.below hB2) (by omega)).mono ?_
            rintro e w3 ⟨rfl, hb3⟩
            rw [H5.out]
            obtain ⟨hc3, _⟩ := bcell hb3
            have s3 := hb3.size
            have hl3 : w.heap.size < w2.heap.size := by omega
            have hl4 : w.heap.size + 1 < w2.heap.size := by omega
            have hB3 : Below B w w3 := (bel_trans (bel_trans hbX hb2) hb3).mono hB
            go_wp2_with fail
            go_ret
            exact ⟨by rw [He.out, c1, c2, c3]; rfl, bel_trans (bel_trans hbX hb2) hb3⟩
          · cases c6
            · go_enter Try.func47, Try.ntmps47
              go_wp2_with fail
              obtain ⟨hbX, hsX, hkX⟩ := start_allocs [(#[.int .i64 a.K, .int .i64 a.N, .string a.S, .slice am a.M.length cm, .slice al a.L.length cl, .slice at_ a.T.length ct], 25), (#[.int .i64 b.K, .int .i64 b.N, .string b.S, .slice am' b.M.length cm', .slice al' b.L.length cl', .slice at' b.T.length ct'], 25)] w
              have g0 := hkX 0 _ rfl
              have g1 := hkX 1 _ rfl
              simp only [allocs, List.foldl_cons, List.foldl_nil, Nat.add_zero, List.length_cons, List.length_nil, Nat.zero_add] at hbX hsX g0 g1
              clear hkX
              generalize (w.alloc (.cells #[.int .i64 a.K, .int .i64 a.N, .string a.S, .slice am a.M.length cm, .slice al a.L.length cl, .slice at_ a.T.length ct] 25)).alloc (.cells #[.int .i64 b.K, .int .i64 b.N, .string b.S, .slice am' b.M.length cm', .slice al' b.L.length cl', .slice at' b.T.length ct'] 25) = X at *
              have x0 : X.cell? ⟨w.heap.size, 0, none⟩ = some (.int .i64 a.K) := (g0.cell 0).trans rfl
              have x1 : X.cell? ⟨w.heap.size, 1, none⟩ = some (.int .i64 a.N) := (g0.cell 1).trans rfl
              have x2 : X.cell? ⟨w.heap.size, 2, none⟩ = some (.string a.S) := (g0.cell 2).trans rfl
              have x3 : X.cell? ⟨w.heap.size, 3, none⟩ = some (.slice am a.M.length cm) := (g0.cell 3).trans rfl
              have x4 : X.cell? ⟨w.heap.size, 4, none⟩ = some (.slice al a.L.length cl) := (g0.cell 4).trans rfl
              have x5 : X.cell? ⟨w.heap.size, 5, none⟩ = some (.slice at_ a.T.length ct) := (g0.cell 5).trans rfl
              have y0 : X.cell? ⟨w.heap.size + 1, 0, none⟩ = some (.int .i64 b.K) := (g1.cell 0).trans rfl
              have y1 : X.cell? ⟨w.heap.size + 1, 1, none⟩ = some (.int .i64 b.N) := (g1.cell 1).trans rfl
              have y2 : X.cell? ⟨w.heap.size + 1, 2, none⟩ = some (.string b.S) := (g1.cell 2).trans rfl
              have y3 : X.cell? ⟨w.heap.size + 1, 3, none⟩ = some (.slice am' b.M.length cm') := (g1.cell 3).trans rfl
              have y4 : X.cell? ⟨w.heap.size + 1, 4, none⟩ = some (.slice al' b.L.length cl') := (g1.cell 4).trans rfl
              have y5 : X.cell? ⟨w.heap.size + 1, 5, none⟩ = some (.slice at' b.T.length ct') := (g1.cell 5).trans rfl
              have hl1 : w.heap.size < X.heap.size := by omega
              have hl2 : w.heap.size + 1 < X.heap.size := by omega
              clear g0 g1
              refine (ints_any (w := X) (Q1 := Lo B) (Q2 := Lo B) (rows_below Im.out.1 (hbX.mono hB)) (rows_below Im.out.2 (hbX.mono hB))).mono ?_
              rintro e w2 ⟨rfl, hb2⟩
              rw [H4.out]
              obtain ⟨hc2, _⟩ := bcell hb2
              have s2 := hb2.size
              have hB2 : Below B w w2 := (bel_trans hbX hb2).mono hB
              go_wp2_with fail
              refine (func_any a.L b.L IHL.out al al' cl cl' B _ Il.out.1.1 Il.out.2.1 (by exact Il.out.1.2.below hB2) (by exact Il.out.2.2.below hB2) (by omega)).mono ?_
              rintro e w3 ⟨rfl, hb3⟩
              rw [H5.out]
              obtain ⟨hc3, _⟩ := bcell hb3
              have s3 := hb3.size
              have hl3 : w.heap.size < w2.heap.size := by omega
              have hl4 : w.heap.size + 1 < w2.heap.size := by omega
              have hB3 : Below B w w3 := (bel_trans (bel_trans hbX hb2) hb3).mono hB
              go_wp2_with fail
              refine (func_any a.T b.T IHT.out at_ at' ct ct' B _ It.out.1.1 It.out.2.1 (by exact It.out.1.2.below hB3) (by exact It.out.2.2.below hB3) (by omega)).mono ?_
              rintro e w4 ⟨rfl, hb4⟩
              rw [H6.out]
              go_wp2_with fail
              go_ret
              exact ⟨by rw [He.out, c1, c2, c3]; rfl, bel_trans (bel_trans (bel_trans hbX hb2) hb3) hb4⟩
            · go_enter Try.func47, Try.ntmps47
              go_wp2_with fail
              obtain ⟨hbX, hsX, hkX⟩ := start_allocs [(#[.int .i64 a.K, .int .i64 a.N, .string a.S, .slice am a.M.length cm, .slice al a.L.length cl, .slice at_ a.T.length ct], 25), (#[.int .i64 b.K, .int .i64 b.N, .string b.S, .slice am' b.M.length cm', .slice al' b.L.length cl', .slice at' b.T.length ct'], 25)] w
              have g0 := hkX 0 _ rfl
              have g1 := hkX 1 _ rfl
              simp only [allocs, List.foldl_cons, List.foldl_nil, Nat.add_zero, List.length_cons, List.length_nil, Nat.zero_add] at hbX hsX g0 g1
              clear hkX
              generalize (w.alloc (.cells #[.int .i64 a.K, .int .i64 a.N, .string a.S, .slice am a.M.length cm, .slice al a.L.length cl, .slice at_ a.T.length ct] 25)).alloc (.cells #[.int .i64 b.K, .int .i64 b.N, .string b.S, .slice am' b.M.length cm', .slice al' b.L.length cl', .slice at' b.T.length ct'] 25) = X at *
              have x0 : X.cell? ⟨w.heap.size, 0, none⟩ = some (.int .i64 a.K) := (g0.cell 0).trans rfl
              have x1 : X.cell? ⟨w.heap.size, 1, none⟩ = some (.int .i64 a.N) := (g0.cell 1).trans rfl
              have x2 : X.cell? ⟨w.heap.size, 2, none⟩ = some (.string a.S) := (g0.cell 2).trans rfl
              have x3 : X.cell? ⟨w.heap.size, 3, none⟩ = some (.slice am a.M.length cm) := (g0.cell 3).trans rfl
              have x4 : X.cell? ⟨w.heap.size, 4, none⟩ = some (.slice al a.L.length cl) := (g0.cell 4).trans rfl
              have x5 : X.cell? ⟨w.heap.size, 5, none⟩ = some (.slice at_ a.T.length ct) := (g0.cell 5).trans rfl
              have y0 : X.cell? ⟨w.heap.size + 1, 0, none⟩ = some (.int .i64 b.K) := (g1.cell 0).trans rfl
              have y1 : X.cell? ⟨w.heap.size + 1, 1, none⟩ = some (.int .i64 b.N) := (g1.cell 1).trans rfl
              have y2 : X.cell? ⟨w.heap.size + 1, 2, none⟩ = some (.string b.S) := (g1.cell 2).trans rfl
              have y3 : X.cell? ⟨w.heap.size + 1, 3, none⟩ = some (.slice am' b.M.length cm') := (g1.cell 3).trans rfl
              have y4 : X.cell? ⟨w.heap.size + 1, 4, none⟩ = some (.slice al' b.L.length cl') := (g1.cell 4).trans rfl
              have y5 : X.cell? ⟨w.heap.size + 1, 5, none⟩ = some (.slice at' b.T.length ct') := (g1.cell 5).trans rfl
              have hl1 : w.heap.size < X.heap.size := by omega
              have hl2 : w.heap.size + 1 < X.heap.size := by omega
              clear g0 g1
              refine (ints_any (w := X) (Q1 := Lo B) (Q2 := Lo B) (rows_below Im.out.1 (hbX.mono hB)) (rows_below Im.out.2 (hbX.mono hB))).mono ?_
              rintro e w2 ⟨rfl, hb2⟩
              rw [H4.out]
              obtain ⟨hc2, _⟩ := bcell hb2
              have s2 := hb2.size
              have hB2 : Below B w w2 := (bel_trans hbX hb2).mono hB
              go_wp2_with fail
              refine (func_any a.L b.L IHL.out al al' cl cl' B _ Il.out.1.1 Il.out.2.1 (by exact Il.out.1.2.below hB2) (by exact Il.out.2.2.below hB2) (by omega)).mono ?_
              rintro e w3 ⟨rfl, hb3⟩
              rw [H5.out]
              obtain ⟨hc3, _⟩ := bcell hb3
              have s3 := hb3.size
              have hl3 : w.heap.size < w2.heap.size := by omega
              have hl4 : w.heap.size + 1 < w2.heap.size := by omega
              have hB3 : Below B w w3 := (bel_trans (bel_trans hbX hb2) hb3).mono hB
              go_wp2_with fail
              refine (func_any a.T b.T IHT.out at_ at' ct ct' B _ It.out.1.1 It.out.2.1 (by exact It.out.1.2.below hB3) (by exact It.out.2.2.below hB3) (by omega)).mono ?_
              rintro e w4 ⟨rfl, hb4⟩
              rw [H6.out]
              go_wp2_with fail
              go_ret
              exact ⟨by rw [He.out, c1, c2, c3]; rfl, bel_trans (bel_trans (bel_trans hbX hb2) hb3) hb4⟩
theorem equal_all (a : Dt) : EqIs a := Dt.ind (fun k n s m l t hl ht => equal_step (.mk k n s m l t) hl ht) a
set_option maxHeartbeats 1000000 in
theorem same_any (a b : Dt) (va vb : Value) (B : Nat) (w : World) (h1 : IsDt w (Lo B) a va) (h2 : IsDt w (Lo B) b vb) (hB : B ≤ w.heap.size) :
    Calls Try.prog 18 #[va, vb] w fun e w' => e = .returned (.bool ((chk a == 0) && eqD a b)) ∧ Below w.heap.size w w' := by
  have H1 := Lib.hid h1
  have H2 := Lib.hid h2
  obtain ⟨am, cm, al, cl, at_, ct, rfl, _⟩ := h1.open_
  obtain ⟨am', cm', al', cl', at', ct', rfl, _⟩ := h2.open_
  clear h1 h2
  obtain ⟨ca, hca⟩ : ∃ ca, chk a = ca := ⟨_, rfl⟩
  obtain ⟨ce, hce⟩ : ∃ ce, eqD a b = ce := ⟨_, rfl⟩
  have HC := Lib.hid hca
  have HE := Lib.hid hce
  clear hca hce
  rw [HC.out, HE.out]
  cases c0 : ca == 0
  all_goals
    go_enter Try.func18, Try.ntmps18
    go_wp2_with fail
    obtain ⟨hbX, hsX, hkX⟩ := start_allocs [(#[.int .i64 a.K, .int .i64 a.N, .string a.S, .slice am a.M.length cm, .slice al a.L.length cl, .slice at_ a.T.length ct], 25), (#[.int .i64 b.K, .int .i64 b.N, .string b.S, .slice am' b.M.length cm', .slice al' b.L.length cl', .slice at' b.T.length ct'], 25)] w
    have g0 := hkX 0 _ rfl
    have g1 := hkX 1 _ rfl
    simp only [allocs, List.foldl_cons, List.foldl_nil, Nat.add_zero, List.length_cons, List.length_nil, Nat.zero_add] at hbX hsX g0 g1
    clear hkX
    generalize (w.alloc (.cells #[.int .i64 a.K, .int .i64 a.N, .string a.S, .slice am a.M.length cm, .slice al a.L.length cl, .slice at_ a.T.length ct] 25)).alloc (.cells #[.int .i64 b.K, .int .i64 b.N, .string b.S, .slice am' b.M.length cm', .slice al' b.L.length cl', .slice at' b.T.length ct'] 25) = X at *
    have x0 : X.cell? ⟨w.heap.size, 0, none⟩ = some (.int .i64 a.K) := (g0.cell 0).trans rfl
    have x1 : X.cell? ⟨w.heap.size, 1, none⟩ = some (.int .i64 a.N) := (g0.cell 1).trans rfl
    have x2 : X.cell? ⟨w.heap.size, 2, none⟩ = some (.string a.S) := (g0.cell 2).trans rfl
    have x3 : X.cell? ⟨w.heap.size, 3, none⟩ = some (.slice am a.M.length cm) := (g0.cell 3).trans rfl
    have x4 : X.cell? ⟨w.heap.size, 4, none⟩ = some (.slice al a.L.length cl) := (g0.cell 4).trans rfl
    have x5 : X.cell? ⟨w.heap.size, 5, none⟩ = some (.slice at_ a.T.length ct) := (g0.cell 5).trans rfl
    have y0 : X.cell? ⟨w.heap.size + 1, 0, none⟩ = some (.int .i64 b.K) := (g1.cell 0).trans rfl
    have y1 : X.cell? ⟨w.heap.size + 1, 1, none⟩ = some (.int .i64 b.N) := (g1.cell 1).trans rfl
    have y2 : X.cell? ⟨w.heap.size + 1, 2, none⟩ = some (.string b.S) := (g1.cell 2).trans rfl
    have y3 : X.cell? ⟨w.heap.size + 1, 3, none⟩ = some (.slice am' b.M.length cm') := (g1.cell 3).trans rfl
    have y4 : X.cell? ⟨w.heap.size + 1, 4, none⟩ = some (.slice al' b.L.length cl') := (g1.cell 4).trans rfl
    have y5 : X.cell? ⟨w.heap.size + 1, 5, none⟩ = some (.slice at' b.T.length ct') := (g1.cell 5).trans rfl
    have hl1 : w.heap.size < X.heap.size := by omega
    have hl2 : w.heap.size + 1 < X.heap.size := by omega
    clear g0 g1
    refine (check_any a _ B _ (by exact H1.out.below (hbX.mono hB)) (by omega)).mono ?_
    rintro e w2 ⟨rfl, hb2⟩
    rw [HC.out]
    obtain ⟨hc2, _⟩ := bcell hb2
    have s2 := hb2.size
  · go_wp2_with fail
    go_ret
    exact ⟨rfl, bel_trans hbX hb2⟩
  · go_wp2_with fail
    refine (equal_all a b _ _ B _ (by exact H1.out.below ((bel_trans hbX hb2).mono hB)) (by exact H2.out.below ((bel_trans hbX hb2).mono hB)) (by omega)).mono ?_
    rintro e w3 ⟨rfl, hb3⟩
    rw [HE.out]
    go_wp2_with fail
    go_ret
    exact ⟨by simp, bel_trans (bel_trans hbX hb2) hb3⟩
end Go.Proofs.Yteddfdhbpgbloaa.Da
