/- The parts of a datum, as far as one goes through them: the program's iterator. -/
import Derived.Test.YteddfdhbpgbloaaRngW
import Derived.Test.YteddfdhbpgbloaaDatVisit
import Derived.Test.YteddfdhbpgbloaaDatOwn2
import Derived.Test.YteddfdhbpgbloaaDatMeasure
namespace Go.Proofs.Yteddfdhbpgbloaa.Da
open Go.ChangeShapes Go.WideShapes Go.ChangeAt Go.RowKit Go.Shelf
set_option linter.unusedVariables false

theorem IntRow.keep2 {w w' : World} {Q Q' : Nat → Prop} {a : Option Addr} {len cap : Nat} {zs : List Int} (h : IntRow w Q a len cap zs) (hQ : ∀ b, Q b → Q' b)
    (hk : ∀ b o u, Q b → w.cell? ⟨b, o, none⟩ = some u → w'.cell? ⟨b, o, none⟩ = some u) : IntRow w' Q' a len cap zs := by
  obtain ⟨h1, h2, h3, h4, h5, h6, h7⟩ := h
  refine ⟨h1, h2, h3, h4, h5, h6, fun k hlt => ?_⟩
  obtain ⟨b, off, e, hb, hc⟩ := h7 k hlt
  exact ⟨b, off, e, hQ b hb, hk b _ _ hb hc⟩
theorem Six.keep2 {w w' : World} {b o : Nat} {x0 x1 x2 x3 x4 x5 : Value} (h : Six w b o x0 x1 x2 x3 x4 x5) (hk : ∀ o u, w.cell? ⟨b, o, none⟩ = some u → w'.cell? ⟨b, o, none⟩ = some u) : Six w' b o x0 x1 x2 x3 x4 x5 :=
  ⟨hk _ _ h.1, hk _ _ h.2.1, hk _ _ h.2.2.1, hk _ _ h.2.2.2.1, hk _ _ h.2.2.2.2.1, hk _ _ h.2.2.2.2.2⟩
mutual
theorem IsDt.keep2 {w w' : World} {Q Q' : Nat → Prop} (hQ : ∀ b, Q b → Q' b) (hk : ∀ b o u, Q b → w.cell? ⟨b, o, none⟩ = some u → w'.cell? ⟨b, o, none⟩ = some u) : ∀ (d : Dt) (v : Value), IsDt w Q d v → IsDt w' Q' d v
  | .mk k n s m l t, v, h => by
    simp only [IsDt] at h ⊢
    obtain ⟨h1, h2, h3, am, cm, al, cl, at_, ct, hv, hm, hl, hls, ht, hts⟩ := h
    exact ⟨h1, h2, h3, am, cm, al, cl, at_, ct, hv, hm.keep2 hQ hk, hl, IsDts.keep2 hQ hk al l 0 hls, ht, IsDts.keep2 hQ hk at_ t 0 hts⟩
theorem IsDts.keep2 {w w' : World} {Q Q' : Nat → Prop} (hQ : ∀ b, Q b → Q' b) (hk : ∀ b o u, Q b → w.cell? ⟨b, o, none⟩ = some u → w'.cell? ⟨b, o, none⟩ = some u) (a : Option Addr) : ∀ (l : List Dt) (i : Nat), IsDts w Q a i l → IsDts w' Q' a i l
  | [], _, _ => by simp only [IsDts]
  | d :: r, i, h => by
    simp only [IsDts] at h ⊢
    obtain ⟨⟨b, off, x0, x1, x2, x3, x4, x5, ha, hb, hx, hd⟩, hr⟩ := h
    exact ⟨⟨b, off, x0, x1, x2, x3, x4, x5, ha, hQ b hb, hx.keep2 (fun o u hu => hk b o u hb hu), IsDt.keep2 hQ hk d _ hd⟩, IsDts.keep2 hQ hk a r (i + 1) hr⟩
end
/-- What comes of the iterator: a part, and where the value that is handed on has its rows. -/
structure Ne where
  (d : Dt) (am al at_ : Option Addr) (cm cl ct : Nat)
def Ne.v (x : Ne) : Value := .agg #[.int .i64 x.d.K, .int .i64 x.d.N, .string x.d.S, .slice x.am x.d.M.length x.cm, .slice x.al x.d.L.length x.cl, .slice x.at_ x.d.T.length x.ct]
theorem IsDt.sf {b : Nat} {w w' : World} {d : Dt} {v : Value} (h : IsDt w (Rg.Sf b w) d v) (hK : Rg.Kp b w w') : IsDt w' (Rg.Sf b w') d v := by
  refine IsDt.keep2 (fun g hg => hg.kp hK) (fun g o u hg hu => hK.cell hg hu) d v h
/-- The boxes of the walk: yield's, see's, visit's. -/
structure It (b by_ bs l : Nat) (w : World) : Prop where
  wf : Rg.Wf b w
  hb : b < w.heap.size
  sy : Rg.Sf b w by_
  ss : Rg.Sf b w bs
  sv : Rg.Sf b w (bs + 1)
  cy : w.cell? ⟨by_, 0, none⟩ = some (.func (.yield l) #[] #[])
  cs : w.cell? ⟨bs, 0, none⟩ = some (.func (.func 42) #[] #[.pointer (some ⟨by_, 0, none⟩)])
  cv : w.cell? ⟨bs + 1, 0, none⟩ = some (.func (.func 76) #[] #[.pointer (some ⟨bs, 0, none⟩), .pointer (some ⟨bs + 1, 0, none⟩)])
theorem It.kp {b by_ bs l : Nat} {w w' : World} (h : It b by_ bs l w) (hK : Rg.Kp b w w') : It b by_ bs l w' :=
  ⟨h.wf.kp hK, Nat.lt_of_lt_of_le h.hb hK.size, h.sy.kp hK, h.ss.kp hK, h.sv.kp hK, hK.cell h.sy h.cy, hK.cell h.ss h.cs, hK.cell h.sv h.cv⟩
theorem It.kpa {b by_ bs l : Nat} {w : World} (h : It b by_ bs l w) (o : Obj) : Rg.Kp b w (w.alloc o) := Rg.Kp.alloc w h.hb o
/-- What has come reads as it should. -/
def JD (b : Nat) (JJ : List Ne → World → Prop) (pre : List (Dt × Nat)) (w : World) : Prop := ∃ ys : List Ne, ys.map Ne.d = pre.map Prod.fst ∧ JJ ys w ∧ ∀ y ∈ ys, IsDt w (Rg.Sf b w) y.d y.v
def VisK (b : Nat) (J Jx : List (Dt × Nat) → World → Prop) (pre ns : List (Dt × Nat)) (w : World) (e : Ending) (w' : World) : Prop :=
  Rg.Kp b w w' ∧ ((e = .returned (.bool true) ∧ J (pre ++ ns) w') ∨ (e = .returned (.bool false) ∧ ∃ q, q <+: ns ∧ Jx (pre ++ q) w'))
def Few (x : Dt × Nat) : Prop := cnt x.1 ≤ 4096 ∧ x.2 ≤ 64
theorem JD.abide {b B0 : Nat} {JJ : List Ne → World → Prop} (hJ : AbidesFrom B0 JJ) {pre : List (Dt × Nat)} {w w' : World} (hb : b < w.heap.size) (h : JD b JJ pre w) (hB : Below w.heap.size w w') : JD b JJ pre w' := by
  obtain ⟨ys, h1, h2, h3⟩ := h
  exact ⟨ys, h1, hJ ys w w' none h2 (Rg.grown_of_below hB) (fun r e => by cases e), fun y hy => (h3 y hy).sf (Rg.Kp.below hb hB)⟩
theorem seeK_end {b : Nat} {J Jx : List (Dt × Nat) → World → Prop} {pre ns : List (Dt × Nat)} {w w2 w3 : World} {e : Ending} (h2 : Rg.Kp b w w2) (h3 : Rg.Kp b w2 w3) (h : (e = .returned (.bool true) ∧ J (pre ++ ns) w3) ∨ (e = .returned (.bool false) ∧ ∃ q, q <+: ns ∧ Jx (pre ++ q) w3)) : VisK b J Jx pre ns w e w3 := ⟨h2.trans h3, h⟩
theorem seeK_row {b k : Nat} {JJ : List Ne → World → Prop} {pre : List (Dt × Nat)} {x : Ne} {w2 w3 : World} {ys : List Ne} (h1 : ys.map Ne.d = pre.map Prod.fst) (h2 : ∀ y ∈ ys, IsDt w2 (Rg.Sf b w2) y.d y.v) (hv : IsDt w2 (Rg.Sf b w2) x.d x.v) (hJ : JJ (ys ++ [x]) w3) (hK : Rg.Kp b w2 w3) : JD b JJ (pre ++ [(x.d, k)]) w3 := by
  refine ⟨_, by simp [h1], hJ, fun y hy => ?_⟩
  rcases List.mem_append.1 hy with h | h
  · exact (h2 y h).sf hK
  · obtain rfl : y = x := by simpa using h
    exact hv.sf hK
attribute [local go_sem] Oper.semAt_some in
set_option maxRecDepth 100000 in
set_option maxHeartbeats 4000000 in
theorem see_all (b by_ bs l B0 : Nat) (JJ JJx : List Ne → World → Prop) (hJ : Hid (AbidesFrom B0 JJ))
    (hY : Hid (∀ m pre x W1, JJ pre W1 → YieldAt Fence.wide m Try.prog l #[x.v] W1 fun e W' => (e = .returned (.bool true) ∧ JJ (pre ++ [x]) W' ∧ Rg.Kp b W1 W') ∨ (e = .returned (.bool false) ∧ JJx (pre ++ [x]) W' ∧ Rg.Kp b W1 W')))
    (pre : List (Dt × Nat)) (d : Dt) (k : Nat) (v : Value) (w : World) (hI : It b by_ bs l w) (hj : JD b JJ pre w) (hN : Few (d, k)) (hd : IsDt w (Rg.Sf b w) d v) :
    Calls Try.prog 42 #[v, .int .i64 (k : Int), .pointer (some ⟨by_, 0, none⟩)] w (VisK b (JD b JJ) (JD b JJx) pre [(d, k)] w) := by
  have hd' := hd
  obtain ⟨am, cm, al, cl, at_, ct, rfl, _⟩ := hd'.open_
  have HD := Lib.hid hd
  have HI := Lib.hid hI
  have Hj := Lib.hid hj
  have HN := Lib.hid hN
  have cy := hI.cy
  clear hd hd' hI hj hN
  refine (callsIn_wide (n := 9)).1 ?_
  refine callsIn_of_wp Try.func42 rfl trivial ?_ rfl
  simp only [Try.ntmps42, List.size_toArray, List.length_cons, List.length_nil, Nat.reduceAdd, Nat.reduceSub, Array.replicate_succ, Array.replicate_zero, List.push_toArray, List.append_toArray, List.nil_append, List.cons_append]
  gi_wp2_with fail
  have hKa := HI.out.kpa (.cells #[.int .i64 d.K, .int .i64 d.N, .string d.S, .slice am d.M.length cm, .slice al d.L.length cl, .slice at_ d.T.length ct] 25)
  have HX := Lib.hid (HI.out.kp hKa)
  have HKa := Lib.hid hKa
  have HDX := Lib.hid (HD.out.sf hKa)
  have hbX : Below w.heap.size w (w.alloc (.cells #[.int .i64 d.K, .int .i64 d.N, .string d.S, .slice am d.M.length cm, .slice al d.L.length cl, .slice at_ d.T.length ct] 25)) := bel_alloc _ _
  have HJX := Lib.hid (Hj.out.abide hJ.out HI.out.hb hbX)
  have hnX : Rg.Sf b (w.alloc (.cells #[.int .i64 d.K, .int .i64 d.N, .string d.S, .slice am d.M.length cm, .slice al d.L.length cl, .slice at_ d.T.length ct] 25)) w.heap.size := Rg.Sf.new HI.out.wf HI.out.hb hbX (Nat.le_refl _) (by simp)
  have hblk := heap_alloc_new w (.cells #[.int .i64 d.K, .int .i64 d.N, .string d.S, .slice am d.M.length cm, .slice al d.L.length cl, .slice at_ d.T.length ct] 25)
  have HnX := Lib.hid hnX
  obtain ⟨N0, hN0⟩ : ∃ N0, w.heap.size = N0 := ⟨_, rfl⟩
  rw [hN0] at hblk
  have HnX := HnX
  rw [hN0] at HnX ⊢
  generalize w.alloc (.cells #[.int .i64 d.K, .int .i64 d.N, .string d.S, .slice am d.M.length cm, .slice al d.L.length cl, .slice at_ d.T.length ct] 25) = X at *
  clear hKa hbX hnX hN0 cy
  refine wpIn_region_any (by kernel_rfl) ?_
  simp only [List.size_toArray, List.length_cons, List.length_nil, Nat.reduceAdd, Array.replicate_succ, Array.replicate_zero, List.push_toArray, List.nil_append, List.cons_append]
  have hXd : Below X.heap.size X { X with drawn := X.drawn + 1 } := ⟨rfl, rfl, rfl, Nat.le_refl _, fun _ _ => rfl⟩
  have hKd := Rg.Kp.below HX.out.hb hXd
  replace HKa := Lib.hid (HKa.out.trans hKd)
  replace HDX := Lib.hid (HDX.out.sf hKd)
  replace HJX := Lib.hid (HJX.out.abide hJ.out HX.out.hb hXd)
  replace hblk : ({ X with drawn := X.drawn + 1 } : World).heap[N0]? = some (.cells #[.int .i64 d.K, .int .i64 d.N, .string d.S, .slice am d.M.length cm, .slice al d.L.length cl, .slice at_ d.T.length ct] 25 (0, 0)) := hblk
  replace HX := Lib.hid (HX.out.kp hKd)
  clear hXd hKd HnX
  generalize ({ X with drawn := X.drawn + 1 } : World) = Y at *
  have cy := HX.out.cy
  have c0 : Y.cell? ⟨N0, 0, none⟩ = some (.int .i64 d.K) := by rw [World.cell?, hblk]; rfl
  have c1 : Y.cell? ⟨N0, 1, none⟩ = some (.int .i64 d.N) := by rw [World.cell?, hblk]; rfl
  have c2 : Y.cell? ⟨N0, 2, none⟩ = some (.string d.S) := by rw [World.cell?, hblk]; rfl
  have c3 : Y.cell? ⟨N0, 3, none⟩ = some (.slice am d.M.length cm) := by rw [World.cell?, hblk]; rfl
  have c4 : Y.cell? ⟨N0, 4, none⟩ = some (.slice al d.L.length cl) := by rw [World.cell?, hblk]; rfl
  have c5 : Y.cell? ⟨N0, 5, none⟩ = some (.slice at_ d.T.length ct) := by rw [World.cell?, hblk]; rfl
  clear hblk
  refine wpAnyIn_ready (rs := [0, 1]) (by kernel_rfl) (by simp) ?_
  refine AllReadyIn.cons rfl (fun K hK => ?_) (AllReadyIn.cons rfl (fun K hK => ?_) AllReadyIn.nil)
  · go_simp
    refine hK _ _ ?_
    clear hK K
    refine wpAnyIn_ready (rs := [1]) (by kernel_rfl) (by simp) ?_
    refine AllReadyIn.cons rfl (fun K hK => ?_) AllReadyIn.nil
    go_simp
    refine hK _ _ ?_
    clear hK K
    refine wpAnyIn_ready (rs := [2]) (by kernel_rfl) (by simp) ?_
    refine AllReadyIn.cons rfl (fun K hK => ?_) AllReadyIn.nil
    go_simp
    refine ⟨trivial, (callsIn_wide.2 (own_any d _ Y.heap.size Y (HDX.out.more (fun g hg => hg.1)) (Nat.le_refl _))).mono ?_⟩
    rintro e w2 ⟨v2, rfl, hb2, _, hown⟩
    have HV2 := Lib.hid (show IsDt w2 (Rg.Sf b w2) d v2 from ((hown HN.out.1).isDt d _ _ _).more (fun g hg => Rg.Sf.new HX.out.wf HX.out.hb hb2 hg.1 hg.2))
    obtain ⟨am2, cm2, al2, cl2, at2, ct2, rfl, _⟩ := HV2.out.open_
    have hJ2 := HJX.out.abide hJ.out HX.out.hb hb2
    have hK2 := HKa.out.trans (Rg.Kp.below HX.out.hb hb2)
    have cy2 := (HX.out.kp (Rg.Kp.below HX.out.hb hb2)).cy
    have HK2 := Lib.hid hK2
    have HJ2 := Lib.hid hJ2
    clear hb2 hown hJ2 hK2 cy c0 c1 c2 c3 c4 c5
    refine hK _ _ ?_
    clear hK K
    refine wpAnyIn_ready (rs := [3]) (by kernel_rfl) (by simp) ?_
    refine AllReadyIn.cons rfl (fun K hK => ?_) AllReadyIn.nil
    obtain ⟨ys, hys, hjj, hall⟩ := HJ2.out
    obtain ⟨fn, tmps, assign, body, hy, hR⟩ := hY.out 8 ys ⟨d, am2, al2, at2, cm2, cl2, ct2⟩ w2 hjj
    simp only [Ne.v] at hy
    have Hys := Lib.hid (And.intro hys hall)
    clear hys hall hjj
    go_simp
    refine hR.mono ?_
    rintro e3 w3 (⟨rfl, hJ3, hk3⟩ | ⟨rfl, hJ3, hk3⟩)
    all_goals
      have HJ3 := Lib.hid hJ3
      have HK3 := Lib.hid hk3
      clear hJ3 hk3 hR hy cy2
      refine hK _ _ ?_
      clear hK K
      refine wpAnyIn_ready (rs := [4]) (by kernel_rfl) (by simp) ?_
      refine AllReadyIn.cons rfl (fun K hK => ?_) AllReadyIn.nil
      go_simp
      refine hK _ _ ?_
      clear hK K
      refine wpAnyIn_done (by kernel_rfl) ?_ _
      gi_wp2_with fail
      go_ret
    · exact seeK_end HK2.out HK3.out (.inl ⟨rfl, seeK_row (x := ⟨d, am2, al2, at2, cm2, cl2, ct2⟩) Hys.out.1 Hys.out.2 HV2.out HJ3.out HK3.out⟩)
    · exact seeK_end HK2.out HK3.out (.inr ⟨rfl, [(d, k)], ⟨[], rfl⟩, seeK_row (x := ⟨d, am2, al2, at2, cm2, cl2, ct2⟩) Hys.out.1 Hys.out.2 HV2.out HJ3.out HK3.out⟩)
  · go_simp
    refine hK _ _ ?_
    clear hK K
    refine wpAnyIn_ready (rs := [0, 2]) (by kernel_rfl) (by simp) ?_
    refine AllReadyIn.cons rfl (fun K hK => ?_) (AllReadyIn.cons rfl (fun K hK => ?_) AllReadyIn.nil)
    · go_simp
      refine hK _ _ ?_
      clear hK K
      refine wpAnyIn_ready (rs := [2]) (by kernel_rfl) (by simp) ?_
      refine AllReadyIn.cons rfl (fun K hK => ?_) AllReadyIn.nil
      go_simp
      refine ⟨trivial, (callsIn_wide.2 (own_any d _ Y.heap.size Y (HDX.out.more (fun g hg => hg.1)) (Nat.le_refl _))).mono ?_⟩
      rintro e w2 ⟨v2, rfl, hb2, _, hown⟩
      have HV2 := Lib.hid (show IsDt w2 (Rg.Sf b w2) d v2 from ((hown HN.out.1).isDt d _ _ _).more (fun g hg => Rg.Sf.new HX.out.wf HX.out.hb hb2 hg.1 hg.2))
      obtain ⟨am2, cm2, al2, cl2, at2, ct2, rfl, _⟩ := HV2.out.open_
      have hJ2 := HJX.out.abide hJ.out HX.out.hb hb2
      have hK2 := HKa.out.trans (Rg.Kp.below HX.out.hb hb2)
      have cy2 := (HX.out.kp (Rg.Kp.below HX.out.hb hb2)).cy
      have HK2 := Lib.hid hK2
      have HJ2 := Lib.hid hJ2
      clear hb2 hown hJ2 hK2 cy c0 c1 c2 c3 c4 c5
      refine hK _ _ ?_
      clear hK K
      refine wpAnyIn_ready (rs := [3]) (by kernel_rfl) (by simp) ?_
      refine AllReadyIn.cons rfl (fun K hK => ?_) AllReadyIn.nil
      obtain ⟨ys, hys, hjj, hall⟩ := HJ2.out
      obtain ⟨fn, tmps, assign, body, hy, hR⟩ := hY.out 8 ys ⟨d, am2, al2, at2, cm2, cl2, ct2⟩ w2 hjj
      simp only [Ne.v] at hy
      have Hys := Lib.hid (And.intro hys hall)
      clear hys hall hjj
      go_simp
      refine hR.mono ?_
      rintro e3 w3 (⟨rfl, hJ3, hk3⟩ | ⟨rfl, hJ3, hk3⟩)
      all_goals
        have HJ3 := Lib.hid hJ3
        have HK3 := Lib.hid hk3
        clear hJ3 hk3 hR hy cy2
        refine hK _ _ ?_
        clear hK K
        refine wpAnyIn_ready (rs := [4]) (by kernel_rfl) (by simp) ?_
        refine AllReadyIn.cons rfl (fun K hK => ?_) AllReadyIn.nil
        go_simp
        refine hK _ _ ?_
        clear hK K
        refine wpAnyIn_done (by kernel_rfl) ?_ _
        gi_wp2_with fail
        go_ret
      · exact seeK_end HK2.out HK3.out (.inl ⟨rfl, seeK_row (x := ⟨d, am2, al2, at2, cm2, cl2, ct2⟩) Hys.out.1 Hys.out.2 HV2.out HJ3.out HK3.out⟩)
      · exact seeK_end HK2.out HK3.out (.inr ⟨rfl, [(d, k)], ⟨[], rfl⟩, seeK_row (x := ⟨d, am2, al2, at2, cm2, cl2, ct2⟩) Hys.out.1 Hys.out.2 HV2.out HJ3.out HK3.out⟩)
    · go_simp
      refine ⟨trivial, (callsIn_wide.2 (own_any d _ Y.heap.size Y (HDX.out.more (fun g hg => hg.1)) (Nat.le_refl _))).mono ?_⟩
      rintro e w2 ⟨v2, rfl, hb2, _, hown⟩
      have HV2 := Lib.hid (show IsDt w2 (Rg.Sf b w2) d v2 from ((hown HN.out.1).isDt d _ _ _).more (fun g hg => Rg.Sf.new HX.out.wf HX.out.hb hb2 hg.1 hg.2))
      obtain ⟨am2, cm2, al2, cl2, at2, ct2, rfl, _⟩ := HV2.out.open_
      have hJ2 := HJX.out.abide hJ.out HX.out.hb hb2
      have hK2 := HKa.out.trans (Rg.Kp.below HX.out.hb hb2)
      have cy2 := (HX.out.kp (Rg.Kp.below HX.out.hb hb2)).cy
      have HK2 := Lib.hid hK2
      have HJ2 := Lib.hid hJ2
      clear hb2 hown hJ2 hK2 cy c0 c1 c2 c3 c4 c5
      refine hK _ _ ?_
      clear hK K
      refine wpAnyIn_ready (rs := [0]) (by kernel_rfl) (by simp) ?_
      refine AllReadyIn.cons rfl (fun K hK => ?_) AllReadyIn.nil
      go_simp
      refine hK _ _ ?_
      clear hK K
      refine wpAnyIn_ready (rs := [3]) (by kernel_rfl) (by simp) ?_
      refine AllReadyIn.cons rfl (fun K hK => ?_) AllReadyIn.nil
      obtain ⟨ys, hys, hjj, hall⟩ := HJ2.out
      obtain ⟨fn, tmps, assign, body, hy, hR⟩ := hY.out 8 ys ⟨d, am2, al2, at2, cm2, cl2, ct2⟩ w2 hjj
      simp only [Ne.v] at hy
      have Hys := Lib.hid (And.intro hys hall)
      clear hys hall hjj
      go_simp
      refine hR.mono ?_
      rintro e3 w3 (⟨rfl, hJ3, hk3⟩ | ⟨rfl, hJ3, hk3⟩)
      all_goals
        have HJ3 := Lib.hid hJ3
        have HK3 := Lib.hid hk3
        clear hJ3 hk3 hR hy cy2
        refine hK _ _ ?_
        clear hK K
        refine wpAnyIn_ready (rs := [4]) (by kernel_rfl) (by simp) ?_
        refine AllReadyIn.cons rfl (fun K hK => ?_) AllReadyIn.nil
        go_simp
        refine hK _ _ ?_
        clear hK K
        refine wpAnyIn_done (by kernel_rfl) ?_ _
        gi_wp2_with fail
        go_ret
      · exact seeK_end HK2.out HK3.out (.inl ⟨rfl, seeK_row (x := ⟨d, am2, al2, at2, cm2, cl2, ct2⟩) Hys.out.1 Hys.out.2 HV2.out HJ3.out HK3.out⟩)
      · exact seeK_end HK2.out HK3.out (.inr ⟨rfl, [(d, k)], ⟨[], rfl⟩, seeK_row (x := ⟨d, am2, al2, at2, cm2, cl2, ct2⟩) Hys.out.1 Hys.out.2 HV2.out HJ3.out HK3.out⟩)

/-- A loop's state. -/
def VisKAt (b : Nat) (J : List (Dt × Nat) → World → Prop) (pre : List (Dt × Nat)) (dd : Dt) (k : Nat) (done : Nat → List (Dt × Nat)) (n : Nat) (W1 : World) (i : Value) (wr : World) : Prop :=
  ∃ j : Nat, j ≤ n ∧ i = .int .i64 (j : Int) ∧ Rg.Kp b W1 wr ∧ J (pre ++ (dd, k) :: done j) wr
def Vall (b by_ bs l : Nat) (JJ JJx : List Ne → World → Prop) (d : Dt) : Prop :=
    ∀ (k : Nat) (kI : Int) (v : Value) (pre : List (Dt × Nat)) (w : World), kI = (k : Int) → (∀ x ∈ nodes d k, Few x) → It b by_ bs l w → JD b JJ pre w → IsDt w (Rg.Sf b w) d v →
    Calls Try.prog 76 #[v, .int .i64 kI, .pointer (some ⟨bs, 0, none⟩), .pointer (some ⟨bs + 1, 0, none⟩)] w (VisK b (JD b JJ) (JD b JJx) pre (nodes d k) w)
set_option maxHeartbeats 2000000 in
theorem visit_all (b by_ bs ll B0 : Nat) (JJ JJx : List Ne → World → Prop) (hJ : Hid (AbidesFrom B0 JJ))
    (hY : Hid (∀ m pre x W1, JJ pre W1 → YieldAt Fence.wide m Try.prog ll #[x.v] W1 fun e W' => (e = .returned (.bool true) ∧ JJ (pre ++ [x]) W' ∧ Rg.Kp b W1 W') ∨ (e = .returned (.bool false) ∧ JJx (pre ++ [x]) W' ∧ Rg.Kp b W1 W')))
    (d : Dt) : Vall b by_ bs ll JJ JJx d := by
  induction d using Dt.ind with | h kk n s m l t ihl iht =>
  intro k kI v pre w hkI hN hI hj hd
  subst hkI
  have hd' := hd
  obtain ⟨am, cm, al, cl, at_, ct, rfl, _, _, _, _, hl, hls, ht, hts⟩ := hd'.open_
  obtain ⟨dd, hdd⟩ : ∃ dd, Dt.mk kk n s m l t = dd := ⟨_, rfl⟩
  have hL : dd.L = l := by rw [← hdd]; rfl
  have hT : dd.T = t := by rw [← hdd]; rfl
  rw [hdd] at hN hd hl hls ht hts hd' ⊢
  rw [hL] at hl hls hd ⊢
  rw [hT] at ht hts hd ⊢
  have hpc := pieces_all dd l t k hL hT
  have hpN : ∀ (x : List Dt) (d : Dt), (x = l ∨ x = t) → d ∈ x → ∀ y ∈ nodes d (k + 1), Few y := fun x d hx hd y hy => hN y (by rw [nodes_eq, hL, hT]; exact mem_nodes hx hd hy)
  have hk := (hN (dd, k) (by rw [nodes_eq]; simp)).2
  have hk : k ≤ 64 := hk
  have HPC := Lib.hid hpc
  have HPN := Lib.hid hpN
  have HF := Lib.hid (hN (dd, k) (by rw [nodes_eq]; simp))
  have HI := Lib.hid hI
  have Hj := Lib.hid hj
  have HD := Lib.hid hd
  have Ihl := Lib.hid ihl
  have Iht := Lib.hid iht
  have Hl := Lib.hid hl
  have Hls := Lib.hid hls
  have Ht := Lib.hid ht
  have Hts := Lib.hid hts
  have cs := hI.cs
  have cv := hI.cv
  have hbs := hI.ss.1
  have hbv := hI.sv.1
  clear hI hN hj hd hd' ihl iht hl hls ht hts hL hT hdd hpc hpN
  go_enter Try.func76, Try.ntmps76
  go_wp2_with fail
  have hKa := HI.out.kpa (.cells #[.int .i64 dd.K, .int .i64 dd.N, .string dd.S, .slice am dd.M.length cm, .slice al l.length cl, .slice at_ t.length ct] 25)
  have hbX : Below w.heap.size w (w.alloc (.cells #[.int .i64 dd.K, .int .i64 dd.N, .string dd.S, .slice am dd.M.length cm, .slice al l.length cl, .slice at_ t.length ct] 25)) := bel_alloc _ _
  have hnX := Rg.Sf.new (g := w.heap.size) HI.out.wf HI.out.hb hbX (Nat.le_refl _) (by simp)
  have hblk := heap_alloc_new w (.cells #[.int .i64 dd.K, .int .i64 dd.N, .string dd.S, .slice am dd.M.length cm, .slice al l.length cl, .slice at_ t.length ct] 25)
  have hx4' : (w.alloc (.cells #[.int .i64 dd.K, .int .i64 dd.N, .string dd.S, .slice am dd.M.length cm, .slice al l.length cl, .slice at_ t.length ct] 25)).cell? ⟨w.heap.size, 4, none⟩ = some (.slice al l.length cl) := by rw [World.cell?, hblk]; rfl
  have hx5' : (w.alloc (.cells #[.int .i64 dd.K, .int .i64 dd.N, .string dd.S, .slice am dd.M.length cm, .slice al l.length cl, .slice at_ t.length ct] 25)).cell? ⟨w.heap.size, 5, none⟩ = some (.slice at_ t.length ct) := by rw [World.cell?, hblk]; rfl
  refine (see_all b by_ bs ll B0 JJ JJx hJ hY pre dd k _ _ (HI.out.kp hKa) (Hj.out.abide hJ.out HI.out.hb hbX) HF.out (HD.out.sf hKa)).mono ?_
  rintro e w1 ⟨hK1, hres⟩
  have HK1 := Lib.hid (hKa.trans hK1)
  have hx4 := hK1.cell hnX hx4'
  have hx5 := hK1.cell hnX hx5'
  clear hKa hbX hnX hblk hx4' hx5' hK1
  rcases hres with ⟨rfl, hj1⟩ | ⟨rfl, q, hq, hjx⟩
  · have Hj1 := Lib.hid hj1
    have hsz1 := HK1.out.size
    clear hj1
    go_wp2_with fail
    have hI1 := HI.out.kp HK1.out
    have hb1 : Below w1.heap.size w1 (w1.alloc (.cells #[.slice al l.length cl, .slice at_ t.length ct] 23)) := bel_alloc _ _
    have hKb := hI1.kpa (.cells #[.slice al l.length cl, .slice at_ t.length ct] 23)
    have hnQ := Rg.Sf.new (g := w1.heap.size) hI1.wf hI1.hb hb1 (Nat.le_refl _) (by simp)
    have hblk := heap_alloc_new w1 (.cells #[.slice al l.length cl, .slice at_ t.length ct] 23)
    have hj2 := Hj1.out.abide hJ.out hI1.hb hb1
    have hK2 := HK1.out.trans hKb
    obtain ⟨W1, hW1⟩ : ∃ W1, w1.alloc (.cells #[.slice al l.length cl, .slice at_ t.length ct] 23) = W1 := ⟨_, rfl⟩
    rw [hW1] at hnQ hblk hj2 hK2
    rw [hW1]
    obtain ⟨bq, hbqe⟩ : ∃ bq, w1.heap.size = bq := ⟨_, rfl⟩
    rw [hbqe] at hnQ hblk hsz1
    rw [hbqe]
    have hq0 : W1.cell? ⟨bq, 0, none⟩ = some (.slice al l.length cl) := by rw [World.cell?, hblk]; rfl
    have hq1 : W1.cell? ⟨bq, 1, none⟩ = some (.slice at_ t.length ct) := by rw [World.cell?, hblk]; rfl
    have hcol : ∀ j, j < 2 → ∃ ax x cx, W1.cell? ⟨bq, j, none⟩ = some (.slice ax x.length cx) ∧ IsSl ax x.length cx ∧ IsDts w (Rg.Sf b w) ax 0 x ∧ (∀ d ∈ x, Vall b by_ bs ll JJ JJx d) ∧ pieces l t (j + 1) = pieces l t j ++ x ∧ (x = l ∨ x = t) := by
      intro j hj
      match j, hj with
      | 0, _ => exact ⟨al, l, cl, hq0, Hl.out, Hls.out, Ihl.out, by simp [pieces], .inl rfl⟩
      | 1, _ => exact ⟨at_, t, ct, hq1, Ht.out, Hts.out, Iht.out, by simp [pieces], .inr rfl⟩
    have Hcol := Lib.hid hcol
    have Hj2 := Lib.hid hj2
    have HK2 := Lib.hid hK2
    have HnQ := Lib.hid hnQ
    clear hcol hj2 hK2 hnQ hblk hq0 hq1 hx4 hx5 hW1 hbqe Hj1 HK1 cs cv hKb hb1 hI1
    go_loopw [22] (fun i wr => VisKAt b (JD b JJ) pre dd k (fun j => nodesL (pieces l t j) (k + 1)) 2 W1 i wr) (fun i _ => 2 - (intOf i).toNat)
    case atStart => exact ⟨0, by omega, rfl, Rg.Kp.refl _ _, by simpa [pieces, nodesL_nil] using Hj2.out⟩
    case round =>
      obtain ⟨j, hj, rfl, hfr, hjr⟩ := hrel
      have Hfr := Lib.hid hfr
      have Hjr := Lib.hid hjr
      clear hfr hjr
      by_cases hlt : j < 2
      · obtain ⟨ax, x, cx, hcell, hsl, hds, ih, hpc, hxx⟩ := Hcol.out j hlt
        have hcell' : wr.cell? ⟨bq, j, none⟩ = some (.slice ax x.length cx) := Hfr.out.cell HnQ.out hcell
        have dl : decide ((j : Int) < 2) = true := by simp; omega
        have Hpc := Lib.hid hpc
        have Hds := Lib.hid hds
        have Ih := Lib.hid ih
        have Hxx := Lib.hid hxx
        obtain ⟨hs1, hs2, _, _⟩ := hsl
        unfold maxLen at hs2
        clear hcell hpc hds ih hxx
        obtain ⟨wo, rfl⟩ : ∃ wo : World, wo = wr := ⟨_, rfl⟩
        go_wp2_with fail
        go_loopw [28] (fun i wr => VisKAt b (JD b JJ) pre dd k (fun i => nodesL (pieces l t j) (k + 1) ++ nodesL (x.take i) (k + 1)) x.length W1 i wr) (fun i _ => x.length - (intOf i).toNat)
        case atStart => exact ⟨0, by omega, rfl, Hfr.out, by simpa [nodesL_nil] using Hjr.out⟩
        case round =>
          obtain ⟨i, hi, rfl, hfi, hji⟩ := hrel
          by_cases hlx : i < x.length
          · have dx : decide ((i : Int) < (x.length : Int)) = true := by simp [hlx]
            obtain ⟨xi, hxi⟩ : ∃ xi, x[i]? = some xi := ⟨x[i], by simp [hlx]⟩
            obtain ⟨b', off, am', cm', al', cl', at', ct', rfl, hb', hsix, hdi⟩ := Hds.out.at6 i xi hxi
            have Hxi := Lib.hid hxi
            clear hxi
            have hall : Rg.Kp b w wr := HK2.out.trans hfi
            obtain ⟨c0, c1, c2, c3, c4, c5⟩ := hsix.keep2 (w' := wr) (fun o u hu => hall.cell hb' hu)
            have hIr := HI.out.kp hall
            have cvr := hIr.cv
            have hbvr := hIr.sv.1
            have Hfi := Lib.hid hfi
            have Hji := Lib.hid hji
            have Hall := Lib.hid hall
            have Hdi := Lib.hid (hdi.sf hall)
            have HIr := Lib.hid hIr
            clear hfi hji hall hdi hsix hIr
            go_wp2_with fail
            have hba : Below wr.heap.size wr (wr.alloc (.cells #[.int .i64 xi.K, .int .i64 xi.N, .string xi.S, .slice am' xi.M.length cm', .slice al' xi.L.length cl', .slice at' xi.T.length ct'] 25)) := bel_alloc _ _
            have hka := HIr.out.kpa (.cells #[.int .i64 xi.K, .int .i64 xi.N, .string xi.S, .slice am' xi.M.length cm', .slice al' xi.L.length cl', .slice at' xi.T.length ct'] 25)
            refine (Ih.out xi (by exact List.mem_of_getElem? Hxi.out) (k + 1) _ _ (pre ++ (dd, k) :: (nodesL (pieces l t j) (k + 1) ++ nodesL (x.take i) (k + 1))) _ (by omega) (by exact HPN.out x xi Hxx.out (List.mem_of_getElem? Hxi.out)) (by exact HIr.out.kp hka) (by exact Hji.out.abide hJ.out HIr.out.hb hba) (by exact Hdi.out.sf hka)).mono ?_
            rintro e w2 ⟨hf3, ⟨rfl, hj3⟩ | ⟨rfl, q, hq, hj3⟩⟩
            · have Hf3 := Lib.hid (hka.trans hf3)
              have Hj3 := Lib.hid hj3
              clear hf3 hj3 cvr c0 c1 c2 c3 c4 c5 hka hba
              go_wp2_with fail
              go_roundw
              case rel => exact ⟨i + 1, by omega, by go_num, Hfi.out.trans Hf3.out, by have h3 := Hj3.out; dsimp only; rw [nodesL_snoc x i (k + 1) xi Hxi.out]; simpa using h3⟩
              case measure => simp [intOf]; omega
            · have Hf3 := Lib.hid (hka.trans hf3)
              have Hj3 := Lib.hid (And.intro hq hj3)
              clear hf3 hj3 hq cvr c0 c1 c2 c3 c4 c5 hka hba
              go_wp2_with fail
              go_ret
              exact ⟨HK2.out.trans (Hfi.out.trans Hf3.out), .inr ⟨rfl, _, pref_piece HPC.out Hpc.out hlt Hxi.out Hj3.out.1, by simpa [List.append_assoc] using Hj3.out.2⟩⟩
          · have dx : decide ((i : Int) < (x.length : Int)) = false := by simp [hlx]
            have hjn : JD b JJ (pre ++ (dd, k) :: nodesL (pieces l t (j + 1)) (k + 1)) wr := by
              rw [Hpc.out, nodesL_append]
              dsimp only at hji
              rw [List.take_of_length_le (by omega)] at hji
              exact hji
            have Hfi := Lib.hid hfi
            have Hjn := Lib.hid hjn
            clear hfi hji hjn
            go_wp2_with fail
            go_roundw
            case rel => exact ⟨j + 1, by omega, by go_num, Hfi.out, Hjn.out⟩
            case measure => simp [intOf]; omega
      · obtain rfl : j = 2 := by omega
        go_wp2_with fail
        go_ret
        exact ⟨HK2.out.trans Hfr.out, .inl ⟨rfl, by have h2 := Hjr.out; rw [HPC.out] at h2; exact h2⟩⟩
  · have Hjx := Lib.hid hjx
    have Hq := Lib.hid hq
    clear hjx hq
    go_wp2_with fail
    go_ret
    exact ⟨HK1.out, .inr ⟨rfl, q, Hq.out.trans ⟨nodesL (pieces l t 2) (k + 1), HPC.out⟩, Hjx.out⟩⟩
end Go.Proofs.Yteddfdhbpgbloaa.Da
