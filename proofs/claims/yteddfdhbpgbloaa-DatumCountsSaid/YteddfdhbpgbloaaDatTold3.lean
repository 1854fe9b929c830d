/- The parts of a datum, as far as one goes through them: what is handed on, and what the law collects of it. -/
import Derived.Test.YteddfdhbpgbloaaDatIter
import Derived.Test.YteddfdhbpgbloaaDatConsMath
import Derived.Deep.Cut
import Derived.Test.YteddfdhbpgbloaaDatGoEnd
import Derived.Test.YteddfdhbpgbloaaOrd2
import Derived.Test.YteddfdhbpgbloaaDatRWalk
section
namespace Go.Proofs.Yteddfdhbpgbloaa.Da
open Go.ChangeShapes Go.WideShapes Go.ChangeAt Go.RowKit Go.Shelf
set_option linter.unusedVariables false

def DoneK (b : Nat) (JJ JJx : List Ne → World → Prop) (d : Dt) (w : World) (e : Ending) (w' : World) : Prop :=
  (∃ v, e = .returned v) ∧ Rg.Kp b w w' ∧ (JD b JJ (nodes d 1) w' ∨ ∃ q, q <+: nodes d 1 ∧ JD b JJx q w')
set_option maxHeartbeats 2000000 in
theorem walk_all (b by_ l B0 : Nat) (JJ JJx : List Ne → World → Prop) (hJ : Hid (AbidesFrom B0 JJ))
    (hY : Hid (∀ m pre x W1, JJ pre W1 → YieldAt Fence.wide m Try.prog l #[x.v] W1 fun e W' => (e = .returned (.bool true) ∧ JJ (pre ++ [x]) W' ∧ Rg.Kp b W1 W') ∨ (e = .returned (.bool false) ∧ JJx (pre ++ [x]) W' ∧ Rg.Kp b W1 W')))
    (d : Dt) (v : Value) (w : World) (hwf : Rg.Wf b w) (hb : b < w.heap.size) (hsy : Rg.Sf b w by_) (hcy : w.cell? ⟨by_, 0, none⟩ = some (.func (.yield l) #[] #[])) (hN : ∀ x ∈ nodes d 1, Few x) (hd : IsDt w (Rg.Sf b w) d v) (hj : JD b JJ [] w) :
    Calls Try.prog 41 #[v, .func (.func 42) #[] #[.pointer (some ⟨by_, 0, none⟩)]] w (DoneK b JJ JJx d w) := by
  have hd' := hd
  obtain ⟨am, cm, al, cl, at_, ct, rfl, _⟩ := hd'.open_
  have HD := Lib.hid hd
  have HN := Lib.hid hN
  have Hj := Lib.hid hj
  clear hd hd' hN hj
  go_enter Try.func41, Try.ntmps41
  go_wp2_with fail
  obtain ⟨X, hX⟩ : ∃ X, (((w.alloc (.cells #[.int .i64 d.K, .int .i64 d.N, .string d.S, .slice am d.M.length cm, .slice al d.L.length cl, .slice at_ d.T.length ct] 25)).alloc (.cells #[.func (.func 42) #[] #[.pointer (some ⟨by_, 0, none⟩)]] 68)).alloc
      (.cells #[.func (.func 76) #[] #[.pointer (some ⟨w.heap.size + 1, 0, none⟩), .pointer (some ⟨w.heap.size + 1 + 1, 0, none⟩)]] 68)) = X := ⟨_, rfl⟩
  have hbel : Below w.heap.size w X := by rw [← hX]; exact (((Below.refl _ _).alloc (Nat.le_refl _) _).alloc (by simp) _).alloc (by simp; omega) _
  have hsz : X.heap.size = w.heap.size + 1 + 1 + 1 := by rw [← hX]; simp
  have cs : X.cell? ⟨w.heap.size + 1, 0, none⟩ = some (.func (.func 42) #[] #[.pointer (some ⟨by_, 0, none⟩)]) := by rw [← hX]; simp [go_sem]
  have cv : X.cell? ⟨w.heap.size + 1 + 1, 0, none⟩ = some (.func (.func 76) #[] #[.pointer (some ⟨w.heap.size + 1, 0, none⟩), .pointer (some ⟨w.heap.size + 1 + 1, 0, none⟩)]) := by rw [← hX]; simp [go_sem]
  rw [hX]
  clear hX
  have hK := Rg.Kp.below hb hbel
  have hI : It b by_ (w.heap.size + 1) l X := ⟨hwf.kp hK, by omega, hsy.kp hK, Rg.Sf.new hwf hb hbel (by omega) (by omega), Rg.Sf.new hwf hb hbel (by omega) (by omega), hK.cell hsy hcy, cs, cv⟩
  refine (visit_all b by_ (w.heap.size + 1) l B0 JJ JJx hJ hY d 1 1 _ [] X rfl HN.out hI (Hj.out.abide hJ.out hb hbel) (HD.out.sf hK)).mono ?_
  rintro e w2 ⟨hK2, ⟨rfl, h2⟩ | ⟨rfl, q, hq, h2⟩⟩
  · have H2 := Lib.hid h2
    have HK2 := Lib.hid (hK.trans hK2)
    clear h2 hK2 hK hI cs cv
    go_wp2_with fail
    go_end0
    exact ⟨⟨_, rfl⟩, HK2.out, .inl H2.out⟩
  · have H2 := Lib.hid (And.intro hq h2)
    have HK2 := Lib.hid (hK.trans hK2)
    clear h2 hK2 hK hI cs cv hq
    go_wp2_with fail
    go_end0
    exact ⟨⟨_, rfl⟩, HK2.out, .inr ⟨q, H2.out⟩⟩
/-- What comes of the iterator, where it is known. -/
def SAll (b : Nat) (ds : List Dt) (ys : List Ne) (W : World) : Prop := ys.map Ne.d = ds ∧ b < W.heap.size ∧ ∀ y ∈ ys, IsDt W (Rg.Sf b W) y.d y.v
def SPart (b : Nat) (ds : List Dt) (ys : List Ne) (W : World) : Prop := ys.map Ne.d <+: ds ∧ b < W.heap.size ∧ ∀ y ∈ ys, IsDt W (Rg.Sf b W) y.d y.v
theorem rows_own {b B0 : Nat} (hB : b < B0) {ys : List Ne} {W W' : World} {row : Option Nat} (h : b < W.heap.size ∧ ∀ y ∈ ys, IsDt W (Rg.Sf b W) y.d y.v) (hg : W.grownBy W' row) (hr : ∀ r, row = some r → B0 ≤ r ∧ ∃ o : Obj, W.heap[r]? = some o ∧ o.isCells = false) : b < W'.heap.size ∧ ∀ y ∈ ys, IsDt W' (Rg.Sf b W') y.d y.v := by
  have hK : Rg.Kp b W W' := Rg.Kp.grown h.1 hg (fun r e => by
    obtain ⟨h1, o2, h2, h3⟩ := hr r e
    exact ⟨by omega, fun o3 h4 => by rw [h2] at h4; cases h4; exact h3⟩)
  exact ⟨Nat.lt_of_lt_of_le h.1 hK.size, fun y hy => (h.2 y hy).sf hK⟩
theorem SAll.own {b B0 : Nat} (hB : b < B0) (ds : List Dt) : OwnFrom B0 (SAll b ds) := fun s A B row hs hg hr => ⟨hs.1, rows_own hB hs.2 hg hr⟩
theorem SPart.own {b B0 : Nat} (hB : b < B0) (ds : List Dt) : OwnFrom B0 (SPart b ds) := fun s A B row hs hg hr => ⟨hs.1, rows_own hB hs.2 hg hr⟩
set_option maxHeartbeats 2000000 in
theorem all2_comes (n b g : Nat) (d : Dt) (v : Value) (w : World) (hb : b < w.heap.size) (hnil : w.cell? ⟨b, 0, none⟩ = some (.slice none 0 0)) (hg : Rg.Sf b w g) (hN : Hid (∀ x ∈ nodes d 1, Few x)) (hd : IsDt w (Rg.Sf b w) d v)
    (am al at_ : Option Addr) (cm cl ct : Nat) (hv : v = .agg #[.int .i64 d.K, .int .i64 d.N, .string d.S, .slice am d.M.length cm, .slice al d.L.length cl, .slice at_ d.T.length ct])
    (hc : w.heap[g]? = some (.cells #[.int .i64 d.K, .int .i64 d.N, .string d.S, .slice am d.M.length cm, .slice al d.L.length cl, .slice at_ d.T.length ct] 25 (0, 0))) :
    Rg.Comes n Try.prog 40 #[.pointer (some ⟨g, 0, none⟩)] (fun x : Ne => #[x.v]) (Rg.Kp b) (SAll b ((nodes d 1).map Prod.fst)) (SPart b ((nodes d 1).map Prod.fst)) w := by
  intro l J Jx W hW hJ hJx hY h0
  subst hv
  have hK := Rg.Kp.below hb hW
  have hwf := (Rg.Wf.nil hb hnil).kp hK
  have hbW : b < W.heap.size := Nat.lt_of_lt_of_le hb hW.size
  have hblk := hK.block' hg hc rfl
  have c0 : W.cell? ⟨g, 0, none⟩ = some (.int .i64 d.K) := by rw [World.cell?, hblk]; rfl
  have c1 : W.cell? ⟨g, 1, none⟩ = some (.int .i64 d.N) := by rw [World.cell?, hblk]; rfl
  have c2 : W.cell? ⟨g, 2, none⟩ = some (.string d.S) := by rw [World.cell?, hblk]; rfl
  have c3 : W.cell? ⟨g, 3, none⟩ = some (.slice am d.M.length cm) := by rw [World.cell?, hblk]; rfl
  have c4 : W.cell? ⟨g, 4, none⟩ = some (.slice al d.L.length cl) := by rw [World.cell?, hblk]; rfl
  have c5 : W.cell? ⟨g, 5, none⟩ = some (.slice at_ d.T.length ct) := by rw [World.cell?, hblk]; rfl
  have hgW := (hg.kp hK).1
  have HD := Lib.hid (hd.sf hK)
  have HJ := Lib.hid hJ
  have H0 := Lib.hid h0
  have HY : Hid (∀ m pre x W1, J pre W1 → YieldAt Fence.wide m Try.prog l #[x.v] W1 fun e W' => (e = .returned (.bool true) ∧ J (pre ++ [x]) W' ∧ Rg.Kp b W1 W') ∨ (e = .returned (.bool false) ∧ Jx (pre ++ [x]) W' ∧ Rg.Kp b W1 W')) := fun m pre x W1 hj => Rg.anyDepth m (hY pre x W1 hj)
  have Hwf := Lib.hid hwf
  clear hd hJ hJx hY h0 hc hblk hK hg hnil hwf
  refine callsIn_wide.2 ?_
  simp only [List.append_toArray, List.cons_append, List.nil_append]
  go_enter Try.func40, Try.ntmps40
  go_wp2_with fail
  have hba : Below W.heap.size W (W.alloc (.cells #[.func (.yield l) #[] #[]] 27)) := bel_alloc _ _
  have hka := Rg.Kp.below hbW hba
  have hj0 : JD b J [] (W.alloc (.cells #[.func (.yield l) #[] #[]] 27)) := ⟨[], rfl, HJ.out [] _ _ none H0.out (Rg.grown_of_below hba) (fun r e => by cases e), fun y hy => by cases hy⟩
  refine (walk_all b W.heap.size l W.heap.size J Jx HJ HY d _ _ (Hwf.out.kp hka) (by simp; omega) (Rg.Sf.new Hwf.out hbW hba (Nat.le_refl _) (by simp)) (by simp [go_sem]) hN.out (HD.out.sf hka) hj0).mono ?_
  rintro e w2 ⟨⟨v2, rfl⟩, hK2, h2⟩
  have H2 := Lib.hid h2
  clear h2 hj0 hka hba c0 c1 c2 c3 c4 c5
  go_wp2_with fail
  go_end0
  refine ⟨⟨_, rfl⟩, ?_⟩
  have hb2 : b < w2.heap.size := Nat.lt_of_lt_of_le hbW (Nat.le_trans (by simp) hK2.size)
  rcases H2.out with ⟨ys, h1, h3, h4⟩ | ⟨q, ⟨r, hr⟩, ys, h1, h3, h4⟩
  · exact .inl ⟨ys, ⟨h1, hb2, h4⟩, h3⟩
  · exact .inr ⟨ys, ⟨by rw [h1, ← hr, List.map_append]; exact List.prefix_append _ _, hb2, h4⟩, h3⟩
end Go.Proofs.Yteddfdhbpgbloaa.Da
end
section
namespace Go.Proofs.Yteddfdhbpgbloaa.Da
open Go.ChangeShapes Go.WideShapes Go.ChangeAt Go.RowKit Go.Shelf
set_option linter.unusedVariables false
attribute [local go_sem] Oper.semAt_some

theorem own_slice {w : World} {B : Nat} {e : TypeId} {sz : Nat} {v : Value} {n : Nat} {xs : List Value} (h : w.ownsRow B e sz v n xs) : ∃ a c, v = .slice a n c := by
  rcases h.2 with ⟨rfl, h0⟩ | ⟨g, cap, cur, rfl, _⟩
  · subst h0; exact ⟨_, _, rfl⟩
  · exact ⟨_, _, rfl⟩
def Ne.cells (x : Ne) : List Value := [.int .i64 x.d.K, .int .i64 x.d.N, .string x.d.S, .slice x.am x.d.M.length x.cm, .slice x.al x.d.L.length x.cl, .slice x.at_ x.d.T.length x.ct]
def cellsN (l : List Ne) : List Value := l.flatMap Ne.cells
theorem cellsN_snoc (l : List Ne) (x : Ne) : cellsN (l ++ [x]) = cellsN l ++ x.cells := by simp [cellsN]
theorem cellsN_len (l : List Ne) : (cellsN l).length = l.length * 6 := by
  induction l with
  | nil => rfl
  | cons t r ih => rw [cellsN, List.flatMap_cons, List.length_append, ← cellsN, ih, List.length_cons]; show 6 + _ = _; omega
/-- 'append(s, x)' in a statement whose order is open. -/
theorem oper_append {F : Fence} {nF : Nat} {P : Program} {o : Oper} {a : Act} {w : World} {K : Act → World → Prop} {Q : Exit → Act → World → Prop} (s x : Operand) (t : TypeId)
    (ho : o.op = .call { callee := .builtin .append, args := #[s, x], argTypes := #[t, t] }) (base : Nat) (e : TypeId) (i : TypeInfo) (z : Value) (size bytes : Nat) (ht : P.underlying t = some (.slice e)) (hi : P.info? e = some i) (hz : i.zero = some z) (h1 : i.size = size) (h2 : i.bytes = bytes) (h3 : z.cells.size = size) (h4 : 0 < size)
    (v : Value) (n : Nat) (xs : List Value) (hs : a.eval s = v) (hown : w.ownsRow base e size v n xs) (ad : Addr) (m c : Nat) (news : List Value) (hx : a.eval x = .slice (some ad) m c) (hl : news.length = m * size) (hc : ∀ j u, news[j]? = some u → w.cell? (ad.add j) = some u) (ho1 : ∀ u ∈ news, u.oneCell' = true)
    (b1 : n + m ≤ maxLen) (b2 : (n + m) * bytes ≤ 140737488355328) (b3 : base ≤ w.heap.size)
    (h : ∀ v' w', w'.ownsRow base e size v' (n + m) (xs ++ news) → w.grownBy w' v.ownBlock → (v'.ownBlock = v.ownBlock ∨ v'.ownBlock = some w.heap.size) → K (a.put o.dst v') w') : Oper.wpIn F nF P o a w K Q := by
  obtain ⟨v', w', hrun, g1, g2, _, g3⟩ := run_append_own_at (P := P) w base t o.type e i z size bytes ht hi hz h1 h2 h3 h4 v n xs hown ad m c news hl hc ho1 b1 b2 b3
  refine ⟨by simp [Oper.about, ho, resolve, Target.leads, Sem.run_pure], ?_⟩
  rw [Oper.semAt_plain F _ _ (by rw [ho]; intro c hc'; cases hc')]
  simp [execOp, ho, resolve, invoke, builtin, hs, hx, hrun, Result.andThen]
  exact h v' w' g1 g2 g3
theorem set6_comm {w : World} {b g : Nat} (h : b ≠ g) (o : Nat) (u y0 y1 y2 y3 y4 y5 : Value) : set6 (w.setCell ⟨b, 0, none⟩ u) g o y0 y1 y2 y3 y4 y5 = (set6 w g o y0 y1 y2 y3 y4 y5).setCell ⟨b, 0, none⟩ u := by
  have c (w : World) (i : Nat) (y : Value) : (w.setCell ⟨b, 0, none⟩ u).setCell ⟨g, i, none⟩ y = (w.setCell ⟨g, i, none⟩ y).setCell ⟨b, 0, none⟩ u := Od.setCell_comm w ⟨b, 0, none⟩ ⟨g, i, none⟩ u y (by simpa using h)
  unfold set6
  rw [c, c, c, c, c, c]
theorem app6 {W w1 : World} {n₀ g cap k vc : Nat} {va : Option Addr} {xs : List Value} {z0 z1 z2 z3 z4 z5 : Value} {tmp : Obj} (y0 y1 y2 y3 y4 y5 : Value) (hrow : W.ownsRow n₀ 25 6 (.slice va k vc) k xs)
    (hown : w1.ownsRow n₀ 25 6 (.slice (some ⟨g, 0, none⟩) (k + 1) cap) (k + 1) (xs ++ [z0, z1, z2, z3, z4, z5])) (hgrow : (W.alloc tmp).grownBy w1 (Value.slice va k vc).ownBlock)
    (hat : (Value.slice (some ⟨g, 0, none⟩) (k + 1) cap).ownBlock = (Value.slice va k vc).ownBlock ∨ (Value.slice (some ⟨g, 0, none⟩) (k + 1) cap).ownBlock = some (W.alloc tmp).heap.size) :
    (set6 w1 g (k * 6) y0 y1 y2 y3 y4 y5).ownsRow n₀ 25 6 (.slice (some ⟨g, 0, none⟩) (k + 1) cap) (k + 1) (xs ++ [y0, y1, y2, y3, y4, y5]) ∧ (W.alloc tmp).grownBy (set6 w1 g (k * 6) y0 y1 y2 y3 y4 y5) (Value.slice va k vc).ownBlock := by
  have h1 := set6_own (n := k * 6) hown y0 y1 y2 y3 y4 y5
  rw [set6_list xs k hrow.1] at h1
  have h2 := set6_fr w1 g (k * 6) y0 y1 y2 y3 y4 y5
  refine ⟨h1, ⟨h2.os.trans hgrow.os, h2.tape.trans hgrow.tape, h2.output.trans hgrow.output, Nat.le_trans hgrow.size h2.size, fun i hi hn => ?_⟩⟩
  refine (h2.block i (Nat.lt_of_lt_of_le hi hgrow.size) (fun e => ?_)).trans (hgrow.block i hi hn)
  subst e
  rcases hat with h | h
  · exact hn h
  · have : i = (W.alloc tmp).heap.size := Option.some.inj h
    omega
theorem row_facts {w W X Y w1 : World} {pre : List Ne} {m vc g cap : Nat} {va : Option Addr} {I : List Ne → World → Prop} {z0 z1 z2 z3 z4 z5 : Value} {tmp : Obj} (hI : Hid (I = (fun (pre : List Ne) (W : World) => ((∃ v, Boxed W (w.heap.size + 1) 23 v ∧ W.ownsRow w.heap.size 25 6 v pre.length (cellsN pre) ∧ True) ∧ Boxed W w.heap.size 3 (.int .i64 (m : Int))) ∧ (pre.length ≤ m ∧ Below w.heap.size w W)))) (hm : pre.length < m)
    (hv : Boxed Y (w.heap.size + 1) 23 (.slice va pre.length vc)) (hrow : Y.ownsRow w.heap.size 25 6 (.slice va pre.length vc) pre.length (cellsN pre)) (hbm : Boxed Y w.heap.size 3 (.int .i64 (m : Int))) (hsW : w.heap.size ≤ Y.heap.size)
    (hown : w1.ownsRow w.heap.size 25 6 (.slice (some ⟨g, 0, none⟩) (pre.length + 1) cap) (pre.length + 1) (cellsN pre ++ [z0, z1, z2, z3, z4, z5])) (hgrow : (Y.alloc tmp).grownBy w1 (Value.slice va pre.length vc).ownBlock)
    (hat : (Value.slice (some ⟨g, 0, none⟩) (pre.length + 1) cap).ownBlock = (Value.slice va pre.length vc).ownBlock ∨ (Value.slice (some ⟨g, 0, none⟩) (pre.length + 1) cap).ownBlock = some (Y.alloc tmp).heap.size) (x : Ne)
    (hend : ∀ F : World, KeepsOthers Y F → Rg.Kp (w.heap.size + 1) Y F → Below w.heap.size Y F → KeepsFrom X.heap.size W F ∧ Rg.Kp (w.heap.size + 1) W F ∧ Below w.heap.size w F) :
    w1.cell? ⟨w.heap.size + 1, 0, none⟩ = some (.slice va pre.length vc) ∧ w1.frozen? ⟨w.heap.size + 1, 0, none⟩ = false ∧
    (∀ F, F = (set6 w1 g (pre.length * 6) (.int .i64 x.d.K) (.int .i64 x.d.N) (.string x.d.S) (.slice x.am x.d.M.length x.cm) (.slice x.al x.d.L.length x.cl) (.slice x.at_ x.d.T.length x.ct)).setCell ⟨w.heap.size + 1, 0, none⟩ (.slice (some ⟨g, 0, none⟩) (pre.length + 1) cap) → KeepsFrom X.heap.size W F ∧ Rg.Kp (w.heap.size + 1) W F ∧ I (pre ++ [x]) F) ∧ w.heap.size + 1 ≠ g ∧
    (w1.cell? ⟨g, pre.length * 6, none⟩ = some z0 ∧ w1.cell? ⟨g, pre.length * 6 + 1, none⟩ = some z1 ∧ w1.cell? ⟨g, pre.length * 6 + 2, none⟩ = some z2 ∧ w1.cell? ⟨g, pre.length * 6 + 3, none⟩ = some z3 ∧ w1.cell? ⟨g, pre.length * 6 + 4, none⟩ = some z4 ∧ w1.cell? ⟨g, pre.length * 6 + 5, none⟩ = some z5) ∧
    (w1.frozen? ⟨g, pre.length * 6, none⟩ = false ∧ w1.frozen? ⟨g, pre.length * 6 + 1, none⟩ = false ∧ w1.frozen? ⟨g, pre.length * 6 + 2, none⟩ = false ∧ w1.frozen? ⟨g, pre.length * 6 + 3, none⟩ = false ∧ w1.frozen? ⟨g, pre.length * 6 + 4, none⟩ = false ∧ w1.frozen? ⟨g, pre.length * 6 + 5, none⟩ = false) ∧ g < w1.heap.size ∧ w.heap.size + 1 < w1.heap.size := by
  have hne := hv.not_row (by decide) hrow
  have hv1 : Boxed w1 (w.heap.size + 1) 23 (.slice va pre.length vc) := (hv.alloc tmp).kept hgrow hne
  obtain ⟨o6, g6⟩ := app6 (.int .i64 x.d.K) (.int .i64 x.d.N) (.string x.d.S) (.slice x.am x.d.M.length x.cm) (.slice x.al x.d.L.length x.cl) (.slice x.at_ x.d.T.length x.ct) hrow hown hgrow hat
  obtain ⟨_, hv2, hr2, hk2, hb2⟩ := hv.appended (by decide) hrow hsW (Nat.le_succ _) o6 g6
  have hKp := Rg.Kp.app hv g6 hat hne (fun j e => (o6.lt j e).2)
  have hbm6 := ((hbm.alloc tmp).kept g6 (hbm.not_row (by decide) hrow)).other (B' := w.heap.size + 1) (by omega) (.slice (some ⟨g, 0, none⟩) (pre.length + 1) cap)
  have hbg : w.heap.size + 1 ≠ g := fun e => (hv1.not_row (by decide) hown) (by rw [e]; rfl)
  have hcell : ∀ q u, (cellsN pre ++ [z0, z1, z2, z3, z4, z5])[q]? = some u → w1.cell? ⟨g, q, none⟩ = some u := fun q u hu => by
    have h := hown.cells rfl q u hu
    rwa [show (⟨g, 0, none⟩ : Addr).add q = ⟨g, q, none⟩ by unfold Addr.add; split <;> simp_all] at h
  have hblk : ∃ cur, w1.heap[g]? = some (.cells cur 25 (0, 0)) := by
    rcases hown.2 with ⟨h1, h0⟩ | ⟨g', cap', cur, h1, h2, h3, _⟩
    · omega
    · injection h1 with e1 e2 e3; injection e1 with e1; injection e1 with e1; subst e1; exact ⟨cur, h3⟩
  obtain ⟨cur, hcur⟩ := hblk
  have hfz : ∀ q, w1.frozen? ⟨g, q, none⟩ = false := fun q => by simp [World.frozen?, hcur]
  have hl := cellsN_len pre
  refine ⟨hv1.cell, hv1.frozen, ?_, hbg, ?_, ⟨hfz _, hfz _, hfz _, hfz _, hfz _, hfz _⟩, (hown.lt g rfl).2, hv1.lt⟩
  · rintro F rfl
    obtain ⟨e1, e2, e3⟩ := hend _ hk2 hKp hb2
    refine ⟨e1, e2, ?_⟩
    rw [hI.out]
    refine ⟨⟨⟨_, hv2, ?_, trivial⟩, hbm6⟩, ?_, e3⟩
    · rw [cellsN_snoc, List.length_append]; exact hr2
    · rw [List.length_append]; exact hm
  · refine ⟨hcell _ _ ?_, hcell _ _ ?_, hcell _ _ ?_, hcell _ _ ?_, hcell _ _ ?_, hcell _ _ ?_⟩ <;> rw [← hl] <;> simp
theorem new_cells (w : World) (c : Array Value) (t : TypeId) : ∀ j u, c.toList[j]? = some u → (w.alloc (.cells c t)).cell? ((⟨w.heap.size, 0, none⟩ : Addr).add j) = some u := by
  intro j u h
  have hb := heap_alloc_new w (.cells c t)
  rw [show (⟨w.heap.size, 0, none⟩ : Addr).add j = ⟨w.heap.size, j, none⟩ by unfold Addr.add; split <;> simp_all, World.cell?, hb]
  simpa using h
set_option maxRecDepth 100000 in
set_option maxHeartbeats 8000000 in
/-- As many parts as one asks for. -/
theorem dtold (f : Nat) (caps : Array Value) (m : Nat) (hm : m ≤ 1048576) (w : World) (ds : List Dt) (heq : ∀ w : World, (binOp BinOp.eql 31 (.func (.func f) #[] caps) .nilFunc).run Try.prog w = .ok (.bool false) w) (eg : ∀ args w, (callFunc f args).run Try.prog w = .ok (.enter f args) w)
    (hseq : ∀ X : World, Below w.heap.size w X → X.cell? ⟨w.heap.size + 1, 0, none⟩ = some (.slice none 0 0) → X.heap.size = w.heap.size + 1 + 1 → Rg.Comes (5 - 1) Try.prog f caps (fun x : Ne => #[x.v]) (Rg.Kp (w.heap.size + 1)) (SAll (w.heap.size + 1) ds) (SPart (w.heap.size + 1) ds) X) :
    Calls Try.prog 11 #[.func (.func f) #[] caps, .int .i64 (m : Int)] w fun e w' =>
      ∃ (ys : List Ne) (a : Option Addr) (c : Nat), e = .returned (.slice a ys.length c) ∧ Below w.heap.size w w' ∧ w'.ownsRow w.heap.size 25 6 (.slice a ys.length c) ys.length (cellsN ys) ∧ ys.map Ne.d = ds.take m ∧ ∀ y ∈ ys, IsDt w' (Lo w'.heap.size) y.d y.v := by
  obtain ⟨i0, hi, hz0, hz1, hz2⟩ := info_parts datum_info
  refine (callsIn_wide (n := 5)).1 ?_
  refine callsIn_of_wp_marks Try.func11 rfl trivial ?_ rfl
  simp only [Try.ntmps11, List.size_toArray, List.length_cons, List.length_nil, Nat.reduceAdd, Nat.reduceSub, Array.replicate_succ, Array.replicate_zero, List.push_toArray, List.append_toArray, List.nil_append, List.cons_append]
  gi_wp2_with fail
  have bM := (Boxed.new w 3 (.int .i64 (m : Int))).alloc (.cells #[.slice none 0 0] 23)
  have bL := Boxed.new (w.alloc (.cells #[.int .i64 (m : Int)] 3)) 23 (.slice none 0 0)
  rw [World.size_alloc] at bL
  have hB0 : Below w.heap.size w ((w.alloc (.cells #[.int .i64 (m : Int)] 3)).alloc (.cells #[.slice none 0 0] 23)) := ((Below.refl _ w).alloc (Nat.le_refl _) _).alloc (by simp) _
  have hsz : ((w.alloc (.cells #[.int .i64 (m : Int)] 3)).alloc (.cells #[.slice none 0 0] 23)).heap.size = w.heap.size + 1 + 1 := by simp
  generalize (w.alloc (.cells #[.int .i64 (m : Int)] 3)).alloc (.cells #[.slice none 0 0] 23) = X at *
  have hst := hseq X hB0 bL.cell hsz
  obtain ⟨I, hIdef⟩ : ∃ I : List Ne → World → Prop, I = (fun pre W => ((∃ v, Boxed W (w.heap.size + 1) 23 v ∧ W.ownsRow w.heap.size 25 6 v pre.length (cellsN pre) ∧ True) ∧ Boxed W w.heap.size 3 (.int .i64 (m : Int))) ∧ (pre.length ≤ m ∧ Below w.heap.size w W)) := ⟨_, rfl⟩
  have hI : OwnFrom X.heap.size I := by
    rw [hIdef]
    exact OwnFrom.and (OwnFrom.and (Own.from (holdsRow_own w.heap.size (w.heap.size + 1) 23 25 6 (fun pre : List Ne => pre.length) cellsN (fun _ _ => True)) _) (Own.from (boxed_own _ _ _) _)) (OwnFrom.and (fun s A B row hs hg hr => hs) (ownFrom_below (Nat.le_refl _) (by omega)))
  refine Rg.range_comes (by omega) (f := f) (caps := caps) rfl eg hst Rg.Kp.trans (Rg.Kp.put (by omega)) (Below.refl _ _) (fun _ => rfl) (SAll.own (by omega) ds) (SPart.own (by omega) ds)
    I (fun c q W => ∃ pre : List Ne, (c = .exit 0 ∧ pre.length = m ∧ ∃ x, q = pre ++ [x]) ∧ I pre W)
    hI (fun c s A B row hs hg hr => by obtain ⟨pre, h1, h2⟩ := hs; exact ⟨pre, h1, hI pre A B row h2 hg hr⟩)
    (by rw [hIdef]; exact ⟨⟨⟨_, bL, World.ownsRow_nil _ _ _ _, trivial⟩, bM⟩, Nat.zero_le _, hB0⟩)
    (fun x a' W => ∃ Bx, w.heap.size + 1 < Bx ∧ Blk W Bx 25 #[.int .i64 x.d.K, .int .i64 x.d.N, .string x.d.S, .slice x.am x.d.M.length x.cm, .slice x.al x.d.L.length x.cl, .slice x.at_ x.d.T.length x.ct] ∧ a' = { tmps := #[.func (.func f) #[] caps, .int .i64 (m : Int), undef, .pointer (some ⟨w.heap.size, 0, none⟩), .slice none 0 0, .pointer (some ⟨w.heap.size + 1, 0, none⟩), .pointer (some ⟨Bx, 0, none⟩), .func (.func f) #[] caps, .bool false, .func (.func f) #[] caps, .agg #[.int .i64 x.d.K, .int .i64 x.d.N, .string x.d.S, .slice x.am x.d.M.length x.cm, .slice x.al x.d.L.length x.cl, .slice x.at_ x.d.T.length x.ct], undef, undef, undef, undef, undef, undef, undef, undef, undef, undef, undef], defers := [] })
    (fun x a' _ A B row hs hg hr => by
      obtain ⟨Bx, h1, h2, h3⟩ := hs
      refine ⟨Bx, h1, (hg.block Bx h2.lt (fun e => ?_)).trans h2, h3⟩
      obtain ⟨_, o, ho, hoc⟩ := hr Bx e.symm
      rw [show A.heap[Bx]? = _ from h2] at ho
      cases ho; cases hoc)
    ?assign ?body ?done ?stop
  case assign =>
    rw [hIdef]
    rintro l pre x W K ⟨⟨⟨v, hv, hrow, _⟩, hbm⟩, hle, hB1⟩ hK
    have hvl := hv.lt
    simp only [Ne.v]
    gi_wp2_with fail
    exact hK _ _ ((KeepsOthers.alloc _ _).from _) (Rg.Kp.alloc _ hvl _) ⟨⟨⟨v, hv.alloc _, hrow.alloc _, trivial⟩, hbm.alloc _⟩, hle, hB1.alloc hB1.size _⟩ ⟨W.heap.size, hvl, heap_alloc_new W _, rfl⟩
  case body =>
    have HI := Lib.hid hIdef
    rintro l pre x a' W hl ⟨r, hr⟩ hIW ⟨Bx, hBx, bX, rfl⟩
    rw [hIdef] at hIW
    obtain ⟨⟨⟨v, hv, hrow, _⟩, hbm⟩, hle, hB1⟩ := hIW
    obtain ⟨va, vc, rfl⟩ := own_slice hrow
    have c5 := hv.cell
    have f5 := hv.frozen
    have c3 := hbm.cell
    have x0 : W.cell? ⟨Bx, 0, none⟩ = some (.int .i64 x.d.K) := (bX.cell 0).trans rfl
    have x1 : W.cell? ⟨Bx, 1, none⟩ = some (.int .i64 x.d.N) := (bX.cell 1).trans rfl
    have x2 : W.cell? ⟨Bx, 2, none⟩ = some (.string x.d.S) := (bX.cell 2).trans rfl
    have x3 : W.cell? ⟨Bx, 3, none⟩ = some (.slice x.am x.d.M.length x.cm) := (bX.cell 3).trans rfl
    have x4 : W.cell? ⟨Bx, 4, none⟩ = some (.slice x.al x.d.L.length x.cl) := (bX.cell 4).trans rfl
    have x5 : W.cell? ⟨Bx, 5, none⟩ = some (.slice x.at_ x.d.T.length x.ct) := (bX.cell 5).trans rfl
    have HW := Lib.hid hB1
    have Hv := Lib.hid hv
    have Hrow := Lib.hid hrow
    have Hbm := Lib.hid hbm
    have hsW := hB1.size
    have hbl := hv.lt
    have hbx := bX.lt
    have hvc : pre.length ≤ vc := by
      rcases hrow.2 with ⟨h1, h0⟩ | ⟨g, cap, cur, h1, h2, h3, h4, _⟩
      · omega
      · injection h1 with e1 e2 e3; omega
    clear hB1 hv hrow hbm bX hB0 bM bL hst hI hIdef hseq heq eg
    by_cases hm1 : pre.length < m
    · have dm : decide ((pre.length : Int) ≥ (m : Int)) = false := decide_eq_false (by omega)
      clear hle
      gi_wp2_with fail
      refine wpIn_region_any (by kernel_rfl) ?_
      simp only [List.size_toArray, List.length_cons, List.length_nil, Nat.reduceAdd, Array.replicate_succ, Array.replicate_zero, List.push_toArray, List.nil_append, List.cons_append]
      obtain ⟨Y, hYd⟩ : ∃ Y : World, Y = { W with drawn := W.drawn + 1 } := ⟨_, rfl⟩
      have hvY : Boxed Y (w.heap.size + 1) 23 (.slice va pre.length vc) := by rw [hYd]; exact Hv.out
      have hrY : Y.ownsRow w.heap.size 25 6 (.slice va pre.length vc) pre.length (cellsN pre) := by rw [hYd]; exact Hrow.out
      have hbY : Boxed Y w.heap.size 3 (.int .i64 (m : Int)) := by rw [hYd]; exact Hbm.out
      have hend : ∀ F : World, KeepsOthers Y F → Rg.Kp (w.heap.size + 1) Y F → Below w.heap.size Y F → KeepsFrom X.heap.size W F ∧ Rg.Kp (w.heap.size + 1) W F ∧ Below w.heap.size w F := by
        intro F h1 h2 h3
        subst hYd
        exact ⟨⟨h1.size, fun k o _ hk ho => h1.same k o hk ho⟩, ⟨h2.size, h2.same, h2.own⟩, HW.out.trans ⟨h3.os, h3.tape, h3.output, h3.size, h3.block⟩⟩
      have hszY : W.heap.size = Y.heap.size := by rw [hYd]
      have yy : ∀ (p : Addr) (u : Value), W.cell? p = some u → Y.cell? p = some u := by intro p u h; rw [hYd]; exact h
      have d5 := yy _ _ c5
      have e5 : Y.frozen? ⟨w.heap.size + 1, 0, none⟩ = false := by rw [hYd]; exact f5
      have z0 := yy _ _ x0
      have z1 := yy _ _ x1
      have z2 := yy _ _ x2
      have z3 := yy _ _ x3
      have z4 := yy _ _ x4
      have z5 := yy _ _ x5
      clear x0 x1 x2 x3 x4 x5 c5 c3 f5 yy
      rw [← hYd]
      have Hend := Lib.hid hend
      have HvY := Lib.hid hvY
      have HrY := Lib.hid hrY
      have HbY := Lib.hid hbY
      clear hend hvY hrY hbY hYd
      rw [hszY] at hsW hbl hbx
      refine wpAnyIn_ready (rs := [0, 1, 3]) (by kernel_rfl) (by simp) ?_
      refine (AllReadyIn.cons rfl (fun K hK => ?_) (AllReadyIn.cons rfl (fun K hK => ?_) (AllReadyIn.cons rfl (fun K hK => ?_) AllReadyIn.nil)))
      · go_simp
        refine hK _ _ ?_
        clear hK K
        refine wpAnyIn_ready (rs := [1, 2, 3]) (by kernel_rfl) (by simp) ?_
        refine (AllReadyIn.cons rfl (fun K hK => ?_) (AllReadyIn.cons rfl (fun K hK => ?_) (AllReadyIn.cons rfl (fun K hK => ?_) AllReadyIn.nil)))
        · go_simp
          refine hK _ _ ?_
          clear hK K
          refine wpAnyIn_ready (rs := [2, 3]) (by kernel_rfl) (by simp) ?_
          refine (AllReadyIn.cons rfl (fun K hK => ?_) (AllReadyIn.cons rfl (fun K hK => ?_) AllReadyIn.nil))
          · go_simp
            refine hK _ _ ?_
            clear hK K
            refine wpAnyIn_ready (rs := [3]) (by kernel_rfl) (by simp) ?_
            refine (AllReadyIn.cons rfl (fun K hK => ?_) AllReadyIn.nil)
            · go_simp
              refine hK _ _ ?_
              clear hK K
              refine wpAnyIn_ready (rs := [4]) (by kernel_rfl) (by simp) ?_
              refine (AllReadyIn.cons rfl (fun K hK => ?_) AllReadyIn.nil)
              rw [if_pos (by rfl)]
              refine oper_append (.tmp 15) (.tmp 18) 23 rfl w.heap.size 25 i0 _ 6 104 Try.underlying23 hi hz0 hz1 hz2 rfl (by decide) _ pre.length (cellsN pre) rfl (HrY.out.alloc _) ⟨Y.heap.size, 0, none⟩ 1 1 [.int .i64 0, .int .i64 0, .string ⟨#[]⟩, .slice none 0 0, .slice none 0 0, .slice none 0 0] rfl rfl (new_cells Y #[.int .i64 0, .int .i64 0, .string ⟨#[]⟩, .slice none 0 0, .slice none 0 0, .slice none 0 0] 25) (by simp [Value.oneCell']) (by simp only [maxLen]; omega) (by omega) (by simp; omega) ?_
              intro v' w1 hown' hgrow hat
              obtain ⟨g, cap, rfl⟩ := ownsRow_succ hown'
              obtain ⟨t0, t1, hfin, hgb, hrc, hrf, hgl, hbl1⟩ := row_facts HI hm1 HvY.out HrY.out HbY.out hsW hown' hgrow hat x Hend.out
              obtain ⟨r0, r1, r2, r3, r4, r5⟩ := hrc
              obtain ⟨q0, q1, q2, q3, q4, q5⟩ := hrf
              have i0' : (0 : Int) ≤ (pre.length : Int) := Int.natCast_nonneg _
              have i1' : (pre.length : Int) < (pre.length : Int) + 1 := by omega
              refine hK _ _ ?_
              clear hK K hown' hgrow hat d5 e5 z0 z1 z2 z3 z4 z5
              simp only [Act.put, List.setIfInBounds_toArray, List.set_cons_zero, List.set_cons_succ]
              refine wpAnyIn_ready (rs := [5, 7]) (by kernel_rfl) (by simp) ?_
              refine (AllReadyIn.cons rfl (fun K hK => ?_) (AllReadyIn.cons rfl (fun K hK => ?_) AllReadyIn.nil))
              · go_simp
                refine hK _ _ ?_
                clear hK K
                refine wpAnyIn_ready (rs := [6, 7]) (by kernel_rfl) (by simp) ?_
                refine (AllReadyIn.cons rfl (fun K hK => ?_) (AllReadyIn.cons rfl (fun K hK => ?_) AllReadyIn.nil))
                · go_simp
                  refine hK _ _ ?_
                  clear hK K
                  refine wpAnyIn_ready (rs := [7]) (by kernel_rfl) (by simp) ?_
                  refine (AllReadyIn.cons rfl (fun K hK => ?_) AllReadyIn.nil)
                  go_simp
                  refine hK _ _ ?_
                  clear hK K
                  refine wpAnyIn_done (by kernel_rfl) ?_ _
                  exact hfin _ rfl
                · go_simp
                  refine hK _ _ ?_
                  clear hK K
                  refine wpAnyIn_ready (rs := [6]) (by kernel_rfl) (by simp) ?_
                  refine (AllReadyIn.cons rfl (fun K hK => ?_) AllReadyIn.nil)
                  go_simp
                  refine hK _ _ ?_
                  clear hK K
                  refine wpAnyIn_done (by kernel_rfl) ?_ _
                  exact hfin _ (set6_comm hgb _ _ _ _ _ _ _ _)
              · go_simp
                refine hK _ _ ?_
                clear hK K
                refine wpAnyIn_ready (rs := [5]) (by kernel_rfl) (by simp) ?_
                refine (AllReadyIn.cons rfl (fun K hK => ?_) AllReadyIn.nil)
                go_simp
                refine hK _ _ ?_
                clear hK K
                refine wpAnyIn_ready (rs := [6]) (by kernel_rfl) (by simp) ?_
                refine (AllReadyIn.cons rfl (fun K hK => ?_) AllReadyIn.nil)
                go_simp
                refine hK _ _ ?_
                clear hK K
                refine wpAnyIn_done (by kernel_rfl) ?_ _
                exact hfin _ (set6_comm hgb _ _ _ _ _ _ _ _)
          · go_simp
            refine hK _ _ ?_
            clear hK K
            refine wpAnyIn_ready (rs := [2]) (by kernel_rfl) (by simp) ?_
            refine (AllReadyIn.cons rfl (fun K hK => ?_) AllReadyIn.nil)
            · go_simp
              refine hK _ _ ?_
              clear hK K
              refine wpAnyIn_ready (rs := [4]) (by kernel_rfl) (by simp) ?_
              refine (AllReadyIn.cons rfl (fun K hK => ?_) AllReadyIn.nil)
              rw [if_pos (by rfl)]
              refine oper_append (.tmp 15) (.tmp 18) 23 rfl w.heap.size 25 i0 _ 6 104 Try.underlying23 hi hz0 hz1 hz2 rfl (by decide) _ pre.length (cellsN pre) rfl (HrY.out.alloc _) ⟨Y.heap.size, 0, none⟩ 1 1 [.int .i64 0, .int .i64 0, .string ⟨#[]⟩, .slice none 0 0, .slice none 0 0, .slice none 0 0] rfl rfl (new_cells Y #[.int .i64 0, .int .i64 0, .string ⟨#[]⟩, .slice none 0 0, .slice none 0 0, .slice none 0 0] 25) (by simp [Value.oneCell']) (by simp only [maxLen]; omega) (by omega) (by simp; omega) ?_
              intro v' w1 hown' hgrow hat
              obtain ⟨g, cap, rfl⟩ := ownsRow_succ hown'
              obtain ⟨t0, t1, hfin, hgb, hrc, hrf, hgl, hbl1⟩ := row_facts HI hm1 HvY.out HrY.out HbY.out hsW hown' hgrow hat x Hend.out
              obtain ⟨r0, r1, r2, r3, r4, r5⟩ := hrc
              obtain ⟨q0, q1, q2, q3, q4, q5⟩ := hrf
              have i0' : (0 : Int) ≤ (pre.length : Int) := Int.natCast_nonneg _
              have i1' : (pre.length : Int) < (pre.length : Int) + 1 := by omega
              refine hK _ _ ?_
              clear hK K hown' hgrow hat d5 e5 z0 z1 z2 z3 z4 z5
              simp only [Act.put, List.setIfInBounds_toArray, List.set_cons_zero, List.set_cons_succ]
              refine wpAnyIn_ready (rs := [5, 7]) (by kernel_rfl) (by simp) ?_
              refine (AllReadyIn.cons rfl (fun K hK => ?_) (AllReadyIn.cons rfl (fun K hK => ?_) AllReadyIn.nil))
              · go_simp
                refine hK _ _ ?_
                clear hK K
                refine wpAnyIn_ready (rs := [6, 7]) (by kernel_rfl) (by simp) ?_
                refine (AllReadyIn.cons rfl (fun K hK => ?_) (AllReadyIn.cons rfl (fun K hK => ?_) AllReadyIn.nil))
                · go_simp
                  refine hK _ _ ?_
                  clear hK K
                  refine wpAnyIn_ready (rs := [7]) (by kernel_rfl) (by simp) ?_
                  refine (AllReadyIn.cons rfl (fun K hK => ?_) AllReadyIn.nil)
                  go_simp
                  refine hK _ _ ?_
                  clear hK K
                  refine wpAnyIn_done (by kernel_rfl) ?_ _
                  exact hfin _ rfl
                · go_simp
                  refine hK _ _ ?_
                  clear hK K
                  refine wpAnyIn_ready (rs := [6]) (by kernel_rfl) (by simp) ?_
                  refine (AllReadyIn.cons rfl (fun K hK => ?_) AllReadyIn.nil)
                  go_simp
                  refine hK _ _ ?_
                  clear hK K
                  refine wpAnyIn_done (by kernel_rfl) ?_ _
                  exact hfin _ (set6_comm hgb _ _ _ _ _ _ _ _)
              · go_simp
                refine hK _ _ ?_
                clear hK K
                refine wpAnyIn_ready (rs := [5]) (by kernel_rfl) (by simp) ?_
                refine (AllReadyIn.cons rfl (fun K hK => ?_) AllReadyIn.nil)
                go_simp
                refine hK _ _ ?_
                clear hK K
                refine wpAnyIn_ready (rs := [6]) (by kernel_rfl) (by simp) ?_
                refine (AllReadyIn.cons rfl (fun K hK => ?_) AllReadyIn.nil)
                go_simp
                refine hK _ _ ?_
                clear hK K
                refine wpAnyIn_done (by kernel_rfl) ?_ _
                exact hfin _ (set6_comm hgb _ _ _ _ _ _ _ _)
        · go_simp
          refine hK _ _ ?_
          clear hK K
          refine wpAnyIn_ready (rs := [1, 3]) (by kernel_rfl) (by simp) ?_
          refine (AllReadyIn.cons rfl (fun K hK => ?_) (AllReadyIn.cons rfl (fun K hK => ?_) AllReadyIn.nil))
          · go_simp
            refine hK _ _ ?_
            clear hK K
            refine wpAnyIn_ready (rs := [3]) (by kernel_rfl) (by simp) ?_
            refine (AllReadyIn.cons rfl (fun K hK => ?_) AllReadyIn.nil)
            · go_simp
              refine hK _ _ ?_
              clear hK K
              refine wpAnyIn_ready (rs := [4]) (by kernel_rfl) (by simp) ?_
              refine (AllReadyIn.cons rfl (fun K hK => ?_) AllReadyIn.nil)
              rw [if_pos (by rfl)]
              refine oper_append (.tmp 15) (.tmp 18) 23 rfl w.heap.size 25 i0 _ 6 104 Try.underlying23 hi hz0 hz1 hz2 rfl (by decide) _ pre.length (cellsN pre) rfl (HrY.out.alloc _) ⟨Y.heap.size, 0, none⟩ 1 1 [.int .i64 0, .int .i64 0, .string ⟨#[]⟩, .slice none 0 0, .slice none 0 0, .slice none 0 0] rfl rfl (new_cells Y #[.int .i64 0, .int .i64 0, .string ⟨#[]⟩, .slice none 0 0, .slice none 0 0, .slice none 0 0] 25) (by simp [Value.oneCell']) (by simp only [maxLen]; omega) (by omega) (by simp; omega) ?_
              intro v' w1 hown' hgrow hat
              obtain ⟨g, cap, rfl⟩ := ownsRow_succ hown'
              obtain ⟨t0, t1, hfin, hgb, hrc, hrf, hgl, hbl1⟩ := row_facts HI hm1 HvY.out HrY.out HbY.out hsW hown' hgrow hat x Hend.out
              obtain ⟨r0, r1, r2, r3, r4, r5⟩ := hrc
              obtain ⟨q0, q1, q2, q3, q4, q5⟩ := hrf
              have i0' : (0 : Int) ≤ (pre.length : Int) := Int.natCast_nonneg _
              have i1' : (pre.length : Int) < (pre.length : Int) + 1 := by omega
              refine hK _ _ ?_
              clear hK K hown' hgrow hat d5 e5 z0 z1 z2 z3 z4 z5
              simp only [Act.put, List.setIfInBounds_toArray, List.set_cons_zero, List.set_cons_succ]
              refine wpAnyIn_ready (rs := [5, 7]) (by kernel_rfl) (by simp) ?_
              refine (AllReadyIn.cons rfl (fun K hK => ?_) (AllReadyIn.cons rfl (fun K hK => ?_) AllReadyIn.nil))
              · go_simp
                refine hK _ _ ?_
                clear hK K
                refine wpAnyIn_ready (rs := [6, 7]) (by kernel_rfl) (by simp) ?_
                refine (AllReadyIn.cons rfl (fun K hK => ?_) (AllReadyIn.cons rfl (fun K hK => ?_) AllReadyIn.nil))
                · go_simp
                  refine hK _ _ ?_
                  clear hK K
                  refine wpAnyIn_ready (rs := [7]) (by kernel_rfl) (by simp) ?_
                  refine (AllReadyIn.cons rfl (fun K hK => ?_) AllReadyIn.nil)
                  go_simp
                  refine hK _ _ ?_
                  clear hK K
                  refine wpAnyIn_done (by kernel_rfl) ?_ _
                  exact hfin _ rfl
                · go_simp
                  refine hK _ _ ?_
                  clear hK K
                  refine wpAnyIn_ready (rs := [6]) (by kernel_rfl) (by simp) ?_
                  refine (AllReadyIn.cons rfl (fun K hK => ?_) AllReadyIn.nil)
                  go_simp
                  refine hK _ _ ?_
                  clear hK K
                  refine wpAnyIn_done (by kernel_rfl) ?_ _
                  exact hfin _ (set6_comm hgb _ _ _ _ _ _ _ _)
              · go_simp
                refine hK _ _ ?_
                clear hK K
                refine wpAnyIn_ready (rs := [5]) (by kernel_rfl) (by simp) ?_
                refine (AllReadyIn.cons rfl (fun K hK => ?_) AllReadyIn.nil)
                go_simp
                refine hK _ _ ?_
                clear hK K
                refine wpAnyIn_ready (rs := [6]) (by kernel_rfl) (by simp) ?_
                refine (AllReadyIn.cons rfl (fun K hK => ?_) AllReadyIn.nil)
                go_simp
                refine hK _ _ ?_
                clear hK K
                refine wpAnyIn_done (by kernel_rfl) ?_ _
                exact hfin _ (set6_comm hgb _ _ _ _ _ _ _ _)
          · go_simp
            refine hK _ _ ?_
            clear hK K
            refine wpAnyIn_ready (rs := [1]) (by kernel_rfl) (by simp) ?_
            refine (AllReadyIn.cons rfl (fun K hK => ?_) AllReadyIn.nil)
            · go_simp
              refine hK _ _ ?_
              clear hK K
              refine wpAnyIn_ready (rs := [4]) (by kernel_rfl) (by simp) ?_
              refine (AllReadyIn.cons rfl (fun K hK => ?_) AllReadyIn.nil)
              rw [if_pos (by rfl)]
              refine oper_append (.tmp 15) (.tmp 18) 23 rfl w.heap.size 25 i0 _ 6 104 Try.underlying23 hi hz0 hz1 hz2 rfl (by decide) _ pre.length (cellsN pre) rfl (HrY.out.alloc _) ⟨Y.heap.size, 0, none⟩ 1 1 [.int .i64 0, .int .i64 0, .string ⟨#[]⟩, .slice none 0 0, .slice none 0 0, .slice none 0 0] rfl rfl (new_cells Y #[.int .i64 0, .int .i64 0, .string ⟨#[]⟩, .slice none 0 0, .slice none 0 0, .slice none 0 0] 25) (by simp [Value.oneCell']) (by simp only [maxLen]; omega) (by omega) (by simp; omega) ?_
              intro v' w1 hown' hgrow hat
              obtain ⟨g, cap, rfl⟩ := ownsRow_succ hown'
              obtain ⟨t0, t1, hfin, hgb, hrc, hrf, hgl, hbl1⟩ := row_facts HI hm1 HvY.out HrY.out HbY.out hsW hown' hgrow hat x Hend.out
              obtain ⟨r0, r1, r2, r3, r4, r5⟩ := hrc
              obtain ⟨q0, q1, q2, q3, q4, q5⟩ := hrf
              have i0' : (0 : Int) ≤ (pre.length : Int) := Int.natCast_nonneg _
              have i1' : (pre.length : Int) < (pre.length : Int) + 1 := by omega
              refine hK _ _ ?_
              clear hK K hown' hgrow hat d5 e5 z0 z1 z2 z3 z4 z5
              simp only [Act.put, List.setIfInBounds_toArray, List.set_cons_zero, List.set_cons_succ]
              refine wpAnyIn_ready (rs := [5, 7]) (by kernel_rfl) (by simp) ?_
              refine (AllReadyIn.cons rfl (fun K hK => ?_) (AllReadyIn.cons rfl (fun K hK => ?_) AllReadyIn.nil))
              · go_simp
                refine hK _ _ ?_
                clear hK K
                refine wpAnyIn_ready (rs := [6, 7]) (by kernel_rfl) (by simp) ?_
                refine (AllReadyIn.cons rfl (fun K hK => ?_) (AllReadyIn.cons rfl (fun K hK => ?_) AllReadyIn.nil))
                · go_simp
                  refine hK _ _ ?_
                  clear hK K
                  refine wpAnyIn_ready (rs := [7]) (by kernel_rfl) (by simp) ?_
                  refine (AllReadyIn.cons rfl (fun K hK => ?_) AllReadyIn.nil)
                  go_simp
                  refine hK _ _ ?_
                  clear hK K
                  refine wpAnyIn_done (by kernel_rfl) ?_ _
                  exact hfin _ rfl
                · go_simp
                  refine hK _ _ ?_
                  clear hK K
                  refine wpAnyIn_ready (rs := [6]) (by kernel_rfl) (by simp) ?_
                  refine (AllReadyIn.cons rfl (fun K hK => ?_) AllReadyIn.nil)
                  go_simp
                  refine hK _ _ ?_
                  clear hK K
                  refine wpAnyIn_done (by kernel_rfl) ?_ _
                  exact hfin _ (set6_comm hgb _ _ _ _ _ _ _ _)
              · go_simp
                refine hK _ _ ?_
                clear hK K
                refine wpAnyIn_ready (rs := [5]) (by kernel_rfl) (by simp) ?_
                refine (AllReadyIn.cons rfl (fun K hK => ?_) AllReadyIn.nil)
                go_simp
                refine hK _ _ ?_
                clear hK K
                refine wpAnyIn_ready (rs := [6]) (by kernel_rfl) (by simp) ?_
                refine (AllReadyIn.cons rfl (fun K hK => ?_) AllReadyIn.nil)
                go_simp
                refine hK _ _ ?_
                clear hK K
                refine wpAnyIn_done (by kernel_rfl) ?_ _
                exact hfin _ (set6_comm hgb _ _ _ _ _ _ _ _)
        · go_simp
          refine hK _ _ ?_
          clear hK K
          refine wpAnyIn_ready (rs := [1, 2]) (by kernel_rfl) (by simp) ?_
          refine (AllReadyIn.cons rfl (fun K hK => ?_) (AllReadyIn.cons rfl (fun K hK => ?_) AllReadyIn.nil))
          · go_simp
            refine hK _ _ ?_
            clear hK K
            refine wpAnyIn_ready (rs := [2]) (by kernel_rfl) (by simp) ?_
            refine (AllReadyIn.cons rfl (fun K hK => ?_) AllReadyIn.nil)
            · go_simp
              refine hK _ _ ?_
              clear hK K
              refine wpAnyIn_ready (rs := [4]) (by kernel_rfl) (by simp) ?_
              refine (AllReadyIn.cons rfl (fun K hK => ?_) AllReadyIn.nil)
              rw [if_pos (by rfl)]
              refine oper_append (.tmp 15) (.tmp 18) 23 rfl w.heap.size 25 i0 _ 6 104 Try.underlying23 hi hz0 hz1 hz2 rfl (by decide) _ pre.length (cellsN pre) rfl (HrY.out.alloc _) ⟨Y.heap.size, 0, none⟩ 1 1 [.int .i64 0, .int .i64 0, .string ⟨#[]⟩, .slice none 0 0, .slice none 0 0, .slice none 0 0] rfl rfl (new_cells Y #[.int .i64 0, .int .i64 0, .string ⟨#[]⟩, .slice none 0 0, .slice none 0 0, .slice none 0 0] 25) (by simp [Value.oneCell']) (by simp only [maxLen]; omega) (by omega) (by simp; omega) ?_
              intro v' w1 hown' hgrow hat
              obtain ⟨g, cap, rfl⟩ := ownsRow_succ hown'
              obtain ⟨t0, t1, hfin, hgb, hrc, hrf, hgl, hbl1⟩ := row_facts HI hm1 HvY.out HrY.out HbY.out hsW hown' hgrow hat x Hend.out
              obtain ⟨r0, r1, r2, r3, r4, r5⟩ := hrc
              obtain ⟨q0, q1, q2, q3, q4, q5⟩ := hrf
              have i0' : (0 : Int) ≤ (pre.length : Int) := Int.natCast_nonneg _
              have i1' : (pre.length : Int) < (pre.length : Int) + 1 := by omega
              refine hK _ _ ?_
              clear hK K hown' hgrow hat d5 e5 z0 z1 z2 z3 z4 z5
              simp only [Act.put, List.setIfInBounds_toArray, List.set_cons_zero, List.set_cons_succ]
              refine wpAnyIn_ready (rs := [5, 7]) (by kernel_rfl) (by simp) ?_
              refine (AllReadyIn.cons rfl (fun K hK => ?_) (AllReadyIn.cons rfl (fun K hK => ?_) AllReadyIn.nil))
              · go_simp
                refine hK _ _ ?_
                clear hK K
                refine wpAnyIn_ready (rs := [6, 7]) (by kernel_rfl) (by simp) ?_
                refine (AllReadyIn.cons rfl (fun K hK => ?_) (AllReadyIn.cons rfl (fun K hK => ?_) AllReadyIn.nil))
                · go_simp
                  refine hK _ _ ?_
                  clear hK K
                  refine wpAnyIn_ready (rs := [7]) (by kernel_rfl) (by simp) ?_
                  refine (AllReadyIn.cons rfl (fun K hK => ?_) AllReadyIn.nil)
                  go_simp
                  refine hK _ _ ?_
                  clear hK K
                  refine wpAnyIn_done (by kernel_rfl) ?_ _
                  exact hfin _ rfl
                · go_simp
                  refine hK _ _ ?_
                  clear hK K
                  refine wpAnyIn_ready (rs := [6]) (by kernel_rfl) (by simp) ?_
                  refine (AllReadyIn.cons rfl (fun K hK => ?_) AllReadyIn.nil)
                  go_simp
                  refine hK _ _ ?_
                  clear hK K
                  refine wpAnyIn_done (by kernel_rfl) ?_ _
                  exact hfin _ (set6_comm hgb _ _ _ _ _ _ _ _)
              · go_simp
                refine hK _ _ ?_
                clear hK K
                refine wpAnyIn_ready (rs := [5]) (by kernel_rfl) (by simp) ?_
                refine (AllReadyIn.cons rfl (fun K hK => ?_) AllReadyIn.nil)
                go_simp
                refine hK _ _ ?_
                clear hK K
                refine wpAnyIn_ready (rs := [6]) (by kernel_rfl) (by simp) ?_
                refine (AllReadyIn.cons rfl (fun K hK => ?_) AllReadyIn.nil)
                go_simp
                refine hK _ _ ?_
                clear hK K
                refine wpAnyIn_done (by kernel_rfl) ?_ _
                exact hfin _ (set6_comm hgb _ _ _ _ _ _ _ _)
          · go_simp
            refine hK _ _ ?_
            clear hK K
            refine wpAnyIn_ready (rs := [1]) (by kernel_rfl) (by simp) ?_
            refine (AllReadyIn.cons rfl (fun K hK => ?_) AllReadyIn.nil)
            · go_simp
              refine hK _ _ ?_
              clear hK K
              refine wpAnyIn_ready (rs := [4]) (by kernel_rfl) (by simp) ?_
              refine (AllReadyIn.cons rfl (fun K hK => ?_) AllReadyIn.nil)
              rw [if_pos (by rfl)]
              refine oper_append (.tmp 15) (.tmp 18) 23 rfl w.heap.size 25 i0 _ 6 104 Try.underlying23 hi hz0 hz1 hz2 rfl (by decide) _ pre.length (cellsN pre) rfl (HrY.out.alloc _) ⟨Y.heap.size, 0, none⟩ 1 1 [.int .i64 0, .int .i64 0, .string ⟨#[]⟩, .slice none 0 0, .slice none 0 0, .slice none 0 0] rfl rfl (new_cells Y #[.int .i64 0, .int .i64 0, .string ⟨#[]⟩, .slice none 0 0, .slice none 0 0, .slice none 0 0] 25) (by simp [Value.oneCell']) (by simp only [maxLen]; omega) (by omega) (by simp; omega) ?_
              intro v' w1 hown' hgrow hat
              obtain ⟨g, cap, rfl⟩ := ownsRow_succ hown'
              obtain ⟨t0, t1, hfin, hgb, hrc, hrf, hgl, hbl1⟩ := row_facts HI hm1 HvY.out HrY.out HbY.out hsW hown' hgrow hat x Hend.out
              obtain ⟨r0, r1, r2, r3, r4, r5⟩ := hrc
              obtain ⟨q0, q1, q2, q3, q4, q5⟩ := hrf
              have i0' : (0 : Int) ≤ (pre.length : Int) := Int.natCast_nonneg _
              have i1' : (pre.length : Int) < (pre.length : Int) + 1 := by omega
              refine hK _ _ ?_
              clear hK K hown' hgrow hat d5 e5 z0 z1 z2 z3 z4 z5
              simp only [Act.put, List.setIfInBounds_toArray, List.set_cons_zero, List.set_cons_succ]
              refine wpAnyIn_ready (rs := [5, 7]) (by kernel_rfl) (by simp) ?_
              refine (AllReadyIn.cons rfl (fun K hK => ?_) (AllReadyIn.cons rfl (fun K hK => ?_) AllReadyIn.nil))
              · go_simp
                refine hK _ _ ?_
                clear hK K
                refine wpAnyIn_ready (rs := [6, 7]) (by kernel_rfl) (by simp) ?_
                refine (AllReadyIn.cons rfl (fun K hK => ?_) (AllReadyIn.cons rfl (fun K hK => ?_) AllReadyIn.nil))
                · go_simp
                  refine hK _ _ ?_
                  clear hK K
                  refine wpAnyIn_ready (rs := [7]) (by kernel_rfl) (by simp) ?_
                  refine (AllReadyIn.cons rfl (fun K hK => ?_) AllReadyIn.nil)
                  go_simp
                  refine hK _ _ ?_
                  clear hK K
                  refine wpAnyIn_done (by kernel_rfl) ?_ _
                  exact hfin _ rfl
                · go_simp
                  refine hK _ _ ?_
                  clear hK K
                  refine wpAnyIn_ready (rs := [6]) (by kernel_rfl) (by simp) ?_
                  refine (AllReadyIn.cons rfl (fun K hK => ?_) AllReadyIn.nil)
                  go_simp
                  refine hK _ _ ?_
                  clear hK K
                  refine wpAnyIn_done (by kernel_rfl) ?_ _
                  exact hfin _ (set6_comm hgb _ _ _ _ _ _ _ _)
              · go_simp
                refine hK _ _ ?_
                clear hK K
                refine wpAnyIn_ready (rs := [5]) (by kernel_rfl) (by simp) ?_
                refine (AllReadyIn.cons rfl (fun K hK => ?_) AllReadyIn.nil)
                go_simp
                refine hK _ _ ?_
                clear hK K
                refine wpAnyIn_ready (rs := [6]) (by kernel_rfl) (by simp) ?_
                refine (AllReadyIn.cons rfl (fun K hK => ?_) AllReadyIn.nil)
                go_simp
                refine hK _ _ ?_
                clear hK K
                refine wpAnyIn_done (by kernel_rfl) ?_ _
                exact hfin _ (set6_comm hgb _ _ _ _ _ _ _ _)
      · go_simp
        refine hK _ _ ?_
        clear hK K
        refine wpAnyIn_ready (rs := [0, 3]) (by kernel_rfl) (by simp) ?_
        refine (AllReadyIn.cons rfl (fun K hK => ?_) (AllReadyIn.cons rfl (fun K hK => ?_) AllReadyIn.nil))
        · go_simp
          refine hK _ _ ?_
          clear hK K
          refine wpAnyIn_ready (rs := [2, 3]) (by kernel_rfl) (by simp) ?_
          refine (AllReadyIn.cons rfl (fun K hK => ?_) (AllReadyIn.cons rfl (fun K hK => ?_) AllReadyIn.nil))
          · go_simp
            refine hK _ _ ?_
            clear hK K
            refine wpAnyIn_ready (rs := [3]) (by kernel_rfl) (by simp) ?_
            refine (AllReadyIn.cons rfl (fun K hK => ?_) AllReadyIn.nil)
            · go_simp
              refine hK _ _ ?_
              clear hK K
              refine wpAnyIn_ready (rs := [4]) (by kernel_rfl) (by simp) ?_
              refine (AllReadyIn.cons rfl (fun K hK => ?_) AllReadyIn.nil)
              rw [if_pos (by rfl)]
              refine oper_append (.tmp 15) (.tmp 18) 23 rfl w.heap.size 25 i0 _ 6 104 Try.underlying23 hi hz0 hz1 hz2 rfl (by decide) _ pre.length (cellsN pre) rfl (HrY.out.alloc _) ⟨Y.heap.size, 0, none⟩ 1 1 [.int .i64 0, .int .i64 0, .string ⟨#[]⟩, .slice none 0 0, .slice none 0 0, .slice none 0 0] rfl rfl (new_cells Y #[.int .i64 0, .int .i64 0, .string ⟨#[]⟩, .slice none 0 0, .slice none 0 0, .slice none 0 0] 25) (by simp [Value.oneCell']) (by simp only [maxLen]; omega) (by omega) (by simp; omega) ?_
              intro v' w1 hown' hgrow hat
              obtain ⟨g, cap, rfl⟩ := ownsRow_succ hown'
              obtain ⟨t0, t1, hfin, hgb, hrc, hrf, hgl, hbl1⟩ := row_facts HI hm1 HvY.out HrY.out HbY.out hsW hown' hgrow hat x Hend.out
              obtain ⟨r0, r1, r2, r3, r4, r5⟩ := hrc
              obtain ⟨q0, q1, q2, q3, q4, q5⟩ := hrf
              have i0' : (0 : Int) ≤ (pre.length : Int) := Int.natCast_nonneg _
              have i1' : (pre.length : Int) < (pre.length : Int) + 1 := by omega
              refine hK _ _ ?_
              clear hK K hown' hgrow hat d5 e5 z0 z1 z2 z3 z4 z5
              simp only [Act.put, List.setIfInBounds_toArray, List.set_cons_zero, List.set_cons_succ]
              refine wpAnyIn_ready (rs := [5, 7]) (by kernel_rfl) (by simp) ?_
              refine (AllReadyIn.cons rfl (fun K hK => ?_) (AllReadyIn.cons rfl (fun K hK => ?_) AllReadyIn.nil))
              · go_simp
                refine hK _ _ ?_
                clear hK K
                refine wpAnyIn_ready (rs := [6, 7]) (by kernel_rfl) (by simp) ?_
                refine (AllReadyIn.cons rfl (fun K hK => ?_) (AllReadyIn.cons rfl (fun K hK => ?_) AllReadyIn.nil))
                · go_simp
                  refine hK _ _ ?_
                  clear hK K
                  refine wpAnyIn_ready (rs := [7]) (by kernel_rfl) (by simp) ?_
                  refine (AllReadyIn.cons rfl (fun K hK => ?_) AllReadyIn.nil)
                  go_simp
                  refine hK _ _ ?_
                  clear hK K
                  refine wpAnyIn_done (by kernel_rfl) ?_ _
                  exact hfin _ rfl
                · go_simp
                  refine hK _ _ ?_
                  clear hK K
                  refine wpAnyIn_ready (rs := [6]) (by kernel_rfl) (by simp) ?_
                  refine (AllReadyIn.cons rfl (fun K hK => ?_) AllReadyIn.nil)
                  go_simp
                  refine hK _ _ ?_
                  clear hK K
                  refine wpAnyIn_done (by kernel_rfl) ?_ _
                  exact hfin _ (set6_comm hgb _ _ _ _ _ _ _ _)
              · go_simp
                refine hK _ _ ?_
                clear hK K
                refine wpAnyIn_ready (rs := [5]) (by kernel_rfl) (by simp) ?_
                refine (AllReadyIn.cons rfl (fun K hK => ?_) AllReadyIn.nil)
                go_simp
                refine hK _ _ ?_
                clear hK K
                refine wpAnyIn_ready (rs := [6]) (by kernel_rfl) (by simp) ?_
                refine (AllReadyIn.cons rfl (fun K hK => ?_) AllReadyIn.nil)
                go_simp
                refine hK _ _ ?_
                clear hK K
                refine wpAnyIn_done (by kernel_rfl) ?_ _
                exact hfin _ (set6_comm hgb _ _ _ _ _ _ _ _)
          · go_simp
            refine hK _ _ ?_
            clear hK K
            refine wpAnyIn_ready (rs := [2]) (by kernel_rfl) (by simp) ?_
            refine (AllReadyIn.cons rfl (fun K hK => ?_) AllReadyIn.nil)
            · go_simp
              refine hK _ _ ?_
              clear hK K
              refine wpAnyIn_ready (rs := [4]) (by kernel_rfl) (by simp) ?_
              refine (AllReadyIn.cons rfl (fun K hK => ?_) AllReadyIn.nil)
              rw [if_pos (by rfl)]
              refine oper_append (.tmp 15) (.tmp 18) 23 rfl w.heap.size 25 i0 _ 6 104 Try.underlying23 hi hz0 hz1 hz2 rfl (by decide) _ pre.length (cellsN pre) rfl (HrY.out.alloc _) ⟨Y.heap.size, 0, none⟩ 1 1 [.int .i64 0, .int .i64 0, .string ⟨#[]⟩, .slice none 0 0, .slice none 0 0, .slice none 0 0] rfl rfl (new_cells Y #[.int .i64 0, .int .i64 0, .string ⟨#[]⟩, .slice none 0 0, .slice none 0 0, .slice none 0 0] 25) (by simp [Value.oneCell']) (by simp only [maxLen]; omega) (by omega) (by simp; omega) ?_
              intro v' w1 hown' hgrow hat
              obtain ⟨g, cap, rfl⟩ := ownsRow_succ hown'
              obtain ⟨t0, t1, hfin, hgb, hrc, hrf, hgl, hbl1⟩ := row_facts HI hm1 HvY.out HrY.out HbY.out hsW hown' hgrow hat x Hend.out
              obtain ⟨r0, r1, r2, r3, r4, r5⟩ := hrc
              obtain ⟨q0, q1, q2, q3, q4, q5⟩ := hrf
              have i0' : (0 : Int) ≤ (pre.length : Int) := Int.natCast_nonneg _
              have i1' : (pre.length : Int) < (pre.length : Int) + 1 := by omega
              refine hK _ _ ?_
              clear hK K hown' hgrow hat d5 e5 z0 z1 z2 z3 z4 z5
              simp only [Act.put, List.setIfInBounds_toArray, List.set_cons_zero, List.set_cons_succ]
              refine wpAnyIn_ready (rs := [5, 7]) (by kernel_rfl) (by simp) ?_
              refine (AllReadyIn.cons rfl (fun K hK => ?_) (AllReadyIn.cons rfl (fun K hK => ?_) AllReadyIn.nil))
              · go_simp
                refine hK _ _ ?_
                clear hK K
                refine wpAnyIn_ready (rs := [6, 7]) (by kernel_rfl) (by simp) ?_
                refine (AllReadyIn.cons rfl (fun K hK => ?_) (AllReadyIn.cons rfl (fun K hK => ?_) AllReadyIn.nil))
                · go_simp
                  refine hK _ _ ?_
                  clear hK K
                  refine wpAnyIn_ready (rs := [7]) (by kernel_rfl) (by simp) ?_
                  refine (AllReadyIn.cons rfl (fun K hK => ?_) AllReadyIn.nil)
                  go_simp
                  refine hK _ _ ?_
                  clear hK K
                  refine wpAnyIn_done (by kernel_rfl) ?_ _
                  exact hfin _ rfl
                · go_simp
                  refine hK _ _ ?_
                  clear hK K
                  refine wpAnyIn_ready (rs := [6]) (by kernel_rfl) (by simp) ?_
                  refine (AllReadyIn.cons rfl (fun K hK => ?_) AllReadyIn.nil)
                  go_simp
                  refine hK _ _ ?_
                  clear hK K
                  refine wpAnyIn_done (by kernel_rfl) ?_ _
                  exact hfin _ (set6_comm hgb _ _ _ _ _ _ _ _)
              · go_simp
                refine hK _ _ ?_
                clear hK K
                refine wpAnyIn_ready (rs := [5]) (by kernel_rfl) (by simp) ?_
                refine (AllReadyIn.cons rfl (fun K hK => ?_) AllReadyIn.nil)
                go_simp
                refine hK _ _ ?_
                clear hK K
                refine wpAnyIn_ready (rs := [6]) (by kernel_rfl) (by simp) ?_
                refine (AllReadyIn.cons rfl (fun K hK => ?_) AllReadyIn.nil)
                go_simp
                refine hK _ _ ?_
                clear hK K
                refine wpAnyIn_done (by kernel_rfl) ?_ _
                exact hfin _ (set6_comm hgb _ _ _ _ _ _ _ _)
        · go_simp
          refine hK _ _ ?_
          clear hK K
          refine wpAnyIn_ready (rs := [0]) (by kernel_rfl) (by simp) ?_
          refine (AllReadyIn.cons rfl (fun K hK => ?_) AllReadyIn.nil)
          · go_simp
            refine hK _ _ ?_
            clear hK K
            refine wpAnyIn_ready (rs := [2]) (by kernel_rfl) (by simp) ?_
            refine (AllReadyIn.cons rfl (fun K hK => ?_) AllReadyIn.nil)
            · go_simp
              refine hK _ _ ?_
              clear hK K
              refine wpAnyIn_ready (rs := [4]) (by kernel_rfl) (by simp) ?_
              refine (AllReadyIn.cons rfl (fun K hK => ?_) AllReadyIn.nil)
              rw [if_pos (by rfl)]
              refine oper_append (.tmp 15) (.tmp 18) 23 rfl w.heap.size 25 i0 _ 6 104 Try.underlying23 hi hz0 hz1 hz2 rfl (by decide) _ pre.length (cellsN pre) rfl (HrY.out.alloc _) ⟨Y.heap.size, 0, none⟩ 1 1 [.int .i64 0, .int .i64 0, .string ⟨#[]⟩, .slice none 0 0, .slice none 0 0, .slice none 0 0] rfl rfl (new_cells Y #[.int .i64 0, .int .i64 0, .string ⟨#[]⟩, .slice none 0 0, .slice none 0 0, .slice none 0 0] 25) (by simp [Value.oneCell']) (by simp only [maxLen]; omega) (by omega) (by simp; omega) ?_
              intro v' w1 hown' hgrow hat
              obtain ⟨g, cap, rfl⟩ := ownsRow_succ hown'
              obtain ⟨t0, t1, hfin, hgb, hrc, hrf, hgl, hbl1⟩ := row_facts HI hm1 HvY.out HrY.out HbY.out hsW hown' hgrow hat x Hend.out
              obtain ⟨r0, r1, r2, r3, r4, r5⟩ := hrc
              obtain ⟨q0, q1, q2, q3, q4, q5⟩ := hrf
              have i0' : (0 : Int) ≤ (pre.length : Int) := Int.natCast_nonneg _
              have i1' : (pre.length : Int) < (pre.length : Int) + 1 := by omega
              refine hK _ _ ?_
              clear hK K hown' hgrow hat d5 e5 z0 z1 z2 z3 z4 z5
              simp only [Act.put, List.setIfInBounds_toArray, List.set_cons_zero, List.set_cons_succ]
              refine wpAnyIn_ready (rs := [5, 7]) (by kernel_rfl) (by simp) ?_
              refine (AllReadyIn.cons rfl (fun K hK => ?_) (AllReadyIn.cons rfl (fun K hK => ?_) AllReadyIn.nil))
              · go_simp
                refine hK _ _ ?_
                clear hK K
                refine wpAnyIn_ready (rs := [6, 7]) (by kernel_rfl) (by simp) ?_
                refine (AllReadyIn.cons rfl (fun K hK => ?_) (AllReadyIn.cons rfl (fun K hK => ?_) AllReadyIn.nil))
                · go_simp
                  refine hK _ _ ?_
                  clear hK K
                  refine wpAnyIn_ready (rs := [7]) (by kernel_rfl) (by simp) ?_
                  refine (AllReadyIn.cons rfl (fun K hK => ?_) AllReadyIn.nil)
                  go_simp
                  refine hK _ _ ?_
                  clear hK K
                  refine wpAnyIn_done (by kernel_rfl) ?_ _
                  exact hfin _ rfl
                · go_simp
                  refine hK _ _ ?_
                  clear hK K
                  refine wpAnyIn_ready (rs := [6]) (by kernel_rfl) (by simp) ?_
                  refine (AllReadyIn.cons rfl (fun K hK => ?_) AllReadyIn.nil)
                  go_simp
                  refine hK _ _ ?_
                  clear hK K
                  refine wpAnyIn_done (by kernel_rfl) ?_ _
                  exact hfin _ (set6_comm hgb _ _ _ _ _ _ _ _)
              · go_simp
                refine hK _ _ ?_
                clear hK K
                refine wpAnyIn_ready (rs := [5]) (by kernel_rfl) (by simp) ?_
                refine (AllReadyIn.cons rfl (fun K hK => ?_) AllReadyIn.nil)
                go_simp
                refine hK _ _ ?_
                clear hK K
                refine wpAnyIn_ready (rs := [6]) (by kernel_rfl) (by simp) ?_
                refine (AllReadyIn.cons rfl (fun K hK => ?_) AllReadyIn.nil)
                go_simp
                refine hK _ _ ?_
                clear hK K
                refine wpAnyIn_done (by kernel_rfl) ?_ _
                exact hfin _ (set6_comm hgb _ _ _ _ _ _ _ _)
      · go_simp
        refine hK _ _ ?_
        clear hK K
        refine wpAnyIn_ready (rs := [0, 1]) (by kernel_rfl) (by simp) ?_
        refine (AllReadyIn.cons rfl (fun K hK => ?_) (AllReadyIn.cons rfl (fun K hK => ?_) AllReadyIn.nil))
        · go_simp
          refine hK _ _ ?_
          clear hK K
          refine wpAnyIn_ready (rs := [1, 2]) (by kernel_rfl) (by simp) ?_
          refine (AllReadyIn.cons rfl (fun K hK => ?_) (AllReadyIn.cons rfl (fun K hK => ?_) AllReadyIn.nil))
          · go_simp
            refine hK _ _ ?_
            clear hK K
            refine wpAnyIn_ready (rs := [2]) (by kernel_rfl) (by simp) ?_
            refine (AllReadyIn.cons rfl (fun K hK => ?_) AllReadyIn.nil)
            · go_simp
              refine hK _ _ ?_
              clear hK K
              refine wpAnyIn_ready (rs := [4]) (by kernel_rfl) (by simp) ?_
              refine (AllReadyIn.cons rfl (fun K hK => ?_) AllReadyIn.nil)
              rw [if_pos (by rfl)]
              refine oper_append (.tmp 15) (.tmp 18) 23 rfl w.heap.size 25 i0 _ 6 104 Try.underlying23 hi hz0 hz1 hz2 rfl (by decide) _ pre.length (cellsN pre) rfl (HrY.out.alloc _) ⟨Y.heap.size, 0, none⟩ 1 1 [.int .i64 0, .int .i64 0, .string ⟨#[]⟩, .slice none 0 0, .slice none 0 0, .slice none 0 0] rfl rfl (new_cells Y #[.int .i64 0, .int .i64 0, .string ⟨#[]⟩, .slice none 0 0, .slice none 0 0, .slice none 0 0] 25) (by simp [Value.oneCell']) (by simp only [maxLen]; omega) (by omega) (by simp; omega) ?_
              intro v' w1 hown' hgrow hat
              obtain ⟨g, cap, rfl⟩ := ownsRow_succ hown'
              obtain ⟨t0, t1, hfin, hgb, hrc, hrf, hgl, hbl1⟩ := row_facts HI hm1 HvY.out HrY.out HbY.out hsW hown' hgrow hat x Hend.out
              obtain ⟨r0, r1, r2, r3, r4, r5⟩ := hrc
              obtain ⟨q0, q1, q2, q3, q4, q5⟩ := hrf
              have i0' : (0 : Int) ≤ (pre.length : Int) := Int.natCast_nonneg _
              have i1' : (pre.length : Int) < (pre.length : Int) + 1 := by omega
              refine hK _ _ ?_
              clear hK K hown' hgrow hat d5 e5 z0 z1 z2 z3 z4 z5
              simp only [Act.put, List.setIfInBounds_toArray, List.set_cons_zero, List.set_cons_succ]
              refine wpAnyIn_ready (rs := [5, 7]) (by kernel_rfl) (by simp) ?_
              refine (AllReadyIn.cons rfl (fun K hK => ?_) (AllReadyIn.cons rfl (fun K hK => ?_) AllReadyIn.nil))
              · go_simp
                refine hK _ _ ?_
                clear hK K
                refine wpAnyIn_ready (rs := [6, 7]) (by kernel_rfl) (by simp) ?_
                refine (AllReadyIn.cons rfl (fun K hK => ?_) (AllReadyIn.cons rfl (fun K hK => ?_) AllReadyIn.nil))
                · go_simp
                  refine hK _ _ ?_
                  clear hK K
                  refine wpAnyIn_ready (rs := [7]) (by kernel_rfl) (by simp) ?_
                  refine (AllReadyIn.cons rfl (fun K hK => ?_) AllReadyIn.nil)
                  go_simp
                  refine hK _ _ ?_
                  clear hK K
                  refine wpAnyIn_done (by kernel_rfl) ?_ _
                  exact hfin _ rfl
                · go_simp
                  refine hK _ _ ?_
                  clear hK K
                  refine wpAnyIn_ready (rs := [6]) (by kernel_rfl) (by simp) ?_
                  refine (AllReadyIn.cons rfl (fun K hK => ?_) AllReadyIn.nil)
                  go_simp
                  refine hK _ _ ?_
                  clear hK K
                  refine wpAnyIn_done (by kernel_rfl) ?_ _
                  exact hfin _ (set6_comm hgb _ _ _ _ _ _ _ _)
              · go_simp
                refine hK _ _ ?_
                clear hK K
                refine wpAnyIn_ready (rs := [5]) (by kernel_rfl) (by simp) ?_
                refine (AllReadyIn.cons rfl (fun K hK => ?_) AllReadyIn.nil)
                go_simp
                refine hK _ _ ?_
                clear hK K
                refine wpAnyIn_ready (rs := [6]) (by kernel_rfl) (by simp) ?_
                refine (AllReadyIn.cons rfl (fun K hK => ?_) AllReadyIn.nil)
                go_simp
                refine hK _ _ ?_
                clear hK K
                refine wpAnyIn_done (by kernel_rfl) ?_ _
                exact hfin _ (set6_comm hgb _ _ _ _ _ _ _ _)
          · go_simp
            refine hK _ _ ?_
            clear hK K
            refine wpAnyIn_ready (rs := [1]) (by kernel_rfl) (by simp) ?_
            refine (AllReadyIn.cons rfl (fun K hK => ?_) AllReadyIn.nil)
            · go_simp
              refine hK _ _ ?_
              clear hK K
              refine wpAnyIn_ready (rs := [4]) (by kernel_rfl) (by simp) ?_
              refine (AllReadyIn.cons rfl (fun K hK => ?_) AllReadyIn.nil)
              rw [if_pos (by rfl)]
              refine oper_append (.tmp 15) (.tmp 18) 23 rfl w.heap.size 25 i0 _ 6 104 Try.underlying23 hi hz0 hz1 hz2 rfl (by decide) _ pre.length (cellsN pre) rfl (HrY.out.alloc _) ⟨Y.heap.size, 0, none⟩ 1 1 [.int .i64 0, .int .i64 0, .string ⟨#[]⟩, .slice none 0 0, .slice none 0 0, .slice none 0 0] rfl rfl (new_cells Y #[.int .i64 0, .int .i64 0, .string ⟨#[]⟩, .slice none 0 0, .slice none 0 0, .slice none 0 0] 25) (by simp [Value.oneCell']) (by simp only [maxLen]; omega) (by omega) (by simp; omega) ?_
              intro v' w1 hown' hgrow hat
              obtain ⟨g, cap, rfl⟩ := ownsRow_succ hown'
              obtain ⟨t0, t1, hfin, hgb, hrc, hrf, hgl, hbl1⟩ := row_facts HI hm1 HvY.out HrY.out HbY.out hsW hown' hgrow hat x Hend.out
              obtain ⟨r0, r1, r2, r3, r4, r5⟩ := hrc
              obtain ⟨q0, q1, q2, q3, q4, q5⟩ := hrf
              have i0' : (0 : Int) ≤ (pre.length : Int) := Int.natCast_nonneg _
              have i1' : (pre.length : Int) < (pre.length : Int) + 1 := by omega
              refine hK _ _ ?_
              clear hK K hown' hgrow hat d5 e5 z0 z1 z2 z3 z4 z5
              simp only [Act.put, List.setIfInBounds_toArray, List.set_cons_zero, List.set_cons_succ]
              refine wpAnyIn_ready (rs := [5, 7]) (by kernel_rfl) (by simp) ?_
              refine (AllReadyIn.cons rfl (fun K hK => ?_) (AllReadyIn.cons rfl (fun K hK => ?_) AllReadyIn.nil))
              · go_simp
                refine hK _ _ ?_
                clear hK K
                refine wpAnyIn_ready (rs := [6, 7]) (by kernel_rfl) (by simp) ?_
                refine (AllReadyIn.cons rfl (fun K hK => ?_) (AllReadyIn.cons rfl (fun K hK => ?_) AllReadyIn.nil))
                · go_simp
                  refine hK _ _ ?_
                  clear hK K
                  refine wpAnyIn_ready (rs := [7]) (by kernel_rfl) (by simp) ?_
                  refine (AllReadyIn.cons rfl (fun K hK => ?_) AllReadyIn.nil)
                  go_simp
                  refine hK _ _ ?_
                  clear hK K
                  refine wpAnyIn_done (by kernel_rfl) ?_ _
                  exact hfin _ rfl
                · go_simp
                  refine hK _ _ ?_
                  clear hK K
                  refine wpAnyIn_ready (rs := [6]) (by kernel_rfl) (by simp) ?_
                  refine (AllReadyIn.cons rfl (fun K hK => ?_) AllReadyIn.nil)
                  go_simp
                  refine hK _ _ ?_
                  clear hK K
                  refine wpAnyIn_done (by kernel_rfl) ?_ _
                  exact hfin _ (set6_comm hgb _ _ _ _ _ _ _ _)
              · go_simp
                refine hK _ _ ?_
                clear hK K
                refine wpAnyIn_ready (rs := [5]) (by kernel_rfl) (by simp) ?_
                refine (AllReadyIn.cons rfl (fun K hK => ?_) AllReadyIn.nil)
                go_simp
                refine hK _ _ ?_
                clear hK K
                refine wpAnyIn_ready (rs := [6]) (by kernel_rfl) (by simp) ?_
                refine (AllReadyIn.cons rfl (fun K hK => ?_) AllReadyIn.nil)
                go_simp
                refine hK _ _ ?_
                clear hK K
                refine wpAnyIn_done (by kernel_rfl) ?_ _
                exact hfin _ (set6_comm hgb _ _ _ _ _ _ _ _)
        · go_simp
          refine hK _ _ ?_
          clear hK K
          refine wpAnyIn_ready (rs := [0]) (by kernel_rfl) (by simp) ?_
          refine (AllReadyIn.cons rfl (fun K hK => ?_) AllReadyIn.nil)
          · go_simp
            refine hK _ _ ?_
            clear hK K
            refine wpAnyIn_ready (rs := [2]) (by kernel_rfl) (by simp) ?_
            refine (AllReadyIn.cons rfl (fun K hK => ?_) AllReadyIn.nil)
            · go_simp
              refine hK _ _ ?_
              clear hK K
              refine wpAnyIn_ready (rs := [4]) (by kernel_rfl) (by simp) ?_
              refine (AllReadyIn.cons rfl (fun K hK => ?_) AllReadyIn.nil)
              rw [if_pos (by rfl)]
              refine oper_append (.tmp 15) (.tmp 18) 23 rfl w.heap.size 25 i0 _ 6 104 Try.underlying23 hi hz0 hz1 hz2 rfl (by decide) _ pre.length (cellsN pre) rfl (HrY.out.alloc _) ⟨Y.heap.size, 0, none⟩ 1 1 [.int .i64 0, .int .i64 0, .string ⟨#[]⟩, .slice none 0 0, .slice none 0 0, .slice none 0 0] rfl rfl (new_cells Y #[.int .i64 0, .int .i64 0, .string ⟨#[]⟩, .slice none 0 0, .slice none 0 0, .slice none 0 0] 25) (by simp [Value.oneCell']) (by simp only [maxLen]; omega) (by omega) (by simp; omega) ?_
              intro v' w1 hown' hgrow hat
              obtain ⟨g, cap, rfl⟩ := ownsRow_succ hown'
              obtain ⟨t0, t1, hfin, hgb, hrc, hrf, hgl, hbl1⟩ := row_facts HI hm1 HvY.out HrY.out HbY.out hsW hown' hgrow hat x Hend.out
              obtain ⟨r0, r1, r2, r3, r4, r5⟩ := hrc
              obtain ⟨q0, q1, q2, q3, q4, q5⟩ := hrf
              have i0' : (0 : Int) ≤ (pre.length : Int) := Int.natCast_nonneg _
              have i1' : (pre.length : Int) < (pre.length : Int) + 1 := by omega
              refine hK _ _ ?_
              clear hK K hown' hgrow hat d5 e5 z0 z1 z2 z3 z4 z5
              simp only [Act.put, List.setIfInBounds_toArray, List.set_cons_zero, List.set_cons_succ]
              refine wpAnyIn_ready (rs := [5, 7]) (by kernel_rfl) (by simp) ?_
              refine (AllReadyIn.cons rfl (fun K hK => ?_) (AllReadyIn.cons rfl (fun K hK => ?_) AllReadyIn.nil))
              · go_simp
                refine hK _ _ ?_
                clear hK K
                refine wpAnyIn_ready (rs := [6, 7]) (by kernel_rfl) (by simp) ?_
                refine (AllReadyIn.cons rfl (fun K hK => ?_) (AllReadyIn.cons rfl (fun K hK => ?_) AllReadyIn.nil))
                · go_simp
                  refine hK _ _ ?_
                  clear hK K
                  refine wpAnyIn_ready (rs := [7]) (by kernel_rfl) (by simp) ?_
                  refine (AllReadyIn.cons rfl (fun K hK => ?_) AllReadyIn.nil)
                  go_simp
                  refine hK _ _ ?_
                  clear hK K
                  refine wpAnyIn_done (by kernel_rfl) ?_ _
                  exact hfin _ rfl
                · go_simp
                  refine hK _ _ ?_
                  clear hK K
                  refine wpAnyIn_ready (rs := [6]) (by kernel_rfl) (by simp) ?_
                  refine (AllReadyIn.cons rfl (fun K hK => ?_) AllReadyIn.nil)
                  go_simp
                  refine hK _ _ ?_
                  clear hK K
                  refine wpAnyIn_done (by kernel_rfl) ?_ _
                  exact hfin _ (set6_comm hgb _ _ _ _ _ _ _ _)
              · go_simp
                refine hK _ _ ?_
                clear hK K
                refine wpAnyIn_ready (rs := [5]) (by kernel_rfl) (by simp) ?_
                refine (AllReadyIn.cons rfl (fun K hK => ?_) AllReadyIn.nil)
                go_simp
                refine hK _ _ ?_
                clear hK K
                refine wpAnyIn_ready (rs := [6]) (by kernel_rfl) (by simp) ?_
                refine (AllReadyIn.cons rfl (fun K hK => ?_) AllReadyIn.nil)
                go_simp
                refine hK _ _ ?_
                clear hK K
                refine wpAnyIn_done (by kernel_rfl) ?_ _
                exact hfin _ (set6_comm hgb _ _ _ _ _ _ _ _)
    · have dm : decide ((pre.length : Int) ≥ (m : Int)) = true := decide_eq_true (by omega)
      obtain rfl : pre.length = m := by omega
      gi_wp2_with fail
      exact ⟨KeepsFrom.refl _ _, Rg.Kp.refl _ _, pre, ⟨rfl, rfl, x, rfl⟩, by rw [HI.out]; exact ⟨⟨⟨_, Hv.out, Hrow.out, trivial⟩, Hbm.out⟩, Nat.le_refl _, HW.out⟩⟩
  case done =>
    rw [hIdef]
    rintro D ys W hD hS ⟨⟨⟨v, hv, hrow, _⟩, hbm⟩, hle, hB1⟩ hK
    have c5 := hv.cell
    gi_wp2_with fail
    refine ⟨by simp, .inl ⟨_, _, rfl, run_takeDeferred hK, ?_⟩⟩
    obtain ⟨va, vc, rfl⟩ := own_slice hrow
    obtain ⟨hS1, hS2⟩ := SAll.own (B0 := w.heap.size + 1 + 1) (by omega) ds ys W (W.putObj D (.deferred none)) (some D) hS (grownBy_putObj' W D _) (fun r e => by cases e; exact ⟨by omega, _, hK, rfl⟩)
    exact ⟨_, results_tmp rfl _ _ _, ys, va, vc, rfl, hB1.trans (belowK_b (w := w) (Nat.le_refl _) W D _ _ (by omega) hK rfl rfl), ownsRow_putObj hrow _ hK rfl, by rw [hS1, List.take_of_length_le (by rw [← hS1, List.length_map]; exact hle)], fun y hy => (hS2.2 y hy).more (fun g hg => hg.1)⟩
  case stop =>
    rw [hIdef]
    rintro D c pre W hD hS ⟨pre', ⟨rfl, hpl, x, rfl⟩, ⟨⟨⟨v, hv, hrow, _⟩, hbm⟩, hle, hB1⟩⟩ hK
    have c5 := hv.cell
    gi_wp2_with fail
    refine ⟨by simp, .inl ⟨_, _, rfl, run_takeDeferred hK, ?_⟩⟩
    obtain ⟨va, vc, rfl⟩ := own_slice hrow
    obtain ⟨hS1, hS2⟩ := SPart.own (B0 := w.heap.size + 1 + 1) (by omega) ds (pre' ++ [x]) W (W.putObj D (.deferred none)) (some D) hS (grownBy_putObj' W D _) (fun r e => by cases e; exact ⟨by omega, _, hK, rfl⟩)
    have hpt : pre'.map Ne.d = ds.take m := by
      obtain ⟨r, hr⟩ := hS1
      rw [← hr, List.map_append, List.append_assoc, ← hpl, ← List.length_map (f := Ne.d), List.take_left']
      rfl
    exact ⟨_, results_tmp rfl _ _ _, pre', va, vc, rfl, hB1.trans (belowK_b (w := w) (Nat.le_refl _) W D _ _ (by omega) hK rfl rfl), ownsRow_putObj hrow _ hK rfl, hpt, fun y hy => (hS2.2 y (List.mem_append_left _ hy)).more (fun g hg => hg.1)⟩
end Go.Proofs.Yteddfdhbpgbloaa.Da
end
section
namespace Go.Proofs.Yteddfdhbpgbloaa.Da
open Go.ChangeShapes Go.WideShapes Go.ChangeAt Go.RowKit Go.Shelf
set_option linter.unusedVariables false

theorem cntL_in {x : Dt} : ∀ {l : List Dt}, x ∈ l → cnt x ≤ cntL l
  | [], h => by cases h
  | y :: r, h => by
    simp only [cntL]
    rcases List.mem_cons.1 h with rfl | h
    · omega
    · have := cntL_in h; omega
theorem mem_nodesL' {y : Dt × Nat} : ∀ {l : List Dt} {i : Nat}, y ∈ nodesL l i → ∃ d ∈ l, y ∈ nodes d i
  | [], i, h => by rw [nodesL_nil] at h; cases h
  | d :: r, i, h => by
    rw [nodesL_cons, List.mem_append] at h
    rcases h with h | h
    · exact ⟨d, List.mem_cons_self .., h⟩
    · obtain ⟨x, h1, h2⟩ := mem_nodesL' h
      exact ⟨x, List.mem_cons_of_mem _ h1, h2⟩
theorem nodes_cnt (d : Dt) : ∀ (i : Nat) (x : Dt × Nat), x ∈ nodes d i → cnt x.1 ≤ cnt d := by
  induction d using Dt.ind with | h k n s m l t ihl iht =>
  intro i x hx
  rw [nodes_eq] at hx
  rcases List.mem_cons.1 hx with rfl | hx
  · exact Nat.le_refl _
  · rw [cnt_eq (.mk k n s m l t)]
    rcases List.mem_append.1 hx with hx | hx
    · obtain ⟨y, h1, h2⟩ := mem_nodesL' hx
      have := ihl y h1 _ _ h2
      have := cntL_in h1
      simp only [Dt.L] at *
      omega
    · obtain ⟨y, h1, h2⟩ := mem_nodesL' hx
      have := iht y h1 _ _ h2
      have := cntL_in h1
      simp only [Dt.T] at *
      omega
theorem err_deep : ∀ (l : List (Dt × Nat)) (c : Nat), errOf c l = 0 → ∀ x ∈ l, x.2 ≤ 64
  | [], _, _, x, hx => by cases hx
  | y :: r, c, h, x, hx => by
    rw [errOf] at h
    by_cases h0 : mErr c y.1 y.2 = 0
    · rw [if_pos h0] at h
      rcases List.mem_cons.1 hx with rfl | hx
      · exact (mErr_zero h0).1
      · exact err_deep r _ h x hx
    · rw [if_neg h0] at h; exact absurd h h0
theorem few_of {d : Dt} (h : chk d = 0) : ∀ x ∈ nodes d 1, Few x := fun x hx => ⟨Nat.le_trans (nodes_cnt d 1 x hx) (chk_cnt h), err_deep _ 0 (chk_zero.1 h) x hx⟩
/-- The iterator's value. -/
def AllRes (d : Dt) (w : World) (e : Ending) (w' : World) : Prop :=
  Below w.heap.size w w' ∧ ((chk d ≠ 0 ∧ e = .returned (.func (.func 38) #[] #[])) ∨
    (chk d = 0 ∧ ∃ g am al at_ cm cl ct, e = .returned (.func (.func 40) #[] #[.pointer (some ⟨g, 0, none⟩)]) ∧ w.heap.size ≤ g ∧
      w'.heap[g]? = some (.cells #[.int .i64 d.K, .int .i64 d.N, .string d.S, .slice am d.M.length cm, .slice al d.L.length cl, .slice at_ d.T.length ct] 25 (0, 0)) ∧
      IsDt w' (fun i => i < w'.heap.size) d (.agg #[.int .i64 d.K, .int .i64 d.N, .string d.S, .slice am d.M.length cm, .slice al d.L.length cl, .slice at_ d.T.length ct])))
set_option maxHeartbeats 2000000 in
theorem all_any (d : Dt) (v : Value) (B : Nat) (w : World) (hd : IsDt w (Lo B) d v) (hB : B ≤ w.heap.size) : Calls Try.prog 12 #[v] w (AllRes d w) := by
  have hd' := hd
  obtain ⟨am, cm, al, cl, at_, ct, rfl, _⟩ := hd'.open_
  have HD := Lib.hid hd
  clear hd hd'
  go_enter Try.func12, Try.ntmps12
  go_wp2_with fail
  have hX : Below w.heap.size w (w.alloc (.cells #[.int .i64 d.K, .int .i64 d.N, .string d.S, .slice am d.M.length cm, .slice al d.L.length cl, .slice at_ d.T.length ct] 25)) := bel_alloc _ _
  have hblk := heap_alloc_new w (.cells #[.int .i64 d.K, .int .i64 d.N, .string d.S, .slice am d.M.length cm, .slice al d.L.length cl, .slice at_ d.T.length ct] 25)
  refine (check_any d _ B _ (by exact HD.out.below (hX.mono hB)) (by simp; omega)).mono ?_
  rintro e w1 ⟨rfl, hb1⟩
  have hb01 := bel_trans hX hb1
  have hblk1 := (hb1.block w.heap.size (by simp)).trans hblk
  have c0 : w1.cell? ⟨w.heap.size, 0, none⟩ = some (.int .i64 d.K) := by rw [World.cell?, hblk1]; rfl
  have c1 : w1.cell? ⟨w.heap.size, 1, none⟩ = some (.int .i64 d.N) := by rw [World.cell?, hblk1]; rfl
  have c2 : w1.cell? ⟨w.heap.size, 2, none⟩ = some (.string d.S) := by rw [World.cell?, hblk1]; rfl
  have c3 : w1.cell? ⟨w.heap.size, 3, none⟩ = some (.slice am d.M.length cm) := by rw [World.cell?, hblk1]; rfl
  have c4 : w1.cell? ⟨w.heap.size, 4, none⟩ = some (.slice al d.L.length cl) := by rw [World.cell?, hblk1]; rfl
  have c5 : w1.cell? ⟨w.heap.size, 5, none⟩ = some (.slice at_ d.T.length ct) := by rw [World.cell?, hblk1]; rfl
  have hlt := (Array.getElem?_eq_some_iff.1 hblk1).1
  have HB1 := Lib.hid hb01
  obtain ⟨c, hc⟩ : ∃ c, chk d = c := ⟨_, rfl⟩
  have HC := Lib.hid hc
  rw [hc]
  clear hX hblk hb1 hb01 hblk1 hc
  by_cases h0 : c = 0
  · subst h0
    go_wp2_with fail
    refine (own_any d _ B _ (HD.out.below (HB1.out.mono hB)) (Nat.le_trans hB HB1.out.size)).mono ?_
    rintro e w2 ⟨v2, rfl, hb2, _, hown⟩
    have hv2 := (hown (chk_cnt HC.out)).isDt d _ _ _
    obtain ⟨am2, cm2, al2, cl2, at2, ct2, rfl, _⟩ := hv2.open_
    have HV2 := Lib.hid hv2
    have HB2 := Lib.hid (HB1.out.trans (hb2.mono HB1.out.size))
    clear hb2 hown hv2 c0 c1 c2 c3 c4 c5
    go_wp2_with fail
    go_ret
    refine ⟨HB2.out.alloc HB2.out.size _, .inr ⟨HC.out, w2.heap.size, am2, al2, at2, cm2, cl2, ct2, rfl, HB2.out.size, heap_alloc_new w2 _, ?_⟩⟩
    refine IsDt.keep2 (fun i hi => ?_) (fun i o u hi hu => ?_) d _ HV2.out
    · have h1 := hi.2; simp; omega
    · exact (Below.cell (B := w2.heap.size) (bel_alloc w2 _) (p := ⟨i, o, none⟩) hi.2).trans hu
  · have hne : (c != 0) = true := by simp [h0]
    have H0 := Lib.hid h0
    clear h0
    go_wp2_with fail
    go_ret
    exact ⟨HB1.out, .inl ⟨by rw [HC.out]; exact H0.out, rfl⟩⟩
set_option maxHeartbeats 2000000 in
theorem all1_comes (n b : Nat) (w : World) (hb : b < w.heap.size) : Rg.Comes n Try.prog 38 #[] (fun x : Ne => #[x.v]) (Rg.Kp b) (SAll b []) (SPart b []) w := by
  intro l J Jx W hW hJ hJx hY h0
  have H0 := Lib.hid h0
  have hbW := Nat.lt_of_lt_of_le hb hW.size
  clear h0 hY hJx hJ
  refine callsIn_wide.2 ?_
  simp only [List.append_toArray, List.append_nil]
  go_enter Try.func38, Try.ntmps38
  go_wp2_with fail
  go_end0
  exact ⟨⟨_, rfl⟩, .inl ⟨[], ⟨rfl, hbW, fun y hy => by cases hy⟩, H0.out⟩⟩
/-- What is collected of an iterator's value. -/
def PartsR (B : Nat) (ds : List Dt) (w : World) (e : Ending) (w' : World) : Prop :=
  ∃ (ys : List Ne) (a : Option Addr) (c : Nat), e = .returned (.slice a ys.length c) ∧ Below w.heap.size w w' ∧ w'.ownsRow w.heap.size 25 6 (.slice a ys.length c) ys.length (cellsN ys) ∧ ys.map Ne.d = ds ∧ ∀ y ∈ ys, IsDt w' (Lo w'.heap.size) y.d y.v
theorem told_none (m : Nat) (hm : m ≤ 1048576) (w : World) :
    Calls Try.prog 11 #[.func (.func 38) #[] #[], .int .i64 (m : Int)] w (PartsR w.heap.size [] w) := by
  have h := dtold 38 #[] m hm w [] (fun _ => by kernel_rfl) (enters_of Try.func38 (by kernel_rfl) rfl) (fun X hX hn hs => all1_comes _ _ X (by omega))
  refine h.mono fun e w' ⟨ys, a, c, h1, h2, h3, h4, h5⟩ => ⟨ys, a, c, h1, h2, h3, by rw [h4, List.take_nil], h5⟩
theorem told_all (m : Nat) (hm : m ≤ 1048576) (w : World) (d : Dt) (g : Nat) (am al at_ : Option Addr) (cm cl ct : Nat) (h0 : chk d = 0)
    (hg : w.heap[g]? = some (.cells #[.int .i64 d.K, .int .i64 d.N, .string d.S, .slice am d.M.length cm, .slice al d.L.length cl, .slice at_ d.T.length ct] 25 (0, 0)))
    (hd : IsDt w (fun i => i < w.heap.size) d (.agg #[.int .i64 d.K, .int .i64 d.N, .string d.S, .slice am d.M.length cm, .slice al d.L.length cl, .slice at_ d.T.length ct])) :
    Calls Try.prog 11 #[.func (.func 40) #[] #[.pointer (some ⟨g, 0, none⟩)], .int .i64 (m : Int)] w (PartsR w.heap.size (((partsD d).map Prod.fst).take m) w) := by
  have hglt : g < w.heap.size := (Array.getElem?_eq_some_iff.1 hg).1
  have h := dtold 40 #[.pointer (some ⟨g, 0, none⟩)] m hm w ((partsD d).map Prod.fst) (fun _ => by kernel_rfl) (enters_of Try.func40 (by kernel_rfl) rfl) (fun X hX hn hs => by
    have hb : w.heap.size + 1 < X.heap.size := by omega
    have hp : partsD d = nodes d 1 := by unfold partsD; rw [if_pos h0]
    rw [hp]
    refine all2_comes _ _ g d _ X hb hn (Rg.Sf.nil (by omega) (by omega) hn) (Lib.hid (few_of h0)) (IsDt.keep2 (fun i hi => Rg.Sf.nil (by have h1 : i < w.heap.size := hi; omega) (by have h1 : i < w.heap.size := hi; omega) hn) (fun i o u hi hu => (hX.cell (p := ⟨i, o, none⟩) hi).trans hu) d _ hd) am al at_ cm cl ct rfl ((hX.block g hglt).trans hg))
  exact h
end Go.Proofs.Yteddfdhbpgbloaa.Da
end
