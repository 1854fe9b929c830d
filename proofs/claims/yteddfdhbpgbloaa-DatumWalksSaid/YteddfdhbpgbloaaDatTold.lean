/- The parts of a datum, as far as one goes through them: the program's All, and what the law collects of it. -/
import Derived.Test.YteddfdhbpgbloaaDatIter
import Derived.Test.YteddfdhbpgbloaaDatConsMath
import Derived.Deep.Cut
namespace Go.Proofs.Yteddfdhbpgbloaa.Da
open Go.ChangeShapes Go.WideShapes Go.ChangeAt Go.RowKit Go.Shelf
set_option linter.unusedVariables false

def DoneK (b : Nat) (JJ JJx : List Ne → World → Prop) (d : Dt) (w : World) (e : Ending) (w' : World) : Prop :=
  (∃ v, e = .returned v) ∧ Rg.Kp b w w' ∧ (JD b JJ (nodes d 1) w' ∨ ∃ q, q <+: nodes d 1 ∧ JD b JJx q w')
set_option maxHeartbeats 2000000 in
theorem walk_all (b by_ l B0 : Nat) (JJ JJx : List Ne → World → Prop) (hJ : Hid (AbidesFrom B0 JJ))
    (hY : Hid (∀ m pre x W1, JJ pre W1 → YieldAt Fence.wide m Try.prog l #[x.v] W1 fun e W' => (e = .returned (.bool true) ∧ JJ (pre ++ [x]) W' ∧ Rg.Kp b W1 W') ∨ (e = .returned (.bool false) ∧ JJx (pre ++ [x]) W' ∧ Rg.Kp b W1 W')))
    (d : Dt) (v : Value) (w : World) (hwf : Rg.Wf b w) (hb : b < w.heap.size) (hsy : Rg.Sf b w by_) (hcy : w.cell? ⟨by_, 0, none⟩ = some (.func (.yield l) #[] #[])) (hN : ∀ x ∈ nodes d 1, Few x) (hd : IsDt w (Rg.Sf b w) d v) (hj : JD b JJ [] w) :
    Calls Try.prog 41 #[v, .func (.func 42) #[] #[.pointer (some ⟨by_, 0, none⟩)]] w (DoneK b JJ JJx d w) := by
  have hd' := hd
  obtain ⟨am, cm, al, cl, at_, ct, rfl, _⟩ := hd'.open_
  have HD := Lib.hid hd
  have HN := Lib.hid hN
  have Hj := Lib.hid hj
  clear hd hd' hN hj
  go_enter Try.func41, Try.ntmps41
  go_wp2_with fail
  obtain ⟨X, hX⟩ : ∃ X, (((w.alloc (.cells #[.int .i64 d.K, .int .i64 d.N, .string d.S, .slice am d.M.length cm, .slice al d.L.length cl, .slice at_ d.T.length ct] 25)).alloc (.cells #[.func (.func 42) #[] #[.pointer (some ⟨by_, 0, none⟩)]] 68)).alloc
      (.cells #[.func (.func 76) #[] #[.pointer (some ⟨w.heap.size + 1, 0, none⟩), .pointer (some ⟨w.heap.size + 1 + 1, 0, none⟩)]] 68)) = X := ⟨_, rfl⟩
  have hbel : Below w.heap.size w X := by rw [← hX]; exact (((Below.refl _ _).alloc (Nat.le_refl _) _).alloc (by simp) _).alloc (by simp; omega) _
  have hsz : X.heap.size = w.heap.size + 1 + 1 + 1 := by rw [← hX]; simp
  have cs : X.cell? ⟨w.heap.size + 1, 0, none⟩ = some (.func (.func 42) #[] #[.pointer (some ⟨by_, 0, none⟩)]) := by rw [← hX]; simp [go_sem]
  have cv : X.cell? ⟨w.heap.size + 1 + 1, 0, none⟩ = some (.func (.func 76) #[] #[.pointer (some ⟨w.heap.size + 1, 0, none⟩), .pointer (some ⟨w.heap.size + 1 + 1, 0, none⟩)]) := by rw [← hX]; simp [go_sem]
  rw [hX]
  clear hX
  have hK := Rg.Kp.below hb hbel
  have hI : It b by_ (w.heap.size + 1) l X := ⟨hwf.kp hK, by omega, hsy.kp hK, Rg.Sf.new hwf hb hbel (by omega) (by omega), Rg.Sf.new hwf hb hbel (by omega) (by omega), hK.cell hsy hcy, cs, cv⟩
  refine (visit_all b by_ (w.heap.size + 1) l B0 JJ JJx hJ hY d 1 1 _ [] X rfl HN.out hI (Hj.out.abide hJ.out hb hbel) (HD.out.sf hK)).mono ?_
  rintro e w2 ⟨hK2, ⟨rfl, h2⟩ | ⟨rfl, q, hq, h2⟩⟩
  · have H2 := Lib.hid h2
    have HK2 := Lib.hid (hK.trans hK2)
    clear h2 hK2 hK hI cs cv
    go_wp2_with fail
    go_end0
    exact ⟨⟨_, rfl⟩, HK2.out, .inl H2.out⟩
  · have H2 := Lib.hid (And.intro hq h2)
    have HK2 := Lib.hid (hK.trans hK2)
    clear h2 hK2 hK hI cs cv hq
    go_wp2_with fail
    go_end0
    exact ⟨⟨_, rfl⟩, HK2.out, .inr ⟨q, H2.out⟩⟩
/-- What comes of the iterator, where it is known. -/
def SAll (b : Nat) (ds : List Dt) (ys : List Ne) (W : World) : Prop := ys.map Ne.d = ds ∧ b < W.heap.size ∧ ∀ y ∈ ys, IsDt W (Rg.Sf b W) y.d y.v
def SPart (b : Nat) (ds : List Dt) (ys : List Ne) (W : World) : Prop := ys.map Ne.d <+: ds ∧ b < W.heap.size ∧ ∀ y ∈ ys, IsDt W (Rg.Sf b W) y.d y.v
theorem rows_own {b B0 : Nat} (hB : b < B0) {ys : List Ne} {W W' : World} {row : Option Nat} (h : b < W.heap.size ∧ ∀ y ∈ ys, IsDt W (Rg.Sf b W) y.d y.v) (hg : W.grownBy W' row) (hr : ∀ r, row = some r → B0 ≤ r ∧ ∃ o : Obj, W.heap[r]? = some o ∧ o.isCells = false) : b < W'.heap.size ∧ ∀ y ∈ ys, IsDt W' (Rg.Sf b W') y.d y.v := by
  have hK : Rg.Kp b W W' := Rg.Kp.grown h.1 hg (fun r e => by
    obtain ⟨h1, o2, h2, h3⟩ := hr r e
    exact ⟨by omega, fun o3 h4 => by rw [h2] at h4; cases h4; exact h3⟩)
  exact ⟨Nat.lt_of_lt_of_le h.1 hK.size, fun y hy => (h.2 y hy).sf hK⟩
theorem SAll.own {b B0 : Nat} (hB : b < B0) (ds : List Dt) : OwnFrom B0 (SAll b ds) := fun s A B row hs hg hr => ⟨hs.1, rows_own hB hs.2 hg hr⟩
theorem SPart.own {b B0 : Nat} (hB : b < B0) (ds : List Dt) : OwnFrom B0 (SPart b ds) := fun s A B row hs hg hr => ⟨hs.1, rows_own hB hs.2 hg hr⟩
set_option maxHeartbeats 2000000 in
theorem all2_comes (n b g : Nat) (d : Dt) (v : Value) (w : World) (hb : b < w.heap.size) (hnil : w.cell? ⟨b, 0, none⟩ = some (.slice none 0 0)) (hg : Rg.Sf b w g) (hN : Hid (∀ x ∈ nodes d 1, Few x)) (hd : IsDt w (Rg.Sf b w) d v)
    (am al at_ : Option Addr) (cm cl ct : Nat) (hv : v = .agg #[.int .i64 d.K, .int .i64 d.N, .string d.S, .slice am d.M.length cm, .slice al d.L.length cl, .slice at_ d.T.length ct])
    (hc : w.heap[g]? = some (.cells #[.int .i64 d.K, .int .i64 d.N, .string d.S, .slice am d.M.length cm, .slice al d.L.length cl, .slice at_ d.T.length ct] 25 (0, 0))) :
    Rg.Comes n Try.prog 40 #[.pointer (some ⟨g, 0, none⟩)] (fun x : Ne => #[x.v]) (Rg.Kp b) (SAll b ((nodes d 1).map Prod.fst)) (SPart b ((nodes d 1).map Prod.fst)) w := by
  intro l J Jx W hW hJ hJx hY h0
  subst hv
  have hK := Rg.Kp.below hb hW
  have hwf := (Rg.Wf.nil hb hnil).kp hK
  have hbW : b < W.heap.size := Nat.lt_of_lt_of_le hb hW.size
  have hblk := hK.block' hg hc rfl
  have c0 : W.cell? ⟨g, 0, none⟩ = some (.int .i64 d.K) := by rw [World.cell?, hblk]; rfl
  have c1 : W.cell? ⟨g, 1, none⟩ = some (.int .i64 d.N) := by rw [World.cell?, hblk]; rfl
  have c2 : W.cell? ⟨g, 2, none⟩ = some (.string d.S) := by rw [World.cell?, hblk]; rfl
  have c3 : W.cell? ⟨g, 3, none⟩ = some (.slice am d.M.length cm) := by rw [World.cell?, hblk]; rfl
  have c4 : W.cell? ⟨g, 4, none⟩ = some (.slice al d.L.length cl) := by rw [World.cell?, hblk]; rfl
  have c5 : W.cell? ⟨g, 5, none⟩ = some (.slice at_ d.T.length ct) := by rw [World.cell?, hblk]; rfl
  have hgW := (hg.kp hK).1
  have HD := Lib.hid (hd.sf hK)
  have HJ := Lib.hid hJ
  have H0 := Lib.hid h0
  have HY : Hid (∀ m pre x W1, J pre W1 → YieldAt Fence.wide m Try.prog l #[x.v] W1 fun e W' => (e = .returned (.bool true) ∧ J (pre ++ [x]) W' ∧ Rg.Kp b W1 W') ∨ (e = .returned (.bool false) ∧ Jx (pre ++ [x]) W' ∧ Rg.Kp b W1 W')) := fun m pre x W1 hj => Rg.anyDepth m (hY pre x W1 hj)
  have Hwf := Lib.hid hwf
  clear hd hJ hJx hY h0 hc hblk hK hg hnil hwf
  refine callsIn_wide.2 ?_
  simp only [List.append_toArray, List.cons_append, List.nil_append]
  go_enter Try.func40, Try.ntmps40
  go_wp2_with fail
  have hba : Below W.heap.size W (W.alloc (.cells #[.func (.yield l) #[] #[]] 27)) := bel_alloc _ _
  have hka := Rg.Kp.below hbW hba
  have hj0 : JD b J [] (W.alloc (.cells #[.func (.yield l) #[] #[]] 27)) := ⟨[], rfl, HJ.out [] _ _ none H0.out (Rg.grown_of_below hba) (fun r e => by cases e), fun y hy => by cases hy⟩
  refine (walk_all b W.heap.size l W.heap.size J Jx HJ HY d _ _ (Hwf.out.kp hka) (by simp; omega) (Rg.Sf.new Hwf.out hbW hba (Nat.le_refl _) (by simp)) (by simp [go_sem]) hN.out (HD.out.sf hka) hj0).mono ?_
  rintro e w2 ⟨⟨v2, rfl⟩, hK2, h2⟩
  have H2 := Lib.hid h2
  clear h2 hj0 hka hba c0 c1 c2 c3 c4 c5
  go_wp2_with fail
  go_end0
  refine ⟨⟨_, rfl⟩, ?_⟩
  have hb2 : b < w2.heap.size := Nat.lt_of_lt_of_le hbW (Nat.le_trans (by simp) hK2.size)
  rcases H2.out with ⟨ys, h1, h3, h4⟩ | ⟨q, ⟨r, hr⟩, ys, h1, h3, h4⟩
  · exact .inl ⟨ys, ⟨h1, hb2, h4⟩, h3⟩
  · exact .inr ⟨ys, ⟨by rw [h1, ← hr, List.map_append]; exact List.prefix_append _ _, hb2, h4⟩, h3⟩
end Go.Proofs.Yteddfdhbpgbloaa.Da
