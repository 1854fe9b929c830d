/- The words of a text, as far as one goes through them (layer 3). -/
import Derived.Test.YteddfdhbpgbloaaRng
import Derived.Test.YteddfdhbpgbloaaLexSame
namespace Go.Proofs.Yteddfdhbpgbloaa.Lx
open Go.ChangeShapes Go.WideShapes Go.ChangeAt Go.RowKit Go.Shelf
set_option linter.unusedVariables false
attribute [local go_sem] Oper.semAt_some

theorem all_new (s : ByteArray) (w : World) : Calls Try.prog 25 #[.string s] w fun e w' => e = .returned (.func (.func 54) #[] #[.pointer (some ⟨w.heap.size, 0, none⟩)]) ∧ w' = w.alloc (.cells #[.string s] 9) := by
  go_enter Try.func25, Try.ntmps25
  go_wp2_with fail
  go_ret
  exact ⟨rfl, rfl⟩
theorem wordsF_few : ∀ (f : Nat) (l : Bs) (a : Nat) (e : Int) (acc : List Tk), acc.length ≤ 4096 → (wordsF f l a e acc).toks.length ≤ 4096
  | 0, l, a, e, acc, h => by rw [wordsF, finW]; split; exact h; exact Nat.zero_le _
  | f + 1, l, a, e, acc, h => by
    rw [wordsF]
    by_cases hc : a < l.length ∧ e = 0
    · rw [if_pos hc]
      by_cases hf : acc.length = 4096
      · rw [if_pos hf]; exact Nat.zero_le _
      · rw [if_neg hf]
        by_cases he : (scanR (l.drop a)).e = 0
        · rw [if_pos he]; exact wordsF_few f l _ _ _ (by rw [List.length_append]; show acc.length + 1 ≤ 4096; omega)
        · rw [if_neg he]; exact Nat.zero_le _
    · rw [if_neg hc, finW]; split; exact h; exact Nat.zero_le _
theorem words_few (l : Bs) : (wordsR l).toks.length ≤ 4096 := by
  unfold wordsR
  split
  · exact Nat.zero_le _
  · split
    · exact Nat.zero_le _
    · exact wordsF_few _ _ _ _ _ (Nat.zero_le _)
abbrev tkV (x : Tk) : Value := tokV x.k x.a x.z x.n x.S
set_option maxRecDepth 100000 in
set_option maxHeartbeats 4000000 in
theorem all1_in (n l B b : Nat) (hn : 1 ≤ n) (s : ByteArray) (hs : s.size ≤ maxLen) (toks : List Tk) (ht : Hid (∃ p e, wordsR s.data.toList = ⟨toks, p, e⟩)) (J Jx : List Tk → World → Prop) (W : World) (hJ : Hid (AbidesFrom W.heap.size J)) (hnil : W.cell? ⟨b, 0, none⟩ = some (.slice none 0 0)) (hb : b < W.heap.size)
    (hY : ∀ pre x W1, J pre W1 → pre.length < toks.length → YieldAt Fence.wide (n - 1) Try.prog l #[tkV x] W1 fun e W' => (e = .returned (.bool true) ∧ J (pre ++ [x]) W' ∧ Rg.Kp b W1 W') ∨ (e = .returned (.bool false) ∧ Jx (pre ++ [x]) W'))
    (hB : W.cell? ⟨B, 0, none⟩ = some (.string s)) (h0 : J [] W) :
    CallsIn Fence.wide n Try.prog 54 #[.func (.yield l) #[] #[], .pointer (some ⟨B, 0, none⟩)] W fun e W' => (∃ v, e = .returned v) ∧ ((∃ ys, ys = toks ∧ J ys W') ∨ (∃ pre, pre <+: toks ∧ Jx pre W')) := by
  have HW : Hid (∀ w, Calls Try.prog 21 #[.string s] w (WordsP (wordsR s.data.toList) w)) := fun w => words_any s w hs
  have HY := Lib.hid hY
  have H0 := Lib.hid h0
  obtain ⟨p, e, hte⟩ := ht
  have hfew := words_few s.data.toList
  rw [hte] at HW hfew
  simp only at hfew
  clear hY h0 hs hte
  refine callsIn_of_wp Try.func54 rfl trivial ?_ rfl
  simp only [Try.ntmps54, List.size_toArray, List.length_cons, List.length_nil, Nat.reduceAdd, Nat.reduceSub, Array.replicate_succ, Array.replicate_zero, List.push_toArray, List.append_toArray, List.nil_append, List.cons_append]
  gi_wp2_with fail
  refine ⟨trivial, ?_⟩
  gi_at_call 21
  refine (callsIn_wide.2 (HW.out _)).mono ?_
  rintro e1 w1 ⟨a, c, rfl, hbel, hown⟩
  have HJ1 := Lib.hid (hJ.out [] W w1 none H0.out (Rg.grown_of_below hbel) (fun r e => by cases e))
  have hsz := hbel.size
  have hnil1 : w1.cell? ⟨b, 0, none⟩ = some (.slice none 0 0) := (hbel.cell (p := ⟨b, 0, none⟩) hb).trans hnil
  have Hnil := Lib.hid hnil1
  have Hown := Lib.hid hown
  clear hbel hown hnil hnil1 H0 hB HW
  simp only []
  gi_wp2_with fail
  gi_loopw [16] (fun i wr => ∃ k : Nat, k ≤ toks.length ∧ i = .int .i64 (k : Int) ∧ J (toks.take k) wr ∧ Rg.Kp b w1 wr) (fun i _ => toks.length - (intOf i).toNat)
  case atStart => exact ⟨0, Nat.zero_le _, rfl, HJ1.out, Rg.Kp.refl _ _⟩
  case round =>
    obtain ⟨k, hk, rfl, hJs, hKp⟩ := hrel
    have HJs := Lib.hid hJs
    have HKp := Lib.hid hKp
    clear hJs hKp
    by_cases hlt : k < toks.length
    · have dl : decide ((k : Int) < (toks.length : Int)) = true := by simp [hlt]
      obtain ⟨g, rfl, hgc, hgcell⟩ := Rg.own_after Hown.out (by omega) HKp.out Hnil.out hb
      have cc0 := hgcell (k * 5 + 0) _ (cellsV_at toks k hlt 0 (by decide))
      have cc1 := hgcell (k * 5 + 1) _ (cellsV_at toks k hlt 1 (by decide))
      have cc2 := hgcell (k * 5 + 2) _ (cellsV_at toks k hlt 2 (by decide))
      have cc3 := hgcell (k * 5 + 3) _ (cellsV_at toks k hlt 3 (by decide))
      have cc4 := hgcell (k * 5 + 4) _ (cellsV_at toks k hlt 4 (by decide))
      have hxt : toks.take (k + 1) = toks.take k ++ [toks[k]] := by rw [List.take_succ_eq_append_getElem hlt]
      have hpl : (toks.take k).length = k := by rw [List.length_take]; omega
      have hpr : toks.take (k + 1) <+: toks := List.take_prefix _ _
      have hsr : w1.heap.size ≤ wr.heap.size := HKp.out.size
      have hWX := hJ.out (toks.take k) wr (wr.alloc (.cells #[.int .i64 toks[k].k, .int .i64 toks[k].a, .int .i64 toks[k].z, .int .i64 toks[k].n, .string ⟨toks[k].S.toArray⟩] 50)) none HJs.out (World.grownBy_alloc _ _ none) (fun r e => by cases e)
      have hKX := HKp.out.trans (Rg.Kp.alloc wr (by omega) (.cells #[.int .i64 toks[k].k, .int .i64 toks[k].a, .int .i64 toks[k].z, .int .i64 toks[k].n, .string ⟨toks[k].S.toArray⟩] 50))
      have hy1 := HY.out (toks.take k) toks[k] _ hWX (by rw [hpl]; exact hlt)
      rw [← hxt] at hy1
      have Hxt := Lib.hid hpr
      have HKX := Lib.hid hKX
      have i0 : (0 : Int) ≤ (k : Int) := Int.natCast_nonneg _
      have i1 : (k : Int) < (toks.length : Int) := by omega
      clear hxt hpl hpr hWX hKX hgcell
      generalize toks[k] = t at *
      obtain ⟨tk, ta, tz, tn, tS⟩ := t
      simp only [Nat.add_zero] at cc0 cc1 cc2 cc3 cc4 hy1 HKX
      unfold tkV tokV at hy1
      simp only at hy1
      obtain ⟨fn, tmps, assign, body, hy, hR⟩ := hy1
      gi_wp2_with fail
      refine hR.mono ?_
      rintro e3 W3 (⟨rfl, hJ3, hk3⟩ | ⟨rfl, hJx3⟩)
      · have HJ3 := Lib.hid hJ3
        have HK3 := Lib.hid (HKX.out.trans hk3)
        clear hJ3 hk3 hR hy
        gi_wp2_with fail
        go_roundw
        case rel => exact ⟨k + 1, hlt, by go_num, HJ3.out, HK3.out⟩
        case measure => simp [intOf]; omega
      · have HX3 := Lib.hid hJx3
        clear hJx3 hR hy
        gi_wp2_with fail
        refine bodyPost_ret (results_none rfl _ _ _) rfl ?_
        exact ⟨⟨_, rfl⟩, .inr ⟨_, Hxt.out, HX3.out⟩⟩
    · obtain rfl : k = toks.length := by omega
      have dl : decide ((toks.length : Int) < (toks.length : Int)) = false := by simp
      gi_wp2_with fail
      go_end0
      exact ⟨⟨_, rfl⟩, .inl ⟨_, rfl, by have := HJs.out; rw [List.take_length] at this; exact this⟩⟩
theorem all_stops (n B b : Nat) (hn : 1 ≤ n) (s : ByteArray) (hs : s.size ≤ maxLen) (w : World) (hB : B < w.heap.size) (hb : b < w.heap.size) (hc : w.cell? ⟨B, 0, none⟩ = some (.string s)) (hnil : w.cell? ⟨b, 0, none⟩ = some (.slice none 0 0)) :
    SeqStopsK Fence.wide n Try.prog 54 #[.pointer (some ⟨B, 0, none⟩)] (fun x : Tk => #[tkV x]) (Rg.Kp b) (fun ys => ys = (wordsR s.data.toList).toks) (fun pre => pre <+: (wordsR s.data.toList).toks) (wordsR s.data.toList).toks.length w := fun l J Jx W hW hJ _ hY h0 =>
  all1_in n l B b hn s hs _ (Lib.hid ⟨_, _, rfl⟩) J Jx W (Lib.hid hJ) ((hW.cell (p := ⟨b, 0, none⟩) hb).trans hnil) (Nat.lt_of_lt_of_le hb hW.size) hY ((hW.cell (p := ⟨B, 0, none⟩) hB).trans hc) h0
theorem tok_info' : (Try.prog.info? 50).map (fun i => (i.zero, i.size, i.bytes)) = some (some (.agg #[.int .i64 0, .int .i64 0, .int .i64 0, .int .i64 0, .string ⟨#[]⟩]), 5, 48) := tok_info
set_option maxRecDepth 100000 in
set_option maxHeartbeats 4000000 in
/-- As many words as one asks for. -/
theorem told_any (s : ByteArray) (hs : s.size ≤ maxLen) (m B : Nat) (hm : m ≤ 1048576) (w : World) (hB : B < w.heap.size) (hc : w.cell? ⟨B, 0, none⟩ = some (.string s)) (toks : List Tk) (ht : Hid (toks = (wordsR s.data.toList).toks)) :
    Calls Try.prog 24 #[.func (.func 54) #[] #[.pointer (some ⟨B, 0, none⟩)], .int .i64 (m : Int)] w fun e w' =>
      ∃ a c, e = .returned (.slice a (toks.take m).length c) ∧ Below w.heap.size w w' ∧ w'.ownsRow w.heap.size 50 5 (.slice a (toks.take m).length c) (toks.take m).length (cellsV (toks.take m)) := by
  obtain ⟨i0, hi, hz0, hz1, hz2⟩ := info_parts tok_info
  have heq : ∀ w : World, (binOp BinOp.eql 45 (.func (.func 54) #[] #[.pointer (some ⟨B, 0, none⟩)]) .nilFunc).run Try.prog w = .ok (.bool false) w := fun _ => by kernel_rfl
  refine (callsIn_wide (n := 5)).1 ?_
  refine callsIn_of_wp_marks Try.func24 rfl trivial ?_ rfl
  simp only [Try.ntmps24, List.size_toArray, List.length_cons, List.length_nil, Nat.reduceAdd, Nat.reduceSub, Array.replicate_succ, Array.replicate_zero, List.push_toArray, List.append_toArray, List.nil_append, List.cons_append]
  gi_wp2_with fail
  have bM := (Boxed.new w 3 (.int .i64 (m : Int))).alloc (.cells #[.slice none 0 0] 39)
  have bL := Boxed.new (w.alloc (.cells #[.int .i64 (m : Int)] 3)) 39 (.slice none 0 0)
  rw [World.size_alloc] at bL
  have hB0 : Below w.heap.size w ((w.alloc (.cells #[.int .i64 (m : Int)] 3)).alloc (.cells #[.slice none 0 0] 39)) := ((Below.refl _ w).alloc (Nat.le_refl _) _).alloc (by simp) _
  have hsz : ((w.alloc (.cells #[.int .i64 (m : Int)] 3)).alloc (.cells #[.slice none 0 0] 39)).heap.size = w.heap.size + 1 + 1 := by simp
  generalize (w.alloc (.cells #[.int .i64 (m : Int)] 3)).alloc (.cells #[.slice none 0 0] 39) = X at *
  have hlen := words_few s.data.toList
  rw [← ht.out] at hlen
  have hst := all_stops (5 - 1) B (w.heap.size + 1) (by omega) s hs X (by omega) (by omega) ((hB0.cell (p := ⟨B, 0, none⟩) hB).trans hc) bL.cell
  rw [← ht.out] at hst
  have hI : OwnFrom X.heap.size (fun (pre : List Tk) (W : World) => ((∃ v, Boxed W (w.heap.size + 1) 39 v ∧ W.ownsRow w.heap.size 50 5 v pre.length (cellsV pre) ∧ True) ∧ Boxed W w.heap.size 3 (.int .i64 (m : Int))) ∧ (pre.length ≤ m ∧ Below w.heap.size w W)) :=
    OwnFrom.and (OwnFrom.and (Own.from (holdsRow_own w.heap.size (w.heap.size + 1) 39 50 5 (fun pre : List Tk => pre.length) cellsV (fun _ _ => True)) _) (Own.from (boxed_own _ _ _) _)) (OwnFrom.and (fun s A B row hs hg hr => hs) (ownFrom_below (Nat.le_refl _) (by omega)))
  refine wpIn_rangeFunc_ownH rfl (by omega) (gf := 54) (lb := #[.pointer (some ⟨B, 0, none⟩)]) rfl trivial (enters_of Try.func54 (by kernel_rfl) rfl)
    hst Rg.Kp.trans (Rg.Kp.put (by omega)) (Below.refl _ _) (fun _ => rfl)
    (fun pre W => ((∃ v, Boxed W (w.heap.size + 1) 39 v ∧ W.ownsRow w.heap.size 50 5 v pre.length (cellsV pre) ∧ True) ∧ Boxed W w.heap.size 3 (.int .i64 (m : Int))) ∧ (pre.length ≤ m ∧ Below w.heap.size w W))
    (fun c q W => ∃ pre : List Tk, (c = .exit 0 ∧ pre.length = m ∧ ∃ x, q = pre ++ [x]) ∧ (((∃ v, Boxed W (w.heap.size + 1) 39 v ∧ W.ownsRow w.heap.size 50 5 v pre.length (cellsV pre) ∧ True) ∧ Boxed W w.heap.size 3 (.int .i64 (m : Int))) ∧ (pre.length ≤ m ∧ Below w.heap.size w W)))
    hI (fun c s A B row hs hg hr => by obtain ⟨pre, h1, h2⟩ := hs; exact ⟨pre, h1, hI pre A B row h2 hg hr⟩)
    ⟨⟨⟨_, bL, World.ownsRow_nil _ _ _ _, trivial⟩, bM⟩, Nat.zero_le _, hB0⟩
    (fun x a' W => ∃ Bx, w.heap.size + 1 < Bx ∧ Blk W Bx 50 #[.int .i64 x.k, .int .i64 x.a, .int .i64 x.z, .int .i64 x.n, .string ⟨x.S.toArray⟩] ∧ a' = { tmps := #[.func (.func 54) #[] #[.pointer (some ⟨B, 0, none⟩)], .int .i64 (m : Int), undef, .pointer (some ⟨w.heap.size, 0, none⟩), .slice none 0 0, .pointer (some ⟨w.heap.size + 1, 0, none⟩), .pointer (some ⟨Bx, 0, none⟩), .func (.func 54) #[] #[.pointer (some ⟨B, 0, none⟩)], .bool false, .func (.func 54) #[] #[.pointer (some ⟨B, 0, none⟩)], .agg #[.int .i64 x.k, .int .i64 x.a, .int .i64 x.z, .int .i64 x.n, .string ⟨x.S.toArray⟩], undef, undef, undef, undef, undef, undef, undef, undef, undef], defers := [] })
    (fun x a' _ A B row hs hg hr => by
      obtain ⟨Bx, h1, h2, h3⟩ := hs
      refine ⟨Bx, h1, (hg.block Bx h2.lt (fun e => ?_)).trans h2, h3⟩
      obtain ⟨_, o, ho, hoc⟩ := hr Bx e.symm
      rw [show A.heap[Bx]? = _ from h2] at ho
      cases ho; cases hoc)
    ?assign ?body ?done ?stop
  case assign =>
    rintro l pre x W K ⟨⟨⟨v, hv, hrow, _⟩, hbm⟩, hle, hB1⟩ hK
    obtain ⟨tk, ta, tz, tn, tS⟩ := x
    have hvl := hv.lt
    simp only [tkV, tokV]
    gi_wp2_with fail
    exact hK _ _ ((KeepsOthers.alloc _ _).from _) (Rg.Kp.alloc _ hvl _) ⟨⟨⟨v, hv.alloc _, hrow.alloc _, trivial⟩, hbm.alloc _⟩, hle, hB1.alloc hB1.size _⟩ ⟨W.heap.size, hvl, heap_alloc_new W _, rfl⟩
  case body =>
    rintro l pre x a' W hl ⟨r, hr⟩ ⟨⟨⟨v, hv, hrow, _⟩, hbm⟩, hle, hB1⟩ ⟨Bx, hBx, bX, rfl⟩ hlt
    obtain ⟨va, vc, rfl⟩ := own_slice hrow
    have c5 := hv.cell
    have c3 := hbm.cell
    have x0 : W.cell? ⟨Bx, 0, none⟩ = some (.int .i64 x.k) := (bX.cell 0).trans rfl
    have x1 : W.cell? ⟨Bx, 1, none⟩ = some (.int .i64 x.a) := (bX.cell 1).trans rfl
    have x2 : W.cell? ⟨Bx, 2, none⟩ = some (.int .i64 x.z) := (bX.cell 2).trans rfl
    have x3 : W.cell? ⟨Bx, 3, none⟩ = some (.int .i64 x.n) := (bX.cell 3).trans rfl
    have x4 : W.cell? ⟨Bx, 4, none⟩ = some (.string ⟨x.S.toArray⟩) := (bX.cell 4).trans rfl
    have HL := Lib.hid hle
    have HW := Lib.hid hB1
    have Hv := Lib.hid hv
    have Hrow := Lib.hid hrow
    have Hbm := Lib.hid hbm
    have hsW := hB1.size
    have hbl := hv.lt
    clear hB1 hv hrow hbm bX hB0 bM bL hst hI hc
    by_cases hm1 : pre.length < m
    · have dm : decide ((pre.length : Int) ≥ (m : Int)) = false := decide_eq_false (by omega)
      clear hle
      gi_wp2_with (gi_at_builtin; refine wpListIn_append_own_at _ rfl (.tmp 15) (.tmp 17) 39 rfl w.heap.size 50 i0 (.agg #[.int .i64 0, .int .i64 0, .int .i64 0, .int .i64 0, .string ⟨#[]⟩]) 5 48 Try.underlying39 hi hz0 hz1 hz2 rfl (by decide) _ pre.length (cellsV pre) rfl (Hrow.out.alloc _) ⟨W.heap.size, 0, none⟩ 1 1 [.int .i64 x.k, .int .i64 x.a, .int .i64 x.z, .int .i64 x.n, .string ⟨x.S.toArray⟩] rfl rfl (cells_new W #[.int .i64 x.k, .int .i64 x.a, .int .i64 x.z, .int .i64 x.n, .string ⟨x.S.toArray⟩] 50) (by simp [Value.oneCell']) (by simp only [maxLen]; omega) (by omega) (by simp; omega) ?_; intro v' w1 hown' hgrow _ hat; obtain ⟨g', cap', rfl⟩ := ownsRow_succ hown'; obtain ⟨hv1, hv2, hr2, hk2, hb2⟩ := Hv.out.appended (by decide) Hrow.out hsW (Nat.le_succ _) hown' hgrow; have hc1 := hv1.cell; have hf1 := hv1.frozen)
      have hne := Hv.out.not_row (by decide) Hrow.out
      have hbm1 : Boxed w1 w.heap.size 3 (.int .i64 (m : Int)) := (Hbm.out.alloc _).kept hgrow (Hbm.out.not_row (by decide) Hrow.out)
      refine ⟨hk2.from _, Rg.Kp.app Hv.out hgrow hat hne, ⟨⟨⟨_, hv2, ?_, trivial⟩, hbm1.other (by omega) _⟩, ?_, HW.out.trans hb2⟩⟩
      · rw [cellsV_snoc, List.length_append]
        exact hr2
      · rw [List.length_append]; exact hm1
    · have dm : decide ((pre.length : Int) ≥ (m : Int)) = true := decide_eq_true (by omega)
      obtain rfl : pre.length = m := by omega
      gi_wp2_with fail
      exact ⟨KeepsFrom.refl _ _, pre, ⟨rfl, rfl, x, rfl⟩, ⟨⟨⟨_, Hv.out, Hrow.out, trivial⟩, Hbm.out⟩, Nat.le_refl _, HW.out⟩⟩
  case done =>
    rintro D ys W hD rfl ⟨⟨⟨v, hv, hrow, _⟩, hbm⟩, hle, hB1⟩ hK
    have c5 := hv.cell
    gi_wp2_with fail
    refine ⟨by simp, .inl ⟨_, _, rfl, run_takeDeferred hK, ?_⟩⟩
    obtain ⟨va, vc, rfl⟩ := own_slice hrow
    rw [List.take_of_length_le hle]
    exact ⟨_, results_tmp rfl _ _ _, va, vc, rfl, hB1.trans (belowK_b (w := w) (Nat.le_refl _) W D _ _ (by omega) hK rfl rfl), ownsRow_putObj hrow _ hK rfl⟩
  case stop =>
    rintro D c pre W hD hpre ⟨pre', ⟨rfl, hpl, x, rfl⟩, ⟨⟨⟨v, hv, hrow, _⟩, hbm⟩, hle, hB1⟩⟩ hK
    have c5 := hv.cell
    gi_wp2_with fail
    refine ⟨by simp, .inl ⟨_, _, rfl, run_takeDeferred hK, ?_⟩⟩
    obtain ⟨va, vc, rfl⟩ := own_slice hrow
    have hpt : toks.take m = pre' := by
      obtain ⟨r, hr⟩ := hpre
      rw [← hr, List.append_assoc, ← hpl, List.take_left']
      rfl
    rw [hpt]
    exact ⟨_, results_tmp rfl _ _ _, va, vc, rfl, hB1.trans (belowK_b (w := w) (Nat.le_refl _) W D _ _ (by omega) hK rfl rfl), ownsRow_putObj hrow _ hK rfl⟩
end Go.Proofs.Yteddfdhbpgbloaa.Lx
