/- Whether two identifiers mean the same: the program's Same (layer 5). -/
import Derived.Laws.StructEq
import Derived.Deep.Cut
import Derived.Test.YteolfkkabhileaaMScExtErr
section
namespace Go.Proofs.Yteolfkkabhileaa.Sc
open Go.ChangeShapes Go.WideShapes Go.ChangeAt Go.RowKit
set_option linter.unusedVariables false
set_option linter.unusedSimpArgs false

def Seen.same (z u : Seen) : Bool := ((z.scope : Int) == (u.scope : Int)) && (z.what == u.what) && (z.name == u.name)
theorem Seen.same_iff (z u : Seen) : z.same u = true ↔ z = u := by
  unfold Seen.same
  rcases z with ⟨a, b, c⟩
  rcases u with ⟨a', b', c'⟩
  simp only [Bool.and_eq_true, beq_iff_eq, Seen.mk.injEq]
  constructor
  · rintro ⟨⟨h1, h2⟩, h3⟩
    exact ⟨by omega, h2, h3⟩
  · rintro ⟨h1, h2, h3⟩
    exact ⟨⟨by omega, h2⟩, h3⟩
set_option maxRecDepth 100000 in
theorem eq_seen (z u : Seen) (w : World) : (binOp BinOp.eql 49 z.V u.V).run Try.prog w = .ok (.bool (z.same u)) w := by
  have e : binOp BinOp.eql 49 z.V u.V = Value.bool <$> Op.equal 49 z.V u.V := rfl
  rw [e]
  unfold Seen.V Seen.same
  obtain ⟨d, hd⟩ : ∃ d, Op.maxDepth = d + 1 + 1 := ⟨Op.maxDepth - 2, by decide⟩
  simp only [Op.equal, hd]
  have h1 := run_equalIn_struct (P := Try.prog) w (d + 1) 49 #[.int .i64 (z.scope : Int), .int .i64 z.what, .string ⟨z.name.toArray⟩] #[.int .i64 (u.scope : Int), .int .i64 u.what, .string ⟨u.name.toArray⟩] (by kernel_rfl) (by kernel_rfl)
  simp [go_sem, h1, Try.underlying49]
  by_cases c1 : (z.scope : Int) = (u.scope : Int)
  · by_cases c2 : z.what = u.what
    · by_cases c3 : z.name = u.name
      · rw [if_pos c1, if_pos c2, if_pos c3]; simp [c1, c2, c3]
      · rw [if_pos c1, if_pos c2, if_neg c3]; simp [c1, c2, c3]
    · rw [if_pos c1, if_neg c2]; simp [c1, c2]
  · rw [if_neg c1]; simp [c1]
theorem no_guard_seen : Try.prog.eqGuardType Try.prog.depth 49 = false := by kernel_rfl
theorem guard_seen (op : BinOp) (a b : Operand) (z u : Seen) (w : World) : (eqGuard op 49 a b z.V u.V).run Try.prog w = .ok () w := by
  unfold Seen.V
  cases op <;> simp [eqGuard, Sem.run_bind, run_program, no_guard_seen, go_sem]
theorem load_seen {ops : Array Oper} {rest : List Oper} {o : Oper} {a : Act} {w : World} {Q : Exit → Act → World → Prop} (x : Operand) (g : Nat) (z : Seen) (hgd : o.guard = none) (ho : o.op = .load 49 x)
    (hx : a.eval x = .pointer (some ⟨g, 0, none⟩)) (hb : Da.Blk w g 49 (seenC z)) (h : wpList Try.prog ops Q rest (a.put o.dst z.V) w) : wpList Try.prog ops Q (o :: rest) a w :=
  Ld.wpList_at hgd 49 x ho g 0 hx (seenC z).toList _ (Ld.At.of_blk hb) Try.underlying49 rfl info_seen h
theorem info_dat6 : (Try.prog.info? 33).map (·.size) = some 6 := by kernel_rfl
theorem load_dt {ops : Array Oper} {rest : List Oper} {o : Oper} {a : Act} {w : World} {Q : Exit → Act → World → Prop} (x : Operand) (g : Nat) (d : Da.Dt) (am : Option Addr) (cm : Nat) (al : Option Addr) (cl : Nat) (at_ : Option Addr) (ct : Nat) (hgd : o.guard = none) (ho : o.op = .load 33 x)
    (hx : a.eval x = .pointer (some ⟨g, 0, none⟩)) (hb : Da.Blk w g 33 (six d am cm al cl at_ ct)) (h : wpList Try.prog ops Q rest (a.put o.dst (.agg (six d am cm al cl at_ ct))) w) : wpList Try.prog ops Q (o :: rest) a w :=
  Ld.wpList_at hgd 33 x ho g 0 hx (six d am cm al cl at_ ct).toList _ (Ld.At.of_blk hb) Try.underlying33 rfl info_dat6 h
/-- Same's two values. -/
def sameE (k1 k2 : Int) : Int := if k1 ≠ 0 then k1 else k2
def sameB (z1 z2 : Seen) (k1 k2 : Int) : Bool := if k1 ≠ 0 then false else if k2 ≠ 0 then false else z1.same z2
set_option maxRecDepth 100000 in
set_option maxHeartbeats 8000000 in
theorem same_of (p : Option Addr) (i j : Int) (x y : Da.Dt) (vx vy : Value) (B : Nat) (z1 z2 : Seen) (k1 k2 : Int) (w : World) (hB : B ≤ w.heap.size) (hx : Da.IsDt w (Da.Lo B) x vx) (hy : Da.IsDt w (Da.Lo B) y vy)
    (f1 : Hid (∀ w2, Below w.heap.size w w2 → Calls Try.prog 19 #[.pointer p, .int .i64 i, vx] w2 (FindIs z1 k1 w2))) (f2 : Hid (∀ w2, Below w.heap.size w w2 → Calls Try.prog 19 #[.pointer p, .int .i64 j, vy] w2 (FindIs z2 k2 w2))) :
    Calls Try.prog 25 #[.pointer p, .int .i64 i, vx, .int .i64 j, vy] w fun e w' => e = .returned (.tuple #[.bool (sameB z1 z2 k1 k2), .int .i64 (sameE k1 k2)]) ∧ Below w.heap.size w w' := by
  obtain ⟨am, cm, al, cl, at_, ct, rfl, _⟩ := hx.open_
  obtain ⟨am', cm', al', cl', at_', ct', rfl, _⟩ := hy.open_
  obtain ⟨n1, n2⟩ := two_new w (six x am cm al cl at_ ct) (six y am' cm' al' cl' at_' ct') 33 33
  have hbX := bel_two w (.cells (six x am cm al cl at_ ct) 33) (.cells (six y am' cm' al' cl' at_' ct') 33)
  obtain ⟨er, her⟩ : ∃ er, sameE k1 k2 = er := ⟨_, rfl⟩
  obtain ⟨br, hbr⟩ : ∃ br, sameB z1 z2 k1 k2 = br := ⟨_, rfl⟩
  rw [her, hbr]
  have HR := Lib.hid (And.intro her hbr)
  clear hx hy her hbr
  go_enter Try.func25, Try.ntmps25
  go_upto_region 1 with (fail)
  generalize hX : (World.alloc (World.alloc w _) _) = X
  replace n1 : Da.Blk X w.heap.size 33 (six x am cm al cl at_ ct) := by rw [← hX]; exact n1
  replace n2 : Da.Blk X (w.heap.size + 1) 33 (six y am' cm' al' cl' at_' ct') := by rw [← hX]; exact n2
  replace hbX : Below w.heap.size w X := by rw [← hX]; exact hbX
  clear hX
  have HN1 := Lib.hid n1
  have HN2 := Lib.hid n2
  have HBX := Lib.hid hbX
  clear n1 n2 hbX
  go_wp2_with (refine load_dt (.tmp 7) w.heap.size x am cm al cl at_ ct rfl rfl rfl HN1.out ?_)
  refine (f1.out X HBX.out).mono ?_
  rintro e w2 ⟨rfl, hb2⟩
  have HB2 := Lib.hid (HBX.out.trans (hb2.mono HBX.out.size))
  have HN22 := Lib.hid (show Da.Blk w2 (w.heap.size + 1) 33 (six y am' cm' al' cl' at_' ct') from (hb2.block _ (Array.getElem?_eq_some_iff.1 HN2.out).1).trans HN2.out)
  have hlt2 : w.heap.size + 1 < w2.heap.size := (Array.getElem?_eq_some_iff.1 HN22.out).1
  clear hb2
  by_cases hk1 : k1 = 0
  · have d1 : (k1 != 0) = false := by rw [hk1]; rfl
    have HK1 := Lib.hid hk1
    clear hk1
    go_upto_region 2 with (refine wpList_store_row rfl 49 (.tmp 12) (.tmp 20) rfl w2.heap.size (seenC z1) rfl rfl 49 (seenC Seen.zero) (heap_alloc_new w2 _) info_seen rfl (seenC_one _) ?_)
    generalize hX4 : (World.setRow (World.alloc w2 _) w2.heap.size (seenC z1)) = W4
    have hb4 : Below w2.heap.size w2 W4 := by rw [← hX4]; exact bel_row ((Below.refl _ _).alloc (Nat.le_refl _) _) _ _ (Nat.le_refl _)
    have hz1 : Da.Blk W4 w2.heap.size 49 (seenC z1) := by rw [← hX4]; exact setRow_heap _ _ (seenC Seen.zero) _ _ _ (heap_alloc_new w2 _)
    have HB4 := Lib.hid (HB2.out.trans (hb4.mono HB2.out.size))
    have HN4 := Lib.hid (show Da.Blk W4 (w.heap.size + 1) 33 (six y am' cm' al' cl' at_' ct') from (hb4.block _ hlt2).trans HN22.out)
    have HZ1 := Lib.hid hz1
    clear hX4 hb4 hz1
    go_wp2_with (refine load_dt (.tmp 9) (w.heap.size + 1) y am' cm' al' cl' at_' ct' rfl rfl rfl HN4.out ?_)
    refine (f2.out W4 HB4.out).mono ?_
    rintro e w5 ⟨rfl, hb5⟩
    have HB5 := Lib.hid (HB4.out.trans (hb5.mono HB4.out.size))
    have HZ5 := Lib.hid (show Da.Blk w5 w2.heap.size 49 (seenC z1) from (hb5.block _ (Array.getElem?_eq_some_iff.1 HZ1.out).1).trans HZ1.out)
    have hlt5 : w2.heap.size < w5.heap.size := (Array.getElem?_eq_some_iff.1 HZ5.out).1
    clear hb5
    go_upto_region 5 with (refine wpList_store_row rfl 49 (.tmp 14) (.tmp 30) rfl w5.heap.size (seenC z2) rfl rfl 49 (seenC Seen.zero) (heap_alloc_new w5 _) info_seen rfl (seenC_one _) ?_)
    generalize hX6 : (World.setRow (World.alloc w5 _) w5.heap.size (seenC z2)) = W6
    have hb6 : Below w5.heap.size w5 W6 := by rw [← hX6]; exact bel_row ((Below.refl _ _).alloc (Nat.le_refl _) _) _ _ (Nat.le_refl _)
    have hz2 : Da.Blk W6 w5.heap.size 49 (seenC z2) := by rw [← hX6]; exact setRow_heap _ _ (seenC Seen.zero) _ _ _ (heap_alloc_new w5 _)
    have HB6 := Lib.hid (HB5.out.trans (hb6.mono HB5.out.size))
    have HZ6 := Lib.hid (show Da.Blk W6 w2.heap.size 49 (seenC z1) from (hb6.block _ hlt5).trans HZ5.out)
    have HZ2 := Lib.hid hz2
    clear hX6 hb6 hz2
    by_cases hk2 : k2 = 0
    · have d2 : (k2 != 0) = false := by rw [hk2]; rfl
      have HK2 := Lib.hid hk2
      clear hk2
      have hes : ∀ w, (binOp BinOp.eql 49 z1.V z2.V).run Try.prog w = .ok (.bool (z1.same z2)) w := eq_seen z1 z2
      have hgd : ∀ w, (eqGuard BinOp.eql 49 (.tmp 35) (.tmp 36) z1.V z2.V).run Try.prog w = .ok () w := guard_seen _ _ _ z1 z2
      go_wp2_with (first | (refine load_seen (.tmp 12) w2.heap.size z1 rfl rfl rfl HZ6.out ?_) | (refine load_seen (.tmp 14) w5.heap.size z2 rfl rfl rfl HZ2.out ?_))
      go_ret2
      obtain ⟨h1, h2⟩ := HR.out
      unfold sameE at h1
      unfold sameB at h2
      rw [HK1.out, if_neg (by decide), HK2.out] at h1
      rw [HK1.out, HK2.out, if_neg (by decide), if_neg (by decide)] at h2
      rw [← h1, ← h2]
      exact ⟨rfl, HB6.out⟩
    · have d2 : (k2 != 0) = true := by simpa using hk2
      have HK2 := Lib.hid hk2
      clear hk2
      go_wp2_with fail
      go_ret2
      obtain ⟨h1, h2⟩ := HR.out
      unfold sameE at h1
      unfold sameB at h2
      rw [HK1.out, if_neg (by decide)] at h1
      rw [HK1.out, if_neg (by decide), if_pos HK2.out] at h2
      rw [← h1, ← h2]
      exact ⟨rfl, HB6.out⟩
  · have d1 : (k1 != 0) = true := by simpa using hk1
    have HK1 := Lib.hid hk1
    clear hk1
    go_wp2_with (refine wpList_store_row rfl 49 (.tmp 12) (.tmp 20) rfl w2.heap.size (seenC z1) rfl rfl 49 (seenC Seen.zero) (heap_alloc_new w2 _) info_seen rfl (seenC_one _) ?_)
    go_ret2
    obtain ⟨h1, h2⟩ := HR.out
    unfold sameE at h1
    unfold sameB at h2
    rw [if_pos HK1.out] at h1
    rw [if_pos HK1.out] at h2
    rw [← h1, ← h2]
    exact ⟨rfl, bel_row (HB2.out.alloc (by omega) _) _ _ (by omega)⟩
theorem same_all (tb : Nat) (T : Tab) (O : Nat → Prop) (i j : Int) (x y : Da.Dt) (vx vy : Value) (B : Nat) (w : World) (hB : B ≤ w.heap.size) (hx : Da.IsDt w (Da.Lo B) x vx) (hy : Da.IsDt w (Da.Lo B) y vy) (h : TabIn w tb T O) :
    Calls Try.prog 25 #[.pointer (some ⟨tb, 0, none⟩), .int .i64 i, vx, .int .i64 j, vy] w fun e w' => e = .returned (.tuple #[.bool (sameB (findZ T i x) (findZ T j y) (findE T i x) (findE T j y)), .int .i64 (sameE (findE T i x) (findE T j y))]) ∧ Below w.heap.size w w' :=
  same_of _ i j x y vx vy B _ _ _ _ w hB hx hy (Lib.hid (fun w2 hb => find_all tb T O i x vx B w2 (hx.below (hb.mono hB)) (Nat.le_trans hB hb.size) (h.bel hb))) (Lib.hid (fun w2 hb => find_all tb T O j y vy B w2 (hy.below (hb.mono hB)) (Nat.le_trans hB hb.size) (h.bel hb)))
end Go.Proofs.Yteolfkkabhileaa.Sc
end
