/- R5 of scope: a table that no call made: the walk. -/
import Derived.Test.YteolfkkabhileaaMScNone
section
namespace Go.Proofs.Yteolfkkabhileaa.Sc
open Go.ChangeShapes Go.WideShapes Go.ChangeAt Go.RowKit Go.Shelf
set_option linter.unusedVariables false
set_option linter.unusedSimpArgs false

def dtNo : Da.Dt := .mk 0 0 ⟨#[]⟩ [] [] []
def sxNo : Sx := ⟨none, none, none, 0, 0, 0⟩
theorem dt_no (w : World) (Q : Nat → Prop) : Da.IsDt w Q dtNo (.agg (sixL dtNo sxNo).toArray) := by
  unfold dtNo
  simp only [Da.IsDt]
  exact ⟨by decide, by decide, by decide, none, 0, none, 0, none, 0, rfl, row_nil _ _, ⟨Nat.le_refl _, by simp [maxLen], by simp, fun _ => rfl⟩, by simp only [Da.IsDts], ⟨Nat.le_refl _, by simp [maxLen], by simp, fun _ => rfl⟩, by simp only [Da.IsDts]⟩
/-- One act in new memory. -/
theorem ops_one {w : World} {B g : Nat} {o : Opn} {x y : Sx} (hg : g < B) (hb : Da.Blk w g 35 (opL o x y).toArray) (h1 : Da.IsDt w (Da.Lo B) o.id (.agg (sixL o.id x).toArray)) (h2 : Da.IsDt w (Da.Lo B) o.nd (.agg (sixL o.nd y).toArray)) (h3 : (Lit.int .i64 o.n).wf = true) : IsOps w (Da.Lo B) (some ⟨g, 0, none⟩) [o] := fun i o' hi => by
  have : i = 0 := by
    rcases Nat.eq_zero_or_pos i with h | h
    · exact h
    · rw [List.getElem?_eq_none (by show 1 ≤ i; omega)] at hi; cases hi
  subst this
  obtain rfl : o = o' := by simpa using hi
  exact ⟨g, 0, rfl, hg, x, y, Ld.At.of_blk hb, h1, h2, h3⟩
theorem neq_seen0 (w : World) : (binOp BinOp.neq 49 (.agg #[.int .i64 0, .int .i64 0, .string ⟨#[]⟩]) (.agg #[.int .i64 0, .int .i64 0, .string ⟨#[]⟩])).run Try.prog w = .ok (.bool false) w := by kernel_rfl
def NoneIn (w : World) (tz sl db : Nat) (dc : Array Value) (wr : World) : Prop :=
  Below w.heap.size w wr ∧ Da.Blk wr tz 73 #[.slice none 0 0, .slice none 0 0, .map none] ∧ Da.Blk wr sl 25 #[.pointer none, .pointer (some ⟨tz, 0, none⟩)] ∧ Da.Blk wr db 33 dc
theorem NoneIn.bel {w : World} {tz sl db : Nat} {dc : Array Value} {W W' : World} (h : NoneIn w tz sl db dc W) (hb : Below W.heap.size W W') : NoneIn w tz sl db dc W' := by
  obtain ⟨h1, h2, h3, h4⟩ := h
  exact ⟨h1.trans (hb.mono h1.size), (hb.block _ (Array.getElem?_eq_some_iff.1 h2).1).trans h2, (hb.block _ (Array.getElem?_eq_some_iff.1 h3).1).trans h3, (hb.block _ (Array.getElem?_eq_some_iff.1 h4).1).trans h4⟩
set_option maxRecDepth 100000 in
set_option maxHeartbeats 16000000 in
theorem none_walk (s : Int) (z : Da.Dt) (v : Value) (w : World) (hd : Da.IsDt w (Da.Lo w.heap.size) z v) :
    Calls Try.prog 7 #[.int .i64 s, v] w fun e w' => e = .returned (.bool true) ∧ Below w.heap.size w w' := by
  have HD := Lib.hid hd
  obtain ⟨am, cm, al, cl, at_, ct, rfl, _⟩ := hd.open_
  have n1 := one_new w (six z am cm al cl at_ ct) 33
  have hbX : Below w.heap.size w (w.alloc (.cells (six z am cm al cl at_ ct) 33)) := (Below.refl _ _).alloc (Nat.le_refl _) _
  clear hd
  go_enter Try.func7, Try.ntmps7
  go_upto_region 1 with (fail)
  generalize hX : (World.alloc w _) = X
  replace n1 : Da.Blk X w.heap.size 33 (six z am cm al cl at_ ct) := by rw [← hX]; exact n1
  replace hbX : Below w.heap.size w X := by rw [← hX]; exact hbX
  clear hX
  have HN1 := Lib.hid n1
  have HBX := Lib.hid hbX
  have e0 : X.cell? ⟨w.heap.size, 0, none⟩ = some (.int .i64 z.K) := (n1.cell 0).trans rfl
  have e1 : X.cell? ⟨w.heap.size, 1, none⟩ = some (.int .i64 z.N) := (n1.cell 1).trans rfl
  have e2 : X.cell? ⟨w.heap.size, 2, none⟩ = some (.string z.S) := (n1.cell 2).trans rfl
  have e3 : X.cell? ⟨w.heap.size, 3, none⟩ = some (.slice am z.M.length cm) := (n1.cell 3).trans rfl
  have e4 : X.cell? ⟨w.heap.size, 4, none⟩ = some (.slice al z.L.length cl) := (n1.cell 4).trans rfl
  have e5 : X.cell? ⟨w.heap.size, 5, none⟩ = some (.slice at_ z.T.length ct) := (n1.cell 5).trans rfl
  clear n1 hbX
  go_wp2_with fail
  clear e0 e1 e2 e3 e4 e5
  generalize hY : World.alloc X (Obj.cells _ 35) = Y
  have n2 : Da.Blk Y X.heap.size 35 (opL ⟨0, 0, 0, z, dtNo, 0⟩ ⟨am, al, at_, cm, cl, ct⟩ sxNo).toArray := by rw [← hY]; exact one_new X _ _
  have hbY : Below X.heap.size X Y := by rw [← hY]; exact (Below.refl _ _).alloc (Nat.le_refl _) _
  clear hY
  have hbXY := HBX.out.trans (hbY.mono HBX.out.size)
  have hops := ops_one (B := Y.heap.size) (Nat.lt_of_lt_of_le (Array.getElem?_eq_some_iff.1 n2).1 (Nat.le_refl _)) n2 ((HD.out.below hbXY).more (fun b hb => Nat.lt_of_lt_of_le hb hbXY.size)) (dt_no _ _) (show (Lit.int .i64 0).wf = true by decide)
  have HBY := Lib.hid hbXY
  have HNY := Lib.hid (show Da.Blk Y w.heap.size 33 (six z am cm al cl at_ ct) from (hbY.block _ (Array.getElem?_eq_some_iff.1 HN1.out).1).trans HN1.out)
  clear n2 hbY hbXY
  refine (small_any [⟨0, 0, 0, z, dtNo, 0⟩] (some ⟨X.heap.size, 0, none⟩) 1 Y.heap.size Y (Nat.le_refl _) (by simp [maxLen]) (Nat.le_refl _) hops).mono ?_
  rintro e w2 ⟨hb2, hres⟩
  have HB2 := Lib.hid (HBY.out.trans (hb2.mono HBY.out.size))
  have HN2 := Lib.hid (show Da.Blk w2 w.heap.size 33 (six z am cm al cl at_ ct) from (hb2.block _ (Array.getElem?_eq_some_iff.1 HNY.out).1).trans HNY.out)
  clear hops hb2 HBY HNY HBX HN1
  rcases hres with ⟨_, rfl⟩ | ⟨_, rfl⟩
  · go_wp2_with fail
    refine (awake_any w2).mono ?_
    rintro e w3 ⟨rfl, hb3⟩
    have HB3 := Lib.hid (HB2.out.trans (hb3.mono HB2.out.size))
    have HN3 := Lib.hid (show Da.Blk w3 w.heap.size 33 (six z am cm al cl at_ ct) from (hb3.block _ (Array.getElem?_eq_some_iff.1 HN2.out).1).trans HN2.out)
    clear hb3 HB2 HN2
    go_wp2_with fail
    obtain ⟨m1, m2⟩ := two_new w3 #[.slice none 0 0, .slice none 0 0, .map none] #[.pointer none, .pointer (some ⟨w3.heap.size, 0, none⟩)] 73 25
    have hb5 := bel_two w3 (.cells #[.slice none 0 0, .slice none 0 0, .map none] 73) (.cells #[.pointer none, .pointer (some ⟨w3.heap.size, 0, none⟩)] 25)
    have hn5 : NoneIn w w3.heap.size (w3.heap.size + 1) w.heap.size (six z am cm al cl at_ ct) ((w3.alloc (.cells #[.slice none 0 0, .slice none 0 0, .map none] 73)).alloc (.cells #[.pointer none, .pointer (some ⟨w3.heap.size, 0, none⟩)] 25)) :=
      ⟨HB3.out.trans (hb5.mono HB3.out.size), m1, m2, (hb5.block _ (Array.getElem?_eq_some_iff.1 HN3.out).1).trans HN3.out⟩
    generalize (w3.alloc (.cells #[.slice none 0 0, .slice none 0 0, .map none] 73)).alloc (.cells #[.pointer none, .pointer (some ⟨w3.heap.size, 0, none⟩)] 25) = W5 at *
    have HN5 := Lib.hid hn5
    clear m1 m2 hb5 hn5 HB3 HN3
    go_loopw [37] (fun i wr => ∃ j : Nat, j ≤ 2 ∧ i = .int .i64 (j : Int) ∧ NoneIn w w3.heap.size (w3.heap.size + 1) w.heap.size (six z am cm al cl at_ ct) wr) (fun i _ => 2 - (intOf i).toNat)
    case atStart => exact ⟨0, Nat.zero_le _, rfl, HN5.out⟩
    case round =>
      obtain ⟨j, hj, rfl, hin⟩ := hrel
      have HIN := Lib.hid hin
      by_cases hj2 : j < 2
      · have dj : decide ((j : Int) < 2) = true := decide_eq_true (by omega)
        have j0 : (0 : Int) ≤ (j : Int) := Int.natCast_nonneg _
        have j1 : (j : Int) < 2 := by omega
        obtain ⟨p, hp, hck, hsz, hcl⟩ : ∃ p : Option Addr, wr.cell? ⟨w3.heap.size + 1, j, none⟩ = some (.pointer p) ∧
            (∀ w2, NoneIn w w3.heap.size (w3.heap.size + 1) w.heap.size (six z am cm al cl at_ ct) w2 → Calls Try.prog 35 #[.pointer p, .int .i64 s] w2 fun e w' => e = .returned (.int .i64 2) ∧ w2 = w') ∧
            (∀ w2, NoneIn w w3.heap.size (w3.heap.size + 1) w.heap.size (six z am cm al cl at_ ct) w2 → Calls Try.prog 24 #[.pointer p] w2 fun e w' => e = .returned (.tuple #[.int .i64 0, .int .i64 0]) ∧ w2 = w') ∧
            (∀ w2, NoneIn w w3.heap.size (w3.heap.size + 1) w.heap.size (six z am cm al cl at_ ct) w2 → Calls Try.prog 14 #[.pointer p] w2 fun e w' => e = .returned (.pointer none) ∧ w2 = w') := by
          have : j = 0 ∨ j = 1 := by omega
          rcases this with rfl | rfl
          · exact ⟨none, (hin.2.2.1.cell 0).trans rfl, fun w2 _ => check_nil s w2, fun w2 _ => sizes_nil w2, fun w2 _ => clone_nil w2⟩
          · exact ⟨some ⟨w3.heap.size, 0, none⟩, (hin.2.2.1.cell 1).trans rfl, fun w2 h2 => check_any _ none 0 0 s w2 ((h2.2.1.cell 0).trans rfl), fun w2 h2 => sizes_zero _ none 0 w2 ((h2.2.1.cell 0).trans rfl), fun w2 h2 => clone_zero _ none 0 w2 ((h2.2.1.cell 0).trans rfl)⟩
        have HCK := Lib.hid hck
        have HSZ := Lib.hid hsz
        have HCL := Lib.hid hcl
        clear hck hsz hcl hin
        go_wp2_with (refine load_dt (.tmp 3) w.heap.size z am cm al cl at_ ct rfl rfl rfl HIN.out.2.2.2 ?_)
        refine (ext_err p s 1 z _ w.heap.size 2 wr (HD.out.below HIN.out.1) (by decide) (Lib.hid (fun w2 hb => HCK.out w2 (HIN.out.bel hb)))).mono ?_
        rintro e w6 ⟨rfl, hb6⟩
        have H6 := Lib.hid (HIN.out.bel hb6)
        clear hb6
        go_wp2_with fail
        refine (mark_err p s 2 w6 (by decide) (Lib.hid (HCK.out w6 H6.out))).mono ?_
        rintro e w7 ⟨rfl, rfl⟩
        go_wp2_with (refine load_dt (.tmp 3) w.heap.size z am cm al cl at_ ct rfl rfl rfl H6.out.2.2.2 ?_)
        refine (find_err p s z _ w.heap.size 2 w6 (HD.out.below H6.out.1) (by decide) (Lib.hid (fun w2 hb => HCK.out w2 (H6.out.bel hb)))).mono ?_
        rintro e w8 ⟨rfl, hb8⟩
        have H8 := Lib.hid (H6.out.bel hb8)
        clear hb8 hp
        go_upto_region 10 with (refine wpList_store_row rfl 49 (.tmp 13) (.tmp 59) rfl w8.heap.size (seenC Seen.zero) rfl rfl 49 (seenC Seen.zero) (heap_alloc_new w8 _) info_seen rfl (seenC_one _) ?_)
        generalize hX9 : (World.setRow (World.alloc w8 _) w8.heap.size (seenC Seen.zero)) = W9
        have hb9 : Below w8.heap.size w8 W9 := by rw [← hX9]; exact bel_row ((Below.refl _ _).alloc (Nat.le_refl _) _) _ _ (Nat.le_refl _)
        have hz9 : Da.Blk W9 w8.heap.size 49 (seenC Seen.zero) := by rw [← hX9]; exact setRow_heap _ _ (seenC Seen.zero) _ _ _ (heap_alloc_new w8 _)
        have H9 := Lib.hid (H8.out.bel hb9)
        have HZ9 := Lib.hid hz9
        clear hX9 hb9 hz9
        go_wp2_with (refine load_dt _ w.heap.size z am cm al cl at_ ct rfl rfl rfl H9.out.2.2.2 ?_)
        have HFI : Hid (∀ w2, Below W9.heap.size W9 w2 → Calls Try.prog 19 #[.pointer p, .int .i64 s, .agg (six z am cm al cl at_ ct)] w2 (FindIs Seen.zero 2 w2)) := Lib.hid (fun w2 hb =>
          find_err p s z _ w.heap.size 2 w2 (HD.out.below (H9.out.bel hb).1) (by decide) (Lib.hid (fun w3 hb3 => HCK.out w3 ((H9.out.bel hb).bel hb3))))
        refine (same_of p s s z z _ _ w.heap.size Seen.zero Seen.zero 2 2 W9 H9.out.1.size (HD.out.below H9.out.1) (HD.out.below H9.out.1) HFI HFI).mono ?_
        rintro e w10 ⟨rfl, hb10⟩
        rw [show sameB Seen.zero Seen.zero 2 2 = false from rfl, show sameE 2 2 = 2 from rfl]
        have H10 := Lib.hid (H9.out.bel hb10)
        have HZ10 := Lib.hid (show Da.Blk w10 w8.heap.size 49 (seenC Seen.zero) from (hb10.block _ (Array.getElem?_eq_some_iff.1 HZ9.out).1).trans HZ9.out)
        clear hb10
        go_wp2_with fail
        refine (HSZ.out w10 H10.out).mono ?_
        rintro e w11 ⟨rfl, rfl⟩
        have q0 : w10.cell? ⟨w8.heap.size, 0, none⟩ = some (.int .i64 0) := (HZ10.out.cell 0).trans rfl
        have q1 : w10.cell? ⟨w8.heap.size, 1, none⟩ = some (.int .i64 0) := (HZ10.out.cell 1).trans rfl
        have q2 : w10.cell? ⟨w8.heap.size, 2, none⟩ = some (.string ⟨#[]⟩) := (HZ10.out.cell 2).trans rfl
        have hnq := neq_seen0
        have hgd : ∀ w, (eqGuard BinOp.neq 49 (.tmp 82) (.tmp 83) (.agg #[.int .i64 0, .int .i64 0, .string ⟨#[]⟩]) (.agg #[.int .i64 0, .int .i64 0, .string ⟨#[]⟩])).run Try.prog w = .ok () w := guard_seen _ _ _ Seen.zero Seen.zero
        go_wp2_with fail
        refine (names_none p s 2 w10 (by decide) (Lib.hid (fun w2 hb => HCK.out w2 (H10.out.bel hb)))).mono ?_
        rintro e w12 ⟨rfl, hb12⟩
        have H12 := Lib.hid (H10.out.bel hb12)
        clear hb12 q0 q1 q2
        go_wp2_with fail
        refine (told_none 9 w12).mono ?_
        rintro e w13 ⟨rfl, hb13⟩
        have H13 := Lib.hid (H12.out.bel hb13)
        clear hb13
        go_wp2_with fail
        refine (HCL.out w13 H13.out).mono ?_
        rintro e w14 ⟨rfl, rfl⟩
        go_wp2_with fail
        go_roundw
        case rel => exact ⟨j + 1, hj2, by go_num, H13.out⟩
        case measure => simp [intOf]; omega
      · have dj : decide ((j : Int) < 2) = false := decide_eq_false (by omega)
        obtain rfl : j = 2 := by omega
        clear hin hj2
        go_wp2_with fail
        go_ret
        exact ⟨rfl, HIN.out.1⟩
  · go_wp2_with fail
    refine (awake_any w2).mono ?_
    rintro e w3 ⟨rfl, hb3⟩
    have HB3 := Lib.hid (HB2.out.trans (hb3.mono HB2.out.size))
    clear hb3
    go_wp2_with fail
    refine (awake_any w3).mono ?_
    rintro e w4 ⟨rfl, hb4⟩
    have HB4 := Lib.hid (HB3.out.trans (hb4.mono HB3.out.size))
    clear hb4
    go_wp2_with fail
    go_ret
    exact ⟨rfl, HB4.out⟩
end Go.Proofs.Yteolfkkabhileaa.Sc
end
