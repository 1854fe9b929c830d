/- A table behind acts (layer 5): the statements' own help. -/
import Derived.Test.YteolfkkabhileaaMScNone
section
namespace Go.Proofs.Yteolfkkabhileaa.Sc
open Go.ChangeShapes Go.WideShapes Go.ChangeAt Go.RowKit Go.Shelf
set_option linter.unusedVariables false
set_option linter.unusedSimpArgs false

/-- One act. -/
def stepT (T : Tab) (o : Opn) : Tab := if o.k = 0 then extT T o.s o.id o.n else if o.k = 1 then markT T o.s else T
def actsT (T : Tab) (l : List Opn) : Tab := l.foldl stepT T
theorem actsT_take {T : Tab} {l : List Opn} {k : Nat} {o : Opn} (h : l[k]? = some o) : actsT T (l.take (k + 1)) = stepT (actsT T (l.take k)) o := by
  obtain ⟨hlt, rfl⟩ := List.getElem?_eq_some_iff.1 h
  unfold actsT
  rw [List.take_succ_eq_append_getElem hlt, List.foldl_append]
  rfl
def MadeAt (l : List Opn) (n : Nat) (w : World) (tb : Nat) (T0 : Tab) (i : Value) (wr : World) : Prop :=
  ∃ k : Nat, k ≤ n ∧ i = .int .i64 (k : Int) ∧ TabIn wr tb (actsT T0 (l.take k)) (fun b => w.heap.size ≤ b) ∧ Below w.heap.size w wr
set_option maxRecDepth 100000 in
set_option maxHeartbeats 16000000 in
theorem made_acts (l : List Opn) (a : Option Addr) (c B : Nat) (w : World) (hB : B ≤ w.heap.size) (hcm : l.length ≤ maxLen) (h : IsOps w (Da.Lo B) a l) :
    Calls Try.prog 18 #[.slice a l.length c] w fun e w' => ∃ tb, e = .returned (.pointer (some ⟨tb, 0, none⟩)) ∧ TabIn w' tb (actsT Tab.new l) (fun b => w.heap.size ≤ b) ∧ Below w.heap.size w w' := by
  unfold maxLen at hcm
  have HO := Lib.hid h
  clear h
  go_enter Try.func18, Try.ntmps18
  go_wp2_with fail
  refine (new_any w).mono ?_
  rintro e w1 ⟨rfl, h1, hb1⟩
  obtain ⟨tb, htb⟩ : ∃ tb, w.heap.size + 2 = tb := ⟨_, rfl⟩
  rw [htb] at h1 ⊢
  have H1 := Lib.hid h1
  have HB1 := Lib.hid hb1
  clear h1 hb1 htb
  go_wp2_with fail
  go_loopw [11] (fun i wr => MadeAt l l.length w tb Tab.new i wr) (fun i _ => l.length - (intOf i).toNat)
  case atStart => exact ⟨0, Nat.zero_le _, rfl, H1.out, HB1.out⟩
  case round =>
    obtain ⟨k, hk, rfl, htab, hbel⟩ := hrel
    have HBL := Lib.hid hbel
    have HT := Lib.hid htab
    by_cases hlk : k < l.length
    · have dl : decide ((k : Int) < (l.length : Int)) = true := decide_eq_true (by omega)
      have i0 : (0 : Int) ≤ (k : Int) := Int.natCast_nonneg _
      have i1 : (k : Int) < (l.length : Int) := by omega
      obtain ⟨o, ho⟩ : ∃ o, l[k]? = some o := ⟨l[k], List.getElem?_eq_getElem _⟩
      obtain ⟨g, off, rfl, hg, x, y, hat, hid, hnd, hwn⟩ := (HO.out.below (hbel.mono hB)) k o ho
      have HAT := Lib.hid hat
      have HID := Lib.hid hid
      have HWN := Lib.hid hwn
      have HST := Lib.hid (actsT_take (T := Tab.new) ho)
      have hszr := hbel.size
      clear hat hid hnd hwn ho hbel htab
      go_upto_region 7 with (first | (refine load_list (.tmp 13) 35 g (off + k * 16) (opL o x y) _ rfl rfl rfl HAT.out Try.underlying35 rfl info_op ?_) | (refine wpList_store_row rfl 35 (.tmp 5) (.tmp 14) rfl wr.heap.size (opL o x y).toArray rfl rfl 35 opZ (heap_alloc_new wr _) info_op rfl (opL_one _ _ _) ?_))
      generalize hX4 : (World.setRow (World.alloc wr _) wr.heap.size (opL o x y).toArray) = W4
      have hb4 : Below wr.heap.size wr W4 := by rw [← hX4]; exact bel_row ((Below.refl _ _).alloc (Nat.le_refl _) _) _ _ (Nat.le_refl _)
      have hz4 : Da.Blk W4 wr.heap.size 35 (opL o x y).toArray := by rw [← hX4]; exact setRow_heap _ _ opZ _ _ _ (heap_alloc_new wr _)
      have HB4 := Lib.hid (HBL.out.trans (hb4.mono hszr))
      have HT4 := Lib.hid (HT.out.bel hb4)
      have HID4 := Lib.hid (HID.out.below (hb4.mono (Nat.le_trans hB hszr)))
      have hs4 : w.heap.size ≤ W4.heap.size := Nat.le_trans hszr hb4.size
      have c0 : W4.cell? ⟨wr.heap.size, 0, none⟩ = some (.int .i64 o.k) := (hz4.cell 0).trans rfl
      have c1 : W4.cell? ⟨wr.heap.size, 1, none⟩ = some (.int .i64 o.s) := (hz4.cell 1).trans rfl
      have c15 : W4.cell? ⟨wr.heap.size, 15, none⟩ = some (.int .i64 o.n) := (hz4.cell 15).trans rfl
      have HZ4 := Lib.hid hz4
      clear hX4 hb4 hz4
      by_cases hk0 : o.k = 0
      · have d0 : (o.k == 0) = true := by rw [hk0]; rfl
        have HK := Lib.hid hk0
        clear hk0
        go_wp2_with (refine load_list (.tmp 22) 33 wr.heap.size 3 (sixL o.id x) _ rfl rfl rfl (at_id HZ4.out) Try.underlying33 rfl info_dat6 ?_)
        refine (ext_all tb (actsT Tab.new (l.take k)) _ o.s o.n o.id _ B W4 HID4.out (Nat.le_trans hB hs4) HT4.out HWN.out).mono ?_
        rintro e w5 ⟨rfl, h5, hc5⟩
        have H5 := Lib.hid (h5.step hs4)
        have HB5 := Lib.hid (HB4.out.trans (hc5.to_below hs4 (fun j hj => hj)))
        clear h5 hc5
        go_wp2_with fail
        go_roundw
        case rel => exact ⟨k + 1, hlk, by go_num, by rw [HST.out, stepT, if_pos HK.out]; exact H5.out, HB5.out⟩
        case measure => simp [intOf]; omega
      · have d0 : (o.k == 0) = false := by rw [beq_eq_false_iff_ne]; exact hk0
        by_cases hk1 : o.k = 1
        · have d1 : (o.k == 1) = true := by rw [hk1]; rfl
          have HK := Lib.hid (And.intro hk0 hk1)
          clear hk0 hk1
          go_wp2_with fail
          refine (mark_all tb (actsT Tab.new (l.take k)) _ o.s W4 HT4.out).mono ?_
          rintro e w5 ⟨rfl, h5, hc5⟩
          have H5 := Lib.hid (h5.step hs4)
          have HB5 := Lib.hid (HB4.out.trans (hc5.to_below hs4 (fun j hj => hj)))
          clear h5 hc5
          go_wp2_with fail
          go_roundw
          case rel => exact ⟨k + 1, hlk, by go_num, by rw [HST.out, stepT, if_neg HK.out.1, if_pos HK.out.2]; exact H5.out, HB5.out⟩
          case measure => simp [intOf]; omega
        · have d1 : (o.k == 1) = false := by rw [beq_eq_false_iff_ne]; exact hk1
          have HK := Lib.hid (And.intro hk0 hk1)
          clear hk0 hk1
          go_wp2_with fail
          go_roundw
          case rel => exact ⟨k + 1, hlk, by go_num, by rw [HST.out, stepT, if_neg HK.out.1, if_neg HK.out.2]; exact HT4.out, HB4.out⟩
          case measure => simp [intOf]; omega
    · have dl : decide ((k : Int) < (l.length : Int)) = false := decide_eq_false (by omega)
      obtain rfl : k = l.length := by omega
      clear htab hbel
      go_wp2_with fail
      go_ret
      refine ⟨tb, rfl, ?_, HBL.out⟩
      have := HT.out
      rw [List.take_length] at this
      exact this
end Go.Proofs.Yteolfkkabhileaa.Sc
end
