/- P3.5: in every text that has words each word's bytes alone are that word: the walk. -/
import Derived.Test.YtcnhoogljagkhaaLexApartMath2
import Derived.Test.YtcnhoogljagkhaaLexSame
import Derived.Test.YtcnhoogljagkhaaOrd2
import Derived.Deep.Cut
import Derived.IntWalk
namespace Go.Proofs.Ytcnhoogljagkhaa.Od
open Go Go.RowKit
section
variable {P : Program} {ops : Array Oper} {Q : Exit → Act → World → Prop} {md : Region.Mode} {S T : World → Prop} {s : Nat}
/-- There are two steps that may come up. -/
theorem Till.pair {i j : Nat} {o p : Oper} {n : Nat} {listed : Array Bool} {a : Act} {w : World} (hr : Region.ready md ops listed = [i, j]) (ho : ops[i]? = some o) (hp : ops[j]? = some p)
    (h1 : ∀ K' : Act → World → Prop, Hid (∀ a w, (((listed.setIfInBounds i true).getD s false = false → S w) ∧ T w) → Till P md ops Q S T s n (listed.setIfInBounds i true) a w → K' a w) →
      if Region.wanted o (yielded ops a.tmps) = true then Oper.wp P o a w K' Q else K' (a.put o.dst undef) w)
    (h2 : ∀ K' : Act → World → Prop, Hid (∀ a w, (((listed.setIfInBounds j true).getD s false = false → S w) ∧ T w) → Till P md ops Q S T s n (listed.setIfInBounds j true) a w → K' a w) →
      if Region.wanted p (yielded ops a.tmps) = true then Oper.wp P p a w K' Q else K' (a.put p.dst undef) w) : Till P md ops Q S T s (n + 1) listed a w := by
  refine ⟨fun h0 => (by rw [hr] at h0; cases h0), fun k hk => ?_⟩
  rw [hr] at hk
  simp only [List.mem_cons, List.not_mem_nil, or_false] at hk
  rcases hk with rfl | rfl
  · exact wpOp_step ho (fun K' hK => h1 K' (fun a w c1 c2 => hK a w ⟨c1, c2⟩))
  · exact wpOp_step hp (fun K' hK => h2 K' (fun a w c1 c2 => hK a w ⟨c1, c2⟩))
end
end Go.Proofs.Ytcnhoogljagkhaa.Od
namespace Go.Proofs.Ytcnhoogljagkhaa.Lx
open Go.ChangeShapes Go.WideShapes Go.ChangeAt Go.RowKit
set_option linter.unusedVariables false
set_option linter.unusedSimpArgs false

theorem bel_drew (w : World) : Below w.heap.size w w.drew := ⟨rfl, rfl, rfl, Nat.le_refl _, fun _ _ => rfl⟩
/-- One word in five cells. -/
theorem TkIs.one {w : World} {g o : Nat} {t : Tk} (c0 : w.cell? ⟨g, o, none⟩ = some (.int .i64 t.k)) (c1 : w.cell? ⟨g, o + 1, none⟩ = some (.int .i64 t.a)) (c2 : w.cell? ⟨g, o + 2, none⟩ = some (.int .i64 t.z)) (c3 : w.cell? ⟨g, o + 3, none⟩ = some (.int .i64 t.n)) (c4 : w.cell? ⟨g, o + 4, none⟩ = some (.string ⟨t.S.toArray⟩)) : TkIs w (some ⟨g, o, none⟩) [t] :=
  .inr ⟨g, o, rfl, fun i hi => by
    obtain rfl : i = 0 := by simpa using hi
    exact ⟨c0, c1, c2, c3, c4⟩⟩
def ApartAt (l : Bs) (toks : List Tk) (v : Option Addr) (w : World) (x i : Value) (wr : World) : Prop :=
  ∃ j p : Nat, j ≤ toks.length ∧ i = .int .i64 (j : Int) ∧ x = .int .i64 (p : Int) ∧ Apart l p (toks.drop j) ∧ TkIs wr v toks ∧ Below w.heap.size w wr
set_option maxRecDepth 100000 in
set_option maxHeartbeats 8000000 in
theorem apart_walk (s : ByteArray) (w : World) (hs : s.size ≤ maxLen) :
    Calls Try.prog 7 #[.string s] w fun e w' => e = .returned (.bool true) ∧ Below w.heap.size w w' := by
  have Hs := Lib.hid hs
  unfold maxLen at hs
  obtain ⟨R, hR⟩ : ∃ R, wordsR s.data.toList = R := ⟨_, rfl⟩
  have HWA := Lib.hid (words_any s · Hs.out)
  rw [hR] at HWA
  have HR := Lib.hid hR
  clear hR
  obtain ⟨toks, p0, e0⟩ := R
  by_cases h0 : e0 = 0
  · subst h0
    obtain ⟨hl, hok, hap⟩ := wordsR_ok HR.out
    rw [len_of] at hl
    have HOK := Lib.hid hok
    have HAP := Lib.hid hap
    clear hok hap
    by_cases h100 : toks.length > 100
    · have d100 : decide ((toks.length : Int) > 100) = true := by simp; omega
      go_enter Try.func7, Try.ntmps7
      go_wp2_with fail
      refine (HWA.out _).mono ?_
      rintro e w1 ⟨va, vc, rfl, hb, hown⟩
      have HB := Lib.hid hb
      clear hb hown
      go_wp2_with fail
      refine (awake_yes _).mono ?_
      rintro e w2 ⟨rfl, hb⟩
      replace HB := Lib.hid (bel_trans HB.out hb)
      clear hb
      go_wp2_with fail
      refine (awake_yes _).mono ?_
      rintro e w3 ⟨rfl, hb⟩
      replace HB := Lib.hid (bel_trans HB.out hb)
      clear hb
      go_wp2_with fail
      go_ret
      exact ⟨rfl, HB.out⟩
    · have d100 : decide ((toks.length : Int) > 100) = false := by simp; omega
      have dz : decide ((s.size : Int) > 16384) = false := by simp; omega
      go_enter Try.func7, Try.ntmps7
      go_wp2_with fail
      refine (HWA.out _).mono ?_
      rintro e w1 ⟨va, vc, rfl, hb, hown⟩
      simp only at hown
      have HT := Lib.hid (TkIs.of_own hown)
      have HB := Lib.hid hb
      clear hb hown
      go_wp2_with fail
      refine (awake_yes _).mono ?_
      rintro e w2 ⟨rfl, hb⟩
      replace HT := Lib.hid (HT.out.bel hb)
      replace HB := Lib.hid (bel_trans HB.out hb)
      clear hb
      go_wp2_with fail
      clear HWA HR
      go_loopw [6, 37] (fun x i wr => ApartAt s.data.toList toks va w x i wr) (fun _ i _ => toks.length - (intOf i).toNat)
      case atStart => exact ⟨0, 0, Nat.zero_le _, rfl, rfl, by rw [List.drop_zero]; exact HAP.out, HT.out, HB.out⟩
      case round =>
        clear HT HB HAP
        obtain ⟨j, p, hj, rfl, rfl, hap, htk, hbel⟩ := hrel
        by_cases hlt : j < toks.length
        · have dl : decide ((j : Int) < (toks.length : Int)) = true := by simp [hlt]
          have i1 : (j : Int) < (toks.length : Int) := by omega
          have hdr : toks.drop j = toks[j] :: toks.drop (j + 1) := List.drop_eq_getElem_cons hlt
          rw [hdr] at hap
          obtain ⟨a, h1, h2, hg, hc, he, ht, hnext⟩ := hap
          have hone := apart_one (by rw [len_of]; exact hl) HOK.out h2 hg hc he
          have hz := scanR_z (drop_ne h2) he
          rw [List.length_drop, len_of] at hz
          rcases htk with h | ⟨gt, ot, rfl, hcell⟩
          · exact absurd hlt (by rw [h]; simp)
          obtain ⟨l0, l1, l2, l3, l4⟩ := hcell j hlt
          rw [ht] at l0 l1 l2 l3 l4
          have HTK := Lib.hid (show TkIs wr (some ⟨gt, ot, none⟩) toks from .inr ⟨gt, ot, rfl, hcell⟩)
          clear ht hcell hg hc he hdr
          generalize scanR (s.data.toList.drop a) = R at *
          obtain ⟨k, n, S, z, e⟩ := R
          simp only [Sc.tk] at l0 l1 l2 l3 l4 hone hnext hz
          obtain ⟨A, hA⟩ : ∃ A : Int, (a : Int) = A := ⟨_, rfl⟩
          obtain ⟨Z, hZ⟩ : ∃ Z : Int, ((a + z : Nat) : Int) = Z := ⟨_, rfl⟩
          rw [hA] at l1
          rw [hZ] at l2
          rw [len_of] at h2
          have b1 : (p : Int) ≤ A := by omega
          have b2 : A < Z := by omega
          have b3 : Z ≤ (s.size : Int) := by omega
          have b0 : 0 ≤ A := by omega
          have f1 : decide (A < (p : Int)) = false := by simp; omega
          have f2 : decide (Z ≤ A) = false := by simp; omega
          have f3 : decide (Z > (s.size : Int)) = false := by simp; omega
          have hr2 := run_sub s A Z b0 (by omega) b3
          have hu : (s.extract A.toNat Z.toNat).data.toList = (s.data.toList.drop a).take z := by rw [Lib.extract_data]; rw [show A.toNat = a by omega, show Z.toNat - a = z by omega]
          have huz := ext_le s A.toNat Z.toNat
          generalize s.extract A.toNat Z.toNat = u at *
          have HU : Hid (∀ w, Calls Try.prog 10 #[.string u] w (WordsP ⟨[⟨k, 0, Z - A, n, S⟩], 0, 0⟩ w)) := fun w => by
            have hx := words_any u w (Nat.le_trans huz Hs.out)
            rw [hu, hone, show (((0 : Nat) + z : Nat) : Int) = Z - A by omega] at hx
            exact hx
          have hpz : Hid (Z = ((a + z : Nat) : Int)) := hZ.symm
          have HN := Lib.hid hnext
          have HB := Lib.hid hbel
          have hszw := hbel.size
          clear hbel hnext hone hu huz hA hZ h1 h2 hz
          go_wp2_with fail
          refine (HU.out _).mono ?_
          rintro e3 w3 ⟨xa, cx, rfl, hb, hown⟩
          simp only at hown
          have hox := own_some hown (Nat.zero_lt_one)
          obtain ⟨gx, rfl, hcx, hcell⟩ := hox
          have BT := (show Blk (wr.alloc (.cells #[.int .i64 k, .int .i64 A, .int .i64 Z, .int .i64 n, .string ⟨S.toArray⟩] 35)) wr.heap.size 35 #[.int .i64 k, .int .i64 A, .int .i64 Z, .int .i64 n, .string ⟨S.toArray⟩] from heap_alloc_new wr _).bel hb
          have t0 : w3.cell? ⟨wr.heap.size, 0, none⟩ = some (.int .i64 k) := (BT.cell 0).trans rfl
          have t1 : w3.cell? ⟨wr.heap.size, 1, none⟩ = some (.int .i64 A) := (BT.cell 1).trans rfl
          have t2 : w3.cell? ⟨wr.heap.size, 2, none⟩ = some (.int .i64 Z) := (BT.cell 2).trans rfl
          have t3 : w3.cell? ⟨wr.heap.size, 3, none⟩ = some (.int .i64 n) := (BT.cell 3).trans rfl
          have t4 : w3.cell? ⟨wr.heap.size, 4, none⟩ = some (.string ⟨S.toArray⟩) := (BT.cell 4).trans rfl
          have x0 : w3.cell? ⟨gx, 0, none⟩ = some (.int .i64 k) := hcell 0 _ rfl
          have x1 : w3.cell? ⟨gx, 1, none⟩ = some (.int .i64 0) := hcell 1 _ rfl
          have x2 : w3.cell? ⟨gx, 2, none⟩ = some (.int .i64 (Z - A)) := hcell 2 _ rfl
          have x3 : w3.cell? ⟨gx, 3, none⟩ = some (.int .i64 n) := hcell 3 _ rfl
          have x4 : w3.cell? ⟨gx, 4, none⟩ = some (.string ⟨S.toArray⟩) := hcell 4 _ rfl
          have z8 : wr.heap.size < w3.heap.size := BT.lt
          have zx : gx < w3.heap.size := (hown.lt gx rfl).2
          have HW := Lib.hid (bel_trans (bel_alloc wr (.cells #[.int .i64 k, .int .i64 A, .int .i64 Z, .int .i64 n, .string ⟨S.toArray⟩] 35)) hb)
          replace HTK := Lib.hid (HTK.out.bel HW.out)
          clear hb hown hcell BT l0 l1 l2 l3 l4 HU hr2
          have hX1 : (List.length [(⟨k, 0, Z - A, n, S⟩ : Tk)]) = 1 := rfl
          rw [hX1]
          clear hX1
          go_upto_region 11 with (fail)
          clear f1 f2 f3 dl
          have hwr : IntKind.i64.wrap (Z - A) = Z - A := by rw [IntWalk.i64_left, IntWalk.wrap64_in _ (by omega)]
          have hb := bel_drew w3
          replace t0 := (hb.cell (p := ⟨wr.heap.size, 0, none⟩) z8).trans t0
          replace t1 := (hb.cell (p := ⟨wr.heap.size, 1, none⟩) z8).trans t1
          replace t2 := (hb.cell (p := ⟨wr.heap.size, 2, none⟩) z8).trans t2
          replace t3 := (hb.cell (p := ⟨wr.heap.size, 3, none⟩) z8).trans t3
          replace t4 := (hb.cell (p := ⟨wr.heap.size, 4, none⟩) z8).trans t4
          replace x0 := (hb.cell (p := ⟨gx, 0, none⟩) zx).trans x0
          replace x1 := (hb.cell (p := ⟨gx, 1, none⟩) zx).trans x1
          replace x2 := (hb.cell (p := ⟨gx, 2, none⟩) zx).trans x2
          replace x3 := (hb.cell (p := ⟨gx, 3, none⟩) zx).trans x3
          replace x4 := (hb.cell (p := ⟨gx, 4, none⟩) zx).trans x4
          replace z8 : wr.heap.size < w3.drew.heap.size := z8
          replace zx : gx < w3.drew.heap.size := zx
          replace HW := Lib.hid (HW.out.trans (hb.mono HW.out.size))
          replace HTK := Lib.hid (HTK.out.bel hb)
          clear hb
          have hT0 : (fun w' : World => w'.cell? ⟨wr.heap.size, 0, none⟩ = some (.int .i64 k) ∧ w'.cell? ⟨wr.heap.size, 1, none⟩ = some (.int .i64 A) ∧ w'.cell? ⟨wr.heap.size, 2, none⟩ = some (.int .i64 Z) ∧ w'.cell? ⟨wr.heap.size, 3, none⟩ = some (.int .i64 n) ∧ w'.cell? ⟨wr.heap.size, 4, none⟩ = some (.string ⟨S.toArray⟩) ∧ w'.cell? ⟨gx, 0, none⟩ = some (.int .i64 k) ∧ w'.cell? ⟨gx, 1, none⟩ = some (.int .i64 0) ∧ w'.cell? ⟨gx, 2, none⟩ = some (.int .i64 (Z - A)) ∧ w'.cell? ⟨gx, 3, none⟩ = some (.int .i64 n) ∧ w'.cell? ⟨gx, 4, none⟩ = some (.string ⟨S.toArray⟩)) w3.drew := ⟨t0, t1, t2, t3, t4, x0, x1, x2, x3, x4⟩
          refine Od.till_region 32 (fun _ : World => True) (fun w' : World => w'.cell? ⟨wr.heap.size, 0, none⟩ = some (.int .i64 k) ∧ w'.cell? ⟨wr.heap.size, 1, none⟩ = some (.int .i64 A) ∧ w'.cell? ⟨wr.heap.size, 2, none⟩ = some (.int .i64 Z) ∧ w'.cell? ⟨wr.heap.size, 3, none⟩ = some (.int .i64 n) ∧ w'.cell? ⟨wr.heap.size, 4, none⟩ = some (.string ⟨S.toArray⟩) ∧ w'.cell? ⟨gx, 0, none⟩ = some (.int .i64 k) ∧ w'.cell? ⟨gx, 1, none⟩ = some (.int .i64 0) ∧ w'.cell? ⟨gx, 2, none⟩ = some (.int .i64 (Z - A)) ∧ w'.cell? ⟨gx, 3, none⟩ = some (.int .i64 n) ∧ w'.cell? ⟨gx, 4, none⟩ = some (.string ⟨S.toArray⟩)) 35 (by kernel_rfl) rfl ?_
          simp only [Array.replicate_succ, Array.replicate_zero, List.push_toArray, List.nil_append, List.cons_append]
          refine Od.Till.takeT (i := 0) (d := 70) (v := .int .i64 0) rfl rfl (by kernel_rfl) (by kernel_rfl) (by kernel_rfl) (by kernel_rfl) (fun _ _ _ h => h) (.inl ⟨by rfl, ?_⟩) trivial hT0 ?_
          · intro wx hSw
            clear hSw
            go_simp
          simp only [Act.put, List.setIfInBounds_toArray, List.set_cons_zero, List.set_cons_succ]
          refine Od.Till.takeT (i := 1) (d := 71) (v := .bool false) rfl rfl (by kernel_rfl) (by kernel_rfl) (by kernel_rfl) (by kernel_rfl) (fun _ _ _ h => h) (.inl ⟨by rfl, ?_⟩) trivial hT0 ?_
          · intro wx hSw
            clear hSw
            go_simp
          simp only [Act.put, List.setIfInBounds_toArray, List.set_cons_zero, List.set_cons_succ]
          refine Od.Till.takeT (i := 2) (d := 72) (v := .bool false) rfl rfl (by kernel_rfl) (by kernel_rfl) (by kernel_rfl) (by kernel_rfl) (fun _ _ _ h => h) (.inl ⟨by rfl, ?_⟩) trivial hT0 ?_
          · intro wx hSw
            clear hSw
            go_simp
          simp only [Act.put, List.setIfInBounds_toArray, List.set_cons_zero, List.set_cons_succ]
          refine Od.Till.takeT (i := 3) (d := 73) (v := .slice (some ⟨gx, 0, none⟩) 1 cx) rfl rfl (by kernel_rfl) (by kernel_rfl) (by kernel_rfl) (by kernel_rfl) (fun _ _ _ h => h) (.inl ⟨by rfl, ?_⟩) trivial hT0 ?_
          · intro wx hSw
            clear hSw
            go_simp
          simp only [Act.put, List.setIfInBounds_toArray, List.set_cons_zero, List.set_cons_succ]
          refine Od.Till.takeT (i := 4) (d := 74) (v := .int .i64 1) rfl rfl (by kernel_rfl) (by kernel_rfl) (by kernel_rfl) (by kernel_rfl) (fun _ _ _ h => h) (.inl ⟨by rfl, ?_⟩) trivial hT0 ?_
          · intro wx hSw
            clear hSw
            go_simp
          simp only [Act.put, List.setIfInBounds_toArray, List.set_cons_zero, List.set_cons_succ]
          refine Od.Till.takeT (i := 5) (d := 75) (v := .bool false) rfl rfl (by kernel_rfl) (by kernel_rfl) (by kernel_rfl) (by kernel_rfl) (fun _ _ _ h => h) (.inl ⟨by rfl, ?_⟩) trivial hT0 ?_
          · intro wx hSw
            clear hSw
            go_simp
          simp only [Act.put, List.setIfInBounds_toArray, List.set_cons_zero, List.set_cons_succ]
          refine Od.Till.takeT (i := 6) (d := 76) (v := .bool false) rfl rfl (by kernel_rfl) (by kernel_rfl) (by kernel_rfl) (by kernel_rfl) (fun _ _ _ h => h) (.inl ⟨by rfl, ?_⟩) trivial hT0 ?_
          · intro wx hSw
            clear hSw
            go_simp
          simp only [Act.put, List.setIfInBounds_toArray, List.set_cons_zero, List.set_cons_succ]
          refine Od.Till.takeT (i := 7) (d := 77) (v := .bool false) rfl rfl (by kernel_rfl) (by kernel_rfl) (by kernel_rfl) (by kernel_rfl) (fun _ _ _ h => h) (.inl ⟨by rfl, ?_⟩) trivial hT0 ?_
          · intro wx hSw
            clear hSw
            go_simp
          simp only [Act.put, List.setIfInBounds_toArray, List.set_cons_zero, List.set_cons_succ]
          refine Od.Till.takeT (i := 8) (d := 78) (v := .slice (some ⟨gx, 0, none⟩) 1 cx) rfl rfl (by kernel_rfl) (by kernel_rfl) (by kernel_rfl) (by kernel_rfl) (fun _ _ _ h => h) (.inl ⟨by rfl, ?_⟩) trivial hT0 ?_
          · intro wx hSw
            clear hSw
            go_simp
          simp only [Act.put, List.setIfInBounds_toArray, List.set_cons_zero, List.set_cons_succ]
          refine Od.Till.takeT (i := 9) (d := 79) (v := .pointer (some ⟨gx, 0, none⟩)) rfl rfl (by kernel_rfl) (by kernel_rfl) (by kernel_rfl) (by kernel_rfl) (fun _ _ _ h => h) (.inl ⟨by rfl, ?_⟩) trivial hT0 ?_
          · intro wx hSw
            clear hSw
            go_simp
          simp only [Act.put, List.setIfInBounds_toArray, List.set_cons_zero, List.set_cons_succ]
          refine Od.Till.takeT (i := 10) (d := 80) (v := .pointer (some ⟨gx, 1, none⟩)) rfl rfl (by kernel_rfl) (by kernel_rfl) (by kernel_rfl) (by kernel_rfl) (fun _ _ _ h => h) (.inl ⟨by rfl, ?_⟩) trivial hT0 ?_
          · intro wx hSw
            clear hSw
            go_simp
          simp only [Act.put, List.setIfInBounds_toArray, List.set_cons_zero, List.set_cons_succ]
          refine Od.Till.takeT (i := 11) (d := 81) (v := .int .i64 0) rfl rfl (by kernel_rfl) (by kernel_rfl) (by kernel_rfl) (by kernel_rfl) (fun _ _ _ h => h) (.inl ⟨by rfl, ?_⟩) trivial hT0 ?_
          · intro wx hSw
            obtain ⟨j0, j1, j2, j3, j4, j5, j6, j7, j8, j9⟩ := hSw
            go_simp
          simp only [Act.put, List.setIfInBounds_toArray, List.set_cons_zero, List.set_cons_succ]
          refine Od.Till.takeT (i := 12) (d := 82) (v := .bool false) rfl rfl (by kernel_rfl) (by kernel_rfl) (by kernel_rfl) (by kernel_rfl) (fun _ _ _ h => h) (.inl ⟨by rfl, ?_⟩) trivial hT0 ?_
          · intro wx hSw
            clear hSw
            go_simp
          simp only [Act.put, List.setIfInBounds_toArray, List.set_cons_zero, List.set_cons_succ]
          refine Od.Till.takeT (i := 13) (d := 83) (v := .bool false) rfl rfl (by kernel_rfl) (by kernel_rfl) (by kernel_rfl) (by kernel_rfl) (fun _ _ _ h => h) (.inl ⟨by rfl, ?_⟩) trivial hT0 ?_
          · intro wx hSw
            clear hSw
            go_simp
          simp only [Act.put, List.setIfInBounds_toArray, List.set_cons_zero, List.set_cons_succ]
          refine Od.Till.takeT (i := 14) (d := 84) (v := .bool false) rfl rfl (by kernel_rfl) (by kernel_rfl) (by kernel_rfl) (by kernel_rfl) (fun _ _ _ h => h) (.inl ⟨by rfl, ?_⟩) trivial hT0 ?_
          · intro wx hSw
            clear hSw
            go_simp
          simp only [Act.put, List.setIfInBounds_toArray, List.set_cons_zero, List.set_cons_succ]
          refine Od.Till.takeT (i := 15) (d := 85) (v := .slice (some ⟨gx, 0, none⟩) 1 cx) rfl rfl (by kernel_rfl) (by kernel_rfl) (by kernel_rfl) (by kernel_rfl) (fun _ _ _ h => h) (.inl ⟨by rfl, ?_⟩) trivial hT0 ?_
          · intro wx hSw
            clear hSw
            go_simp
          simp only [Act.put, List.setIfInBounds_toArray, List.set_cons_zero, List.set_cons_succ]
          refine Od.Till.takeT (i := 16) (d := 86) (v := .pointer (some ⟨gx, 0, none⟩)) rfl rfl (by kernel_rfl) (by kernel_rfl) (by kernel_rfl) (by kernel_rfl) (fun _ _ _ h => h) (.inl ⟨by rfl, ?_⟩) trivial hT0 ?_
          · intro wx hSw
            clear hSw
            go_simp
          simp only [Act.put, List.setIfInBounds_toArray, List.set_cons_zero, List.set_cons_succ]
          refine Od.Till.takeT (i := 17) (d := 87) (v := .pointer (some ⟨gx, 2, none⟩)) rfl rfl (by kernel_rfl) (by kernel_rfl) (by kernel_rfl) (by kernel_rfl) (fun _ _ _ h => h) (.inl ⟨by rfl, ?_⟩) trivial hT0 ?_
          · intro wx hSw
            clear hSw
            go_simp
          simp only [Act.put, List.setIfInBounds_toArray, List.set_cons_zero, List.set_cons_succ]
          refine Od.Till.takeT (i := 18) (d := 88) (v := .int .i64 (Z - A)) rfl rfl (by kernel_rfl) (by kernel_rfl) (by kernel_rfl) (by kernel_rfl) (fun _ _ _ h => h) (.inl ⟨by rfl, ?_⟩) trivial hT0 ?_
          · intro wx hSw
            obtain ⟨j0, j1, j2, j3, j4, j5, j6, j7, j8, j9⟩ := hSw
            go_simp
          simp only [Act.put, List.setIfInBounds_toArray, List.set_cons_zero, List.set_cons_succ]
          refine Od.Till.takeT (i := 19) (d := 89) (v := .pointer (some ⟨wr.heap.size, 2, none⟩)) rfl rfl (by kernel_rfl) (by kernel_rfl) (by kernel_rfl) (by kernel_rfl) (fun _ _ _ h => h) (.inl ⟨by rfl, ?_⟩) trivial hT0 ?_
          · intro wx hSw
            clear hSw
            go_simp
          simp only [Act.put, List.setIfInBounds_toArray, List.set_cons_zero, List.set_cons_succ]
          refine Od.Till.takeT (i := 20) (d := 90) (v := .int .i64 Z) rfl rfl (by kernel_rfl) (by kernel_rfl) (by kernel_rfl) (by kernel_rfl) (fun _ _ _ h => h) (.inl ⟨by rfl, ?_⟩) trivial hT0 ?_
          · intro wx hSw
            obtain ⟨j0, j1, j2, j3, j4, j5, j6, j7, j8, j9⟩ := hSw
            go_simp
          simp only [Act.put, List.setIfInBounds_toArray, List.set_cons_zero, List.set_cons_succ]
          refine Od.Till.takeT (i := 21) (d := 91) (v := .pointer (some ⟨wr.heap.size, 1, none⟩)) rfl rfl (by kernel_rfl) (by kernel_rfl) (by kernel_rfl) (by kernel_rfl) (fun _ _ _ h => h) (.inl ⟨by rfl, ?_⟩) trivial hT0 ?_
          · intro wx hSw
            clear hSw
            go_simp
          simp only [Act.put, List.setIfInBounds_toArray, List.set_cons_zero, List.set_cons_succ]
          refine Od.Till.takeT (i := 22) (d := 92) (v := .int .i64 A) rfl rfl (by kernel_rfl) (by kernel_rfl) (by kernel_rfl) (by kernel_rfl) (fun _ _ _ h => h) (.inl ⟨by rfl, ?_⟩) trivial hT0 ?_
          · intro wx hSw
            obtain ⟨j0, j1, j2, j3, j4, j5, j6, j7, j8, j9⟩ := hSw
            go_simp
          simp only [Act.put, List.setIfInBounds_toArray, List.set_cons_zero, List.set_cons_succ]
          refine Od.Till.takeT (i := 23) (d := 93) (v := .int .i64 (Z - A)) rfl rfl (by kernel_rfl) (by kernel_rfl) (by kernel_rfl) (by kernel_rfl) (fun _ _ _ h => h) (.inl ⟨by rfl, ?_⟩) trivial hT0 ?_
          · intro wx hSw
            clear hSw
            go_simp
          simp only [Act.put, List.setIfInBounds_toArray, List.set_cons_zero, List.set_cons_succ]
          refine Od.Till.takeT (i := 24) (d := 94) (v := .bool false) rfl rfl (by kernel_rfl) (by kernel_rfl) (by kernel_rfl) (by kernel_rfl) (fun _ _ _ h => h) (.inl ⟨by rfl, ?_⟩) trivial hT0 ?_
          · intro wx hSw
            clear hSw
            go_simp
          simp only [Act.put, List.setIfInBounds_toArray, List.set_cons_zero, List.set_cons_succ]
          refine Od.Till.takeT (i := 25) (d := 95) (v := .bool false) rfl rfl (by kernel_rfl) (by kernel_rfl) (by kernel_rfl) (by kernel_rfl) (fun _ _ _ h => h) (.inl ⟨by rfl, ?_⟩) trivial hT0 ?_
          · intro wx hSw
            clear hSw
            go_simp
          simp only [Act.put, List.setIfInBounds_toArray, List.set_cons_zero, List.set_cons_succ]
          refine Od.Till.takeT (i := 26) (d := 96) (v := .bool false) rfl rfl (by kernel_rfl) (by kernel_rfl) (by kernel_rfl) (by kernel_rfl) (fun _ _ _ h => h) (.inl ⟨by rfl, ?_⟩) trivial hT0 ?_
          · intro wx hSw
            clear hSw
            go_simp
          simp only [Act.put, List.setIfInBounds_toArray, List.set_cons_zero, List.set_cons_succ]
          refine Od.Till.takeT (i := 27) (d := 97) (v := .slice (some ⟨gx, 0, none⟩) 1 cx) rfl rfl (by kernel_rfl) (by kernel_rfl) (by kernel_rfl) (by kernel_rfl) (fun _ _ _ h => h) (.inl ⟨by rfl, ?_⟩) trivial hT0 ?_
          · intro wx hSw
            clear hSw
            go_simp
          simp only [Act.put, List.setIfInBounds_toArray, List.set_cons_zero, List.set_cons_succ]
          refine Od.Till.takeT (i := 29) (d := 99) (v := .agg #[.int .i64 k, .int .i64 A, .int .i64 Z, .int .i64 n, .string ⟨S.toArray⟩]) rfl rfl (by kernel_rfl) (by kernel_rfl) (by kernel_rfl) (by kernel_rfl) (fun _ _ _ h => h) (.inl ⟨by rfl, ?_⟩) trivial hT0 ?_
          · intro wx hSw
            obtain ⟨j0, j1, j2, j3, j4, j5, j6, j7, j8, j9⟩ := hSw
            go_simp
          simp only [Act.put, List.setIfInBounds_toArray, List.set_cons_zero, List.set_cons_succ]
          refine Od.Till.pair (i := 28) (j := 30) (by kernel_rfl) rfl rfl (fun K hK => ?_) (fun K hK => ?_)
          · rw [if_pos (by kernel_rfl)]
            go_simp
            refine (bare_any [(⟨k, 0, Z - A, n, S⟩ : Tk)] (some ⟨gx, 0, none⟩) cx _ (TkIs.one x0 x1 x2 x3 x4) (Nat.le_of_lt_succ (by simp)) (by simp)).mono ?_
            rintro e4 w4 ⟨ra, rc, rfl, hb, hown⟩
            have rR := Lib.hid (show TkIs w4 ra [(⟨k, 0, 0, n, S⟩ : Tk)] from TkIs.of_own hown)
            clear hown
            rw [show (List.map Tk.bare [(⟨k, 0, Z - A, n, S⟩ : Tk)]).length = 1 from rfl]
            replace t0 := (hb.cell (p := ⟨wr.heap.size, 0, none⟩) z8).trans t0
            replace t1 := (hb.cell (p := ⟨wr.heap.size, 1, none⟩) z8).trans t1
            replace t2 := (hb.cell (p := ⟨wr.heap.size, 2, none⟩) z8).trans t2
            replace t3 := (hb.cell (p := ⟨wr.heap.size, 3, none⟩) z8).trans t3
            replace t4 := (hb.cell (p := ⟨wr.heap.size, 4, none⟩) z8).trans t4
            replace x0 := (hb.cell (p := ⟨gx, 0, none⟩) zx).trans x0
            replace x1 := (hb.cell (p := ⟨gx, 1, none⟩) zx).trans x1
            replace x2 := (hb.cell (p := ⟨gx, 2, none⟩) zx).trans x2
            replace x3 := (hb.cell (p := ⟨gx, 3, none⟩) zx).trans x3
            replace x4 := (hb.cell (p := ⟨gx, 4, none⟩) zx).trans x4
            replace z8 : wr.heap.size < w4.heap.size := Nat.lt_of_lt_of_le z8 hb.size
            replace zx : gx < w4.heap.size := Nat.lt_of_lt_of_le zx hb.size
            replace HW := Lib.hid (HW.out.trans (hb.mono HW.out.size))
            replace HTK := Lib.hid (HTK.out.bel hb)
            have hT1 : (fun w' : World => w'.cell? ⟨wr.heap.size, 0, none⟩ = some (.int .i64 k) ∧ w'.cell? ⟨wr.heap.size, 1, none⟩ = some (.int .i64 A) ∧ w'.cell? ⟨wr.heap.size, 2, none⟩ = some (.int .i64 Z) ∧ w'.cell? ⟨wr.heap.size, 3, none⟩ = some (.int .i64 n) ∧ w'.cell? ⟨wr.heap.size, 4, none⟩ = some (.string ⟨S.toArray⟩) ∧ w'.cell? ⟨gx, 0, none⟩ = some (.int .i64 k) ∧ w'.cell? ⟨gx, 1, none⟩ = some (.int .i64 0) ∧ w'.cell? ⟨gx, 2, none⟩ = some (.int .i64 (Z - A)) ∧ w'.cell? ⟨gx, 3, none⟩ = some (.int .i64 n) ∧ w'.cell? ⟨gx, 4, none⟩ = some (.string ⟨S.toArray⟩)) w4 := ⟨t0, t1, t2, t3, t4, x0, x1, x2, x3, x4⟩
            clear hb
            refine hK.out _ _ ⟨fun _ => trivial, hT1⟩ ?_
            clear hK K hT0
            simp only [Act.put, List.setIfInBounds_toArray, List.set_cons_zero, List.set_cons_succ]
            refine Od.Till.one (i := 30) (by kernel_rfl) rfl (fun K hK => ?_)
            rw [if_pos (by kernel_rfl)]
            go_simp
            have hb := bel_alloc w4 (.cells #[.int .i64 k, .int .i64 A, .int .i64 Z, .int .i64 n, .string ⟨S.toArray⟩] 35)
            have BY := (show Blk (w4.alloc (.cells #[.int .i64 k, .int .i64 A, .int .i64 Z, .int .i64 n, .string ⟨S.toArray⟩] 35)) w4.heap.size 35 #[.int .i64 k, .int .i64 A, .int .i64 Z, .int .i64 n, .string ⟨S.toArray⟩] from heap_alloc_new w4 _)
            have y0 : (w4.alloc (.cells #[.int .i64 k, .int .i64 A, .int .i64 Z, .int .i64 n, .string ⟨S.toArray⟩] 35)).cell? ⟨w4.heap.size, 0, none⟩ = some (.int .i64 k) := (BY.cell 0).trans rfl
            have y1 : (w4.alloc (.cells #[.int .i64 k, .int .i64 A, .int .i64 Z, .int .i64 n, .string ⟨S.toArray⟩] 35)).cell? ⟨w4.heap.size, 1, none⟩ = some (.int .i64 A) := (BY.cell 1).trans rfl
            have y2 : (w4.alloc (.cells #[.int .i64 k, .int .i64 A, .int .i64 Z, .int .i64 n, .string ⟨S.toArray⟩] 35)).cell? ⟨w4.heap.size, 2, none⟩ = some (.int .i64 Z) := (BY.cell 2).trans rfl
            have y3 : (w4.alloc (.cells #[.int .i64 k, .int .i64 A, .int .i64 Z, .int .i64 n, .string ⟨S.toArray⟩] 35)).cell? ⟨w4.heap.size, 3, none⟩ = some (.int .i64 n) := (BY.cell 3).trans rfl
            have y4 : (w4.alloc (.cells #[.int .i64 k, .int .i64 A, .int .i64 Z, .int .i64 n, .string ⟨S.toArray⟩] 35)).cell? ⟨w4.heap.size, 4, none⟩ = some (.string ⟨S.toArray⟩) := (BY.cell 4).trans rfl
            have z9 : w4.heap.size < (w4.alloc (.cells #[.int .i64 k, .int .i64 A, .int .i64 Z, .int .i64 n, .string ⟨S.toArray⟩] 35)).heap.size := BY.lt
            clear BY
            generalize w4.alloc (.cells #[.int .i64 k, .int .i64 A, .int .i64 Z, .int .i64 n, .string ⟨S.toArray⟩] 35) = w5 at hb y0 y1 y2 y3 y4 z9 ⊢
            replace t0 := (hb.cell (p := ⟨wr.heap.size, 0, none⟩) z8).trans t0
            replace t1 := (hb.cell (p := ⟨wr.heap.size, 1, none⟩) z8).trans t1
            replace t2 := (hb.cell (p := ⟨wr.heap.size, 2, none⟩) z8).trans t2
            replace t3 := (hb.cell (p := ⟨wr.heap.size, 3, none⟩) z8).trans t3
            replace t4 := (hb.cell (p := ⟨wr.heap.size, 4, none⟩) z8).trans t4
            replace x0 := (hb.cell (p := ⟨gx, 0, none⟩) zx).trans x0
            replace x1 := (hb.cell (p := ⟨gx, 1, none⟩) zx).trans x1
            replace x2 := (hb.cell (p := ⟨gx, 2, none⟩) zx).trans x2
            replace x3 := (hb.cell (p := ⟨gx, 3, none⟩) zx).trans x3
            replace x4 := (hb.cell (p := ⟨gx, 4, none⟩) zx).trans x4
            replace z8 : wr.heap.size < w5.heap.size := Nat.lt_of_lt_of_le z8 hb.size
            replace zx : gx < w5.heap.size := Nat.lt_of_lt_of_le zx hb.size
            replace HW := Lib.hid (HW.out.trans (hb.mono HW.out.size))
            replace HTK := Lib.hid (HTK.out.bel hb)
            replace rR := Lib.hid (rR.out.bel hb)
            have hT2 : (fun w' : World => w'.cell? ⟨wr.heap.size, 0, none⟩ = some (.int .i64 k) ∧ w'.cell? ⟨wr.heap.size, 1, none⟩ = some (.int .i64 A) ∧ w'.cell? ⟨wr.heap.size, 2, none⟩ = some (.int .i64 Z) ∧ w'.cell? ⟨wr.heap.size, 3, none⟩ = some (.int .i64 n) ∧ w'.cell? ⟨wr.heap.size, 4, none⟩ = some (.string ⟨S.toArray⟩) ∧ w'.cell? ⟨gx, 0, none⟩ = some (.int .i64 k) ∧ w'.cell? ⟨gx, 1, none⟩ = some (.int .i64 0) ∧ w'.cell? ⟨gx, 2, none⟩ = some (.int .i64 (Z - A)) ∧ w'.cell? ⟨gx, 3, none⟩ = some (.int .i64 n) ∧ w'.cell? ⟨gx, 4, none⟩ = some (.string ⟨S.toArray⟩)) w5 := ⟨t0, t1, t2, t3, t4, x0, x1, x2, x3, x4⟩
            clear hb
            refine hK.out _ _ ⟨fun _ => trivial, hT2⟩ ?_
            clear hK K hT1
            simp only [Act.put, List.setIfInBounds_toArray, List.set_cons_zero, List.set_cons_succ]
            refine Od.Till.one (i := 31) (by kernel_rfl) rfl (fun K hK => ?_)
            rw [if_pos (by kernel_rfl)]
            go_simp
            refine (bare_any [(⟨k, A, Z, n, S⟩ : Tk)] (some ⟨w4.heap.size, 0, none⟩) 1 _ (TkIs.one y0 y1 y2 y3 y4) (Nat.le_of_lt_succ (by simp)) (by simp)).mono ?_
            rintro e4 w6 ⟨qa, qc, rfl, hb, hown⟩
            have qR := Lib.hid (show TkIs w6 qa [(⟨k, 0, 0, n, S⟩ : Tk)] from TkIs.of_own hown)
            clear hown
            rw [show (List.map Tk.bare [(⟨k, A, Z, n, S⟩ : Tk)]).length = 1 from rfl]
            replace t0 := (hb.cell (p := ⟨wr.heap.size, 0, none⟩) z8).trans t0
            replace t1 := (hb.cell (p := ⟨wr.heap.size, 1, none⟩) z8).trans t1
            replace t2 := (hb.cell (p := ⟨wr.heap.size, 2, none⟩) z8).trans t2
            replace t3 := (hb.cell (p := ⟨wr.heap.size, 3, none⟩) z8).trans t3
            replace t4 := (hb.cell (p := ⟨wr.heap.size, 4, none⟩) z8).trans t4
            replace x0 := (hb.cell (p := ⟨gx, 0, none⟩) zx).trans x0
            replace x1 := (hb.cell (p := ⟨gx, 1, none⟩) zx).trans x1
            replace x2 := (hb.cell (p := ⟨gx, 2, none⟩) zx).trans x2
            replace x3 := (hb.cell (p := ⟨gx, 3, none⟩) zx).trans x3
            replace x4 := (hb.cell (p := ⟨gx, 4, none⟩) zx).trans x4
            replace y0 := (hb.cell (p := ⟨w4.heap.size, 0, none⟩) z9).trans y0
            replace y1 := (hb.cell (p := ⟨w4.heap.size, 1, none⟩) z9).trans y1
            replace y2 := (hb.cell (p := ⟨w4.heap.size, 2, none⟩) z9).trans y2
            replace y3 := (hb.cell (p := ⟨w4.heap.size, 3, none⟩) z9).trans y3
            replace y4 := (hb.cell (p := ⟨w4.heap.size, 4, none⟩) z9).trans y4
            replace z9 : w4.heap.size < w6.heap.size := Nat.lt_of_lt_of_le z9 hb.size
            replace z8 : wr.heap.size < w6.heap.size := Nat.lt_of_lt_of_le z8 hb.size
            replace zx : gx < w6.heap.size := Nat.lt_of_lt_of_le zx hb.size
            replace HW := Lib.hid (HW.out.trans (hb.mono HW.out.size))
            replace HTK := Lib.hid (HTK.out.bel hb)
            replace rR := Lib.hid (rR.out.bel hb)
            have hT3 : (fun w' : World => w'.cell? ⟨wr.heap.size, 0, none⟩ = some (.int .i64 k) ∧ w'.cell? ⟨wr.heap.size, 1, none⟩ = some (.int .i64 A) ∧ w'.cell? ⟨wr.heap.size, 2, none⟩ = some (.int .i64 Z) ∧ w'.cell? ⟨wr.heap.size, 3, none⟩ = some (.int .i64 n) ∧ w'.cell? ⟨wr.heap.size, 4, none⟩ = some (.string ⟨S.toArray⟩) ∧ w'.cell? ⟨gx, 0, none⟩ = some (.int .i64 k) ∧ w'.cell? ⟨gx, 1, none⟩ = some (.int .i64 0) ∧ w'.cell? ⟨gx, 2, none⟩ = some (.int .i64 (Z - A)) ∧ w'.cell? ⟨gx, 3, none⟩ = some (.int .i64 n) ∧ w'.cell? ⟨gx, 4, none⟩ = some (.string ⟨S.toArray⟩)) w6 := ⟨t0, t1, t2, t3, t4, x0, x1, x2, x3, x4⟩
            clear hb
            refine hK.out _ _ ⟨fun _ => trivial, hT3⟩ ?_
            clear hK K hT2
            simp only [Act.put, List.setIfInBounds_toArray, List.set_cons_zero, List.set_cons_succ]
            refine Od.Till.one (i := 32) (by kernel_rfl) rfl (fun K hK => ?_)
            rw [if_pos (by kernel_rfl)]
            go_simp
            refine (same_bel [(⟨k, 0, 0, n, S⟩ : Tk)] ra qa rc qc _ rR.out qR.out (by simp)).mono ?_
            rintro e4 w7 ⟨rfl, hb⟩
            replace t0 := (hb.cell (p := ⟨wr.heap.size, 0, none⟩) z8).trans t0
            replace t1 := (hb.cell (p := ⟨wr.heap.size, 1, none⟩) z8).trans t1
            replace t2 := (hb.cell (p := ⟨wr.heap.size, 2, none⟩) z8).trans t2
            replace t3 := (hb.cell (p := ⟨wr.heap.size, 3, none⟩) z8).trans t3
            replace t4 := (hb.cell (p := ⟨wr.heap.size, 4, none⟩) z8).trans t4
            replace x0 := (hb.cell (p := ⟨gx, 0, none⟩) zx).trans x0
            replace x1 := (hb.cell (p := ⟨gx, 1, none⟩) zx).trans x1
            replace x2 := (hb.cell (p := ⟨gx, 2, none⟩) zx).trans x2
            replace x3 := (hb.cell (p := ⟨gx, 3, none⟩) zx).trans x3
            replace x4 := (hb.cell (p := ⟨gx, 4, none⟩) zx).trans x4
            replace y0 := (hb.cell (p := ⟨w4.heap.size, 0, none⟩) z9).trans y0
            replace y1 := (hb.cell (p := ⟨w4.heap.size, 1, none⟩) z9).trans y1
            replace y2 := (hb.cell (p := ⟨w4.heap.size, 2, none⟩) z9).trans y2
            replace y3 := (hb.cell (p := ⟨w4.heap.size, 3, none⟩) z9).trans y3
            replace y4 := (hb.cell (p := ⟨w4.heap.size, 4, none⟩) z9).trans y4
            replace z9 : w4.heap.size < w7.heap.size := Nat.lt_of_lt_of_le z9 hb.size
            replace z8 : wr.heap.size < w7.heap.size := Nat.lt_of_lt_of_le z8 hb.size
            replace zx : gx < w7.heap.size := Nat.lt_of_lt_of_le zx hb.size
            replace HW := Lib.hid (HW.out.trans (hb.mono HW.out.size))
            replace HTK := Lib.hid (HTK.out.bel hb)
            have hT4 : (fun w' : World => w'.cell? ⟨wr.heap.size, 0, none⟩ = some (.int .i64 k) ∧ w'.cell? ⟨wr.heap.size, 1, none⟩ = some (.int .i64 A) ∧ w'.cell? ⟨wr.heap.size, 2, none⟩ = some (.int .i64 Z) ∧ w'.cell? ⟨wr.heap.size, 3, none⟩ = some (.int .i64 n) ∧ w'.cell? ⟨wr.heap.size, 4, none⟩ = some (.string ⟨S.toArray⟩) ∧ w'.cell? ⟨gx, 0, none⟩ = some (.int .i64 k) ∧ w'.cell? ⟨gx, 1, none⟩ = some (.int .i64 0) ∧ w'.cell? ⟨gx, 2, none⟩ = some (.int .i64 (Z - A)) ∧ w'.cell? ⟨gx, 3, none⟩ = some (.int .i64 n) ∧ w'.cell? ⟨gx, 4, none⟩ = some (.string ⟨S.toArray⟩)) w7 := ⟨t0, t1, t2, t3, t4, x0, x1, x2, x3, x4⟩
            clear hb
            refine hK.out _ _ ⟨fun _ => trivial, hT4⟩ ?_
            clear hK K hT3
            simp only [Act.put, List.setIfInBounds_toArray, List.set_cons_zero, List.set_cons_succ]
            refine Od.Till.takeT (i := 33) (d := 103) (v := .bool false) rfl rfl (by kernel_rfl) (by kernel_rfl) (by kernel_rfl) (by kernel_rfl) (fun _ _ _ h => h) (.inl ⟨by rfl, ?_⟩) trivial hT4 ?_
            · intro wx hSw
              clear hSw
              go_simp
            simp only [Act.put, List.setIfInBounds_toArray, List.set_cons_zero, List.set_cons_succ]
            refine Od.Till.takeT (i := 34) (d := 104) (v := .bool false) rfl rfl (by kernel_rfl) (by kernel_rfl) (by kernel_rfl) (by kernel_rfl) (fun _ _ _ h => h) (.inl ⟨by rfl, ?_⟩) trivial hT4 ?_
            · intro wx hSw
              clear hSw
              go_simp
            simp only [Act.put, List.setIfInBounds_toArray, List.set_cons_zero, List.set_cons_succ]
            refine Od.Till.done (by kernel_rfl) ?_
            clear hT4
            go_wp2_with fail
            go_roundw
            case rel => exact ⟨j + 1, a + z, hlt, by go_num, by rw [← hpz.out], HN.out, HTK.out, HB.out.trans (HW.out.mono hszw)⟩
            case measure => simp [intOf]; omega
          · rw [if_pos (by kernel_rfl)]
            go_simp
            have hb : Below w3.drew.heap.size w3.drew (w3.alloc (.cells #[.int .i64 k, .int .i64 A, .int .i64 Z, .int .i64 n, .string ⟨S.toArray⟩] 35)).drew := bel_alloc w3.drew (.cells #[.int .i64 k, .int .i64 A, .int .i64 Z, .int .i64 n, .string ⟨S.toArray⟩] 35)
            have BY : Blk (w3.alloc (.cells #[.int .i64 k, .int .i64 A, .int .i64 Z, .int .i64 n, .string ⟨S.toArray⟩] 35)).drew w3.heap.size 35 #[.int .i64 k, .int .i64 A, .int .i64 Z, .int .i64 n, .string ⟨S.toArray⟩] := heap_alloc_new w3.drew _
            have y0 : (w3.alloc (.cells #[.int .i64 k, .int .i64 A, .int .i64 Z, .int .i64 n, .string ⟨S.toArray⟩] 35)).drew.cell? ⟨w3.heap.size, 0, none⟩ = some (.int .i64 k) := (BY.cell 0).trans rfl
            have y1 : (w3.alloc (.cells #[.int .i64 k, .int .i64 A, .int .i64 Z, .int .i64 n, .string ⟨S.toArray⟩] 35)).drew.cell? ⟨w3.heap.size, 1, none⟩ = some (.int .i64 A) := (BY.cell 1).trans rfl
            have y2 : (w3.alloc (.cells #[.int .i64 k, .int .i64 A, .int .i64 Z, .int .i64 n, .string ⟨S.toArray⟩] 35)).drew.cell? ⟨w3.heap.size, 2, none⟩ = some (.int .i64 Z) := (BY.cell 2).trans rfl
            have y3 : (w3.alloc (.cells #[.int .i64 k, .int .i64 A, .int .i64 Z, .int .i64 n, .string ⟨S.toArray⟩] 35)).drew.cell? ⟨w3.heap.size, 3, none⟩ = some (.int .i64 n) := (BY.cell 3).trans rfl
            have y4 : (w3.alloc (.cells #[.int .i64 k, .int .i64 A, .int .i64 Z, .int .i64 n, .string ⟨S.toArray⟩] 35)).drew.cell? ⟨w3.heap.size, 4, none⟩ = some (.string ⟨S.toArray⟩) := (BY.cell 4).trans rfl
            have z9 : w3.heap.size < (w3.alloc (.cells #[.int .i64 k, .int .i64 A, .int .i64 Z, .int .i64 n, .string ⟨S.toArray⟩] 35)).drew.heap.size := BY.lt
            clear BY
            generalize (w3.alloc (.cells #[.int .i64 k, .int .i64 A, .int .i64 Z, .int .i64 n, .string ⟨S.toArray⟩] 35)).drew = w4 at hb y0 y1 y2 y3 y4 z9 ⊢
            replace t0 := (hb.cell (p := ⟨wr.heap.size, 0, none⟩) z8).trans t0
            replace t1 := (hb.cell (p := ⟨wr.heap.size, 1, none⟩) z8).trans t1
            replace t2 := (hb.cell (p := ⟨wr.heap.size, 2, none⟩) z8).trans t2
            replace t3 := (hb.cell (p := ⟨wr.heap.size, 3, none⟩) z8).trans t3
            replace t4 := (hb.cell (p := ⟨wr.heap.size, 4, none⟩) z8).trans t4
            replace x0 := (hb.cell (p := ⟨gx, 0, none⟩) zx).trans x0
            replace x1 := (hb.cell (p := ⟨gx, 1, none⟩) zx).trans x1
            replace x2 := (hb.cell (p := ⟨gx, 2, none⟩) zx).trans x2
            replace x3 := (hb.cell (p := ⟨gx, 3, none⟩) zx).trans x3
            replace x4 := (hb.cell (p := ⟨gx, 4, none⟩) zx).trans x4
            replace z8 : wr.heap.size < w4.heap.size := Nat.lt_of_lt_of_le z8 hb.size
            replace zx : gx < w4.heap.size := Nat.lt_of_lt_of_le zx hb.size
            replace HW := Lib.hid (HW.out.trans (hb.mono HW.out.size))
            replace HTK := Lib.hid (HTK.out.bel hb)
            have hT1 : (fun w' : World => w'.cell? ⟨wr.heap.size, 0, none⟩ = some (.int .i64 k) ∧ w'.cell? ⟨wr.heap.size, 1, none⟩ = some (.int .i64 A) ∧ w'.cell? ⟨wr.heap.size, 2, none⟩ = some (.int .i64 Z) ∧ w'.cell? ⟨wr.heap.size, 3, none⟩ = some (.int .i64 n) ∧ w'.cell? ⟨wr.heap.size, 4, none⟩ = some (.string ⟨S.toArray⟩) ∧ w'.cell? ⟨gx, 0, none⟩ = some (.int .i64 k) ∧ w'.cell? ⟨gx, 1, none⟩ = some (.int .i64 0) ∧ w'.cell? ⟨gx, 2, none⟩ = some (.int .i64 (Z - A)) ∧ w'.cell? ⟨gx, 3, none⟩ = some (.int .i64 n) ∧ w'.cell? ⟨gx, 4, none⟩ = some (.string ⟨S.toArray⟩)) w4 := ⟨t0, t1, t2, t3, t4, x0, x1, x2, x3, x4⟩
            clear hb
            refine hK.out _ _ ⟨fun _ => trivial, hT1⟩ ?_
            clear hK K hT0
            simp only [Act.put, List.setIfInBounds_toArray, List.set_cons_zero, List.set_cons_succ]
            refine Od.Till.one (i := 28) (by kernel_rfl) rfl (fun K hK => ?_)
            rw [if_pos (by kernel_rfl)]
            go_simp
            refine (bare_any [(⟨k, 0, Z - A, n, S⟩ : Tk)] (some ⟨gx, 0, none⟩) cx _ (TkIs.one x0 x1 x2 x3 x4) (Nat.le_of_lt_succ (by simp)) (by simp)).mono ?_
            rintro e4 w5 ⟨ra, rc, rfl, hb, hown⟩
            have rR := Lib.hid (show TkIs w5 ra [(⟨k, 0, 0, n, S⟩ : Tk)] from TkIs.of_own hown)
            clear hown
            rw [show (List.map Tk.bare [(⟨k, 0, Z - A, n, S⟩ : Tk)]).length = 1 from rfl]
            replace t0 := (hb.cell (p := ⟨wr.heap.size, 0, none⟩) z8).trans t0
            replace t1 := (hb.cell (p := ⟨wr.heap.size, 1, none⟩) z8).trans t1
            replace t2 := (hb.cell (p := ⟨wr.heap.size, 2, none⟩) z8).trans t2
            replace t3 := (hb.cell (p := ⟨wr.heap.size, 3, none⟩) z8).trans t3
            replace t4 := (hb.cell (p := ⟨wr.heap.size, 4, none⟩) z8).trans t4
            replace x0 := (hb.cell (p := ⟨gx, 0, none⟩) zx).trans x0
            replace x1 := (hb.cell (p := ⟨gx, 1, none⟩) zx).trans x1
            replace x2 := (hb.cell (p := ⟨gx, 2, none⟩) zx).trans x2
            replace x3 := (hb.cell (p := ⟨gx, 3, none⟩) zx).trans x3
            replace x4 := (hb.cell (p := ⟨gx, 4, none⟩) zx).trans x4
            replace y0 := (hb.cell (p := ⟨w3.heap.size, 0, none⟩) z9).trans y0
            replace y1 := (hb.cell (p := ⟨w3.heap.size, 1, none⟩) z9).trans y1
            replace y2 := (hb.cell (p := ⟨w3.heap.size, 2, none⟩) z9).trans y2
            replace y3 := (hb.cell (p := ⟨w3.heap.size, 3, none⟩) z9).trans y3
            replace y4 := (hb.cell (p := ⟨w3.heap.size, 4, none⟩) z9).trans y4
            replace z9 : w3.heap.size < w5.heap.size := Nat.lt_of_lt_of_le z9 hb.size
            replace z8 : wr.heap.size < w5.heap.size := Nat.lt_of_lt_of_le z8 hb.size
            replace zx : gx < w5.heap.size := Nat.lt_of_lt_of_le zx hb.size
            replace HW := Lib.hid (HW.out.trans (hb.mono HW.out.size))
            replace HTK := Lib.hid (HTK.out.bel hb)
            have hT2 : (fun w' : World => w'.cell? ⟨wr.heap.size, 0, none⟩ = some (.int .i64 k) ∧ w'.cell? ⟨wr.heap.size, 1, none⟩ = some (.int .i64 A) ∧ w'.cell? ⟨wr.heap.size, 2, none⟩ = some (.int .i64 Z) ∧ w'.cell? ⟨wr.heap.size, 3, none⟩ = some (.int .i64 n) ∧ w'.cell? ⟨wr.heap.size, 4, none⟩ = some (.string ⟨S.toArray⟩) ∧ w'.cell? ⟨gx, 0, none⟩ = some (.int .i64 k) ∧ w'.cell? ⟨gx, 1, none⟩ = some (.int .i64 0) ∧ w'.cell? ⟨gx, 2, none⟩ = some (.int .i64 (Z - A)) ∧ w'.cell? ⟨gx, 3, none⟩ = some (.int .i64 n) ∧ w'.cell? ⟨gx, 4, none⟩ = some (.string ⟨S.toArray⟩)) w5 := ⟨t0, t1, t2, t3, t4, x0, x1, x2, x3, x4⟩
            clear hb
            refine hK.out _ _ ⟨fun _ => trivial, hT2⟩ ?_
            clear hK K hT1
            simp only [Act.put, List.setIfInBounds_toArray, List.set_cons_zero, List.set_cons_succ]
            refine Od.Till.one (i := 31) (by kernel_rfl) rfl (fun K hK => ?_)
            rw [if_pos (by kernel_rfl)]
            go_simp
            refine (bare_any [(⟨k, A, Z, n, S⟩ : Tk)] (some ⟨w3.heap.size, 0, none⟩) 1 _ (TkIs.one y0 y1 y2 y3 y4) (Nat.le_of_lt_succ (by simp)) (by simp)).mono ?_
            rintro e4 w6 ⟨qa, qc, rfl, hb, hown⟩
            have qR := Lib.hid (show TkIs w6 qa [(⟨k, 0, 0, n, S⟩ : Tk)] from TkIs.of_own hown)
            clear hown
            rw [show (List.map Tk.bare [(⟨k, A, Z, n, S⟩ : Tk)]).length = 1 from rfl]
            replace t0 := (hb.cell (p := ⟨wr.heap.size, 0, none⟩) z8).trans t0
            replace t1 := (hb.cell (p := ⟨wr.heap.size, 1, none⟩) z8).trans t1
            replace t2 := (hb.cell (p := ⟨wr.heap.size, 2, none⟩) z8).trans t2
            replace t3 := (hb.cell (p := ⟨wr.heap.size, 3, none⟩) z8).trans t3
            replace t4 := (hb.cell (p := ⟨wr.heap.size, 4, none⟩) z8).trans t4
            replace x0 := (hb.cell (p := ⟨gx, 0, none⟩) zx).trans x0
            replace x1 := (hb.cell (p := ⟨gx, 1, none⟩) zx).trans x1
            replace x2 := (hb.cell (p := ⟨gx, 2, none⟩) zx).trans x2
            replace x3 := (hb.cell (p := ⟨gx, 3, none⟩) zx).trans x3
            replace x4 := (hb.cell (p := ⟨gx, 4, none⟩) zx).trans x4
            replace y0 := (hb.cell (p := ⟨w3.heap.size, 0, none⟩) z9).trans y0
            replace y1 := (hb.cell (p := ⟨w3.heap.size, 1, none⟩) z9).trans y1
            replace y2 := (hb.cell (p := ⟨w3.heap.size, 2, none⟩) z9).trans y2
            replace y3 := (hb.cell (p := ⟨w3.heap.size, 3, none⟩) z9).trans y3
            replace y4 := (hb.cell (p := ⟨w3.heap.size, 4, none⟩) z9).trans y4
            replace z9 : w3.heap.size < w6.heap.size := Nat.lt_of_lt_of_le z9 hb.size
            replace z8 : wr.heap.size < w6.heap.size := Nat.lt_of_lt_of_le z8 hb.size
            replace zx : gx < w6.heap.size := Nat.lt_of_lt_of_le zx hb.size
            replace HW := Lib.hid (HW.out.trans (hb.mono HW.out.size))
            replace HTK := Lib.hid (HTK.out.bel hb)
            replace rR := Lib.hid (rR.out.bel hb)
            have hT3 : (fun w' : World => w'.cell? ⟨wr.heap.size, 0, none⟩ = some (.int .i64 k) ∧ w'.cell? ⟨wr.heap.size, 1, none⟩ = some (.int .i64 A) ∧ w'.cell? ⟨wr.heap.size, 2, none⟩ = some (.int .i64 Z) ∧ w'.cell? ⟨wr.heap.size, 3, none⟩ = some (.int .i64 n) ∧ w'.cell? ⟨wr.heap.size, 4, none⟩ = some (.string ⟨S.toArray⟩) ∧ w'.cell? ⟨gx, 0, none⟩ = some (.int .i64 k) ∧ w'.cell? ⟨gx, 1, none⟩ = some (.int .i64 0) ∧ w'.cell? ⟨gx, 2, none⟩ = some (.int .i64 (Z - A)) ∧ w'.cell? ⟨gx, 3, none⟩ = some (.int .i64 n) ∧ w'.cell? ⟨gx, 4, none⟩ = some (.string ⟨S.toArray⟩)) w6 := ⟨t0, t1, t2, t3, t4, x0, x1, x2, x3, x4⟩
            clear hb
            refine hK.out _ _ ⟨fun _ => trivial, hT3⟩ ?_
            clear hK K hT2
            simp only [Act.put, List.setIfInBounds_toArray, List.set_cons_zero, List.set_cons_succ]
            refine Od.Till.one (i := 32) (by kernel_rfl) rfl (fun K hK => ?_)
            rw [if_pos (by kernel_rfl)]
            go_simp
            refine (same_bel [(⟨k, 0, 0, n, S⟩ : Tk)] ra qa rc qc _ rR.out qR.out (by simp)).mono ?_
            rintro e4 w7 ⟨rfl, hb⟩
            replace t0 := (hb.cell (p := ⟨wr.heap.size, 0, none⟩) z8).trans t0
            replace t1 := (hb.cell (p := ⟨wr.heap.size, 1, none⟩) z8).trans t1
            replace t2 := (hb.cell (p := ⟨wr.heap.size, 2, none⟩) z8).trans t2
            replace t3 := (hb.cell (p := ⟨wr.heap.size, 3, none⟩) z8).trans t3
            replace t4 := (hb.cell (p := ⟨wr.heap.size, 4, none⟩) z8).trans t4
            replace x0 := (hb.cell (p := ⟨gx, 0, none⟩) zx).trans x0
            replace x1 := (hb.cell (p := ⟨gx, 1, none⟩) zx).trans x1
            replace x2 := (hb.cell (p := ⟨gx, 2, none⟩) zx).trans x2
            replace x3 := (hb.cell (p := ⟨gx, 3, none⟩) zx).trans x3
            replace x4 := (hb.cell (p := ⟨gx, 4, none⟩) zx).trans x4
            replace y0 := (hb.cell (p := ⟨w3.heap.size, 0, none⟩) z9).trans y0
            replace y1 := (hb.cell (p := ⟨w3.heap.size, 1, none⟩) z9).trans y1
            replace y2 := (hb.cell (p := ⟨w3.heap.size, 2, none⟩) z9).trans y2
            replace y3 := (hb.cell (p := ⟨w3.heap.size, 3, none⟩) z9).trans y3
            replace y4 := (hb.cell (p := ⟨w3.heap.size, 4, none⟩) z9).trans y4
            replace z9 : w3.heap.size < w7.heap.size := Nat.lt_of_lt_of_le z9 hb.size
            replace z8 : wr.heap.size < w7.heap.size := Nat.lt_of_lt_of_le z8 hb.size
            replace zx : gx < w7.heap.size := Nat.lt_of_lt_of_le zx hb.size
            replace HW := Lib.hid (HW.out.trans (hb.mono HW.out.size))
            replace HTK := Lib.hid (HTK.out.bel hb)
            have hT4 : (fun w' : World => w'.cell? ⟨wr.heap.size, 0, none⟩ = some (.int .i64 k) ∧ w'.cell? ⟨wr.heap.size, 1, none⟩ = some (.int .i64 A) ∧ w'.cell? ⟨wr.heap.size, 2, none⟩ = some (.int .i64 Z) ∧ w'.cell? ⟨wr.heap.size, 3, none⟩ = some (.int .i64 n) ∧ w'.cell? ⟨wr.heap.size, 4, none⟩ = some (.string ⟨S.toArray⟩) ∧ w'.cell? ⟨gx, 0, none⟩ = some (.int .i64 k) ∧ w'.cell? ⟨gx, 1, none⟩ = some (.int .i64 0) ∧ w'.cell? ⟨gx, 2, none⟩ = some (.int .i64 (Z - A)) ∧ w'.cell? ⟨gx, 3, none⟩ = some (.int .i64 n) ∧ w'.cell? ⟨gx, 4, none⟩ = some (.string ⟨S.toArray⟩)) w7 := ⟨t0, t1, t2, t3, t4, x0, x1, x2, x3, x4⟩
            clear hb
            refine hK.out _ _ ⟨fun _ => trivial, hT4⟩ ?_
            clear hK K hT3
            simp only [Act.put, List.setIfInBounds_toArray, List.set_cons_zero, List.set_cons_succ]
            refine Od.Till.takeT (i := 33) (d := 103) (v := .bool false) rfl rfl (by kernel_rfl) (by kernel_rfl) (by kernel_rfl) (by kernel_rfl) (fun _ _ _ h => h) (.inl ⟨by rfl, ?_⟩) trivial hT4 ?_
            · intro wx hSw
              clear hSw
              go_simp
            simp only [Act.put, List.setIfInBounds_toArray, List.set_cons_zero, List.set_cons_succ]
            refine Od.Till.takeT (i := 34) (d := 104) (v := .bool false) rfl rfl (by kernel_rfl) (by kernel_rfl) (by kernel_rfl) (by kernel_rfl) (fun _ _ _ h => h) (.inl ⟨by rfl, ?_⟩) trivial hT4 ?_
            · intro wx hSw
              clear hSw
              go_simp
            simp only [Act.put, List.setIfInBounds_toArray, List.set_cons_zero, List.set_cons_succ]
            refine Od.Till.done (by kernel_rfl) ?_
            clear hT4
            go_wp2_with fail
            go_roundw
            case rel => exact ⟨j + 1, a + z, hlt, by go_num, by rw [← hpz.out], HN.out, HTK.out, HB.out.trans (HW.out.mono hszw)⟩
            case measure => simp [intOf]; omega
        · have dl : decide ((j : Int) < (toks.length : Int)) = false := by simp [hlt]
          have HB := Lib.hid hbel
          clear hbel hap htk
          go_wp2_with fail
          go_ret
          exact ⟨rfl, HB.out⟩
  · have dn : (e0 != 0) = true := by simpa using h0
    clear HR
    go_enter Try.func7, Try.ntmps7
    go_wp2_with fail
    refine (HWA.out _).mono ?_
    rintro e w1 ⟨va, vc, rfl, hb, hown⟩
    have HB := Lib.hid hb
    clear hb hown
    go_wp2_with fail
    refine (awake_yes _).mono ?_
    rintro e w2 ⟨rfl, hb⟩
    replace HB := Lib.hid (bel_trans HB.out hb)
    clear hb
    go_wp2_with fail
    refine (awake_yes _).mono ?_
    rintro e w3 ⟨rfl, hb⟩
    replace HB := Lib.hid (bel_trans HB.out hb)
    clear hb
    go_wp2_with fail
    go_ret
    exact ⟨rfl, HB.out⟩
end Go.Proofs.Ytcnhoogljagkhaa.Lx
