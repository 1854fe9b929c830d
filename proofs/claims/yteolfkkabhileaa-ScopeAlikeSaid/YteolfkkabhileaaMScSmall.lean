/- Whether acts are small (layer 5): the statements' own help. -/
import Derived.Test.YteolfkkabhileaaMScOps
section
namespace Go.Proofs.Yteolfkkabhileaa.Sc
open Go.ChangeShapes Go.WideShapes Go.ChangeAt Go.RowKit
set_option linter.unusedVariables false
set_option linter.unusedSimpArgs false

theorem run_pre (a : Option Addr) (n c m : Nat) (h : m ≤ c) (w : World) : (Instr.slice 22 (.slice a n c) none (some (.int .i64 (m : Int))) none).run Try.prog w = .ok (.slice a m c) w := by
  have hb : (Instr.sliceBound (.int .i64 (m : Int)) c .sliceAcap).run Try.prog w = .ok m w := by
    have := run_sliceBound (P := Try.prog) w .i64 (m : Int) c .sliceAcap (by omega) (by omega)
    simpa using this
  simp [Instr.slice, run_underlying Try.underlying22, Instr.sliceBounds, Sem.run_bind, hb, go_sem]
def SmallIs (l : List Opn) (a : Option Addr) (n c : Nat) (w : World) (e : Ending) (w' : World) : Prop :=
  Below w.heap.size w w' ∧ (((l.take 60).all opSmall = true ∧ e = .returned (.tuple #[.slice a (min n 60) c, .bool true])) ∨ ((l.take 60).all opSmall = false ∧ e = .returned (.tuple #[.slice none 0 0, .bool false])))
def opSmallTill (l : List Opn) (k : Nat) : Prop := ∀ (j : Nat) (o : Opn), j < k → l[j]? = some o → opSmall o = true
theorem till_all {l : List Opn} {m : Nat} (hm : min l.length 60 = m) (h : opSmallTill l m) : (l.take 60).all opSmall = true := by
  rw [List.all_eq_true]
  intro o ho
  obtain ⟨j, hj, rfl⟩ := List.getElem_of_mem ho
  rw [List.length_take] at hj
  rw [List.getElem_take]
  exact h j _ (by omega) (List.getElem?_eq_getElem _)
theorem till_not {l : List Opn} {k : Nat} {o : Opn} (hk : k < 60) (ho : l[k]? = some o) (h : opSmall o = false) : (l.take 60).all opSmall = false := by
  rw [List.all_eq_false]
  obtain ⟨hlt, rfl⟩ := List.getElem?_eq_some_iff.1 ho
  exact ⟨l[k], List.mem_take_iff_getElem.2 ⟨k, by omega, rfl⟩, by rw [h]; decide⟩
theorem dsm_yes {d : Da.Dt} (h1 : ¬ ((d.S.size : Int) > 5000)) (h2 : ¬ ((d.M.length : Int) > 1000)) (h3 : ¬ ((d.L.length : Int) + (d.T.length : Int) > 100)) : dSmall d = true := by unfold dSmall; rw [decide_eq_true (by omega), decide_eq_true (by omega), decide_eq_true (by omega)]; rfl
theorem dsm_no1 {d : Da.Dt} (h : (d.S.size : Int) > 5000) : dSmall d = false := by unfold dSmall; rw [decide_eq_false (by omega)]; rfl
theorem dsm_no2 {d : Da.Dt} (h : (d.M.length : Int) > 1000) : dSmall d = false := by unfold dSmall; rw [decide_eq_false (p := (d.M.length : Int) ≤ 1000) (by omega), Bool.and_false]; rfl
theorem dsm_no3 {d : Da.Dt} (h : (d.L.length : Int) + (d.T.length : Int) > 100) : dSmall d = false := by unfold dSmall; rw [decide_eq_false (p := (d.L.length : Int) + (d.T.length : Int) ≤ 100) (by omega), Bool.and_false]
theorem op_not {o : Opn} {j : Nat} (h : dSmall (if j = 0 then o.id else o.nd) = false) : opSmall o = false := by
  unfold opSmall
  split at h
  · rw [h]; rfl
  · rw [h, Bool.and_false]
def SmIn (w : World) (e : Nat) (l0 : List Value) (d0 d1 : Da.Dt) (j : Nat) (wr : World) : Prop :=
  Da.Blk wr e 33 l0.toArray ∧ (0 < j → dSmall d0 = true) ∧ (1 < j → dSmall d1 = true) ∧ Below w.heap.size w wr
theorem at_six {w : World} {e : Nat} {x y : Sx} {d0 d1 : Da.Dt} (h : Da.Blk w e 33 (sixL d0 x ++ sixL d1 y).toArray) (j : Nat) (hj : j < 2) : Ld.At w e (j * 6) (sixL (if j = 0 then d0 else d1) (if j = 0 then x else y)) := fun k v hv => by
  rw [Da.Blk.cell h, ← Array.getElem?_toList]
  have hk : k < 6 := by
    rcases Nat.lt_or_ge k 6 with h1 | h1
    · exact h1
    · rw [List.getElem?_eq_none (by exact h1)] at hv; cases hv
  have : j = 0 ∨ j = 1 := by omega
  rcases this with rfl | rfl
  · rw [Nat.zero_mul, Nat.zero_add]
    show (sixL d0 x ++ sixL d1 y)[k]? = _
    rw [List.getElem?_append_left (by exact hk)]
    exact hv
  · show (sixL d0 x ++ sixL d1 y)[1 * 6 + k]? = _
    rw [List.getElem?_append_right (by show 6 ≤ _; omega), show 1 * 6 + k - (sixL d0 x).length = k by show 1 * 6 + k - 6 = k; omega]
    exact hv
theorem at_id {w : World} {b : Nat} {o : Opn} {x y : Sx} (h : Da.Blk w b 35 (opL o x y).toArray) : Ld.At w b 3 (sixL o.id x) := fun k v hv => by
  rw [Da.Blk.cell h, ← Array.getElem?_toList]
  have hk : k < 6 := by
    rcases Nat.lt_or_ge k 6 with h1 | h1
    · exact h1
    · rw [List.getElem?_eq_none (by exact h1)] at hv; cases hv
  show (([.int .i64 o.k, .int .i64 o.s, .int .i64 o.t] ++ sixL o.id x) ++ sixL o.nd y ++ [.int .i64 o.n])[3 + k]? = _
  rw [List.append_assoc, List.getElem?_append_left (by show 3 + k < 9; omega), List.getElem?_append_right (by show 3 ≤ 3 + k; omega), show 3 + k - [Value.int .i64 o.k, .int .i64 o.s, .int .i64 o.t].length = k by show 3 + k - 3 = k; omega]
  exact hv
theorem at_nd {w : World} {b : Nat} {o : Opn} {x y : Sx} (h : Da.Blk w b 35 (opL o x y).toArray) : Ld.At w b 9 (sixL o.nd y) := fun k v hv => by
  rw [Da.Blk.cell h, ← Array.getElem?_toList]
  have hk : k < 6 := by
    rcases Nat.lt_or_ge k 6 with h1 | h1
    · exact h1
    · rw [List.getElem?_eq_none (by exact h1)] at hv; cases hv
  show (([.int .i64 o.k, .int .i64 o.s, .int .i64 o.t] ++ sixL o.id x) ++ sixL o.nd y ++ [.int .i64 o.n])[9 + k]? = _
  rw [List.append_assoc, List.getElem?_append_right (by show 9 ≤ 9 + k; omega), show 9 + k - ([Value.int .i64 o.k, .int .i64 o.s, .int .i64 o.t] ++ sixL o.id x).length = k by show 9 + k - 9 = k; omega, List.getElem?_append_left (by exact hk)]
  exact hv
def opZ : Array Value := #[.int .i64 0, .int .i64 0, .int .i64 0, .int .i64 0, .int .i64 0, .string ⟨#[]⟩, .slice none 0 0, .slice none 0 0, .slice none 0 0, .int .i64 0, .int .i64 0, .string ⟨#[]⟩, .slice none 0 0, .slice none 0 0, .slice none 0 0, .int .i64 0]
def dtZ : Array Value := #[.int .i64 0, .int .i64 0, .string ⟨#[]⟩, .slice none 0 0, .slice none 0 0, .slice none 0 0]
set_option maxRecDepth 100000 in
set_option maxHeartbeats 16000000 in
theorem small_any (l : List Opn) (a : Option Addr) (c B : Nat) (w : World) (hc : l.length ≤ c) (hcm : c ≤ maxLen) (hB : B ≤ w.heap.size) (h : IsOps w (Da.Lo B) a l) :
    Calls Try.prog 8 #[.slice a l.length c] w (SmallIs l a l.length c w) := by
  unfold maxLen at hcm
  have HO := Lib.hid h
  clear h
  obtain ⟨m, hm⟩ : ∃ m, min l.length 60 = m := ⟨_, rfl⟩
  have hmi : min (l.length : Int) 60 = (m : Int) := by omega
  have hm60 : m ≤ 60 := by omega
  have hml : m ≤ l.length := by omega
  have HM : Hid (min l.length 60 = m) := Lib.hid hm
  have hrun : ∀ w, (Instr.slice 22 (.slice a l.length c) none (some (.int .i64 (m : Int))) none).run Try.prog w = .ok (.slice a m c) w := run_pre a _ c _ (by omega)
  clear hm
  go_enter Try.func8, Try.ntmps8
  go_wp2_with fail
  go_loopw [15] (fun i wr => ∃ k : Nat, k ≤ m ∧ i = .int .i64 (k : Int) ∧ Hid (opSmallTill l k) ∧ Below w.heap.size w wr) (fun i _ => m - (intOf i).toNat)
  case atStart => exact ⟨0, Nat.zero_le _, rfl, Lib.hid (fun j o hj _ => absurd hj (Nat.not_lt_zero _)), Below.refl _ _⟩
  case round =>
    obtain ⟨wo, rfl⟩ : ∃ wo : World, wo = wr := ⟨_, rfl⟩
    obtain ⟨k, hk, rfl, htill, hbel⟩ := hrel
    have HBL := Lib.hid hbel
    by_cases hlk : k < m
    · have dl : decide ((k : Int) < (m : Int)) = true := decide_eq_true (by omega)
      have i0 : (0 : Int) ≤ (k : Int) := Int.natCast_nonneg _
      have i1 : (k : Int) < (m : Int) := by omega
      obtain ⟨o, ho⟩ : ∃ o, l[k]? = some o := ⟨l[k]'(by omega), List.getElem?_eq_getElem _⟩
      obtain ⟨g, off, rfl, hg, x, y, hat, hid, hnd, hwn⟩ := (HO.out.below (hbel.mono hB)) k o ho
      have HAT := Lib.hid hat
      have HID := Lib.hid (And.intro hid hnd)
      have HOK := Lib.hid ho
      have hszr := hbel.size
      clear hat hid hnd hwn ho hbel
      go_upto_region 5 with (first | (refine load_list (.tmp 17) 35 g (off + k * 16) (opL o x y) _ rfl rfl rfl HAT.out Try.underlying35 rfl info_op ?_) | (refine wpList_store_row rfl 35 (.tmp 5) (.tmp 18) rfl wo.heap.size (opL o x y).toArray rfl rfl 35 opZ (heap_alloc_new wo _) info_op rfl (opL_one _ _ _) ?_))
      generalize hX4 : (World.setRow (World.alloc wo _) wo.heap.size (opL o x y).toArray) = W4
      have hb4 : Below wo.heap.size wo W4 := by rw [← hX4]; exact bel_row ((Below.refl _ _).alloc (Nat.le_refl _) _) _ _ (Nat.le_refl _)
      have hz4 : Da.Blk W4 wo.heap.size 35 (opL o x y).toArray := by rw [← hX4]; exact setRow_heap _ _ opZ _ _ _ (heap_alloc_new wo _)
      have HB4 := Lib.hid (HBL.out.trans (hb4.mono hszr))
      have HZ4 := Lib.hid hz4
      have hs4 : w.heap.size ≤ W4.heap.size := Nat.le_trans hszr hb4.size
      clear hX4 hb4 hz4
      go_upto_region 6 with (first | (refine load_list (.tmp 19) 33 wo.heap.size 3 [.int .i64 o.id.K, .int .i64 o.id.N, .string o.id.S, .slice x.m o.id.M.length x.cm, .slice x.l o.id.L.length x.cl, .slice x.t o.id.T.length x.ct] _ rfl rfl rfl (at_id HZ4.out) Try.underlying33 rfl info_dat6 ?_) | (refine load_list (.tmp 21) 33 wo.heap.size 9 [.int .i64 o.nd.K, .int .i64 o.nd.N, .string o.nd.S, .slice y.m o.nd.M.length y.cm, .slice y.l o.nd.L.length y.cl, .slice y.t o.nd.T.length y.ct] _ rfl rfl rfl (at_nd HZ4.out) Try.underlying33 rfl info_dat6 ?_))
      have hn5 : Da.Blk (W4.alloc (.cells #[.int .i64 o.id.K, .int .i64 o.id.N, .string o.id.S, .slice x.m o.id.M.length x.cm, .slice x.l o.id.L.length x.cl, .slice x.t o.id.T.length x.ct, .int .i64 o.nd.K, .int .i64 o.nd.N, .string o.nd.S, .slice y.m o.nd.M.length y.cm, .slice y.l o.nd.L.length y.cl, .slice y.t o.nd.T.length y.ct] 33)) W4.heap.size 33 (sixL o.id x ++ sixL o.nd y).toArray := one_new W4 _ _
      have hb5 := HB4.out.alloc hs4 (.cells #[.int .i64 o.id.K, .int .i64 o.id.N, .string o.id.S, .slice x.m o.id.M.length x.cm, .slice x.l o.id.L.length x.cl, .slice x.t o.id.T.length x.ct, .int .i64 o.nd.K, .int .i64 o.nd.N, .string o.nd.S, .slice y.m o.nd.M.length y.cm, .slice y.l o.nd.L.length y.cl, .slice y.t o.nd.T.length y.ct] 33)
      have hz5 : W4.heap.size < (W4.alloc (.cells #[.int .i64 o.id.K, .int .i64 o.id.N, .string o.id.S, .slice x.m o.id.M.length x.cm, .slice x.l o.id.L.length x.cl, .slice x.t o.id.T.length x.ct, .int .i64 o.nd.K, .int .i64 o.nd.N, .string o.nd.S, .slice y.m o.nd.M.length y.cm, .slice y.l o.nd.L.length y.cl, .slice y.t o.nd.T.length y.ct] 33)).heap.size := by simp
      generalize hV : W4.alloc (.cells #[.int .i64 o.id.K, .int .i64 o.id.N, .string o.id.S, .slice x.m o.id.M.length x.cm, .slice x.l o.id.L.length x.cl, .slice x.t o.id.T.length x.ct, .int .i64 o.nd.K, .int .i64 o.nd.N, .string o.nd.S, .slice y.m o.nd.M.length y.cm, .slice y.l o.nd.L.length y.cl, .slice y.t o.nd.T.length y.ct] 33) = V4 at *
      clear hV
      have HN5 := Lib.hid hn5
      have HB5 := Lib.hid hb5
      clear hn5 hb5
      go_wp2_with fail
      go_loopw [25] (fun i wv => ∃ j : Nat, j ≤ 2 ∧ i = .int .i64 (j : Int) ∧ SmIn w W4.heap.size (sixL o.id x ++ sixL o.nd y) o.id o.nd j wv) (fun i _ => 2 - (intOf i).toNat)
      case atStart => exact ⟨0, Nat.zero_le _, rfl, HN5.out, (fun h => absurd h (Nat.not_lt_zero _)), (fun h => absurd h (by decide)), HB5.out⟩
      case round =>
        obtain ⟨j, hj, rfl, hblk, hs0, hs1, hbv⟩ := hrel
        have HSM := Lib.hid (And.intro hs0 hs1)
        have HBV := Lib.hid hbv
        have HBK := Lib.hid hblk
        clear hs0 hs1
        by_cases hj2 : j < 2
        · have dj : decide ((j : Int) < 2) = true := decide_eq_true (by omega)
          have j0 : (0 : Int) ≤ (j : Int) := Int.natCast_nonneg _
          have j1 : (j : Int) < 2 := by omega
          have hat := at_six hblk j hj2
          have hsz := hbv.size
          obtain ⟨d, hd⟩ : ∃ d, (if j = 0 then o.id else o.nd) = d := ⟨_, rfl⟩
          obtain ⟨z, hz⟩ : ∃ z, (if j = 0 then x else y) = z := ⟨_, rfl⟩
          have hln : (d.S.size : Int) ≤ 9223372036854775807 ∧ (d.M.length : Int) ≤ 9223372036854775807 ∧ (d.L.length : Int) + (d.T.length : Int) ≤ 9223372036854775807 := by
            rw [← hd]
            split
            · exact dt_lens HID.out.1
            · exact dt_lens HID.out.2
          rw [hd, hz] at hat
          have HAT6 := Lib.hid hat
          have HD := Lib.hid hd
          have hlt4 : W4.heap.size < wr.heap.size := (Array.getElem?_eq_some_iff.1 hblk).1
          obtain ⟨l1, l2, l3⟩ := hln
          clear hblk hbv hat hd hz
          go_upto_region 8 with (first | (refine load_list (.tmp 27) 33 W4.heap.size (j * 6) [.int .i64 d.K, .int .i64 d.N, .string d.S, .slice z.m d.M.length z.cm, .slice z.l d.L.length z.cl, .slice z.t d.T.length z.ct] _ rfl rfl rfl HAT6.out Try.underlying33 rfl info_dat6 ?_) | (refine wpList_store_row rfl 33 (.tmp 7) (.tmp 28) rfl wr.heap.size (sixL d z).toArray rfl rfl 33 dtZ (heap_alloc_new wr _) info_dat6 rfl (sixL_one _ _) ?_))
          generalize hX6 : (World.setRow (World.alloc wr _) wr.heap.size (sixL d z).toArray) = W6
          have hb6 : Below wr.heap.size wr W6 := by rw [← hX6]; exact bel_row ((Below.refl _ _).alloc (Nat.le_refl _) _) _ _ (Nat.le_refl _)
          have hz6 : Da.Blk W6 wr.heap.size 33 (sixL d z).toArray := by rw [← hX6]; exact setRow_heap _ _ dtZ _ _ _ (heap_alloc_new wr _)
          have c2 : W6.cell? ⟨wr.heap.size, 2, none⟩ = some (.string d.S) := (hz6.cell 2).trans rfl
          have c3 : W6.cell? ⟨wr.heap.size, 3, none⟩ = some (.slice z.m d.M.length z.cm) := (hz6.cell 3).trans rfl
          have c4 : W6.cell? ⟨wr.heap.size, 4, none⟩ = some (.slice z.l d.L.length z.cl) := (hz6.cell 4).trans rfl
          have c5 : W6.cell? ⟨wr.heap.size, 5, none⟩ = some (.slice z.t d.T.length z.ct) := (hz6.cell 5).trans rfl
          have HB6 := Lib.hid (HBV.out.trans (hb6.mono hsz))
          have HK6 := Lib.hid ((hb6.block _ hlt4).trans HBK.out)
          clear hX6 hb6 hz6
          have a0 : (0 : Int) ≤ (d.L.length : Int) + (d.T.length : Int) := by omega
          have hno : ∀ b, dSmall d = b → Hid (dSmall (if j = 0 then o.id else o.nd) = b) := fun b hb => Lib.hid (by rw [HD.out]; exact hb)
          by_cases t1 : (d.S.size : Int) > 5000
          · have q1 : decide ((d.S.size : Int) > 5000) = true := decide_eq_true t1
            have HNO := hno _ (dsm_no1 t1)
            clear t1 hno
            go_wp2_with fail
            go_ret2
            exact ⟨HB6.out, .inr ⟨till_not (by omega) HOK.out (op_not HNO.out), rfl⟩⟩
          · have q1 : decide ((d.S.size : Int) > 5000) = false := decide_eq_false t1
            by_cases t2 : (d.M.length : Int) > 1000
            · have q2 : decide ((d.M.length : Int) > 1000) = true := decide_eq_true t2
              have HNO := hno _ (dsm_no2 t2)
              clear t1 t2 hno
              go_wp2_with fail
              go_ret2
              exact ⟨HB6.out, .inr ⟨till_not (by omega) HOK.out (op_not HNO.out), rfl⟩⟩
            · have q2 : decide ((d.M.length : Int) > 1000) = false := decide_eq_false t2
              by_cases t3 : (d.L.length : Int) + (d.T.length : Int) > 100
              · have q3 : decide ((d.L.length : Int) + (d.T.length : Int) > 100) = true := decide_eq_true t3
                have HNO := hno _ (dsm_no3 t3)
                clear t1 t2 t3 hno
                go_wp2_with fail
                go_ret2
                exact ⟨HB6.out, .inr ⟨till_not (by omega) HOK.out (op_not HNO.out), rfl⟩⟩
              · have q3 : decide ((d.L.length : Int) + (d.T.length : Int) > 100) = false := decide_eq_false t3
                have HNO := hno _ (dsm_yes t1 t2 t3)
                clear t1 t2 t3 hno
                go_wp2_with fail
                go_roundw
                case rel =>
                  refine ⟨j + 1, hj2, by go_num, HK6.out, fun _ => ?_, fun h => ?_, HB6.out⟩
                  · rcases Nat.eq_zero_or_pos j with h0 | h0
                    · have := HNO.out; rw [if_pos h0] at this; exact this
                    · exact HSM.out.1 h0
                  · have := HNO.out; rw [if_neg (by omega)] at this; exact this
                case measure => simp [intOf]; omega
        · have dj : decide ((j : Int) < 2) = false := decide_eq_false (by omega)
          have hos : opSmall o = true := by unfold opSmall; rw [HSM.out.1 (by omega), HSM.out.2 (by omega)]; rfl
          have hnx : Hid (opSmallTill l (k + 1)) := Lib.hid (fun i o' hi ho' => by
            rcases Nat.lt_or_ge i k with h | h
            · exact htill.out i o' h ho'
            · obtain rfl : i = k := by omega
              rw [HOK.out] at ho'
              obtain rfl := Option.some.inj ho'
              exact hos)
          obtain rfl : j = 2 := by omega
          clear hblk hbv hos hj2
          go_wp2_with fail
          go_roundw
          case rel => exact ⟨k + 1, hlk, by go_num, hnx, HBV.out⟩
          case measure => simp [intOf]; omega
    · have dl : decide ((k : Int) < (m : Int)) = false := decide_eq_false (by omega)
      obtain rfl : k = m := by omega
      have HT := Lib.hid (till_all HM.out htill.out)
      clear htill hbel
      go_wp2_with fail
      go_ret2
      exact ⟨HBL.out, .inl ⟨HT.out, by rw [HM.out]; rfl⟩⟩
end Go.Proofs.Yteolfkkabhileaa.Sc
end
