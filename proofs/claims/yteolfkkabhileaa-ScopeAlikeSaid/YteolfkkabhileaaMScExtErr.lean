/- Extend and Mark and Find, whatever they are handed (layer 5): the program's. -/
import Derived.Test.YteolfkkabhileaaMScExt
import Derived.Test.YteolfkkabhileaaMScMark
import Derived.Test.YteolfkkabhileaaMScFind2
section
namespace Go.Proofs.Yteolfkkabhileaa.Sc
open Go.ChangeShapes Go.WideShapes Go.ChangeAt Go.RowKit
set_option linter.unusedVariables false
set_option linter.unusedSimpArgs false

set_option maxRecDepth 100000 in
set_option maxHeartbeats 8000000 in
theorem ext_err (p : Option Addr) (s what : Int) (d : Da.Dt) (v : Value) (B : Nat) (k : Int) (w : World) (hd : Da.IsDt w (Da.Lo B) d v) (hk : k ≠ 0)
    (hc : Hid (∀ w2, Below w.heap.size w w2 → Calls Try.prog 35 #[.pointer p, .int .i64 s] w2 fun e w' => e = .returned (.int .i64 k) ∧ w2 = w')) :
    Calls Try.prog 15 #[.pointer p, .int .i64 s, v, .int .i64 what] w fun e w' => e = .returned (.tuple #[.int .i64 0, .int .i64 k]) ∧ Below w.heap.size w w' := by
  obtain ⟨am, cm, al, cl, at_, ct, rfl, _⟩ := hd.open_
  have dk : (k != 0) = true := by simpa using hk
  have HB := Lib.hid (show Below w.heap.size w (w.alloc (.cells (six d am cm al cl at_ ct) 33)) from (Below.refl _ _).alloc (Nat.le_refl _) _)
  clear hd hk
  go_enter Try.func15, Try.ntmps15
  go_wp2_with fail
  refine (hc.out _ HB.out).mono ?_
  rintro e w2 ⟨rfl, rfl⟩
  go_wp2_with fail
  go_ret2
  exact ⟨rfl, HB.out⟩
set_option maxRecDepth 100000 in
set_option maxHeartbeats 8000000 in
theorem ext_form (tb : Nat) (a : Option Addr) (n c : Nat) (s : Nat) (what : Int) (d : Da.Dt) (v : Value) (B : Nat) (w : World) (hd : Da.IsDt w (Da.Lo B) d v) (hB : B ≤ w.heap.size) (htb : w.cell? ⟨tb, 0, none⟩ = some (.slice a n c)) (hs : s < n) (hbad : ¬ (d.K = 5 ∧ Da.chk d = 0)) :
    Calls Try.prog 15 #[.pointer (some ⟨tb, 0, none⟩), .int .i64 (s : Int), v, .int .i64 what] w fun e w' => e = .returned (.tuple #[.int .i64 0, .int .i64 5]) ∧ Below w.heap.size w w' := by
  have hltT := World.block_lt_of_cell? w _ htb
  have HD := Lib.hid hd
  obtain ⟨am, cm, al, cl, at_, ct, rfl, _⟩ := hd.open_
  have n1 := one_new w (six d am cm al cl at_ ct) 33
  have hbX : Below w.heap.size w (w.alloc (.cells (six d am cm al cl at_ ct) 33)) := (Below.refl _ _).alloc (Nat.le_refl _) _
  have HC : Hid (chkE n (s : Int) = 0) := Lib.hid (by unfold chkE; rw [if_neg (by omega), if_neg (by rintro (h | h) <;> omega)])
  have HBAD := Lib.hid hbad
  have HTB := Lib.hid htb
  clear hd htb hbad hs
  go_enter Try.func15, Try.ntmps15
  go_upto_region 1 with (fail)
  generalize hX : (World.alloc w _) = X
  replace n1 : Da.Blk X w.heap.size 33 (six d am cm al cl at_ ct) := by rw [← hX]; exact n1
  replace hbX : Below w.heap.size w X := by rw [← hX]; exact hbX
  have hXs : X.heap.size = w.heap.size + 1 := by rw [← hX]; simp
  clear hX
  have HN1 := Lib.hid n1
  have HBX := Lib.hid hbX
  have HXS := Lib.hid hXs
  clear n1 hbX hXs
  go_wp2_with fail
  refine (check_any tb _ n c _ _ ((HBX.out.cell (p := ⟨tb, 0, none⟩) hltT).trans HTB.out)).mono ?_
  rintro e w2 ⟨rfl, rfl⟩
  rw [HC.out]
  have e0 : X.cell? ⟨w.heap.size, 0, none⟩ = some (.int .i64 d.K) := (HN1.out.cell 0).trans rfl
  have e1 : X.cell? ⟨w.heap.size, 1, none⟩ = some (.int .i64 d.N) := (HN1.out.cell 1).trans rfl
  have e2 : X.cell? ⟨w.heap.size, 2, none⟩ = some (.string d.S) := (HN1.out.cell 2).trans rfl
  have e3 : X.cell? ⟨w.heap.size, 3, none⟩ = some (.slice am d.M.length cm) := (HN1.out.cell 3).trans rfl
  have e4 : X.cell? ⟨w.heap.size, 4, none⟩ = some (.slice al d.L.length cl) := (HN1.out.cell 4).trans rfl
  have e5 : X.cell? ⟨w.heap.size, 5, none⟩ = some (.slice at_ d.T.length ct) := (HN1.out.cell 5).trans rfl
  go_wp2_with fail
  refine (identify_bad d _ B _ (HD.out.below (HBX.out.mono hB)) (by have := HXS.out; omega) HBAD.out).mono ?_
  rintro e w3 ⟨rfl, hb3⟩
  have HB3 := Lib.hid (HBX.out.trans (hb3.mono HBX.out.size))
  have hlt3 : w.heap.size < w3.heap.size := by have := hb3.size; have := HXS.out; omega
  clear hb3 e0 e1 e2 e3 e4 e5
  unfold zeroId
  go_wp2_with (refine wpList_store_row rfl 82 (.tmp 11) (.tmp 23) rfl w3.heap.size (A17 [] (fun _ => 0)) rfl rfl 82 (A17 [] (fun _ => 0)) (heap_alloc_new w3 _) info_id rfl (A17_one _ _) ?_)
  go_ret2
  exact ⟨rfl, bel_row (HB3.out.alloc (by omega) _) _ _ (by omega)⟩
set_option maxRecDepth 100000 in
set_option maxHeartbeats 8000000 in
theorem ext_full (tb : Nat) (a : Option Addr) (n c : Nat) (s : Nat) (what : Int) (d : Da.Dt) (v : Value) (B : Nat) (w : World) (hd : Da.IsDt w (Da.Lo B) d v) (hB : B ≤ w.heap.size) (htb : w.cell? ⟨tb, 0, none⟩ = some (.slice a n c)) (hs : s < n) (hn : n = 16384) (h5 : d.K = 5) (hc : Da.chk d = 0) :
    Calls Try.prog 15 #[.pointer (some ⟨tb, 0, none⟩), .int .i64 (s : Int), v, .int .i64 what] w fun e w' => e = .returned (.tuple #[.int .i64 0, .int .i64 7]) ∧ Below w.heap.size w w' := by
  have hltT := World.block_lt_of_cell? w _ htb
  have HD := Lib.hid hd
  obtain ⟨am, cm, al, cl, at_, ct, rfl, _⟩ := hd.open_
  have n1 := one_new w (six d am cm al cl at_ ct) 33
  have hbX : Below w.heap.size w (w.alloc (.cells (six d am cm al cl at_ ct) 33)) := (Below.refl _ _).alloc (Nat.le_refl _) _
  have HC : Hid (chkE n (s : Int) = 0) := Lib.hid (by unfold chkE; rw [if_neg (by omega), if_neg (by rintro (h | h) <;> omega)])
  have H5 := Lib.hid (And.intro h5 hc)
  have HTB := Lib.hid htb
  have d16 : ((n : Int) == 16384) = true := by rw [hn]; rfl
  clear hd htb hs hn h5 hc
  go_enter Try.func15, Try.ntmps15
  go_upto_region 1 with (fail)
  generalize hX : (World.alloc w _) = X
  replace n1 : Da.Blk X w.heap.size 33 (six d am cm al cl at_ ct) := by rw [← hX]; exact n1
  replace hbX : Below w.heap.size w X := by rw [← hX]; exact hbX
  have hXs : X.heap.size = w.heap.size + 1 := by rw [← hX]; simp
  clear hX
  have HN1 := Lib.hid n1
  have HBX := Lib.hid hbX
  have HXS := Lib.hid hXs
  clear n1 hbX hXs
  go_wp2_with fail
  refine (check_any tb _ n c _ _ ((HBX.out.cell (p := ⟨tb, 0, none⟩) hltT).trans HTB.out)).mono ?_
  rintro e w2 ⟨rfl, rfl⟩
  rw [HC.out]
  have e0 : X.cell? ⟨w.heap.size, 0, none⟩ = some (.int .i64 d.K) := (HN1.out.cell 0).trans rfl
  have e1 : X.cell? ⟨w.heap.size, 1, none⟩ = some (.int .i64 d.N) := (HN1.out.cell 1).trans rfl
  have e2 : X.cell? ⟨w.heap.size, 2, none⟩ = some (.string d.S) := (HN1.out.cell 2).trans rfl
  have e3 : X.cell? ⟨w.heap.size, 3, none⟩ = some (.slice am d.M.length cm) := (HN1.out.cell 3).trans rfl
  have e4 : X.cell? ⟨w.heap.size, 4, none⟩ = some (.slice al d.L.length cl) := (HN1.out.cell 4).trans rfl
  have e5 : X.cell? ⟨w.heap.size, 5, none⟩ = some (.slice at_ d.T.length ct) := (HN1.out.cell 5).trans rfl
  go_wp2_with fail
  refine (identify_good d _ B _ (HD.out.below (HBX.out.mono hB)) (by have := HXS.out; omega) H5.out.1 H5.out.2).mono ?_
  rintro e w3 ⟨rfl, hb3⟩
  have HB3 := Lib.hid (HBX.out.trans (hb3.mono HBX.out.size))
  have hlt3 : w.heap.size < w3.heap.size := by have := hb3.size; have := HXS.out; omega
  clear hb3 e0 e1 e2 e3 e4 e5 HN1 HBX HXS
  go_upto_region 5 with (refine wpList_store_row rfl 82 (.tmp 11) (.tmp 23) rfl w3.heap.size (A17 (idn d).s (pad (idn d).m)) rfl rfl 82 (A17 [] (fun _ => 0)) (heap_alloc_new w3 _) info_id rfl (A17_one _ _) ?_)
  generalize hX4 : (World.setRow (World.alloc w3 _) w3.heap.size (A17 (idn d).s (pad (idn d).m))) = W4
  have hb4 : Below w3.heap.size w3 W4 := by rw [← hX4]; exact bel_row ((Below.refl _ _).alloc (Nat.le_refl _) _) _ _ (Nat.le_refl _)
  have hbw : Below w.heap.size w W4 := HB3.out.trans (hb4.mono HB3.out.size)
  have c4 : W4.cell? ⟨tb, 0, none⟩ = some (.slice a n c) := (hbw.cell (p := ⟨tb, 0, none⟩) hltT).trans HTB.out
  have HBW := Lib.hid hbw
  clear hX4 hb4 hbw
  go_wp2_with fail
  go_ret2
  exact ⟨rfl, HBW.out⟩
/- All of it at once. -/
def IsSym (d : Da.Dt) : Prop := d.K = 5 ∧ Da.chk d = 0
instance (d : Da.Dt) : Decidable (IsSym d) := by unfold IsSym; exact inferInstance
def extE (T : Tab) (s : Int) (d : Da.Dt) : Int := if chkE T.rows.length s ≠ 0 then chkE T.rows.length s else if ¬ IsSym d then 5 else if T.rows.length = 16384 then 7 else 0
def extT (T : Tab) (s : Int) (d : Da.Dt) (what : Int) : Tab := if extE T s d = 0 then T.ext s.toNat (idn d) what else T
def extN (T : Tab) (s : Int) (d : Da.Dt) : Nat := if extE T s d = 0 then T.rows.length else 0
theorem chk_ok {n : Nat} {s : Int} (hn : n ≠ 0) (h : chkE n s = 0) : ∃ k : Nat, s = (k : Int) ∧ k < n := by
  unfold chkE at h
  rw [if_neg hn] at h
  split at h
  · exact absurd h (by decide)
  · next h1 => exact ⟨s.toNat, by omega, by omega⟩
theorem chg_bel {O : Nat → Prop} {w w' : World} {tb : Nat} {T : Tab} (h : TabIn w tb T O) (hb : Below w.heap.size w w') : TabIn w' tb T (fun k => O k ∨ w.heap.size ≤ k) ∧ Chg O w w' := ⟨(h.bel hb).more (fun k hk => .inl hk), .of_below _ hb⟩
theorem ext_all (tb : Nat) (T : Tab) (O : Nat → Prop) (s what : Int) (d : Da.Dt) (v : Value) (B : Nat) (w : World) (hd : Da.IsDt w (Da.Lo B) d v) (hB : B ≤ w.heap.size) (h : TabIn w tb T O) (hwf : (Lit.int .i64 what).wf = true) :
    Calls Try.prog 15 #[.pointer (some ⟨tb, 0, none⟩), .int .i64 s, v, .int .i64 what] w fun e w' => e = .returned (.tuple #[.int .i64 (extN T s d : Int), .int .i64 (extE T s d)]) ∧
      TabIn w' tb (extT T s d what) (fun k => O k ∨ w.heap.size ≤ k) ∧ Chg O w w' := by
  have h' := h
  obtain ⟨vs, vm, bm, ht, hO⟩ := h
  obtain ⟨a, c, rfl⟩ := slice_of ht.rows
  have c0 : w.cell? ⟨tb, 0, none⟩ = some (.slice a T.rows.length c) := (ht.blk.cell 0).trans rfl
  have hlt := ht.lt tb (.inl rfl)
  have hpos := ht.ok.pos
  by_cases hc : chkE T.rows.length s = 0
  · obtain ⟨k, rfl, hk⟩ := chk_ok (by omega) hc
    by_cases hy : IsSym d
    · by_cases hf : T.rows.length = 16384
      · have e : extE T (k : Int) d = 7 := by unfold extE; rw [if_neg (by simpa using hc), if_neg (by simpa using hy), if_pos hf]
        refine (ext_full tb a _ c k what d v B w hd hB c0 hk hf hy.1 hy.2).mono ?_
        rintro e' w' ⟨rfl, hb⟩
        unfold extN extT
        rw [e, if_neg (by decide), if_neg (by decide)]
        exact ⟨rfl, chg_bel h' hb⟩
      · have e : extE T (k : Int) d = 0 := by unfold extE; rw [if_neg (by simpa using hc), if_neg (by simpa using hy), if_neg hf]
        refine (ext_ok tb bm k T what d v B w _ vm hd hB ht hk (by have := ht.ok.few; omega) hwf hy.1 hy.2).mono ?_
        rintro e' w' ⟨rfl, h1, h2⟩
        unfold extN extT
        rw [e, if_pos rfl, if_pos rfl]
        exact ⟨rfl, h1.more (fun j hj => hj.imp (hO j) id), h2.mono hO⟩
    · have e : extE T (k : Int) d = 5 := by unfold extE; rw [if_neg (by simpa using hc), if_pos hy]
      refine (ext_form tb a _ c k what d v B w hd hB c0 hk hy).mono ?_
      rintro e' w' ⟨rfl, hb⟩
      unfold extN extT
      rw [e, if_neg (by decide), if_neg (by decide)]
      exact ⟨rfl, chg_bel h' hb⟩
  · have e : extE T s d = chkE T.rows.length s := by unfold extE; rw [if_pos hc]
    refine (ext_err _ s what d v B _ w hd hc (Lib.hid (fun w2 hb => check_any tb a _ c s w2 ((hb.cell (p := ⟨tb, 0, none⟩) hlt).trans c0)))).mono ?_
    rintro e' w' ⟨rfl, hb⟩
    unfold extN extT
    rw [e, if_neg hc, if_neg hc]
    exact ⟨rfl, chg_bel h' hb⟩
def markE (T : Tab) (s : Int) : Int := if chkE T.rows.length s ≠ 0 then chkE T.rows.length s else if T.marks.length = 16384 then 7 else 0
def markT (T : Tab) (s : Int) : Tab := if markE T s = 0 then T.mk_ s.toNat else T
def markN (T : Tab) (s : Int) : Nat := if markE T s = 0 then T.marks.length + 1 else 0
theorem mark_all (tb : Nat) (T : Tab) (O : Nat → Prop) (s : Int) (w : World) (h : TabIn w tb T O) :
    Calls Try.prog 17 #[.pointer (some ⟨tb, 0, none⟩), .int .i64 s] w fun e w' => e = .returned (.tuple #[.int .i64 (markN T s : Int), .int .i64 (markE T s)]) ∧
      TabIn w' tb (markT T s) (fun k => O k ∨ w.heap.size ≤ k) ∧ Chg O w w' := by
  have h' := h
  obtain ⟨vs, vm, bm, ht, hO⟩ := h
  obtain ⟨a, c, rfl⟩ := slice_of ht.rows
  have c0 : w.cell? ⟨tb, 0, none⟩ = some (.slice a T.rows.length c) := (ht.blk.cell 0).trans rfl
  have hlt := ht.lt tb (.inl rfl)
  have hpos := ht.ok.pos
  by_cases hc : chkE T.rows.length s = 0
  · obtain ⟨k, rfl, hk⟩ := chk_ok (by omega) hc
    by_cases hf : T.marks.length = 16384
    · have e : markE T (k : Int) = 7 := by unfold markE; rw [if_neg (by simpa using hc), if_pos hf]
      refine (mark_full tb bm k T w _ vm ht hk hf).mono ?_
      rintro e' w' ⟨rfl, rfl⟩
      unfold markN markT
      rw [e, if_neg (by decide), if_neg (by decide)]
      exact ⟨rfl, chg_bel h' (Below.refl _ _)⟩
    · have e : markE T (k : Int) = 0 := by unfold markE; rw [if_neg (by simpa using hc), if_neg hf]
      refine (mark_ok tb bm k T w _ vm ht hk (by have := ht.ok.fewM; omega)).mono ?_
      rintro e' w' ⟨rfl, h1, h2⟩
      unfold markN markT
      rw [e, if_pos rfl, if_pos rfl]
      exact ⟨rfl, h1.more (fun j hj => hj.imp (hO j) id), h2.mono hO⟩
  · have e : markE T s = chkE T.rows.length s := by unfold markE; rw [if_pos hc]
    refine (mark_err _ s (chkE T.rows.length s) w hc (Lib.hid (check_any tb a _ c s w c0))).mono ?_
    rintro e' w' ⟨rfl, rfl⟩
    unfold markN markT
    rw [e, if_neg hc, if_neg hc]
    exact ⟨rfl, chg_bel h' (Below.refl _ _)⟩
def findE (T : Tab) (s : Int) (d : Da.Dt) : Int := if chkE T.rows.length s ≠ 0 then chkE T.rows.length s else if ¬ IsSym d then 5 else if markOk T.marks.length d.M = true then 0 else 50
def findZ (T : Tab) (s : Int) (d : Da.Dt) : Seen := if findE T s d = 0 then T.seen s.toNat (idn d) else Seen.zero
theorem find_all (tb : Nat) (T : Tab) (O : Nat → Prop) (s : Int) (d : Da.Dt) (v : Value) (B : Nat) (w : World) (hd : Da.IsDt w (Da.Lo B) d v) (hB : B ≤ w.heap.size) (h : TabIn w tb T O) :
    Calls Try.prog 19 #[.pointer (some ⟨tb, 0, none⟩), .int .i64 s, v] w (FindIs (findZ T s d) (findE T s d) w) := by
  obtain ⟨vs, vm, bm, ht, hO⟩ := h
  obtain ⟨a, c, rfl⟩ := slice_of ht.rows
  have c0 : w.cell? ⟨tb, 0, none⟩ = some (.slice a T.rows.length c) := (ht.blk.cell 0).trans rfl
  have hlt := ht.lt tb (.inl rfl)
  have hpos := ht.ok.pos
  by_cases hc : chkE T.rows.length s = 0
  · obtain ⟨k, rfl, hk⟩ := chk_ok (by omega) hc
    by_cases hy : IsSym d
    · have hf := find_sym tb T k d v B w _ vm bm hd hB ht hk hy.1 hy.2
      by_cases hm : markOk T.marks.length d.M = true
      · have e : findE T (k : Int) d = 0 := by unfold findE; rw [if_neg (by simpa using hc), if_neg (by simpa using hy), if_pos hm]
        rw [if_pos hm, if_pos hm] at hf
        unfold findZ
        rw [e, if_pos rfl]
        exact hf
      · have e : findE T (k : Int) d = 50 := by unfold findE; rw [if_neg (by simpa using hc), if_neg (by simpa using hy), if_neg hm]
        rw [if_neg hm, if_neg hm] at hf
        unfold findZ
        rw [e, if_neg (by decide)]
        exact hf
    · have e : findE T (k : Int) d = 5 := by unfold findE; rw [if_neg (by simpa using hc), if_pos hy]
      unfold findZ
      rw [e, if_neg (by decide)]
      exact find_form tb a _ c k d v B w hd hB c0 hk hy
  · have e : findE T s d = chkE T.rows.length s := by unfold findE; rw [if_pos hc]
    unfold findZ
    rw [e, if_neg hc]
    exact find_err _ s d v B _ w hd hc (Lib.hid (fun w2 hb => check_any tb a _ c s w2 ((hb.cell (p := ⟨tb, 0, none⟩) hlt).trans c0)))
end Go.Proofs.Yteolfkkabhileaa.Sc
end
