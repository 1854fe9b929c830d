/- P5.5: a name with a new mark: the walk. -/
import Derived.Test.YtapnighankepjaaMG0
import Derived.Test.YtapnighankepjaaMG1
import Derived.Maps.OwnIn
import Derived.Maps.AppendAt
import Derived.Laws.AppendOwnNone
import Derived.Test.YtapnighankepjaaDatRSame
section
namespace Go.Proofs.Ytapnighankepjaa.Sc
open Go.ChangeShapes Go.WideShapes Go.ChangeAt Go.RowKit
set_option linter.unusedVariables false
set_option linter.unusedSimpArgs false

/-- The datum of an identifier. -/
def dtI (x : Idn) : Da.Dt := .mk 5 0 ⟨x.s.toArray⟩ x.m [] []
def datZ : Array Value := #[.int .i64 0, .int .i64 0, .string ⟨#[]⟩, .slice none 0 0, .slice none 0 0, .slice none 0 0]
theorem info_dt6 : (Try.prog.info? 33).map (·.size) = some 6 := by kernel_rfl
theorem run_arr (b m : Nat) (h : m ≤ 16) (w : World) : (Instr.sliceAt 73 (.pointer (some ⟨b, 1, none⟩)) none (some (.int .i64 (m : Int))) none).run Try.prog w = .ok (.slice (some ⟨b, 1, none⟩) m 16) w := by
  have hb : (Instr.sliceBound (.int .i64 (m : Int)) 16 .sliceAlen).run Try.prog w = .ok m w := by
    have := run_sliceBound (P := Try.prog) w .i64 (m : Int) 16 .sliceAlen (by omega) (by omega)
    simpa using this
  have hs : (sizeOf 21).run Try.prog w = .ok 1 w := by kernel_rfl
  simp [Instr.sliceAt, Instr.sureAddr, run_underlying Try.underlying73, Instr.sliceBounds, Sem.run_bind, hb, hs, go_sem]
  try (split <;> simp [Addr.add])
def zs (l : List Int) : List Value := l.map (fun z => Value.int .i64 z)
theorem zs_len (l : List Int) : (zs l).length = l.length := List.length_map _
theorem zs_at (l : List Int) (k : Nat) (h : k < l.length) : (zs l)[k]? = some (.int .i64 (l.getD k 0)) := by
  unfold zs; rw [List.getElem?_map, List.getElem?_eq_getElem h, List.getD_eq_getElem?_getD, List.getElem?_eq_getElem h]; rfl
theorem own_introw {w : World} {N : Nat} {am : Option Addr} {cm : Nat} {l : List Int} (h : w.ownsRow N 3 1 (.slice am l.length cm) l.length (zs l)) (hl : l.length ≤ 16) (hz : ∀ z ∈ l, (Lit.int .i64 z).wf = true) : Da.IntRow w (fun b => N ≤ b ∧ b < w.heap.size) am l.length cm l := by
  rcases h.2 with ⟨h1, h0⟩ | ⟨g, cap, cur, h1, h2, h3, h4, h5, _⟩
  · injection h1 with e1 e2 e3
    subst e1 e3
    exact ⟨rfl, by omega, by unfold maxLen; omega, by omega, fun _ => rfl, hz, fun k hk => by omega⟩
  · injection h1 with e1 e2 e3
    subst e1 e3
    refine ⟨rfl, h4, h5, by omega, (fun e => by cases e), hz, fun k hk => ⟨g, 0, rfl, ⟨h2, (Array.getElem?_eq_some_iff.1 h3).1⟩, ?_⟩⟩
    have h6 := h.cells rfl k _ (zs_at l k hk)
    rw [Ld.add_at] at h6
    exact h6
def symD (s : ByteArray) (v : Value) : Array Value := #[.int .i64 5, .int .i64 0, .string s, v, .slice none 0 0, .slice none 0 0]
theorem symD_one (s : ByteArray) (a : Option Addr) (n c : Nat) : (symD s (.slice a n c)).all (·.oneCell') = true := by unfold symD; simp [Value.oneCell']
theorem symD_set (s : ByteArray) (v v' : Value) : (symD s v).setIfInBounds 3 v' = symD s v' := rfl
/-- What a round knows. -/
structure SymIn (w : World) (x : Idn) (k : Nat) (va : Option Addr) (vc : Nat) (W : World) : Prop where
  bel : Below w.heap.size w W
  id : Bk W w.heap.size x.s (pad x.m)
  res : Da.Blk W (w.heap.size + 1) 33 datZ
  dat : Da.Blk W (w.heap.size + 2) 33 (symD ⟨x.s.toArray⟩ (.slice va k vc))
  row : W.ownsRow (w.heap.size + 3) 3 1 (.slice va k vc) k (zs (x.m.take k))
theorem SymIn.lt {w : World} {x : Idn} {k : Nat} {va : Option Addr} {vc : Nat} {W : World} (h : SymIn w x k va vc W) : w.heap.size + 3 ≤ W.heap.size := (Array.getElem?_eq_some_iff.1 h.dat).1
theorem SymIn.below {w : World} {x : Idn} {k : Nat} {va : Option Addr} {vc : Nat} {W W' : World} (h : SymIn w x k va vc W) (hb : Below W.heap.size W W') : SymIn w x k va vc W' := by
  have hl := h.lt
  exact ⟨h.bel.trans (hb.mono h.bel.size), (hb.block _ (by omega)).trans h.id, (hb.block _ (by omega)).trans h.res, (hb.block _ (by omega)).trans h.dat, ownsRow_same h.row (fun g hg => hb.block g (h.row.lt g hg).2)⟩
/-- 'd.M = append(d.M, int(mark))'. -/
theorem SymIn.app {w : World} {x : Idn} {k : Nat} {va va' : Option Addr} {vc vc' : Nat} {W w1 : World} {o : Obj} {z : Int} (h : SymIn w x k va vc W) (hk : k < x.m.length) (hz : x.m.getD k 0 = z)
    (hown : w1.ownsRow (w.heap.size + 3) 3 1 (.slice va' (k + 1) vc') (k + 1) (zs (x.m.take k) ++ [.int .i64 z])) (hg : (W.alloc o).grownBy w1 (Value.slice va k vc).ownBlock) :
    SymIn w x (k + 1) va' vc' (w1.setCell ⟨w.heap.size + 2, 3, none⟩ (.slice va' (k + 1) vc')) := by
  have hl := h.lt
  have hne : ∀ j, j < w.heap.size + 3 → some j ≠ (Value.slice va k vc).ownBlock := fun j hj e => by have := (h.row.lt j e.symm).1; omega
  have kp : ∀ j, j < w.heap.size + 3 → w1.heap[j]? = W.heap[j]? := fun j hj => (hg.block j (by rw [World.size_alloc]; omega) (hne j hj)).trans (Below.heap_alloc _ _ _ (by omega))
  have st : ∀ j, j ≠ w.heap.size + 2 → (w1.setCell ⟨w.heap.size + 2, 3, none⟩ (.slice va' (k + 1) vc')).heap[j]? = w1.heap[j]? := fun j hj => Below.heap_setCell _ _ _ _ hj
  have hd1 : Da.Blk w1 (w.heap.size + 2) 33 (symD ⟨x.s.toArray⟩ (.slice va k vc)) := (kp _ (by omega)).trans h.dat
  have hset := heap_setCell_same w1 (w.heap.size + 2) 3 (symD ⟨x.s.toArray⟩ (.slice va k vc)) 33 (.slice va' (k + 1) vc') hd1
  rw [symD_set] at hset
  have hsz : (w1.setCell ⟨w.heap.size + 2, 3, none⟩ (.slice va' (k + 1) vc')).heap.size = w1.heap.size := by simp [World.setCell]
  have hWs : W.heap.size ≤ w1.heap.size := Nat.le_trans (by simp) hg.size
  refine ⟨⟨hg.os.trans h.bel.os, hg.tape.trans h.bel.tape, hg.output.trans h.bel.output, by rw [hsz]; exact Nat.le_trans h.bel.size hWs, fun j hj => ?_⟩, ?_, ?_, hset, ?_⟩
  · exact (st j (by omega)).trans ((kp j (by omega)).trans (h.bel.block j hj))
  · exact (st _ (by omega)).trans ((kp _ (by omega)).trans h.id)
  · exact (st _ (by omega)).trans ((kp _ (by omega)).trans h.res)
  · have e : zs (x.m.take (k + 1)) = zs (x.m.take k) ++ [.int .i64 z] := by
      unfold zs
      rw [List.take_succ_eq_append_getElem hk, List.map_append, List.getD_eq_getElem?_getD, List.getElem?_eq_getElem hk] at *
      simp at hz
      simp [hz]
    rw [e]
    exact ownsRow_same hown (fun g hg' => st g (fun e => by have := (hown.lt g hg').1; omega))
theorem symbol_fin (w WF : World) (x : Idn) (va : Option Addr) (vc : Nat) (act : Act) (h2 : act.tmps.getD 2 undef = .pointer (some ⟨w.heap.size + 1, 0, none⟩)) (hd : act.defers = []) (hx : x.Ok) (h : SymIn w x x.m.length va vc WF) :
    bodyPost Try.prog Try.f37 (fun e w' => ∃ am cm, e = .returned (.agg (symD ⟨x.s.toArray⟩ (.slice am x.m.length cm))) ∧ Below w.heap.size w w' ∧ Da.IntRow w' (fun b => w.heap.size ≤ b ∧ b < w'.heap.size) am x.m.length cm x.m) Exit.ret act (WF.setRow (w.heap.size + 1) (symD ⟨x.s.toArray⟩ (.slice va x.m.length vc))) := by
  have hl := h.lt
  have hn : Da.Blk (WF.setRow (w.heap.size + 1) (symD ⟨x.s.toArray⟩ (.slice va x.m.length vc))) (w.heap.size + 1) 33 (symD ⟨x.s.toArray⟩ (.slice va x.m.length vc)) := setRow_heap WF _ _ _ _ _ h.res
  have hsz : (WF.setRow (w.heap.size + 1) (symD ⟨x.s.toArray⟩ (.slice va x.m.length vc))).heap.size = WF.heap.size := by simp
  have hrow : (WF.setRow (w.heap.size + 1) (symD ⟨x.s.toArray⟩ (.slice va x.m.length vc))).ownsRow (w.heap.size + 3) 3 1 (.slice va x.m.length vc) x.m.length (zs x.m) := by
    have := h.row
    rw [List.take_length] at this
    exact ownsRow_same this (fun g hg => setRow_other WF _ _ _ (by have := (h.row.lt g hg).1; omega))
  have hir := own_introw hrow hx.m (fun z hz => by
    have := hx.mark z hz
    simp [Lit.wf, IntKind.min, IntKind.max, IntKind.bits, IntKind.signed]
    omega)
  have hbel : Below w.heap.size w (WF.setRow (w.heap.size + 1) (symD ⟨x.s.toArray⟩ (.slice va x.m.length vc))) := bel_row h.bel _ _ (by omega)
  rw [Array.getD_eq_getD_getElem?] at h2
  generalize (WF.setRow (w.heap.size + 1) (symD ⟨x.s.toArray⟩ (.slice va x.m.length vc))) = W at *
  have e0 : W.cell? ⟨w.heap.size + 1, 0, none⟩ = some (.int .i64 5) := (hn.cell 0).trans rfl
  have e1 : W.cell? ⟨w.heap.size + 1, 1, none⟩ = some (.int .i64 0) := (hn.cell 1).trans rfl
  have e2 : W.cell? ⟨w.heap.size + 1, 2, none⟩ = some (.string ⟨x.s.toArray⟩) := (hn.cell 2).trans rfl
  have e3 : W.cell? ⟨w.heap.size + 1, 3, none⟩ = some (.slice va x.m.length vc) := (hn.cell 3).trans rfl
  have e4 : W.cell? ⟨w.heap.size + 1, 4, none⟩ = some (.slice none 0 0) := (hn.cell 4).trans rfl
  have e5 : W.cell? ⟨w.heap.size + 1, 5, none⟩ = some (.slice none 0 0) := (hn.cell 5).trans rfl
  refine bodyPost_ret (v := .agg (symD ⟨x.s.toArray⟩ (.slice va x.m.length vc))) ?_ hd ⟨va, vc, rfl, hbel, hir.1, hir.2.1, hir.2.2.1, hir.2.2.2.1, hir.2.2.2.2.1, hir.2.2.2.2.2.1, fun k hk => ?_⟩
  · simp [results, Try.results37, go_sem, symD, h2, e0, e1, e2, e3, e4, e5]
  · obtain ⟨b, off, h1, h3, h4⟩ := hir.2.2.2.2.2.2 k hk
    exact ⟨b, off, h1, ⟨by omega, h3.2⟩, h4⟩
theorem SymIn.mid {w : World} {x : Idn} {k : Nat} {va : Option Addr} {vc : Nat} {W w1 : World} {o : Obj} (h : SymIn w x k va vc W) (hg : (W.alloc o).grownBy w1 (Value.slice va k vc).ownBlock) : Da.Blk w1 (w.heap.size + 2) 33 (symD ⟨x.s.toArray⟩ (.slice va k vc)) := by
  have hl := h.lt
  have hne : some (w.heap.size + 2) ≠ (Value.slice va k vc).ownBlock := fun e => by have := (h.row.lt _ e.symm).1; omega
  exact ((hg.block _ (by rw [World.size_alloc]; omega) hne).trans (Below.heap_alloc _ _ _ (by omega))).trans h.dat
set_option maxRecDepth 100000 in
set_option maxHeartbeats 4000000 in
theorem symbol_any (x : Idn) (hx : x.Ok) (w : World) : Calls Try.prog 37 #[x.V] w fun e w' =>
    ∃ am cm, e = .returned (.agg (symD ⟨x.s.toArray⟩ (.slice am x.m.length cm))) ∧ Below w.heap.size w w' ∧ Da.IntRow w' (fun b => w.heap.size ≤ b ∧ b < w'.heap.size) am x.m.length cm x.m := by
  obtain ⟨i0, hi, hz0, hz1, hz2⟩ := info_parts info_int
  have HX := Lib.hid hx
  have hm := hx.m
  show Calls Try.prog 37 #[.agg (idL x).toArray] w _
  obtain ⟨L, hL⟩ : ∃ L, idL x = L := ⟨_, rfl⟩
  have hLs : L[0]? = some (.string ⟨x.s.toArray⟩) := by rw [← hL]; rfl
  have hLl : L.length = 17 := by rw [← hL]; rfl
  have HMANY : Hid (∀ w2, Calls Try.prog 48 #[.agg L.toArray] w2 fun e w' => e = .returned (.int .i64 (x.m.length : Int)) ∧ Below w2.heap.size w2 w') := Lib.hid (fun w2 => by rw [← hL]; exact many_any x hx w2)
  have HL := Lib.hid hL
  rw [hL]
  clear hL hx
  obtain ⟨n0, n1⟩ := two_new w L.toArray datZ 75 33
  have hbX := bel_two w (.cells L.toArray 75) (.cells datZ 33)
  have hsX : ((w.alloc (.cells L.toArray 75)).alloc (.cells datZ 33)).heap.size = w.heap.size + 2 := by simp
  go_enter Try.func37, Try.ntmps37
  go_upto_region 1 with (fail)
  generalize hX : (World.alloc (World.alloc w _) _) = X
  replace n0 : Da.Blk X w.heap.size 75 L.toArray := by rw [← hX]; exact n0
  replace n1 : Da.Blk X (w.heap.size + 1) 33 datZ := by rw [← hX]; exact n1
  replace hbX : Below w.heap.size w X := by rw [← hX]; exact hbX
  replace hsX : X.heap.size = w.heap.size + 2 := by rw [← hX]; exact hsX
  clear hX
  have e0 : X.cell? ⟨w.heap.size, 0, none⟩ = some (.string ⟨x.s.toArray⟩) := (n0.cell 0).trans (by simpa using hLs)
  go_upto_region 2 with (fail)
  generalize hX1 : (World.alloc X _) = X1
  have hb1 : Below X.heap.size X X1 := by rw [← hX1]; exact (Below.refl _ _).alloc (Nat.le_refl _) _
  have n2 : Da.Blk X1 (w.heap.size + 2) 33 (symD ⟨x.s.toArray⟩ (.slice none 0 0)) := by rw [← hX1, ← hsX]; exact heap_alloc_new X _
  have h0 : SymIn w x 0 none 0 X1 := by
    refine ⟨hbX.trans (hb1.mono hbX.size), ?_, (hb1.block _ (by omega)).trans n1, n2, by rw [List.take_zero]; exact World.ownsRow_nil _ _ _ _⟩
    have := (hb1.block _ (by omega)).trans n0
    rw [← HL.out] at this
    exact this
  have HAT : Hid (Ld.At X1 w.heap.size 0 L) := Lib.hid (by
    have := Ld.At.of_blk ((hb1.block _ (by omega)).trans n0)
    simpa using this)
  have H0 := Lib.hid h0
  clear hX1 n0 n1 n2 hbX e0 hb1 h0
  clear hsX
  have hra := run_arr w.heap.size x.m.length hm
  go_wp2_with (refine Ld.wpList_at rfl 75 (.tmp 1) rfl w.heap.size 0 rfl L _ HAT.out Try.underlying75 rfl (by rw [hLl]; exact info_id) ?_)
  refine (HMANY.out _).mono ?_
  rintro e X2 ⟨rfl, hb2⟩
  have H2 := Lib.hid (H0.out.below hb2)
  clear hb2 H0 HAT HMANY
  go_wp2_with fail
  go_loopw [14] (fun i wr => ∃ (k : Nat) (va : Option Addr) (vc : Nat), k ≤ x.m.length ∧ i = .int .i64 (k : Int) ∧ SymIn w x k va vc wr) (fun i _ => 17 - (intOf i).toNat)
  case atStart => exact ⟨0, none, 0, Nat.zero_le _, rfl, H2.out⟩
  case round =>
    obtain ⟨k, va, vc, hk, rfl, hS⟩ := hrel
    have HS := Lib.hid hS
    clear hS H2
    by_cases hlt : k < x.m.length
    · have dl : decide ((k : Int) < (x.m.length : Int)) = true := decide_eq_true (by omega)
      have i0' : (0 : Int) ≤ (k : Int) := Int.natCast_nonneg _
      have i1' : (k : Int) < (x.m.length : Int) := by omega
      obtain ⟨z, hz⟩ : ∃ z, pad x.m k = z := ⟨_, rfl⟩
      have hzb := pad_in HX.out hlt
      rw [hz] at hzb
      have ck : wr.cell? ⟨w.heap.size, 1 + k, none⟩ = some (.int .i32 z) := by rw [HS.out.id.cell, ← hz]; exact A17_at x.s (pad x.m) k (by omega)
      have hw := IntWalk.i64_in z (by omega)
      have c3 : wr.cell? ⟨w.heap.size + 2, 3, none⟩ = some (.slice va k vc) := (HS.out.dat.cell 3).trans rfl
      have HZ : Hid (x.m.getD k 0 = z) := Lib.hid hz
      have HLT := Lib.hid hlt
      have N1 : Hid (∀ j u, [Value.int .i64 z][j]? = some u → (wr.alloc (.cells #[.int .i64 z] 3)).cell? ((⟨wr.heap.size, 0, none⟩ : Addr).add j) = some u) := Lib.hid (fun j u hu => by
        rw [Ld.add_at, Nat.zero_add, cell_of_row _ _ _ _ _ _ (heap_alloc_new wr (.cells #[.int .i64 z] 3))]
        simpa using hu)
      have N2 : Hid (∀ u ∈ [Value.int .i64 z], u.oneCell' = true) := Lib.hid (fun u hu => by
        obtain rfl : u = .int .i64 z := by simpa using hu
        rfl)
      have N3 : Hid (k + 1 ≤ maxLen ∧ (k + 1) * 8 ≤ 140737488355328 ∧ w.heap.size + 3 ≤ (wr.alloc (.cells #[.int .i64 z] 3)).heap.size) := Lib.hid (by have := HS.out.lt; unfold maxLen; refine ⟨by omega, by omega, by rw [World.size_alloc]; omega⟩)
      clear hz hzb hlt
      go_wp2_with (at_builtin; (refine wpList_append_own_at _ rfl (.tmp 19) (.tmp 22) _ rfl (w.heap.size + 3) 3 i0 _ 1 8 Try.underlying30 hi hz0 hz1 hz2 rfl (Nat.zero_lt_one) _ k (zs (x.m.take k)) rfl (HS.out.row.alloc _) ⟨wr.heap.size, 0, none⟩ 1 1 [.int .i64 z] rfl rfl N1.out N2.out N3.out.1 N3.out.2.1 N3.out.2.2 ?_; intro v1 w1 hown1 hg1 hn1 hat1; obtain ⟨va', vc', rfl⟩ := slice_of hown1; have hbk := HS.out.mid hg1; have k1 : w1.cell? ⟨w.heap.size + 2, 3, none⟩ = some (.slice va k vc) := (hbk.cell 3).trans rfl; have k2 : w1.frozen? ⟨w.heap.size + 2, 3, none⟩ = false := hbk.frozen 3; have HE := Lib.hid (HS.out.app HLT.out HZ.out hown1 hg1); clear hown1 hg1 hn1 hat1 hbk))
      go_roundw
      case rel => exact ⟨k + 1, va', vc', HLT.out, by go_num, HE.out⟩
      case measure => have := HLT.out; simp [intOf]; omega
    · have dl : decide ((k : Int) < (x.m.length : Int)) = false := decide_eq_false (by omega)
      obtain rfl : k = x.m.length := by omega
      have HAT : Hid (Ld.At wr (w.heap.size + 2) 0 (symD ⟨x.s.toArray⟩ (.slice va x.m.length vc)).toList) := Lib.hid (Ld.At.of_blk HS.out.dat)
      go_wp2_with (first | (refine Ld.wpList_at rfl 33 (.tmp 3) rfl (w.heap.size + 2) 0 rfl _ _ HAT.out Try.underlying33 rfl info_dt6 ?_) | (refine wpList_store_row rfl 33 (.tmp 2) (.tmp 26) rfl (w.heap.size + 1) (symD ⟨x.s.toArray⟩ (.slice va x.m.length vc)) rfl rfl 33 datZ HS.out.res info_dt6 rfl (symD_one _ _ _ _) ?_))
      exact symbol_fin w _ x va vc _ rfl rfl HX.out HS.out
end Go.Proofs.Ytapnighankepjaa.Sc
end
section
namespace Go.Proofs.Ytapnighankepjaa.Sc
open Go Go.RowKit
set_option linter.unusedVariables false
set_option linter.unusedSimpArgs false

theorem idn_dtI (x : Idn) : idn (dtI x) = x := rfl
/-- A name with one mark more. -/
def withD (d : Da.Dt) (m : Int) : Da.Dt := .mk 5 0 d.S (d.M ++ [m]) [] []
theorem idn_with (d : Da.Dt) (m : Int) : idn (withD d m) = ⟨(idn d).s, (idn d).m ++ [m]⟩ := rfl
theorem with_of {d : Da.Dt} {m : Int} {x : Idn} (h : x = idn (withD d m)) : dtI x = withD d m := by subst h; rfl
theorem with_sym {d : Da.Dt} {m : Int} (hy : IsSym d) (hl : d.M.length < 16) (h1 : 1 ≤ m) (h2 : m ≤ 1048576) : IsSym (withD d m) := by
  refine ⟨rfl, ?_⟩
  have hp := Da.chk_self hy.2
  unfold Da.properB Da.properOf at hp
  rw [hy.1] at hp
  simp only [show ¬ (5 : Int) = 1 by decide, show ¬ (5 : Int) = 2 by decide, show ¬ (5 : Int) = 3 by decide, show ¬ (5 : Int) = 4 by decide, if_true, if_false, Bool.and_eq_true, beq_iff_eq] at hp
  obtain ⟨⟨⟨hs, hm⟩, _⟩, _⟩ := hp
  have hm2 : Da.marksB (d.M ++ [m]) = true := by
    unfold Da.marksB Da.allI at hm ⊢
    simp only [Bool.and_eq_true, Bool.not_eq_true', decide_eq_false_iff_not] at hm ⊢
    refine ⟨by rw [List.length_append]; show ¬ (16 : Int) < ((d.M.length + 1 : Nat) : Int); omega, ?_⟩
    rw [List.all_append, hm.2]
    have hb : Da.markB m = true := by
      unfold Da.markB
      rw [decide_eq_false (by omega : ¬ m < 1), decide_eq_false (by omega : ¬ 1048576 < m)]; rfl
    show (true && ([m].all Da.markB)) = true
    simp [hb]
  have hq : Da.properB (withD d m) = true := by
    show ((Da.symB d.S && Da.marksB (d.M ++ [m])) && ((0 : Int) == 0) && Da.nil2 0 0) = true
    rw [hs, hm2]; rfl
  have hn : Da.nodes (withD d m) 1 = [(withD d m, 1)] := rfl
  have he : Da.errOf 0 (Da.nodes (withD d m) 1) = 0 := by
    rw [hn, Da.errOf]
    have h0 : Da.mErr 0 (withD d m, 1).1 (withD d m, 1).2 = 0 := by
      unfold Da.mErr
      rw [if_neg (show ¬ 64 < 1 by decide), if_neg (show ¬ 0 = 4096 by decide), if_pos hq]
    rw [if_pos h0]; rfl
  unfold Da.chk Da.meas
  rw [if_pos he]
theorem markE_zero {T : Tab} {s : Int} (hT : T.Ok) (h : markE T s = 0) : ∃ k : Nat, s = (k : Int) ∧ k < T.rows.length ∧ T.marks.length < 16384 := by
  unfold markE at h
  split at h
  · next h1 => exact absurd h h1
  · next h1 =>
    split at h
    · exact absurd h (by decide)
    · next h2 =>
      obtain ⟨k, hk, hl⟩ := chk_ok (n := T.rows.length) (Nat.pos_iff_ne_zero.1 hT.pos) (by simpa using h1)
      exact ⟨k, hk, hl, by have := hT.fewM; omega⟩
theorem marks_bad {T U : Tab} {o : Int} {d : Da.Dt} (hpos : 0 < U.rows.length) (h : o < 0 ∨ (U.rows.length : Int) ≤ o) : findE U o d = 50 := by
  have hc : chkE U.rows.length o = 50 := by unfold chkE; rw [if_neg (by omega), if_pos h]
  unfold findE
  rw [hc, if_pos (by decide)]
theorem mk_rows (T : Tab) (s : Int) : (markT T s).rows = T.rows := by unfold markT; split <;> rfl
theorem marks_find {T : Tab} {s : Int} {k : Nat} {d : Da.Dt} (hT : T.Ok) (he : findE T s d = 0) (hm : markE T s = 0) (hl : d.M.length < 16) (hk : k < T.rows.length) (hn : ∀ i ∈ T.chain k, T.id i ≠ idn (withD d (markN T s : Int))) :
    findE (markT T s) (k : Int) (withD d (markN T s : Int)) = 0 ∧ findZ (markT T s) (k : Int) (withD d (markN T s : Int)) = findZ T s d := by
  obtain ⟨j, rfl, hj, hy, hmk⟩ := findE_zero hT.pos he
  obtain ⟨_, _, _, hf⟩ := markE_zero hT hm
  have eT : markT T (j : Int) = T.mk_ j := by unfold markT; rw [if_pos hm]; rfl
  have eN : markN T (j : Int) = T.marks.length + 1 := by unfold markN; rw [if_pos hm]
  rw [eN] at hn
  rw [eT, eN]
  have hU : (T.mk_ j).Ok := hT.mk_ hj hf
  have hsub : Sub T (T.mk_ j) := ⟨List.prefix_rfl, ⟨_, rfl⟩⟩
  have hys := with_sym (m := ((T.marks.length + 1 : Nat) : Int)) hy hl (by omega) (by omega)
  have hmo : markOk (T.mk_ j).marks.length (withD d ((T.marks.length + 1 : Nat) : Int)).M = true := by
    have hlen : (T.mk_ j).marks.length = T.marks.length + 1 := by unfold Tab.mk_; rw [List.length_append]; rfl
    rw [hlen]
    show (d.M ++ [((T.marks.length + 1 : Nat) : Int)]).all (fun m => decide (m ≤ ((T.marks.length + 1 : Nat) : Int))) = true
    rw [List.all_append, Bool.and_eq_true]
    refine ⟨?_, by simp⟩
    rw [List.all_eq_true]
    rw [markOk, List.all_eq_true] at hmk
    intro x hx
    have := hmk x hx
    simp only [decide_eq_true_eq] at this ⊢
    omega
  have h0 := findE_is (T := T.mk_ j) (k := k) (d := withD d ((T.marks.length + 1 : Nat) : Int)) hk hys hmo
  refine ⟨h0, ?_⟩
  unfold findZ
  rw [if_pos h0, if_pos he]
  show (T.mk_ j).seenR (idn d).s ((idn d).m ++ [((T.marks.length + 1 : Nat) : Int)]).reverse k = T.seen j (idn d)
  rw [List.reverse_append]
  show (T.mk_ j).seenR (idn d).s (((T.marks.length + 1 : Nat) : Int) :: (idn d).m.reverse) k = _
  unfold Tab.seenR
  have hb : (T.mk_ j).binder k ⟨(idn d).s, (((T.marks.length + 1 : Nat) : Int) :: (idn d).m.reverse).reverse⟩ = 0 := by
    rw [binder_sub hsub hT hU hk]
    refine binder_full (fun i hi => ?_)
    have h1 := hn i hi
    rw [idn_with] at h1
    rwa [List.reverse_cons, List.reverse_reverse]
  rw [if_pos hb]
  have hg : (T.mk_ j).marks.getD ((((T.marks.length + 1 : Nat) : Int)).toNat - 1) 0 = j := by
    unfold Tab.mk_
    rw [Int.toNat_natCast, Nat.add_sub_cancel, List.getD_eq_getElem?_getD, List.getElem?_append_right (Nat.le_refl _), Nat.sub_self]
    rfl
  rw [hg]
  refine seenR_sub hsub hT hU _ _ _ hj (fun x hx => ?_)
  have hx' : x ∈ d.M := List.mem_reverse.1 hx
  exact ⟨((sym_facts hy.1 hy.2).1.mark x hx').1, markOk_made hmk x hx'⟩
end Go.Proofs.Ytapnighankepjaa.Sc
end
section
namespace Go.Proofs.Ytapnighankepjaa.Sc
open Go.ChangeShapes Go.WideShapes Go.ChangeAt Go.RowKit Go.Shelf
set_option linter.unusedVariables false
set_option linter.unusedSimpArgs false

/-- The parents and the identifiers of the scopes' row. -/
def RowsAt (W : World) (g : Nat) (T : Tab) : Prop := ∀ k, k < T.rows.length → W.cell? ⟨g, k * 19, none⟩ = some (.int .i64 (T.par k : Int)) ∧ Ld.At W g (k * 19 + 1) (idL (T.id k))
theorem names_fn (tb : Nat) (T : Tab) (O : Nat → Prop) (s : Nat) (w : World) (h : TabIn w tb T O) (hs : s < T.rows.length) :
    Calls Try.prog 18 #[.pointer (some ⟨tb, 0, none⟩), .int .i64 (s : Int)] w fun e w' =>
      e = .returned (.func (.func 35) #[] #[.pointer (some ⟨w.heap.size + 1, 0, none⟩), .pointer (some ⟨w.heap.size, 0, none⟩)]) ∧ Below w.heap.size w w' ∧ w.heap.size + 2 ≤ w'.heap.size ∧
      ∃ g c, O g ∧ g < w.heap.size ∧ w'.cell? ⟨w.heap.size + 1, 0, none⟩ = some (.slice (some ⟨g, 0, none⟩) T.rows.length c) ∧ w'.cell? ⟨w.heap.size, 0, none⟩ = some (.int .i64 (s : Int)) ∧ RowsAt w' g T := by
  obtain ⟨vs, vm, bm, ht, hO⟩ := h
  obtain ⟨a, c, rfl⟩ := slice_of ht.rows
  obtain ⟨g, rfl, hltg, hown, hrow⟩ := at_row ht.rows ht.ok.pos
  have hOg : O g := hO g (.inr (.inl hown))
  have hltT := ht.lt tb (.inl rfl)
  have c0 : w.cell? ⟨tb, 0, none⟩ = some (.slice (some ⟨g, 0, none⟩) T.rows.length c) := (ht.blk.cell 0).trans rfl
  have hpos := ht.ok.pos
  have hb1 : Below w.heap.size w (w.alloc (.cells #[.int .i64 (s : Int)] 3)) := (Below.refl _ _).alloc (Nat.le_refl _) _
  have HCK : Hid (Calls Try.prog 31 #[.pointer (some ⟨tb, 0, none⟩), .int .i64 (s : Int)] (w.alloc (.cells #[.int .i64 (s : Int)] 3)) fun e w' => e = .returned (.int .i64 0) ∧ (w.alloc (.cells #[.int .i64 (s : Int)] 3)) = w') := Lib.hid (by
    have h := check_any tb _ T.rows.length c (s : Int) (w.alloc (.cells #[.int .i64 (s : Int)] 3)) ((hb1.cell (p := ⟨tb, 0, none⟩) hltT).trans c0)
    rwa [show chkE T.rows.length (s : Int) = 0 by unfold chkE; rw [if_neg (by omega), if_neg (by rintro (h | h) <;> omega)]] at h)
  obtain ⟨n1, n2⟩ := two_new w #[.int .i64 (s : Int)] #[.slice (some ⟨g, 0, none⟩) T.rows.length c] 3 63
  have hb2 := bel_two w (.cells #[.int .i64 (s : Int)] 3) (.cells #[.slice (some ⟨g, 0, none⟩) T.rows.length c] 63)
  have HR := Lib.hid (And.intro hOg (And.intro hltg (And.intro n1 (And.intro n2 (And.intro hb2 hrow)))))
  clear hrow hown hOg n1 n2 hb2 hb1 hpos ht hO
  go_enter Try.func18, Try.ntmps18
  go_wp2_with fail
  refine HCK.out.mono ?_
  rintro e w2 ⟨rfl, rfl⟩
  clear HCK
  go_wp2_with fail
  go_ret
  obtain ⟨h1, h2, n1, n2, hb2, hrow⟩ := HR.out
  refine ⟨rfl, hb2, by simp, g, c, h1, h2, (Da.Blk.cell (show Da.Blk _ (w.heap.size + 1) 63 #[.slice (some ⟨g, 0, none⟩) T.rows.length c] from n2) 0).trans rfl, (Da.Blk.cell (show Da.Blk _ w.heap.size 3 #[.int .i64 (s : Int)] from n1) 0).trans rfl, fun k hk => ?_⟩
  obtain ⟨r1, r2, _⟩ := hrow k hk
  exact ⟨(hb2.cell (p := ⟨g, k * 19, none⟩) h2).trans r1, r2.same (fun o u hu => (hb2.cell (p := ⟨g, o, none⟩) h2).trans hu)⟩
/-- The boxes of the closures, and the scopes' row: a round of the loop that collects leaves them alone. -/
structure NC (b : Nat) (T : Tab) (s rb sb g c : Nat) (W : World) : Prop where
  wf : Rg.Wf b W
  hb : b < W.heap.size
  sr : Rg.Sf b W rb
  ss : Rg.Sf b W sb
  sg : Rg.Sf b W g
  cr : W.cell? ⟨rb, 0, none⟩ = some (.slice (some ⟨g, 0, none⟩) T.rows.length c)
  cs : W.cell? ⟨sb, 0, none⟩ = some (.int .i64 (s : Int))
  rows : RowsAt W g T
theorem NC.kp {b : Nat} {T : Tab} {s rb sb g c : Nat} {W W' : World} (h : NC b T s rb sb g c W) (hK : Rg.Kp b W W') : NC b T s rb sb g c W' :=
  ⟨h.wf.kp hK, Nat.lt_of_lt_of_le h.hb hK.size, h.sr.kp hK, h.ss.kp hK, h.sg.kp hK, hK.cell h.sr h.cr, hK.cell h.ss h.cs, fun k hk => ⟨hK.cell h.sg (h.rows k hk).1, (h.rows k hk).2.same (fun o u hu => hK.cell h.sg hu)⟩⟩
theorem kp_row {b B : Nat} {W W' : World} {row : Option Nat} (hb : b < W.heap.size) (hB : b < B) (hg : W.grownBy W' row) (hr : ∀ r, row = some r → B ≤ r ∧ ∃ o : Obj, W.heap[r]? = some o ∧ o.isCells = false) : Rg.Kp b W W' := Rg.Kp.grown hb hg (fun r e => by
  obtain ⟨h1, o2, h2, h3⟩ := hr r e
  exact ⟨by omega, fun o3 h4 => by rw [h2] at h4; cases h4; exact h3⟩)
/-- A scope, its parent, and so on, for rounds that do what the collecting loop does. -/
theorem out_comes (b : Nat) (T : Tab) (hT : T.Ok) (s : Nat) (hs : s < T.rows.length) (rb sb g c : Nat) (w : World) (h : NC b T s rb sb g c w) (n : Nat) (hn : 1 ≤ n) :
    Rg.ComesO n Try.prog 47 #[.pointer (some ⟨sb, 0, none⟩), .pointer (some ⟨rb, 0, none⟩)] (fun x : Sco T => #[.int .i64 (x.1 : Int)]) (Rg.Kp b) (fun ys _ => ys.map (·.1) = T.chain s) (fun pre _ => pre.map (·.1) <+: T.chain s) w := by
  intro l J Jx W hW hl hJ hJx hY h0
  have hc := h.kp (Rg.Kp.below h.hb hW)
  have B1 := hc.sr.1
  have B2 := hc.sg.1
  refine (out1_in n l rb W.heap.size sb hn T hT s hs (fun q W1 => ∃ pre : List (Sco T), pre.map (·.1) = q ∧ J pre W1 ∧ NC b T s rb sb g c W1) (fun q W1 => ∃ pre : List (Sco T), pre.map (·.1) = q ∧ Jx pre W1) W (fun q x W1 h1 h2 hx => ?_) ⟨g, c, ⟨B1, B2⟩, hc.cr, fun k hk => (hc.rows k hk).1⟩ hc.cs ⟨[], rfl, h0, hc⟩).mono ?_
  · obtain ⟨pre, rfl, h1, h3⟩ := h1
    obtain ⟨fn, tmps, assign, body, hy, hR⟩ := hY pre ⟨x, hx⟩ W1 h1
    refine ⟨fn, tmps, assign, body, hy, hR.mono ?_⟩
    rintro e W' (⟨h4, h5, h6, _⟩ | ⟨h4, h5, _, _⟩)
    · have h7 := h3.kp h6
      exact .inl ⟨h4, ⟨_, by simp, h5, h7⟩, fun _ => ⟨g, c, ⟨B1, B2⟩, h7.cr, fun k hk => (h7.rows k hk).1⟩⟩
    · exact .inr ⟨h4, ⟨_, by simp, h5⟩⟩
  · rintro e W' ⟨hv, (⟨ys, rfl, pre, hp, hj, _⟩ | ⟨q, hq, pre, hp, hj⟩)⟩
    · exact ⟨hv, .inl ⟨pre, hp, hj⟩⟩
    · exact ⟨hv, .inr ⟨pre, by show _ <+: _; rw [hp]; exact hq, hj⟩⟩
/-- What comes of Names: a scope, and where the datum that is handed on has its marks. -/
structure Nm where
  (i : Nat) (am : Option Addr) (cm : Nat)
def Nm.v (T : Tab) (x : Nm) : Value := .agg (symD ⟨(T.id x.i).s.toArray⟩ (.slice x.am (T.id x.i).m.length x.cm))
def Nm.Good (T : Tab) (Q : Nat → Prop) (W : World) (x : Nm) : Prop := Da.IntRow W Q x.am (T.id x.i).m.length x.cm (T.id x.i).m
theorem introw_keep {w w' : World} {Q Q' : Nat → Prop} {a : Option Addr} {len cap : Nat} {zs : List Int} (h : Da.IntRow w Q a len cap zs) (hQ : ∀ b, Q b → Q' b)
    (hk : ∀ b o u, Q b → w.cell? ⟨b, o, none⟩ = some u → w'.cell? ⟨b, o, none⟩ = some u) : Da.IntRow w' Q' a len cap zs := by
  obtain ⟨h1, h2, h3, h4, h5, h6, h7⟩ := h
  refine ⟨h1, h2, h3, h4, h5, h6, fun k hlt => ?_⟩
  obtain ⟨b, off, e, hb, hc⟩ := h7 k hlt
  exact ⟨b, off, e, hQ b hb, hk b _ _ hb hc⟩
theorem Nm.Good.kp {b : Nat} {T : Tab} {W W' : World} {x : Nm} (h : x.Good T (Rg.Sf b W) W) (hK : Rg.Kp b W W') : x.Good T (Rg.Sf b W') W' := introw_keep h (fun g hg => hg.kp hK) (fun g o u hg hu => hK.cell hg hu)
def NAll (b : Nat) (T : Tab) (ns : List Nat) (ys : List Nm) (W : World) : Prop := ys.map Nm.i = ns ∧ b < W.heap.size ∧ ∀ y ∈ ys, y.Good T (Rg.Sf b W) W
def NPart (b : Nat) (T : Tab) (ns : List Nat) (ys : List Nm) (W : World) : Prop := ys.map Nm.i <+: ns ∧ b < W.heap.size ∧ ∀ y ∈ ys, y.Good T (Rg.Sf b W) W
/-- What an inner round knows. -/
def NI (b : Nat) (T : Tab) (s rb sb g c yb l : Nat) (J : List Nm → World → Prop) (pre : List (Sco T)) (W : World) : Prop :=
  ∃ ys : List Nm, ys.map Nm.i = pre.map (·.1) ∧ J ys W ∧ (∀ y ∈ ys, y.Good T (Rg.Sf b W) W) ∧ NC b T s rb sb g c W ∧ Rg.Sf b W yb ∧ W.cell? ⟨yb, 0, none⟩ = some (.func (.yield l) #[] #[])
theorem NI.own {b : Nat} {T : Tab} {s rb sb g c yb l B B' : Nat} {J : List Nm → World → Prop} (hJ : OwnFrom B' J) (hB : B' ≤ B) (hb : b < B) : OwnFrom B (NI b T s rb sb g c yb l J) := fun pre W W' row h hg hr => by
  obtain ⟨ys, h1, h2, h3, h4, h5, h6⟩ := h
  have hK := kp_row h4.hb hb hg hr
  exact ⟨ys, h1, hJ ys W W' row h2 hg (fun r e => ⟨Nat.le_trans hB (hr r e).1, (hr r e).2⟩), fun y hy => (h3 y hy).kp hK, h4.kp hK, h5.kp hK, hK.cell h5 h6⟩
/-- What the loads of a round read. -/
def Cy (b : Nat) (T : Tab) (s rb sb g c yb l : Nat) (W : World) : Prop := NC b T s rb sb g c W ∧ Rg.Sf b W yb ∧ W.cell? ⟨yb, 0, none⟩ = some (.func (.yield l) #[] #[])
theorem Cy.kp {b : Nat} {T : Tab} {s rb sb g c yb l : Nat} {W W' : World} (h : Cy b T s rb sb g c yb l W) (hK : Rg.Kp b W W') : Cy b T s rb sb g c yb l W' := ⟨h.1.kp hK, h.2.1.kp hK, hK.cell h.2.1 h.2.2⟩
def NX (b : Nat) (T : Tab) (s rb sb g c yb l : Nat) (Jx : List Nm → World → Prop) (cd : Code) (pre : List (Sco T)) (W : World) : Prop := cd = .ret ∧ NI b T s rb sb g c yb l Jx pre W
end Go.Proofs.Ytapnighankepjaa.Sc
end
section
namespace Go.Proofs.Ytapnighankepjaa.Sc
open Go.ChangeShapes Go.WideShapes Go.ChangeAt Go.RowKit Go.Shelf
set_option linter.unusedVariables false
set_option linter.unusedSimpArgs false
attribute [local go_sem] Oper.semAt_some in
set_option maxRecDepth 100000 in
set_option maxHeartbeats 8000000 in
theorem names2_comes (b : Nat) (T : Tab) (hT : T.Ok) (hids : ∀ k, k < T.rows.length → (T.id k).Ok) (s : Nat) (hs : s < T.rows.length) (rb sb g c : Nat) (w : World) (h : NC b T s rb sb g c w) (n : Nat) :
    Rg.ComesO n Try.prog 35 #[.pointer (some ⟨rb, 0, none⟩), .pointer (some ⟨sb, 0, none⟩)] (fun x : Nm => #[.int .i64 (x.i : Int), x.v T]) (Rg.Kp b) (NAll b T (T.chain s)) (NPart b T (T.chain s)) w := by
  intro l J Jx W hW hl hJ hJx hY h0
  have hc := h.kp (Rg.Kp.below h.hb hW)
  have HY : Hid (∀ m pre x W1, J pre W1 → YieldAt Fence.wide m Try.prog l #[.int .i64 (x.i : Int), x.v T] W1 fun e W' => (e = .returned (.bool true) ∧ J (pre ++ [x]) W' ∧ Rg.Kp b W1 W' ∧ KeepsFrom (l + 1) W1 W') ∨ (e = .returned (.bool false) ∧ Jx (pre ++ [x]) W' ∧ Rg.Kp b W1 W' ∧ KeepsFrom (l + 1) W1 W')) := Lib.hid (fun m pre x W1 hj => Rg.anyDepth m (hY pre x W1 hj))
  have HJ := Lib.hid hJ
  have HJx := Lib.hid hJx
  have HT := Lib.hid (And.intro hT (And.intro hids hs))
  have cr := hc.cr
  have cs := hc.cs
  have hrb := hc.sr.1
  have hsb := hc.ss.1
  have hbY : Below W.heap.size W (W.alloc (.cells #[.func (.yield l) #[] #[]] 84)) := (Below.refl _ _).alloc (Nat.le_refl _) _
  have hkY := Rg.Kp.below hc.hb hbY
  have HC := Lib.hid (hc.kp hkY)
  have hsy : Rg.Sf b (W.alloc (.cells #[.func (.yield l) #[] #[]] 84)) W.heap.size := Rg.Sf.new hc.wf hc.hb hbY (Nat.le_refl _) (by simp)
  have hcy : (W.alloc (.cells #[.func (.yield l) #[] #[]] 84)).cell? ⟨W.heap.size, 0, none⟩ = some (.func (.yield l) #[] #[]) := by simp [go_sem]
  have hjY := hJ [] _ _ none h0 (Rg.grown_of_below hbY) (fun r e => by cases e)
  have HX := Lib.hid (And.intro hsy (And.intro hcy hjY))
  have HL := Lib.hid (And.intro hl hc.hb)
  clear hT hids hs hc h hJ hJx hY h0 hkY hsy hcy hjY hl
  refine callsIn_wide.2 ?_
  simp only [List.append_toArray, List.cons_append, List.nil_append]
  refine (callsIn_wide (n := 9)).1 ?_
  refine callsIn_of_wp_marks Try.func35 rfl trivial ?_ rfl
  simp only [Try.ntmps35, List.size_toArray, List.length_cons, List.length_nil, Nat.reduceAdd, Nat.reduceSub, Array.replicate_succ, Array.replicate_zero, List.push_toArray, List.append_toArray, List.nil_append, List.cons_append]
  gi_wp2_with fail
  refine ⟨trivial, ?_⟩
  gi_at_call 36
  refine (callsIn_wide.2 (out_any _ _ _ _ _)).mono ?_
  rintro e Z ⟨rfl, hZ⟩
  simp only []
  obtain ⟨X, hX⟩ : ∃ X, (W.alloc (.cells #[.func (.yield l) #[] #[]] 84)) = X := ⟨_, rfl⟩
  have hszX : X.heap.size = W.heap.size + 1 := by rw [← hX]; simp
  rw [hX] at HC HX hZ hbY
  rw [hX]
  clear hX
  obtain ⟨n1, n2⟩ := two_new X #[.slice (some ⟨g, 0, none⟩) T.rows.length c] #[.int .i64 (s : Int)] 63 3
  have hbZ := bel_two X (.cells #[.slice (some ⟨g, 0, none⟩) T.rows.length c] 63) (.cells #[.int .i64 (s : Int)] 3)
  rw [← hZ] at n1 n2 hbZ
  have hszZ : Z.heap.size = W.heap.size + 3 := by rw [hZ]; simp [hszX]
  clear hZ
  have hkZ := Rg.Kp.below HC.out.hb hbZ
  have HC1 := Lib.hid (HC.out.kp hkZ)
  have HC2 : Hid (NC b T s X.heap.size (X.heap.size + 1) g c Z) := Lib.hid ⟨HC1.out.wf, HC1.out.hb, Rg.Sf.new HC.out.wf HC.out.hb hbZ (Nat.le_refl _) (by omega), Rg.Sf.new HC.out.wf HC.out.hb hbZ (by omega) (by omega), HC1.out.sg, (n1.cell 0).trans rfl, (n2.cell 0).trans rfl, HC1.out.rows⟩
  have HI0 : Hid (NI b T s rb sb g c W.heap.size l J [] Z) := Lib.hid ⟨[], rfl, HJ.out [] _ _ none HX.out.2.2 (Rg.grown_of_below hbZ) (fun r e => by cases e), (fun y hy => by cases hy), HC1.out, HX.out.1.kp hkZ, hkZ.cell HX.out.1 HX.out.2.1⟩
  clear n1 n2 hbZ hkZ HC1 HC HX cr cs hbY
  gi_wp2_with fail
  have hZW : W.heap.size ≤ Z.heap.size := by omega
  have hbZ := HC2.out.hb
  have HSZ := Lib.hid (And.intro hszX hszZ)
  clear hszX hszZ
  refine Rg.range_comesO (by omega) (f := 47) (caps := #[.pointer (some ⟨X.heap.size + 1, 0, none⟩), .pointer (some ⟨X.heap.size, 0, none⟩)]) rfl (enters_of Try.func47 (by kernel_rfl) rfl)
    (out_comes b T HT.out.1 s HT.out.2.2 X.heap.size (X.heap.size + 1) g c Z HC2.out _ (by omega)) Rg.Kp.trans (Rg.Kp.put hbZ) (Below.refl _ _) (fun _ => rfl) (fun _ _ _ _ hs _ _ => hs) (fun _ _ _ _ hs _ _ => hs)
    (NI b T s rb sb g c W.heap.size l J) (NX b T s rb sb g c W.heap.size l Jx) (NI.own HJ.out hZW hbZ) (fun cd pre A B row hh hg hr => ⟨hh.1, NI.own HJx.out hZW hbZ pre A B row hh.2 hg hr⟩) HI0.out
    (fun y a' _ => a' = { tmps := #[.func (.yield l) #[] #[], .pointer (some ⟨rb, 0, none⟩), .pointer (some ⟨sb, 0, none⟩), .pointer (some ⟨W.heap.size, 0, none⟩), .int .i64 (y.1 : Int), .slice (some ⟨g, 0, none⟩) T.rows.length c, .int .i64 (s : Int), .func (.func 47) #[] #[.pointer (some ⟨X.heap.size + 1, 0, none⟩), .pointer (some ⟨X.heap.size, 0, none⟩)], .int .i64 (y.1 : Int), undef, undef, undef, undef, undef, undef, undef, undef, undef, undef], defers := [] }) (fun _ _ _ _ _ _ hs _ _ => hs) ?assign ?body ?done ?stop
  case assign =>
    rintro l2 pre y V K hI hK
    gi_wp2_with fail
    exact hK _ _ (KeepsFrom.refl _ _) (Rg.Kp.refl _ _) hI rfl
  case body =>
    rintro l2 pre ⟨y, hy0, hyl⟩ a' V hl2 ⟨r, hr⟩ hI rfl
    obtain ⟨ys, h1, h2, h3, h4, h5, h6⟩ := hI
    have hbd := bel_drew0 V V.heap.size
    have hkd := Rg.Kp.below h4.hb hbd
    have hT0 : Cy b T s rb sb g c W.heap.size l V.drew := ⟨h4.kp hkd, h5.kp hkd, hkd.cell h5 h6⟩
    have i0 : (0 : Int) ≤ (y : Int) := Int.natCast_nonneg _
    have i1 : (y : Int) < (T.rows.length : Int) := by omega
    have hjd := HJ.out ys _ _ none h2 (Rg.grown_of_below hbd) (fun r e => by cases e)
    have HV := Lib.hid (And.intro h1 (And.intro hjd (And.intro (fun z hz => (h3 z hz).kp hkd) (Rg.keeps_below (B := l + 1) hbd))))
    have HKD := Lib.hid hkd
    clear h1 h2 h3 h4 h5 h6 hr hjd hkd hbd
    gi_wp2_with fail
    refine Oi.till_region (Cy b T s rb sb g c W.heap.size l) 10 (by kernel_rfl) rfl ?_
    simp only [Array.replicate_succ, Array.replicate_zero, List.push_toArray, List.nil_append, List.cons_append]
    refine Oi.Till.take (i := 0) (v := .func (.yield l) #[] #[]) 9 rfl rfl (by kernel_rfl) (by kernel_rfl) (by kernel_rfl) (.inl ⟨by rfl, ?_⟩) (fun _ => rfl) hT0 ?_
    · intro wx hSw
      have cy := hSw.2.2
      have cr := hSw.1.cr
      go_simp
    simp only [Act.put, List.setIfInBounds_toArray, List.set_cons_zero, List.set_cons_succ]
    refine Oi.Till.take (i := 1) (v := .int .i64 (y : Int)) 10 rfl rfl (by kernel_rfl) (by kernel_rfl) (by kernel_rfl) (.inl ⟨by rfl, ?_⟩) (fun _ => rfl) hT0 ?_
    · intro wx hSw
      have cy := hSw.2.2
      have cr := hSw.1.cr
      go_simp
    simp only [Act.put, List.setIfInBounds_toArray, List.set_cons_zero, List.set_cons_succ]
    refine Oi.Till.take (i := 2) (v := .slice (some ⟨g, 0, none⟩) T.rows.length c) 11 rfl rfl (by kernel_rfl) (by kernel_rfl) (by kernel_rfl) (.inl ⟨by rfl, ?_⟩) (fun _ => rfl) hT0 ?_
    · intro wx hSw
      have cy := hSw.2.2
      have cr := hSw.1.cr
      go_simp
    simp only [Act.put, List.setIfInBounds_toArray, List.set_cons_zero, List.set_cons_succ]
    refine Oi.Till.take (i := 3) (v := .int .i64 (y : Int)) 12 rfl rfl (by kernel_rfl) (by kernel_rfl) (by kernel_rfl) (.inl ⟨by rfl, ?_⟩) (fun _ => rfl) hT0 ?_
    · intro wx hSw
      have cy := hSw.2.2
      have cr := hSw.1.cr
      go_simp
    simp only [Act.put, List.setIfInBounds_toArray, List.set_cons_zero, List.set_cons_succ]
    refine Oi.Till.take (i := 4) (v := .pointer (some ⟨g, y * 19, none⟩)) 13 rfl rfl (by kernel_rfl) (by kernel_rfl) (by kernel_rfl) (.inl ⟨by rfl, ?_⟩) (fun _ => rfl) hT0 ?_
    · intro wx hSw
      have cy := hSw.2.2
      have cr := hSw.1.cr
      go_simp
    simp only [Act.put, List.setIfInBounds_toArray, List.set_cons_zero, List.set_cons_succ]
    refine Oi.Till.take (i := 5) (v := .pointer (some ⟨g, y * 19 + 1, none⟩)) 14 rfl rfl (by kernel_rfl) (by kernel_rfl) (by kernel_rfl) (.inl ⟨by rfl, ?_⟩) (fun _ => rfl) hT0 ?_
    · intro wx hSw
      have cy := hSw.2.2
      have cr := hSw.1.cr
      go_simp
    simp only [Act.put, List.setIfInBounds_toArray, List.set_cons_zero, List.set_cons_succ]
    refine Oi.Till.take (i := 6) (v := (T.id y).V) 15 rfl rfl (by kernel_rfl) (by kernel_rfl) (by kernel_rfl) (.inl ⟨by rfl, ?_⟩) (fun _ => rfl) hT0 ?_
    · intro wx hSw
      have cy := hSw.2.2
      have cr := hSw.1.cr
      exact Ld.exec_at 75 (.tmp 14) rfl g (y * 19 + 1) rfl (idL (T.id y)) _ ((hSw.1.rows y hyl).2) Try.underlying75 rfl info_idn
    simp only [Act.put, List.setIfInBounds_toArray, List.set_cons_zero, List.set_cons_succ]
    refine Oi.Till.one (i := 7) (by kernel_rfl) rfl (fun K hK => ?_)
    rw [if_pos (by kernel_rfl)]
    go_simp
    refine ⟨trivial, (callsIn_wide.2 (symbol_any (T.id y) (HT.out.2.1 y hyl) _)).mono ?_⟩
    rintro e V2 ⟨am, cm, rfl, hb2, hrow⟩
    have hk2 := Rg.Kp.below hT0.1.hb hb2
    have hT2 := hT0.kp hk2
    have hg2 : Nm.Good T (Rg.Sf b V2) V2 ⟨y, am, cm⟩ := introw_keep hrow (fun k hk => Rg.Sf.new hT0.1.wf hT0.1.hb hb2 hk.1 hk.2) (fun _ _ _ _ hu => hu)
    obtain ⟨h1, hjd, hgd, hkf⟩ := HV.out
    have hj2 := HJ.out ys _ _ none hjd (Rg.grown_of_below hb2) (fun r e => by cases e)
    have HV2 := Lib.hid (And.intro h1 (And.intro (fun z hz => (hgd z hz).kp hk2) (And.intro hg2 (And.intro (hkf.trans (Rg.keeps_below (B := l + 1) hb2)) (HKD.out.trans hk2)))))
    refine hK.out _ _ hT2 ?_
    clear hK K hT0 hrow hb2 hk2 hg2 h1 hjd hgd hkf HV HKD
    simp only [Act.put, List.setIfInBounds_toArray, List.set_cons_zero, List.set_cons_succ]
    obtain ⟨fn, tmps, assign, body, hy, hR⟩ := HY.out 6 ys ⟨y, am, cm⟩ V2 hj2
    simp only [Nm.v] at hy
    refine Oi.Till.one (i := 8) (by kernel_rfl) rfl (fun K hK => ?_)
    rw [if_pos (by kernel_rfl)]
    go_simp
    have hR2 : RoundIn (Fence.wide.inRound l2) 6 Try.prog l fn tmps assign body V2 _ := hR
    refine hR2.mono ?_
    rintro e V3 (⟨rfl, hj3, hk3, hq3⟩ | ⟨rfl, hj3, hk3, hq3⟩)
    · have hT3 := hT2.kp hk3
      have HV3 := Lib.hid (And.intro hj3 (And.intro hk3 (And.intro hq3 hT3)))
      refine hK.out _ _ hT3 ?_
      clear hK K hR hR2 hy hj3 hk3 hq3 hT2 hj2
      simp only [Act.put, List.setIfInBounds_toArray, List.set_cons_zero, List.set_cons_succ]
      refine Oi.Till.take (i := 9) (v := .bool false) 18 rfl rfl (by kernel_rfl) (by kernel_rfl) (by kernel_rfl) (.inl ⟨by rfl, ?_⟩) (fun _ => rfl) hT3 ?_
      · intro wx hSw
        go_simp
      simp only [Act.put, List.setIfInBounds_toArray, List.set_cons_zero, List.set_cons_succ]
      refine Oi.Till.done (by kernel_rfl) ?_
      clear hT3
      gi_wp2_with fail
      obtain ⟨h1, hgd, hg2, hkf, hkd⟩ := HV2.out
      obtain ⟨hj3, hk3, hq3, hT3⟩ := HV3.out
      have hni : NI b T s rb sb g c W.heap.size l J (pre ++ [⟨y, hy0, hyl⟩]) V3 := ⟨ys ++ [⟨y, am, cm⟩], by simp [h1], hj3, (fun z hz => by
        rcases List.mem_append.1 hz with hz | hz
        · exact (hgd z hz).kp hk3
        · obtain rfl : z = ⟨y, am, cm⟩ := by simpa using hz
          exact hg2.kp hk3), hT3.1, hT3.2.1, hT3.2.2⟩
      exact ⟨Rg.keeps_mono (hkf.trans hq3) (by have := HL.out.1; omega), hkd.trans hk3, hni⟩
    · have hT3 := hT2.kp hk3
      have HV3 := Lib.hid (And.intro hj3 (And.intro hk3 (And.intro hq3 hT3)))
      refine hK.out _ _ hT3 ?_
      clear hK K hR hR2 hy hj3 hk3 hq3 hT2 hj2
      simp only [Act.put, List.setIfInBounds_toArray, List.set_cons_zero, List.set_cons_succ]
      refine Oi.Till.take (i := 9) (v := .bool true) 18 rfl rfl (by kernel_rfl) (by kernel_rfl) (by kernel_rfl) (.inl ⟨by rfl, ?_⟩) (fun _ => rfl) hT3 ?_
      · intro wx hSw
        go_simp
      simp only [Act.put, List.setIfInBounds_toArray, List.set_cons_zero, List.set_cons_succ]
      refine Oi.Till.done (by kernel_rfl) ?_
      clear hT3
      gi_wp2_with fail
      obtain ⟨h1, hgd, hg2, hkf, hkd⟩ := HV2.out
      obtain ⟨hj3, hk3, hq3, hT3⟩ := HV3.out
      have hni : NI b T s rb sb g c W.heap.size l Jx (pre ++ [⟨y, hy0, hyl⟩]) V3 := ⟨ys ++ [⟨y, am, cm⟩], by simp [h1], hj3, (fun z hz => by
        rcases List.mem_append.1 hz with hz | hz
        · exact (hgd z hz).kp hk3
        · obtain rfl : z = ⟨y, am, cm⟩ := by simpa using hz
          exact hg2.kp hk3), hT3.1, hT3.2.1, hT3.2.2⟩
      exact ⟨Rg.keeps_mono (hkf.trans hq3) (by have := HL.out.1; omega), hkd.trans hk3, rfl, hni⟩
  case done =>
    rintro D xs V hD hS hI hK
    obtain ⟨ys, h1, h2, h3, h4, h5, h6⟩ := hI
    have hKp := Rg.Kp.put hbZ V D _ (.deferred none) hD hK rfl rfl
    have hJ2 := HJ.out.putObj (.deferred none) h2 (Nat.le_trans hZW hD) hK rfl
    have h7 := h4.kp hKp
    refine ⟨by simp, .inl ⟨_, _, rfl, run_takeDeferred hK, ?_⟩⟩
    exact ⟨_, results_none rfl _ _ _, ⟨_, rfl⟩, .inl ⟨ys, ⟨h1.trans hS, h7.hb, fun y hy => (h3 y hy).kp hKp⟩, hJ2⟩⟩
  case stop =>
    rintro D cd q V hD hS ⟨rfl, ys, h1, h2, h3, h4, h5, h6⟩ hK
    have hKp := Rg.Kp.put hbZ V D _ (.deferred none) hD hK rfl rfl
    have hJ2 := HJx.out.putObj (.deferred none) h2 (Nat.le_trans hZW hD) hK rfl
    have h7 := h4.kp hKp
    have HF := Lib.hid (And.intro (show NPart b T (T.chain s) ys (V.putObj D (.deferred none)) from ⟨by rw [h1]; exact hS, h7.hb, fun y hy => (h3 y hy).kp hKp⟩) (And.intro hJ2 hK))
    clear h1 h2 h3 h4 h5 h6 h7 hKp hJ2 hK hS
    gi_wp2_with fail
    refine ⟨by simp, .inl ⟨_, _, rfl, run_takeDeferred HF.out.2.2, ?_⟩⟩
    exact ⟨_, results_none rfl _ _ _, ⟨_, rfl⟩, .inr ⟨ys, HF.out.1, HF.out.2.1⟩⟩
end Go.Proofs.Ytapnighankepjaa.Sc
end
section
namespace Go.Proofs.Ytapnighankepjaa.Sc
open Go.ChangeShapes Go.WideShapes Go.ChangeAt Go.RowKit Go.Shelf
set_option linter.unusedVariables false
set_option linter.unusedSimpArgs false

theorem own_slice' {w : World} {B : Nat} {e : TypeId} {sz : Nat} {v : Value} {n : Nat} {xs : List Value} (h : w.ownsRow B e sz v n xs) : ∃ a c, v = .slice a n c := slice_of h
def bdZ : Array Value := #[.int .i64 0, .int .i64 0, .int .i64 0, .string ⟨#[]⟩, .slice none 0 0, .slice none 0 0, .slice none 0 0]
theorem info_bnd : (Try.prog.info? 58).map (fun i => (i.zero, i.size, i.bytes)) = some (some (.agg bdZ), 7, 112) := by kernel_rfl
theorem cells_new' (w : World) (c : Array Value) (t : TypeId) : ∀ j u, c.toList[j]? = some u → (w.alloc (.cells c t)).cell? ((⟨w.heap.size, 0, none⟩ : Addr).add j) = some u := fun j u hu => by
  rw [Ld.add_at, Nat.zero_add, cell_of_row _ _ _ _ _ _ (heap_alloc_new w (.cells c t))]
  simpa using hu
/-- The cells of a name that was told. -/
def Nm.c (T : Tab) (x : Nm) : List Value := [.int .i64 (x.i : Int), .int .i64 5, .int .i64 0, .string ⟨(T.id x.i).s.toArray⟩, .slice x.am (T.id x.i).m.length x.cm, .slice none 0 0, .slice none 0 0]
def nmC (T : Tab) (l : List Nm) : List Value := l.flatMap (Nm.c T)
theorem nmC_snoc (T : Tab) (l : List Nm) (x : Nm) : nmC T (l ++ [x]) = nmC T l ++ x.c T := by simp [nmC]
theorem nmC_len (T : Tab) (l : List Nm) : (nmC T l).length = l.length * 7 := by
  induction l with
  | nil => rfl
  | cons t r ih => rw [nmC, List.flatMap_cons, List.length_append, ← nmC, ih, List.length_cons]; show 7 + _ = _; omega
theorem nmC_at (T : Tab) : ∀ (l : List Nm) (k j : Nat) (x : Nm), l[k]? = some x → j < 7 → (nmC T l)[k * 7 + j]? = (x.c T)[j]?
  | [], k, j, x, h, _ => by simp at h
  | y :: l, 0, j, x, h, hj => by
    obtain rfl : y = x := by simpa using h
    show (y.c T ++ nmC T l)[0 * 7 + j]? = _
    rw [Nat.zero_mul, Nat.zero_add, List.getElem?_append_left hj]
  | y :: l, k + 1, j, x, h, hj => by
    show (y.c T ++ nmC T l)[(k + 1) * 7 + j]? = _
    rw [List.getElem?_append_right (by show 7 ≤ _; omega), show (k + 1) * 7 + j - (y.c T).length = k * 7 + j by show (k + 1) * 7 + j - 7 = _; omega, nmC_at T l k j x (by simpa using h) hj]
theorem nm_one (T : Tab) (x : Nm) : ∀ u ∈ x.c T, u.oneCell' = true := by
  intro u hu
  unfold Nm.c at hu
  simp only [List.mem_cons, List.not_mem_nil, or_false] at hu
  rcases hu with rfl | rfl | rfl | rfl | rfl | rfl | rfl <;> rfl
/-- What the collecting loop knows. -/
def TI (T : Tab) (w : World) (m : Nat) (pre : List Nm) (W : World) : Prop :=
  ((∃ v, Boxed W (w.heap.size + 1) 52 v ∧ W.ownsRow w.heap.size 58 7 v pre.length (nmC T pre) ∧ True) ∧ Boxed W w.heap.size 3 (.int .i64 (m : Int))) ∧ (pre.length ≤ m ∧ Below w.heap.size w W)
theorem TI.own {T : Tab} {w : World} {m B : Nat} (hB : w.heap.size + 2 ≤ B) : OwnFrom B (TI T w m) :=
  OwnFrom.and (OwnFrom.and (Own.from (holdsRow_own w.heap.size (w.heap.size + 1) 52 58 7 (fun pre : List Nm => pre.length) (nmC T) (fun _ _ => True)) _) (Own.from (boxed_own _ _ _) _)) (OwnFrom.and (fun s A B row hs hg hr => hs) (ownFrom_below (Nat.le_refl _) (by omega)))
attribute [local go_sem] Oper.semAt_some in
set_option maxRecDepth 100000 in
set_option maxHeartbeats 8000000 in
theorem told_names (T : Tab) (hT : T.Ok) (hids : ∀ k, k < T.rows.length → (T.id k).Ok) (s : Nat) (hs : s < T.rows.length) (rb sb g c m : Nat) (hm : m ≤ 1048576) (w : World) (hrb : rb < w.heap.size) (hsb : sb < w.heap.size) (hg : g < w.heap.size)
    (cr : w.cell? ⟨rb, 0, none⟩ = some (.slice (some ⟨g, 0, none⟩) T.rows.length c)) (cs : w.cell? ⟨sb, 0, none⟩ = some (.int .i64 (s : Int))) (rows : RowsAt w g T) :
    Calls Try.prog 17 #[.func (.func 35) #[] #[.pointer (some ⟨rb, 0, none⟩), .pointer (some ⟨sb, 0, none⟩)], .int .i64 (m : Int)] w fun e w' =>
      ∃ (a : Option Addr) (c' : Nat) (ys : List Nm), e = .returned (.slice a ys.length c') ∧ ys.map Nm.i = (T.chain s).take m ∧ Below w.heap.size w w' ∧ w'.ownsRow w.heap.size 58 7 (.slice a ys.length c') ys.length (nmC T ys) ∧ ∀ y ∈ ys, y.Good T (Da.Lo w'.heap.size) w' := by
  obtain ⟨i0, hi, hz0, hz1, hz2⟩ := info_parts info_bnd
  have heq : ∀ w : World, (binOp BinOp.eql 55 (.func (.func 35) #[] #[.pointer (some ⟨rb, 0, none⟩), .pointer (some ⟨sb, 0, none⟩)]) .nilFunc).run Try.prog w = .ok (.bool false) w := fun _ => by kernel_rfl
  refine (callsIn_wide (n := 9)).1 ?_
  refine callsIn_of_wp_marks Try.func17 rfl trivial ?_ rfl
  simp only [Try.ntmps17, List.size_toArray, List.length_cons, List.length_nil, Nat.reduceAdd, Nat.reduceSub, Array.replicate_succ, Array.replicate_zero, List.push_toArray, List.append_toArray, List.nil_append, List.cons_append]
  gi_wp2_with fail
  have bM := (Boxed.new w 3 (.int .i64 (m : Int))).alloc (.cells #[.slice none 0 0] 52)
  have bL := Boxed.new (w.alloc (.cells #[.int .i64 (m : Int)] 3)) 52 (.slice none 0 0)
  rw [World.size_alloc] at bL
  have hB0 : Below w.heap.size w ((w.alloc (.cells #[.int .i64 (m : Int)] 3)).alloc (.cells #[.slice none 0 0] 52)) := ((Below.refl _ w).alloc (Nat.le_refl _) _).alloc (by simp) _
  have hsz : ((w.alloc (.cells #[.int .i64 (m : Int)] 3)).alloc (.cells #[.slice none 0 0] 52)).heap.size = w.heap.size + 1 + 1 := by simp
  generalize (w.alloc (.cells #[.int .i64 (m : Int)] 3)).alloc (.cells #[.slice none 0 0] 52) = X at *
  have hbX : w.heap.size + 1 < X.heap.size := by omega
  have hNC : NC (w.heap.size + 1) T s rb sb g c X := ⟨Rg.Wf.nil hbX bL.cell, hbX, Rg.Sf.nil (by omega) (by omega) bL.cell, Rg.Sf.nil (by omega) (by omega) bL.cell, Rg.Sf.nil (by omega) (by omega) bL.cell, (hB0.cell (p := ⟨rb, 0, none⟩) hrb).trans cr, (hB0.cell (p := ⟨sb, 0, none⟩) hsb).trans cs, fun k hk => ⟨(hB0.cell (p := ⟨g, k * 19, none⟩) hg).trans (rows k hk).1, (rows k hk).2.same (fun o u hu => (hB0.cell (p := ⟨g, o, none⟩) hg).trans hu)⟩⟩
  have hco := names2_comes (w.heap.size + 1) T hT hids s hs rb sb g c X hNC (9 - 1)
  have hnow : OwnFrom X.heap.size (NAll (w.heap.size + 1) T (T.chain s)) := fun ys A B row h hg hr => by
    have hK := kp_row h.2.1 hbX hg hr
    exact ⟨h.1, Nat.lt_of_lt_of_le h.2.1 hK.size, fun y hy => (h.2.2 y hy).kp hK⟩
  have hnop : OwnFrom X.heap.size (NPart (w.heap.size + 1) T (T.chain s)) := fun ys A B row h hg hr => by
    have hK := kp_row h.2.1 hbX hg hr
    exact ⟨h.1, Nat.lt_of_lt_of_le h.2.1 hK.size, fun y hy => (h.2.2 y hy).kp hK⟩
  have h0 : TI T w m [] X := ⟨⟨⟨_, bL, World.ownsRow_nil _ _ _ _, trivial⟩, bM⟩, Nat.zero_le _, hB0⟩
  clear hNC cr cs rows hT hids hs
  refine Rg.range_comesO (by omega) (f := 35) (caps := #[.pointer (some ⟨rb, 0, none⟩), .pointer (some ⟨sb, 0, none⟩)]) rfl (enters_of Try.func35 (by kernel_rfl) rfl)
    hco Rg.Kp.trans (Rg.Kp.put hbX) (Below.refl _ _) (fun _ => rfl) hnow hnop (TI T w m)
    (fun cd q W => ∃ pre : List Nm, (cd = .exit 0 ∧ pre.length = m ∧ ∃ x, q = pre ++ [x]) ∧ TI T w m pre W) (TI.own (by omega)) (fun cd q A B row hs hg hr => by obtain ⟨pre, h1, h2⟩ := hs; exact ⟨pre, h1, TI.own (by omega) pre A B row h2 hg hr⟩) h0
    (fun x a' W => ∃ Bx, w.heap.size + 1 < Bx ∧ Da.Blk W Bx 33 #[.int .i64 5, .int .i64 0, .string ⟨(T.id x.i).s.toArray⟩, .slice x.am (T.id x.i).m.length x.cm, .slice none 0 0, .slice none 0 0] ∧ a' = { tmps := #[.func (.func 35) #[] #[.pointer (some ⟨rb, 0, none⟩), .pointer (some ⟨sb, 0, none⟩)], .int .i64 (m : Int), undef, .pointer (some ⟨w.heap.size, 0, none⟩), .slice none 0 0, .pointer (some ⟨w.heap.size + 1, 0, none⟩), .int .i64 (x.i : Int), .pointer (some ⟨Bx, 0, none⟩), .func (.func 35) #[] #[.pointer (some ⟨rb, 0, none⟩), .pointer (some ⟨sb, 0, none⟩)], .bool false, .func (.func 35) #[] #[.pointer (some ⟨rb, 0, none⟩), .pointer (some ⟨sb, 0, none⟩)], .int .i64 (x.i : Int), .agg #[.int .i64 5, .int .i64 0, .string ⟨(T.id x.i).s.toArray⟩, .slice x.am (T.id x.i).m.length x.cm, .slice none 0 0, .slice none 0 0], undef, undef, undef, undef, undef, undef, undef, undef, undef, undef, undef], defers := [] })
    (fun x a' _ A B row hs hg hr => by
      obtain ⟨Bx, h1, h2, h3⟩ := hs
      refine ⟨Bx, h1, (hg.block Bx (Array.getElem?_eq_some_iff.1 h2).1 (fun e => ?_)).trans h2, h3⟩
      obtain ⟨_, o, ho, hoc⟩ := hr Bx e.symm
      rw [show A.heap[Bx]? = _ from h2] at ho
      cases ho; cases hoc)
    ?assign ?body ?done ?stop
  case assign =>
    rintro l pre x W K ⟨⟨⟨v, hv, hrow, _⟩, hbm⟩, hle, hB1⟩ hK
    have hvl := hv.lt
    simp only [Nm.v, symD]
    gi_wp2_with fail
    exact hK _ _ ((KeepsOthers.alloc _ _).from _) (Rg.Kp.alloc _ hvl _) ⟨⟨⟨v, hv.alloc _, hrow.alloc _, trivial⟩, hbm.alloc _⟩, hle, hB1.alloc hB1.size _⟩ ⟨W.heap.size, hvl, heap_alloc_new W _, rfl⟩
  case body =>
    rintro l pre x a' W hl ⟨r, hr⟩ ⟨⟨⟨v, hv, hrow, _⟩, hbm⟩, hle, hB1⟩ ⟨Bx, hBx, bX, rfl⟩
    obtain ⟨va, vc, rfl⟩ := slice_of hrow
    have c5 := hv.cell
    have c3 := hbm.cell
    have x0 : W.cell? ⟨Bx, 0, none⟩ = some (.int .i64 5) := (bX.cell 0).trans rfl
    have x1 : W.cell? ⟨Bx, 1, none⟩ = some (.int .i64 0) := (bX.cell 1).trans rfl
    have x2 : W.cell? ⟨Bx, 2, none⟩ = some (.string ⟨(T.id x.i).s.toArray⟩) := (bX.cell 2).trans rfl
    have x3 : W.cell? ⟨Bx, 3, none⟩ = some (.slice x.am (T.id x.i).m.length x.cm) := (bX.cell 3).trans rfl
    have x4 : W.cell? ⟨Bx, 4, none⟩ = some (.slice none 0 0) := (bX.cell 4).trans rfl
    have x5 : W.cell? ⟨Bx, 5, none⟩ = some (.slice none 0 0) := (bX.cell 5).trans rfl
    have HL := Lib.hid hle
    have HW := Lib.hid hB1
    have Hv := Lib.hid hv
    have Hrow := Lib.hid hrow
    have Hbm := Lib.hid hbm
    have hsW := hB1.size
    have hbl := hv.lt
    clear hB1 hv hrow hbm bX hB0 bM bL h0 hco hnow hnop hr
    by_cases hm1 : pre.length < m
    · have dm : decide ((pre.length : Int) ≥ (m : Int)) = false := decide_eq_false (by omega)
      clear hle
      gi_wp2_with (gi_at_builtin; refine wpListIn_append_own_at _ rfl (.tmp 17) (.tmp 21) 52 rfl w.heap.size 58 i0 (.agg bdZ) 7 112 Try.underlying52 hi hz0 hz1 hz2 rfl (by decide) _ pre.length (nmC T pre) rfl (Hrow.out.alloc _) ⟨W.heap.size, 0, none⟩ 1 1 (x.c T) rfl rfl (cells_new' W #[.int .i64 (x.i : Int), .int .i64 5, .int .i64 0, .string ⟨(T.id x.i).s.toArray⟩, .slice x.am (T.id x.i).m.length x.cm, .slice none 0 0, .slice none 0 0] 58) (nm_one T x) (by simp only [maxLen]; omega) (by omega) (by simp; omega) ?_; intro v' w1 hown' hgrow _ hat; obtain ⟨g', cap', rfl⟩ := ownsRow_succ hown'; obtain ⟨hv1, hv2, hr2, hk2, hb2⟩ := Hv.out.appended (by decide) Hrow.out hsW (Nat.le_succ _) hown' hgrow; have hc1 := hv1.cell; have hf1 := hv1.frozen)
      have hne := Hv.out.not_row (by decide) Hrow.out
      have hbm1 : Boxed w1 w.heap.size 3 (.int .i64 (m : Int)) := (Hbm.out.alloc _).kept hgrow (Hbm.out.not_row (by decide) Hrow.out)
      refine ⟨hk2.from _, Rg.Kp.app Hv.out hgrow hat hne (fun g e => (hown'.lt g e).2), ⟨⟨⟨_, hv2, ?_, trivial⟩, hbm1.other (by omega) _⟩, ?_, HW.out.trans hb2⟩⟩
      · rw [nmC_snoc, List.length_append]
        exact hr2
      · rw [List.length_append]; exact hm1
    · have dm : decide ((pre.length : Int) ≥ (m : Int)) = true := decide_eq_true (by omega)
      obtain rfl : pre.length = m := by omega
      gi_wp2_with fail
      exact ⟨KeepsFrom.refl _ _, Rg.Kp.refl _ _, pre, ⟨rfl, rfl, x, rfl⟩, ⟨⟨⟨_, Hv.out, Hrow.out, trivial⟩, Hbm.out⟩, Nat.le_refl _, HW.out⟩⟩
  case done =>
    rintro D ys W hD hS ⟨⟨⟨v, hv, hrow, _⟩, hbm⟩, hle, hB1⟩ hK
    have c5 := hv.cell
    obtain ⟨va, vc, rfl⟩ := slice_of hrow
    have hKp := Rg.Kp.put hbX W D _ (.deferred none) hD hK rfl rfl
    have HF := Lib.hid (And.intro hS (And.intro hrow (And.intro hle (And.intro hB1 (And.intro hK hKp)))))
    clear hS hrow hle hB1 hK hKp hv hbm h0 hco hnow hnop hB0 bM bL
    gi_wp2_with fail
    obtain ⟨hS, hrow, hle, hB1, hK, hKp⟩ := HF.out
    refine ⟨by simp, .inl ⟨_, _, rfl, run_takeDeferred hK, ?_⟩⟩
    exact ⟨_, results_tmp rfl _ _ _, va, vc, ys, rfl, by rw [hS.1, List.take_of_length_le (by rw [← hS.1, List.length_map]; exact hle)], hB1.trans (belowK_b (w := w) (Nat.le_refl _) W D _ _ (by omega) hK rfl rfl), ownsRow_putObj hrow _ hK rfl, fun y hy => introw_keep ((hS.2.2 y hy).kp hKp) (fun k hk => hk.1) (fun _ _ _ _ hu => hu)⟩
  case stop =>
    rintro D cd pre W hD hS ⟨pre', ⟨rfl, hpl, x, rfl⟩, ⟨⟨⟨v, hv, hrow, _⟩, hbm⟩, hle, hB1⟩⟩ hK
    have c5 := hv.cell
    obtain ⟨va, vc, rfl⟩ := slice_of hrow
    have hKp := Rg.Kp.put hbX W D _ (.deferred none) hD hK rfl rfl
    have HF := Lib.hid (And.intro hS (And.intro hrow (And.intro hle (And.intro hB1 (And.intro hK hKp)))))
    have HP := Lib.hid hpl
    clear hS hrow hle hB1 hK hKp hv hbm h0 hco hnow hnop hB0 bM bL hpl
    gi_wp2_with fail
    obtain ⟨hS, hrow, hle, hB1, hK, hKp⟩ := HF.out
    refine ⟨by simp, .inl ⟨_, _, rfl, run_takeDeferred hK, ?_⟩⟩
    have hpt : pre'.map Nm.i = (T.chain s).take m := by
      obtain ⟨r, hr⟩ := hS.1
      rw [← hr, List.map_append, List.append_assoc, ← HP.out, List.take_left' (by rw [List.length_map])]
    exact ⟨_, results_tmp rfl _ _ _, va, vc, pre', rfl, hpt, hB1.trans (belowK_b (w := w) (Nat.le_refl _) W D _ _ (by omega) hK rfl rfl), ownsRow_putObj hrow _ hK rfl, fun y hy => introw_keep ((hS.2.2 y (List.mem_append_left _ hy)).kp hKp) (fun k hk => hk.1) (fun _ _ _ _ hu => hu)⟩
end Go.Proofs.Ytapnighankepjaa.Sc
end
section
namespace Go.Proofs.Ytapnighankepjaa.Sc
open Go.ChangeShapes Go.WideShapes Go.ChangeAt Go.RowKit
set_option linter.unusedVariables false
set_option linter.unusedSimpArgs false

/-- The scopes that Names tells of. -/
def chainO (T : Tab) (o : Int) : List Nat := if 0 ≤ o ∧ o < (T.rows.length : Int) then T.chain o.toNat else []
def ToldP (T : Tab) (ns : List Nat) (w : World) (e : Ending) (w' : World) : Prop :=
  ∃ (a : Option Addr) (c' : Nat) (ys : List Nm), e = .returned (.slice a ys.length c') ∧ ys.map Nm.i = ns ∧ Below w.heap.size w w' ∧ w'.ownsRow w.heap.size 58 7 (.slice a ys.length c') ys.length (nmC T ys) ∧ ∀ y ∈ ys, y.Good T (Da.Lo w'.heap.size) w'
theorem TabAt.idOk {w : World} {tb : Nat} {T : Tab} {vs vm : Value} {bm : Nat} (h : TabAt w tb T vs vm bm) : ∀ k, k < T.rows.length → (T.id k).Ok := fun k hk => by
  unfold Tab.id
  rw [List.getD_eq_getElem?_getD, List.getElem?_eq_getElem hk]
  exact h.ids _ (List.getElem_mem hk)
theorem TabIn.idOk {w : World} {tb : Nat} {T : Tab} {O : Nat → Prop} (h : TabIn w tb T O) : ∀ k, k < T.rows.length → (T.id k).Ok := by
  obtain ⟨_, _, _, h1, _⟩ := h; exact h1.idOk
theorem names_all (tb : Nat) (T : Tab) (O : Nat → Prop) (o : Int) (w : World) (h : TabIn w tb T O) :
    Calls Try.prog 18 #[.pointer (some ⟨tb, 0, none⟩), .int .i64 o] w fun e w' => ∃ fv, e = .returned fv ∧ Below w.heap.size w w' ∧
      Hid (∀ (m : Nat) (w2 : World), m ≤ 1048576 → Below w'.heap.size w' w2 → Calls Try.prog 17 #[fv, .int .i64 (m : Int)] w2 (ToldP T ((chainO T o).take m) w2)) := by
  by_cases hv : 0 ≤ o ∧ o < (T.rows.length : Int)
  · obtain ⟨s, rfl⟩ : ∃ s : Nat, o = (s : Int) := ⟨o.toNat, by omega⟩
    have hs : s < T.rows.length := by omega
    refine (names_fn tb T O s w h hs).mono ?_
    rintro e w' ⟨rfl, hb, hsz, g, c, _, hg, cr, cs, rows⟩
    refine ⟨_, rfl, hb, Lib.hid (fun m w2 hm hb2 => ?_)⟩
    have hle := hb2.size
    have hle1 := hb.size
    have e1 : chainO T (s : Int) = T.chain s := by unfold chainO; rw [if_pos hv]; rfl
    rw [e1]
    exact told_names T h.ok h.idOk s hs (w.heap.size + 1) w.heap.size g c m hm w2 (by omega) (by omega) (by omega) ((hb2.cell (p := ⟨w.heap.size + 1, 0, none⟩) (by show w.heap.size + 1 < _; omega)).trans cr) ((hb2.cell (p := ⟨w.heap.size, 0, none⟩) (by show w.heap.size < _; omega)).trans cs)
      (fun k hk => ⟨(hb2.cell (p := ⟨g, k * 19, none⟩) (by show g < _; omega)).trans (rows k hk).1, (rows k hk).2.same (fun oo u hu => (hb2.cell (p := ⟨g, oo, none⟩) (by show g < _; omega)).trans hu)⟩)
  · have hpos := h.ok.pos
    have hc : chkE T.rows.length o = 50 := by unfold chkE; rw [if_neg (by omega), if_pos (by omega)]
    have e1 : chainO T o = [] := by unfold chainO; rw [if_neg hv]
    obtain ⟨vs, vm, bm, ht, hO⟩ := h
    obtain ⟨a, c, rfl⟩ := slice_of ht.rows
    have hlt := ht.lt tb (.inl rfl)
    have c0 : w.cell? ⟨tb, 0, none⟩ = some (.slice a T.rows.length c) := (ht.blk.cell 0).trans rfl
    refine (names_none (some ⟨tb, 0, none⟩) o 50 w (by decide) (Lib.hid (fun w2 hb => by
      have h := check_any tb a T.rows.length c o w2 ((hb.cell (p := ⟨tb, 0, none⟩) hlt).trans c0)
      rwa [hc] at h))).mono ?_
    rintro e w' ⟨rfl, hb⟩
    refine ⟨_, rfl, hb, Lib.hid (fun m w2 hm hb2 => ?_)⟩
    rw [e1]
    refine (told_none (m : Int) w2).mono ?_
    rintro e w3 ⟨rfl, hb3⟩
    exact ⟨none, 0, [], rfl, by simp, hb3, World.ownsRow_nil _ _ _ _, fun y hy => by cases hy⟩
end Go.Proofs.Ytapnighankepjaa.Sc
end
section
namespace Go.Proofs.Ytapnighankepjaa.Sc
open Go.ChangeShapes Go.WideShapes Go.ChangeAt Go.RowKit
set_option linter.unusedVariables false
set_option linter.unusedSimpArgs false

/-- 'append([]int(nil), xs...)' in a statement whose order is open. -/
theorem wp_firsti {o : Oper} {a : Act} {w : World} {K : Act → World → Prop} {Q : Exit → Act → World → Prop} (N : Nat) (x : Operand) (ho : o.op = .call { callee := .builtin .append, args := #[.const (.slice none 0 0), x], argTypes := #[30, 30] })
    (src : Option Addr) (m c : Nat) (xs : List Value) (hx : a.eval x = .slice src m c) (hsn : src = none → m = 0 ∧ c = 0) (hl : xs.length = m * 1) (hcell : ∀ b, src = some b → ∀ j u, xs[j]? = some u → w.cell? (b.add j) = some u) (h1 : ∀ u ∈ xs, u.oneCell' = true) (hm : m ≤ 1000) (hN : N ≤ w.heap.size)
    (h : ∀ v' w', w'.ownsRow N 3 1 v' m xs → w.grownBy w' none → K (a.put o.dst v') w') : o.wp Try.prog a w K Q := by
  obtain ⟨i0, hi, hz0, hz1, hz2⟩ := info_parts info_int
  cases src with
  | none =>
    obtain ⟨rfl, rfl⟩ := hsn rfl
    have hxs : xs = [] := List.eq_nil_of_length_eq_zero (by rw [hl, Nat.zero_mul])
    subst hxs
    have hrun := run_append_owned_none (P := Try.prog) (w := w) N 30 o.type 3 i0 1 Try.underlying30 hi (.slice none 0 0) 0 [] (World.ownsRow_nil _ _ _ _)
    have h' := h _ _ (World.ownsRow_nil _ _ _ _) ⟨rfl, rfl, rfl, Nat.le_refl _, fun _ _ _ => rfl⟩
    have he : a.eval (.const (.slice none 0 0)) = .slice none 0 0 := rfl
    unfold Oper.wp
    simp [execOp, ho, resolve, invoke, builtin, he, hx, hrun, Result.andThen]
    exact h'
  | some b =>
    refine wp_append_at w (.const (.slice none 0 0)) x _ ho N 3 i0 _ 1 8 Try.underlying30 hi hz0 hz1 hz2 rfl (by decide) (.slice none 0 0) 0 [] rfl (World.ownsRow_nil _ _ _ _) b m c xs hx hl (hcell b rfl) h1 (by unfold maxLen; omega) (by omega) hN ?_
    intro v' w' hown hg _
    refine h v' w' (by rwa [Nat.zero_add, List.nil_append] at hown) hg
theorem run_bsi (w : World) (z : Int) : (Instr.buildSlice 30 1 #[(0, .int .i64 z)]).run Try.prog w = .ok (.slice (some ⟨w.heap.size, 0, none⟩) 1 1) (w.alloc (.cells #[.int .i64 z] 3)) := by kernel_rfl
theorem wp_bsi {o : Oper} {a : Act} {w : World} {K : Act → World → Prop} {Q : Exit → Act → World → Prop} (y : Operand) (z : Int) (ho : o.op = .buildSlice 30 1 #[(0, y)]) (hy : a.eval y = .int .i64 z)
    (h : K (a.put o.dst (.slice (some ⟨w.heap.size, 0, none⟩) 1 1)) (w.alloc (.cells #[.int .i64 z] 3))) : o.wp Try.prog a w K Q := by
  unfold Oper.wp execOp
  simp only [ho, List.map_toArray, List.map_cons, List.map_nil, hy, Sem.run_bind, run_bsi, Result.andThen_ok]
  exact h
set_option maxRecDepth 100000 in
theorem run_alD (w : World) : (Instr.alloc 33 true (.tuple #[])).run Try.prog w = .ok (.pointer (some ⟨w.heap.size, 0, none⟩)) (w.alloc (.cells datZ 33)) := by kernel_rfl
set_option maxRecDepth 100000 in
theorem wp_alD {o : Oper} {a : Act} {w : World} {K : Act → World → Prop} {Q : Exit → Act → World → Prop} (ho : o.op = .alloc 33)
    (h : K (a.put o.dst (.pointer (some ⟨w.heap.size, 0, none⟩))) (w.alloc (.cells datZ 33))) : o.wp Try.prog a w K Q := by
  unfold Oper.wp execOp
  simp only [ho, Sem.run_bind, run_alD, Result.andThen_ok]
  exact h
/-- What the steps leave behind. -/
def R81 (N : Nat) (M : List Int) (W : World) (v : Value) : Prop := W.ownsRow N 3 1 v M.length (zs M)
def R83 (mk : Int) (W : World) (v : Value) : Prop := ∃ p, v = .slice (some ⟨p, 0, none⟩) 1 1 ∧ W.cell? ⟨p, 0, none⟩ = some (.int .i64 mk) ∧ p < W.heap.size
def R16 (N : Nat) (W : World) (v : Value) : Prop := ∃ q, v = .pointer (some ⟨q, 0, none⟩) ∧ Da.Blk W q 33 datZ ∧ N ≤ q
theorem R81.bel {N : Nat} {M : List Int} {W W' : World} {v : Value} (h : R81 N M W v) (hb : Below W.heap.size W W') : R81 N M W' v := ownsRow_same h (fun g hg => hb.block g (h.lt g hg).2)
theorem R83.bel {mk : Int} {W W' : World} {v : Value} (h : R83 mk W v) (hb : Below W.heap.size W W') : R83 mk W' v := by
  obtain ⟨p, h1, h2, h3⟩ := h
  exact ⟨p, h1, (hb.cell (p := ⟨p, 0, none⟩) h3).trans h2, Nat.lt_of_lt_of_le h3 hb.size⟩
theorem R16.bel {N : Nat} {W W' : World} {v : Value} (h : R16 N W v) (hb : Below W.heap.size W W') : R16 N W' v := by
  obtain ⟨q, h1, h2, h3⟩ := h
  exact ⟨q, h1, (hb.block _ (Array.getElem?_eq_some_iff.1 h2).1).trans h2, h3⟩
/-- An append in place to numbers leaves the datum's box alone. -/
theorem R16.app {N B n : Nat} {W W' : World} {v r : Value} {xs : List Value} (h : R16 N W v) (hr : W.ownsRow B 3 1 r n xs) (hg : W.grownBy W' r.ownBlock) : R16 N W' v := by
  obtain ⟨q, h1, h2, h3⟩ := h
  refine ⟨q, h1, (hg.block q (Array.getElem?_eq_some_iff.1 h2).1 (fun e => ?_)).trans h2, h3⟩
  rcases hr.2 with ⟨rfl, _⟩ | ⟨g, cap, cur, rfl, _, hgg, _⟩
  · cases e
  · have e : q = g := Option.some.inj e
    subst e
    rw [show W.heap[q]? = _ from h2] at hgg
    injection hgg with hgg
    injection hgg with _ ht
    exact absurd ht (by decide)
theorem bel_none {W W' : World} (hg : W.grownBy W' none) : Below W.heap.size W W' := ⟨hg.os, hg.tape, hg.output, hg.size, fun k hk => hg.block k hk (fun e => by cases e)⟩
end Go.Proofs.Ytapnighankepjaa.Sc
end
section
namespace Go.Proofs.Ytapnighankepjaa.Sc
open Go.ChangeShapes Go.WideShapes Go.ChangeAt Go.RowKit
set_option linter.unusedVariables false
set_option linter.unusedSimpArgs false

/-- The box of the datum. -/
def BxM (w : World) (D0 : List Value) (W : World) : Prop := Below w.heap.size w W ∧ Da.Blk W w.heap.size 33 D0.toArray
theorem BxM.bel {w W W' : World} {D0 : List Value} (h : BxM w D0 W) (hb : Below W.heap.size W W') : BxM w D0 W' := by
  obtain ⟨h1, h2⟩ := h
  exact ⟨h1.trans (hb.mono h1.size), (hb.block _ (Array.getElem?_eq_some_iff.1 h2).1).trans h2⟩
theorem BxM.chg {w W W' : World} {D0 : List Value} (h : BxM w D0 W) (hb : Below (w.heap.size + 1) W W') : BxM w D0 W' := by
  obtain ⟨h1, h2⟩ := h
  exact ⟨h1.trans (hb.mono (by omega)), (hb.block _ (by omega)).trans h2⟩
theorem BxM.lt {w W : World} {D0 : List Value} (h : BxM w D0 W) : w.heap.size + 1 ≤ W.heap.size := (Array.getElem?_eq_some_iff.1 h.2).1
theorem BxM.at0 {w W : World} {D0 : List Value} (h : BxM w D0 W) : Ld.At W w.heap.size 0 D0 := Ld.At.of_blk h.2
def putI (d0 : Da.Dt) : Opn := ⟨0, 0, 0, d0, dtNo, 0⟩
theorem built_puti (d0 : Da.Dt) (x0 : Sx) : Try.prog.built 35 [(3, .agg (sixL d0 x0).toArray)] = some (opL (putI d0) x0 sxNo).toArray := by kernel_rfl
theorem run_bslPuti (w : World) (d0 : Da.Dt) (x0 : Sx) : (Instr.buildSlice 22 1 #[(0, .agg (opL (putI d0) x0 sxNo).toArray)]).run Try.prog w = .ok (.slice (some ⟨w.heap.size, 0, none⟩) 1 1) (w.alloc (.cells (opL (putI d0) x0 sxNo).toArray 35)) := by kernel_rfl
theorem wp_bslPuti {o : Oper} {a : Act} {w : World} {K : Act → World → Prop} {Q : Exit → Act → World → Prop} (y : Operand) (d0 : Da.Dt) (x0 : Sx) (ho : o.op = .buildSlice 22 1 #[(0, y)]) (hy : a.eval y = .agg (opL (putI d0) x0 sxNo).toArray)
    (h : K (a.put o.dst (.slice (some ⟨w.heap.size, 0, none⟩) 1 1)) (w.alloc (.cells (opL (putI d0) x0 sxNo).toArray 35))) : o.wp Try.prog a w K Q := by
  unfold Oper.wp execOp
  simp only [ho, List.map_toArray, List.map_cons, List.map_nil, hy, Sem.run_bind, run_bslPuti, Result.andThen_ok]
  exact h
theorem wp_firsto {o : Oper} {a : Act} {w : World} {K : Act → World → Prop} {Q : Exit → Act → World → Prop} (N : Nat) (x : Operand) (ho : o.op = .call { callee := .builtin .append, args := #[.const (.slice none 0 0), x], argTypes := #[22, 22] })
    (src : Option Addr) (m c : Nat) (xs : List Value) (hx : a.eval x = .slice src m c) (hsn : src = none → m = 0 ∧ c = 0) (hl : xs.length = m * 16) (hcell : ∀ b, src = some b → ∀ j u, xs[j]? = some u → w.cell? (b.add j) = some u) (h1 : ∀ u ∈ xs, u.oneCell' = true) (hm : m ≤ 100) (hN : N ≤ w.heap.size)
    (h : ∀ v' w', w'.ownsRow N 35 16 v' m xs → w.grownBy w' none → K (a.put o.dst v') w') : o.wp Try.prog a w K Q := by
  obtain ⟨i0, hi, hz0, hz1, hz2⟩ := info_parts info_opz
  cases src with
  | none =>
    obtain ⟨rfl, rfl⟩ := hsn rfl
    have hxs : xs = [] := List.eq_nil_of_length_eq_zero (by rw [hl, Nat.zero_mul])
    subst hxs
    have hrun := run_append_owned_none (P := Try.prog) (w := w) N 22 o.type 35 i0 16 Try.underlying22 hi (.slice none 0 0) 0 [] (World.ownsRow_nil _ _ _ _)
    have h' := h _ _ (World.ownsRow_nil _ _ _ _) ⟨rfl, rfl, rfl, Nat.le_refl _, fun _ _ _ => rfl⟩
    have he : a.eval (.const (.slice none 0 0)) = .slice none 0 0 := rfl
    unfold Oper.wp
    simp [execOp, ho, resolve, invoke, builtin, he, hx, hrun, Result.andThen]
    exact h'
  | some b =>
    refine wp_append_at w (.const (.slice none 0 0)) x _ ho N 35 i0 _ 16 240 Try.underlying22 hi hz0 hz1 hz2 rfl (by decide) (.slice none 0 0) 0 [] rfl (World.ownsRow_nil _ _ _ _) b m c xs hx hl (hcell b rfl) h1 (by unfold maxLen; omega) (by omega) hN ?_
    intro v' w' hown hg _
    refine h v' w' (by rwa [Nat.zero_add, List.nil_append] at hown) hg
theorem row_of {w : World} {Q : Nat → Prop} {d : Da.Dt} {x : Sx} (h : Da.IsDt w Q d (.agg (sixL d x).toArray)) : Da.IntRow w Q x.m d.M.length x.cm d.M := by
  obtain ⟨am, cm, al, cl, at_, ct, hv, _, _, _, hrow, _⟩ := h.open_
  unfold sixL at hv
  simp only [Value.agg.injEq, Array.mk.injEq, List.cons.injEq, Value.slice.injEq, true_and, and_true] at hv
  obtain ⟨⟨rfl, rfl⟩, _⟩ := hv
  exact hrow
theorem chainF_len (T : Tab) : ∀ (f s : Nat), (T.chainF f s).length ≤ f
  | 0, _ => Nat.le_refl _
  | f + 1, s => by
    unfold Tab.chainF
    split
    · exact Nat.zero_le _
    · rw [List.length_cons]; have := chainF_len T f (T.par s); omega
theorem chainO_len {T : Tab} (hT : T.Ok) (o : Int) : (chainO T o).length ≤ 1048576 := by
  unfold chainO
  split
  · next h =>
    have h1 := chainF_len T o.toNat o.toNat
    have h2 := hT.few
    show (T.chainF o.toNat o.toNat).length ≤ _
    omega
  · exact Nat.zero_le _
theorem marks_found {T T' : Tab} {s o : Int} {d : Da.Dt} {mk : Nat} (hT : T.Ok) (hT' : T'.Ok) (he : findE T s d = 0) (hm : markE T s = 0) (e1 : markT T s = T') (e2 : markN T s = mk) (hl : d.M.length < 16) (h0 : 0 ≤ o) (h1 : o < (T'.rows.length : Int))
    (hn : ∀ i ∈ chainO T' o, T'.id i ≠ idn (withD d (mk : Int))) : findE T' o (withD d (mk : Int)) = 0 ∧ findZ T' o (withD d (mk : Int)) = findZ T s d := by
  subst e1 e2
  obtain ⟨k, rfl⟩ : ∃ k : Nat, o = (k : Int) := ⟨o.toNat, by omega⟩
  have hr := mk_rows T s
  have hk : k < T.rows.length := by rw [← hr]; omega
  have hsub : Sub T (markT T s) := by unfold markT; rw [if_pos hm]; exact ⟨List.prefix_rfl, ⟨_, rfl⟩⟩
  have hc : chainO (markT T s) (k : Int) = T.chain k := by
    unfold chainO
    rw [if_pos ⟨h0, h1⟩]
    exact chain_sub hsub hT hT' k hk
  rw [hc] at hn
  exact marks_find hT he hm hl hk (fun i hi => by
    have h2 := hn i hi
    rwa [(hsub.at_ (chain_lt hT k hk i hi).2.2).1] at h2)
theorem own_row' {w : World} {B : Nat} {e : TypeId} {sz n : Nat} {v : Value} {xs : List Value} {g : Nat} (h : w.ownsRow B e sz v n xs) (hg : v.ownBlock = some g) : ∃ cur, w.heap[g]? = some (.cells cur e (0, 0)) := by
  rcases h.2 with ⟨rfl, _⟩ | ⟨g', cap, cur, rfl, _, hgg, _⟩
  · cases hg
  · cases hg; exact ⟨cur, hgg⟩
theorem at_one {W : World} {b : Nat} {t : TypeId} {x : Value} {l : List Value} (h : Da.Blk W b t (x :: l).toArray) : Ld.At W b 1 l := fun j v hv => by
  rw [cell_of_row W b (1 + j) (x :: l).toArray t (0, 0) h]
  rw [Nat.add_comm 1 j]
  simpa using hv
set_option maxRecDepth 100000 in
set_option maxHeartbeats 32000000 in
theorem marks_walk (l : List Opn) (a : Option Addr) (c : Nat) (s o : Int) (d0 : Da.Dt) (x0 : Sx) (w : World) (hc : l.length ≤ c) (hcm : c ≤ maxLen) (han : a = none → c = 0) (ho : IsOps w (Da.Lo w.heap.size) a l)
    (hd0 : Da.IsDt w (Da.Lo w.heap.size) d0 (.agg (sixL d0 x0).toArray)) :
    Calls Try.prog 4 #[.slice a l.length c, .int .i64 s, .int .i64 o, .agg (sixL d0 x0).toArray] w fun e w' => e = .returned (.bool true) ∧ Below w.heap.size w w' := by
  obtain ⟨z0, hi, hz0, hz1, hz2⟩ := info_parts info_opz
  obtain ⟨zz, hzd⟩ : ∃ zz, Value.agg opZ = zz := ⟨_, rfl⟩
  have hzz : zz.cells.size = 16 := by rw [← hzd]; rfl
  rw [hzd] at hz0
  clear hzd
  obtain ⟨m, hm⟩ : ∃ m, min l.length 50 = m := ⟨_, rfl⟩
  have hmi : min (l.length : Int) 50 = (m : Int) := by omega
  have hm50 : m ≤ 50 := by omega
  have hml : m ≤ l.length := by omega
  have hrun : ∀ w, (Instr.slice 22 (.slice a l.length c) none (some (.int .i64 (m : Int))) none).run Try.prog w = .ok (.slice a m c) w := run_pre a _ c _ (by omega)
  obtain ⟨L1, hL1⟩ : ∃ L1, l.take m = L1 := ⟨_, rfl⟩
  have hlm : L1.length = m := by rw [← hL1, List.length_take]; omega
  have HLM := Lib.hid hlm
  have hsrc : ∃ cs, OpsD w (Da.Lo w.heap.size) cs L1 ∧ (m = 0 ∨ ∃ b off, a = some ⟨b, off, none⟩ ∧ b < w.heap.size ∧ ∀ j u, cs.flatten[j]? = some u → w.cell? ⟨b, off + j, none⟩ = some u) := by
    rw [← hL1]
    by_cases h0 : m = 0
    · rw [h0, List.take_zero]; exact ⟨[], .nil, .inl rfl⟩
    · obtain ⟨g, off, rfl, hlo, _⟩ := ho 0 _ (List.getElem?_eq_getElem (show 0 < l.length by omega))
      obtain ⟨cs, h1, h2⟩ := ops_cells (w := w) (Q := Da.Lo w.heap.size) (b := g) (off := off) (l.take m) 0 (fun i o hi => by
        have hi' : l[i]? = some o := by
          rw [List.getElem?_take] at hi
          split at hi
          · exact hi
          · cases hi
        obtain ⟨g', off', h3, _, h4⟩ := ho i o hi'
        injection h3 with h3
        injection h3 with h3 h5
        subst h3 h5
        rw [Nat.zero_add]; exact h4)
      exact ⟨cs, h1, .inr ⟨g, off, rfl, hlo, fun j u hu => by have := h2 j u hu; rwa [Nat.zero_mul, Nat.add_zero] at this⟩⟩
  obtain ⟨cs, hcs, hsrc⟩ := hsrc
  have HCS := Lib.hid hcs
  have HSRC0 := Lib.hid hsrc
  have HD := Lib.hid hd0
  have HC := Lib.hid (And.intro hc (And.intro hcm han))
  obtain ⟨D0, hD0⟩ : ∃ D0, sixL d0 x0 = D0 := ⟨_, rfl⟩
  have HDD := Lib.hid hD0
  rw [hD0]
  have n1 := one_new w D0.toArray 33
  have hbX : Below w.heap.size w (w.alloc (.cells D0.toArray 33)) := (Below.refl _ _).alloc (Nat.le_refl _) _
  clear hm hcs hsrc ho hd0 hc hcm han hlm hL1 hD0
  go_enter Try.func4, Try.ntmps4
  go_upto_region 1 with (fail)
  have hT0 : BxM w D0 (World.alloc w (.cells D0.toArray 33)).drew := ⟨hbX.trans (bel_drew0 _ _), n1⟩
  have hsX : (World.alloc w (.cells D0.toArray 33)).drew.heap.size = w.heap.size + 1 := by show (World.alloc w _).heap.size = _; simp
  clear n1 hbX
  refine Od.till_region 16 (fun _ : World => True) (BxM w D0) 16 (by kernel_rfl) rfl ?_
  generalize (World.alloc w _).drew = X at hT0 hsX ⊢
  simp only [Array.replicate_succ, Array.replicate_zero, List.push_toArray, List.nil_append, List.cons_append]
  have k1 : cs.flatten.length = m * 16 := by rw [HCS.out.flat, HLM.out]
  have k2 : a = none → m = 0 ∧ c = 0 := fun e => by
    have h1 := HC.out.2.2 e
    have h2 := HC.out.1
    omega
  have k3 : ∀ W, Below w.heap.size w W → ∀ b, a = some b → ∀ j u, cs.flatten[j]? = some u → W.cell? (b.add j) = some u := fun W hW b hb j u hu => by
    rcases HSRC0.out with h0 | ⟨b', off, h1, hlt, h2⟩
    · rw [List.getElem?_eq_none (by rw [k1, h0]; omega)] at hu; cases hu
    · rw [h1] at hb
      injection hb with hb
      subst hb
      rw [Ld.add_at]
      have h3 := h2 j u hu
      exact (hW.cell (p := ⟨b', off + j, none⟩) hlt).trans h3
  have K1 := Lib.hid (And.intro k1 (And.intro k2 k3))
  have N2 : Hid (∀ u ∈ opL (putI d0) x0 sxNo, u.oneCell' = true) := Lib.hid (fun u hu => by
    have h := opL_one (putI d0) x0 sxNo
    rw [List.all_toArray, List.all_eq_true] at h
    exact h u hu)
  have N3 : Hid (L1.length + 1 ≤ maxLen ∧ (L1.length + 1) * 240 ≤ 140737488355328) := Lib.hid (by rw [HLM.out]; unfold maxLen; omega)
  clear k1 k2 k3
  refine Od.Till.takeT (i := 0) (d := 24) (v := .slice a l.length c) rfl rfl (by kernel_rfl) (by kernel_rfl) (by kernel_rfl) (by kernel_rfl) (fun _ _ _ h => h) (.inl ⟨by rfl, ?_⟩) trivial hT0 ?_
  · intro wx hSw
    clear hSw
    go_simp
  simp only [Act.put, List.setIfInBounds_toArray, List.set_cons_zero, List.set_cons_succ]
  refine Od.Till.takeT (i := 1) (d := 25) (v := .slice a l.length c) rfl rfl (by kernel_rfl) (by kernel_rfl) (by kernel_rfl) (by kernel_rfl) (fun _ _ _ h => h) (.inl ⟨by rfl, ?_⟩) trivial hT0 ?_
  · intro wx hSw
    clear hSw
    go_simp
  simp only [Act.put, List.setIfInBounds_toArray, List.set_cons_zero, List.set_cons_succ]
  refine Od.Till.takeT (i := 2) (d := 26) (v := .int .i64 (l.length : Int)) rfl rfl (by kernel_rfl) (by kernel_rfl) (by kernel_rfl) (by kernel_rfl) (fun _ _ _ h => h) (.inl ⟨by rfl, ?_⟩) trivial hT0 ?_
  · intro wx hSw
    clear hSw
    go_simp
  simp only [Act.put, List.setIfInBounds_toArray, List.set_cons_zero, List.set_cons_succ]
  refine Od.Till.takeT (i := 3) (d := 27) (v := .int .i64 (m : Int)) rfl rfl (by kernel_rfl) (by kernel_rfl) (by kernel_rfl) (by kernel_rfl) (fun _ _ _ h => h) (.inl ⟨by rfl, ?_⟩) trivial hT0 ?_
  · intro wx hSw
    clear hSw
    go_simp
  simp only [Act.put, List.setIfInBounds_toArray, List.set_cons_zero, List.set_cons_succ]
  refine Od.Till.takeT (i := 4) (d := 28) (v := .slice a m c) rfl rfl (by kernel_rfl) (by kernel_rfl) (by kernel_rfl) (by kernel_rfl) (fun _ _ _ h => h) (.inl ⟨by rfl, ?_⟩) trivial hT0 ?_
  · intro wx hSw
    clear hSw
    go_simp
  simp only [Act.put, List.setIfInBounds_toArray, List.set_cons_zero, List.set_cons_succ]
  refine Od.Till.takeT (i := 6) (d := 30) (v := .agg D0.toArray) rfl rfl (by kernel_rfl) (by kernel_rfl) (by kernel_rfl) (by kernel_rfl) (fun _ _ _ h => h) (.inl ⟨by rfl, ?_⟩) trivial hT0 ?_
  · intro wx hSw
    refine Ld.exec_at 33 (.tmp 7) rfl w.heap.size 0 rfl D0 _ hSw.at0 Try.underlying33 rfl (by rw [← HDD.out]; exact info_dt6)
  simp only [Act.put, List.setIfInBounds_toArray, List.set_cons_zero, List.set_cons_succ]
  refine Od.Till.takeT (i := 7) (d := 31) (v := .agg (opL (putI d0) x0 sxNo).toArray) rfl rfl (by kernel_rfl) (by kernel_rfl) (by kernel_rfl) (by kernel_rfl) (fun _ _ _ h => h) (.inl ⟨by rfl, ?_⟩) trivial hT0 ?_
  · intro wx hSw
    clear hSw
    refine Ld.exec_build 35 #[(3, .tmp 30)] rfl _ ?_; simp only [List.map_toArray, List.map_cons, List.map_nil]; rw [← HDD.out]; exact built_puti d0 x0
  simp only [Act.put, List.setIfInBounds_toArray, List.set_cons_zero, List.set_cons_succ]
  refine Od.Till.meet 7 #[true, true, true, true, true, true, true, true, true, false, false, false, false, false, false, false] (fun a0 a W => ∃ (va : Option Addr) (vc p : Nat), a = ((a0.put (some 29) (.slice va m vc)).put (some 32) (.slice (some ⟨p, 0, none⟩) 1 1)) ∧ RowOps W (w.heap.size + 1) w.heap.size (.slice va m vc) L1 ∧ (∀ j u, (opL (putI d0) x0 sxNo)[j]? = some u → W.cell? ((⟨p, 0, none⟩ : Addr).add j) = some u)) ?_ (fun hs58 => ?_)
  · rintro a5 W ⟨va, vc, p, rfl, hrow, hpc⟩ hT
    simp only [Act.put, List.setIfInBounds_toArray, List.set_cons_zero, List.set_cons_succ]
    refine Od.Till.one (i := 9) (by kernel_rfl) rfl (fun K hK => ?_)
    rw [if_pos (by kernel_rfl)]
    obtain ⟨cs2, hown2, hcs2⟩ := hrow
    have HCS2 := Lib.hid hcs2
    refine wp_append_at W (.tmp 29) (.tmp 32) 22 rfl (w.heap.size + 1) 35 z0 zz 16 240 Try.underlying22 hi hz0 hz1 hz2 hzz (by decide) (.slice va m vc) L1.length cs2.flatten rfl hown2 ⟨p, 0, none⟩ 1 1 (opL (putI d0) x0 sxNo) rfl rfl hpc N2.out N3.out.1 N3.out.2 hT.lt ?_
    intro v3 w3 hown3 hg3 _
    obtain ⟨va3, vc3, rfl⟩ := slice_of hown3
    have hb3 : Below (w.heap.size + 1) W w3 := below_grown hown2 hg3 (Nat.le_refl _) hT.lt
    have hT3 := hT.chg hb3
    have ROW3 : Hid (RowOps w3 (w.heap.size + 1) w.heap.size (.slice va3 (L1.length + 1) vc3) (L1 ++ [putI d0])) := Lib.hid (RowOps.snoc (v := .slice va m vc) HCS2.out ⟨x0, sxNo, rfl, HD.out.below hT.1, dt_no _ _, (show (Lit.int .i64 0).wf = true by decide)⟩ (hb3.mono (Nat.le_add_right _ 1)) hown3)
    refine hK.out _ _ ⟨fun _ => trivial, hT3⟩ ?_
    clear hK K hown3 hg3 hb3 hown2 hcs2 hpc
    simp only [Act.put, List.setIfInBounds_toArray, List.set_cons_zero, List.set_cons_succ]
    refine Od.Till.one (i := 10) (by kernel_rfl) rfl (fun K hK => ?_)
    rw [if_pos (by kernel_rfl)]
    go_simp
    obtain ⟨U, hU⟩ : ∃ U, L1 ++ [putI d0] = U := ⟨_, rfl⟩
    have hUl : U.length = L1.length + 1 := by rw [← hU, List.length_append]; rfl
    rw [hU, ← hUl] at ROW3
    rw [← hUl]
    have hiu := ROW3.out.isOps (Nat.le_trans (Nat.le_add_right _ 1) hT3.lt)
    obtain ⟨hcap1, hcap2⟩ := row_cap ROW3.out.choose_spec.1
    have HIU := Lib.hid hiu
    have HUL := Lib.hid (And.intro hUl hU)
    have HCAP := Lib.hid (And.intro hcap1 hcap2)
    clear hiu hcap1 hcap2 hUl hU
    refine (small_any U va3 vc3 w3.heap.size w3 HCAP.out.1 HCAP.out.2 (Nat.le_refl _) HIU.out).mono ?_
    intro e w4 hsm
    obtain ⟨hb4, s4, b4, rfl, hs4⟩ := hsm.form
    have hT4 := hT3.bel hb4
    have HB4 := Lib.hid hb4
    have HS4 := Lib.hid hs4
    clear hsm hb4 hs4
    refine hK.out _ _ ⟨fun _ => trivial, hT4⟩ ?_
    clear hK K hT3 hT
    simp only [Act.put, List.setIfInBounds_toArray, List.set_cons_zero, List.set_cons_succ]
    refine Od.Till.takeT (i := 11) (d := 23) (v := .tuple #[s4, .bool b4]) rfl rfl (by kernel_rfl) (by kernel_rfl) (by kernel_rfl) (by kernel_rfl) (fun _ _ _ h => h) (.inl ⟨by rfl, ?_⟩) trivial hT4 ?_
    · intro wx hSw
      clear hSw
      go_simp
    simp only [Act.put, List.setIfInBounds_toArray, List.set_cons_zero, List.set_cons_succ]
    refine Od.Till.takeT (i := 12) (d := 35) (v := s4) rfl rfl (by kernel_rfl) (by kernel_rfl) (by kernel_rfl) (by kernel_rfl) (fun _ _ _ h => h) (.inl ⟨by rfl, ?_⟩) trivial hT4 ?_
    · intro wx hSw
      clear hSw
      go_simp
    simp only [Act.put, List.setIfInBounds_toArray, List.set_cons_zero, List.set_cons_succ]
    refine Od.Till.takeT (i := 13) (d := 36) (v := .bool b4) rfl rfl (by kernel_rfl) (by kernel_rfl) (by kernel_rfl) (by kernel_rfl) (fun _ _ _ h => h) (.inl ⟨by rfl, ?_⟩) trivial hT4 ?_
    · intro wx hSw
      clear hSw
      go_simp
    simp only [Act.put, List.setIfInBounds_toArray, List.set_cons_zero, List.set_cons_succ]
    refine Od.Till.takeT (i := 14) (d := 9) (v := s4) rfl rfl (by kernel_rfl) (by kernel_rfl) (by kernel_rfl) (by kernel_rfl) (fun _ _ _ h => h) (.inl ⟨by rfl, ?_⟩) trivial hT4 ?_
    · intro wx hSw
      clear hSw
      go_simp
    simp only [Act.put, List.setIfInBounds_toArray, List.set_cons_zero, List.set_cons_succ]
    refine Od.Till.takeT (i := 15) (d := 10) (v := .bool b4) rfl rfl (by kernel_rfl) (by kernel_rfl) (by kernel_rfl) (by kernel_rfl) (fun _ _ _ h => h) (.inl ⟨by rfl, ?_⟩) trivial hT4 ?_
    · intro wx hSw
      clear hSw
      go_simp
    simp only [Act.put, List.setIfInBounds_toArray, List.set_cons_zero, List.set_cons_succ]
    refine Od.Till.done (by kernel_rfl) ?_
    have HXw4 := Lib.hid hT4
    have HDv : Hid (Da.IsDt w (Da.Lo w.heap.size) d0 (.agg D0.toArray)) := Lib.hid (by rw [← HDD.out]; exact HD.out)
    have HINF : Hid ((Try.prog.info? 33).map (·.size) = some D0.length) := Lib.hid (by rw [← HDD.out]; exact info_dt6)
    clear hT4 hT0 hrun
    go_wp2_with fail
    refine (awake_any w4).mono ?_
    rintro e w5 ⟨rfl, hb5⟩
    have HXw5 := Lib.hid (HXw4.out.bel hb5)
    have HB5 := Lib.hid (HB4.out.trans (hb5.mono HB4.out.size))
    clear hb5
    cases b4 with
    | false =>
      go_wp2_with fail
      refine (awake_any w5).mono ?_
      rintro e w6 ⟨rfl, hb6⟩
      have HXw6 := Lib.hid (HXw5.out.bel hb6)
      clear hb6
      go_wp2_with fail
      go_ret
      exact ⟨rfl, HXw6.out.1⟩
    | true =>
      have hs4 := HS4.out rfl
      rw [show min U.length 60 = U.length by rw [HUL.out.1, HLM.out]; omega] at hs4
      subst hs4
      have hu1 : 1 ≤ U.length := by rw [HUL.out.1]; omega
      have hu51 : U.length ≤ 51 := by rw [HUL.out.1, HLM.out]; omega
      have hr4 : ∀ w, (Instr.slice 22 (.slice va3 U.length vc3) none (some (.int .i64 ((U.length : Int) - 1))) none).run Try.prog w = .ok (.slice va3 L1.length vc3) w := fun w => by
        rw [show ((U.length : Int) - 1) = (L1.length : Int) by rw [HUL.out.1]; omega]
        exact run_pre va3 _ vc3 L1.length (by have := HCAP.out.1; have := HUL.out.1; omega) w
      go_wp2_with fail
      have hops : IsOps w5 (Da.Lo w3.heap.size) va3 L1 := fun i o hi => (HIU.out.below HB5.out) i o (by rw [← HUL.out.2, List.getElem?_append_left (List.getElem?_eq_some_iff.1 hi).1]; exact hi)
      refine (made_acts L1 va3 vc3 w3.heap.size w5 HB5.out.size (by rw [HLM.out]; unfold maxLen; omega) hops).mono ?_
      rintro e w6 ⟨tb, rfl, ht6, hb6⟩
      have HXw6 := Lib.hid (HXw5.out.bel hb6)
      have HT6 := Lib.hid (ht6.more (fun b hb => show w.heap.size + 1 ≤ b from Nat.le_trans HXw5.out.lt hb))
      clear hops ht6 hb6 HIU HB5 HB4 HS4 hr4 hu1 hu51
      generalize hTT : actsT Tab.new L1 = T at HT6
      clear hTT
      have HOK := Lib.hid HT6.out.ok
      go_wp2_with (refine load_list (.tmp 7) 33 w.heap.size 0 D0 _ rfl rfl rfl HXw6.out.at0 Try.underlying33 rfl HINF.out ?_)
      refine (find_all tb T _ s d0 _ w.heap.size w6 (HDv.out.below HXw6.out.1) HXw6.out.1.size HT6.out).mono ?_
      rintro e w7 ⟨rfl, hb7⟩
      have HXw7 := Lib.hid (HXw6.out.bel hb7)
      have HTw7 : Hid (TabIn w7 tb T (fun b => w.heap.size + 1 ≤ b ∧ b < w7.heap.size)) := Lib.hid (by
        obtain ⟨vs, vm, bm, h1, h2⟩ := HT6.out.bel hb7
        exact ⟨vs, vm, bm, h1, fun k hk => ⟨h2 k hk, h1.lt k hk⟩⟩)
      clear hb7
      generalize hz7 : findZ T s d0 = z7
      generalize he7 : findE T s d0 = e7
      have HQ7 := Lib.hid (And.intro he7 hz7)
      clear hz7 he7
      go_upto_region 8 with (refine wpList_store_row rfl 49 (.tmp 12) (.tmp 57) rfl w7.heap.size (seenC z7) rfl rfl 49 (seenC Seen.zero) (heap_alloc_new w7 _) info_seen rfl (seenC_one _) ?_)
      generalize hXw8a : (World.setRow (World.alloc w7 _) w7.heap.size (seenC z7)) = w8a
      have hbw8a : Below w7.heap.size w7 w8a := by rw [← hXw8a]; exact bel_row ((Below.refl _ _).alloc (Nat.le_refl _) _) _ _ (Nat.le_refl _)
      have hzw8a : Da.Blk w8a w7.heap.size 49 (seenC z7) := by rw [← hXw8a]; exact setRow_heap _ _ (seenC Seen.zero) _ _ _ (heap_alloc_new w7 _)
      have HYw8a := Lib.hid hzw8a
      have HXw8a := Lib.hid (HXw7.out.bel hbw8a)
      have HTw8a := Lib.hid (HTw7.out.bel hbw8a)
      clear hXw8a hbw8a hzw8a
    
      go_wp2_with fail
      refine (mark_all tb T _ s w8a HTw8a.out).mono ?_
      rintro e w8 ⟨rfl, h8, hc8⟩
      have HTw8 : Hid (TabIn w8 tb (markT T s) (fun k => w.heap.size + 1 ≤ k)) := Lib.hid (h8.more (fun k hk => by
        rcases hk with h | h
        · exact h.1
        · exact Nat.le_trans HXw8a.out.lt h))
      have HXw8 := Lib.hid (HXw8a.out.chg (hc8.to_below HXw8a.out.lt (fun j hj => hj.1)))
      have HYw8 := Lib.hid (show Da.Blk w8 w7.heap.size 49 (seenC z7) from (hc8.block _ (Array.getElem?_eq_some_iff.1 HYw8a.out).1 (fun h => Nat.lt_irrefl _ h.2)).trans HYw8a.out)
      clear h8 hc8
      have e3 : w8.cell? ⟨w.heap.size, 3, none⟩ = some (.slice x0.m d0.M.length x0.cm) := (HXw8.out.2.cell 3).trans (by rw [← HDD.out]; rfl)
      by_cases hf : markE T s = 0
      · rw [hf]
        have HF := Lib.hid hf
        clear hf
        generalize hT2 : markT T s = T' at HTw8
        generalize hmk : markN T s = mk
        have HMK := Lib.hid (And.intro hT2 hmk)
        clear hT2 hmk
        by_cases he : e7 = 0
        · subst he
          by_cases hl : d0.M.length < 16
          · have d1 : decide ((d0.M.length : Int) ≥ 16) = false := decide_eq_false (by omega)
            have d2 : decide (16 ≤ d0.M.length) = false := decide_eq_false (by omega)
            have d3 : decide ((16 : Int) ≤ (d0.M.length : Int)) = false := decide_eq_false (by omega)
            have HL := Lib.hid hl
            clear hl
            go_upto_region 11 with (fail)
            clear e3 d1 d2 d3
            obtain ⟨N, hN⟩ : ∃ N, w8.heap.size = N := ⟨_, rfl⟩
            obtain ⟨i0, hi, hz0, hz1, hz2⟩ := info_parts info_int
            have e2 : w8.cell? ⟨w.heap.size, 2, none⟩ = some (.string d0.S) := (HXw8.out.2.cell 2).trans (by rw [← HDD.out]; rfl)
            have e3 : w8.cell? ⟨w.heap.size, 3, none⟩ = some (.slice x0.m d0.M.length x0.cm) := (HXw8.out.2.cell 3).trans (by rw [← HDD.out]; rfl)
            have HE := Lib.hid (And.intro e2 e3)
            have HBL : Hid (w.heap.size < N) := Lib.hid (by rw [← hN]; exact HXw8.out.lt)
            have NLE : ∀ W, Below N w8 W → N ≤ W.heap.size := fun W hW => by rw [← hN]; exact hW.size
            have HIR : Hid (Da.IntRow w (Da.Lo w.heap.size) x0.m d0.M.length x0.cm d0.M) := Lib.hid (row_of HD.out)
            have HSRC : Hid ((x0.m = none → d0.M.length = 0 ∧ x0.cm = 0) ∧ ∀ W, Below N w8 W → ∀ b, x0.m = some b → ∀ j u, (zs d0.M)[j]? = some u → W.cell? (b.add j) = some u) := Lib.hid (by
              obtain ⟨_, r2, _, _, r5, _, r7⟩ := HIR.out
              refine ⟨fun e => by have := r5 e; omega, fun W hW b hb j u hu => ?_⟩
              have hj : j < d0.M.length := by
                have := (List.getElem?_eq_some_iff.1 hu).1
                rwa [zs_len] at this
              obtain ⟨b', off, h1, h2, h3⟩ := r7 j hj
              rw [hb] at h1
              obtain rfl := Option.some.inj h1
              rw [Ld.add_at]
              rw [zs_at _ j hj] at hu
              rw [← hu]
              have hbb : Below w.heap.size w W := HXw8.out.1.trans (hW.mono (Nat.le_of_lt HBL.out))
              exact (hbb.cell (p := ⟨b', off + j, none⟩) h2).trans h3)
            have HONE : Hid (∀ u ∈ zs d0.M, u.oneCell' = true) := Lib.hid (fun u hu => by
              unfold zs at hu
              obtain ⟨z, _, rfl⟩ := List.mem_map.1 hu
              rfl)
            have HML : Hid (d0.M.length ≤ 1000) := Lib.hid (by have := HL.out; omega)
            have HBD : Hid (d0.M.length + 1 ≤ maxLen ∧ (d0.M.length + 1) * 8 ≤ 140737488355328) := Lib.hid (by have := HL.out; unfold maxLen; omega)
            clear e2 e3
            refine Od.till_region 11 (fun _ : World => True) (fun W => Below N w8 W) 11 (by kernel_rfl) rfl ?_
            simp only [Array.replicate_succ, Array.replicate_zero, List.push_toArray, List.nil_append, List.cons_append]
            have hT0 : Below N w8 w8.drew := bel_drew0 _ _
            refine Od.Till.takeT (i := 0) (d := 77) (v := .pointer (some ⟨w.heap.size, 2, none⟩)) rfl rfl (by kernel_rfl) (by kernel_rfl) (by kernel_rfl) (by kernel_rfl) (fun _ _ _ h => h) (.inl ⟨by rfl, ?_⟩) trivial hT0 ?_
            · intro wx hSw
              clear hSw
              go_simp
            simp only [Act.put, List.setIfInBounds_toArray, List.set_cons_zero, List.set_cons_succ]
            refine Od.Till.takeT (i := 1) (d := 78) (v := .string d0.S) rfl rfl (by kernel_rfl) (by kernel_rfl) (by kernel_rfl) (by kernel_rfl) (fun _ _ _ h => h) (.inl ⟨by rfl, ?_⟩) trivial hT0 ?_
            · intro wx hSw
              have c2 := (hSw.cell (p := ⟨w.heap.size, 2, none⟩) HBL.out).trans HE.out.1
              go_simp
            simp only [Act.put, List.setIfInBounds_toArray, List.set_cons_zero, List.set_cons_succ]
            refine Od.Till.takeT (i := 2) (d := 79) (v := .pointer (some ⟨w.heap.size, 3, none⟩)) rfl rfl (by kernel_rfl) (by kernel_rfl) (by kernel_rfl) (by kernel_rfl) (fun _ _ _ h => h) (.inl ⟨by rfl, ?_⟩) trivial hT0 ?_
            · intro wx hSw
              clear hSw
              go_simp
            simp only [Act.put, List.setIfInBounds_toArray, List.set_cons_zero, List.set_cons_succ]
            refine Od.Till.takeT (i := 3) (d := 80) (v := .slice x0.m d0.M.length x0.cm) rfl rfl (by kernel_rfl) (by kernel_rfl) (by kernel_rfl) (by kernel_rfl) (fun _ _ _ h => h) (.inl ⟨by rfl, ?_⟩) trivial hT0 ?_
            · intro wx hSw
              have c3 := (hSw.cell (p := ⟨w.heap.size, 3, none⟩) HBL.out).trans HE.out.2
              go_simp
            simp only [Act.put, List.setIfInBounds_toArray, List.set_cons_zero, List.set_cons_succ]
            refine Od.Till.takeT (i := 5) (d := 82) (v := .int .i64 (mk : Int)) rfl rfl (by kernel_rfl) (by kernel_rfl) (by kernel_rfl) (by kernel_rfl) (fun _ _ _ h => h) (.inl ⟨by rfl, ?_⟩) trivial hT0 ?_
            · intro wx hSw
              clear hSw
              go_simp
            simp only [Act.put, List.setIfInBounds_toArray, List.set_cons_zero, List.set_cons_succ]
            refine Od.Till.meet 1 #[true, true, true, true, true, true, true, true, true, true, false] (fun a0 a W => ∃ v81 v83 v84 v16 : Value, a = (((((a0.put (some 81) v81).put (some 83) v83).put (some 84) v84).put (some 85) (.agg (symD d0.S v84))).put (some 16) v16) ∧ W.ownsRow N 3 1 v84 (d0.M.length + 1) (zs d0.M ++ [.int .i64 (mk : Int)]) ∧ R16 N W v16) ?_ (fun hs81 => ?_)
            · rintro a W ⟨v81, v83, v84, v16, rfl, h84, h16⟩ hT
              simp only [Act.put, List.setIfInBounds_toArray, List.set_cons_zero, List.set_cons_succ]
              refine Od.Till.one (i := 10) (by kernel_rfl) rfl (fun K hK => ?_)
              rw [if_pos (by kernel_rfl)]
              obtain ⟨va, vc, rfl⟩ := slice_of h84
              obtain ⟨q, rfl, hq, hNq⟩ := h16
              refine wp_store_row 33 (.tmp 16) (.tmp 85) rfl q (symD d0.S (.slice va (d0.M.length + 1) vc)) rfl rfl 33 datZ hq info_dt6 rfl (symD_one _ _ _ _) ?_
              show K ({ tmps := _, defers := [] } : Act) _
              have hTn : Below N w8 (W.setRow q (symD d0.S (.slice va (d0.M.length + 1) vc))) := bel_row hT _ _ hNq
              have hqn : Da.Blk (W.setRow q (symD d0.S (.slice va (d0.M.length + 1) vc))) q 33 (symD d0.S (.slice va (d0.M.length + 1) vc)) := setRow_heap _ _ datZ _ _ _ hq
              have h84n : (W.setRow q (symD d0.S (.slice va (d0.M.length + 1) vc))).ownsRow N 3 1 (.slice va (d0.M.length + 1) vc) (d0.M.length + 1) (zs d0.M ++ [.int .i64 (mk : Int)]) := ownsRow_same h84 (fun g hg => setRow_other _ _ _ _ (fun e => by
                subst e
                obtain ⟨cur, hc⟩ := own_row' h84 hg
                rw [show W.heap[_]? = _ from hq] at hc
                injection hc with hc
                injection hc with _ ht
                exact absurd ht (by decide)))
              refine hK.out _ _ ⟨fun _ => trivial, hTn⟩ ?_
              clear hK K
              generalize (W.setRow q (symD d0.S (.slice va (d0.M.length + 1) vc))) = w9 at hTn hqn h84n ⊢
              simp only [Act.put, List.setIfInBounds_toArray, List.set_cons_zero, List.set_cons_succ]
              refine Od.Till.done (by kernel_rfl) ?_
              have HXw9 := Lib.hid (HXw8.out.bel (show Below w8.heap.size w8 w9 by rw [hN]; exact hTn))
              have HTw9 := Lib.hid (HTw8.out.bel (show Below w8.heap.size w8 w9 by rw [hN]; exact hTn))
              have HYw9 := Lib.hid (show Da.Blk w9 w7.heap.size 49 (seenC z7) from (hTn.block _ (by rw [← hN]; exact (Array.getElem?_eq_some_iff.1 HYw8.out).1)).trans HYw8.out)
              have HQw9 : Hid (Da.Blk w9 q 33 (symD d0.S (.slice va (d0.M.length + 1) vc))) := Lib.hid hqn
              have hy0 : IsSym d0 := by
                obtain ⟨_, _, _, h, _⟩ := findE_zero HOK.out.pos HQ7.out.1
                exact h
              have hmkb : 1 ≤ (mk : Int) ∧ (mk : Int) ≤ 1048576 := by
                obtain ⟨_, _, _, h3⟩ := markE_zero HOK.out HF.out
                have h1 := HMK.out.2
                unfold markN at h1
                rw [if_pos HF.out] at h1
                omega
              have HMKB := Lib.hid hmkb
              have HDNw9 : Hid (Da.IsDt w9 (Da.Lo w9.heap.size) (withD d0 (mk : Int)) (.agg (symD d0.S (.slice va (d0.M.length + 1) vc)))) := Lib.hid (by
                have hl1 : (d0.M ++ [(mk : Int)]).length = d0.M.length + 1 := by rw [List.length_append]; rfl
                have hz1 : zs (d0.M ++ [(mk : Int)]) = zs d0.M ++ [.int .i64 (mk : Int)] := by unfold zs; rw [List.map_append]; rfl
                have hir := own_introw (N := N) (am := va) (cm := vc) (l := d0.M ++ [(mk : Int)]) (by rw [hl1, hz1]; exact h84n) (by rw [hl1]; have := HL.out; omega) (fun z hz => by
                  rcases List.mem_append.1 hz with h | h
                  · exact HIR.out.2.2.2.2.2.1 z h
                  · obtain rfl : z = (mk : Int) := by simpa using h
                    have := hmkb
                    simp [Lit.wf, IntKind.min, IntKind.max, IntKind.bits, IntKind.signed]
                    omega)
                have hd := dt_sym (s := d0.S) (m := d0.M ++ [(mk : Int)]) (by
                  obtain ⟨am, cm, al, cl, at_, ct, _, _, _, hs, _⟩ := HD.out.open_
                  exact hs) hir
                rw [hl1] at hd
                exact hd.more (fun b hb => hb.2))
              clear hT hTn hqn h84n h84 hq hNq hT0 hmkb
              have HSYM := Lib.hid (with_sym hy0 HL.out HMKB.out.1 HMKB.out.2)
              have HOK' := Lib.hid HTw9.out.ok
              clear hy0
              go_wp2_with fail
              refine (names_all tb T' _ o w9 HTw9.out).mono ?_
              rintro e w10 ⟨fv, rfl, hb10, hfv⟩
              have HXw10 := Lib.hid (HXw9.out.bel hb10)
              have HTw10 := Lib.hid (HTw9.out.bel hb10)
              have HYw10 := Lib.hid (show Da.Blk w10 w7.heap.size 49 (seenC z7) from (hb10.block _ (Array.getElem?_eq_some_iff.1 HYw9.out).1).trans HYw9.out)
              have HQw10 := Lib.hid (show Da.Blk w10 q 33 (symD d0.S (.slice va (d0.M.length + 1) vc)) from (hb10.block _ (Array.getElem?_eq_some_iff.1 HQw9.out).1).trans HQw9.out)
              have HDNw10 := Lib.hid (show Da.IsDt w10 (Da.Lo w10.heap.size) (withD d0 (mk : Int)) (.agg (symD d0.S (.slice va (d0.M.length + 1) vc))) from (HDNw9.out.below hb10).more (fun b h => Nat.lt_of_lt_of_le h hb10.size))
              
              clear hb10
              go_wp2_with fail
              refine (hfv.out 1048576 w10 (Nat.le_refl _) (Below.refl _ _)).mono ?_
              rintro e w11 ⟨ga, gc, ys, rfl, hys, hb11, hrow, hgood⟩
              have HXw11 := Lib.hid (HXw10.out.bel hb11)
              have HTw11 := Lib.hid (HTw10.out.bel hb11)
              have HYw11 := Lib.hid (show Da.Blk w11 w7.heap.size 49 (seenC z7) from (hb11.block _ (Array.getElem?_eq_some_iff.1 HYw10.out).1).trans HYw10.out)
              have HQw11 := Lib.hid (show Da.Blk w11 q 33 (symD d0.S (.slice va (d0.M.length + 1) vc)) from (hb11.block _ (Array.getElem?_eq_some_iff.1 HQw10.out).1).trans HQw10.out)
              have HDNw11 := Lib.hid (show Da.IsDt w11 (Da.Lo w11.heap.size) (withD d0 (mk : Int)) (.agg (symD d0.S (.slice va (d0.M.length + 1) vc))) from (HDNw10.out.below hb11).more (fun b h => Nat.lt_of_lt_of_le h hb11.size))
              
              have HROW := Lib.hid hrow
              have HGOOD := Lib.hid hgood
              have HYS := Lib.hid hys
              have HINO : Hid (∀ y : Nm, y ∈ ys → y.i < T'.rows.length) := Lib.hid (fun y hy => by
                have h1 : y.i ∈ (chainO T' o).take 1048576 := by rw [← hys]; exact List.mem_map_of_mem hy
                have h2 := List.mem_of_mem_take h1
                unfold chainO at h2
                split at h2
                · next h3 => exact (chain_lt HOK'.out _ (by omega) _ h2).2.2
                · cases h2)
              clear hb11 hfv hrow hgood hys
              go_wp2_with fail
              go_loopw [91] (fun i wr => ∃ k : Nat, k ≤ ys.length ∧ i = .int .i64 (k : Int) ∧ Below w11.heap.size w11 wr ∧ Hid (∀ (j : Nat) (y : Nm), j < k → ys[j]? = some y → T'.id y.i ≠ idn (withD d0 (mk : Int)))) (fun i _ => ys.length - (intOf i).toNat)
              case atStart => exact ⟨0, Nat.zero_le _, rfl, Below.refl _ _, Lib.hid (fun j y hj => absurd hj (Nat.not_lt_zero _))⟩
              case round =>
                obtain ⟨k, hk, rfl, hbel, htill⟩ := hrel
                have HXwr := Lib.hid (HXw11.out.bel hbel)
                have HTwr := Lib.hid (HTw11.out.bel hbel)
                have HYwr := Lib.hid (show Da.Blk wr w7.heap.size 49 (seenC z7) from (hbel.block _ (Array.getElem?_eq_some_iff.1 HYw11.out).1).trans HYw11.out)
                have HQwr := Lib.hid (show Da.Blk wr q 33 (symD d0.S (.slice va (d0.M.length + 1) vc)) from (hbel.block _ (Array.getElem?_eq_some_iff.1 HQw11.out).1).trans HQw11.out)
                have HDNwr := Lib.hid (show Da.IsDt wr (Da.Lo wr.heap.size) (withD d0 (mk : Int)) (.agg (symD d0.S (.slice va (d0.M.length + 1) vc))) from (HDNw11.out.below hbel).more (fun b h => Nat.lt_of_lt_of_le h hbel.size))
              
                have HBL2 := Lib.hid hbel
                by_cases hlt : k < ys.length
                · have dl : decide ((k : Int) < (ys.length : Int)) = true := decide_eq_true (by omega)
                  have i0' : (0 : Int) ≤ (k : Int) := Int.natCast_nonneg _
                  have i1' : (k : Int) < (ys.length : Int) := by omega
                  obtain ⟨y, hy⟩ : ∃ y, ys[k]? = some y := ⟨_, List.getElem?_eq_getElem hlt⟩
                  obtain ⟨g, rfl, hgl, _, hcell⟩ := row_cells HROW.out (by omega)
                  have g0 : wr.cell? ⟨g, k * 7, none⟩ = some (.int .i64 (y.i : Int)) := (hbel.cell (p := ⟨g, k * 7, none⟩) hgl).trans (hcell (k * 7 + 0) _ ((nmC_at T' ys k 0 y hy (by decide)).trans rfl))
                  have g1 : wr.cell? ⟨g, k * 7 + 1, none⟩ = some (.int .i64 5) := (hbel.cell (p := ⟨g, k * 7 + 1, none⟩) hgl).trans (hcell (k * 7 + 1) _ ((nmC_at T' ys k 1 y hy (by decide)).trans rfl))
                  have g2 : wr.cell? ⟨g, k * 7 + 2, none⟩ = some (.int .i64 0) := (hbel.cell (p := ⟨g, k * 7 + 2, none⟩) hgl).trans (hcell (k * 7 + 2) _ ((nmC_at T' ys k 2 y hy (by decide)).trans rfl))
                  have g3 : wr.cell? ⟨g, k * 7 + 3, none⟩ = some (.string ⟨(T'.id y.i).s.toArray⟩) := (hbel.cell (p := ⟨g, k * 7 + 3, none⟩) hgl).trans (hcell (k * 7 + 3) _ ((nmC_at T' ys k 3 y hy (by decide)).trans rfl))
                  have g4 : wr.cell? ⟨g, k * 7 + 4, none⟩ = some (.slice y.am (T'.id y.i).m.length y.cm) := (hbel.cell (p := ⟨g, k * 7 + 4, none⟩) hgl).trans (hcell (k * 7 + 4) _ ((nmC_at T' ys k 4 y hy (by decide)).trans rfl))
                  have g5 : wr.cell? ⟨g, k * 7 + 5, none⟩ = some (.slice none 0 0) := (hbel.cell (p := ⟨g, k * 7 + 5, none⟩) hgl).trans (hcell (k * 7 + 5) _ ((nmC_at T' ys k 5 y hy (by decide)).trans rfl))
                  have g6 : wr.cell? ⟨g, k * 7 + 6, none⟩ = some (.slice none 0 0) := (hbel.cell (p := ⟨g, k * 7 + 6, none⟩) hgl).trans (hcell (k * 7 + 6) _ ((nmC_at T' ys k 6 y hy (by decide)).trans rfl))
                  have HLT := Lib.hid (And.intro hlt hy)
                  have hlen : ys.length ≤ 1048576 := by
                    have h := congrArg List.length HYS.out
                    rw [List.length_map, List.length_take] at h
                    omega
                  clear hcell hlt hbel hy
                  go_upto_region 15 with (fail)
                  clear g0 g1 g2 g3 g4 g5 g6
                  generalize hV : (World.alloc wr _) = V
                  have hbV : Below wr.heap.size wr V := by rw [← hV]; exact (Below.refl _ _).alloc (Nat.le_refl _) _
                  have nV : Da.Blk V wr.heap.size 58 [.int .i64 (y.i : Int), .int .i64 5, .int .i64 0, .string ⟨(T'.id y.i).s.toArray⟩, .slice y.am (T'.id y.i).m.length y.cm, .slice none 0 0, .slice none 0 0].toArray := by rw [← hV]; exact heap_alloc_new wr _
                  have HXV := Lib.hid (HXwr.out.bel hbV)
                  have HTV := Lib.hid (HTwr.out.bel hbV)
                  have HYV := Lib.hid (show Da.Blk V w7.heap.size 49 (seenC z7) from (hbV.block _ (Array.getElem?_eq_some_iff.1 HYwr.out).1).trans HYwr.out)
                  have HQV := Lib.hid (show Da.Blk V q 33 (symD d0.S (.slice va (d0.M.length + 1) vc)) from (hbV.block _ (Array.getElem?_eq_some_iff.1 HQwr.out).1).trans HQwr.out)
                  have HDNV := Lib.hid (show Da.IsDt V (Da.Lo V.heap.size) (withD d0 (mk : Int)) (.agg (symD d0.S (.slice va (d0.M.length + 1) vc))) from (HDNwr.out.below hbV).more (fun b h => Nat.lt_of_lt_of_le h hbV.size))
              
                  have HBV := Lib.hid (HBL2.out.trans (hbV.mono HBL2.out.size))
                  have HGY : Hid (Da.IsDt V (Da.Lo V.heap.size) (dtI (T'.id y.i)) (.agg [.int .i64 5, .int .i64 0, .string ⟨(T'.id y.i).s.toArray⟩, .slice y.am (T'.id y.i).m.length y.cm, .slice none 0 0, .slice none 0 0].toArray)) := Lib.hid (dt_sym (by have := (HTw11.out.idOk y.i (HINO.out y (List.mem_of_getElem? HLT.out.2))).s; show (T'.id y.i).s.toArray.size ≤ _; rw [List.size_toArray]; unfold maxLen; omega) (introw_keep (HGOOD.out y (List.mem_of_getElem? HLT.out.2)) (fun b hb => Nat.lt_of_lt_of_le hb HBV.out.size) (fun b oo u hb hu => (HBV.out.cell (p := ⟨b, oo, none⟩) hb).trans hu)))
                  have HNV := Lib.hid (at_one nV)
                  clear hV hbV nV
                  go_wp2_with (first | (refine load_list (.tmp 16) 33 q 0 (symD d0.S (.slice va (d0.M.length + 1) vc)).toList _ rfl rfl rfl (Ld.At.of_blk HQV.out) Try.underlying33 rfl info_dt6 ?_) | (refine load_list (.tmp 95) 33 wr.heap.size 1 [.int .i64 5, .int .i64 0, .string ⟨(T'.id y.i).s.toArray⟩, .slice y.am (T'.id y.i).m.length y.cm, .slice none 0 0, .slice none 0 0] _ rfl rfl rfl HNV.out Try.underlying33 rfl info_dt6 ?_))
                  refine (Da.rsame_any (dtI (T'.id y.i)) (withD d0 (mk : Int)) _ _ V.heap.size V HGY.out HDNV.out (Nat.le_refl _)).mono ?_
                  rintro e V2 ⟨rfl, hb2⟩
                  have HXV2 := Lib.hid (HXV.out.bel hb2)
                  have HBV2 := Lib.hid (HBV.out.trans (hb2.mono HBV.out.size))
                  clear hb2
                  generalize hbs : ((Da.chk (dtI (T'.id y.i)) == 0) && Da.eqD (dtI (T'.id y.i)) (withD d0 (mk : Int))) = bs
                  have HBS := Lib.hid hbs
                  clear hbs
                  cases bs with
                  | true =>
                    go_wp2_with fail
                    go_ret
                    exact ⟨rfl, HXV2.out.1⟩
                  | false =>
                    go_wp2_with fail
                    go_roundw
                    case rel =>
                      refine ⟨k + 1, HLT.out.1, by go_num, HBV2.out, Lib.hid (fun j y' hj hy' => ?_)⟩
                      rcases Nat.lt_or_ge j k with h1 | h1
                      · exact htill.out j y' h1 hy'
                      · obtain rfl : j = k := by omega
                        rw [HLT.out.2] at hy'
                        obtain rfl := Option.some.inj hy'
                        intro he
                        have h2 := HBS.out
                        rw [with_of he, HSYM.out.2, Da.eqD_refl] at h2
                        cases h2
                    case measure => have := HLT.out.1; simp [intOf]; omega
                · have dl : decide ((k : Int) < (ys.length : Int)) = false := decide_eq_false (by omega)
                  obtain rfl : k = ys.length := by omega
                  have HN := Lib.hid (show ∀ i ∈ chainO T' o, T'.id i ≠ idn (withD d0 (mk : Int)) from fun i hi => by
                    have h1 := HYS.out
                    rw [List.take_of_length_le (chainO_len HOK'.out o)] at h1
                    rw [← h1] at hi
                    obtain ⟨y, hy, rfl⟩ := List.mem_map.1 hi
                    obtain ⟨j, hj, hj2⟩ := List.getElem_of_mem hy
                    exact htill.out j y hj (by rw [List.getElem?_eq_getElem hj, hj2]))
                  clear htill hbel hlt
                  go_wp2_with (refine load_list (.tmp 16) 33 q 0 (symD d0.S (.slice va (d0.M.length + 1) vc)).toList _ rfl rfl rfl (Ld.At.of_blk HQwr.out) Try.underlying33 rfl info_dt6 ?_)
                  refine (find_all tb T' _ o (withD d0 (mk : Int)) _ wr.heap.size wr HDNwr.out (Nat.le_refl _) HTwr.out).mono ?_
                  rintro e w12 ⟨rfl, hb12⟩
                  have HXw12 := Lib.hid (HXwr.out.bel hb12)
                  have HTw12 := Lib.hid (HTwr.out.bel hb12)
                  have HYw12 := Lib.hid (show Da.Blk w12 w7.heap.size 49 (seenC z7) from (hb12.block _ (Array.getElem?_eq_some_iff.1 HYwr.out).1).trans HYwr.out)
              
                  clear hb12
                  generalize hzq : findZ T' o (withD d0 (mk : Int)) = zq
                  generalize heq : findE T' o (withD d0 (mk : Int)) = eq
                  have HQQ := Lib.hid (And.intro hzq heq)
                  clear hzq heq
                  go_upto_region 19 with (refine wpList_store_row rfl 49 (.tmp 19) (.tmp 105) rfl w12.heap.size (seenC zq) rfl rfl 49 (seenC Seen.zero) (heap_alloc_new w12 _) info_seen rfl (seenC_one _) ?_)
                  generalize hXw13 : (World.setRow (World.alloc w12 _) w12.heap.size (seenC zq)) = w13
                  have hbw13 : Below w12.heap.size w12 w13 := by rw [← hXw13]; exact bel_row ((Below.refl _ _).alloc (Nat.le_refl _) _) _ _ (Nat.le_refl _)
                  have hzw13 : Da.Blk w13 w12.heap.size 49 (seenC zq) := by rw [← hXw13]; exact setRow_heap _ _ (seenC Seen.zero) _ _ _ (heap_alloc_new w12 _)
                  have HZw13 := Lib.hid hzw13
                  have HXw13 := Lib.hid (HXw12.out.bel hbw13)
                  have HTw13 := Lib.hid (HTw12.out.bel hbw13)
                  have HYw13 := Lib.hid (show Da.Blk w13 w7.heap.size 49 (seenC z7) from (hbw13.block _ (Array.getElem?_eq_some_iff.1 HYw12.out).1).trans HYw12.out)
                  clear hXw13 hbw13 hzw13
              
                  have HSZ : Hid (Calls Try.prog 20 #[.pointer (some ⟨tb, 0, none⟩)] w13 fun e w' => e = .returned (.tuple #[.int .i64 (T'.rows.length : Int), .int .i64 (T'.marks.length : Int)]) ∧ Below w13.heap.size w13 w') := Lib.hid (by
                    obtain ⟨vs, vm, bm, ht, _⟩ := HTw13.out
                    obtain ⟨ra, rc, rfl⟩ := slice_of ht.rows
                    obtain ⟨ma, mc, rfl⟩ := slice_of ht.marks
                    exact sizes_any tb ra ma T'.rows.length rc T'.marks.length mc w13 ((ht.blk.cell 0).trans rfl) ((ht.blk.cell 1).trans rfl) ht.ok.pos)
                  go_wp2_with fail
                  refine HSZ.out.mono ?_
                  rintro e w14 ⟨rfl, hb14⟩
                  have HXw14 := Lib.hid (HXw13.out.bel hb14)
                  have HTw14 := Lib.hid (HTw13.out.bel hb14)
                  have HYw14 := Lib.hid (show Da.Blk w14 w7.heap.size 49 (seenC z7) from (hb14.block _ (Array.getElem?_eq_some_iff.1 HYw13.out).1).trans HYw13.out)
                  have HZw14 := Lib.hid (show Da.Blk w14 w12.heap.size 49 (seenC zq) from (hb14.block _ (Array.getElem?_eq_some_iff.1 HZw13.out).1).trans HZw13.out)
              
                  clear hb14 HSZ
                  by_cases ho1 : o < 0
                  · have d1 : decide (o < 0) = true := decide_eq_true ho1
                    have he50 : eq = 50 := by rw [← HQQ.out.2]; exact marks_bad (T := T) HOK'.out.pos (.inl ho1)
                    subst he50
                    clear ho1
                    go_wp2_with fail
                    go_ret
                    exact ⟨rfl, HXw14.out.1⟩
                  · have d1 : decide (o < 0) = false := decide_eq_false ho1
                    by_cases ho2 : (T'.rows.length : Int) ≤ o
                    · have d2 : decide (o ≥ (T'.rows.length : Int)) = true := decide_eq_true ho2
                      have d3 : decide ((T'.rows.length : Int) ≤ o) = true := decide_eq_true ho2
                      have he50 : eq = 50 := by rw [← HQQ.out.2]; exact marks_bad (T := T) HOK'.out.pos (.inr ho2)
                      subst he50
                      clear ho1 ho2
                      go_wp2_with fail
                      go_ret
                      exact ⟨rfl, HXw14.out.1⟩
                    · have d2 : decide (o ≥ (T'.rows.length : Int)) = false := decide_eq_false ho2
                      have d3 : decide ((T'.rows.length : Int) ≤ o) = false := decide_eq_false ho2
                      have hfound := marks_found HOK.out HOK'.out HQ7.out.1 HF.out HMK.out.1 HMK.out.2 HL.out (by omega) (by omega) HN.out
                      rw [HQQ.out.1, HQQ.out.2, HQ7.out.2] at hfound
                      obtain ⟨rfl, rfl⟩ := hfound
                      have q0 : w14.cell? ⟨w12.heap.size, 0, none⟩ = some (.int .i64 (zq.scope : Int)) := (HZw14.out.cell 0).trans rfl
                      have q1 : w14.cell? ⟨w12.heap.size, 1, none⟩ = some (.int .i64 zq.what) := (HZw14.out.cell 1).trans rfl
                      have q2 : w14.cell? ⟨w12.heap.size, 2, none⟩ = some (.string ⟨zq.name.toArray⟩) := (HZw14.out.cell 2).trans rfl
                      have p0 : w14.cell? ⟨w7.heap.size, 0, none⟩ = some (.int .i64 (zq.scope : Int)) := (HYw14.out.cell 0).trans rfl
                      have p1 : w14.cell? ⟨w7.heap.size, 1, none⟩ = some (.int .i64 zq.what) := (HYw14.out.cell 1).trans rfl
                      have p2 : w14.cell? ⟨w7.heap.size, 2, none⟩ = some (.string ⟨zq.name.toArray⟩) := (HYw14.out.cell 2).trans rfl
                      have hes : ∀ w, (binOp BinOp.eql 49 (.agg #[.int .i64 (zq.scope : Int), .int .i64 zq.what, .string ⟨zq.name.toArray⟩]) (.agg #[.int .i64 (zq.scope : Int), .int .i64 zq.what, .string ⟨zq.name.toArray⟩])).run Try.prog w = .ok (.bool true) w := fun w => by have h := eq_seen zq zq w; rwa [(Seen.same_iff zq zq).2 rfl] at h
                      have hgd : ∀ w, (eqGuard BinOp.eql 49 (.tmp 124) (.tmp 125) (.agg #[.int .i64 (zq.scope : Int), .int .i64 zq.what, .string ⟨zq.name.toArray⟩]) (.agg #[.int .i64 (zq.scope : Int), .int .i64 zq.what, .string ⟨zq.name.toArray⟩])).run Try.prog w = .ok () w := guard_seen _ _ _ zq zq
                      clear ho1 ho2
                      go_wp2_with fail
                      go_ret
                      exact ⟨rfl, HXw14.out.1⟩
            refine Od.Till.meet 2 #[true, true, true, true, true, true, true, true, true, false, false] (fun a0 a W => ∃ v81 v83 v84 : Value, a = ((((a0.put (some 81) v81).put (some 83) v83).put (some 84) v84).put (some 85) (.agg (symD d0.S v84))) ∧ W.ownsRow N 3 1 v84 (d0.M.length + 1) (zs d0.M ++ [.int .i64 (mk : Int)])) ?_ (fun hs80 => ?_)
            · rintro a W ⟨v81, v83, v84, rfl, h84⟩ hT
              simp only [Act.put, List.setIfInBounds_toArray, List.set_cons_zero, List.set_cons_succ]
              refine Od.Till.one (i := 9) (by kernel_rfl) rfl (fun K hK => ?_)
              rw [if_pos (by kernel_rfl)]
              refine wp_alD rfl ?_
              have hbn : Below W.heap.size W (W.alloc (.cells datZ 33)) := (Below.refl _ _).alloc (Nat.le_refl _) _
              have hTn : Below N w8 (W.alloc (.cells datZ 33)) := hT.trans (hbn.mono (NLE W hT))
              have hnew : R16 N (W.alloc (.cells datZ 33)) (.pointer (some ⟨W.heap.size, 0, none⟩)) := ⟨W.heap.size, rfl, heap_alloc_new W _, NLE W hT⟩
              refine hK.out _ _ ⟨fun _ => trivial, hTn⟩ ?_
              clear hK K
              exact hs81 _ _ ⟨_, _, _, _, rfl, (ownsRow_same h84 (fun g hg => hbn.block g (h84.lt g hg).2)), hnew⟩ hTn
            refine Od.Till.meet 2 #[true, true, true, true, true, true, true, true, false, true, false] (fun a0 a W => ∃ v81 v83 v84 v16 : Value, a = ((((a0.put (some 81) v81).put (some 83) v83).put (some 84) v84).put (some 16) v16) ∧ W.ownsRow N 3 1 v84 (d0.M.length + 1) (zs d0.M ++ [.int .i64 (mk : Int)]) ∧ R16 N W v16) ?_ (fun hs71 => ?_)
            · rintro a W ⟨v81, v83, v84, v16, rfl, h84, h16⟩ hT
              simp only [Act.put, List.setIfInBounds_toArray, List.set_cons_zero, List.set_cons_succ]
              refine Od.Till.one (i := 8) (by kernel_rfl) rfl (fun K hK => ?_)
              rw [if_pos (by kernel_rfl)]
              obtain ⟨va, vc, rfl⟩ := slice_of h84
              go_simp
              refine (sym_any d0.S va (d0.M.length + 1) vc W).mono ?_
              rintro e W' ⟨rfl, hbn⟩
              have hTn : Below N w8 W' := hT.trans (hbn.mono (NLE W hT))
              refine hK.out _ _ ⟨fun _ => trivial, hTn⟩ ?_
              clear hK K
              exact hs81 _ _ ⟨_, _, _, _, rfl, (ownsRow_same h84 (fun g hg => hbn.block g (h84.lt g hg).2)), (h16.bel hbn)⟩ hTn
            refine Od.Till.meet 3 #[true, true, true, true, true, true, true, true, false, false, false] (fun a0 a W => ∃ v81 v83 v84 : Value, a = (((a0.put (some 81) v81).put (some 83) v83).put (some 84) v84) ∧ W.ownsRow N 3 1 v84 (d0.M.length + 1) (zs d0.M ++ [.int .i64 (mk : Int)])) ?_ (fun hs70 => ?_)
            · rintro a W ⟨v81, v83, v84, rfl, h84⟩ hT
              simp only [Act.put, List.setIfInBounds_toArray, List.set_cons_zero, List.set_cons_succ]
              refine Od.Till.either (i := 8) (j := 9) (by kernel_rfl) rfl rfl (fun K hK => ?_) (fun K hK => ?_)
              · rw [if_pos (by kernel_rfl)]
                obtain ⟨va, vc, rfl⟩ := slice_of h84
                go_simp
                refine (sym_any d0.S va (d0.M.length + 1) vc W).mono ?_
                rintro e W' ⟨rfl, hbn⟩
                have hTn : Below N w8 W' := hT.trans (hbn.mono (NLE W hT))
                refine hK.out _ _ ⟨fun _ => trivial, hTn⟩ ?_
                clear hK K
                exact hs80 _ _ ⟨_, _, _, rfl, (ownsRow_same h84 (fun g hg => hbn.block g (h84.lt g hg).2))⟩ hTn
              · rw [if_pos (by kernel_rfl)]
                refine wp_alD rfl ?_
                have hbn : Below W.heap.size W (W.alloc (.cells datZ 33)) := (Below.refl _ _).alloc (Nat.le_refl _) _
                have hTn : Below N w8 (W.alloc (.cells datZ 33)) := hT.trans (hbn.mono (NLE W hT))
                have hnew : R16 N (W.alloc (.cells datZ 33)) (.pointer (some ⟨W.heap.size, 0, none⟩)) := ⟨W.heap.size, rfl, heap_alloc_new W _, NLE W hT⟩
                refine hK.out _ _ ⟨fun _ => trivial, hTn⟩ ?_
                clear hK K
                exact hs71 _ _ ⟨_, _, _, _, rfl, (ownsRow_same h84 (fun g hg => hbn.block g (h84.lt g hg).2)), hnew⟩ hTn
            refine Od.Till.meet 3 #[true, true, true, true, true, true, true, false, false, true, false] (fun a0 a W => ∃ v81 v83 v16 : Value, a = (((a0.put (some 81) v81).put (some 83) v83).put (some 16) v16) ∧ R81 N d0.M W v81 ∧ R83 (mk : Int) W v83 ∧ R16 N W v16) ?_ (fun hs461 => ?_)
            · rintro a W ⟨v81, v83, v16, rfl, h81, h83, h16⟩ hT
              simp only [Act.put, List.setIfInBounds_toArray, List.set_cons_zero, List.set_cons_succ]
              refine Od.Till.one (i := 7) (by kernel_rfl) rfl (fun K hK => ?_)
              rw [if_pos (by kernel_rfl)]
              obtain ⟨p83, rfl, c83, l83⟩ := h83
              refine wp_append_at W (.tmp 81) (.tmp 83) 30 rfl N 3 i0 _ 1 8 Try.underlying30 hi hz0 hz1 hz2 rfl (Nat.zero_lt_one) v81 d0.M.length (zs d0.M) rfl h81 ⟨p83, 0, none⟩ 1 1 [.int .i64 (mk : Int)] rfl rfl (fun j u hu => by
                rw [Ld.add_at, Nat.zero_add]
                rcases j with _ | j
                · obtain rfl : Value.int .i64 (mk : Int) = u := by simpa using hu
                  exact c83
                · simp at hu) (fun u hu => by
                obtain rfl : u = .int .i64 (mk : Int) := by simpa using hu
                rfl) HBD.out.1 HBD.out.2 (NLE W hT) ?_
              intro v' W' hown hg _
              have hTn : Below N w8 W' := hT.trans (below_grown h81 hg (Nat.le_refl _) (NLE W hT))
              refine hK.out _ _ ⟨fun _ => trivial, hTn⟩ ?_
              clear hK K
              exact hs71 _ _ ⟨_, _, _, _, rfl, hown, (h16.app h81 hg)⟩ hTn
            refine Od.Till.meet 4 #[true, true, true, true, true, true, true, false, false, false, false] (fun a0 a W => ∃ v81 v83 : Value, a = ((a0.put (some 81) v81).put (some 83) v83) ∧ R81 N d0.M W v81 ∧ R83 (mk : Int) W v83) ?_ (fun hs460 => ?_)
            · rintro a W ⟨v81, v83, rfl, h81, h83⟩ hT
              simp only [Act.put, List.setIfInBounds_toArray, List.set_cons_zero, List.set_cons_succ]
              refine Od.Till.either (i := 7) (j := 9) (by kernel_rfl) rfl rfl (fun K hK => ?_) (fun K hK => ?_)
              · rw [if_pos (by kernel_rfl)]
                obtain ⟨p83, rfl, c83, l83⟩ := h83
                refine wp_append_at W (.tmp 81) (.tmp 83) 30 rfl N 3 i0 _ 1 8 Try.underlying30 hi hz0 hz1 hz2 rfl (Nat.zero_lt_one) v81 d0.M.length (zs d0.M) rfl h81 ⟨p83, 0, none⟩ 1 1 [.int .i64 (mk : Int)] rfl rfl (fun j u hu => by
                  rw [Ld.add_at, Nat.zero_add]
                  rcases j with _ | j
                  · obtain rfl : Value.int .i64 (mk : Int) = u := by simpa using hu
                    exact c83
                  · simp at hu) (fun u hu => by
                  obtain rfl : u = .int .i64 (mk : Int) := by simpa using hu
                  rfl) HBD.out.1 HBD.out.2 (NLE W hT) ?_
                intro v' W' hown hg _
                have hTn : Below N w8 W' := hT.trans (below_grown h81 hg (Nat.le_refl _) (NLE W hT))
                refine hK.out _ _ ⟨fun _ => trivial, hTn⟩ ?_
                clear hK K
                exact hs70 _ _ ⟨_, _, _, rfl, hown⟩ hTn
              · rw [if_pos (by kernel_rfl)]
                refine wp_alD rfl ?_
                have hbn : Below W.heap.size W (W.alloc (.cells datZ 33)) := (Below.refl _ _).alloc (Nat.le_refl _) _
                have hTn : Below N w8 (W.alloc (.cells datZ 33)) := hT.trans (hbn.mono (NLE W hT))
                have hnew : R16 N (W.alloc (.cells datZ 33)) (.pointer (some ⟨W.heap.size, 0, none⟩)) := ⟨W.heap.size, rfl, heap_alloc_new W _, NLE W hT⟩
                refine hK.out _ _ ⟨fun _ => trivial, hTn⟩ ?_
                clear hK K
                exact hs461 _ _ ⟨_, _, _, rfl, (h81.bel hbn), (h83.bel hbn), hnew⟩ hTn
            refine Od.Till.meet 4 #[true, true, true, true, true, true, false, false, false, true, false] (fun a0 a W => ∃ v81 v16 : Value, a = ((a0.put (some 81) v81).put (some 16) v16) ∧ R81 N d0.M W v81 ∧ R16 N W v16) ?_ (fun hs41 => ?_)
            · rintro a W ⟨v81, v16, rfl, h81, h16⟩ hT
              simp only [Act.put, List.setIfInBounds_toArray, List.set_cons_zero, List.set_cons_succ]
              refine Od.Till.one (i := 6) (by kernel_rfl) rfl (fun K hK => ?_)
              rw [if_pos (by kernel_rfl)]
              refine wp_bsi (.tmp 82) (mk : Int) rfl rfl ?_
              have hbn : Below W.heap.size W (W.alloc (.cells #[.int .i64 (mk : Int)] 3)) := (Below.refl _ _).alloc (Nat.le_refl _) _
              have hTn : Below N w8 (W.alloc (.cells #[.int .i64 (mk : Int)] 3)) := hT.trans (hbn.mono (NLE W hT))
              have hnew : R83 (mk : Int) (W.alloc (.cells #[.int .i64 (mk : Int)] 3)) (.slice (some ⟨W.heap.size, 0, none⟩) 1 1) := ⟨W.heap.size, rfl, by rw [cell_of_row _ _ _ _ _ _ (heap_alloc_new W _)]; rfl, by simp⟩
              refine hK.out _ _ ⟨fun _ => trivial, hTn⟩ ?_
              clear hK K
              exact hs461 _ _ ⟨_, _, _, rfl, (h81.bel hbn), hnew, (h16.bel hbn)⟩ hTn
            refine Od.Till.meet 5 #[true, true, true, true, true, true, false, false, false, false, false] (fun a0 a W => ∃ v81 : Value, a = (a0.put (some 81) v81) ∧ R81 N d0.M W v81) ?_ (fun hs40 => ?_)
            · rintro a W ⟨v81, rfl, h81⟩ hT
              simp only [Act.put, List.setIfInBounds_toArray, List.set_cons_zero, List.set_cons_succ]
              refine Od.Till.either (i := 6) (j := 9) (by kernel_rfl) rfl rfl (fun K hK => ?_) (fun K hK => ?_)
              · rw [if_pos (by kernel_rfl)]
                refine wp_bsi (.tmp 82) (mk : Int) rfl rfl ?_
                have hbn : Below W.heap.size W (W.alloc (.cells #[.int .i64 (mk : Int)] 3)) := (Below.refl _ _).alloc (Nat.le_refl _) _
                have hTn : Below N w8 (W.alloc (.cells #[.int .i64 (mk : Int)] 3)) := hT.trans (hbn.mono (NLE W hT))
                have hnew : R83 (mk : Int) (W.alloc (.cells #[.int .i64 (mk : Int)] 3)) (.slice (some ⟨W.heap.size, 0, none⟩) 1 1) := ⟨W.heap.size, rfl, by rw [cell_of_row _ _ _ _ _ _ (heap_alloc_new W _)]; rfl, by simp⟩
                refine hK.out _ _ ⟨fun _ => trivial, hTn⟩ ?_
                clear hK K
                exact hs460 _ _ ⟨_, _, rfl, (h81.bel hbn), hnew⟩ hTn
              · rw [if_pos (by kernel_rfl)]
                refine wp_alD rfl ?_
                have hbn : Below W.heap.size W (W.alloc (.cells datZ 33)) := (Below.refl _ _).alloc (Nat.le_refl _) _
                have hTn : Below N w8 (W.alloc (.cells datZ 33)) := hT.trans (hbn.mono (NLE W hT))
                have hnew : R16 N (W.alloc (.cells datZ 33)) (.pointer (some ⟨W.heap.size, 0, none⟩)) := ⟨W.heap.size, rfl, heap_alloc_new W _, NLE W hT⟩
                refine hK.out _ _ ⟨fun _ => trivial, hTn⟩ ?_
                clear hK K
                exact hs41 _ _ ⟨_, _, rfl, (h81.bel hbn), hnew⟩ hTn
            refine Od.Till.meet 4 #[true, true, true, true, false, true, true, false, false, true, false] (fun a0 a W => ∃ v83 v16 : Value, a = ((a0.put (some 83) v83).put (some 16) v16) ∧ R83 (mk : Int) W v83 ∧ R16 N W v16) ?_ (fun hs61 => ?_)
            · rintro a W ⟨v83, v16, rfl, h83, h16⟩ hT
              simp only [Act.put, List.setIfInBounds_toArray, List.set_cons_zero, List.set_cons_succ]
              refine Od.Till.one (i := 4) (by kernel_rfl) rfl (fun K hK => ?_)
              rw [if_pos (by kernel_rfl)]
              refine wp_firsti N (.tmp 80) rfl x0.m d0.M.length x0.cm (zs d0.M) rfl HSRC.out.1 (by rw [zs_len, Nat.mul_one]) (HSRC.out.2 W hT) (HONE.out) HML.out (NLE W hT) ?_
              intro v' W' hown hg
              have hbn := bel_none hg
              have hTn : Below N w8 W' := hT.trans (hbn.mono (NLE W hT))
              refine hK.out _ _ ⟨fun _ => trivial, hTn⟩ ?_
              clear hK K
              exact hs461 _ _ ⟨_, _, _, rfl, hown, (h83.bel hbn), (h16.bel hbn)⟩ hTn
            refine Od.Till.meet 5 #[true, true, true, true, false, true, true, false, false, false, false] (fun a0 a W => ∃ v83 : Value, a = (a0.put (some 83) v83) ∧ R83 (mk : Int) W v83) ?_ (fun hs60 => ?_)
            · rintro a W ⟨v83, rfl, h83⟩ hT
              simp only [Act.put, List.setIfInBounds_toArray, List.set_cons_zero, List.set_cons_succ]
              refine Od.Till.either (i := 4) (j := 9) (by kernel_rfl) rfl rfl (fun K hK => ?_) (fun K hK => ?_)
              · rw [if_pos (by kernel_rfl)]
                refine wp_firsti N (.tmp 80) rfl x0.m d0.M.length x0.cm (zs d0.M) rfl HSRC.out.1 (by rw [zs_len, Nat.mul_one]) (HSRC.out.2 W hT) (HONE.out) HML.out (NLE W hT) ?_
                intro v' W' hown hg
                have hbn := bel_none hg
                have hTn : Below N w8 W' := hT.trans (hbn.mono (NLE W hT))
                refine hK.out _ _ ⟨fun _ => trivial, hTn⟩ ?_
                clear hK K
                exact hs460 _ _ ⟨_, _, rfl, hown, (h83.bel hbn)⟩ hTn
              · rw [if_pos (by kernel_rfl)]
                refine wp_alD rfl ?_
                have hbn : Below W.heap.size W (W.alloc (.cells datZ 33)) := (Below.refl _ _).alloc (Nat.le_refl _) _
                have hTn : Below N w8 (W.alloc (.cells datZ 33)) := hT.trans (hbn.mono (NLE W hT))
                have hnew : R16 N (W.alloc (.cells datZ 33)) (.pointer (some ⟨W.heap.size, 0, none⟩)) := ⟨W.heap.size, rfl, heap_alloc_new W _, NLE W hT⟩
                refine hK.out _ _ ⟨fun _ => trivial, hTn⟩ ?_
                clear hK K
                exact hs61 _ _ ⟨_, _, rfl, (h83.bel hbn), hnew⟩ hTn
            refine Od.Till.meet 5 #[true, true, true, true, false, true, false, false, false, true, false] (fun a0 a W => ∃ v16 : Value, a = (a0.put (some 16) v16) ∧ R16 N W v16) ?_ (fun hs01 => ?_)
            · rintro a W ⟨v16, rfl, h16⟩ hT
              simp only [Act.put, List.setIfInBounds_toArray, List.set_cons_zero, List.set_cons_succ]
              refine Od.Till.either (i := 4) (j := 6) (by kernel_rfl) rfl rfl (fun K hK => ?_) (fun K hK => ?_)
              · rw [if_pos (by kernel_rfl)]
                refine wp_firsti N (.tmp 80) rfl x0.m d0.M.length x0.cm (zs d0.M) rfl HSRC.out.1 (by rw [zs_len, Nat.mul_one]) (HSRC.out.2 W hT) (HONE.out) HML.out (NLE W hT) ?_
                intro v' W' hown hg
                have hbn := bel_none hg
                have hTn : Below N w8 W' := hT.trans (hbn.mono (NLE W hT))
                refine hK.out _ _ ⟨fun _ => trivial, hTn⟩ ?_
                clear hK K
                exact hs41 _ _ ⟨_, _, rfl, hown, (h16.bel hbn)⟩ hTn
              · rw [if_pos (by kernel_rfl)]
                refine wp_bsi (.tmp 82) (mk : Int) rfl rfl ?_
                have hbn : Below W.heap.size W (W.alloc (.cells #[.int .i64 (mk : Int)] 3)) := (Below.refl _ _).alloc (Nat.le_refl _) _
                have hTn : Below N w8 (W.alloc (.cells #[.int .i64 (mk : Int)] 3)) := hT.trans (hbn.mono (NLE W hT))
                have hnew : R83 (mk : Int) (W.alloc (.cells #[.int .i64 (mk : Int)] 3)) (.slice (some ⟨W.heap.size, 0, none⟩) 1 1) := ⟨W.heap.size, rfl, by rw [cell_of_row _ _ _ _ _ _ (heap_alloc_new W _)]; rfl, by simp⟩
                refine hK.out _ _ ⟨fun _ => trivial, hTn⟩ ?_
                clear hK K
                exact hs61 _ _ ⟨_, _, rfl, hnew, (h16.bel hbn)⟩ hTn
            have hT : Below N w8 w8.drew := hT0
            clear hT0
            generalize w8.drew = W at hT ⊢
            refine Od.Till.three (i := 4) (j := 6) (k := 9) (by kernel_rfl) rfl rfl rfl (fun K hK => ?_) (fun K hK => ?_) (fun K hK => ?_)
            · rw [if_pos (by kernel_rfl)]
              refine wp_firsti N (.tmp 80) rfl x0.m d0.M.length x0.cm (zs d0.M) rfl HSRC.out.1 (by rw [zs_len, Nat.mul_one]) (HSRC.out.2 W hT) (HONE.out) HML.out (NLE W hT) ?_
              intro v' W' hown hg
              have hbn := bel_none hg
              have hTn : Below N w8 W' := hT.trans (hbn.mono (NLE W hT))
              refine hK.out _ _ ⟨fun _ => trivial, hTn⟩ ?_
              clear hK K
              exact hs40 _ _ ⟨_, rfl, hown⟩ hTn
            · rw [if_pos (by kernel_rfl)]
              refine wp_bsi (.tmp 82) (mk : Int) rfl rfl ?_
              have hbn : Below W.heap.size W (W.alloc (.cells #[.int .i64 (mk : Int)] 3)) := (Below.refl _ _).alloc (Nat.le_refl _) _
              have hTn : Below N w8 (W.alloc (.cells #[.int .i64 (mk : Int)] 3)) := hT.trans (hbn.mono (NLE W hT))
              have hnew : R83 (mk : Int) (W.alloc (.cells #[.int .i64 (mk : Int)] 3)) (.slice (some ⟨W.heap.size, 0, none⟩) 1 1) := ⟨W.heap.size, rfl, by rw [cell_of_row _ _ _ _ _ _ (heap_alloc_new W _)]; rfl, by simp⟩
              refine hK.out _ _ ⟨fun _ => trivial, hTn⟩ ?_
              clear hK K
              exact hs60 _ _ ⟨_, rfl, hnew⟩ hTn
            · rw [if_pos (by kernel_rfl)]
              refine wp_alD rfl ?_
              have hbn : Below W.heap.size W (W.alloc (.cells datZ 33)) := (Below.refl _ _).alloc (Nat.le_refl _) _
              have hTn : Below N w8 (W.alloc (.cells datZ 33)) := hT.trans (hbn.mono (NLE W hT))
              have hnew : R16 N (W.alloc (.cells datZ 33)) (.pointer (some ⟨W.heap.size, 0, none⟩)) := ⟨W.heap.size, rfl, heap_alloc_new W _, NLE W hT⟩
              refine hK.out _ _ ⟨fun _ => trivial, hTn⟩ ?_
              clear hK K
              exact hs01 _ _ ⟨_, rfl, hnew⟩ hTn
    
          · have d1 : decide ((d0.M.length : Int) ≥ 16) = true := decide_eq_true (by omega)
            have d2 : decide (16 ≤ d0.M.length) = true := decide_eq_true (by omega)
            have d3 : decide ((16 : Int) ≤ (d0.M.length : Int)) = true := decide_eq_true (by omega)
            clear hl
            go_wp2_with fail
            go_ret
            exact ⟨rfl, HXw8.out.1⟩
        · have d1 : (e7 != 0) = true := by rw [bne_iff_ne]; exact he
          have d2 : (e7 == 0) = false := by rw [beq_eq_false_iff_ne]; exact he
          clear he e3
          go_wp2_with fail
          go_ret
          exact ⟨rfl, HXw8.out.1⟩
      · have d9 : (markE T s != 0) = true := by rw [bne_iff_ne]; exact hf
        have d9' : (markE T s == 0) = false := by rw [beq_eq_false_iff_ne]; exact hf
        clear hf e3
        generalize markE T s = f9 at d9 d9'
        go_wp2_with fail
        go_ret
        exact ⟨rfl, HXw8.out.1⟩
  refine Od.Till.either (i := 5) (j := 8) (by kernel_rfl) rfl rfl (fun K hK => ?_) (fun K hK => ?_)
  · rw [if_pos (by kernel_rfl)]
    refine wp_firsto (w.heap.size + 1) (.tmp 28) rfl a m c cs.flatten rfl K1.out.2.1 K1.out.1 (K1.out.2.2 X hT0.1) HCS.out.one (Nat.le_trans hm50 (of_decide_eq_true rfl)) hT0.lt ?_
    intro v1 w1 hown1 hg1
    obtain ⟨va, vc, rfl⟩ := slice_of hown1
    have hb1 : Below X.heap.size X w1 := bel_none hg1
    have hT1 := hT0.bel hb1
    have ROW1 : RowOps w1 (w.heap.size + 1) w.heap.size (.slice va m vc) L1 := ⟨cs, by rw [HLM.out]; exact hown1, HCS.out.low hT1.1⟩
    refine hK.out _ _ ⟨fun _ => trivial, hT1⟩ ?_
    clear hK K hown1 hg1 hb1
    simp only [Act.put, List.setIfInBounds_toArray, List.set_cons_zero, List.set_cons_succ]
    refine Od.Till.one (i := 8) (by kernel_rfl) rfl (fun K hK => ?_)
    rw [if_pos (by kernel_rfl)]
    refine wp_bslPuti (.tmp 31) d0 x0 rfl rfl ?_
    have hbA : Below w1.heap.size w1 (w1.alloc (.cells (opL (putI d0) x0 sxNo).toArray 35)) := (Below.refl _ _).alloc (Nat.le_refl _) _
    have hT2 := hT1.bel hbA
    have ROW2 := ROW1.bel (Nat.le_trans (Nat.le_add_right _ 1) hT1.lt) hbA
    refine hK.out _ _ ⟨fun _ => trivial, hT2⟩ ?_
    exact hs58 _ _ ⟨va, vc, w1.heap.size, rfl, ROW2, fun j u hu => by
      rw [Ld.add_at, Nat.zero_add, cell_of_row _ _ _ _ _ _ (heap_alloc_new w1 _)]
      simpa using hu⟩ hT2
  · rw [if_pos (by kernel_rfl)]
    refine wp_bslPuti (.tmp 31) d0 x0 rfl rfl ?_
    have hbA : Below X.heap.size X (X.alloc (.cells (opL (putI d0) x0 sxNo).toArray 35)) := (Below.refl _ _).alloc (Nat.le_refl _) _
    have hX1 : Da.Blk (X.alloc (.cells (opL (putI d0) x0 sxNo).toArray 35)) X.heap.size 35 (opL (putI d0) x0 sxNo).toArray := one_new X _ _
    have hT1 := hT0.bel hbA
    obtain ⟨p, hp⟩ : ∃ p, X.heap.size = p := ⟨_, rfl⟩
    rw [hp] at hX1 ⊢
    clear hbA
    generalize (X.alloc (.cells (opL (putI d0) x0 sxNo).toArray 35)) = w1 at hX1 hT1 ⊢
    refine hK.out _ _ ⟨fun _ => trivial, hT1⟩ ?_
    clear hK K
    simp only [Act.put, List.setIfInBounds_toArray, List.set_cons_zero, List.set_cons_succ]
    refine Od.Till.one (i := 5) (by kernel_rfl) rfl (fun K hK => ?_)
    rw [if_pos (by kernel_rfl)]
    refine wp_firsto (w.heap.size + 1) (.tmp 28) rfl a m c cs.flatten rfl K1.out.2.1 K1.out.1 (K1.out.2.2 w1 hT1.1) HCS.out.one (Nat.le_trans hm50 (of_decide_eq_true rfl)) hT1.lt ?_
    intro v1 w2 hown1 hg1
    obtain ⟨va, vc, rfl⟩ := slice_of hown1
    have hb1 : Below w1.heap.size w1 w2 := bel_none hg1
    have hT2 := hT1.bel hb1
    have ROW2 : RowOps w2 (w.heap.size + 1) w.heap.size (.slice va m vc) L1 := ⟨cs, by rw [HLM.out]; exact hown1, HCS.out.low hT2.1⟩
    refine hK.out _ _ ⟨fun _ => trivial, hT2⟩ ?_
    exact hs58 _ _ ⟨va, vc, p, rfl, ROW2, fun j u hu => by
      rw [Ld.add_at, Nat.zero_add, cell_of_row _ _ _ _ _ _ ((hb1.block _ (Array.getElem?_eq_some_iff.1 hX1).1).trans hX1)]
      simpa using hu⟩ hT2
end Go.Proofs.Ytapnighankepjaa.Sc
end
