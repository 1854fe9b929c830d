/- P5.?: tables do what the document says: the walk. -/
import Derived.Test.YtapnighankepjaaMG0
import Derived.Test.YtapnighankepjaaMG1
import Derived.Maps.OwnIn
import Derived.Maps.AppendAt
import Derived.Test.YtapnighankepjaaDatRWalk
import Derived.Test.YtapnighankepjaaDatRSame
import Derived.Shelf.SlicesE.Clone
import Derived.Shelf.SlMaps.Clone
import Derived.Test.YtapnighankepjaaOrd
section
namespace Go.Proofs.Ytapnighankepjaa.Sc
open Go.ChangeShapes Go.WideShapes Go.ChangeAt Go.RowKit
set_option linter.unusedVariables false
set_option linter.unusedSimpArgs false

/-- The datum of an identifier. -/
def dtI (x : Idn) : Da.Dt := .mk 5 0 ⟨x.s.toArray⟩ x.m [] []
def datZ : Array Value := #[.int .i64 0, .int .i64 0, .string ⟨#[]⟩, .slice none 0 0, .slice none 0 0, .slice none 0 0]
theorem info_dt6 : (Try.prog.info? 33).map (·.size) = some 6 := by kernel_rfl
theorem run_arr (b m : Nat) (h : m ≤ 16) (w : World) : (Instr.sliceAt 73 (.pointer (some ⟨b, 1, none⟩)) none (some (.int .i64 (m : Int))) none).run Try.prog w = .ok (.slice (some ⟨b, 1, none⟩) m 16) w := by
  have hb : (Instr.sliceBound (.int .i64 (m : Int)) 16 .sliceAlen).run Try.prog w = .ok m w := by
    have := run_sliceBound (P := Try.prog) w .i64 (m : Int) 16 .sliceAlen (by omega) (by omega)
    simpa using this
  have hs : (sizeOf 21).run Try.prog w = .ok 1 w := by kernel_rfl
  simp [Instr.sliceAt, Instr.sureAddr, run_underlying Try.underlying73, Instr.sliceBounds, Sem.run_bind, hb, hs, go_sem]
  try (split <;> simp [Addr.add])
def zs (l : List Int) : List Value := l.map (fun z => Value.int .i64 z)
theorem zs_len (l : List Int) : (zs l).length = l.length := List.length_map _
theorem zs_at (l : List Int) (k : Nat) (h : k < l.length) : (zs l)[k]? = some (.int .i64 (l.getD k 0)) := by
  unfold zs; rw [List.getElem?_map, List.getElem?_eq_getElem h, List.getD_eq_getElem?_getD, List.getElem?_eq_getElem h]; rfl
theorem own_introw {w : World} {N : Nat} {am : Option Addr} {cm : Nat} {l : List Int} (h : w.ownsRow N 3 1 (.slice am l.length cm) l.length (zs l)) (hl : l.length ≤ 16) (hz : ∀ z ∈ l, (Lit.int .i64 z).wf = true) : Da.IntRow w (fun b => N ≤ b ∧ b < w.heap.size) am l.length cm l := by
  rcases h.2 with ⟨h1, h0⟩ | ⟨g, cap, cur, h1, h2, h3, h4, h5, _⟩
  · injection h1 with e1 e2 e3
    subst e1 e3
    exact ⟨rfl, by omega, by unfold maxLen; omega, by omega, fun _ => rfl, hz, fun k hk => by omega⟩
  · injection h1 with e1 e2 e3
    subst e1 e3
    refine ⟨rfl, h4, h5, by omega, (fun e => by cases e), hz, fun k hk => ⟨g, 0, rfl, ⟨h2, (Array.getElem?_eq_some_iff.1 h3).1⟩, ?_⟩⟩
    have h6 := h.cells rfl k _ (zs_at l k hk)
    rw [Ld.add_at] at h6
    exact h6
def symD (s : ByteArray) (v : Value) : Array Value := #[.int .i64 5, .int .i64 0, .string s, v, .slice none 0 0, .slice none 0 0]
theorem symD_one (s : ByteArray) (a : Option Addr) (n c : Nat) : (symD s (.slice a n c)).all (·.oneCell') = true := by unfold symD; simp [Value.oneCell']
theorem symD_set (s : ByteArray) (v v' : Value) : (symD s v).setIfInBounds 3 v' = symD s v' := rfl
/-- What a round knows. -/
structure SymIn (w : World) (x : Idn) (k : Nat) (va : Option Addr) (vc : Nat) (W : World) : Prop where
  bel : Below w.heap.size w W
  id : Bk W w.heap.size x.s (pad x.m)
  res : Da.Blk W (w.heap.size + 1) 33 datZ
  dat : Da.Blk W (w.heap.size + 2) 33 (symD ⟨x.s.toArray⟩ (.slice va k vc))
  row : W.ownsRow (w.heap.size + 3) 3 1 (.slice va k vc) k (zs (x.m.take k))
theorem SymIn.lt {w : World} {x : Idn} {k : Nat} {va : Option Addr} {vc : Nat} {W : World} (h : SymIn w x k va vc W) : w.heap.size + 3 ≤ W.heap.size := (Array.getElem?_eq_some_iff.1 h.dat).1
theorem SymIn.below {w : World} {x : Idn} {k : Nat} {va : Option Addr} {vc : Nat} {W W' : World} (h : SymIn w x k va vc W) (hb : Below W.heap.size W W') : SymIn w x k va vc W' := by
  have hl := h.lt
  exact ⟨h.bel.trans (hb.mono h.bel.size), (hb.block _ (by omega)).trans h.id, (hb.block _ (by omega)).trans h.res, (hb.block _ (by omega)).trans h.dat, ownsRow_same h.row (fun g hg => hb.block g (h.row.lt g hg).2)⟩
/-- 'd.M = append(d.M, int(mark))'. -/
theorem SymIn.app {w : World} {x : Idn} {k : Nat} {va va' : Option Addr} {vc vc' : Nat} {W w1 : World} {o : Obj} {z : Int} (h : SymIn w x k va vc W) (hk : k < x.m.length) (hz : x.m.getD k 0 = z)
    (hown : w1.ownsRow (w.heap.size + 3) 3 1 (.slice va' (k + 1) vc') (k + 1) (zs (x.m.take k) ++ [.int .i64 z])) (hg : (W.alloc o).grownBy w1 (Value.slice va k vc).ownBlock) :
    SymIn w x (k + 1) va' vc' (w1.setCell ⟨w.heap.size + 2, 3, none⟩ (.slice va' (k + 1) vc')) := by
  have hl := h.lt
  have hne : ∀ j, j < w.heap.size + 3 → some j ≠ (Value.slice va k vc).ownBlock := fun j hj e => by have := (h.row.lt j e.symm).1; omega
  have kp : ∀ j, j < w.heap.size + 3 → w1.heap[j]? = W.heap[j]? := fun j hj => (hg.block j (by rw [World.size_alloc]; omega) (hne j hj)).trans (Below.heap_alloc _ _ _ (by omega))
  have st : ∀ j, j ≠ w.heap.size + 2 → (w1.setCell ⟨w.heap.size + 2, 3, none⟩ (.slice va' (k + 1) vc')).heap[j]? = w1.heap[j]? := fun j hj => Below.heap_setCell _ _ _ _ hj
  have hd1 : Da.Blk w1 (w.heap.size + 2) 33 (symD ⟨x.s.toArray⟩ (.slice va k vc)) := (kp _ (by omega)).trans h.dat
  have hset := heap_setCell_same w1 (w.heap.size + 2) 3 (symD ⟨x.s.toArray⟩ (.slice va k vc)) 33 (.slice va' (k + 1) vc') hd1
  rw [symD_set] at hset
  have hsz : (w1.setCell ⟨w.heap.size + 2, 3, none⟩ (.slice va' (k + 1) vc')).heap.size = w1.heap.size := by simp [World.setCell]
  have hWs : W.heap.size ≤ w1.heap.size := Nat.le_trans (by simp) hg.size
  refine ⟨⟨hg.os.trans h.bel.os, hg.tape.trans h.bel.tape, hg.output.trans h.bel.output, by rw [hsz]; exact Nat.le_trans h.bel.size hWs, fun j hj => ?_⟩, ?_, ?_, hset, ?_⟩
  · exact (st j (by omega)).trans ((kp j (by omega)).trans (h.bel.block j hj))
  · exact (st _ (by omega)).trans ((kp _ (by omega)).trans h.id)
  · exact (st _ (by omega)).trans ((kp _ (by omega)).trans h.res)
  · have e : zs (x.m.take (k + 1)) = zs (x.m.take k) ++ [.int .i64 z] := by
      unfold zs
      rw [List.take_succ_eq_append_getElem hk, List.map_append, List.getD_eq_getElem?_getD, List.getElem?_eq_getElem hk] at *
      simp at hz
      simp [hz]
    rw [e]
    exact ownsRow_same hown (fun g hg' => st g (fun e => by have := (hown.lt g hg').1; omega))
theorem symbol_fin (w WF : World) (x : Idn) (va : Option Addr) (vc : Nat) (act : Act) (h2 : act.tmps.getD 2 undef = .pointer (some ⟨w.heap.size + 1, 0, none⟩)) (hd : act.defers = []) (hx : x.Ok) (h : SymIn w x x.m.length va vc WF) :
    bodyPost Try.prog Try.f37 (fun e w' => ∃ am cm, e = .returned (.agg (symD ⟨x.s.toArray⟩ (.slice am x.m.length cm))) ∧ Below w.heap.size w w' ∧ Da.IntRow w' (fun b => w.heap.size ≤ b ∧ b < w'.heap.size) am x.m.length cm x.m) Exit.ret act (WF.setRow (w.heap.size + 1) (symD ⟨x.s.toArray⟩ (.slice va x.m.length vc))) := by
  have hl := h.lt
  have hn : Da.Blk (WF.setRow (w.heap.size + 1) (symD ⟨x.s.toArray⟩ (.slice va x.m.length vc))) (w.heap.size + 1) 33 (symD ⟨x.s.toArray⟩ (.slice va x.m.length vc)) := setRow_heap WF _ _ _ _ _ h.res
  have hsz : (WF.setRow (w.heap.size + 1) (symD ⟨x.s.toArray⟩ (.slice va x.m.length vc))).heap.size = WF.heap.size := by simp
  have hrow : (WF.setRow (w.heap.size + 1) (symD ⟨x.s.toArray⟩ (.slice va x.m.length vc))).ownsRow (w.heap.size + 3) 3 1 (.slice va x.m.length vc) x.m.length (zs x.m) := by
    have := h.row
    rw [List.take_length] at this
    exact ownsRow_same this (fun g hg => setRow_other WF _ _ _ (by have := (h.row.lt g hg).1; omega))
  have hir := own_introw hrow hx.m (fun z hz => by
    have := hx.mark z hz
    simp [Lit.wf, IntKind.min, IntKind.max, IntKind.bits, IntKind.signed]
    omega)
  have hbel : Below w.heap.size w (WF.setRow (w.heap.size + 1) (symD ⟨x.s.toArray⟩ (.slice va x.m.length vc))) := bel_row h.bel _ _ (by omega)
  rw [Array.getD_eq_getD_getElem?] at h2
  generalize (WF.setRow (w.heap.size + 1) (symD ⟨x.s.toArray⟩ (.slice va x.m.length vc))) = W at *
  have e0 : W.cell? ⟨w.heap.size + 1, 0, none⟩ = some (.int .i64 5) := (hn.cell 0).trans rfl
  have e1 : W.cell? ⟨w.heap.size + 1, 1, none⟩ = some (.int .i64 0) := (hn.cell 1).trans rfl
  have e2 : W.cell? ⟨w.heap.size + 1, 2, none⟩ = some (.string ⟨x.s.toArray⟩) := (hn.cell 2).trans rfl
  have e3 : W.cell? ⟨w.heap.size + 1, 3, none⟩ = some (.slice va x.m.length vc) := (hn.cell 3).trans rfl
  have e4 : W.cell? ⟨w.heap.size + 1, 4, none⟩ = some (.slice none 0 0) := (hn.cell 4).trans rfl
  have e5 : W.cell? ⟨w.heap.size + 1, 5, none⟩ = some (.slice none 0 0) := (hn.cell 5).trans rfl
  refine bodyPost_ret (v := .agg (symD ⟨x.s.toArray⟩ (.slice va x.m.length vc))) ?_ hd ⟨va, vc, rfl, hbel, hir.1, hir.2.1, hir.2.2.1, hir.2.2.2.1, hir.2.2.2.2.1, hir.2.2.2.2.2.1, fun k hk => ?_⟩
  · simp [results, Try.results37, go_sem, symD, h2, e0, e1, e2, e3, e4, e5]
  · obtain ⟨b, off, h1, h3, h4⟩ := hir.2.2.2.2.2.2 k hk
    exact ⟨b, off, h1, ⟨by omega, h3.2⟩, h4⟩
theorem SymIn.mid {w : World} {x : Idn} {k : Nat} {va : Option Addr} {vc : Nat} {W w1 : World} {o : Obj} (h : SymIn w x k va vc W) (hg : (W.alloc o).grownBy w1 (Value.slice va k vc).ownBlock) : Da.Blk w1 (w.heap.size + 2) 33 (symD ⟨x.s.toArray⟩ (.slice va k vc)) := by
  have hl := h.lt
  have hne : some (w.heap.size + 2) ≠ (Value.slice va k vc).ownBlock := fun e => by have := (h.row.lt _ e.symm).1; omega
  exact ((hg.block _ (by rw [World.size_alloc]; omega) hne).trans (Below.heap_alloc _ _ _ (by omega))).trans h.dat
set_option maxRecDepth 100000 in
set_option maxHeartbeats 4000000 in
theorem symbol_any (x : Idn) (hx : x.Ok) (w : World) : Calls Try.prog 37 #[x.V] w fun e w' =>
    ∃ am cm, e = .returned (.agg (symD ⟨x.s.toArray⟩ (.slice am x.m.length cm))) ∧ Below w.heap.size w w' ∧ Da.IntRow w' (fun b => w.heap.size ≤ b ∧ b < w'.heap.size) am x.m.length cm x.m := by
  obtain ⟨i0, hi, hz0, hz1, hz2⟩ := info_parts info_int
  have HX := Lib.hid hx
  have hm := hx.m
  show Calls Try.prog 37 #[.agg (idL x).toArray] w _
  obtain ⟨L, hL⟩ : ∃ L, idL x = L := ⟨_, rfl⟩
  have hLs : L[0]? = some (.string ⟨x.s.toArray⟩) := by rw [← hL]; rfl
  have hLl : L.length = 17 := by rw [← hL]; rfl
  have HMANY : Hid (∀ w2, Calls Try.prog 48 #[.agg L.toArray] w2 fun e w' => e = .returned (.int .i64 (x.m.length : Int)) ∧ Below w2.heap.size w2 w') := Lib.hid (fun w2 => by rw [← hL]; exact many_any x hx w2)
  have HL := Lib.hid hL
  rw [hL]
  clear hL hx
  obtain ⟨n0, n1⟩ := two_new w L.toArray datZ 75 33
  have hbX := bel_two w (.cells L.toArray 75) (.cells datZ 33)
  have hsX : ((w.alloc (.cells L.toArray 75)).alloc (.cells datZ 33)).heap.size = w.heap.size + 2 := by simp
  go_enter Try.func37, Try.ntmps37
  go_upto_region 1 with (fail)
  generalize hX : (World.alloc (World.alloc w _) _) = X
  replace n0 : Da.Blk X w.heap.size 75 L.toArray := by rw [← hX]; exact n0
  replace n1 : Da.Blk X (w.heap.size + 1) 33 datZ := by rw [← hX]; exact n1
  replace hbX : Below w.heap.size w X := by rw [← hX]; exact hbX
  replace hsX : X.heap.size = w.heap.size + 2 := by rw [← hX]; exact hsX
  clear hX
  have e0 : X.cell? ⟨w.heap.size, 0, none⟩ = some (.string ⟨x.s.toArray⟩) := (n0.cell 0).trans (by simpa using hLs)
  go_upto_region 2 with (fail)
  generalize hX1 : (World.alloc X _) = X1
  have hb1 : Below X.heap.size X X1 := by rw [← hX1]; exact (Below.refl _ _).alloc (Nat.le_refl _) _
  have n2 : Da.Blk X1 (w.heap.size + 2) 33 (symD ⟨x.s.toArray⟩ (.slice none 0 0)) := by rw [← hX1, ← hsX]; exact heap_alloc_new X _
  have h0 : SymIn w x 0 none 0 X1 := by
    refine ⟨hbX.trans (hb1.mono hbX.size), ?_, (hb1.block _ (by omega)).trans n1, n2, by rw [List.take_zero]; exact World.ownsRow_nil _ _ _ _⟩
    have := (hb1.block _ (by omega)).trans n0
    rw [← HL.out] at this
    exact this
  have HAT : Hid (Ld.At X1 w.heap.size 0 L) := Lib.hid (by
    have := Ld.At.of_blk ((hb1.block _ (by omega)).trans n0)
    simpa using this)
  have H0 := Lib.hid h0
  clear hX1 n0 n1 n2 hbX e0 hb1 h0
  clear hsX
  have hra := run_arr w.heap.size x.m.length hm
  go_wp2_with (refine Ld.wpList_at rfl 75 (.tmp 1) rfl w.heap.size 0 rfl L _ HAT.out Try.underlying75 rfl (by rw [hLl]; exact info_id) ?_)
  refine (HMANY.out _).mono ?_
  rintro e X2 ⟨rfl, hb2⟩
  have H2 := Lib.hid (H0.out.below hb2)
  clear hb2 H0 HAT HMANY
  go_wp2_with fail
  go_loopw [14] (fun i wr => ∃ (k : Nat) (va : Option Addr) (vc : Nat), k ≤ x.m.length ∧ i = .int .i64 (k : Int) ∧ SymIn w x k va vc wr) (fun i _ => 17 - (intOf i).toNat)
  case atStart => exact ⟨0, none, 0, Nat.zero_le _, rfl, H2.out⟩
  case round =>
    obtain ⟨k, va, vc, hk, rfl, hS⟩ := hrel
    have HS := Lib.hid hS
    clear hS H2
    by_cases hlt : k < x.m.length
    · have dl : decide ((k : Int) < (x.m.length : Int)) = true := decide_eq_true (by omega)
      have i0' : (0 : Int) ≤ (k : Int) := Int.natCast_nonneg _
      have i1' : (k : Int) < (x.m.length : Int) := by omega
      obtain ⟨z, hz⟩ : ∃ z, pad x.m k = z := ⟨_, rfl⟩
      have hzb := pad_in HX.out hlt
      rw [hz] at hzb
      have ck : wr.cell? ⟨w.heap.size, 1 + k, none⟩ = some (.int .i32 z) := by rw [HS.out.id.cell, ← hz]; exact A17_at x.s (pad x.m) k (by omega)
      have hw := IntWalk.i64_in z (by omega)
      have c3 : wr.cell? ⟨w.heap.size + 2, 3, none⟩ = some (.slice va k vc) := (HS.out.dat.cell 3).trans rfl
      have HZ : Hid (x.m.getD k 0 = z) := Lib.hid hz
      have HLT := Lib.hid hlt
      have N1 : Hid (∀ j u, [Value.int .i64 z][j]? = some u → (wr.alloc (.cells #[.int .i64 z] 3)).cell? ((⟨wr.heap.size, 0, none⟩ : Addr).add j) = some u) := Lib.hid (fun j u hu => by
        rw [Ld.add_at, Nat.zero_add, cell_of_row _ _ _ _ _ _ (heap_alloc_new wr (.cells #[.int .i64 z] 3))]
        simpa using hu)
      have N2 : Hid (∀ u ∈ [Value.int .i64 z], u.oneCell' = true) := Lib.hid (fun u hu => by
        obtain rfl : u = .int .i64 z := by simpa using hu
        rfl)
      have N3 : Hid (k + 1 ≤ maxLen ∧ (k + 1) * 8 ≤ 140737488355328 ∧ w.heap.size + 3 ≤ (wr.alloc (.cells #[.int .i64 z] 3)).heap.size) := Lib.hid (by have := HS.out.lt; unfold maxLen; refine ⟨by omega, by omega, by rw [World.size_alloc]; omega⟩)
      clear hz hzb hlt
      go_wp2_with (at_builtin; (refine wpList_append_own_at _ rfl (.tmp 19) (.tmp 22) _ rfl (w.heap.size + 3) 3 i0 _ 1 8 Try.underlying30 hi hz0 hz1 hz2 rfl (Nat.zero_lt_one) _ k (zs (x.m.take k)) rfl (HS.out.row.alloc _) ⟨wr.heap.size, 0, none⟩ 1 1 [.int .i64 z] rfl rfl N1.out N2.out N3.out.1 N3.out.2.1 N3.out.2.2 ?_; intro v1 w1 hown1 hg1 hn1 hat1; obtain ⟨va', vc', rfl⟩ := slice_of hown1; have hbk := HS.out.mid hg1; have k1 : w1.cell? ⟨w.heap.size + 2, 3, none⟩ = some (.slice va k vc) := (hbk.cell 3).trans rfl; have k2 : w1.frozen? ⟨w.heap.size + 2, 3, none⟩ = false := hbk.frozen 3; have HE := Lib.hid (HS.out.app HLT.out HZ.out hown1 hg1); clear hown1 hg1 hn1 hat1 hbk))
      go_roundw
      case rel => exact ⟨k + 1, va', vc', HLT.out, by go_num, HE.out⟩
      case measure => have := HLT.out; simp [intOf]; omega
    · have dl : decide ((k : Int) < (x.m.length : Int)) = false := decide_eq_false (by omega)
      obtain rfl : k = x.m.length := by omega
      have HAT : Hid (Ld.At wr (w.heap.size + 2) 0 (symD ⟨x.s.toArray⟩ (.slice va x.m.length vc)).toList) := Lib.hid (Ld.At.of_blk HS.out.dat)
      go_wp2_with (first | (refine Ld.wpList_at rfl 33 (.tmp 3) rfl (w.heap.size + 2) 0 rfl _ _ HAT.out Try.underlying33 rfl info_dt6 ?_) | (refine wpList_store_row rfl 33 (.tmp 2) (.tmp 26) rfl (w.heap.size + 1) (symD ⟨x.s.toArray⟩ (.slice va x.m.length vc)) rfl rfl 33 datZ HS.out.res info_dt6 rfl (symD_one _ _ _ _) ?_))
      exact symbol_fin w _ x va vc _ rfl rfl HX.out HS.out
end Go.Proofs.Ytapnighankepjaa.Sc
end
section
namespace Go.Proofs.Ytapnighankepjaa.Sc
open Go Go.RowKit
set_option linter.unusedVariables false
set_option linter.unusedSimpArgs false

theorem idn_dtI (x : Idn) : idn (dtI x) = x := rfl
/-- A name with one mark more. -/
def withD (d : Da.Dt) (m : Int) : Da.Dt := .mk 5 0 d.S (d.M ++ [m]) [] []
theorem idn_with (d : Da.Dt) (m : Int) : idn (withD d m) = ⟨(idn d).s, (idn d).m ++ [m]⟩ := rfl
theorem with_of {d : Da.Dt} {m : Int} {x : Idn} (h : x = idn (withD d m)) : dtI x = withD d m := by subst h; rfl
theorem with_sym {d : Da.Dt} {m : Int} (hy : IsSym d) (hl : d.M.length < 16) (h1 : 1 ≤ m) (h2 : m ≤ 1048576) : IsSym (withD d m) := by
  refine ⟨rfl, ?_⟩
  have hp := Da.chk_self hy.2
  unfold Da.properB Da.properOf at hp
  rw [hy.1] at hp
  simp only [show ¬ (5 : Int) = 1 by decide, show ¬ (5 : Int) = 2 by decide, show ¬ (5 : Int) = 3 by decide, show ¬ (5 : Int) = 4 by decide, if_true, if_false, Bool.and_eq_true, beq_iff_eq] at hp
  obtain ⟨⟨⟨hs, hm⟩, _⟩, _⟩ := hp
  have hm2 : Da.marksB (d.M ++ [m]) = true := by
    unfold Da.marksB Da.allI at hm ⊢
    simp only [Bool.and_eq_true, Bool.not_eq_true', decide_eq_false_iff_not] at hm ⊢
    refine ⟨by rw [List.length_append]; show ¬ (16 : Int) < ((d.M.length + 1 : Nat) : Int); omega, ?_⟩
    rw [List.all_append, hm.2]
    have hb : Da.markB m = true := by
      unfold Da.markB
      rw [decide_eq_false (by omega : ¬ m < 1), decide_eq_false (by omega : ¬ 1048576 < m)]; rfl
    show (true && ([m].all Da.markB)) = true
    simp [hb]
  have hq : Da.properB (withD d m) = true := by
    show ((Da.symB d.S && Da.marksB (d.M ++ [m])) && ((0 : Int) == 0) && Da.nil2 0 0) = true
    rw [hs, hm2]; rfl
  have hn : Da.nodes (withD d m) 1 = [(withD d m, 1)] := rfl
  have he : Da.errOf 0 (Da.nodes (withD d m) 1) = 0 := by
    rw [hn, Da.errOf]
    have h0 : Da.mErr 0 (withD d m, 1).1 (withD d m, 1).2 = 0 := by
      unfold Da.mErr
      rw [if_neg (show ¬ 64 < 1 by decide), if_neg (show ¬ 0 = 4096 by decide), if_pos hq]
    rw [if_pos h0]; rfl
  unfold Da.chk Da.meas
  rw [if_pos he]
theorem markE_zero {T : Tab} {s : Int} (hT : T.Ok) (h : markE T s = 0) : ∃ k : Nat, s = (k : Int) ∧ k < T.rows.length ∧ T.marks.length < 16384 := by
  unfold markE at h
  split at h
  · next h1 => exact absurd h h1
  · next h1 =>
    split at h
    · exact absurd h (by decide)
    · next h2 =>
      obtain ⟨k, hk, hl⟩ := chk_ok (n := T.rows.length) (Nat.pos_iff_ne_zero.1 hT.pos) (by simpa using h1)
      exact ⟨k, hk, hl, by have := hT.fewM; omega⟩
theorem marks_bad {T U : Tab} {o : Int} {d : Da.Dt} (hpos : 0 < U.rows.length) (h : o < 0 ∨ (U.rows.length : Int) ≤ o) : findE U o d = 50 := by
  have hc : chkE U.rows.length o = 50 := by unfold chkE; rw [if_neg (by omega), if_pos h]
  unfold findE
  rw [hc, if_pos (by decide)]
theorem mk_rows (T : Tab) (s : Int) : (markT T s).rows = T.rows := by unfold markT; split <;> rfl
theorem marks_find {T : Tab} {s : Int} {k : Nat} {d : Da.Dt} (hT : T.Ok) (he : findE T s d = 0) (hm : markE T s = 0) (hl : d.M.length < 16) (hk : k < T.rows.length) (hn : ∀ i ∈ T.chain k, T.id i ≠ idn (withD d (markN T s : Int))) :
    findE (markT T s) (k : Int) (withD d (markN T s : Int)) = 0 ∧ findZ (markT T s) (k : Int) (withD d (markN T s : Int)) = findZ T s d := by
  obtain ⟨j, rfl, hj, hy, hmk⟩ := findE_zero hT.pos he
  obtain ⟨_, _, _, hf⟩ := markE_zero hT hm
  have eT : markT T (j : Int) = T.mk_ j := by unfold markT; rw [if_pos hm]; rfl
  have eN : markN T (j : Int) = T.marks.length + 1 := by unfold markN; rw [if_pos hm]
  rw [eN] at hn
  rw [eT, eN]
  have hU : (T.mk_ j).Ok := hT.mk_ hj hf
  have hsub : Sub T (T.mk_ j) := ⟨List.prefix_rfl, ⟨_, rfl⟩⟩
  have hys := with_sym (m := ((T.marks.length + 1 : Nat) : Int)) hy hl (by omega) (by omega)
  have hmo : markOk (T.mk_ j).marks.length (withD d ((T.marks.length + 1 : Nat) : Int)).M = true := by
    have hlen : (T.mk_ j).marks.length = T.marks.length + 1 := by unfold Tab.mk_; rw [List.length_append]; rfl
    rw [hlen]
    show (d.M ++ [((T.marks.length + 1 : Nat) : Int)]).all (fun m => decide (m ≤ ((T.marks.length + 1 : Nat) : Int))) = true
    rw [List.all_append, Bool.and_eq_true]
    refine ⟨?_, by simp⟩
    rw [List.all_eq_true]
    rw [markOk, List.all_eq_true] at hmk
    intro x hx
    have := hmk x hx
    simp only [decide_eq_true_eq] at this ⊢
    omega
  have h0 := findE_is (T := T.mk_ j) (k := k) (d := withD d ((T.marks.length + 1 : Nat) : Int)) hk hys hmo
  refine ⟨h0, ?_⟩
  unfold findZ
  rw [if_pos h0, if_pos he]
  show (T.mk_ j).seenR (idn d).s ((idn d).m ++ [((T.marks.length + 1 : Nat) : Int)]).reverse k = T.seen j (idn d)
  rw [List.reverse_append]
  show (T.mk_ j).seenR (idn d).s (((T.marks.length + 1 : Nat) : Int) :: (idn d).m.reverse) k = _
  unfold Tab.seenR
  have hb : (T.mk_ j).binder k ⟨(idn d).s, (((T.marks.length + 1 : Nat) : Int) :: (idn d).m.reverse).reverse⟩ = 0 := by
    rw [binder_sub hsub hT hU hk]
    refine binder_full (fun i hi => ?_)
    have h1 := hn i hi
    rw [idn_with] at h1
    rwa [List.reverse_cons, List.reverse_reverse]
  rw [if_pos hb]
  have hg : (T.mk_ j).marks.getD ((((T.marks.length + 1 : Nat) : Int)).toNat - 1) 0 = j := by
    unfold Tab.mk_
    rw [Int.toNat_natCast, Nat.add_sub_cancel, List.getD_eq_getElem?_getD, List.getElem?_append_right (Nat.le_refl _), Nat.sub_self]
    rfl
  rw [hg]
  refine seenR_sub hsub hT hU _ _ _ hj (fun x hx => ?_)
  have hx' : x ∈ d.M := List.mem_reverse.1 hx
  exact ⟨((sym_facts hy.1 hy.2).1.mark x hx').1, markOk_made hmk x hx'⟩
end Go.Proofs.Ytapnighankepjaa.Sc
end
section
namespace Go.Proofs.Ytapnighankepjaa.Sc
open Go.ChangeShapes Go.WideShapes Go.ChangeAt Go.RowKit Go.Shelf
set_option linter.unusedVariables false
set_option linter.unusedSimpArgs false

/-- The parents and the identifiers of the scopes' row. -/
def RowsAt (W : World) (g : Nat) (T : Tab) : Prop := ∀ k, k < T.rows.length → W.cell? ⟨g, k * 19, none⟩ = some (.int .i64 (T.par k : Int)) ∧ Ld.At W g (k * 19 + 1) (idL (T.id k))
theorem names_fn (tb : Nat) (T : Tab) (O : Nat → Prop) (s : Nat) (w : World) (h : TabIn w tb T O) (hs : s < T.rows.length) :
    Calls Try.prog 18 #[.pointer (some ⟨tb, 0, none⟩), .int .i64 (s : Int)] w fun e w' =>
      e = .returned (.func (.func 35) #[] #[.pointer (some ⟨w.heap.size + 1, 0, none⟩), .pointer (some ⟨w.heap.size, 0, none⟩)]) ∧ Below w.heap.size w w' ∧ w.heap.size + 2 ≤ w'.heap.size ∧
      ∃ g c, O g ∧ g < w.heap.size ∧ w'.cell? ⟨w.heap.size + 1, 0, none⟩ = some (.slice (some ⟨g, 0, none⟩) T.rows.length c) ∧ w'.cell? ⟨w.heap.size, 0, none⟩ = some (.int .i64 (s : Int)) ∧ RowsAt w' g T := by
  obtain ⟨vs, vm, bm, ht, hO⟩ := h
  obtain ⟨a, c, rfl⟩ := slice_of ht.rows
  obtain ⟨g, rfl, hltg, hown, hrow⟩ := at_row ht.rows ht.ok.pos
  have hOg : O g := hO g (.inr (.inl hown))
  have hltT := ht.lt tb (.inl rfl)
  have c0 : w.cell? ⟨tb, 0, none⟩ = some (.slice (some ⟨g, 0, none⟩) T.rows.length c) := (ht.blk.cell 0).trans rfl
  have hpos := ht.ok.pos
  have hb1 : Below w.heap.size w (w.alloc (.cells #[.int .i64 (s : Int)] 3)) := (Below.refl _ _).alloc (Nat.le_refl _) _
  have HCK : Hid (Calls Try.prog 31 #[.pointer (some ⟨tb, 0, none⟩), .int .i64 (s : Int)] (w.alloc (.cells #[.int .i64 (s : Int)] 3)) fun e w' => e = .returned (.int .i64 0) ∧ (w.alloc (.cells #[.int .i64 (s : Int)] 3)) = w') := Lib.hid (by
    have h := check_any tb _ T.rows.length c (s : Int) (w.alloc (.cells #[.int .i64 (s : Int)] 3)) ((hb1.cell (p := ⟨tb, 0, none⟩) hltT).trans c0)
    rwa [show chkE T.rows.length (s : Int) = 0 by unfold chkE; rw [if_neg (by omega), if_neg (by rintro (h | h) <;> omega)]] at h)
  obtain ⟨n1, n2⟩ := two_new w #[.int .i64 (s : Int)] #[.slice (some ⟨g, 0, none⟩) T.rows.length c] 3 63
  have hb2 := bel_two w (.cells #[.int .i64 (s : Int)] 3) (.cells #[.slice (some ⟨g, 0, none⟩) T.rows.length c] 63)
  have HR := Lib.hid (And.intro hOg (And.intro hltg (And.intro n1 (And.intro n2 (And.intro hb2 hrow)))))
  clear hrow hown hOg n1 n2 hb2 hb1 hpos ht hO
  go_enter Try.func18, Try.ntmps18
  go_wp2_with fail
  refine HCK.out.mono ?_
  rintro e w2 ⟨rfl, rfl⟩
  clear HCK
  go_wp2_with fail
  go_ret
  obtain ⟨h1, h2, n1, n2, hb2, hrow⟩ := HR.out
  refine ⟨rfl, hb2, by simp, g, c, h1, h2, (Da.Blk.cell (show Da.Blk _ (w.heap.size + 1) 63 #[.slice (some ⟨g, 0, none⟩) T.rows.length c] from n2) 0).trans rfl, (Da.Blk.cell (show Da.Blk _ w.heap.size 3 #[.int .i64 (s : Int)] from n1) 0).trans rfl, fun k hk => ?_⟩
  obtain ⟨r1, r2, _⟩ := hrow k hk
  exact ⟨(hb2.cell (p := ⟨g, k * 19, none⟩) h2).trans r1, r2.same (fun o u hu => (hb2.cell (p := ⟨g, o, none⟩) h2).trans hu)⟩
/-- The boxes of the closures, and the scopes' row: a round of the loop that collects leaves them alone. -/
structure NC (b : Nat) (T : Tab) (s rb sb g c : Nat) (W : World) : Prop where
  wf : Rg.Wf b W
  hb : b < W.heap.size
  sr : Rg.Sf b W rb
  ss : Rg.Sf b W sb
  sg : Rg.Sf b W g
  cr : W.cell? ⟨rb, 0, none⟩ = some (.slice (some ⟨g, 0, none⟩) T.rows.length c)
  cs : W.cell? ⟨sb, 0, none⟩ = some (.int .i64 (s : Int))
  rows : RowsAt W g T
theorem NC.kp {b : Nat} {T : Tab} {s rb sb g c : Nat} {W W' : World} (h : NC b T s rb sb g c W) (hK : Rg.Kp b W W') : NC b T s rb sb g c W' :=
  ⟨h.wf.kp hK, Nat.lt_of_lt_of_le h.hb hK.size, h.sr.kp hK, h.ss.kp hK, h.sg.kp hK, hK.cell h.sr h.cr, hK.cell h.ss h.cs, fun k hk => ⟨hK.cell h.sg (h.rows k hk).1, (h.rows k hk).2.same (fun o u hu => hK.cell h.sg hu)⟩⟩
theorem kp_row {b B : Nat} {W W' : World} {row : Option Nat} (hb : b < W.heap.size) (hB : b < B) (hg : W.grownBy W' row) (hr : ∀ r, row = some r → B ≤ r ∧ ∃ o : Obj, W.heap[r]? = some o ∧ o.isCells = false) : Rg.Kp b W W' := Rg.Kp.grown hb hg (fun r e => by
  obtain ⟨h1, o2, h2, h3⟩ := hr r e
  exact ⟨by omega, fun o3 h4 => by rw [h2] at h4; cases h4; exact h3⟩)
/-- A scope, its parent, and so on, for rounds that do what the collecting loop does. -/
theorem out_comes (b : Nat) (T : Tab) (hT : T.Ok) (s : Nat) (hs : s < T.rows.length) (rb sb g c : Nat) (w : World) (h : NC b T s rb sb g c w) (n : Nat) (hn : 1 ≤ n) :
    Rg.ComesO n Try.prog 47 #[.pointer (some ⟨sb, 0, none⟩), .pointer (some ⟨rb, 0, none⟩)] (fun x : Sco T => #[.int .i64 (x.1 : Int)]) (Rg.Kp b) (fun ys _ => ys.map (·.1) = T.chain s) (fun pre _ => pre.map (·.1) <+: T.chain s) w := by
  intro l J Jx W hW hl hJ hJx hY h0
  have hc := h.kp (Rg.Kp.below h.hb hW)
  have B1 := hc.sr.1
  have B2 := hc.sg.1
  refine (out1_in n l rb W.heap.size sb hn T hT s hs (fun q W1 => ∃ pre : List (Sco T), pre.map (·.1) = q ∧ J pre W1 ∧ NC b T s rb sb g c W1) (fun q W1 => ∃ pre : List (Sco T), pre.map (·.1) = q ∧ Jx pre W1) W (fun q x W1 h1 h2 hx => ?_) ⟨g, c, ⟨B1, B2⟩, hc.cr, fun k hk => (hc.rows k hk).1⟩ hc.cs ⟨[], rfl, h0, hc⟩).mono ?_
  · obtain ⟨pre, rfl, h1, h3⟩ := h1
    obtain ⟨fn, tmps, assign, body, hy, hR⟩ := hY pre ⟨x, hx⟩ W1 h1
    refine ⟨fn, tmps, assign, body, hy, hR.mono ?_⟩
    rintro e W' (⟨h4, h5, h6, _⟩ | ⟨h4, h5, _, _⟩)
    · have h7 := h3.kp h6
      exact .inl ⟨h4, ⟨_, by simp, h5, h7⟩, fun _ => ⟨g, c, ⟨B1, B2⟩, h7.cr, fun k hk => (h7.rows k hk).1⟩⟩
    · exact .inr ⟨h4, ⟨_, by simp, h5⟩⟩
  · rintro e W' ⟨hv, (⟨ys, rfl, pre, hp, hj, _⟩ | ⟨q, hq, pre, hp, hj⟩)⟩
    · exact ⟨hv, .inl ⟨pre, hp, hj⟩⟩
    · exact ⟨hv, .inr ⟨pre, by show _ <+: _; rw [hp]; exact hq, hj⟩⟩
/-- What comes of Names: a scope, and where the datum that is handed on has its marks. -/
structure Nm where
  (i : Nat) (am : Option Addr) (cm : Nat)
def Nm.v (T : Tab) (x : Nm) : Value := .agg (symD ⟨(T.id x.i).s.toArray⟩ (.slice x.am (T.id x.i).m.length x.cm))
def Nm.Good (T : Tab) (Q : Nat → Prop) (W : World) (x : Nm) : Prop := Da.IntRow W Q x.am (T.id x.i).m.length x.cm (T.id x.i).m
theorem introw_keep {w w' : World} {Q Q' : Nat → Prop} {a : Option Addr} {len cap : Nat} {zs : List Int} (h : Da.IntRow w Q a len cap zs) (hQ : ∀ b, Q b → Q' b)
    (hk : ∀ b o u, Q b → w.cell? ⟨b, o, none⟩ = some u → w'.cell? ⟨b, o, none⟩ = some u) : Da.IntRow w' Q' a len cap zs := by
  obtain ⟨h1, h2, h3, h4, h5, h6, h7⟩ := h
  refine ⟨h1, h2, h3, h4, h5, h6, fun k hlt => ?_⟩
  obtain ⟨b, off, e, hb, hc⟩ := h7 k hlt
  exact ⟨b, off, e, hQ b hb, hk b _ _ hb hc⟩
theorem Nm.Good.kp {b : Nat} {T : Tab} {W W' : World} {x : Nm} (h : x.Good T (Rg.Sf b W) W) (hK : Rg.Kp b W W') : x.Good T (Rg.Sf b W') W' := introw_keep h (fun g hg => hg.kp hK) (fun g o u hg hu => hK.cell hg hu)
def NAll (b : Nat) (T : Tab) (ns : List Nat) (ys : List Nm) (W : World) : Prop := ys.map Nm.i = ns ∧ b < W.heap.size ∧ ∀ y ∈ ys, y.Good T (Rg.Sf b W) W
def NPart (b : Nat) (T : Tab) (ns : List Nat) (ys : List Nm) (W : World) : Prop := ys.map Nm.i <+: ns ∧ b < W.heap.size ∧ ∀ y ∈ ys, y.Good T (Rg.Sf b W) W
/-- What an inner round knows. -/
def NI (b : Nat) (T : Tab) (s rb sb g c yb l : Nat) (J : List Nm → World → Prop) (pre : List (Sco T)) (W : World) : Prop :=
  ∃ ys : List Nm, ys.map Nm.i = pre.map (·.1) ∧ J ys W ∧ (∀ y ∈ ys, y.Good T (Rg.Sf b W) W) ∧ NC b T s rb sb g c W ∧ Rg.Sf b W yb ∧ W.cell? ⟨yb, 0, none⟩ = some (.func (.yield l) #[] #[])
theorem NI.own {b : Nat} {T : Tab} {s rb sb g c yb l B B' : Nat} {J : List Nm → World → Prop} (hJ : OwnFrom B' J) (hB : B' ≤ B) (hb : b < B) : OwnFrom B (NI b T s rb sb g c yb l J) := fun pre W W' row h hg hr => by
  obtain ⟨ys, h1, h2, h3, h4, h5, h6⟩ := h
  have hK := kp_row h4.hb hb hg hr
  exact ⟨ys, h1, hJ ys W W' row h2 hg (fun r e => ⟨Nat.le_trans hB (hr r e).1, (hr r e).2⟩), fun y hy => (h3 y hy).kp hK, h4.kp hK, h5.kp hK, hK.cell h5 h6⟩
/-- What the loads of a round read. -/
def Cy (b : Nat) (T : Tab) (s rb sb g c yb l : Nat) (W : World) : Prop := NC b T s rb sb g c W ∧ Rg.Sf b W yb ∧ W.cell? ⟨yb, 0, none⟩ = some (.func (.yield l) #[] #[])
theorem Cy.kp {b : Nat} {T : Tab} {s rb sb g c yb l : Nat} {W W' : World} (h : Cy b T s rb sb g c yb l W) (hK : Rg.Kp b W W') : Cy b T s rb sb g c yb l W' := ⟨h.1.kp hK, h.2.1.kp hK, hK.cell h.2.1 h.2.2⟩
def NX (b : Nat) (T : Tab) (s rb sb g c yb l : Nat) (Jx : List Nm → World → Prop) (cd : Code) (pre : List (Sco T)) (W : World) : Prop := cd = .ret ∧ NI b T s rb sb g c yb l Jx pre W
end Go.Proofs.Ytapnighankepjaa.Sc
end
section
namespace Go.Proofs.Ytapnighankepjaa.Sc
open Go.ChangeShapes Go.WideShapes Go.ChangeAt Go.RowKit Go.Shelf
set_option linter.unusedVariables false
set_option linter.unusedSimpArgs false
attribute [local go_sem] Oper.semAt_some in
set_option maxRecDepth 100000 in
set_option maxHeartbeats 8000000 in
theorem names2_comes (b : Nat) (T : Tab) (hT : T.Ok) (hids : ∀ k, k < T.rows.length → (T.id k).Ok) (s : Nat) (hs : s < T.rows.length) (rb sb g c : Nat) (w : World) (h : NC b T s rb sb g c w) (n : Nat) :
    Rg.ComesO n Try.prog 35 #[.pointer (some ⟨rb, 0, none⟩), .pointer (some ⟨sb, 0, none⟩)] (fun x : Nm => #[.int .i64 (x.i : Int), x.v T]) (Rg.Kp b) (NAll b T (T.chain s)) (NPart b T (T.chain s)) w := by
  intro l J Jx W hW hl hJ hJx hY h0
  have hc := h.kp (Rg.Kp.below h.hb hW)
  have HY : Hid (∀ m pre x W1, J pre W1 → YieldAt Fence.wide m Try.prog l #[.int .i64 (x.i : Int), x.v T] W1 fun e W' => (e = .returned (.bool true) ∧ J (pre ++ [x]) W' ∧ Rg.Kp b W1 W' ∧ KeepsFrom (l + 1) W1 W') ∨ (e = .returned (.bool false) ∧ Jx (pre ++ [x]) W' ∧ Rg.Kp b W1 W' ∧ KeepsFrom (l + 1) W1 W')) := Lib.hid (fun m pre x W1 hj => Rg.anyDepth m (hY pre x W1 hj))
  have HJ := Lib.hid hJ
  have HJx := Lib.hid hJx
  have HT := Lib.hid (And.intro hT (And.intro hids hs))
  have cr := hc.cr
  have cs := hc.cs
  have hrb := hc.sr.1
  have hsb := hc.ss.1
  have hbY : Below W.heap.size W (W.alloc (.cells #[.func (.yield l) #[] #[]] 84)) := (Below.refl _ _).alloc (Nat.le_refl _) _
  have hkY := Rg.Kp.below hc.hb hbY
  have HC := Lib.hid (hc.kp hkY)
  have hsy : Rg.Sf b (W.alloc (.cells #[.func (.yield l) #[] #[]] 84)) W.heap.size := Rg.Sf.new hc.wf hc.hb hbY (Nat.le_refl _) (by simp)
  have hcy : (W.alloc (.cells #[.func (.yield l) #[] #[]] 84)).cell? ⟨W.heap.size, 0, none⟩ = some (.func (.yield l) #[] #[]) := by simp [go_sem]
  have hjY := hJ [] _ _ none h0 (Rg.grown_of_below hbY) (fun r e => by cases e)
  have HX := Lib.hid (And.intro hsy (And.intro hcy hjY))
  have HL := Lib.hid (And.intro hl hc.hb)
  clear hT hids hs hc h hJ hJx hY h0 hkY hsy hcy hjY hl
  refine callsIn_wide.2 ?_
  simp only [List.append_toArray, List.cons_append, List.nil_append]
  refine (callsIn_wide (n := 9)).1 ?_
  refine callsIn_of_wp_marks Try.func35 rfl trivial ?_ rfl
  simp only [Try.ntmps35, List.size_toArray, List.length_cons, List.length_nil, Nat.reduceAdd, Nat.reduceSub, Array.replicate_succ, Array.replicate_zero, List.push_toArray, List.append_toArray, List.nil_append, List.cons_append]
  gi_wp2_with fail
  refine ⟨trivial, ?_⟩
  gi_at_call 36
  refine (callsIn_wide.2 (out_any _ _ _ _ _)).mono ?_
  rintro e Z ⟨rfl, hZ⟩
  simp only []
  obtain ⟨X, hX⟩ : ∃ X, (W.alloc (.cells #[.func (.yield l) #[] #[]] 84)) = X := ⟨_, rfl⟩
  have hszX : X.heap.size = W.heap.size + 1 := by rw [← hX]; simp
  rw [hX] at HC HX hZ hbY
  rw [hX]
  clear hX
  obtain ⟨n1, n2⟩ := two_new X #[.slice (some ⟨g, 0, none⟩) T.rows.length c] #[.int .i64 (s : Int)] 63 3
  have hbZ := bel_two X (.cells #[.slice (some ⟨g, 0, none⟩) T.rows.length c] 63) (.cells #[.int .i64 (s : Int)] 3)
  rw [← hZ] at n1 n2 hbZ
  have hszZ : Z.heap.size = W.heap.size + 3 := by rw [hZ]; simp [hszX]
  clear hZ
  have hkZ := Rg.Kp.below HC.out.hb hbZ
  have HC1 := Lib.hid (HC.out.kp hkZ)
  have HC2 : Hid (NC b T s X.heap.size (X.heap.size + 1) g c Z) := Lib.hid ⟨HC1.out.wf, HC1.out.hb, Rg.Sf.new HC.out.wf HC.out.hb hbZ (Nat.le_refl _) (by omega), Rg.Sf.new HC.out.wf HC.out.hb hbZ (by omega) (by omega), HC1.out.sg, (n1.cell 0).trans rfl, (n2.cell 0).trans rfl, HC1.out.rows⟩
  have HI0 : Hid (NI b T s rb sb g c W.heap.size l J [] Z) := Lib.hid ⟨[], rfl, HJ.out [] _ _ none HX.out.2.2 (Rg.grown_of_below hbZ) (fun r e => by cases e), (fun y hy => by cases hy), HC1.out, HX.out.1.kp hkZ, hkZ.cell HX.out.1 HX.out.2.1⟩
  clear n1 n2 hbZ hkZ HC1 HC HX cr cs hbY
  gi_wp2_with fail
  have hZW : W.heap.size ≤ Z.heap.size := by omega
  have hbZ := HC2.out.hb
  have HSZ := Lib.hid (And.intro hszX hszZ)
  clear hszX hszZ
  refine Rg.range_comesO (by omega) (f := 47) (caps := #[.pointer (some ⟨X.heap.size + 1, 0, none⟩), .pointer (some ⟨X.heap.size, 0, none⟩)]) rfl (enters_of Try.func47 (by kernel_rfl) rfl)
    (out_comes b T HT.out.1 s HT.out.2.2 X.heap.size (X.heap.size + 1) g c Z HC2.out _ (by omega)) Rg.Kp.trans (Rg.Kp.put hbZ) (Below.refl _ _) (fun _ => rfl) (fun _ _ _ _ hs _ _ => hs) (fun _ _ _ _ hs _ _ => hs)
    (NI b T s rb sb g c W.heap.size l J) (NX b T s rb sb g c W.heap.size l Jx) (NI.own HJ.out hZW hbZ) (fun cd pre A B row hh hg hr => ⟨hh.1, NI.own HJx.out hZW hbZ pre A B row hh.2 hg hr⟩) HI0.out
    (fun y a' _ => a' = { tmps := #[.func (.yield l) #[] #[], .pointer (some ⟨rb, 0, none⟩), .pointer (some ⟨sb, 0, none⟩), .pointer (some ⟨W.heap.size, 0, none⟩), .int .i64 (y.1 : Int), .slice (some ⟨g, 0, none⟩) T.rows.length c, .int .i64 (s : Int), .func (.func 47) #[] #[.pointer (some ⟨X.heap.size + 1, 0, none⟩), .pointer (some ⟨X.heap.size, 0, none⟩)], .int .i64 (y.1 : Int), undef, undef, undef, undef, undef, undef, undef, undef, undef, undef], defers := [] }) (fun _ _ _ _ _ _ hs _ _ => hs) ?assign ?body ?done ?stop
  case assign =>
    rintro l2 pre y V K hI hK
    gi_wp2_with fail
    exact hK _ _ (KeepsFrom.refl _ _) (Rg.Kp.refl _ _) hI rfl
  case body =>
    rintro l2 pre ⟨y, hy0, hyl⟩ a' V hl2 ⟨r, hr⟩ hI rfl
    obtain ⟨ys, h1, h2, h3, h4, h5, h6⟩ := hI
    have hbd := bel_drew0 V V.heap.size
    have hkd := Rg.Kp.below h4.hb hbd
    have hT0 : Cy b T s rb sb g c W.heap.size l V.drew := ⟨h4.kp hkd, h5.kp hkd, hkd.cell h5 h6⟩
    have i0 : (0 : Int) ≤ (y : Int) := Int.natCast_nonneg _
    have i1 : (y : Int) < (T.rows.length : Int) := by omega
    have hjd := HJ.out ys _ _ none h2 (Rg.grown_of_below hbd) (fun r e => by cases e)
    have HV := Lib.hid (And.intro h1 (And.intro hjd (And.intro (fun z hz => (h3 z hz).kp hkd) (Rg.keeps_below (B := l + 1) hbd))))
    have HKD := Lib.hid hkd
    clear h1 h2 h3 h4 h5 h6 hr hjd hkd hbd
    gi_wp2_with fail
    refine Oi.till_region (Cy b T s rb sb g c W.heap.size l) 10 (by kernel_rfl) rfl ?_
    simp only [Array.replicate_succ, Array.replicate_zero, List.push_toArray, List.nil_append, List.cons_append]
    refine Oi.Till.take (i := 0) (v := .func (.yield l) #[] #[]) 9 rfl rfl (by kernel_rfl) (by kernel_rfl) (by kernel_rfl) (.inl ⟨by rfl, ?_⟩) (fun _ => rfl) hT0 ?_
    · intro wx hSw
      have cy := hSw.2.2
      have cr := hSw.1.cr
      go_simp
    simp only [Act.put, List.setIfInBounds_toArray, List.set_cons_zero, List.set_cons_succ]
    refine Oi.Till.take (i := 1) (v := .int .i64 (y : Int)) 10 rfl rfl (by kernel_rfl) (by kernel_rfl) (by kernel_rfl) (.inl ⟨by rfl, ?_⟩) (fun _ => rfl) hT0 ?_
    · intro wx hSw
      have cy := hSw.2.2
      have cr := hSw.1.cr
      go_simp
    simp only [Act.put, List.setIfInBounds_toArray, List.set_cons_zero, List.set_cons_succ]
    refine Oi.Till.take (i := 2) (v := .slice (some ⟨g, 0, none⟩) T.rows.length c) 11 rfl rfl (by kernel_rfl) (by kernel_rfl) (by kernel_rfl) (.inl ⟨by rfl, ?_⟩) (fun _ => rfl) hT0 ?_
    · intro wx hSw
      have cy := hSw.2.2
      have cr := hSw.1.cr
      go_simp
    simp only [Act.put, List.setIfInBounds_toArray, List.set_cons_zero, List.set_cons_succ]
    refine Oi.Till.take (i := 3) (v := .int .i64 (y : Int)) 12 rfl rfl (by kernel_rfl) (by kernel_rfl) (by kernel_rfl) (.inl ⟨by rfl, ?_⟩) (fun _ => rfl) hT0 ?_
    · intro wx hSw
      have cy := hSw.2.2
      have cr := hSw.1.cr
      go_simp
    simp only [Act.put, List.setIfInBounds_toArray, List.set_cons_zero, List.set_cons_succ]
    refine Oi.Till.take (i := 4) (v := .pointer (some ⟨g, y * 19, none⟩)) 13 rfl rfl (by kernel_rfl) (by kernel_rfl) (by kernel_rfl) (.inl ⟨by rfl, ?_⟩) (fun _ => rfl) hT0 ?_
    · intro wx hSw
      have cy := hSw.2.2
      have cr := hSw.1.cr
      go_simp
    simp only [Act.put, List.setIfInBounds_toArray, List.set_cons_zero, List.set_cons_succ]
    refine Oi.Till.take (i := 5) (v := .pointer (some ⟨g, y * 19 + 1, none⟩)) 14 rfl rfl (by kernel_rfl) (by kernel_rfl) (by kernel_rfl) (.inl ⟨by rfl, ?_⟩) (fun _ => rfl) hT0 ?_
    · intro wx hSw
      have cy := hSw.2.2
      have cr := hSw.1.cr
      go_simp
    simp only [Act.put, List.setIfInBounds_toArray, List.set_cons_zero, List.set_cons_succ]
    refine Oi.Till.take (i := 6) (v := (T.id y).V) 15 rfl rfl (by kernel_rfl) (by kernel_rfl) (by kernel_rfl) (.inl ⟨by rfl, ?_⟩) (fun _ => rfl) hT0 ?_
    · intro wx hSw
      have cy := hSw.2.2
      have cr := hSw.1.cr
      exact Ld.exec_at 75 (.tmp 14) rfl g (y * 19 + 1) rfl (idL (T.id y)) _ ((hSw.1.rows y hyl).2) Try.underlying75 rfl info_idn
    simp only [Act.put, List.setIfInBounds_toArray, List.set_cons_zero, List.set_cons_succ]
    refine Oi.Till.one (i := 7) (by kernel_rfl) rfl (fun K hK => ?_)
    rw [if_pos (by kernel_rfl)]
    go_simp
    refine ⟨trivial, (callsIn_wide.2 (symbol_any (T.id y) (HT.out.2.1 y hyl) _)).mono ?_⟩
    rintro e V2 ⟨am, cm, rfl, hb2, hrow⟩
    have hk2 := Rg.Kp.below hT0.1.hb hb2
    have hT2 := hT0.kp hk2
    have hg2 : Nm.Good T (Rg.Sf b V2) V2 ⟨y, am, cm⟩ := introw_keep hrow (fun k hk => Rg.Sf.new hT0.1.wf hT0.1.hb hb2 hk.1 hk.2) (fun _ _ _ _ hu => hu)
    obtain ⟨h1, hjd, hgd, hkf⟩ := HV.out
    have hj2 := HJ.out ys _ _ none hjd (Rg.grown_of_below hb2) (fun r e => by cases e)
    have HV2 := Lib.hid (And.intro h1 (And.intro (fun z hz => (hgd z hz).kp hk2) (And.intro hg2 (And.intro (hkf.trans (Rg.keeps_below (B := l + 1) hb2)) (HKD.out.trans hk2)))))
    refine hK.out _ _ hT2 ?_
    clear hK K hT0 hrow hb2 hk2 hg2 h1 hjd hgd hkf HV HKD
    simp only [Act.put, List.setIfInBounds_toArray, List.set_cons_zero, List.set_cons_succ]
    obtain ⟨fn, tmps, assign, body, hy, hR⟩ := HY.out 6 ys ⟨y, am, cm⟩ V2 hj2
    simp only [Nm.v] at hy
    refine Oi.Till.one (i := 8) (by kernel_rfl) rfl (fun K hK => ?_)
    rw [if_pos (by kernel_rfl)]
    go_simp
    have hR2 : RoundIn (Fence.wide.inRound l2) 6 Try.prog l fn tmps assign body V2 _ := hR
    refine hR2.mono ?_
    rintro e V3 (⟨rfl, hj3, hk3, hq3⟩ | ⟨rfl, hj3, hk3, hq3⟩)
    · have hT3 := hT2.kp hk3
      have HV3 := Lib.hid (And.intro hj3 (And.intro hk3 (And.intro hq3 hT3)))
      refine hK.out _ _ hT3 ?_
      clear hK K hR hR2 hy hj3 hk3 hq3 hT2 hj2
      simp only [Act.put, List.setIfInBounds_toArray, List.set_cons_zero, List.set_cons_succ]
      refine Oi.Till.take (i := 9) (v := .bool false) 18 rfl rfl (by kernel_rfl) (by kernel_rfl) (by kernel_rfl) (.inl ⟨by rfl, ?_⟩) (fun _ => rfl) hT3 ?_
      · intro wx hSw
        go_simp
      simp only [Act.put, List.setIfInBounds_toArray, List.set_cons_zero, List.set_cons_succ]
      refine Oi.Till.done (by kernel_rfl) ?_
      clear hT3
      gi_wp2_with fail
      obtain ⟨h1, hgd, hg2, hkf, hkd⟩ := HV2.out
      obtain ⟨hj3, hk3, hq3, hT3⟩ := HV3.out
      have hni : NI b T s rb sb g c W.heap.size l J (pre ++ [⟨y, hy0, hyl⟩]) V3 := ⟨ys ++ [⟨y, am, cm⟩], by simp [h1], hj3, (fun z hz => by
        rcases List.mem_append.1 hz with hz | hz
        · exact (hgd z hz).kp hk3
        · obtain rfl : z = ⟨y, am, cm⟩ := by simpa using hz
          exact hg2.kp hk3), hT3.1, hT3.2.1, hT3.2.2⟩
      exact ⟨Rg.keeps_mono (hkf.trans hq3) (by have := HL.out.1; omega), hkd.trans hk3, hni⟩
    · have hT3 := hT2.kp hk3
      have HV3 := Lib.hid (And.intro hj3 (And.intro hk3 (And.intro hq3 hT3)))
      refine hK.out _ _ hT3 ?_
      clear hK K hR hR2 hy hj3 hk3 hq3 hT2 hj2
      simp only [Act.put, List.setIfInBounds_toArray, List.set_cons_zero, List.set_cons_succ]
      refine Oi.Till.take (i := 9) (v := .bool true) 18 rfl rfl (by kernel_rfl) (by kernel_rfl) (by kernel_rfl) (.inl ⟨by rfl, ?_⟩) (fun _ => rfl) hT3 ?_
      · intro wx hSw
        go_simp
      simp only [Act.put, List.setIfInBounds_toArray, List.set_cons_zero, List.set_cons_succ]
      refine Oi.Till.done (by kernel_rfl) ?_
      clear hT3
      gi_wp2_with fail
      obtain ⟨h1, hgd, hg2, hkf, hkd⟩ := HV2.out
      obtain ⟨hj3, hk3, hq3, hT3⟩ := HV3.out
      have hni : NI b T s rb sb g c W.heap.size l Jx (pre ++ [⟨y, hy0, hyl⟩]) V3 := ⟨ys ++ [⟨y, am, cm⟩], by simp [h1], hj3, (fun z hz => by
        rcases List.mem_append.1 hz with hz | hz
        · exact (hgd z hz).kp hk3
        · obtain rfl : z = ⟨y, am, cm⟩ := by simpa using hz
          exact hg2.kp hk3), hT3.1, hT3.2.1, hT3.2.2⟩
      exact ⟨Rg.keeps_mono (hkf.trans hq3) (by have := HL.out.1; omega), hkd.trans hk3, rfl, hni⟩
  case done =>
    rintro D xs V hD hS hI hK
    obtain ⟨ys, h1, h2, h3, h4, h5, h6⟩ := hI
    have hKp := Rg.Kp.put hbZ V D _ (.deferred none) hD hK rfl rfl
    have hJ2 := HJ.out.putObj (.deferred none) h2 (Nat.le_trans hZW hD) hK rfl
    have h7 := h4.kp hKp
    refine ⟨by simp, .inl ⟨_, _, rfl, run_takeDeferred hK, ?_⟩⟩
    exact ⟨_, results_none rfl _ _ _, ⟨_, rfl⟩, .inl ⟨ys, ⟨h1.trans hS, h7.hb, fun y hy => (h3 y hy).kp hKp⟩, hJ2⟩⟩
  case stop =>
    rintro D cd q V hD hS ⟨rfl, ys, h1, h2, h3, h4, h5, h6⟩ hK
    have hKp := Rg.Kp.put hbZ V D _ (.deferred none) hD hK rfl rfl
    have hJ2 := HJx.out.putObj (.deferred none) h2 (Nat.le_trans hZW hD) hK rfl
    have h7 := h4.kp hKp
    have HF := Lib.hid (And.intro (show NPart b T (T.chain s) ys (V.putObj D (.deferred none)) from ⟨by rw [h1]; exact hS, h7.hb, fun y hy => (h3 y hy).kp hKp⟩) (And.intro hJ2 hK))
    clear h1 h2 h3 h4 h5 h6 h7 hKp hJ2 hK hS
    gi_wp2_with fail
    refine ⟨by simp, .inl ⟨_, _, rfl, run_takeDeferred HF.out.2.2, ?_⟩⟩
    exact ⟨_, results_none rfl _ _ _, ⟨_, rfl⟩, .inr ⟨ys, HF.out.1, HF.out.2.1⟩⟩
end Go.Proofs.Ytapnighankepjaa.Sc
end
section
namespace Go.Proofs.Ytapnighankepjaa.Sc
open Go.ChangeShapes Go.WideShapes Go.ChangeAt Go.RowKit Go.Shelf
set_option linter.unusedVariables false
set_option linter.unusedSimpArgs false

theorem own_slice' {w : World} {B : Nat} {e : TypeId} {sz : Nat} {v : Value} {n : Nat} {xs : List Value} (h : w.ownsRow B e sz v n xs) : ∃ a c, v = .slice a n c := slice_of h
def bdZ : Array Value := #[.int .i64 0, .int .i64 0, .int .i64 0, .string ⟨#[]⟩, .slice none 0 0, .slice none 0 0, .slice none 0 0]
theorem info_bnd : (Try.prog.info? 58).map (fun i => (i.zero, i.size, i.bytes)) = some (some (.agg bdZ), 7, 112) := by kernel_rfl
theorem cells_new' (w : World) (c : Array Value) (t : TypeId) : ∀ j u, c.toList[j]? = some u → (w.alloc (.cells c t)).cell? ((⟨w.heap.size, 0, none⟩ : Addr).add j) = some u := fun j u hu => by
  rw [Ld.add_at, Nat.zero_add, cell_of_row _ _ _ _ _ _ (heap_alloc_new w (.cells c t))]
  simpa using hu
/-- The cells of a name that was told. -/
def Nm.c (T : Tab) (x : Nm) : List Value := [.int .i64 (x.i : Int), .int .i64 5, .int .i64 0, .string ⟨(T.id x.i).s.toArray⟩, .slice x.am (T.id x.i).m.length x.cm, .slice none 0 0, .slice none 0 0]
def nmC (T : Tab) (l : List Nm) : List Value := l.flatMap (Nm.c T)
theorem nmC_snoc (T : Tab) (l : List Nm) (x : Nm) : nmC T (l ++ [x]) = nmC T l ++ x.c T := by simp [nmC]
theorem nmC_len (T : Tab) (l : List Nm) : (nmC T l).length = l.length * 7 := by
  induction l with
  | nil => rfl
  | cons t r ih => rw [nmC, List.flatMap_cons, List.length_append, ← nmC, ih, List.length_cons]; show 7 + _ = _; omega
theorem nmC_at (T : Tab) : ∀ (l : List Nm) (k j : Nat) (x : Nm), l[k]? = some x → j < 7 → (nmC T l)[k * 7 + j]? = (x.c T)[j]?
  | [], k, j, x, h, _ => by simp at h
  | y :: l, 0, j, x, h, hj => by
    obtain rfl : y = x := by simpa using h
    show (y.c T ++ nmC T l)[0 * 7 + j]? = _
    rw [Nat.zero_mul, Nat.zero_add, List.getElem?_append_left hj]
  | y :: l, k + 1, j, x, h, hj => by
    show (y.c T ++ nmC T l)[(k + 1) * 7 + j]? = _
    rw [List.getElem?_append_right (by show 7 ≤ _; omega), show (k + 1) * 7 + j - (y.c T).length = k * 7 + j by show (k + 1) * 7 + j - 7 = _; omega, nmC_at T l k j x (by simpa using h) hj]
theorem nm_one (T : Tab) (x : Nm) : ∀ u ∈ x.c T, u.oneCell' = true := by
  intro u hu
  unfold Nm.c at hu
  simp only [List.mem_cons, List.not_mem_nil, or_false] at hu
  rcases hu with rfl | rfl | rfl | rfl | rfl | rfl | rfl <;> rfl
/-- What the collecting loop knows. -/
def TI (T : Tab) (w : World) (m : Nat) (pre : List Nm) (W : World) : Prop :=
  ((∃ v, Boxed W (w.heap.size + 1) 52 v ∧ W.ownsRow w.heap.size 58 7 v pre.length (nmC T pre) ∧ True) ∧ Boxed W w.heap.size 3 (.int .i64 (m : Int))) ∧ (pre.length ≤ m ∧ Below w.heap.size w W)
theorem TI.own {T : Tab} {w : World} {m B : Nat} (hB : w.heap.size + 2 ≤ B) : OwnFrom B (TI T w m) :=
  OwnFrom.and (OwnFrom.and (Own.from (holdsRow_own w.heap.size (w.heap.size + 1) 52 58 7 (fun pre : List Nm => pre.length) (nmC T) (fun _ _ => True)) _) (Own.from (boxed_own _ _ _) _)) (OwnFrom.and (fun s A B row hs hg hr => hs) (ownFrom_below (Nat.le_refl _) (by omega)))
attribute [local go_sem] Oper.semAt_some in
set_option maxRecDepth 100000 in
set_option maxHeartbeats 8000000 in
theorem told_names (T : Tab) (hT : T.Ok) (hids : ∀ k, k < T.rows.length → (T.id k).Ok) (s : Nat) (hs : s < T.rows.length) (rb sb g c m : Nat) (hm : m ≤ 1048576) (w : World) (hrb : rb < w.heap.size) (hsb : sb < w.heap.size) (hg : g < w.heap.size)
    (cr : w.cell? ⟨rb, 0, none⟩ = some (.slice (some ⟨g, 0, none⟩) T.rows.length c)) (cs : w.cell? ⟨sb, 0, none⟩ = some (.int .i64 (s : Int))) (rows : RowsAt w g T) :
    Calls Try.prog 17 #[.func (.func 35) #[] #[.pointer (some ⟨rb, 0, none⟩), .pointer (some ⟨sb, 0, none⟩)], .int .i64 (m : Int)] w fun e w' =>
      ∃ (a : Option Addr) (c' : Nat) (ys : List Nm), e = .returned (.slice a ys.length c') ∧ ys.map Nm.i = (T.chain s).take m ∧ Below w.heap.size w w' ∧ w'.ownsRow w.heap.size 58 7 (.slice a ys.length c') ys.length (nmC T ys) ∧ ∀ y ∈ ys, y.Good T (Da.Lo w'.heap.size) w' := by
  obtain ⟨i0, hi, hz0, hz1, hz2⟩ := info_parts info_bnd
  have heq : ∀ w : World, (binOp BinOp.eql 55 (.func (.func 35) #[] #[.pointer (some ⟨rb, 0, none⟩), .pointer (some ⟨sb, 0, none⟩)]) .nilFunc).run Try.prog w = .ok (.bool false) w := fun _ => by kernel_rfl
  refine (callsIn_wide (n := 9)).1 ?_
  refine callsIn_of_wp_marks Try.func17 rfl trivial ?_ rfl
  simp only [Try.ntmps17, List.size_toArray, List.length_cons, List.length_nil, Nat.reduceAdd, Nat.reduceSub, Array.replicate_succ, Array.replicate_zero, List.push_toArray, List.append_toArray, List.nil_append, List.cons_append]
  gi_wp2_with fail
  have bM := (Boxed.new w 3 (.int .i64 (m : Int))).alloc (.cells #[.slice none 0 0] 52)
  have bL := Boxed.new (w.alloc (.cells #[.int .i64 (m : Int)] 3)) 52 (.slice none 0 0)
  rw [World.size_alloc] at bL
  have hB0 : Below w.heap.size w ((w.alloc (.cells #[.int .i64 (m : Int)] 3)).alloc (.cells #[.slice none 0 0] 52)) := ((Below.refl _ w).alloc (Nat.le_refl _) _).alloc (by simp) _
  have hsz : ((w.alloc (.cells #[.int .i64 (m : Int)] 3)).alloc (.cells #[.slice none 0 0] 52)).heap.size = w.heap.size + 1 + 1 := by simp
  generalize (w.alloc (.cells #[.int .i64 (m : Int)] 3)).alloc (.cells #[.slice none 0 0] 52) = X at *
  have hbX : w.heap.size + 1 < X.heap.size := by omega
  have hNC : NC (w.heap.size + 1) T s rb sb g c X := ⟨Rg.Wf.nil hbX bL.cell, hbX, Rg.Sf.nil (by omega) (by omega) bL.cell, Rg.Sf.nil (by omega) (by omega) bL.cell, Rg.Sf.nil (by omega) (by omega) bL.cell, (hB0.cell (p := ⟨rb, 0, none⟩) hrb).trans cr, (hB0.cell (p := ⟨sb, 0, none⟩) hsb).trans cs, fun k hk => ⟨(hB0.cell (p := ⟨g, k * 19, none⟩) hg).trans (rows k hk).1, (rows k hk).2.same (fun o u hu => (hB0.cell (p := ⟨g, o, none⟩) hg).trans hu)⟩⟩
  have hco := names2_comes (w.heap.size + 1) T hT hids s hs rb sb g c X hNC (9 - 1)
  have hnow : OwnFrom X.heap.size (NAll (w.heap.size + 1) T (T.chain s)) := fun ys A B row h hg hr => by
    have hK := kp_row h.2.1 hbX hg hr
    exact ⟨h.1, Nat.lt_of_lt_of_le h.2.1 hK.size, fun y hy => (h.2.2 y hy).kp hK⟩
  have hnop : OwnFrom X.heap.size (NPart (w.heap.size + 1) T (T.chain s)) := fun ys A B row h hg hr => by
    have hK := kp_row h.2.1 hbX hg hr
    exact ⟨h.1, Nat.lt_of_lt_of_le h.2.1 hK.size, fun y hy => (h.2.2 y hy).kp hK⟩
  have h0 : TI T w m [] X := ⟨⟨⟨_, bL, World.ownsRow_nil _ _ _ _, trivial⟩, bM⟩, Nat.zero_le _, hB0⟩
  clear hNC cr cs rows hT hids hs
  refine Rg.range_comesO (by omega) (f := 35) (caps := #[.pointer (some ⟨rb, 0, none⟩), .pointer (some ⟨sb, 0, none⟩)]) rfl (enters_of Try.func35 (by kernel_rfl) rfl)
    hco Rg.Kp.trans (Rg.Kp.put hbX) (Below.refl _ _) (fun _ => rfl) hnow hnop (TI T w m)
    (fun cd q W => ∃ pre : List Nm, (cd = .exit 0 ∧ pre.length = m ∧ ∃ x, q = pre ++ [x]) ∧ TI T w m pre W) (TI.own (by omega)) (fun cd q A B row hs hg hr => by obtain ⟨pre, h1, h2⟩ := hs; exact ⟨pre, h1, TI.own (by omega) pre A B row h2 hg hr⟩) h0
    (fun x a' W => ∃ Bx, w.heap.size + 1 < Bx ∧ Da.Blk W Bx 33 #[.int .i64 5, .int .i64 0, .string ⟨(T.id x.i).s.toArray⟩, .slice x.am (T.id x.i).m.length x.cm, .slice none 0 0, .slice none 0 0] ∧ a' = { tmps := #[.func (.func 35) #[] #[.pointer (some ⟨rb, 0, none⟩), .pointer (some ⟨sb, 0, none⟩)], .int .i64 (m : Int), undef, .pointer (some ⟨w.heap.size, 0, none⟩), .slice none 0 0, .pointer (some ⟨w.heap.size + 1, 0, none⟩), .int .i64 (x.i : Int), .pointer (some ⟨Bx, 0, none⟩), .func (.func 35) #[] #[.pointer (some ⟨rb, 0, none⟩), .pointer (some ⟨sb, 0, none⟩)], .bool false, .func (.func 35) #[] #[.pointer (some ⟨rb, 0, none⟩), .pointer (some ⟨sb, 0, none⟩)], .int .i64 (x.i : Int), .agg #[.int .i64 5, .int .i64 0, .string ⟨(T.id x.i).s.toArray⟩, .slice x.am (T.id x.i).m.length x.cm, .slice none 0 0, .slice none 0 0], undef, undef, undef, undef, undef, undef, undef, undef, undef, undef, undef], defers := [] })
    (fun x a' _ A B row hs hg hr => by
      obtain ⟨Bx, h1, h2, h3⟩ := hs
      refine ⟨Bx, h1, (hg.block Bx (Array.getElem?_eq_some_iff.1 h2).1 (fun e => ?_)).trans h2, h3⟩
      obtain ⟨_, o, ho, hoc⟩ := hr Bx e.symm
      rw [show A.heap[Bx]? = _ from h2] at ho
      cases ho; cases hoc)
    ?assign ?body ?done ?stop
  case assign =>
    rintro l pre x W K ⟨⟨⟨v, hv, hrow, _⟩, hbm⟩, hle, hB1⟩ hK
    have hvl := hv.lt
    simp only [Nm.v, symD]
    gi_wp2_with fail
    exact hK _ _ ((KeepsOthers.alloc _ _).from _) (Rg.Kp.alloc _ hvl _) ⟨⟨⟨v, hv.alloc _, hrow.alloc _, trivial⟩, hbm.alloc _⟩, hle, hB1.alloc hB1.size _⟩ ⟨W.heap.size, hvl, heap_alloc_new W _, rfl⟩
  case body =>
    rintro l pre x a' W hl ⟨r, hr⟩ ⟨⟨⟨v, hv, hrow, _⟩, hbm⟩, hle, hB1⟩ ⟨Bx, hBx, bX, rfl⟩
    obtain ⟨va, vc, rfl⟩ := slice_of hrow
    have c5 := hv.cell
    have c3 := hbm.cell
    have x0 : W.cell? ⟨Bx, 0, none⟩ = some (.int .i64 5) := (bX.cell 0).trans rfl
    have x1 : W.cell? ⟨Bx, 1, none⟩ = some (.int .i64 0) := (bX.cell 1).trans rfl
    have x2 : W.cell? ⟨Bx, 2, none⟩ = some (.string ⟨(T.id x.i).s.toArray⟩) := (bX.cell 2).trans rfl
    have x3 : W.cell? ⟨Bx, 3, none⟩ = some (.slice x.am (T.id x.i).m.length x.cm) := (bX.cell 3).trans rfl
    have x4 : W.cell? ⟨Bx, 4, none⟩ = some (.slice none 0 0) := (bX.cell 4).trans rfl
    have x5 : W.cell? ⟨Bx, 5, none⟩ = some (.slice none 0 0) := (bX.cell 5).trans rfl
    have HL := Lib.hid hle
    have HW := Lib.hid hB1
    have Hv := Lib.hid hv
    have Hrow := Lib.hid hrow
    have Hbm := Lib.hid hbm
    have hsW := hB1.size
    have hbl := hv.lt
    clear hB1 hv hrow hbm bX hB0 bM bL h0 hco hnow hnop hr
    by_cases hm1 : pre.length < m
    · have dm : decide ((pre.length : Int) ≥ (m : Int)) = false := decide_eq_false (by omega)
      clear hle
      gi_wp2_with (gi_at_builtin; refine wpListIn_append_own_at _ rfl (.tmp 17) (.tmp 21) 52 rfl w.heap.size 58 i0 (.agg bdZ) 7 112 Try.underlying52 hi hz0 hz1 hz2 rfl (by decide) _ pre.length (nmC T pre) rfl (Hrow.out.alloc _) ⟨W.heap.size, 0, none⟩ 1 1 (x.c T) rfl rfl (cells_new' W #[.int .i64 (x.i : Int), .int .i64 5, .int .i64 0, .string ⟨(T.id x.i).s.toArray⟩, .slice x.am (T.id x.i).m.length x.cm, .slice none 0 0, .slice none 0 0] 58) (nm_one T x) (by simp only [maxLen]; omega) (by omega) (by simp; omega) ?_; intro v' w1 hown' hgrow _ hat; obtain ⟨g', cap', rfl⟩ := ownsRow_succ hown'; obtain ⟨hv1, hv2, hr2, hk2, hb2⟩ := Hv.out.appended (by decide) Hrow.out hsW (Nat.le_succ _) hown' hgrow; have hc1 := hv1.cell; have hf1 := hv1.frozen)
      have hne := Hv.out.not_row (by decide) Hrow.out
      have hbm1 : Boxed w1 w.heap.size 3 (.int .i64 (m : Int)) := (Hbm.out.alloc _).kept hgrow (Hbm.out.not_row (by decide) Hrow.out)
      refine ⟨hk2.from _, Rg.Kp.app Hv.out hgrow hat hne (fun g e => (hown'.lt g e).2), ⟨⟨⟨_, hv2, ?_, trivial⟩, hbm1.other (by omega) _⟩, ?_, HW.out.trans hb2⟩⟩
      · rw [nmC_snoc, List.length_append]
        exact hr2
      · rw [List.length_append]; exact hm1
    · have dm : decide ((pre.length : Int) ≥ (m : Int)) = true := decide_eq_true (by omega)
      obtain rfl : pre.length = m := by omega
      gi_wp2_with fail
      exact ⟨KeepsFrom.refl _ _, Rg.Kp.refl _ _, pre, ⟨rfl, rfl, x, rfl⟩, ⟨⟨⟨_, Hv.out, Hrow.out, trivial⟩, Hbm.out⟩, Nat.le_refl _, HW.out⟩⟩
  case done =>
    rintro D ys W hD hS ⟨⟨⟨v, hv, hrow, _⟩, hbm⟩, hle, hB1⟩ hK
    have c5 := hv.cell
    obtain ⟨va, vc, rfl⟩ := slice_of hrow
    have hKp := Rg.Kp.put hbX W D _ (.deferred none) hD hK rfl rfl
    have HF := Lib.hid (And.intro hS (And.intro hrow (And.intro hle (And.intro hB1 (And.intro hK hKp)))))
    clear hS hrow hle hB1 hK hKp hv hbm h0 hco hnow hnop hB0 bM bL
    gi_wp2_with fail
    obtain ⟨hS, hrow, hle, hB1, hK, hKp⟩ := HF.out
    refine ⟨by simp, .inl ⟨_, _, rfl, run_takeDeferred hK, ?_⟩⟩
    exact ⟨_, results_tmp rfl _ _ _, va, vc, ys, rfl, by rw [hS.1, List.take_of_length_le (by rw [← hS.1, List.length_map]; exact hle)], hB1.trans (belowK_b (w := w) (Nat.le_refl _) W D _ _ (by omega) hK rfl rfl), ownsRow_putObj hrow _ hK rfl, fun y hy => introw_keep ((hS.2.2 y hy).kp hKp) (fun k hk => hk.1) (fun _ _ _ _ hu => hu)⟩
  case stop =>
    rintro D cd pre W hD hS ⟨pre', ⟨rfl, hpl, x, rfl⟩, ⟨⟨⟨v, hv, hrow, _⟩, hbm⟩, hle, hB1⟩⟩ hK
    have c5 := hv.cell
    obtain ⟨va, vc, rfl⟩ := slice_of hrow
    have hKp := Rg.Kp.put hbX W D _ (.deferred none) hD hK rfl rfl
    have HF := Lib.hid (And.intro hS (And.intro hrow (And.intro hle (And.intro hB1 (And.intro hK hKp)))))
    have HP := Lib.hid hpl
    clear hS hrow hle hB1 hK hKp hv hbm h0 hco hnow hnop hB0 bM bL hpl
    gi_wp2_with fail
    obtain ⟨hS, hrow, hle, hB1, hK, hKp⟩ := HF.out
    refine ⟨by simp, .inl ⟨_, _, rfl, run_takeDeferred hK, ?_⟩⟩
    have hpt : pre'.map Nm.i = (T.chain s).take m := by
      obtain ⟨r, hr⟩ := hS.1
      rw [← hr, List.map_append, List.append_assoc, ← HP.out, List.take_left' (by rw [List.length_map])]
    exact ⟨_, results_tmp rfl _ _ _, va, vc, pre', rfl, hpt, hB1.trans (belowK_b (w := w) (Nat.le_refl _) W D _ _ (by omega) hK rfl rfl), ownsRow_putObj hrow _ hK rfl, fun y hy => introw_keep ((hS.2.2 y (List.mem_append_left _ hy)).kp hKp) (fun k hk => hk.1) (fun _ _ _ _ hu => hu)⟩
end Go.Proofs.Ytapnighankepjaa.Sc
end
section
namespace Go.Proofs.Ytapnighankepjaa.Sc
open Go.ChangeShapes Go.WideShapes Go.ChangeAt Go.RowKit
set_option linter.unusedVariables false
set_option linter.unusedSimpArgs false

/-- The scopes that Names tells of. -/
def chainO (T : Tab) (o : Int) : List Nat := if 0 ≤ o ∧ o < (T.rows.length : Int) then T.chain o.toNat else []
def ToldP (T : Tab) (ns : List Nat) (w : World) (e : Ending) (w' : World) : Prop :=
  ∃ (a : Option Addr) (c' : Nat) (ys : List Nm), e = .returned (.slice a ys.length c') ∧ ys.map Nm.i = ns ∧ Below w.heap.size w w' ∧ w'.ownsRow w.heap.size 58 7 (.slice a ys.length c') ys.length (nmC T ys) ∧ ∀ y ∈ ys, y.Good T (Da.Lo w'.heap.size) w'
theorem TabAt.idOk {w : World} {tb : Nat} {T : Tab} {vs vm : Value} {bm : Nat} (h : TabAt w tb T vs vm bm) : ∀ k, k < T.rows.length → (T.id k).Ok := fun k hk => by
  unfold Tab.id
  rw [List.getD_eq_getElem?_getD, List.getElem?_eq_getElem hk]
  exact h.ids _ (List.getElem_mem hk)
theorem TabIn.idOk {w : World} {tb : Nat} {T : Tab} {O : Nat → Prop} (h : TabIn w tb T O) : ∀ k, k < T.rows.length → (T.id k).Ok := by
  obtain ⟨_, _, _, h1, _⟩ := h; exact h1.idOk
theorem names_all (tb : Nat) (T : Tab) (O : Nat → Prop) (o : Int) (w : World) (h : TabIn w tb T O) :
    Calls Try.prog 18 #[.pointer (some ⟨tb, 0, none⟩), .int .i64 o] w fun e w' => ∃ fv, e = .returned fv ∧ Below w.heap.size w w' ∧
      Hid (∀ (m : Nat) (w2 : World), m ≤ 1048576 → Below w'.heap.size w' w2 → Calls Try.prog 17 #[fv, .int .i64 (m : Int)] w2 (ToldP T ((chainO T o).take m) w2)) := by
  by_cases hv : 0 ≤ o ∧ o < (T.rows.length : Int)
  · obtain ⟨s, rfl⟩ : ∃ s : Nat, o = (s : Int) := ⟨o.toNat, by omega⟩
    have hs : s < T.rows.length := by omega
    refine (names_fn tb T O s w h hs).mono ?_
    rintro e w' ⟨rfl, hb, hsz, g, c, _, hg, cr, cs, rows⟩
    refine ⟨_, rfl, hb, Lib.hid (fun m w2 hm hb2 => ?_)⟩
    have hle := hb2.size
    have hle1 := hb.size
    have e1 : chainO T (s : Int) = T.chain s := by unfold chainO; rw [if_pos hv]; rfl
    rw [e1]
    exact told_names T h.ok h.idOk s hs (w.heap.size + 1) w.heap.size g c m hm w2 (by omega) (by omega) (by omega) ((hb2.cell (p := ⟨w.heap.size + 1, 0, none⟩) (by show w.heap.size + 1 < _; omega)).trans cr) ((hb2.cell (p := ⟨w.heap.size, 0, none⟩) (by show w.heap.size < _; omega)).trans cs)
      (fun k hk => ⟨(hb2.cell (p := ⟨g, k * 19, none⟩) (by show g < _; omega)).trans (rows k hk).1, (rows k hk).2.same (fun oo u hu => (hb2.cell (p := ⟨g, oo, none⟩) (by show g < _; omega)).trans hu)⟩)
  · have hpos := h.ok.pos
    have hc : chkE T.rows.length o = 50 := by unfold chkE; rw [if_neg (by omega), if_pos (by omega)]
    have e1 : chainO T o = [] := by unfold chainO; rw [if_neg hv]
    obtain ⟨vs, vm, bm, ht, hO⟩ := h
    obtain ⟨a, c, rfl⟩ := slice_of ht.rows
    have hlt := ht.lt tb (.inl rfl)
    have c0 : w.cell? ⟨tb, 0, none⟩ = some (.slice a T.rows.length c) := (ht.blk.cell 0).trans rfl
    refine (names_none (some ⟨tb, 0, none⟩) o 50 w (by decide) (Lib.hid (fun w2 hb => by
      have h := check_any tb a T.rows.length c o w2 ((hb.cell (p := ⟨tb, 0, none⟩) hlt).trans c0)
      rwa [hc] at h))).mono ?_
    rintro e w' ⟨rfl, hb⟩
    refine ⟨_, rfl, hb, Lib.hid (fun m w2 hm hb2 => ?_)⟩
    rw [e1]
    refine (told_none (m : Int) w2).mono ?_
    rintro e w3 ⟨rfl, hb3⟩
    exact ⟨none, 0, [], rfl, by simp, hb3, World.ownsRow_nil _ _ _ _, fun y hy => by cases hy⟩
end Go.Proofs.Ytapnighankepjaa.Sc
end
section
namespace Go.Proofs.Ytapnighankepjaa.Sc
open Go.ChangeShapes Go.WideShapes Go.ChangeAt Go.RowKit
set_option linter.unusedVariables false
set_option linter.unusedSimpArgs false

theorem six_keep2 {w w' : World} {b o : Nat} {x0 x1 x2 x3 x4 x5 : Value} (h : Da.Six w b o x0 x1 x2 x3 x4 x5) (hk : ∀ o u, w.cell? ⟨b, o, none⟩ = some u → w'.cell? ⟨b, o, none⟩ = some u) : Da.Six w' b o x0 x1 x2 x3 x4 x5 :=
  ⟨hk _ _ h.1, hk _ _ h.2.1, hk _ _ h.2.2.1, hk _ _ h.2.2.2.1, hk _ _ h.2.2.2.2.1, hk _ _ h.2.2.2.2.2⟩
mutual
theorem isDt_keep2 {w w' : World} {Q Q' : Nat → Prop} (hQ : ∀ b, Q b → Q' b) (hk : ∀ b o u, Q b → w.cell? ⟨b, o, none⟩ = some u → w'.cell? ⟨b, o, none⟩ = some u) : ∀ (d : Da.Dt) (v : Value), Da.IsDt w Q d v → Da.IsDt w' Q' d v
  | .mk k n s m l t, v, h => by
    simp only [Da.IsDt] at h ⊢
    obtain ⟨h1, h2, h3, am, cm, al, cl, at_, ct, hv, hm, hl, hls, ht, hts⟩ := h
    exact ⟨h1, h2, h3, am, cm, al, cl, at_, ct, hv, introw_keep hm hQ hk, hl, isDts_keep2 hQ hk al l 0 hls, ht, isDts_keep2 hQ hk at_ t 0 hts⟩
theorem isDts_keep2 {w w' : World} {Q Q' : Nat → Prop} (hQ : ∀ b, Q b → Q' b) (hk : ∀ b o u, Q b → w.cell? ⟨b, o, none⟩ = some u → w'.cell? ⟨b, o, none⟩ = some u) (a : Option Addr) : ∀ (l : List Da.Dt) (i : Nat), Da.IsDts w Q a i l → Da.IsDts w' Q' a i l
  | [], _, _ => by simp only [Da.IsDts]
  | d :: r, i, h => by
    simp only [Da.IsDts] at h ⊢
    obtain ⟨⟨b, off, x0, x1, x2, x3, x4, x5, ha, hb, hx, hd⟩, hr⟩ := h
    exact ⟨⟨b, off, x0, x1, x2, x3, x4, x5, ha, hQ b hb, six_keep2 hx (fun o u hu => hk b o u hb hu), isDt_keep2 hQ hk d _ hd⟩, isDts_keep2 hQ hk a r (i + 1) hr⟩
end
/-- The eight cells of a scope. -/
def rrow (r : Row) (c : List Value) : List Value := .int .i64 (r.par : Int) :: (c ++ [.int .i64 r.what])
def rrows (l : List Row) (cs : List (List Value)) : List Value := (List.zipWith rrow l cs).flatten
theorem rrows_snoc {l : List Row} {cs : List (List Value)} {r : Row} {c : List Value} (h : cs.length = l.length) : rrows (l ++ [r]) (cs ++ [c]) = rrows l cs ++ rrow r c := by
  unfold rrows
  rw [List.zipWith_append h.symm, List.flatten_append]
  simp
theorem rrow_len {r : Row} {c : List Value} (h : c.length = 6) : (rrow r c).length = 8 := by unfold rrow; simp [h]
theorem rrows_len : ∀ (l : List Row) (cs : List (List Value)), cs.length = l.length → (∀ c ∈ cs, c.length = 6) → (rrows l cs).length = l.length * 8
  | [], [], _, _ => rfl
  | r :: l, c :: cs, h, h6 => by
    show (rrow r c ++ rrows l cs).length = _
    rw [List.length_append, rrow_len (h6 c (List.mem_cons_self ..)), rrows_len l cs (by simpa using h) (fun c hc => h6 c (List.mem_cons_of_mem _ hc)), List.length_cons]
    omega
theorem rrows_at : ∀ (l : List Row) (cs : List (List Value)) (k j : Nat) (r : Row) (c : List Value), l[k]? = some r → cs[k]? = some c → (∀ c ∈ cs, c.length = 6) → j < 8 → (rrows l cs)[k * 8 + j]? = (rrow r c)[j]?
  | [], _, k, j, r, c, h, _, _, _ => by simp at h
  | _ :: _, [], k, j, r, c, _, h, _, _ => by simp at h
  | r' :: l, c' :: cs, 0, j, r, c, h1, h2, h6, hj => by
    obtain rfl : r' = r := by simpa using h1
    obtain rfl : c' = c := by simpa using h2
    show (rrow r' c' ++ rrows l cs)[0 * 8 + j]? = _
    rw [Nat.zero_mul, Nat.zero_add, List.getElem?_append_left (by rw [rrow_len (h6 c' (List.mem_cons_self ..))]; exact hj)]
  | r' :: l, c' :: cs, k + 1, j, r, c, h1, h2, h6, hj => by
    show (rrow r' c' ++ rrows l cs)[(k + 1) * 8 + j]? = _
    have hl := rrow_len (r := r') (h6 c' (List.mem_cons_self ..))
    rw [List.getElem?_append_right (by rw [hl]; omega), hl, show (k + 1) * 8 + j - 8 = k * 8 + j by omega, rrows_at l cs k j r c (by simpa using h1) (by simpa using h2) (fun c hc => h6 c (List.mem_cons_of_mem _ hc)) hj]
structure RTabAt (w : World) (rb : Nat) (T : Tab) (lv mv : Value) (cs : List (List Value)) (Q : Nat → Prop) : Prop where
  blk : Da.Blk w rb 45 #[lv, mv]
  len : cs.length = T.rows.length
  six : ∀ c ∈ cs, c.length = 6
  rows : w.ownsRow 0 68 8 lv T.rows.length (rrows T.rows cs)
  marks : w.ownsRow 0 3 1 mv T.marks.length (marksC T.marks)
  dat : ∀ i c r, 0 < i → cs[i]? = some c → T.rows[i]? = some r → Da.IsDt w Q (dtI r.id) (.agg c.toArray)
  lt : ∀ k, Q k → k < w.heap.size
  out : ∀ k, Q k → k ≠ rb ∧ lv.ownBlock ≠ some k ∧ mv.ownBlock ≠ some k
def Own2 (rb : Nat) (lv mv : Value) (k : Nat) : Prop := k = rb ∨ lv.ownBlock = some k ∨ mv.ownBlock = some k
def RTabIn (w : World) (rb : Nat) (T : Tab) (R : Nat → Prop) : Prop := ∃ lv mv cs Q, RTabAt w rb T lv mv cs Q ∧ (∀ k, Q k → R k) ∧ ∀ k, Own2 rb lv mv k → R k
theorem RTabAt.apart {w : World} {rb : Nat} {T : Tab} {lv mv : Value} {cs : List (List Value)} {Q : Nat → Prop} (h : RTabAt w rb T lv mv cs Q) :
    lv.ownBlock ≠ some rb ∧ mv.ownBlock ≠ some rb ∧ (∀ k, lv.ownBlock = some k → mv.ownBlock ≠ some k) ∧ (∀ k, Own2 rb lv mv k → k < w.heap.size) := by
  have h0 := h.blk
  unfold Da.Blk at h0
  refine ⟨fun e => ?_, fun e => ?_, fun k e e2 => ?_, fun k hk => ?_⟩
  · obtain ⟨cur, hc⟩ := own_row h.rows e
    rw [h0] at hc
    injection hc with hc; injection hc with _ ht; exact absurd ht (by decide)
  · obtain ⟨cur, hc⟩ := own_row h.marks e
    rw [h0] at hc
    injection hc with hc; injection hc with _ ht; exact absurd ht (by decide)
  · obtain ⟨cur, hc⟩ := own_row h.rows e
    obtain ⟨cur2, hc2⟩ := own_row h.marks e2
    rw [hc] at hc2
    injection hc2 with hc2; injection hc2 with _ ht; exact absurd ht (by decide)
  · rcases hk with rfl | hk | hk
    · exact (Array.getElem?_eq_some_iff.1 h.blk).1
    · exact (h.rows.lt k hk).2
    · exact (h.marks.lt k hk).2
theorem dat_same {w w' : World} {Q Q' : Nat → Prop} {d : Da.Dt} {v : Value} (h : Da.IsDt w Q d v) (hQ : ∀ k, Q k → Q' k) (hb : ∀ k, Q k → w'.heap[k]? = w.heap[k]?) : Da.IsDt w' Q' d v :=
  isDt_keep2 hQ (fun b o u hq hu => (World.cell?_of_block (a := ⟨b, o, none⟩) (w := w) (hb b hq)).trans hu) d v h
theorem RTabAt.same {w w' : World} {rb : Nat} {T : Tab} {lv mv : Value} {cs : List (List Value)} {Q : Nat → Prop} (h : RTabAt w rb T lv mv cs Q) (hs : w.heap.size ≤ w'.heap.size) (hb : ∀ k, Own2 rb lv mv k ∨ Q k → w'.heap[k]? = w.heap[k]?) : RTabAt w' rb T lv mv cs Q where
  blk := (hb rb (.inl (.inl rfl))).trans h.blk
  len := h.len
  six := h.six
  rows := ownsRow_same h.rows (fun g hg => hb g (.inl (.inr (.inl hg))))
  marks := ownsRow_same h.marks (fun g hg => hb g (.inl (.inr (.inr hg))))
  dat := fun i c r hi h1 h2 => dat_same (h.dat i c r hi h1 h2) (fun _ h => h) (fun k hk => hb k (.inr hk))
  lt := fun k hk => Nat.lt_of_lt_of_le (h.lt k hk) hs
  out := h.out
theorem RTabIn.bel {w w' : World} {rb : Nat} {T : Tab} {R : Nat → Prop} (h : RTabIn w rb T R) (hb : Below w.heap.size w w') : RTabIn w' rb T R := by
  obtain ⟨lv, mv, cs, Q, h1, h2, h3⟩ := h
  exact ⟨lv, mv, cs, Q, h1.same hb.size (fun k hk => hb.block k (by
    rcases hk with hk | hk
    · exact h1.apart.2.2.2 k hk
    · exact h1.lt k hk)), h2, h3⟩
theorem RTabIn.chg {w w' : World} {rb : Nat} {T : Tab} {R O : Nat → Prop} (h : RTabIn w rb T R) (hc : Chg O w w') (hO : ∀ k, R k → ¬ O k) : RTabIn w' rb T R := by
  obtain ⟨lv, mv, cs, Q, h1, h2, h3⟩ := h
  exact ⟨lv, mv, cs, Q, h1.same hc.size (fun k hk => by
    rcases hk with hk | hk
    · exact hc.block k (h1.apart.2.2.2 k hk) (hO k (h3 k hk))
    · exact hc.block k (h1.lt k hk) (hO k (h2 k hk))), h2, h3⟩
theorem RTabIn.more {w : World} {rb : Nat} {T : Tab} {R R' : Nat → Prop} (h : RTabIn w rb T R) (hR : ∀ k, R k → R' k) : RTabIn w rb T R' := by
  obtain ⟨lv, mv, cs, Q, h1, h2, h3⟩ := h
  exact ⟨lv, mv, cs, Q, h1, fun k hk => hR k (h2 k hk), fun k hk => hR k (h3 k hk)⟩
/-- All its blocks are there. -/
theorem RTabIn.in_ {w : World} {rb : Nat} {T : Tab} {R : Nat → Prop} (h : RTabIn w rb T R) : RTabIn w rb T (fun k => R k ∧ k < w.heap.size) := by
  obtain ⟨lv, mv, cs, Q, h1, h2, h3⟩ := h
  exact ⟨lv, mv, cs, Q, h1, fun k hk => ⟨h2 k hk, h1.lt k hk⟩, fun k hk => ⟨h3 k hk, h1.apart.2.2.2 k hk⟩⟩
theorem TabIn.in_ {w : World} {tb : Nat} {T : Tab} {O : Nat → Prop} (h : TabIn w tb T O) : TabIn w tb T (fun k => O k ∧ k < w.heap.size) := by
  obtain ⟨vs, vm, bm, h1, h2⟩ := h
  exact ⟨vs, vm, bm, h1, fun k hk => ⟨h2 k hk, h1.lt k hk⟩⟩
/-- A mark more. -/
theorem rmark_table {w w1 : World} {rb s : Nat} {T : Tab} {lv mv v' : Value} {cs : List (List Value)} {Q : Nat → Prop} {o : Obj} (h : RTabAt w rb T lv mv cs Q)
    (hown : w1.ownsRow 0 3 1 v' (T.marks.length + 1) (marksC T.marks ++ [.int .i64 (s : Int)])) (hg : (w.alloc o).grownBy w1 mv.ownBlock) (hat : v'.ownBlock = mv.ownBlock ∨ v'.ownBlock = some (w.alloc o).heap.size) :
    RTabAt (w1.setCell ⟨rb, 1, none⟩ v') rb (T.mk_ s) lv v' cs Q ∧ Chg (Own2 rb lv mv) w (w1.setCell ⟨rb, 1, none⟩ v') ∧ ∀ k, Own2 rb lv v' k → Own2 rb lv mv k ∨ w.heap.size ≤ k := by
  obtain ⟨a1, a2, a3, a4⟩ := h.apart
  have hsz : (w.alloc o).heap.size = w.heap.size + 1 := by simp
  have keep : ∀ k, k < w.heap.size → mv.ownBlock ≠ some k → w1.heap[k]? = w.heap[k]? := fun k hk hn =>
    (hg.block k (by omega) (fun e => hn e.symm)).trans (Below.heap_alloc _ _ _ hk)
  have hv' : v'.ownBlock ≠ some rb := by
    rcases hat with e | e
    · rw [e]; exact a2
    · rw [e, hsz]; intro e2; have := a4 rb (.inl rfl); injection e2 with e2; omega
  have kp : ∀ k, k < w.heap.size → ¬ Own2 rb lv mv k → (w1.setCell ⟨rb, 1, none⟩ v').heap[k]? = w.heap[k]? := fun k hk hn => by
    rw [Below.heap_setCell _ _ _ _ (fun e => hn (.inl e)), keep k hk (fun e => hn (.inr (.inr e)))]
  have hsw : w.heap.size ≤ (w1.setCell ⟨rb, 1, none⟩ v').heap.size := by
    have := hg.size
    have e : (w1.setCell ⟨rb, 1, none⟩ v').heap.size = w1.heap.size := by simp
    omega
  refine ⟨⟨?_, h.len, h.six, ?_, ?_, fun i c r hi h1 h2 => ?_, fun k hk => Nat.lt_of_lt_of_le (h.lt k hk) hsw, fun k hk => ?_⟩, ⟨hg.os, hg.tape, hg.output, hsw, kp⟩, ?_⟩
  · have h1 : w1.heap[rb]? = some (.cells #[lv, mv] 45 (0, 0)) := (keep rb (a4 rb (.inl rfl)) a2).trans h.blk
    exact heap_setCell_same w1 rb 1 #[lv, mv] 45 v' h1
  · refine ownsRow_same h.rows (fun g hgv => ?_)
    rw [Below.heap_setCell _ _ _ _ (by show g ≠ rb; intro e; rw [e] at hgv; exact a1 hgv)]
    exact keep g (a4 g (.inr (.inl hgv))) (a3 g hgv)
  · rw [show (T.mk_ s).marks = T.marks ++ [s] from rfl, marksC_snoc, List.length_append]
    exact ownsRow_same hown (fun g hgv => Below.heap_setCell _ _ _ _ (by show g ≠ rb; intro e; rw [e] at hgv; exact hv' hgv))
  · exact dat_same (h.dat i c r hi h1 h2) (fun _ h => h) (fun k hk => kp k (h.lt k hk) (fun ho => by
      obtain ⟨o1, o2, o3⟩ := h.out k hk
      rcases ho with e | e | e
      · exact o1 e
      · exact o2 e
      · exact o3 e))
  · obtain ⟨o1, o2, o3⟩ := h.out k hk
    refine ⟨o1, o2, fun e => ?_⟩
    rcases hat with e2 | e2
    · exact o3 (e2 ▸ e)
    · rw [e2] at e; have := h.lt k hk; injection e with e; omega
  · rintro k (h1 | h1 | h1)
    · exact .inl (.inl h1)
    · exact .inl (.inr (.inl h1))
    · rcases hat with e | e
      · exact .inl (.inr (.inr (e ▸ h1)))
      · rw [e] at h1; injection h1 with h1; exact .inr (by omega)
/-- A scope more: behind a step that made memory for its name. -/
theorem rext_table {w w2 w1 : World} {rb s : Nat} {T : Tab} {x : Idn} {what : Int} {lv mv v' : Value} {cs : List (List Value)} {c : List Value} {Q : Nat → Prop} {o : Obj} (h : RTabAt w rb T lv mv cs Q) (hT : T.Ok) (hb2 : Below w.heap.size w w2)
    (hc6 : c.length = 6) (hc : Da.IsDt w2 (Da.Rg w.heap.size w2.heap.size) (dtI x) (.agg c.toArray))
    (hown : w1.ownsRow 0 68 8 v' (T.rows.length + 1) (rrows T.rows cs ++ rrow ⟨s, x, what⟩ c)) (hg : (w2.alloc o).grownBy w1 lv.ownBlock) (hat : v'.ownBlock = lv.ownBlock ∨ v'.ownBlock = some (w2.alloc o).heap.size) :
    RTabAt (w1.setCell ⟨rb, 0, none⟩ v') rb (T.ext s x what) v' mv (cs ++ [c]) (fun k => Q k ∨ Da.Rg w.heap.size w2.heap.size k) ∧ Chg (Own2 rb lv mv) w (w1.setCell ⟨rb, 0, none⟩ v') ∧ (∀ k, Own2 rb v' mv k → Own2 rb lv mv k ∨ w.heap.size ≤ k) := by
  obtain ⟨a1, a2, a3, a4⟩ := h.apart
  have hs2 := hb2.size
  have hsz : (w2.alloc o).heap.size = w2.heap.size + 1 := by simp
  have keep2 : ∀ k, k < w2.heap.size → lv.ownBlock ≠ some k → w1.heap[k]? = w2.heap[k]? := fun k hk hn =>
    (hg.block k (by omega) (fun e => hn e.symm)).trans (Below.heap_alloc _ _ _ hk)
  have keep : ∀ k, k < w.heap.size → lv.ownBlock ≠ some k → w1.heap[k]? = w.heap[k]? := fun k hk hn => (keep2 k (by omega) hn).trans (hb2.block k hk)
  have hv' : v'.ownBlock ≠ some rb := by
    rcases hat with e | e
    · rw [e]; exact a1
    · rw [e, hsz]; intro e2; have := a4 rb (.inl rfl); injection e2 with e2; omega
  have kp : ∀ k, k < w.heap.size → ¬ Own2 rb lv mv k → (w1.setCell ⟨rb, 0, none⟩ v').heap[k]? = w.heap[k]? := fun k hk hn => by
    rw [Below.heap_setCell _ _ _ _ (fun e => hn (.inl e)), keep k hk (fun e => hn (.inr (.inl e)))]
  have hsw : w2.heap.size ≤ (w1.setCell ⟨rb, 0, none⟩ v').heap.size := by
    have := hg.size
    have e : (w1.setCell ⟨rb, 0, none⟩ v').heap.size = w1.heap.size := by simp
    omega
  have hlo : ∀ k, lv.ownBlock = some k → k < w.heap.size := fun k hk => a4 k (.inr (.inl hk))
  refine ⟨⟨?_, ?_, ?_, ?_, ?_, ?_, ?_, ?_⟩, ⟨hg.os.trans hb2.os, hg.tape.trans hb2.tape, hg.output.trans hb2.output, by omega, kp⟩, ?_⟩
  · have h1 : w1.heap[rb]? = some (.cells #[lv, mv] 45 (0, 0)) := (keep rb (a4 rb (.inl rfl)) a1).trans h.blk
    exact heap_setCell_same w1 rb 0 #[lv, mv] 45 v' h1
  · rw [List.length_append, h.len, ext_len]; rfl
  · intro c' hc'
    rcases List.mem_append.1 hc' with h1 | h1
    · exact h.six c' h1
    · obtain rfl : c' = c := by simpa using h1
      exact hc6
  · rw [show (T.ext s x what).rows = T.rows ++ [⟨s, x, what⟩] from rfl, rrows_snoc h.len, List.length_append]
    exact ownsRow_same hown (fun g hgv => Below.heap_setCell _ _ _ _ (by show g ≠ rb; intro e; rw [e] at hgv; exact hv' hgv))
  · refine ownsRow_same h.marks (fun g hgv => ?_)
    rw [Below.heap_setCell _ _ _ _ (by show g ≠ rb; intro e; rw [e] at hgv; exact a2 hgv)]
    exact keep g (a4 g (.inr (.inr hgv))) (fun e => a3 g e hgv)
  · intro i c' r hi h1 h2
    rw [show (T.ext s x what).rows = T.rows ++ [⟨s, x, what⟩] from rfl] at h2
    rcases Nat.lt_or_ge i T.rows.length with hl | hl
    · rw [List.getElem?_append_left (by rw [h.len]; exact hl)] at h1
      rw [List.getElem?_append_left hl] at h2
      exact dat_same (h.dat i c' r hi h1 h2) (fun _ h => .inl h) (fun k hk => kp k (h.lt k hk) (fun ho => by
        obtain ⟨o1, o2, o3⟩ := h.out k hk
        rcases ho with e | e | e
        · exact o1 e
        · exact o2 e
        · exact o3 e))
    · rw [List.getElem?_append_right hl] at h2
      rw [List.getElem?_append_right (by rw [h.len]; exact hl), h.len] at h1
      rcases hj : i - T.rows.length with _ | j
      · rw [hj] at h1 h2
        obtain rfl : c = c' := by simpa using h1
        obtain rfl : (⟨s, x, what⟩ : Row) = r := by simpa using h2
        refine dat_same hc (fun _ h => .inr h) (fun k hk => ?_)
        have hk1 := hk.1
        have hk2 := hk.2
        rw [Below.heap_setCell _ _ _ _ (by show k ≠ rb; intro e; have := a4 rb (.inl rfl); omega)]
        exact keep2 k hk2 (fun e => by have := hlo k e; omega)
      · rw [hj] at h1; simp at h1
  · rintro k (hk | hk)
    · have := h.lt k hk; omega
    · have := hk.2; omega
  · rintro k (hk | hk)
    · obtain ⟨o1, o2, o3⟩ := h.out k hk
      refine ⟨o1, fun e => ?_, o3⟩
      rcases hat with e2 | e2
      · exact o2 (e2 ▸ e)
      · rw [e2] at e; have := h.lt k hk; injection e with e; omega
    · have hk1 := hk.1
      have hk2 := hk.2
      refine ⟨fun e => by have := a4 rb (.inl rfl); omega, fun e => ?_, fun e => by have := a4 k (.inr (.inr e)); omega⟩
      rcases hat with e2 | e2
      · have := hlo k (e2 ▸ e); omega
      · rw [e2] at e; injection e with e; omega
  · rintro k (h1 | h1 | h1)
    · exact .inl (.inl h1)
    · rcases hat with e | e
      · exact .inl (.inr (.inl (e ▸ h1)))
      · rw [e] at h1; injection h1 with h1; exact .inr (by omega)
    · exact .inl (.inr (.inr h1))
end Go.Proofs.Ytapnighankepjaa.Sc
end
section
namespace Go.Proofs.Ytapnighankepjaa.Sc
open Go.ChangeShapes Go.WideShapes Go.ChangeAt Go.RowKit
set_option linter.unusedVariables false
set_option linter.unusedSimpArgs false

theorem rhas_any (rb : Nat) (a : Option Addr) (n c : Nat) (s : Int) (w : World) (h0 : w.cell? ⟨rb, 0, none⟩ = some (.slice a n c)) :
    Calls Try.prog 40 #[.pointer (some ⟨rb, 0, none⟩), .int .i64 s] w fun e w' => e = .returned (.bool (decide (0 ≤ s) && decide (s < (n : Int)))) ∧ w = w' := by
  by_cases h1 : 0 ≤ s
  · have d1 : decide (s ≥ 0) = true := decide_eq_true h1
    have d1' : decide (0 ≤ s) = true := decide_eq_true h1
    rw [d1']
    by_cases h2 : s < (n : Int)
    · have d2 : decide (s < (n : Int)) = true := decide_eq_true h2
      rw [d2]
      clear h1 h2
      go_enter Try.func40, Try.ntmps40
      go_wp2_with fail
      go_ret
      exact ⟨rfl, rfl⟩
    · have d2 : decide (s < (n : Int)) = false := decide_eq_false h2
      rw [d2]
      clear h1 h2
      go_enter Try.func40, Try.ntmps40
      go_wp2_with fail
      go_ret
      exact ⟨rfl, rfl⟩
  · have d1 : decide (s ≥ 0) = false := decide_eq_false h1
    have d1' : decide (0 ≤ s) = false := decide_eq_false h1
    rw [d1']
    clear h1
    go_enter Try.func40, Try.ntmps40
    go_wp2_with fail
    go_ret
    exact ⟨rfl, rfl⟩
theorem rsym_any (d : Da.Dt) (v : Value) (B : Nat) (w : World) (hd : Da.IsDt w (Da.Lo B) d v) (hB : B ≤ w.heap.size) :
    Calls Try.prog 41 #[v] w fun e w' => e = .returned (.bool (decide (IsSym d))) ∧ Below w.heap.size w w' := by
  have HD := Lib.hid hd
  obtain ⟨am, cm, al, cl, at_, ct, rfl, _⟩ := hd.open_
  have hbX : Below w.heap.size w (w.alloc (.cells #[.int .i64 d.K, .int .i64 d.N, .string d.S, .slice am d.M.length cm, .slice al d.L.length cl, .slice at_ d.T.length ct] 33)) := (Below.refl _ _).alloc (Nat.le_refl _) _
  have HBX := Lib.hid hbX
  have HRC := Lib.hid (Da.rcheck_any d _ B _ (HD.out.below (hbX.mono hB)) (Nat.le_trans hB hbX.size))
  clear hd hbX
  by_cases h5 : d.K = 5
  · have d5 : (d.K == 5) = true := by rw [h5]; rfl
    have HK : ∀ b, (Da.chk d == 0) = b → Hid (decide (IsSym d) = b) := fun b hb => Lib.hid (by
      rw [← hb]
      by_cases hc : Da.chk d = 0
      · rw [decide_eq_true (show IsSym d from ⟨h5, hc⟩), hc]; rfl
      · rw [decide_eq_false (show ¬ IsSym d from fun h => hc h.2), beq_eq_false_iff_ne.2 hc])
    clear h5
    go_enter Try.func41, Try.ntmps41
    go_wp2_with fail
    refine HRC.out.mono ?_
    rintro e w2 ⟨rfl, hb2⟩
    have HB2 := Lib.hid (HBX.out.trans (hb2.mono HBX.out.size))
    clear hb2 HRC
    obtain ⟨b, hb⟩ : ∃ b, (Da.chk d == 0) = b := ⟨_, rfl⟩
    have HKB := HK b hb
    clear HK
    generalize Da.chk d = k at hb
    go_wp2_with fail
    go_ret
    exact ⟨by rw [HKB.out]; rfl, HB2.out⟩
  · have d5 : (d.K == 5) = false := beq_eq_false_iff_ne.2 h5
    have HK : Hid (decide (IsSym d) = false) := Lib.hid (decide_eq_false (fun h => h5 h.1))
    clear h5 HRC
    go_enter Try.func41, Try.ntmps41
    go_wp2_with fail
    go_ret
    exact ⟨by rw [HK.out]; rfl, HBX.out⟩
def scZ : Array Value := #[.int .i64 0, .int .i64 0, .int .i64 0, .string ⟨#[]⟩, .slice none 0 0, .slice none 0 0, .slice none 0 0, .int .i64 0]
def six0 : List Value := [.int .i64 0, .int .i64 0, .string ⟨#[]⟩, .slice none 0 0, .slice none 0 0, .slice none 0 0]
theorem rnew_tab (w : World) : RTabIn ((w.alloc (.cells scZ 68)).alloc (.cells #[.slice (some ⟨w.heap.size, 0, none⟩) 1 1, .slice none 0 0] 45)) (w.heap.size + 1) Tab.new (fun k => w.heap.size ≤ k) := by
  obtain ⟨n1, n2⟩ := two_new w scZ #[.slice (some ⟨w.heap.size, 0, none⟩) 1 1, .slice none 0 0] 68 45
  refine ⟨_, _, [six0], fun _ => False, ⟨n2, rfl, fun c hc => ?_, ?_, World.ownsRow_nil _ _ _ _, fun i c r hi h1 h2 => ?_, fun k hk => hk.elim, fun k hk => hk.elim⟩, fun k hk => hk.elim, fun k hk => ?_⟩
  · obtain rfl : c = six0 := by simpa using hc
    rfl
  · have h := World.ownsRow_lit (base := 0) (e := 68) (size := 8) w scZ 1 (Nat.zero_le _) (by decide) (by rfl)
    have h2 : ((w.alloc (.cells scZ 68)).alloc (.cells #[.slice (some ⟨w.heap.size, 0, none⟩) 1 1, .slice none 0 0] 45)).ownsRow 0 68 8 (.slice (some ⟨w.heap.size, 0, none⟩) 1 1) 1 scZ.toList := h.alloc _
    exact h2
  · rcases i with _ | i
    · omega
    · simp at h1
  · rcases hk with rfl | hk | hk
    · omega
    · have : k = w.heap.size := (Option.some.inj hk).symm
      omega
    · cases hk
theorem rnew_any (w : World) : Calls Try.prog 7 #[] w fun e w' => e = .returned (.pointer (some ⟨w.heap.size + 1, 0, none⟩)) ∧ RTabIn w' (w.heap.size + 1) Tab.new (fun k => w.heap.size ≤ k) ∧ Below w.heap.size w w' := by
  go_enter Try.func7, Try.ntmps7
  go_wp2_with fail
  go_ret
  exact ⟨rfl, rnew_tab w, bel_two w _ _⟩
end Go.Proofs.Ytapnighankepjaa.Sc
end
section
namespace Go.Proofs.Ytapnighankepjaa.Sc
open Go.ChangeShapes Go.WideShapes Go.ChangeAt Go.RowKit
set_option linter.unusedVariables false
set_option linter.unusedSimpArgs false

theorem hasB {n : Nat} {s : Int} (hn : 0 < n) : (decide (0 ≤ s) && decide (s < (n : Int))) = (chkE n s == 0) := by
  unfold chkE
  rw [if_neg (by omega)]
  by_cases h : s < 0 ∨ (n : Int) ≤ s
  · rw [if_pos h]
    rcases h with h | h
    · rw [decide_eq_false (by omega : ¬ 0 ≤ s)]; rfl
    · rw [decide_eq_false (by omega : ¬ s < (n : Int)), Bool.and_false]; rfl
  · rw [if_neg h, decide_eq_true (by omega : 0 ≤ s), decide_eq_true (by omega : s < (n : Int))]; rfl
theorem chk50 {n : Nat} {s : Int} (hn : 0 < n) (h : chkE n s ≠ 0) : chkE n s = 50 := by
  unfold chkE at h ⊢
  rw [if_neg (by omega)] at h ⊢
  split at h
  · rw [if_pos (by assumption)]
  · exact absurd rfl h
theorem rchg_bel {w w' : World} {rb : Nat} {T : Tab} {R : Nat → Prop} (h : RTabIn w rb T R) (hb : Below w.heap.size w w') : RTabIn w' rb T (fun k => R k ∨ w.heap.size ≤ k) ∧ Chg R w w' := ⟨(h.bel hb).more (fun k hk => .inl hk), .of_below _ hb⟩
set_option maxRecDepth 100000 in
set_option maxHeartbeats 4000000 in
theorem rmark_all (rb : Nat) (T : Tab) (R : Nat → Prop) (s : Int) (w : World) (hT : T.Ok) (h : RTabIn w rb T R) :
    Calls Try.prog 22 #[.pointer (some ⟨rb, 0, none⟩), .int .i64 s] w fun e w' => e = .returned (.tuple #[.int .i64 (markN T s : Int), .int .i64 (markE T s)]) ∧
      RTabIn w' rb (markT T s) (fun k => R k ∨ w.heap.size ≤ k) ∧ Chg R w w' := by
  obtain ⟨i0, hi, hz0, hz1, hz2⟩ := info_parts info_int
  have H := Lib.hid h
  obtain ⟨lv, mv, cs, Q, ht, hQ, hO⟩ := h
  obtain ⟨a, c, rfl⟩ := slice_of ht.rows
  obtain ⟨ma, mc, rfl⟩ := slice_of ht.marks
  have c0 : w.cell? ⟨rb, 0, none⟩ = some (.slice a T.rows.length c) := (ht.blk.cell 0).trans rfl
  have c1 : w.cell? ⟨rb, 1, none⟩ = some (.slice ma T.marks.length mc) := (ht.blk.cell 1).trans rfl
  have HAS := Lib.hid (rhas_any rb a T.rows.length c s w c0)
  have hpos := hT.pos
  have hfew := hT.fewM
  by_cases hc : chkE T.rows.length s = 0
  · obtain ⟨k, rfl, hk⟩ := chk_ok (by omega) hc
    have hb : (decide (0 ≤ (k : Int)) && decide ((k : Int) < (T.rows.length : Int))) = true := by rw [hasB hpos, hc]; rfl
    rw [hb] at HAS
    by_cases hf : T.marks.length = 16384
    · have e : markE T (k : Int) = 7 := by unfold markE; rw [if_neg (by simpa using hc), if_pos hf]
      unfold markN markT
      rw [e, if_neg (by decide), if_neg (by decide)]
      rw [hf] at c1
      clear ht hQ hO hc hk hb e hf c0 hpos hfew
      go_enter Try.func22, Try.ntmps22
      go_wp2_with fail
      refine HAS.out.mono ?_
      rintro e w2 ⟨rfl, rfl⟩
      go_wp2_with fail
      go_ret2
      exact ⟨rfl, rchg_bel H.out (Below.refl _ _)⟩
    · have e : markE T (k : Int) = 0 := by unfold markE; rw [if_neg (by simpa using hc), if_neg hf]
      unfold markN markT
      rw [e, if_pos rfl, if_pos rfl]
      have d1 : decide ((T.marks.length : Int) ≥ 16384) = false := decide_eq_false (by omega)
      have d2 : decide (16384 ≤ T.marks.length) = false := decide_eq_false (by omega)
      have d3 : decide ((16384 : Int) ≤ (T.marks.length : Int)) = false := decide_eq_false (by omega)
      have hltm : rb < w.heap.size := ht.apart.2.2.2 rb (.inl rfl)
      have HAP := Lib.hid ht.apart.2.1
      have HM := Lib.hid ht.marks
      have HT := Lib.hid ht
      have HQO := Lib.hid (And.intro hQ hO)
      have f1 : w.frozen? ⟨rb, 1, none⟩ = false := ht.blk.frozen 1
      have N1 : Hid (∀ j u, [Value.int .i64 (k : Int)][j]? = some u → (w.alloc (.cells #[.int .i64 (k : Int)] 3)).cell? ((⟨w.heap.size, 0, none⟩ : Addr).add j) = some u) := Lib.hid (fun j u hu => by
        rw [Ld.add_at, Nat.zero_add, cell_of_row _ _ _ _ _ _ (heap_alloc_new w (.cells #[.int .i64 (k : Int)] 3))]
        simpa using hu)
      have N2 : Hid (∀ u ∈ [Value.int .i64 (k : Int)], u.oneCell' = true) := Lib.hid (fun u hu => by
        obtain rfl : u = .int .i64 (k : Int) := by simpa using hu
        rfl)
      have N3 : Hid (T.marks.length + 1 ≤ maxLen ∧ (T.marks.length + 1) * 8 ≤ 140737488355328) := Lib.hid (by unfold maxLen; omega)
      clear ht hQ hO hc hk hb e hf c0 hpos hfew
      go_enter Try.func22, Try.ntmps22
      go_wp2_with fail
      refine HAS.out.mono ?_
      rintro e w2 ⟨rfl, rfl⟩
      go_wp2_with (at_builtin; (refine wpList_append_own_at _ rfl (.tmp 20) (.tmp 22) _ rfl 0 3 i0 _ 1 8 Try.underlying30 hi hz0 hz1 hz2 rfl (Nat.zero_lt_one) _ T.marks.length (marksC T.marks) rfl (HM.out.alloc _) ⟨w.heap.size, 0, none⟩ 1 1 [.int .i64 (k : Int)] rfl rfl N1.out N2.out N3.out.1 N3.out.2 (Nat.zero_le _) ?_; intro v1 w1 hown1 hg1 hn1 hat1; obtain ⟨va, vc, rfl⟩ := slice_of hown1; have hbk : Da.Blk w1 rb 45 #[.slice a T.rows.length c, .slice ma T.marks.length mc] := (hg1.block rb (by rw [World.size_alloc]; exact Nat.lt_succ_of_lt hltm) (fun e => HAP.out e.symm)).trans ((Below.heap_alloc _ _ _ hltm).trans HT.out.blk); have k1 : w1.cell? ⟨rb, 1, none⟩ = some (.slice ma T.marks.length mc) := (hbk.cell 1).trans rfl; have k2 : w1.frozen? ⟨rb, 1, none⟩ = false := hbk.frozen 1; have HE := Lib.hid (And.intro hown1 (And.intro hg1 hat1)); clear hown1 hg1 hn1 hat1 hbk))
      go_ret2
      obtain ⟨hown1, hg1, hat1⟩ := HE.out
      obtain ⟨r1, r2, r3⟩ := rmark_table (s := k) HT.out hown1 hg1 hat1
      refine ⟨by simp, ⟨_, _, cs, Q, r1, fun j hj => .inl (HQO.out.1 j hj), fun j hj => ?_⟩, r2.mono HQO.out.2⟩
      rcases r3 j hj with h1 | h1
      · exact .inl (HQO.out.2 j h1)
      · exact .inr h1
  · have h50 := chk50 hpos hc
    have e : markE T s = 50 := by unfold markE; rw [if_pos hc, h50]
    have hb : (decide (0 ≤ s) && decide (s < (T.rows.length : Int))) = false := by rw [hasB hpos]; exact beq_eq_false_iff_ne.2 hc
    rw [hb] at HAS
    unfold markN markT
    rw [e, if_neg (by decide), if_neg (by decide)]
    clear ht hQ hO hc hb e h50 c0 c1 hpos hfew
    go_enter Try.func22, Try.ntmps22
    go_wp2_with fail
    refine HAS.out.mono ?_
    rintro e w2 ⟨rfl, rfl⟩
    go_wp2_with fail
    go_ret2
    exact ⟨rfl, rchg_bel H.out (Below.refl _ _)⟩
end Go.Proofs.Ytapnighankepjaa.Sc
end
section
namespace Go.Proofs.Ytapnighankepjaa.Sc
open Go.ChangeShapes Go.WideShapes Go.ChangeAt Go.RowKit
set_option linter.unusedVariables false
set_option linter.unusedSimpArgs false

theorem info_sc : (Try.prog.info? 68).map (fun i => (i.zero, i.size, i.bytes)) = some (some (.agg scZ), 8, 120) := by kernel_rfl
theorem built_sc (s : Nat) (what : Int) (x : Idn) (d : Da.Dt) (c : Sx) : Try.prog.built 68 [(0, .int .i64 (s : Int)), (1, .agg (sixL d c).toArray), (2, .int .i64 what)] = some (rrow ⟨s, x, what⟩ (sixL d c)).toArray := by kernel_rfl
set_option maxRecDepth 100000 in
theorem run_bslSc (w : World) (s : Nat) (x : Idn) (what : Int) (d : Da.Dt) (c : Sx) : (Instr.buildSlice 43 1 #[(0, .agg (rrow ⟨s, x, what⟩ (sixL d c)).toArray)]).run Try.prog w = .ok (.slice (some ⟨w.heap.size, 0, none⟩) 1 1) (w.alloc (.cells (rrow ⟨s, x, what⟩ (sixL d c)).toArray 68)) := by kernel_rfl
theorem wp_bslSc {o : Oper} {a : Act} {w : World} {K : Act → World → Prop} {Q : Exit → Act → World → Prop} (y : Operand) (s : Nat) (x : Idn) (what : Int) (d : Da.Dt) (c : Sx) (ho : o.op = .buildSlice 43 1 #[(0, y)]) (hy : a.eval y = .agg (rrow ⟨s, x, what⟩ (sixL d c)).toArray)
    (h : K (a.put o.dst (.slice (some ⟨w.heap.size, 0, none⟩) 1 1)) (w.alloc (.cells (rrow ⟨s, x, what⟩ (sixL d c)).toArray 68))) : o.wp Try.prog a w K Q := by
  unfold Oper.wp execOp
  simp only [ho, List.map_toArray, List.map_cons, List.map_nil, hy, Sem.run_bind, run_bslSc, Result.andThen_ok]
  exact h
theorem rrow_one (s : Nat) (x : Idn) (what : Int) (d : Da.Dt) (c : Sx) : ∀ u ∈ rrow ⟨s, x, what⟩ (sixL d c), u.oneCell' = true := by
  intro u hu
  unfold rrow sixL at hu
  simp only [List.cons_append, List.nil_append, List.mem_cons, List.not_mem_nil, or_false] at hu
  rcases hu with rfl | rfl | rfl | rfl | rfl | rfl | rfl | rfl <;> rfl
theorem sym_dtI {d : Da.Dt} (h : IsSym d) : dtI (idn d) = d := by
  obtain ⟨n1, l1, t1⟩ := sym_rest h
  obtain ⟨k1, _⟩ := h
  obtain ⟨k, n, s, m, l, t⟩ := d
  simp only [Da.Dt.K, Da.Dt.N, Da.Dt.L, Da.Dt.T] at k1 n1 l1 t1
  subst k1 n1 l1 t1
  rfl
set_option maxRecDepth 100000 in
set_option maxHeartbeats 8000000 in
theorem rext_all (rb : Nat) (T : Tab) (R : Nat → Prop) (s what : Int) (d0 : Da.Dt) (v : Value) (w : World) (hd : Da.IsDt w (Da.Lo w.heap.size) d0 v) (hT : T.Ok) (h : RTabIn w rb T R) :
    Calls Try.prog 21 #[.pointer (some ⟨rb, 0, none⟩), .int .i64 s, v, .int .i64 what] w fun e w' => e = .returned (.tuple #[.int .i64 (extN T s d0 : Int), .int .i64 (extE T s d0)]) ∧
      RTabIn w' rb (extT T s d0 what) (fun k => R k ∨ w.heap.size ≤ k) ∧ Chg R w w' := by
  obtain ⟨z0, hi, hz0, hz1, hz2⟩ := info_parts info_sc
  have H := Lib.hid h
  obtain ⟨am, cm, al, cl, at_, ct, rfl, _⟩ := hd.open_
  obtain ⟨D0, hD0⟩ : ∃ D0, sixL d0 ⟨am, al, at_, cm, cl, ct⟩ = D0 := ⟨_, rfl⟩
  have HDD := Lib.hid hD0
  have hd' : Da.IsDt w (Da.Lo w.heap.size) d0 (.agg D0.toArray) := by rw [← hD0]; exact hd
  have HD := Lib.hid hd'
  have HI : Hid ((Try.prog.info? 33).map (·.size) = some D0.length) := Lib.hid (by rw [← hD0]; exact info_dt6)
  show Calls Try.prog 21 #[.pointer (some ⟨rb, 0, none⟩), .int .i64 s, .agg (sixL d0 ⟨am, al, at_, cm, cl, ct⟩).toArray, .int .i64 what] w _
  rw [hD0]
  clear hd hd' hD0 h
  obtain ⟨lv, mv, cs, Q, ht, hQ, hO⟩ := H.out
  obtain ⟨a, c, rfl⟩ := slice_of ht.rows
  have hltR : rb < w.heap.size := ht.apart.2.2.2 rb (.inl rfl)
  have c0 : w.cell? ⟨rb, 0, none⟩ = some (.slice a T.rows.length c) := (ht.blk.cell 0).trans rfl
  have n1 := one_new w D0.toArray 33
  have hbX : Below w.heap.size w (w.alloc (.cells D0.toArray 33)) := (Below.refl _ _).alloc (Nat.le_refl _) _
  have hpos := hT.pos
  have HT := Lib.hid ht
  have HQO := Lib.hid (And.intro hQ hO)
  have HTOK := Lib.hid hT
  clear ht hQ hO hT
  go_enter Try.func21, Try.ntmps21
  go_upto_region 1 with (fail)
  generalize hX : (World.alloc w _) = X
  replace n1 : Da.Blk X w.heap.size 33 D0.toArray := by rw [← hX]; exact n1
  replace hbX : Below w.heap.size w X := by rw [← hX]; exact hbX
  clear hX
  have HN1 := Lib.hid n1
  have HBX := Lib.hid hbX
  have c0X : X.cell? ⟨rb, 0, none⟩ = some (.slice a T.rows.length c) := (hbX.cell (p := ⟨rb, 0, none⟩) hltR).trans c0
  have HAS := Lib.hid (rhas_any rb a T.rows.length c s X c0X)
  have HC0 := Lib.hid c0
  clear n1 hbX c0X c0
  go_wp2_with fail
  refine HAS.out.mono ?_
  rintro e X2 ⟨rfl, rfl⟩
  clear HAS
  by_cases hc : chkE T.rows.length s = 0
  · obtain ⟨k, rfl, hk⟩ := chk_ok (by omega) hc
    have hb : (decide (0 ≤ (k : Int)) && decide ((k : Int) < (T.rows.length : Int))) = true := by rw [hasB hpos, hc]; rfl
    rw [hb]
    go_wp2_with (refine load_list (.tmp 6) 33 w.heap.size 0 D0 _ rfl rfl rfl (Ld.At.of_blk HN1.out) Try.underlying33 rfl HI.out ?_)
    refine (rsym_any d0 _ w.heap.size X (HD.out.below HBX.out) HBX.out.size).mono ?_
    rintro e w3 ⟨rfl, hb3⟩
    have HB3 := Lib.hid (HBX.out.trans (hb3.mono HBX.out.size))
    have HN3 := Lib.hid (show Da.Blk w3 w.heap.size 33 D0.toArray from (hb3.block _ (Array.getElem?_eq_some_iff.1 HN1.out).1).trans HN1.out)
    clear hb3
    by_cases hy : IsSym d0
    · rw [decide_eq_true hy]
      have HSYM := Lib.hid hy
      by_cases hf : T.rows.length = 16384
      · have e : extE T (k : Int) d0 = 7 := by unfold extE; rw [if_neg (by simpa using hc), if_neg (by simpa using hy), if_pos hf]
        have HEE := Lib.hid (And.intro e (And.intro (show extN T (k : Int) d0 = 0 by unfold extN; rw [e, if_neg (by decide)]) (show extT T (k : Int) d0 what = T by unfold extT; rw [e, if_neg (by decide)])))
        have c3 : w3.cell? ⟨rb, 0, none⟩ = some (.slice a 16384 c) := by rw [← hf]; exact (HB3.out.cell (p := ⟨rb, 0, none⟩) hltR).trans HC0.out
        clear hc hk hb e hf hy hpos
        go_wp2_with fail
        go_ret2
        rw [HEE.out.1, HEE.out.2.1, HEE.out.2.2]
        exact ⟨rfl, rchg_bel H.out HB3.out⟩
      · have e : extE T (k : Int) d0 = 0 := by unfold extE; rw [if_neg (by simpa using hc), if_neg (by simpa using hy), if_neg hf]
        have HEE := Lib.hid (And.intro e (And.intro (show extN T (k : Int) d0 = T.rows.length by unfold extN; rw [e, if_pos rfl]) (show extT T (k : Int) d0 what = T.ext k (idn d0) what by unfold extT; rw [e, if_pos rfl]; rfl)))
        have hfew := HTOK.out.few
        have d1 : decide ((T.rows.length : Int) ≥ 16384) = false := decide_eq_false (by omega)
        have d2 : decide (16384 ≤ T.rows.length) = false := decide_eq_false (by omega)
        have d3 : decide ((16384 : Int) ≤ (T.rows.length : Int)) = false := decide_eq_false (by omega)
        have N3 : Hid (T.rows.length + 1 ≤ maxLen ∧ (T.rows.length + 1) * 120 ≤ 140737488355328) := Lib.hid (by unfold maxLen; omega)
        have c3 : w3.cell? ⟨rb, 0, none⟩ = some (.slice a T.rows.length c) := (HB3.out.cell (p := ⟨rb, 0, none⟩) hltR).trans HC0.out
        have HLT : Hid (rb < w3.heap.size ∧ w.heap.size < w3.heap.size) := Lib.hid ⟨Nat.lt_of_lt_of_le hltR HB3.out.size, (Array.getElem?_eq_some_iff.1 HN3.out).1⟩
        have HLT2 : Hid (rb < w.heap.size + 1) := Lib.hid (by omega)
        have HNE : Hid ((Value.slice a T.rows.length c).ownBlock ≠ some rb ∧ (Value.slice a T.rows.length c).ownBlock ≠ some w.heap.size) := Lib.hid ⟨HT.out.apart.1, fun e => by have := HT.out.apart.2.2.2 _ (.inr (.inl e)); omega⟩
        have HFR : Hid (w3.frozen? ⟨rb, 0, none⟩ = false) := Lib.hid ((World.frozen?_of_block (a := ⟨rb, 0, none⟩) (w := w) (HB3.out.block rb hltR)).trans (HT.out.blk.frozen 0))
        clear hc hk hb e hf hy hpos hfew
        go_upto_region 7 with (fail)
        clear d1 d2 d3
        have hT0 : (fun W : World => W.cell? ⟨rb, 0, none⟩ = some (.slice a T.rows.length c) ∧ Da.Blk W w.heap.size 33 D0.toArray) w3.drew := ⟨c3, HN3.out⟩
        have hbd : Below w3.heap.size w3 w3.drew := bel_drew0 _ _
        replace HB3 := Lib.hid (HB3.out.trans (hbd.mono HB3.out.size))
        replace HLT : Hid (rb < w3.drew.heap.size ∧ w.heap.size < w3.drew.heap.size) := HLT
        replace HFR : Hid (w3.drew.frozen? ⟨rb, 0, none⟩ = false) := HFR
        clear c3 hbd
        obtain ⟨w3d, hw3d⟩ : ∃ w3d, w3.drew = w3d := ⟨_, rfl⟩
        rw [hw3d] at hT0 HB3 HLT HFR
        refine Od.till_region 14 (fun W : World => W.cell? ⟨rb, 0, none⟩ = some (.slice a T.rows.length c) ∧ Da.Blk W w.heap.size 33 D0.toArray) (fun _ : World => True) 15 (by kernel_rfl) rfl ?_
        simp only [Array.replicate_succ, Array.replicate_zero, List.push_toArray, List.nil_append, List.cons_append]
        rw [hw3d]
        clear hw3d
        refine Od.Till.takeT (i := 0) (d := 23) (v := .pointer (some ⟨rb, 0, none⟩)) rfl rfl (by kernel_rfl) (by kernel_rfl) (by kernel_rfl) (by kernel_rfl) (fun _ _ _ h => h) (.inl ⟨by rfl, ?_⟩) hT0 trivial ?_
        · intro wx hSw
          clear hSw
          go_simp
        simp only [Act.put, List.setIfInBounds_toArray, List.set_cons_zero, List.set_cons_succ]
        refine Od.Till.takeT (i := 1) (d := 24) (v := .pointer (some ⟨rb, 0, none⟩)) rfl rfl (by kernel_rfl) (by kernel_rfl) (by kernel_rfl) (by kernel_rfl) (fun _ _ _ h => h) (.inl ⟨by rfl, ?_⟩) hT0 trivial ?_
        · intro wx hSw
          clear hSw
          go_simp
        simp only [Act.put, List.setIfInBounds_toArray, List.set_cons_zero, List.set_cons_succ]
        refine Od.Till.takeT (i := 2) (d := 25) (v := .pointer (some ⟨rb, 0, none⟩)) rfl rfl (by kernel_rfl) (by kernel_rfl) (by kernel_rfl) (by kernel_rfl) (fun _ _ _ h => h) (.inl ⟨by rfl, ?_⟩) hT0 trivial ?_
        · intro wx hSw
          clear hSw
          go_simp
        simp only [Act.put, List.setIfInBounds_toArray, List.set_cons_zero, List.set_cons_succ]
        refine Od.Till.takeT (i := 3) (d := 26) (v := .pointer (some ⟨rb, 0, none⟩)) rfl rfl (by kernel_rfl) (by kernel_rfl) (by kernel_rfl) (by kernel_rfl) (fun _ _ _ h => h) (.inl ⟨by rfl, ?_⟩) hT0 trivial ?_
        · intro wx hSw
          clear hSw
          go_simp
        simp only [Act.put, List.setIfInBounds_toArray, List.set_cons_zero, List.set_cons_succ]
        refine Od.Till.take (i := 4) (v := .slice a T.rows.length c) 27 rfl rfl (by kernel_rfl) (by kernel_rfl) (by kernel_rfl) (by kernel_rfl) (fun _ _ _ h => h) (.inl ⟨by rfl, ?_⟩) hT0 trivial ?_
        · intro wx hSw
          have q1 := hSw.1
          go_simp
        simp only [Act.put, List.setIfInBounds_toArray, List.set_cons_zero, List.set_cons_succ]
        refine Od.Till.takeT (i := 5) (d := 28) (v := .int .i64 (k : Int)) rfl rfl (by kernel_rfl) (by kernel_rfl) (by kernel_rfl) (by kernel_rfl) (fun _ _ _ h => h) (.inl ⟨by rfl, ?_⟩) hT0 trivial ?_
        · intro wx hSw
          clear hSw
          go_simp
        simp only [Act.put, List.setIfInBounds_toArray, List.set_cons_zero, List.set_cons_succ]
        refine Od.Till.take (i := 6) (v := .agg D0.toArray) 29 rfl rfl (by kernel_rfl) (by kernel_rfl) (by kernel_rfl) (by kernel_rfl) (fun _ _ _ h => h) (.inl ⟨by rfl, ?_⟩) hT0 trivial ?_
        · intro wx hSw
          have q1 := hSw.1
          exact Ld.exec_at 33 (.tmp 6) rfl w.heap.size 0 rfl D0 _ (Ld.At.of_blk hSw.2) Try.underlying33 rfl (by rw [← HDD.out]; exact info_dt6)
        simp only [Act.put, List.setIfInBounds_toArray, List.set_cons_zero, List.set_cons_succ]
        refine Od.Till.takeT (i := 8) (d := 31) (v := .int .i64 what) rfl rfl (by kernel_rfl) (by kernel_rfl) (by kernel_rfl) (by kernel_rfl) (fun _ _ _ h => h) (.inl ⟨by rfl, ?_⟩) hT0 trivial ?_
        · intro wx hSw
          clear hSw
          go_simp
        simp only [Act.put, List.setIfInBounds_toArray, List.set_cons_zero, List.set_cons_succ]
        refine Od.Till.one (i := 7) (by kernel_rfl) rfl (fun K hK => ?_)
        rw [if_pos (by kernel_rfl)]
        go_simp
        refine (Da.rclone_any d0 _ w.heap.size _ (HD.out.below HB3.out) HB3.out.size).mono ?_
        rintro e W4 ⟨v4, rfl, hb4, hv4⟩
        have hv4' : Da.IsDt W4 (Da.Rg w3d.heap.size W4.heap.size) d0 v4 := by
          have h := hv4
          unfold Da.cloneD at h
          rw [if_pos HSYM.out.2] at h
          exact h
        obtain ⟨am4, cm4, al4, cl4, at4, ct4, rfl, _⟩ := hv4'.open_
        obtain ⟨c4, hc4⟩ : ∃ x4 : Sx, (⟨am4, al4, at4, cm4, cl4, ct4⟩ : Sx) = x4 := ⟨_, rfl⟩
        have hv5 : Da.IsDt W4 (Da.Rg w3d.heap.size W4.heap.size) d0 (.agg (sixL d0 c4).toArray) := by rw [← hc4]; exact hv4'
        have hb4' : Below w3d.heap.size w3d W4 := ⟨hb4.os, hb4.tape, hb4.output, hb4.size, hb4.block⟩
        have hT1 : (fun W : World => W.cell? ⟨rb, 0, none⟩ = some (.slice a T.rows.length c) ∧ Da.Blk W w.heap.size 33 D0.toArray) W4 := ⟨(hb4'.cell (p := ⟨rb, 0, none⟩) HLT.out.1).trans hT0.1, (hb4'.block _ HLT.out.2).trans hT0.2⟩
        have HV5 := Lib.hid hv5
        have HB4 := Lib.hid hb4'
        show K { tmps := _, defers := [] } _
        have hag : (Value.agg #[.int .i64 d0.K, .int .i64 d0.N, .string d0.S, .slice am4 d0.M.length cm4, .slice al4 d0.L.length cl4, .slice at4 d0.T.length ct4]) = .agg (sixL d0 c4).toArray := by rw [← hc4]; rfl
        rw [hag]
        clear hv4 hv4' hv5 hb4 hb4' hc4 hag
        refine hK.out _ _ ⟨fun _ => hT1, trivial⟩ ?_
        clear hK K
        simp only [Act.put, List.setIfInBounds_toArray, List.set_cons_zero, List.set_cons_succ]
        refine Od.Till.takeT (i := 9) (d := 32) (v := .agg (rrow ⟨k, idn d0, what⟩ (sixL d0 c4)).toArray) rfl rfl (by kernel_rfl) (by kernel_rfl) (by kernel_rfl) (by kernel_rfl) (fun _ _ _ h => h) (.inl ⟨by rfl, ?_⟩) hT1 trivial ?_
        · intro wx hSw
          clear hSw
          refine Ld.exec_build 68 #[(0, .tmp 28), (1, .tmp 30), (2, .tmp 31)] rfl _ ?_; simp only [List.map_toArray, List.map_cons, List.map_nil]; exact built_sc k what (idn d0) d0 c4
        simp only [Act.put, List.setIfInBounds_toArray, List.set_cons_zero, List.set_cons_succ]
        refine Od.Till.one (i := 10) (by kernel_rfl) rfl (fun K hK => ?_)
        rw [if_pos (by kernel_rfl)]
        refine wp_bslSc (.tmp 32) k (idn d0) what d0 c4 rfl rfl ?_
        have hw5 : Below W4.heap.size W4 (World.alloc W4 (.cells (rrow ⟨k, idn d0, what⟩ (sixL d0 c4)).toArray 68)) := (Below.refl _ _).alloc (Nat.le_refl _) _
        have hcell5 : ∀ j u, (rrow ⟨k, idn d0, what⟩ (sixL d0 c4))[j]? = some u → (World.alloc W4 (.cells (rrow ⟨k, idn d0, what⟩ (sixL d0 c4)).toArray 68)).cell? ((⟨W4.heap.size, 0, none⟩ : Addr).add j) = some u := fun j u hu => by
          rw [Ld.add_at, Nat.zero_add, cell_of_row _ _ _ _ _ _ (heap_alloc_new W4 _)]
          simpa using hu
        have hrw5 : (World.alloc W4 (.cells (rrow ⟨k, idn d0, what⟩ (sixL d0 c4)).toArray 68)).ownsRow 0 68 8 (.slice a T.rows.length c) T.rows.length (rrows T.rows cs) := ownsRow_same HT.out.rows (fun j hj => (hw5.block j (Nat.lt_of_lt_of_le (Nat.lt_of_lt_of_le (HT.out.rows.lt j hj).2 HB3.out.size) HB4.out.size)).trans ((HB4.out.block j (Nat.lt_of_lt_of_le (HT.out.rows.lt j hj).2 HB3.out.size)).trans (HB3.out.block j (HT.out.rows.lt j hj).2)))
        have hT2 : (fun W : World => W.cell? ⟨rb, 0, none⟩ = some (.slice a T.rows.length c) ∧ Da.Blk W w.heap.size 33 D0.toArray) (World.alloc W4 (.cells (rrow ⟨k, idn d0, what⟩ (sixL d0 c4)).toArray 68)) := ⟨(hw5.cell (p := ⟨rb, 0, none⟩) (Nat.lt_of_lt_of_le HLT.out.1 HB4.out.size)).trans hT1.1, (hw5.block _ (Nat.lt_of_lt_of_le HLT.out.2 HB4.out.size)).trans hT1.2⟩
        refine hK.out _ _ ⟨fun _ => hT2, trivial⟩ ?_
        clear hK K
        simp only [Act.put, List.setIfInBounds_toArray, List.set_cons_zero, List.set_cons_succ]
        refine Od.Till.one (i := 11) (by kernel_rfl) rfl (fun K hK => ?_)
        rw [if_pos (by kernel_rfl)]
        refine wp_append_at (World.alloc W4 (.cells (rrow ⟨k, idn d0, what⟩ (sixL d0 c4)).toArray 68)) (.tmp 27) (.tmp 33) 43 rfl 0 68 z0 (.agg scZ) 8 120 Try.underlying43 hi hz0 hz1 hz2 rfl (by decide) (.slice a T.rows.length c) T.rows.length (rrows T.rows cs) rfl hrw5 ⟨W4.heap.size, 0, none⟩ 1 1 (rrow ⟨k, idn d0, what⟩ (sixL d0 c4)) rfl rfl hcell5 (rrow_one k (idn d0) what d0 c4) N3.out.1 N3.out.2 (Nat.zero_le _) ?_
        intro v6 W6 hown6 hg6 hat6
        obtain ⟨va, vc, rfl⟩ := slice_of hown6
        have hk6 : ∀ j, j < w.heap.size + 1 → (Value.slice a T.rows.length c).ownBlock ≠ some j → W6.heap[j]? = w3d.heap[j]? := fun j hj hne => (hg6.block j (by rw [World.size_alloc]; exact Nat.lt_succ_of_lt (Nat.lt_of_lt_of_le (Nat.lt_of_lt_of_le hj HLT.out.2) HB4.out.size)) (fun e => hne e.symm)).trans ((Below.heap_alloc _ _ _ (Nat.lt_of_lt_of_le (Nat.lt_of_lt_of_le hj HLT.out.2) HB4.out.size)).trans (HB4.out.block j (Nat.lt_of_lt_of_le hj HLT.out.2)))
        have hT3 : (fun W : World => W.cell? ⟨rb, 0, none⟩ = some (.slice a T.rows.length c) ∧ Da.Blk W w.heap.size 33 D0.toArray) W6 := ⟨(World.cell?_of_block (a := ⟨rb, 0, none⟩) (w := w3d) (hk6 rb HLT2.out HNE.out.1)).trans hT0.1, (hk6 _ (Nat.lt_succ_self _) HNE.out.2).trans hT0.2⟩
        have k1 := hT3.1
        have k2 : W6.frozen? ⟨rb, 0, none⟩ = false := ((World.frozen?_of_block (a := ⟨rb, 0, none⟩) (w := w3d) (hk6 rb HLT2.out HNE.out.1))).trans (HFR.out)
        have HE6 := Lib.hid (And.intro hown6 (And.intro hg6 hat6))
        clear hown6 hg6 hat6 hk6 hrw5 hcell5 hw5
        refine hK.out _ _ ⟨fun _ => hT3, trivial⟩ ?_
        clear hK K
        simp only [Act.put, List.setIfInBounds_toArray, List.set_cons_zero, List.set_cons_succ]
        refine Od.Till.takeT (i := 12) (d := 35) (v := .pointer (some ⟨rb, 0, none⟩)) rfl rfl (by kernel_rfl) (by kernel_rfl) (by kernel_rfl) (by kernel_rfl) (fun _ _ _ h => h) (.inl ⟨by rfl, ?_⟩) hT3 trivial ?_
        · intro wx hSw
          clear hSw
          go_simp
        simp only [Act.put, List.setIfInBounds_toArray, List.set_cons_zero, List.set_cons_succ]
        refine Od.Till.takeT (i := 13) (d := 36) (v := .pointer (some ⟨rb, 0, none⟩)) rfl rfl (by kernel_rfl) (by kernel_rfl) (by kernel_rfl) (by kernel_rfl) (fun _ _ _ h => h) (.inl ⟨by rfl, ?_⟩) hT3 trivial ?_
        · intro wx hSw
          clear hSw
          go_simp
        simp only [Act.put, List.setIfInBounds_toArray, List.set_cons_zero, List.set_cons_succ]
        refine Od.Till.one (i := 14) (by kernel_rfl) rfl (fun K hK => ?_)
        rw [if_pos (by kernel_rfl)]
        go_simp
        refine hK.out _ _ ⟨(fun h => nomatch (show true = false from h)), trivial⟩ ?_
        clear hK K
        simp only [Act.put, List.setIfInBounds_toArray, List.set_cons_zero, List.set_cons_succ]
        refine Od.Till.done (by kernel_rfl) ?_
        have hfin := rext_table (s := k) (x := idn d0) (what := what) (w2 := W4) (c := sixL d0 c4) HT.out HTOK.out (HB3.out.trans (HB4.out.mono HB3.out.size)) rfl (by rw [sym_dtI HSYM.out]; exact HV5.out.more (fun j hj => ⟨Nat.le_trans HB3.out.size hj.1, hj.2⟩)) HE6.out.1 HE6.out.2.1 HE6.out.2.2
        obtain ⟨r1, r2, r3⟩ := hfin
        have HF := Lib.hid (And.intro r1 (And.intro r2 r3))
        clear r1 r2 r3
        go_wp2_with fail
        go_ret2
        obtain ⟨r1, r2, r3⟩ := HF.out
        rw [HEE.out.1, HEE.out.2.1, HEE.out.2.2]
        refine ⟨by have hq := HTOK.out.few; simp; exact IntWalk.wrap64_in _ (by omega), ⟨_, _, _, _, r1, fun j hj => ?_, fun j hj => ?_⟩, r2.mono HQO.out.2⟩
        · rcases hj with h1 | h1
          · exact .inl (HQO.out.1 j h1)
          · exact .inr h1.1
        · rcases r3 j hj with h1 | h1
          · exact .inl (HQO.out.2 j h1)
          · exact .inr h1
    · rw [decide_eq_false hy]
      have e : extE T (k : Int) d0 = 5 := by unfold extE; rw [if_neg (by simpa using hc), if_pos hy]
      have HEE := Lib.hid (And.intro e (And.intro (show extN T (k : Int) d0 = 0 by unfold extN; rw [e, if_neg (by decide)]) (show extT T (k : Int) d0 what = T by unfold extT; rw [e, if_neg (by decide)])))
      clear hc hk hb e hy hpos
      go_wp2_with fail
      go_ret2
      rw [HEE.out.1, HEE.out.2.1, HEE.out.2.2]
      exact ⟨rfl, rchg_bel H.out HB3.out⟩
  · have h50 := chk50 hpos hc
    have e : extE T s d0 = 50 := by unfold extE; rw [if_pos hc, h50]
    have hb : (decide (0 ≤ s) && decide (s < (T.rows.length : Int))) = false := by rw [hasB hpos]; exact beq_eq_false_iff_ne.2 hc
    rw [hb]
    have HEE := Lib.hid (And.intro e (And.intro (show extN T s d0 = 0 by unfold extN; rw [e, if_neg (by decide)]) (show extT T s d0 what = T by unfold extT; rw [e, if_neg (by decide)])))
    clear hc hb e h50 hpos
    go_wp2_with fail
    go_ret2
    rw [HEE.out.1, HEE.out.2.1, HEE.out.2.2]
    exact ⟨rfl, rchg_bel H.out HBX.out⟩
end Go.Proofs.Ytapnighankepjaa.Sc
end
section
namespace Go.Proofs.Ytapnighankepjaa.Sc
open Go Go.RowKit
set_option linter.unusedVariables false
set_option linter.unusedSimpArgs false

theorem seen_hit' {T : Tab} {k j : Nat} {x : Idn} (hb : T.binder k x = j) (hj : j ≠ 0) : T.seen k x = ⟨j, T.what j, []⟩ := by
  obtain ⟨t, m⟩ := x
  unfold Tab.seen
  rcases hr : m.reverse with _ | ⟨q, r⟩
  · obtain rfl : m = [] := by simpa using hr
    show Tab.seenR _ t [] _ = _
    unfold Tab.seenR
    rw [hb, if_neg hj]
  · have hm : (q :: r).reverse = m := by rw [← hr, List.reverse_reverse]
    show Tab.seenR _ t (q :: r) _ = _
    unfold Tab.seenR
    rw [hm, hb, if_neg hj]
theorem seen_free' {T : Tab} {k : Nat} {x : Idn} (hb : T.binder k x = 0) (hm : x.m = []) : T.seen k x = ⟨0, 0, x.s⟩ := by
  obtain ⟨t, m⟩ := x
  simp only at hm
  subst hm
  show Tab.seenR _ t [] _ = _
  unfold Tab.seenR
  rw [if_pos hb]
theorem seen_less' {T : Tab} {k : Nat} {s : Bs} {M : List Int} {z : Int} (hb : T.binder k ⟨s, M ++ [z]⟩ = 0) : T.seen k ⟨s, M ++ [z]⟩ = T.seen (T.marks.getD (z.toNat - 1) 0) ⟨s, M⟩ := by
  unfold Tab.seen
  show T.seenR s (M ++ [z]).reverse k = T.seenR s M.reverse _
  rw [List.reverse_append]
  show T.seenR s (z :: M.reverse) k = _
  rw [Tab.seenR]
  have e : (z :: M.reverse).reverse = M ++ [z] := by simp
  rw [e, if_pos hb]
/-- A name without its last mark. -/
def lessD (d : Da.Dt) : Da.Dt := .mk 5 0 d.S (d.M.take (d.M.length - 1)) [] []
theorem less_sym {d : Da.Dt} (hy : IsSym d) : IsSym (lessD d) := by
  refine ⟨rfl, ?_⟩
  have hp := Da.chk_self hy.2
  unfold Da.properB Da.properOf at hp
  rw [hy.1] at hp
  simp only [show ¬ (5 : Int) = 1 by decide, show ¬ (5 : Int) = 2 by decide, show ¬ (5 : Int) = 3 by decide, show ¬ (5 : Int) = 4 by decide, if_true, if_false, Bool.and_eq_true, beq_iff_eq] at hp
  obtain ⟨⟨⟨hs, hm⟩, _⟩, _⟩ := hp
  have hm2 : Da.marksB (d.M.take (d.M.length - 1)) = true := by
    unfold Da.marksB Da.allI at hm ⊢
    simp only [Bool.and_eq_true, Bool.not_eq_true', decide_eq_false_iff_not, List.all_eq_true] at hm ⊢
    refine ⟨by rw [List.length_take]; omega, fun x hx => hm.2 x (List.mem_of_mem_take hx)⟩
  have hq : Da.properB (lessD d) = true := by
    show ((Da.symB d.S && Da.marksB (d.M.take (d.M.length - 1))) && ((0 : Int) == 0) && Da.nil2 0 0) = true
    rw [hs, hm2]; rfl
  have hn : Da.nodes (lessD d) 1 = [(lessD d, 1)] := rfl
  have he : Da.errOf 0 (Da.nodes (lessD d) 1) = 0 := by
    rw [hn, Da.errOf]
    have h0 : Da.mErr 0 (lessD d, 1).1 (lessD d, 1).2 = 0 := by
      unfold Da.mErr
      rw [if_neg (show ¬ 64 < 1 by decide), if_neg (show ¬ 0 = 4096 by decide), if_pos hq]
    rw [if_pos h0]; rfl
  unfold Da.chk Da.meas
  rw [if_pos he]
theorem find_step {T : Tab} {k n : Nat} {d : Da.Dt} (hT : T.Ok) (hk : k < T.rows.length) (hy : IsSym d) (hm : markOk T.marks.length d.M = true) (hn : d.M.length = n + 1) (hb : T.binder k (idn d) = 0) :
    1 ≤ d.M.getD n 0 ∧ d.M.getD n 0 ≤ (T.marks.length : Int) ∧ T.marks.getD ((d.M.getD n 0).toNat - 1) 0 < T.rows.length ∧ findE T (T.marks.getD ((d.M.getD n 0).toNat - 1) 0 : Int) (lessD d) = 0 ∧
      findZ T (T.marks.getD ((d.M.getD n 0).toNat - 1) 0 : Int) (lessD d) = T.seen k (idn d) := by
  have hz : d.M.getD n 0 ∈ d.M := by
    rw [List.getD_eq_getElem?_getD, List.getElem?_eq_getElem (show n < d.M.length by omega)]
    exact List.getElem_mem _
  have h1 := ((sym_facts hy.1 hy.2).1.mark _ hz).1
  have h2 := markOk_made hm _ hz
  have hlt : (d.M.getD n 0).toNat - 1 < T.marks.length := by omega
  have hs : T.marks.getD ((d.M.getD n 0).toNat - 1) 0 < T.rows.length := by
    rw [List.getD_eq_getElem?_getD, List.getElem?_eq_getElem hlt]
    exact hT.mark _ (List.getElem_mem hlt)
  have hmo : markOk T.marks.length (lessD d).M = true := by
    rw [markOk, List.all_eq_true] at hm ⊢
    intro x hx
    exact hm x (List.mem_of_mem_take hx)
  have h0 := findE_is hs (less_sym hy) hmo
  refine ⟨h1, h2, hs, h0, ?_⟩
  unfold findZ
  rw [if_pos h0]
  have hM : d.M = d.M.take n ++ [d.M.getD n 0] := by
    have := List.take_succ_eq_append_getElem (l := d.M) (i := n) (by omega)
    rw [List.take_of_length_le (by omega)] at this
    rw [List.getD_eq_getElem?_getD, List.getElem?_eq_getElem (show n < d.M.length by omega)]
    exact this
  have hi : idn d = ⟨(idn d).s, d.M.take n ++ [d.M.getD n 0]⟩ := by
    show (⟨_, d.M⟩ : Idn) = _
    rw [← hM]
    rfl
  have hl : idn (lessD d) = ⟨(idn d).s, d.M.take n⟩ := by
    show (⟨_, d.M.take (d.M.length - 1)⟩ : Idn) = _
    rw [hn]
    rfl
  rw [hi] at hb ⊢
  rw [seen_less' hb, hl]
  rfl
def MkTl (M : List Int) (n k : Nat) : Prop := ∀ j, j < k → M.getD j 0 ≤ (n : Int)
theorem mkt_all {M : List Int} {n : Nat} (h : MkTl M n M.length) : markOk n M = true := by
  rw [markOk, List.all_eq_true]
  intro z hz
  obtain ⟨j, hj, rfl⟩ := List.getElem_of_mem hz
  have := h j hj
  rw [List.getD_eq_getElem?_getD, List.getElem?_eq_getElem hj] at this
  simpa using this
theorem mkt_not {M : List Int} {n k : Nat} (hk : k < M.length) (h : ¬ M.getD k 0 ≤ (n : Int)) : markOk n M = false := by
  rw [markOk, List.all_eq_false]
  refine ⟨M[k], List.getElem_mem hk, ?_⟩
  rw [List.getD_eq_getElem?_getD, List.getElem?_eq_getElem hk] at h
  simpa using h
end Go.Proofs.Ytapnighankepjaa.Sc
end
section
namespace Go.Proofs.Ytapnighankepjaa.Sc
open Go.ChangeShapes Go.WideShapes Go.ChangeAt Go.RowKit
set_option linter.unusedVariables false
set_option linter.unusedSimpArgs false

theorem RTabAt.bel {w w' : World} {rb : Nat} {T : Tab} {lv mv : Value} {cs : List (List Value)} {Q : Nat → Prop} (h : RTabAt w rb T lv mv cs Q) (hb : Below w.heap.size w w') : RTabAt w' rb T lv mv cs Q :=
  h.same hb.size (fun k hk => hb.block k (by
    rcases hk with hk | hk
    · exact h.apart.2.2.2 k hk
    · exact h.lt k hk))
/-- What the loads of Find read. -/
def FC (w : World) (D0 : List Value) (W : World) : Prop := Below w.heap.size w W ∧ Da.Blk W w.heap.size 33 D0.toArray
theorem FC.bel {w W W' : World} {D0 : List Value} (h : FC w D0 W) (hb : Below W.heap.size W W') : FC w D0 W' :=
  ⟨h.1.trans (hb.mono h.1.size), (hb.block _ (Array.getElem?_eq_some_iff.1 h.2).1).trans h.2⟩
theorem FC.drew {w W : World} {D0 : List Value} (h : FC w D0 W) : FC w D0 W.drew := h.bel (bel_drew0 _ _)
theorem built_sd (s : ByteArray) (a : Option Addr) (n c : Nat) : Try.prog.built 33 [(0, .int .i64 5), (2, .string s), (3, .slice a n c)] = some (symD s (.slice a n c)) := by kernel_rfl
theorem run_prei (a : Option Addr) (n c m : Nat) (h : m ≤ c) (w : World) : (Instr.slice 30 (.slice a n c) none (some (.int .i64 (m : Int))) none).run Try.prog w = .ok (.slice a m c) w := by
  have hb : (Instr.sliceBound (.int .i64 (m : Int)) c .sliceAcap).run Try.prog w = .ok m w := by
    have := run_sliceBound (P := Try.prog) w .i64 (m : Int) c .sliceAcap (by omega) (by omega)
    simpa using this
  simp [Instr.slice, run_underlying Try.underlying30, Instr.sliceBounds, Sem.run_bind, hb, go_sem]
theorem rfind_fin (w W : World) (tm : Array Value) (z : Seen) (k : Int) (r : Nat) (h6 : tm.getD 6 undef = .pointer (some ⟨r, 0, none⟩)) (h7 : tm.getD 7 undef = .int .i64 k) (hb : Da.Blk W r 49 (seenC z)) (hbel : Below w.heap.size w W) :
    bodyPost Try.prog Try.f23 (FindIs z k w) Exit.ret { tmps := tm, defers := [] } W := by
  refine bodyPost_ret (v := .tuple #[z.V, .int .i64 k]) ?_ rfl ⟨rfl, hbel⟩
  rw [results_cell_tmp (show Try.f23.results = #[.cell 6 49, .tmp 7] from rfl), h6, h7]
  have hr := run_loadVar_row (P := Try.prog) W r 49 49 (seenC z) (0, 0) _ hb Try.underlying49 rfl info_seen
  simp [asAddr, hr, Result.andThen, Seen.V, seenC]
set_option maxRecDepth 100000 in
set_option maxHeartbeats 16000000 in
theorem rfind_one (rb : Nat) (T : Tab) (R : Nat → Prop) (hT : T.Ok) (d0 : Da.Dt) (s : Int) (v : Value) (w : World) (hd : Da.IsDt w (Da.Lo w.heap.size) d0 v) (h : RTabIn w rb T R)
    (HIH : Hid (∀ (n0 : Nat), d0.M.length = n0 + 1 → ∀ (s2 : Nat) (v2 : Value) (W : World), Da.IsDt W (Da.Lo W.heap.size) (lessD d0) v2 → RTabIn W rb T R → Calls Try.prog 23 #[.pointer (some ⟨rb, 0, none⟩), .int .i64 (s2 : Int), v2] W (FindIs (findZ T (s2 : Int) (lessD d0)) (findE T (s2 : Int) (lessD d0)) W))) :
    Calls Try.prog 23 #[.pointer (some ⟨rb, 0, none⟩), .int .i64 s, v] w (FindIs (findZ T s d0) (findE T s d0) w) := by
  have H := Lib.hid h
  obtain ⟨zz, hzz⟩ : ∃ zz, findZ T s d0 = zz := ⟨_, rfl⟩
  obtain ⟨ee, hee⟩ : ∃ ee, findE T s d0 = ee := ⟨_, rfl⟩
  have HZE := Lib.hid (And.intro hzz hee)
  rw [hzz, hee]
  clear hzz hee
  obtain ⟨am, cm, al, cl, at_, ct, rfl, _, _, _, hrow, _⟩ := hd.open_
  have HIR := Lib.hid hrow
  obtain ⟨D0, hD0⟩ : ∃ D0, sixL d0 ⟨am, al, at_, cm, cl, ct⟩ = D0 := ⟨_, rfl⟩
  have hd' : Da.IsDt w (Da.Lo w.heap.size) d0 (.agg D0.toArray) := by rw [← hD0]; exact hd
  have HD := Lib.hid hd'
  have HI : Hid ((Try.prog.info? 33).map (·.size) = some D0.length) := Lib.hid (by rw [← hD0]; exact info_dt6)
  have HM3 : Hid (D0.toArray[3]? = some (.slice am d0.M.length cm)) := Lib.hid (by rw [← hD0]; rfl)
  have HM2 : Hid (D0.toArray[2]? = some (.string d0.S)) := Lib.hid (by rw [← hD0]; rfl)
  show Calls Try.prog 23 #[.pointer (some ⟨rb, 0, none⟩), .int .i64 s, .agg (sixL d0 ⟨am, al, at_, cm, cl, ct⟩).toArray] w _
  rw [hD0]
  clear hd hd' hD0 h hrow
  obtain ⟨lv, mv, cs, Q, ht, hQ, hO⟩ := H.out
  obtain ⟨la, lc, rfl⟩ := slice_of ht.rows
  obtain ⟨ma, mc, rfl⟩ := slice_of ht.marks
  obtain ⟨g, rfl, hltg, _, hcells⟩ := row_cells ht.rows hT.pos
  have hltR : rb < w.heap.size := ht.apart.2.2.2 rb (.inl rfl)
  have c0 : w.cell? ⟨rb, 0, none⟩ = some (.slice (some ⟨g, 0, none⟩) T.rows.length lc) := (ht.blk.cell 0).trans rfl
  have c1 : w.cell? ⟨rb, 1, none⟩ = some (.slice ma T.marks.length mc) := (ht.blk.cell 1).trans rfl
  have HR := Lib.hid (And.intro hltR (And.intro c0 c1))
  have HG := Lib.hid hltg
  have HCELLS := Lib.hid hcells
  have HT := Lib.hid ht
  have HTOK := Lib.hid hT
  have hpos := hT.pos
  obtain ⟨n1, n2⟩ := two_new w D0.toArray (seenC Seen.zero) 33 49
  have hbX := bel_two w (.cells D0.toArray 33) (.cells (seenC Seen.zero) 49)
  clear ht hQ hO hT hcells hltR hltg c0 c1
  go_enter Try.func23, Try.ntmps23
  go_upto_region 1 with (fail)
  generalize hX : (World.alloc (World.alloc w _) _) = X
  have HFX : Hid (FC w D0 X) := Lib.hid ⟨by rw [← hX]; exact hbX, by rw [← hX]; exact n1⟩
  have HNX : Hid (Da.Blk X (w.heap.size + 1) 49 (seenC Seen.zero)) := Lib.hid (by rw [← hX]; exact n2)
  clear hX n1 n2 hbX
  have HAS := Lib.hid (rhas_any rb _ T.rows.length lc s X ((HFX.out.1.cell (p := ⟨rb, 0, none⟩) HR.out.1).trans HR.out.2.1))
  go_wp2_with fail
  refine HAS.out.mono ?_
  rintro e X2 ⟨rfl, rfl⟩
  clear HAS
  by_cases hc : chkE T.rows.length s = 0
  · obtain ⟨k0, rfl, hk0⟩ := chk_ok (by omega) hc
    have hb : (decide (0 ≤ (k0 : Int)) && decide ((k0 : Int) < (T.rows.length : Int))) = true := by rw [hasB hpos, hc]; rfl
    rw [hb]
    go_wp2_with (refine load_list (.tmp 5) 33 w.heap.size 0 D0 _ rfl rfl rfl (Ld.At.of_blk HFX.out.2) Try.underlying33 rfl HI.out ?_)
    refine (rsym_any d0 _ w.heap.size X (HD.out.below HFX.out.1) HFX.out.1.size).mono ?_
    rintro e w3 ⟨rfl, hb3⟩
    have HF3 := Lib.hid (HFX.out.bel hb3)
    have HN3 := Lib.hid (show Da.Blk w3 (w.heap.size + 1) 49 (seenC Seen.zero) from (hb3.block _ (Array.getElem?_eq_some_iff.1 HNX.out).1).trans HNX.out)
    clear hb3
    by_cases hy : IsSym d0
    · rw [decide_eq_true hy]
      have HSYM := Lib.hid hy
      have HK0 := Lib.hid (And.intro hk0 hc)
      clear hc hb hpos hy hk0
      go_wp2_with fail
      go_loopw [8] (fun i wr => ∃ k : Nat, k ≤ d0.M.length ∧ i = .int .i64 (k : Int) ∧ FC w D0 wr ∧ Da.Blk wr (w.heap.size + 1) 49 (seenC Seen.zero) ∧ Hid (MkTl d0.M T.marks.length k)) (fun i _ => d0.M.length - (intOf i).toNat)
      case atStart => exact ⟨0, Nat.zero_le _, rfl, HF3.out, HN3.out, Lib.hid (fun j hj => absurd hj (Nat.not_lt_zero _))⟩
      case round =>
        obtain ⟨k, hk, rfl, hF, hN, htill⟩ := hrel
        have e3 : wr.cell? ⟨w.heap.size, 3, none⟩ = some (.slice am d0.M.length cm) := (hF.2.cell 3).trans HM3.out
        have HFr := Lib.hid hF
        have HNr := Lib.hid hN
        clear hF hN
        have hML : d0.M.length ≤ 16 := (sym_facts HSYM.out.1 HSYM.out.2).1.m
        by_cases hlt : k < d0.M.length
        · have dl : decide ((k : Int) < (d0.M.length : Int)) = true := decide_eq_true (by omega)
          have i0k : (0 : Int) ≤ (k : Int) := Int.natCast_nonneg _
          have i1k : (k : Int) < (d0.M.length : Int) := by omega
          obtain ⟨b, off, rfl, hbq, hcell⟩ := HIR.out.2.2.2.2.2.2 k hlt
          obtain ⟨z, hz⟩ : ∃ z, d0.M.getD k 0 = z := ⟨_, rfl⟩
          rw [hz] at hcell
          have HZ := Lib.hid hz
          have HLT := Lib.hid hlt
          obtain ⟨bz, hbz⟩ : ∃ bz, decide ((T.marks.length : Int) < z) = bz := ⟨_, rfl⟩
          have HBZ := Lib.hid hbz
          clear hz hlt
          go_wp2_with fail
          clear e3 dl
          have hT0 : FC w D0 wr.drew := HFr.out.drew
          have HNd0 := Lib.hid (show Da.Blk wr.drew (w.heap.size + 1) 49 (seenC Seen.zero) from HNr.out)
          refine Od.till_region 11 (fun _ : World => True) (FC w D0) 11 (by kernel_rfl) rfl ?_
          simp only [Array.replicate_succ, Array.replicate_zero, List.push_toArray, List.nil_append, List.cons_append]
          generalize wr.drew = W0 at hT0 HNd0 ⊢
          refine Od.Till.takeT (i := 0) (d := 27) (v := .pointer (some ⟨w.heap.size, 3, none⟩)) rfl rfl (by kernel_rfl) (by kernel_rfl) (by kernel_rfl) (by kernel_rfl) (fun _ _ _ h => h) (.inl ⟨by rfl, ?_⟩) trivial hT0 ?_
          · intro wx hSw
            have q3 := (hSw.2.cell 3).trans HM3.out; have ck := (hSw.1.cell (p := ⟨b, off + k, none⟩) hbq).trans hcell; have r1 := (hSw.1.cell (p := ⟨rb, 1, none⟩) HR.out.1).trans HR.out.2.2
            go_simp
          simp only [Act.put, List.setIfInBounds_toArray, List.set_cons_zero, List.set_cons_succ]
          refine Od.Till.takeT (i := 1) (d := 28) (v := .slice (some ⟨b, off, none⟩) d0.M.length cm) rfl rfl (by kernel_rfl) (by kernel_rfl) (by kernel_rfl) (by kernel_rfl) (fun _ _ _ h => h) (.inl ⟨by rfl, ?_⟩) trivial hT0 ?_
          · intro wx hSw
            have q3 := (hSw.2.cell 3).trans HM3.out; have ck := (hSw.1.cell (p := ⟨b, off + k, none⟩) hbq).trans hcell; have r1 := (hSw.1.cell (p := ⟨rb, 1, none⟩) HR.out.1).trans HR.out.2.2
            go_simp
          simp only [Act.put, List.setIfInBounds_toArray, List.set_cons_zero, List.set_cons_succ]
          refine Od.Till.takeT (i := 2) (d := 29) (v := .int .i64 (k : Int)) rfl rfl (by kernel_rfl) (by kernel_rfl) (by kernel_rfl) (by kernel_rfl) (fun _ _ _ h => h) (.inl ⟨by rfl, ?_⟩) trivial hT0 ?_
          · intro wx hSw
            have q3 := (hSw.2.cell 3).trans HM3.out; have ck := (hSw.1.cell (p := ⟨b, off + k, none⟩) hbq).trans hcell; have r1 := (hSw.1.cell (p := ⟨rb, 1, none⟩) HR.out.1).trans HR.out.2.2
            go_simp
          simp only [Act.put, List.setIfInBounds_toArray, List.set_cons_zero, List.set_cons_succ]
          refine Od.Till.takeT (i := 3) (d := 30) (v := .pointer (some ⟨b, off + k, none⟩)) rfl rfl (by kernel_rfl) (by kernel_rfl) (by kernel_rfl) (by kernel_rfl) (fun _ _ _ h => h) (.inl ⟨by rfl, ?_⟩) trivial hT0 ?_
          · intro wx hSw
            have q3 := (hSw.2.cell 3).trans HM3.out; have ck := (hSw.1.cell (p := ⟨b, off + k, none⟩) hbq).trans hcell; have r1 := (hSw.1.cell (p := ⟨rb, 1, none⟩) HR.out.1).trans HR.out.2.2
            go_simp
          simp only [Act.put, List.setIfInBounds_toArray, List.set_cons_zero, List.set_cons_succ]
          refine Od.Till.takeT (i := 4) (d := 31) (v := .int .i64 z) rfl rfl (by kernel_rfl) (by kernel_rfl) (by kernel_rfl) (by kernel_rfl) (fun _ _ _ h => h) (.inl ⟨by rfl, ?_⟩) trivial hT0 ?_
          · intro wx hSw
            have q3 := (hSw.2.cell 3).trans HM3.out; have ck := (hSw.1.cell (p := ⟨b, off + k, none⟩) hbq).trans hcell; have r1 := (hSw.1.cell (p := ⟨rb, 1, none⟩) HR.out.1).trans HR.out.2.2
            go_simp
          simp only [Act.put, List.setIfInBounds_toArray, List.set_cons_zero, List.set_cons_succ]
          refine Od.Till.takeT (i := 5) (d := 32) (v := .pointer (some ⟨rb, 0, none⟩)) rfl rfl (by kernel_rfl) (by kernel_rfl) (by kernel_rfl) (by kernel_rfl) (fun _ _ _ h => h) (.inl ⟨by rfl, ?_⟩) trivial hT0 ?_
          · intro wx hSw
            have q3 := (hSw.2.cell 3).trans HM3.out; have ck := (hSw.1.cell (p := ⟨b, off + k, none⟩) hbq).trans hcell; have r1 := (hSw.1.cell (p := ⟨rb, 1, none⟩) HR.out.1).trans HR.out.2.2
            go_simp
          simp only [Act.put, List.setIfInBounds_toArray, List.set_cons_zero, List.set_cons_succ]
          refine Od.Till.takeT (i := 6) (d := 33) (v := .pointer (some ⟨rb, 0, none⟩)) rfl rfl (by kernel_rfl) (by kernel_rfl) (by kernel_rfl) (by kernel_rfl) (fun _ _ _ h => h) (.inl ⟨by rfl, ?_⟩) trivial hT0 ?_
          · intro wx hSw
            have q3 := (hSw.2.cell 3).trans HM3.out; have ck := (hSw.1.cell (p := ⟨b, off + k, none⟩) hbq).trans hcell; have r1 := (hSw.1.cell (p := ⟨rb, 1, none⟩) HR.out.1).trans HR.out.2.2
            go_simp
          simp only [Act.put, List.setIfInBounds_toArray, List.set_cons_zero, List.set_cons_succ]
          refine Od.Till.takeT (i := 7) (d := 34) (v := .pointer (some ⟨rb, 1, none⟩)) rfl rfl (by kernel_rfl) (by kernel_rfl) (by kernel_rfl) (by kernel_rfl) (fun _ _ _ h => h) (.inl ⟨by rfl, ?_⟩) trivial hT0 ?_
          · intro wx hSw
            have q3 := (hSw.2.cell 3).trans HM3.out; have ck := (hSw.1.cell (p := ⟨b, off + k, none⟩) hbq).trans hcell; have r1 := (hSw.1.cell (p := ⟨rb, 1, none⟩) HR.out.1).trans HR.out.2.2
            go_simp
          simp only [Act.put, List.setIfInBounds_toArray, List.set_cons_zero, List.set_cons_succ]
          refine Od.Till.takeT (i := 8) (d := 35) (v := .slice ma T.marks.length mc) rfl rfl (by kernel_rfl) (by kernel_rfl) (by kernel_rfl) (by kernel_rfl) (fun _ _ _ h => h) (.inl ⟨by rfl, ?_⟩) trivial hT0 ?_
          · intro wx hSw
            have q3 := (hSw.2.cell 3).trans HM3.out; have ck := (hSw.1.cell (p := ⟨b, off + k, none⟩) hbq).trans hcell; have r1 := (hSw.1.cell (p := ⟨rb, 1, none⟩) HR.out.1).trans HR.out.2.2
            go_simp
          simp only [Act.put, List.setIfInBounds_toArray, List.set_cons_zero, List.set_cons_succ]
          refine Od.Till.takeT (i := 9) (d := 36) (v := .int .i64 (T.marks.length : Int)) rfl rfl (by kernel_rfl) (by kernel_rfl) (by kernel_rfl) (by kernel_rfl) (fun _ _ _ h => h) (.inl ⟨by rfl, ?_⟩) trivial hT0 ?_
          · intro wx hSw
            have q3 := (hSw.2.cell 3).trans HM3.out; have ck := (hSw.1.cell (p := ⟨b, off + k, none⟩) hbq).trans hcell; have r1 := (hSw.1.cell (p := ⟨rb, 1, none⟩) HR.out.1).trans HR.out.2.2
            go_simp
          simp only [Act.put, List.setIfInBounds_toArray, List.set_cons_zero, List.set_cons_succ]
          refine Od.Till.takeT (i := 10) (d := 37) (v := .bool bz) rfl rfl (by kernel_rfl) (by kernel_rfl) (by kernel_rfl) (by kernel_rfl) (fun _ _ _ h => h) (.inl ⟨by rfl, ?_⟩) trivial hT0 ?_
          · intro wx hSw
            have q3 := (hSw.2.cell 3).trans HM3.out; have ck := (hSw.1.cell (p := ⟨b, off + k, none⟩) hbq).trans hcell; have r1 := (hSw.1.cell (p := ⟨rb, 1, none⟩) HR.out.1).trans HR.out.2.2
            go_simp
          simp only [Act.put, List.setIfInBounds_toArray, List.set_cons_zero, List.set_cons_succ]
          refine Od.Till.done (by kernel_rfl) ?_
          have HF0 := Lib.hid hT0
          clear hT0 hcell hbq hbz
          cases bz with
          | false =>
            have HGT : Hid (z ≤ (T.marks.length : Int)) := Lib.hid (by have := of_decide_eq_false HBZ.out; omega)
            go_wp2_with fail
            go_roundw
            case rel =>
              refine ⟨k + 1, HLT.out, by go_num, HF0.out, HNd0.out, Lib.hid (fun j hj => ?_)⟩
              rcases Nat.lt_or_ge j k with h1 | h1
              · exact htill.out j h1
              · obtain rfl : j = k := by omega
                rw [HZ.out]; exact HGT.out
            case measure => have := HLT.out; simp [intOf]; omega
          | true =>
            have hgt : ¬ z ≤ (T.marks.length : Int) := by have := of_decide_eq_true HBZ.out; omega
            have HEE : Hid (findE T (k0 : Int) d0 = 50 ∧ findZ T (k0 : Int) d0 = Seen.zero) := Lib.hid (by
              have hno : markOk T.marks.length d0.M = false := mkt_not HLT.out (by rw [HZ.out]; exact hgt)
              have he : findE T (k0 : Int) d0 = 50 := by unfold findE; rw [if_neg (by simpa using HK0.out.2), if_neg (by simpa using HSYM.out), hno, if_neg (by decide)]
              exact ⟨he, by unfold findZ; rw [he, if_neg (by decide)]⟩)
            clear hgt
            go_wp2_with (refine wpList_store_row rfl 49 (.tmp 6) (.tmp 38) rfl (w.heap.size + 1) (seenC Seen.zero) rfl rfl 49 (seenC Seen.zero) HNd0.out info_seen rfl (seenC_one _) ?_)
            obtain ⟨h1, h2⟩ := HEE.out
            rw [HZE.out.2] at h1
            rw [HZE.out.1] at h2
            subst h1 h2
            exact rfind_fin w _ _ Seen.zero 50 (w.heap.size + 1) rfl rfl (setRow_heap _ _ (seenC Seen.zero) (seenC Seen.zero) _ _ HNd0.out) (bel_row HF0.out.1 (w.heap.size + 1) _ (Nat.le_succ _))
        · have dl : decide ((k : Int) < (d0.M.length : Int)) = false := decide_eq_false (by omega)
          obtain rfl : k = d0.M.length := by omega
          have HMO := Lib.hid (mkt_all htill.out)
          have hE0 : findE T (k0 : Int) d0 = 0 := findE_is HK0.out.1 HSYM.out HMO.out
          have hZ0 : findZ T (k0 : Int) d0 = T.seen k0 (idn d0) := by unfold findZ; rw [hE0, if_pos rfl]; rfl
          have HE0 := Lib.hid (And.intro hE0 hZ0)
          clear hE0 hZ0 htill hlt
          go_wp2_with fail
          clear e3 dl
          go_loopw [9] (fun i wr => ∃ (pre : List Nat) (cur : Nat), Hid (T.chain k0 = pre ++ T.chain cur) ∧ i = .int .i64 (cur : Int) ∧ cur < T.rows.length ∧ FC w D0 wr ∧ Da.Blk wr (w.heap.size + 1) 49 (seenC Seen.zero) ∧ Hid (∀ j ∈ pre, T.id j ≠ idn d0)) (fun i _ => (intOf i).toNat)
          case atStart => exact ⟨[], k0, Lib.hid rfl, rfl, HK0.out.1, HFr.out, HNr.out, Lib.hid (fun j hj => by cases hj)⟩
          case round =>
            clear HFr HNr
            obtain ⟨pre, cur, hch, rfl, hcl, hF, hN, hpre⟩ := hrel
            have HFr := Lib.hid hF
            have HNr := Lib.hid hN
            clear hF hN
            by_cases hz : cur = 0
            · have dz : ((cur : Int) != 0) = false := by subst hz; rfl
              have hfull : T.binder k0 (idn d0) = 0 := binder_full (fun i hi => by
                rw [hch.out, hz, chain_zero, List.append_nil] at hi
                exact hpre.out i hi)
              have HB0 := Lib.hid hfull
              clear hfull hz
              have e2 : wr.cell? ⟨w.heap.size, 2, none⟩ = some (.string d0.S) := (HFr.out.2.cell 2).trans HM2.out
              have e3 : wr.cell? ⟨w.heap.size, 3, none⟩ = some (.slice am d0.M.length cm) := (HFr.out.2.cell 3).trans HM3.out
              rcases Nat.eq_zero_or_pos d0.M.length with h0 | hpos
              · have HEE : Hid (findE T (k0 : Int) d0 = 0 ∧ findZ T (k0 : Int) d0 = ⟨0, 0, (idn d0).s⟩) := Lib.hid ⟨HE0.out.1, by rw [HE0.out.2, seen_free' HB0.out (List.eq_nil_of_length_eq_zero h0)]⟩
                rw [h0] at e3
                clear h0
                have hs0 : (⟨(idn d0).s.toArray⟩ : ByteArray) = d0.S := rfl
                go_wp2_with (refine wpList_store_row rfl 49 (.tmp 6) (.tmp 76) rfl (w.heap.size + 1) (seenC ⟨0, 0, (idn d0).s⟩) rfl rfl 49 (seenC Seen.zero) HNr.out info_seen rfl (seenC_one _) ?_)
                obtain ⟨h1, h2⟩ := HEE.out
                rw [HZE.out.2] at h1
                rw [HZE.out.1] at h2
                subst h1 h2
                exact rfind_fin w _ _ ⟨0, 0, (idn d0).s⟩ 0 (w.heap.size + 1) rfl rfl (setRow_heap _ _ (seenC Seen.zero) (seenC ⟨0, 0, (idn d0).s⟩) _ _ HNr.out) (bel_row HFr.out.1 (w.heap.size + 1) _ (Nat.le_succ _))
              · obtain ⟨n0, hn0⟩ : ∃ n0, d0.M.length = n0 + 1 := ⟨d0.M.length - 1, by omega⟩
                obtain ⟨t1, t2, t3, t4, t5⟩ := find_step HTOK.out HK0.out.1 HSYM.out HMO.out hn0 HB0.out
                obtain ⟨b, off, rfl, hbq, hcell⟩ := HIR.out.2.2.2.2.2.2 n0 (by omega)
                obtain ⟨z, hz⟩ : ∃ z, d0.M.getD n0 0 = z := ⟨_, rfl⟩
                rw [hz] at hcell t1 t2 t3 t4 t5
                obtain ⟨j0, hj0⟩ : ∃ j0, z.toNat - 1 = j0 := ⟨_, rfl⟩
                rw [hj0] at t3 t4 t5
                have hjz : z - 1 = (j0 : Int) := by omega
                have hjK : j0 < T.marks.length := by omega
                obtain ⟨mb, rfl, hmb, _, hmc⟩ := row_cells HT.out.marks (by omega)
                obtain ⟨s2, hs2⟩ : ∃ s2, T.marks.getD j0 0 = s2 := ⟨_, rfl⟩
                rw [hs2] at t3 t4 t5
                have hmcell : w.cell? ⟨mb, j0, none⟩ = some (.int .i64 (s2 : Int)) := hmc j0 _ (by
                  unfold marksC
                  rw [List.getElem?_map, List.getElem?_eq_getElem hjK, ← hs2, List.getD_eq_getElem?_getD, List.getElem?_eq_getElem hjK]
                  rfl)
                have hzj : IntKind.i64.wrap (z - 1) = (j0 : Int) := by rw [hjz]; exact IntWalk.i64_in _ (by have := HTOK.out.fewM; omega)
                have i0j : (0 : Int) ≤ (j0 : Int) := Int.natCast_nonneg _
                have i1j : (j0 : Int) < (T.marks.length : Int) := by omega
                have i0n : (0 : Int) ≤ (n0 : Int) := Int.natCast_nonneg _
                have i1n : (n0 : Int) < (n0 : Int) + 1 := by omega
                have i2n : (n0 : Int) < ((n0 + 1 : Nat) : Int) := by omega
                have hk1 : IntKind.i64.wrap ((n0 : Int) + 1 - 1) = (n0 : Int) := by rw [show (n0 : Int) + 1 - 1 = (n0 : Int) by omega]; exact IntWalk.i64_in _ (by omega)
                have hk2 : IntKind.i64.wrap (n0 : Int) = (n0 : Int) := IntWalk.i64_in _ (by omega)
                have hsl := run_prei (some ⟨b, off, none⟩) (n0 + 1) cm n0 (by have := HIR.out.2.1; omega)
                generalize hz2 : findZ T (s2 : Int) (lessD d0) = z2 at t5
                have HREC : Hid (∀ W0, Below w.heap.size w W0 → Calls Try.prog 23 #[.pointer (some ⟨rb, 0, none⟩), .int .i64 (s2 : Int), .agg (symD d0.S (.slice (some ⟨b, off, none⟩) n0 cm))] W0 (FindIs z2 0 W0)) := Lib.hid (fun W0 hW0 => by
                  have hlen : (d0.M.take (d0.M.length - 1)).length = n0 := by rw [List.length_take]; omega
                  have hir : Da.IntRow W0 (Da.Lo W0.heap.size) (some ⟨b, off, none⟩) n0 cm (d0.M.take (d0.M.length - 1)) := by
                    obtain ⟨r1, r2, r3, r4, r5, r6, r7⟩ := HIR.out
                    refine ⟨hlen, by omega, r3, by omega, r5, fun x hx => r6 x (List.mem_of_mem_take hx), fun q hq => ?_⟩
                    obtain ⟨b', off', e1, e2, e3⟩ := r7 q (by omega)
                    refine ⟨b', off', e1, Nat.lt_of_lt_of_le e2 hW0.size, ?_⟩
                    rw [(hW0.cell (p := ⟨b', off' + q, none⟩) e2), e3, List.getD_eq_getElem?_getD, List.getD_eq_getElem?_getD, List.getElem?_take_of_lt (by omega)]
                  have hdl := dt_sym (s := d0.S) (m := d0.M.take (d0.M.length - 1)) (am := some ⟨b, off, none⟩) (cm := cm) (by
                    obtain ⟨_, _, _, _, _, _, _, _, _, hs, _⟩ := HD.out.open_
                    exact hs) (by rw [hlen]; exact hir)
                  rw [hlen] at hdl
                  have h := HIH.out n0 hn0 s2 _ W0 hdl (H.out.bel hW0)
                  rw [hz2, t4] at h
                  exact h)
                have HEE : Hid (findE T (k0 : Int) d0 = 0 ∧ findZ T (k0 : Int) d0 = z2) := Lib.hid ⟨HE0.out.1, by rw [HE0.out.2, ← t5]⟩
                rw [hn0] at e3
                have HM3 : Hid (D0.toArray[3]? = some (.slice (some ⟨b, off, none⟩) (n0 + 1) cm)) := Lib.hid (by rw [← hn0]; exact HM3.out)
                clear hz t1 t2 t3 t4 t5 hjz hjK hmc hs2 hn0 hpos hz2 hj0
                go_upto_region 18 with (fail)
                clear e2 e3 dz
                have hT0 : FC w D0 wr.drew := HFr.out.drew
                replace HNr := Lib.hid (show Da.Blk wr.drew (w.heap.size + 1) 49 (seenC Seen.zero) from HNr.out)
                refine Od.till_region 25 (fun _ : World => True) (FC w D0) 25 (by kernel_rfl) rfl ?_
                simp only [Array.replicate_succ, Array.replicate_zero, List.push_toArray, List.nil_append, List.cons_append]
                generalize wr.drew = W0 at hT0 HNr ⊢
                refine Od.Till.takeT (i := 0) (d := 81) (v := .pointer (some ⟨rb, 0, none⟩)) rfl rfl (by kernel_rfl) (by kernel_rfl) (by kernel_rfl) (by kernel_rfl) (fun _ _ _ h => h) (.inl ⟨by rfl, ?_⟩) trivial hT0 ?_
                · intro wx hSw
                  have q2 := (hSw.2.cell 2).trans HM2.out; have q3 := (hSw.2.cell 3).trans HM3.out; have ck := (hSw.1.cell (p := ⟨b, off + n0, none⟩) hbq).trans hcell; have r1 := (hSw.1.cell (p := ⟨rb, 1, none⟩) HR.out.1).trans HR.out.2.2; have cm2 := (hSw.1.cell (p := ⟨mb, j0, none⟩) hmb).trans hmcell
                  go_simp
                simp only [Act.put, List.setIfInBounds_toArray, List.set_cons_zero, List.set_cons_succ]
                refine Od.Till.takeT (i := 1) (d := 82) (v := .pointer (some ⟨rb, 0, none⟩)) rfl rfl (by kernel_rfl) (by kernel_rfl) (by kernel_rfl) (by kernel_rfl) (fun _ _ _ h => h) (.inl ⟨by rfl, ?_⟩) trivial hT0 ?_
                · intro wx hSw
                  have q2 := (hSw.2.cell 2).trans HM2.out; have q3 := (hSw.2.cell 3).trans HM3.out; have ck := (hSw.1.cell (p := ⟨b, off + n0, none⟩) hbq).trans hcell; have r1 := (hSw.1.cell (p := ⟨rb, 1, none⟩) HR.out.1).trans HR.out.2.2; have cm2 := (hSw.1.cell (p := ⟨mb, j0, none⟩) hmb).trans hmcell
                  go_simp
                simp only [Act.put, List.setIfInBounds_toArray, List.set_cons_zero, List.set_cons_succ]
                refine Od.Till.takeT (i := 2) (d := 83) (v := .pointer (some ⟨rb, 0, none⟩)) rfl rfl (by kernel_rfl) (by kernel_rfl) (by kernel_rfl) (by kernel_rfl) (fun _ _ _ h => h) (.inl ⟨by rfl, ?_⟩) trivial hT0 ?_
                · intro wx hSw
                  have q2 := (hSw.2.cell 2).trans HM2.out; have q3 := (hSw.2.cell 3).trans HM3.out; have ck := (hSw.1.cell (p := ⟨b, off + n0, none⟩) hbq).trans hcell; have r1 := (hSw.1.cell (p := ⟨rb, 1, none⟩) HR.out.1).trans HR.out.2.2; have cm2 := (hSw.1.cell (p := ⟨mb, j0, none⟩) hmb).trans hmcell
                  go_simp
                simp only [Act.put, List.setIfInBounds_toArray, List.set_cons_zero, List.set_cons_succ]
                refine Od.Till.takeT (i := 3) (d := 84) (v := .pointer (some ⟨rb, 1, none⟩)) rfl rfl (by kernel_rfl) (by kernel_rfl) (by kernel_rfl) (by kernel_rfl) (fun _ _ _ h => h) (.inl ⟨by rfl, ?_⟩) trivial hT0 ?_
                · intro wx hSw
                  have q2 := (hSw.2.cell 2).trans HM2.out; have q3 := (hSw.2.cell 3).trans HM3.out; have ck := (hSw.1.cell (p := ⟨b, off + n0, none⟩) hbq).trans hcell; have r1 := (hSw.1.cell (p := ⟨rb, 1, none⟩) HR.out.1).trans HR.out.2.2; have cm2 := (hSw.1.cell (p := ⟨mb, j0, none⟩) hmb).trans hmcell
                  go_simp
                simp only [Act.put, List.setIfInBounds_toArray, List.set_cons_zero, List.set_cons_succ]
                refine Od.Till.takeT (i := 4) (d := 85) (v := .slice (some ⟨mb, 0, none⟩) T.marks.length mc) rfl rfl (by kernel_rfl) (by kernel_rfl) (by kernel_rfl) (by kernel_rfl) (fun _ _ _ h => h) (.inl ⟨by rfl, ?_⟩) trivial hT0 ?_
                · intro wx hSw
                  have q2 := (hSw.2.cell 2).trans HM2.out; have q3 := (hSw.2.cell 3).trans HM3.out; have ck := (hSw.1.cell (p := ⟨b, off + n0, none⟩) hbq).trans hcell; have r1 := (hSw.1.cell (p := ⟨rb, 1, none⟩) HR.out.1).trans HR.out.2.2; have cm2 := (hSw.1.cell (p := ⟨mb, j0, none⟩) hmb).trans hmcell
                  go_simp
                simp only [Act.put, List.setIfInBounds_toArray, List.set_cons_zero, List.set_cons_succ]
                refine Od.Till.takeT (i := 5) (d := 86) (v := .pointer (some ⟨w.heap.size, 3, none⟩)) rfl rfl (by kernel_rfl) (by kernel_rfl) (by kernel_rfl) (by kernel_rfl) (fun _ _ _ h => h) (.inl ⟨by rfl, ?_⟩) trivial hT0 ?_
                · intro wx hSw
                  have q2 := (hSw.2.cell 2).trans HM2.out; have q3 := (hSw.2.cell 3).trans HM3.out; have ck := (hSw.1.cell (p := ⟨b, off + n0, none⟩) hbq).trans hcell; have r1 := (hSw.1.cell (p := ⟨rb, 1, none⟩) HR.out.1).trans HR.out.2.2; have cm2 := (hSw.1.cell (p := ⟨mb, j0, none⟩) hmb).trans hmcell
                  go_simp
                simp only [Act.put, List.setIfInBounds_toArray, List.set_cons_zero, List.set_cons_succ]
                refine Od.Till.takeT (i := 6) (d := 87) (v := .slice (some ⟨b, off, none⟩) (n0 + 1) cm) rfl rfl (by kernel_rfl) (by kernel_rfl) (by kernel_rfl) (by kernel_rfl) (fun _ _ _ h => h) (.inl ⟨by rfl, ?_⟩) trivial hT0 ?_
                · intro wx hSw
                  have q2 := (hSw.2.cell 2).trans HM2.out; have q3 := (hSw.2.cell 3).trans HM3.out; have ck := (hSw.1.cell (p := ⟨b, off + n0, none⟩) hbq).trans hcell; have r1 := (hSw.1.cell (p := ⟨rb, 1, none⟩) HR.out.1).trans HR.out.2.2; have cm2 := (hSw.1.cell (p := ⟨mb, j0, none⟩) hmb).trans hmcell
                  go_simp
                simp only [Act.put, List.setIfInBounds_toArray, List.set_cons_zero, List.set_cons_succ]
                refine Od.Till.takeT (i := 7) (d := 88) (v := .int .i64 (n0 : Int)) rfl rfl (by kernel_rfl) (by kernel_rfl) (by kernel_rfl) (by kernel_rfl) (fun _ _ _ h => h) (.inl ⟨by rfl, ?_⟩) trivial hT0 ?_
                · intro wx hSw
                  have q2 := (hSw.2.cell 2).trans HM2.out; have q3 := (hSw.2.cell 3).trans HM3.out; have ck := (hSw.1.cell (p := ⟨b, off + n0, none⟩) hbq).trans hcell; have r1 := (hSw.1.cell (p := ⟨rb, 1, none⟩) HR.out.1).trans HR.out.2.2; have cm2 := (hSw.1.cell (p := ⟨mb, j0, none⟩) hmb).trans hmcell
                  go_simp
                simp only [Act.put, List.setIfInBounds_toArray, List.set_cons_zero, List.set_cons_succ]
                refine Od.Till.takeT (i := 8) (d := 89) (v := .pointer (some ⟨b, off + n0, none⟩)) rfl rfl (by kernel_rfl) (by kernel_rfl) (by kernel_rfl) (by kernel_rfl) (fun _ _ _ h => h) (.inl ⟨by rfl, ?_⟩) trivial hT0 ?_
                · intro wx hSw
                  have q2 := (hSw.2.cell 2).trans HM2.out; have q3 := (hSw.2.cell 3).trans HM3.out; have ck := (hSw.1.cell (p := ⟨b, off + n0, none⟩) hbq).trans hcell; have r1 := (hSw.1.cell (p := ⟨rb, 1, none⟩) HR.out.1).trans HR.out.2.2; have cm2 := (hSw.1.cell (p := ⟨mb, j0, none⟩) hmb).trans hmcell
                  go_simp
                simp only [Act.put, List.setIfInBounds_toArray, List.set_cons_zero, List.set_cons_succ]
                refine Od.Till.takeT (i := 9) (d := 90) (v := .int .i64 z) rfl rfl (by kernel_rfl) (by kernel_rfl) (by kernel_rfl) (by kernel_rfl) (fun _ _ _ h => h) (.inl ⟨by rfl, ?_⟩) trivial hT0 ?_
                · intro wx hSw
                  have q2 := (hSw.2.cell 2).trans HM2.out; have q3 := (hSw.2.cell 3).trans HM3.out; have ck := (hSw.1.cell (p := ⟨b, off + n0, none⟩) hbq).trans hcell; have r1 := (hSw.1.cell (p := ⟨rb, 1, none⟩) HR.out.1).trans HR.out.2.2; have cm2 := (hSw.1.cell (p := ⟨mb, j0, none⟩) hmb).trans hmcell
                  go_simp
                simp only [Act.put, List.setIfInBounds_toArray, List.set_cons_zero, List.set_cons_succ]
                refine Od.Till.takeT (i := 10) (d := 91) (v := .int .i64 (j0 : Int)) rfl rfl (by kernel_rfl) (by kernel_rfl) (by kernel_rfl) (by kernel_rfl) (fun _ _ _ h => h) (.inl ⟨by rfl, ?_⟩) trivial hT0 ?_
                · intro wx hSw
                  have q2 := (hSw.2.cell 2).trans HM2.out; have q3 := (hSw.2.cell 3).trans HM3.out; have ck := (hSw.1.cell (p := ⟨b, off + n0, none⟩) hbq).trans hcell; have r1 := (hSw.1.cell (p := ⟨rb, 1, none⟩) HR.out.1).trans HR.out.2.2; have cm2 := (hSw.1.cell (p := ⟨mb, j0, none⟩) hmb).trans hmcell
                  go_simp
                simp only [Act.put, List.setIfInBounds_toArray, List.set_cons_zero, List.set_cons_succ]
                refine Od.Till.takeT (i := 11) (d := 92) (v := .pointer (some ⟨mb, j0, none⟩)) rfl rfl (by kernel_rfl) (by kernel_rfl) (by kernel_rfl) (by kernel_rfl) (fun _ _ _ h => h) (.inl ⟨by rfl, ?_⟩) trivial hT0 ?_
                · intro wx hSw
                  have q2 := (hSw.2.cell 2).trans HM2.out; have q3 := (hSw.2.cell 3).trans HM3.out; have ck := (hSw.1.cell (p := ⟨b, off + n0, none⟩) hbq).trans hcell; have r1 := (hSw.1.cell (p := ⟨rb, 1, none⟩) HR.out.1).trans HR.out.2.2; have cm2 := (hSw.1.cell (p := ⟨mb, j0, none⟩) hmb).trans hmcell
                  go_simp
                simp only [Act.put, List.setIfInBounds_toArray, List.set_cons_zero, List.set_cons_succ]
                refine Od.Till.takeT (i := 12) (d := 93) (v := .int .i64 (s2 : Int)) rfl rfl (by kernel_rfl) (by kernel_rfl) (by kernel_rfl) (by kernel_rfl) (fun _ _ _ h => h) (.inl ⟨by rfl, ?_⟩) trivial hT0 ?_
                · intro wx hSw
                  have q2 := (hSw.2.cell 2).trans HM2.out; have q3 := (hSw.2.cell 3).trans HM3.out; have ck := (hSw.1.cell (p := ⟨b, off + n0, none⟩) hbq).trans hcell; have r1 := (hSw.1.cell (p := ⟨rb, 1, none⟩) HR.out.1).trans HR.out.2.2; have cm2 := (hSw.1.cell (p := ⟨mb, j0, none⟩) hmb).trans hmcell
                  go_simp
                simp only [Act.put, List.setIfInBounds_toArray, List.set_cons_zero, List.set_cons_succ]
                refine Od.Till.takeT (i := 13) (d := 94) (v := .pointer (some ⟨w.heap.size, 2, none⟩)) rfl rfl (by kernel_rfl) (by kernel_rfl) (by kernel_rfl) (by kernel_rfl) (fun _ _ _ h => h) (.inl ⟨by rfl, ?_⟩) trivial hT0 ?_
                · intro wx hSw
                  have q2 := (hSw.2.cell 2).trans HM2.out; have q3 := (hSw.2.cell 3).trans HM3.out; have ck := (hSw.1.cell (p := ⟨b, off + n0, none⟩) hbq).trans hcell; have r1 := (hSw.1.cell (p := ⟨rb, 1, none⟩) HR.out.1).trans HR.out.2.2; have cm2 := (hSw.1.cell (p := ⟨mb, j0, none⟩) hmb).trans hmcell
                  go_simp
                simp only [Act.put, List.setIfInBounds_toArray, List.set_cons_zero, List.set_cons_succ]
                refine Od.Till.takeT (i := 14) (d := 95) (v := .string d0.S) rfl rfl (by kernel_rfl) (by kernel_rfl) (by kernel_rfl) (by kernel_rfl) (fun _ _ _ h => h) (.inl ⟨by rfl, ?_⟩) trivial hT0 ?_
                · intro wx hSw
                  have q2 := (hSw.2.cell 2).trans HM2.out; have q3 := (hSw.2.cell 3).trans HM3.out; have ck := (hSw.1.cell (p := ⟨b, off + n0, none⟩) hbq).trans hcell; have r1 := (hSw.1.cell (p := ⟨rb, 1, none⟩) HR.out.1).trans HR.out.2.2; have cm2 := (hSw.1.cell (p := ⟨mb, j0, none⟩) hmb).trans hmcell
                  go_simp
                simp only [Act.put, List.setIfInBounds_toArray, List.set_cons_zero, List.set_cons_succ]
                refine Od.Till.takeT (i := 15) (d := 96) (v := .pointer (some ⟨w.heap.size, 3, none⟩)) rfl rfl (by kernel_rfl) (by kernel_rfl) (by kernel_rfl) (by kernel_rfl) (fun _ _ _ h => h) (.inl ⟨by rfl, ?_⟩) trivial hT0 ?_
                · intro wx hSw
                  have q2 := (hSw.2.cell 2).trans HM2.out; have q3 := (hSw.2.cell 3).trans HM3.out; have ck := (hSw.1.cell (p := ⟨b, off + n0, none⟩) hbq).trans hcell; have r1 := (hSw.1.cell (p := ⟨rb, 1, none⟩) HR.out.1).trans HR.out.2.2; have cm2 := (hSw.1.cell (p := ⟨mb, j0, none⟩) hmb).trans hmcell
                  go_simp
                simp only [Act.put, List.setIfInBounds_toArray, List.set_cons_zero, List.set_cons_succ]
                refine Od.Till.takeT (i := 16) (d := 97) (v := .slice (some ⟨b, off, none⟩) (n0 + 1) cm) rfl rfl (by kernel_rfl) (by kernel_rfl) (by kernel_rfl) (by kernel_rfl) (fun _ _ _ h => h) (.inl ⟨by rfl, ?_⟩) trivial hT0 ?_
                · intro wx hSw
                  have q2 := (hSw.2.cell 2).trans HM2.out; have q3 := (hSw.2.cell 3).trans HM3.out; have ck := (hSw.1.cell (p := ⟨b, off + n0, none⟩) hbq).trans hcell; have r1 := (hSw.1.cell (p := ⟨rb, 1, none⟩) HR.out.1).trans HR.out.2.2; have cm2 := (hSw.1.cell (p := ⟨mb, j0, none⟩) hmb).trans hmcell
                  go_simp
                simp only [Act.put, List.setIfInBounds_toArray, List.set_cons_zero, List.set_cons_succ]
                refine Od.Till.takeT (i := 17) (d := 98) (v := .int .i64 (n0 : Int)) rfl rfl (by kernel_rfl) (by kernel_rfl) (by kernel_rfl) (by kernel_rfl) (fun _ _ _ h => h) (.inl ⟨by rfl, ?_⟩) trivial hT0 ?_
                · intro wx hSw
                  have q2 := (hSw.2.cell 2).trans HM2.out; have q3 := (hSw.2.cell 3).trans HM3.out; have ck := (hSw.1.cell (p := ⟨b, off + n0, none⟩) hbq).trans hcell; have r1 := (hSw.1.cell (p := ⟨rb, 1, none⟩) HR.out.1).trans HR.out.2.2; have cm2 := (hSw.1.cell (p := ⟨mb, j0, none⟩) hmb).trans hmcell
                  go_simp
                simp only [Act.put, List.setIfInBounds_toArray, List.set_cons_zero, List.set_cons_succ]
                refine Od.Till.takeT (i := 18) (d := 99) (v := .slice (some ⟨b, off, none⟩) n0 cm) rfl rfl (by kernel_rfl) (by kernel_rfl) (by kernel_rfl) (by kernel_rfl) (fun _ _ _ h => h) (.inl ⟨by rfl, ?_⟩) trivial hT0 ?_
                · intro wx hSw
                  have q2 := (hSw.2.cell 2).trans HM2.out; have q3 := (hSw.2.cell 3).trans HM3.out; have ck := (hSw.1.cell (p := ⟨b, off + n0, none⟩) hbq).trans hcell; have r1 := (hSw.1.cell (p := ⟨rb, 1, none⟩) HR.out.1).trans HR.out.2.2; have cm2 := (hSw.1.cell (p := ⟨mb, j0, none⟩) hmb).trans hmcell
                  go_simp
                simp only [Act.put, List.setIfInBounds_toArray, List.set_cons_zero, List.set_cons_succ]
                refine Od.Till.takeT (i := 19) (d := 100) (v := .agg (symD d0.S (.slice (some ⟨b, off, none⟩) n0 cm))) rfl rfl (by kernel_rfl) (by kernel_rfl) (by kernel_rfl) (by kernel_rfl) (fun _ _ _ h => h) (.inl ⟨by rfl, ?_⟩) trivial hT0 ?_
                · intro wx hSw
                  have q2 := (hSw.2.cell 2).trans HM2.out; have q3 := (hSw.2.cell 3).trans HM3.out; have ck := (hSw.1.cell (p := ⟨b, off + n0, none⟩) hbq).trans hcell; have r1 := (hSw.1.cell (p := ⟨rb, 1, none⟩) HR.out.1).trans HR.out.2.2; have cm2 := (hSw.1.cell (p := ⟨mb, j0, none⟩) hmb).trans hmcell
                  refine Ld.exec_build 33 #[(0, .const (.int .i64 5)), (2, .tmp 95), (3, .tmp 99)] rfl _ ?_; simp only [List.map_toArray, List.map_cons, List.map_nil]; exact built_sd d0.S _ n0 cm
                simp only [Act.put, List.setIfInBounds_toArray, List.set_cons_zero, List.set_cons_succ]
                refine Od.Till.one (i := 20) (by kernel_rfl) rfl (fun K hK => ?_)
                rw [if_pos (by kernel_rfl)]
                go_simp
                refine (HREC.out W0 hT0.1).mono ?_
                rintro e W1 ⟨rfl, hb1⟩
                have hT1 : FC w D0 W1 := hT0.bel hb1
                have HN1 := Lib.hid (show Da.Blk W1 (w.heap.size + 1) 49 (seenC Seen.zero) from (hb1.block _ (Array.getElem?_eq_some_iff.1 HNr.out).1).trans HNr.out)
                clear hb1
                refine hK.out _ _ ⟨fun _ => trivial, hT1⟩ ?_
                clear hK K
                simp only [Act.put, List.setIfInBounds_toArray, List.set_cons_zero, List.set_cons_succ]
                refine Od.Till.takeT (i := 21) (d := 102) (v := z2.V) rfl rfl (by kernel_rfl) (by kernel_rfl) (by kernel_rfl) (by kernel_rfl) (fun _ _ _ h => h) (.inl ⟨by rfl, ?_⟩) trivial hT1 ?_
                · intro wx hSw
                  have q2 := (hSw.2.cell 2).trans HM2.out; have q3 := (hSw.2.cell 3).trans HM3.out; have ck := (hSw.1.cell (p := ⟨b, off + n0, none⟩) hbq).trans hcell; have r1 := (hSw.1.cell (p := ⟨rb, 1, none⟩) HR.out.1).trans HR.out.2.2; have cm2 := (hSw.1.cell (p := ⟨mb, j0, none⟩) hmb).trans hmcell
                  go_simp
                simp only [Act.put, List.setIfInBounds_toArray, List.set_cons_zero, List.set_cons_succ]
                refine Od.Till.takeT (i := 22) (d := 103) (v := .int .i64 0) rfl rfl (by kernel_rfl) (by kernel_rfl) (by kernel_rfl) (by kernel_rfl) (fun _ _ _ h => h) (.inl ⟨by rfl, ?_⟩) trivial hT1 ?_
                · intro wx hSw
                  have q2 := (hSw.2.cell 2).trans HM2.out; have q3 := (hSw.2.cell 3).trans HM3.out; have ck := (hSw.1.cell (p := ⟨b, off + n0, none⟩) hbq).trans hcell; have r1 := (hSw.1.cell (p := ⟨rb, 1, none⟩) HR.out.1).trans HR.out.2.2; have cm2 := (hSw.1.cell (p := ⟨mb, j0, none⟩) hmb).trans hmcell
                  go_simp
                simp only [Act.put, List.setIfInBounds_toArray, List.set_cons_zero, List.set_cons_succ]
                refine Od.Till.one (i := 23) (by kernel_rfl) rfl (fun K hK => ?_)
                rw [if_pos (by kernel_rfl)]
                refine wp_store_row 49 (.tmp 6) (.tmp 102) rfl (w.heap.size + 1) (seenC z2) rfl rfl 49 (seenC Seen.zero) HN1.out info_seen rfl (seenC_one _) ?_
                show K ({ tmps := _, defers := [] } : Act) _
                have hT2 : FC w D0 (W1.setRow (w.heap.size + 1) (seenC z2)) := ⟨bel_row hT1.1 _ _ (Nat.le_succ _), (setRow_other W1 _ _ _ (Nat.ne_of_lt (Nat.lt_succ_self _))).trans hT1.2⟩
                have HN2 := Lib.hid (show Da.Blk (W1.setRow (w.heap.size + 1) (seenC z2)) (w.heap.size + 1) 49 (seenC z2) from setRow_heap _ _ _ _ _ _ HN1.out)
                generalize (W1.setRow (w.heap.size + 1) (seenC z2)) = W2 at hT2 HN2 ⊢
                refine hK.out _ _ ⟨fun _ => trivial, hT2⟩ ?_
                clear hK K
                simp only [Act.put, List.setIfInBounds_toArray, List.set_cons_zero, List.set_cons_succ]
                refine Od.Till.takeT (i := 24) (d := 7) (v := .int .i64 0) rfl rfl (by kernel_rfl) (by kernel_rfl) (by kernel_rfl) (by kernel_rfl) (fun _ _ _ h => h) (.inl ⟨by rfl, ?_⟩) trivial hT2 ?_
                · intro wx hSw
                  have q2 := (hSw.2.cell 2).trans HM2.out; have q3 := (hSw.2.cell 3).trans HM3.out; have ck := (hSw.1.cell (p := ⟨b, off + n0, none⟩) hbq).trans hcell; have r1 := (hSw.1.cell (p := ⟨rb, 1, none⟩) HR.out.1).trans HR.out.2.2; have cm2 := (hSw.1.cell (p := ⟨mb, j0, none⟩) hmb).trans hmcell
                  go_simp
                simp only [Act.put, List.setIfInBounds_toArray, List.set_cons_zero, List.set_cons_succ]
                refine Od.Till.done (by kernel_rfl) ?_
                go_wp2_with fail
                obtain ⟨h1, h2⟩ := HEE.out
                rw [HZE.out.2] at h1
                rw [HZE.out.1] at h2
                subst h1 h2
                exact rfind_fin w W2 _ zz 0 (w.heap.size + 1) rfl rfl HN2.out hT2.1
            · have dz : ((cur : Int) != 0) = true := by simp; omega
              have hc2 : T.chain k0 = (pre ++ [cur]) ++ T.chain (T.par cur) := by rw [hch.out, chain_step HTOK.out hz, List.append_assoc]; rfl
              have hpar := HTOK.out.par' cur (by omega)
              have HCU := Lib.hid (And.intro hc2 (And.intro hpar (And.intro hcl (Nat.pos_of_ne_zero hz))))
              have i0c : (0 : Int) ≤ (cur : Int) := Int.natCast_nonneg _
              have i1c : (cur : Int) < (T.rows.length : Int) := by omega
              obtain ⟨r, hr⟩ : ∃ r, T.rows[cur]? = some r := ⟨_, List.getElem?_eq_getElem hcl⟩
              obtain ⟨cc, hcc⟩ : ∃ cc, cs[cur]? = some cc := ⟨_, List.getElem?_eq_getElem (by rw [HT.out.len]; exact hcl)⟩
              have hrid : r.id = T.id cur := by unfold Tab.id; rw [List.getD_eq_getElem?_getD, hr]; rfl
              have hrpar : r.par = T.par cur := by unfold Tab.par; rw [List.getD_eq_getElem?_getD, hr]; rfl
              have hrwh : r.what = T.what cur := by unfold Tab.what; rw [List.getD_eq_getElem?_getD, hr]; rfl
              have hc6 := HT.out.six cc (List.mem_of_getElem? hcc)
              have HCC : Hid (cc.length = 6 ∧ Da.IsDt w (Da.Lo w.heap.size) (dtI (T.id cur)) (.agg cc.toArray)) := Lib.hid ⟨hc6, by rw [← hrid]; exact (HT.out.dat cur cc r (Nat.pos_of_ne_zero hz) hcc hr).more (fun j hj => HT.out.lt j hj)⟩
              have hat : ∀ j u, (rrow r cc)[j]? = some u → j < 8 → w.cell? ⟨g, cur * 8 + j, none⟩ = some u := fun j u hu hj => HCELLS.out (cur * 8 + j) u (by rw [rrows_at T.rows cs cur j r cc hr hcc HT.out.six hj]; exact hu)
              have hpc : w.cell? ⟨g, cur * 8, none⟩ = some (.int .i64 (T.par cur : Int)) := by have := hat 0 _ rfl (by decide); rwa [Nat.add_zero, hrpar] at this
              have hwc : w.cell? ⟨g, cur * 8 + 7, none⟩ = some (.int .i64 (T.what cur)) := hat 7 _ (by
                unfold rrow
                rw [List.getElem?_cons_succ, List.getElem?_append_right (by omega), hc6, hrwh]
                rfl) (by decide)
              have HROW : Hid (∀ j u, cc[j]? = some u → w.cell? ⟨g, cur * 8 + 1 + j, none⟩ = some u) := Lib.hid (fun j u hu => by
                have hj := (List.getElem?_eq_some_iff.1 hu).1
                rw [Nat.add_assoc, Nat.add_comm 1 j]
                exact hat (j + 1) u (by unfold rrow; rw [List.getElem?_cons_succ, List.getElem?_append_left hj]; exact hu) (by omega))
              have HPW := Lib.hid (And.intro hpc hwc)
              clear hc2 hpar hcl hz hr hcc hrid hrpar hrwh hc6 hat hpc hwc
              go_upto_region 13 with (fail)
              clear dz
              have hT0 : FC w D0 wr.drew := HFr.out.drew
              replace HNr := Lib.hid (show Da.Blk wr.drew (w.heap.size + 1) 49 (seenC Seen.zero) from HNr.out)
              refine Od.till_region 10 (fun _ : World => True) (FC w D0) 10 (by kernel_rfl) rfl ?_
              simp only [Array.replicate_succ, Array.replicate_zero, List.push_toArray, List.nil_append, List.cons_append]
              generalize wr.drew = W0 at hT0 HNr ⊢
              refine Od.Till.takeT (i := 0) (d := 50) (v := .pointer (some ⟨rb, 0, none⟩)) rfl rfl (by kernel_rfl) (by kernel_rfl) (by kernel_rfl) (by kernel_rfl) (fun _ _ _ h => h) (.inl ⟨by rfl, ?_⟩) trivial hT0 ?_
              · intro wx hSw
                have r0 := (hSw.1.cell (p := ⟨rb, 0, none⟩) HR.out.1).trans HR.out.2.1
                go_simp
              simp only [Act.put, List.setIfInBounds_toArray, List.set_cons_zero, List.set_cons_succ]
              refine Od.Till.takeT (i := 1) (d := 51) (v := .pointer (some ⟨rb, 0, none⟩)) rfl rfl (by kernel_rfl) (by kernel_rfl) (by kernel_rfl) (by kernel_rfl) (fun _ _ _ h => h) (.inl ⟨by rfl, ?_⟩) trivial hT0 ?_
              · intro wx hSw
                have r0 := (hSw.1.cell (p := ⟨rb, 0, none⟩) HR.out.1).trans HR.out.2.1
                go_simp
              simp only [Act.put, List.setIfInBounds_toArray, List.set_cons_zero, List.set_cons_succ]
              refine Od.Till.takeT (i := 2) (d := 52) (v := .pointer (some ⟨rb, 0, none⟩)) rfl rfl (by kernel_rfl) (by kernel_rfl) (by kernel_rfl) (by kernel_rfl) (fun _ _ _ h => h) (.inl ⟨by rfl, ?_⟩) trivial hT0 ?_
              · intro wx hSw
                have r0 := (hSw.1.cell (p := ⟨rb, 0, none⟩) HR.out.1).trans HR.out.2.1
                go_simp
              simp only [Act.put, List.setIfInBounds_toArray, List.set_cons_zero, List.set_cons_succ]
              refine Od.Till.takeT (i := 3) (d := 53) (v := .slice (some ⟨g, 0, none⟩) T.rows.length lc) rfl rfl (by kernel_rfl) (by kernel_rfl) (by kernel_rfl) (by kernel_rfl) (fun _ _ _ h => h) (.inl ⟨by rfl, ?_⟩) trivial hT0 ?_
              · intro wx hSw
                have r0 := (hSw.1.cell (p := ⟨rb, 0, none⟩) HR.out.1).trans HR.out.2.1
                go_simp
              simp only [Act.put, List.setIfInBounds_toArray, List.set_cons_zero, List.set_cons_succ]
              refine Od.Till.takeT (i := 4) (d := 54) (v := .int .i64 (cur : Int)) rfl rfl (by kernel_rfl) (by kernel_rfl) (by kernel_rfl) (by kernel_rfl) (fun _ _ _ h => h) (.inl ⟨by rfl, ?_⟩) trivial hT0 ?_
              · intro wx hSw
                have r0 := (hSw.1.cell (p := ⟨rb, 0, none⟩) HR.out.1).trans HR.out.2.1
                go_simp
              simp only [Act.put, List.setIfInBounds_toArray, List.set_cons_zero, List.set_cons_succ]
              refine Od.Till.takeT (i := 5) (d := 55) (v := .pointer (some ⟨g, cur * 8, none⟩)) rfl rfl (by kernel_rfl) (by kernel_rfl) (by kernel_rfl) (by kernel_rfl) (fun _ _ _ h => h) (.inl ⟨by rfl, ?_⟩) trivial hT0 ?_
              · intro wx hSw
                have r0 := (hSw.1.cell (p := ⟨rb, 0, none⟩) HR.out.1).trans HR.out.2.1
                go_simp
              simp only [Act.put, List.setIfInBounds_toArray, List.set_cons_zero, List.set_cons_succ]
              refine Od.Till.takeT (i := 6) (d := 56) (v := .pointer (some ⟨g, cur * 8 + 1, none⟩)) rfl rfl (by kernel_rfl) (by kernel_rfl) (by kernel_rfl) (by kernel_rfl) (fun _ _ _ h => h) (.inl ⟨by rfl, ?_⟩) trivial hT0 ?_
              · intro wx hSw
                have r0 := (hSw.1.cell (p := ⟨rb, 0, none⟩) HR.out.1).trans HR.out.2.1
                go_simp
              simp only [Act.put, List.setIfInBounds_toArray, List.set_cons_zero, List.set_cons_succ]
              refine Od.Till.takeT (i := 7) (d := 57) (v := .agg cc.toArray) rfl rfl (by kernel_rfl) (by kernel_rfl) (by kernel_rfl) (by kernel_rfl) (fun _ _ _ h => h) (.inl ⟨by rfl, ?_⟩) trivial hT0 ?_
              · intro wx hSw
                have r0 := (hSw.1.cell (p := ⟨rb, 0, none⟩) HR.out.1).trans HR.out.2.1
                have hat : Ld.At wx g (cur * 8 + 1) cc := fun j u hu => (hSw.1.cell (p := ⟨g, cur * 8 + 1 + j, none⟩) HG.out).trans (HROW.out j u hu); exact Ld.exec_at 33 (.tmp 56) rfl g (cur * 8 + 1) rfl cc _ hat Try.underlying33 rfl (by rw [HCC.out.1]; exact info_dt6)
              simp only [Act.put, List.setIfInBounds_toArray, List.set_cons_zero, List.set_cons_succ]
              refine Od.Till.takeT (i := 8) (d := 58) (v := .agg D0.toArray) rfl rfl (by kernel_rfl) (by kernel_rfl) (by kernel_rfl) (by kernel_rfl) (fun _ _ _ h => h) (.inl ⟨by rfl, ?_⟩) trivial hT0 ?_
              · intro wx hSw
                have r0 := (hSw.1.cell (p := ⟨rb, 0, none⟩) HR.out.1).trans HR.out.2.1
                exact Ld.exec_at 33 (.tmp 5) rfl w.heap.size 0 rfl D0 _ (Ld.At.of_blk hSw.2) Try.underlying33 rfl HI.out
              simp only [Act.put, List.setIfInBounds_toArray, List.set_cons_zero, List.set_cons_succ]
              refine Od.Till.one (i := 9) (by kernel_rfl) rfl (fun K hK => ?_)
              rw [if_pos (by kernel_rfl)]
              go_simp
              refine (Da.rsame_any (dtI (T.id cur)) d0 _ _ w.heap.size W0 ((HCC.out.2.below hT0.1)) (HD.out.below hT0.1) hT0.1.size).mono ?_
              rintro e W1 ⟨rfl, hb1⟩
              have hT1 : FC w D0 W1 := hT0.bel hb1
              have HN1 := Lib.hid (show Da.Blk W1 (w.heap.size + 1) 49 (seenC Seen.zero) from (hb1.block _ (Array.getElem?_eq_some_iff.1 HNr.out).1).trans HNr.out)
              generalize hbs : ((Da.chk (dtI (T.id cur)) == 0) && Da.eqD (dtI (T.id cur)) d0) = bs
              have HBS := Lib.hid hbs
              clear hbs hb1
              refine hK.out _ _ ⟨fun _ => trivial, hT1⟩ ?_
              clear hK K
              simp only [Act.put, List.setIfInBounds_toArray, List.set_cons_zero, List.set_cons_succ]
              refine Od.Till.done (by kernel_rfl) ?_
              have HF1 := Lib.hid hT1
              have p0 := (hT1.1.cell (p := ⟨rb, 0, none⟩) HR.out.1).trans HR.out.2.1
              have p1 := (hT1.1.cell (p := ⟨g, cur * 8, none⟩) HG.out).trans HPW.out.1
              have p2 := (hT1.1.cell (p := ⟨g, cur * 8 + 7, none⟩) HG.out).trans HPW.out.2
              clear hT1 hT0
              cases bs with
              | true =>
                have hid : T.id cur = idn d0 := by
                  have h1 := HBS.out
                  rw [Bool.and_eq_true] at h1
                  have h2 := Da.eqD_is _ _ h1.2
                  rw [← h2]; rfl
                have hhit : T.binder k0 (idn d0) = cur := binder_hit (pre := pre) ⟨T.chain (T.par cur), HCU.out.1.symm⟩ hpre.out hid
                have HEE : Hid (findE T (k0 : Int) d0 = 0 ∧ findZ T (k0 : Int) d0 = ⟨cur, T.what cur, []⟩) := Lib.hid ⟨HE0.out.1, by rw [HE0.out.2]; exact seen_hit' hhit (Nat.ne_of_gt HCU.out.2.2.2)⟩
                clear hid hhit
                go_wp2_with (refine wpList_store_row rfl 49 (.tmp 6) (.tmp 69) rfl (w.heap.size + 1) (seenC ⟨cur, T.what cur, []⟩) rfl rfl 49 (seenC Seen.zero) HN1.out info_seen rfl (seenC_one _) ?_)
                obtain ⟨h1, h2⟩ := HEE.out
                rw [HZE.out.2] at h1
                rw [HZE.out.1] at h2
                subst h1 h2
                exact rfind_fin w _ _ ⟨cur, T.what cur, []⟩ 0 (w.heap.size + 1) rfl rfl (setRow_heap _ _ (seenC Seen.zero) (seenC ⟨cur, T.what cur, []⟩) _ _ HN1.out) (bel_row HF1.out.1 (w.heap.size + 1) _ (Nat.le_succ _))
              | false =>
                have hne : T.id cur ≠ idn d0 := fun he => by
                  have h1 := HBS.out
                  rw [he, sym_dtI HSYM.out, HSYM.out.2, Da.eqD_refl] at h1
                  cases h1
                have HNE := Lib.hid hne
                clear hne
                go_wp2_with fail
                go_roundw
                case rel =>
                  refine ⟨pre ++ [cur], T.par cur, Lib.hid HCU.out.1, rfl, by have := HCU.out.2.1; have := HCU.out.2.2.1; omega, HF1.out, HN1.out, Lib.hid (fun j hj => ?_)⟩
                  rcases List.mem_append.1 hj with h | h
                  · exact hpre.out j h
                  · obtain rfl : j = cur := by simpa using h
                    exact HNE.out
                case measure => have := HCU.out.2.1; simp [intOf]; omega
    · rw [decide_eq_false hy]
      have HEE : Hid (findE T (k0 : Int) d0 = 5 ∧ findZ T (k0 : Int) d0 = Seen.zero) := Lib.hid (by
        have he : findE T (k0 : Int) d0 = 5 := by unfold findE; rw [if_neg (by simpa using hc), if_pos hy]
        exact ⟨he, by unfold findZ; rw [he, if_neg (by decide)]⟩)
      clear hc hb hpos hy hk0
      go_wp2_with (refine wpList_store_row rfl 49 (.tmp 6) (.tmp 19) rfl (w.heap.size + 1) (seenC Seen.zero) rfl rfl 49 (seenC Seen.zero) HN3.out info_seen rfl (seenC_one _) ?_)
      obtain ⟨h1, h2⟩ := HEE.out
      rw [HZE.out.2] at h1
      rw [HZE.out.1] at h2
      subst h1 h2
      exact rfind_fin w _ _ Seen.zero 5 (w.heap.size + 1) rfl rfl (setRow_heap _ _ (seenC Seen.zero) (seenC Seen.zero) _ _ HN3.out) (bel_row HF3.out.1 (w.heap.size + 1) _ (Nat.le_succ _))
  · have h50 := chk50 hpos hc
    have HEE : Hid (findE T s d0 = 50 ∧ findZ T s d0 = Seen.zero) := Lib.hid (by
      have he : findE T s d0 = 50 := by unfold findE; rw [if_pos hc, h50]
      exact ⟨he, by unfold findZ; rw [he, if_neg (by decide)]⟩)
    have hb : (decide (0 ≤ s) && decide (s < (T.rows.length : Int))) = false := by rw [hasB hpos]; exact beq_eq_false_iff_ne.2 hc
    rw [hb]
    clear hc hb h50 hpos
    go_wp2_with (refine wpList_store_row rfl 49 (.tmp 6) (.tmp 15) rfl (w.heap.size + 1) (seenC Seen.zero) rfl rfl 49 (seenC Seen.zero) HNX.out info_seen rfl (seenC_one _) ?_)
    obtain ⟨h1, h2⟩ := HEE.out
    rw [HZE.out.2] at h1
    rw [HZE.out.1] at h2
    subst h1 h2
    exact rfind_fin w _ _ Seen.zero 50 (w.heap.size + 1) rfl rfl (setRow_heap _ _ (seenC Seen.zero) (seenC Seen.zero) _ _ HNX.out) (bel_row HFX.out.1 (w.heap.size + 1) _ (Nat.le_succ _))
theorem rfind_any (rb : Nat) (T : Tab) (R : Nat → Prop) (hT : T.Ok) : ∀ (N : Nat) (d0 : Da.Dt), d0.M.length = N → ∀ (s : Int) (v : Value) (w : World), Da.IsDt w (Da.Lo w.heap.size) d0 v → RTabIn w rb T R →
    Calls Try.prog 23 #[.pointer (some ⟨rb, 0, none⟩), .int .i64 s, v] w (FindIs (findZ T s d0) (findE T s d0) w) := by
  intro N
  induction N with
  | zero => exact fun d0 hN s v w hd h => rfind_one rb T R hT d0 s v w hd h (Lib.hid (fun n0 hn => by omega))
  | succ n ih => exact fun d0 hN s v w hd h => rfind_one rb T R hT d0 s v w hd h (Lib.hid (fun n0 hn s2 v2 W hd2 h2 => ih (lessD d0) (by
      show (d0.M.take (d0.M.length - 1)).length = n
      rw [List.length_take]; omega) s2 v2 W hd2 h2))
end Go.Proofs.Ytapnighankepjaa.Sc
end
section
namespace Go.Proofs.Ytapnighankepjaa.Sc
open Go.ChangeShapes Go.WideShapes Go.ChangeAt Go.RowKit
set_option linter.unusedVariables false
set_option linter.unusedSimpArgs false

set_option maxRecDepth 100000 in
set_option maxHeartbeats 8000000 in
theorem rsame_of (p : Option Addr) (i j : Int) (x y : Da.Dt) (vx vy : Value) (B : Nat) (z1 z2 : Seen) (k1 k2 : Int) (w : World) (hB : B ≤ w.heap.size) (hx : Da.IsDt w (Da.Lo B) x vx) (hy : Da.IsDt w (Da.Lo B) y vy)
    (f1 : Hid (∀ w2, Below w.heap.size w w2 → Calls Try.prog 23 #[.pointer p, .int .i64 i, vx] w2 (FindIs z1 k1 w2))) (f2 : Hid (∀ w2, Below w.heap.size w w2 → Calls Try.prog 23 #[.pointer p, .int .i64 j, vy] w2 (FindIs z2 k2 w2))) :
    Calls Try.prog 25 #[.pointer p, .int .i64 i, vx, .int .i64 j, vy] w fun e w' => e = .returned (.tuple #[.bool (sameB z1 z2 k1 k2), .int .i64 (sameE k1 k2)]) ∧ Below w.heap.size w w' := by
  obtain ⟨am, cm, al, cl, at_, ct, rfl, _⟩ := hx.open_
  obtain ⟨am', cm', al', cl', at_', ct', rfl, _⟩ := hy.open_
  obtain ⟨n1, n2⟩ := two_new w (six x am cm al cl at_ ct) (six y am' cm' al' cl' at_' ct') 33 33
  have hbX := bel_two w (.cells (six x am cm al cl at_ ct) 33) (.cells (six y am' cm' al' cl' at_' ct') 33)
  obtain ⟨er, her⟩ : ∃ er, sameE k1 k2 = er := ⟨_, rfl⟩
  obtain ⟨br, hbr⟩ : ∃ br, sameB z1 z2 k1 k2 = br := ⟨_, rfl⟩
  rw [her, hbr]
  have HR := Lib.hid (And.intro her hbr)
  clear hx hy her hbr
  go_enter Try.func25, Try.ntmps25
  go_upto_region 1 with (fail)
  generalize hX : (World.alloc (World.alloc w _) _) = X
  replace n1 : Da.Blk X w.heap.size 33 (six x am cm al cl at_ ct) := by rw [← hX]; exact n1
  replace n2 : Da.Blk X (w.heap.size + 1) 33 (six y am' cm' al' cl' at_' ct') := by rw [← hX]; exact n2
  replace hbX : Below w.heap.size w X := by rw [← hX]; exact hbX
  clear hX
  have HN1 := Lib.hid n1
  have HN2 := Lib.hid n2
  have HBX := Lib.hid hbX
  clear n1 n2 hbX
  go_wp2_with (refine load_dt (.tmp 7) w.heap.size x am cm al cl at_ ct rfl rfl rfl HN1.out ?_)
  refine (f1.out X HBX.out).mono ?_
  rintro e w2 ⟨rfl, hb2⟩
  have HB2 := Lib.hid (HBX.out.trans (hb2.mono HBX.out.size))
  have HN22 := Lib.hid (show Da.Blk w2 (w.heap.size + 1) 33 (six y am' cm' al' cl' at_' ct') from (hb2.block _ (Array.getElem?_eq_some_iff.1 HN2.out).1).trans HN2.out)
  have hlt2 : w.heap.size + 1 < w2.heap.size := (Array.getElem?_eq_some_iff.1 HN22.out).1
  clear hb2
  by_cases hk1 : k1 = 0
  · have d1 : (k1 != 0) = false := by rw [hk1]; rfl
    have HK1 := Lib.hid hk1
    clear hk1
    go_upto_region 2 with (refine wpList_store_row rfl 49 (.tmp 12) (.tmp 20) rfl w2.heap.size (seenC z1) rfl rfl 49 (seenC Seen.zero) (heap_alloc_new w2 _) info_seen rfl (seenC_one _) ?_)
    generalize hX4 : (World.setRow (World.alloc w2 _) w2.heap.size (seenC z1)) = W4
    have hb4 : Below w2.heap.size w2 W4 := by rw [← hX4]; exact bel_row ((Below.refl _ _).alloc (Nat.le_refl _) _) _ _ (Nat.le_refl _)
    have hz1 : Da.Blk W4 w2.heap.size 49 (seenC z1) := by rw [← hX4]; exact setRow_heap _ _ (seenC Seen.zero) _ _ _ (heap_alloc_new w2 _)
    have HB4 := Lib.hid (HB2.out.trans (hb4.mono HB2.out.size))
    have HN4 := Lib.hid (show Da.Blk W4 (w.heap.size + 1) 33 (six y am' cm' al' cl' at_' ct') from (hb4.block _ hlt2).trans HN22.out)
    have HZ1 := Lib.hid hz1
    clear hX4 hb4 hz1
    go_wp2_with (refine load_dt (.tmp 9) (w.heap.size + 1) y am' cm' al' cl' at_' ct' rfl rfl rfl HN4.out ?_)
    refine (f2.out W4 HB4.out).mono ?_
    rintro e w5 ⟨rfl, hb5⟩
    have HB5 := Lib.hid (HB4.out.trans (hb5.mono HB4.out.size))
    have HZ5 := Lib.hid (show Da.Blk w5 w2.heap.size 49 (seenC z1) from (hb5.block _ (Array.getElem?_eq_some_iff.1 HZ1.out).1).trans HZ1.out)
    have hlt5 : w2.heap.size < w5.heap.size := (Array.getElem?_eq_some_iff.1 HZ5.out).1
    clear hb5
    go_upto_region 5 with (refine wpList_store_row rfl 49 (.tmp 14) (.tmp 30) rfl w5.heap.size (seenC z2) rfl rfl 49 (seenC Seen.zero) (heap_alloc_new w5 _) info_seen rfl (seenC_one _) ?_)
    generalize hX6 : (World.setRow (World.alloc w5 _) w5.heap.size (seenC z2)) = W6
    have hb6 : Below w5.heap.size w5 W6 := by rw [← hX6]; exact bel_row ((Below.refl _ _).alloc (Nat.le_refl _) _) _ _ (Nat.le_refl _)
    have hz2 : Da.Blk W6 w5.heap.size 49 (seenC z2) := by rw [← hX6]; exact setRow_heap _ _ (seenC Seen.zero) _ _ _ (heap_alloc_new w5 _)
    have HB6 := Lib.hid (HB5.out.trans (hb6.mono HB5.out.size))
    have HZ6 := Lib.hid (show Da.Blk W6 w2.heap.size 49 (seenC z1) from (hb6.block _ hlt5).trans HZ5.out)
    have HZ2 := Lib.hid hz2
    clear hX6 hb6 hz2
    by_cases hk2 : k2 = 0
    · have d2 : (k2 != 0) = false := by rw [hk2]; rfl
      have HK2 := Lib.hid hk2
      clear hk2
      have hes : ∀ w, (binOp BinOp.eql 49 z1.V z2.V).run Try.prog w = .ok (.bool (z1.same z2)) w := eq_seen z1 z2
      have hgd : ∀ w, (eqGuard BinOp.eql 49 (.tmp 35) (.tmp 36) z1.V z2.V).run Try.prog w = .ok () w := guard_seen _ _ _ z1 z2
      go_wp2_with (first | (refine load_seen (.tmp 12) w2.heap.size z1 rfl rfl rfl HZ6.out ?_) | (refine load_seen (.tmp 14) w5.heap.size z2 rfl rfl rfl HZ2.out ?_))
      go_ret2
      obtain ⟨h1, h2⟩ := HR.out
      unfold sameE at h1
      unfold sameB at h2
      rw [HK1.out, if_neg (by decide), HK2.out] at h1
      rw [HK1.out, HK2.out, if_neg (by decide), if_neg (by decide)] at h2
      rw [← h1, ← h2]
      exact ⟨rfl, HB6.out⟩
    · have d2 : (k2 != 0) = true := by simpa using hk2
      have HK2 := Lib.hid hk2
      clear hk2
      go_wp2_with fail
      go_ret2
      obtain ⟨h1, h2⟩ := HR.out
      unfold sameE at h1
      unfold sameB at h2
      rw [HK1.out, if_neg (by decide)] at h1
      rw [HK1.out, if_neg (by decide), if_pos HK2.out] at h2
      rw [← h1, ← h2]
      exact ⟨rfl, HB6.out⟩
  · have d1 : (k1 != 0) = true := by simpa using hk1
    have HK1 := Lib.hid hk1
    clear hk1
    go_wp2_with (refine wpList_store_row rfl 49 (.tmp 12) (.tmp 20) rfl w2.heap.size (seenC z1) rfl rfl 49 (seenC Seen.zero) (heap_alloc_new w2 _) info_seen rfl (seenC_one _) ?_)
    go_ret2
    obtain ⟨h1, h2⟩ := HR.out
    unfold sameE at h1
    unfold sameB at h2
    rw [if_pos HK1.out] at h1
    rw [if_pos HK1.out] at h2
    rw [← h1, ← h2]
    exact ⟨rfl, bel_row (HB2.out.alloc (by omega) _) _ _ (by omega)⟩
theorem rsame_all (rb : Nat) (T : Tab) (R : Nat → Prop) (hT : T.Ok) (i j : Int) (x y : Da.Dt) (vx vy : Value) (B : Nat) (w : World) (hB : B ≤ w.heap.size) (hx : Da.IsDt w (Da.Lo B) x vx) (hy : Da.IsDt w (Da.Lo B) y vy) (h : RTabIn w rb T R) :
    Calls Try.prog 25 #[.pointer (some ⟨rb, 0, none⟩), .int .i64 i, vx, .int .i64 j, vy] w fun e w' => e = .returned (.tuple #[.bool (sameB (findZ T i x) (findZ T j y) (findE T i x) (findE T j y)), .int .i64 (sameE (findE T i x) (findE T j y))]) ∧ Below w.heap.size w w' :=
  rsame_of _ i j x y vx vy B _ _ _ _ w hB hx hy (Lib.hid (fun w2 hb => rfind_any rb T R hT _ x rfl i vx w2 ((hx.below (hb.mono hB)).more (fun k hk => Nat.lt_of_lt_of_le hk (Nat.le_trans hB hb.size))) (h.bel hb))) (Lib.hid (fun w2 hb => rfind_any rb T R hT _ y rfl j vy w2 ((hy.below (hb.mono hB)).more (fun k hk => Nat.lt_of_lt_of_le hk (Nat.le_trans hB hb.size))) (h.bel hb)))
theorem chainF_le (T : Tab) : ∀ (f s : Nat), (T.chainF f s).length ≤ f
  | 0, _ => Nat.le_refl _
  | f + 1, s => by
    unfold Tab.chainF
    split
    · exact Nat.zero_le _
    · rw [List.length_cons]; have := chainF_le T f (T.par s); omega
set_option maxRecDepth 100000 in
set_option maxHeartbeats 8000000 in
theorem rnames_any (rb : Nat) (T : Tab) (R : Nat → Prop) (hT : T.Ok) (o : Int) (w : World) (h : RTabIn w rb T R) :
    Calls Try.prog 26 #[.pointer (some ⟨rb, 0, none⟩), .int .i64 o] w fun e w' => ∃ (a : Option Addr) (c : Nat), e = .returned (.slice a (chainO T o).length c) ∧ Below w.heap.size w w' ∧ w'.ownsRow w.heap.size 3 1 (.slice a (chainO T o).length c) (chainO T o).length (marksC (chainO T o)) := by
  obtain ⟨i0, hi, hz0, hz1, hz2⟩ := info_parts info_int
  obtain ⟨lv, mv, cs, Q, ht, hQ, hO⟩ := h
  obtain ⟨la, lc, rfl⟩ := slice_of ht.rows
  obtain ⟨g, rfl, hltg, _, hcells⟩ := row_cells ht.rows hT.pos
  have hltR : rb < w.heap.size := ht.apart.2.2.2 rb (.inl rfl)
  have c0 : w.cell? ⟨rb, 0, none⟩ = some (.slice (some ⟨g, 0, none⟩) T.rows.length lc) := (ht.blk.cell 0).trans rfl
  have HR := Lib.hid (And.intro hltR (And.intro c0 (And.intro hltg hcells)))
  have HT := Lib.hid ht
  have HTOK := Lib.hid hT
  have hfew := hT.few
  have HLEN : Hid ((chainO T o).length ≤ 16384) := Lib.hid (by
    unfold chainO
    split
    · next h =>
      have h1 := chainF_le T o.toNat o.toNat
      show (T.chainF o.toNat o.toNat).length ≤ _
      omega
    · exact Nat.zero_le _)
  clear ht hQ hO hT hcells hltR hltg c0
  go_enter Try.func26, Try.ntmps26
  go_wp2_with fail
  go_loopw [5, 6] (fun v i wr => ∃ (pre : List Nat) (cur : Int) (a : Option Addr) (c : Nat), Hid (chainO T o = pre ++ chainO T cur) ∧ v = .slice a pre.length c ∧ i = .int .i64 cur ∧ Below w.heap.size w wr ∧ wr.ownsRow w.heap.size 3 1 (.slice a pre.length c) pre.length (marksC pre)) (fun _ i _ => (intOf i).toNat)
  case atStart => exact ⟨[], o, none, 0, Lib.hid rfl, rfl, rfl, Below.refl _ _, World.ownsRow_nil _ _ _ _⟩
  case round =>
    obtain ⟨pre, cur, a, c, hch, rfl, rfl, hbel, hrow⟩ := hrel
    have HB := Lib.hid hbel
    have HW := Lib.hid hrow
    have c0 : wr.cell? ⟨rb, 0, none⟩ = some (.slice (some ⟨g, 0, none⟩) T.rows.length lc) := (hbel.cell (p := ⟨rb, 0, none⟩) HR.out.1).trans HR.out.2.1
    have HAS := Lib.hid (rhas_any rb _ T.rows.length lc cur wr c0)
    clear hbel hrow
    obtain ⟨b, hb⟩ : ∃ b, (decide (0 ≤ cur) && decide (cur < (T.rows.length : Int))) = b := ⟨_, rfl⟩
    rw [hb] at HAS
    have HBB := Lib.hid hb
    clear hb
    go_wp2_with fail
    refine HAS.out.mono ?_
    rintro e w2 ⟨rfl, rfl⟩
    clear HAS
    cases b with
    | false =>
      have hend : chainO T cur = [] := by
        unfold chainO
        rw [if_neg (fun h => by
          have h1 := HBB.out
          rw [decide_eq_true h.1, decide_eq_true h.2] at h1
          cases h1)]
      have HE := Lib.hid (show chainO T o = pre by rw [hch.out, hend, List.append_nil])
      clear hend
      go_wp2_with fail
      go_ret
      exact ⟨a, c, by rw [HE.out]; rfl, HB.out, by rw [HE.out]; exact HW.out⟩
    | true =>
      have h1 := HBB.out
      rw [Bool.and_eq_true, decide_eq_true_eq, decide_eq_true_eq] at h1
      obtain ⟨k, rfl⟩ : ∃ k : Nat, cur = (k : Int) := ⟨cur.toNat, by omega⟩
      have hk : k < T.rows.length := by omega
      have hck : chainO T (k : Int) = T.chain k := by unfold chainO; rw [if_pos h1]; rfl
      by_cases hz : k = 0
      · have dz : ((k : Int) != 0) = false := by subst hz; rfl
        have hend : chainO T (k : Int) = [] := by rw [hck, hz]; rfl
        have HE := Lib.hid (show chainO T o = pre by rw [hch.out, hend, List.append_nil])
        clear hend hz hck hk h1
        go_wp2_with fail
        go_ret
        exact ⟨a, c, by rw [HE.out]; rfl, HB.out, by rw [HE.out]; exact HW.out⟩
      · have dz : ((k : Int) != 0) = true := by simp; omega
        have hpar := HTOK.out.par' k (by omega)
        have hcp : chainO T (T.par k : Int) = T.chain (T.par k) := by unfold chainO; rw [if_pos ⟨by omega, by omega⟩]; rfl
        have hc2 : chainO T o = (pre ++ [k]) ++ chainO T (T.par k : Int) := by rw [hch.out, hck, hcp, chain_step HTOK.out hz, List.append_assoc]; rfl
        have hpl : pre.length < 16384 := by
          have h2 := HLEN.out
          rw [hc2, List.length_append, List.length_append] at h2
          have : [k].length = 1 := rfl
          omega
        have i0k : (0 : Int) ≤ (k : Int) := Int.natCast_nonneg _
        have i1k : (k : Int) < (T.rows.length : Int) := by omega
        have HPC : Hid (w.cell? ⟨g, k * 8, none⟩ = some (.int .i64 (T.par k : Int))) := Lib.hid (by
          obtain ⟨r, hr⟩ : ∃ r, T.rows[k]? = some r := ⟨_, List.getElem?_eq_getElem hk⟩
          obtain ⟨cc, hcc⟩ : ∃ cc, cs[k]? = some cc := ⟨_, List.getElem?_eq_getElem (by rw [HT.out.len]; exact hk)⟩
          have hrpar : r.par = T.par k := by unfold Tab.par; rw [List.getD_eq_getElem?_getD, hr]; rfl
          have := HR.out.2.2.2 (k * 8 + 0) _ ((rrows_at T.rows cs k 0 r cc hr hcc HT.out.six (by decide)).trans rfl)
          rwa [Nat.add_zero, hrpar] at this)
        have N1 : Hid (∀ j u, [Value.int .i64 (k : Int)][j]? = some u → (wr.alloc (.cells #[.int .i64 (k : Int)] 3)).cell? ((⟨wr.heap.size, 0, none⟩ : Addr).add j) = some u) := Lib.hid (fun j u hu => by
          rw [Ld.add_at, Nat.zero_add, cell_of_row _ _ _ _ _ _ (heap_alloc_new wr (.cells #[.int .i64 (k : Int)] 3))]
          simpa using hu)
        have N2 : Hid (∀ u ∈ [Value.int .i64 (k : Int)], u.oneCell' = true) := Lib.hid (fun u hu => by
          obtain rfl : u = .int .i64 (k : Int) := by simpa using hu
          rfl)
        have N3 : Hid (pre.length + 1 ≤ maxLen ∧ (pre.length + 1) * 8 ≤ 140737488355328 ∧ w.heap.size ≤ (wr.alloc (.cells #[.int .i64 (k : Int)] 3)).heap.size) := Lib.hid (by have := HB.out.size; unfold maxLen; refine ⟨by omega, by omega, by rw [World.size_alloc]; omega⟩)
        have HC2 := Lib.hid (And.intro hc2 hpar)
        clear hc2 hz hck hcp hk h1 hpl hpar
        have hc0' : ∀ w1 : World, (wr.alloc (.cells #[.int .i64 (k : Int)] 3)).grownBy w1 (Value.slice a pre.length c).ownBlock → Below w.heap.size w w1 := fun w1 hg => HB.out.trans (((Below.refl _ wr).alloc HB.out.size _).trans (below_grown (HW.out.alloc _) hg (Nat.le_refl _) N3.out.2.2))
        have HC0 := Lib.hid hc0'
        clear hc0' c0
        go_wp2_with (at_builtin; (refine wpList_append_own_at _ rfl (.tmp 23) (.tmp 25) _ rfl w.heap.size 3 i0 _ 1 8 Try.underlying30 hi hz0 hz1 hz2 rfl (Nat.zero_lt_one) _ pre.length (marksC pre) rfl (HW.out.alloc _) ⟨wr.heap.size, 0, none⟩ 1 1 [.int .i64 (k : Int)] rfl rfl N1.out N2.out N3.out.1 N3.out.2.1 N3.out.2.2 ?_; intro v1 w1 hown1 hg1 hn1 hat1; obtain ⟨va, vc, rfl⟩ := slice_of hown1; have hbw := HC0.out w1 hg1; have c0 : w1.cell? ⟨rb, 0, none⟩ = some (.slice (some ⟨g, 0, none⟩) T.rows.length lc) := (hbw.cell (p := ⟨rb, 0, none⟩) HR.out.1).trans HR.out.2.1; have hpc : w1.cell? ⟨g, k * 8, none⟩ = some (.int .i64 (T.par k : Int)) := (hbw.cell (p := ⟨g, k * 8, none⟩) HR.out.2.2.1).trans HPC.out; have HE := Lib.hid (And.intro hown1 hbw); clear hown1 hg1 hn1 hat1 hbw))
        go_roundw
        case rel => exact ⟨pre ++ [k], (T.par k : Int), va, vc, Lib.hid HC2.out.1, by rw [List.length_append]; rfl, rfl, HE.out.2, by rw [marksC_snoc, List.length_append]; exact HE.out.1⟩
        case measure => have := HC2.out.2; simp [intOf]; omega
end Go.Proofs.Ytapnighankepjaa.Sc
end
section
namespace Go.Proofs.Ytapnighankepjaa.Sc
open Go.ChangeShapes Go.WideShapes Go.ChangeAt Go.RowKit
set_option linter.unusedVariables false
set_option linter.unusedSimpArgs false

def cloneB_ren : Go.Shelf.Ren := ⟨fun | 41 => 28 | n => n, fun | 22 => 63 | 23 => 77 | 4 => 4 | n => n, fun | n => n⟩
theorem cloneB : Go.Proofs.SlLaysE0.n41 Try.prog cloneB_ren := {
  mixed := by kernel_rfl
  f41 := ⟨Try.f28.name, by decide, Try.func28.trans (congrArg some (by kernel_rfl))⟩
  t4 := Try.underlying4
  a4 := Try.isAgg4
  z4 := Try.sizeOf4
  v4 := Try.zeroValue4
  t22 := Try.underlying63
  a22 := Try.isAgg63
  z22 := Try.sizeOf63
  v22 := Try.zeroValue63 }
def cloneM_ren : Go.Shelf.Ren := ⟨fun | 5 => 30 | 7 => 43 | n => n, fun | 23 => 64 | 25 => 75 | 3 => 3 | 4 => 4 | 20 => 20 | n => n, fun | n => n⟩
theorem cloneM : Go.Proofs.SlLaysW.n5 Try.prog cloneM_ren := {
  mixed := by kernel_rfl
  f5 := ⟨Try.f30.name, by decide, Try.func30.trans (congrArg some (by kernel_rfl))⟩
  f7 := Try.func43.trans (congrArg some (by kernel_rfl))
  t4 := Try.underlying4
  a4 := Try.isAgg4
  z4 := Try.sizeOf4
  v4 := Try.zeroValue4
  t20 := Try.underlying20
  a20 := Try.isAgg20
  z20 := Try.sizeOf20
  v20 := Try.zeroValue20
  t23 := Try.underlying64
  a23 := Try.isAgg64
  z23 := Try.sizeOf64
  v23 := Try.zeroValue64 }
theorem info_bdc : (Try.prog.info? 77).map (fun i => (i.zero, i.size, i.bytes)) = some (some (.agg rowZ), 19, 96) := by kernel_rfl
theorem built_tab (a b : Option Addr) (n m c d : Nat) (g : Nat) : Try.prog.built 66 [(0, .slice a n c), (1, .slice b m d), (2, .map (some g))] = some #[.slice a n c, .slice b m d, .map (some g)] := by kernel_rfl
theorem own_zero {w : World} {B : Nat} {e : TypeId} {sz n : Nat} {v : Value} {xs : List Value} (h : w.ownsRow B e sz v n xs) : w.ownsRow 0 e sz v n xs := by
  refine ⟨h.1, ?_⟩
  rcases h.2 with h1 | ⟨g, cap, cur, rfl, h1, h2, h3⟩
  · exact .inl h1
  · exact .inr ⟨g, cap, cur, rfl, Nat.zero_le _, h2, h3⟩
theorem rowsC_one (l : List Row) : ∀ u ∈ rowsC l, u.oneCell' = true := by
  intro u hu
  unfold rowsC at hu
  obtain ⟨r, _, h⟩ := List.mem_flatMap.1 hu
  unfold rowC at h
  rcases List.mem_cons.1 h with rfl | h
  · rfl
  · rcases List.mem_append.1 h with h | h
    · have := A17_one r.id.s (pad r.id.m)
      rw [Array.all_eq_true'] at this
      exact this u (by simpa using h)
    · obtain rfl : u = .int .i64 r.what := by simpa using h
      rfl
set_option maxRecDepth 100000 in
set_option maxHeartbeats 8000000 in
theorem tclone_any (tb : Nat) (T : Tab) (O : Nat → Prop) (w : World) (h : TabIn w tb T O) :
    Calls Try.prog 11 #[.pointer (some ⟨tb, 0, none⟩)] w fun e w' => ∃ tb', e = .returned (.pointer (some ⟨tb', 0, none⟩)) ∧ TabIn w' tb' T (fun k => w.heap.size ≤ k) ∧ Below w.heap.size w w' := by
  obtain ⟨i0, hi, hz0, hz1, hz2⟩ := info_parts info_bdc
  obtain ⟨vs, vm, bm, ht, _⟩ := h
  obtain ⟨a, c, rfl⟩ := slice_of ht.rows
  obtain ⟨ma, mc, rfl⟩ := slice_of ht.marks
  obtain ⟨g, rfl, hltg, hownB, hcells⟩ := row_cells ht.rows ht.ok.pos
  have c0 : w.cell? ⟨tb, 0, none⟩ = some (.slice (some ⟨g, 0, none⟩) T.rows.length c) := (ht.blk.cell 0).trans rfl
  have HR := Lib.hid (And.intro (ht.lt tb (.inl rfl)) (And.intro c0 (And.intro ((ht.blk.cell 1).trans rfl : w.cell? ⟨tb, 1, none⟩ = some (.slice ma T.marks.length mc)) ((ht.blk.cell 2).trans rfl : w.cell? ⟨tb, 2, none⟩ = some (.map (some bm))))))
  have HT := Lib.hid ht
  have hpos := ht.ok.pos
  have hdec : decide (0 < T.rows.length) = true := decide_eq_true hpos
  have HMADE := Lib.hid (made_any tb _ T.rows.length c w c0)
  rw [hdec] at HMADE
  have HROWS : Hid (∀ W, Below w.heap.size w W → Calls Try.prog 28 #[.slice (some ⟨g, 0, none⟩) T.rows.length c] W fun e w' => ∃ v', e = .returned v' ∧ w'.ownsRow W.heap.size 77 19 v' T.rows.length (rowsC T.rows) ∧ v' ≠ .slice none 0 0 ∧ Below W.heap.size W w') := Lib.hid (fun W hW =>
    AnyE.slices_Clone cloneB i0 _ 19 96 hi hz0 hz1 hz2 rfl (by decide) (fun w => Try.sizeOf77 w) g 0 T.rows.length c (rowsC T.rows) W (rowsC_len _) (by have := HT.out.ok.few; unfold maxLen; omega) (by have := HT.out.ok.few; omega)
      (fun j u hu => by rw [Nat.zero_add]; exact (hW.cell (p := ⟨g, j, none⟩) hltg).trans (hcells j u hu)) (rowsC_one _))
  have HMARKS : Hid (∀ W, Below w.heap.size w W → Calls Try.prog 29 #[.slice ma T.marks.length mc] W fun e w' => ∃ a9 c9, e = .returned (.slice a9 T.marks.length c9) ∧ w'.ownsRow W.heap.size 3 1 (.slice a9 T.marks.length c9) T.marks.length (marksC T.marks) ∧ Below W.heap.size W w') := Lib.hid (fun W hW => by
    rcases HT.out.marks.2 with ⟨h1, h0⟩ | ⟨g2, cap, cur, h1, h2, h3, h4, _⟩
    · injection h1 with e1 e2 e3
      subst e1 e3
      have hm : T.marks = [] := List.eq_nil_of_length_eq_zero h0
      rw [hm]
      refine (Try.slices_Clone_int_nil _ _ W).mono ?_
      rintro e w' ⟨rfl, rfl⟩
      exact ⟨none, 0, rfl, World.ownsRow_nil _ _ _ _, Below.refl _ _⟩
    · injection h1 with e1 e2 e3
      subst e1
      have hce : (T.marks.map (fun (s : Nat) => (s : Int))).map (Value.int .i64) = marksC T.marks := by unfold marksC; rw [List.map_map]; rfl
      refine (Try.slices_Clone_int g2 0 T.marks.length mc (T.marks.map (fun (s : Nat) => (s : Int))) W (by simp) (by have := HT.out.ok.fewM; omega) (fun j hj => ?_)).mono ?_
      · rw [List.length_map] at hj
        rw [Nat.zero_add]
        have hlt2 : g2 < w.heap.size := (Array.getElem?_eq_some_iff.1 h3).1
        have h5 := HT.out.marks.cells rfl j (.int .i64 ((T.marks.map (fun (s : Nat) => (s : Int))).getD j 0)) (by
          rw [← hce, List.getElem?_map, List.getD_eq_getElem?_getD, List.getElem?_eq_getElem (by simpa using hj)]
          rfl)
        rw [Ld.add_at, Nat.zero_add] at h5
        exact (hW.cell (p := ⟨g2, j, none⟩) hlt2).trans h5
      · rintro e w' ⟨v', rfl, hown, _, hb⟩
        rw [List.take_of_length_le (by simp), hce] at hown
        obtain ⟨a9, c9, rfl⟩ := slice_of hown
        exact ⟨a9, c9, rfl, hown, hb⟩)
  have HMAP : Hid (∀ W, Below w.heap.size w W → Calls Try.prog 30 #[.map (some bm)] W fun e w' => ∃ b14, e = .returned (.map (some b14)) ∧ FirstAt w' b14 T ∧ W.heap.size ≤ b14 ∧ Below W.heap.size W w') := Lib.hid (fun W hW => by
    obtain ⟨D, h1, h2, h3⟩ := HT.out.first
    have h1W := ownsMap_same h1 (hW.block bm h1.lt)
    refine (AnyW.maps_Clone_owns cloneM _ _ bm _ D W h1W).mono ?_
    rintro e w' ⟨rfl, h4, _, hb⟩
    exact ⟨W.heap.size, rfl, ⟨D, h4, h2, h3⟩, Nat.le_refl _, hb⟩)
  clear ht c0 hownB hcells hltg hpos hdec
  go_enter Try.func11, Try.ntmps11
  go_wp2_with fail
  refine HMADE.out.mono ?_
  rintro e w2 ⟨rfl, rfl⟩
  go_upto_region 3 with (fail)
  have hT0 : Below w.heap.size w w.drew := bel_drew0 _ _
  refine Od.till_region 18 (fun _ : World => True) (fun W : World => Below w.heap.size w W) 18 (by kernel_rfl) rfl ?_
  simp only [Array.replicate_succ, Array.replicate_zero, List.push_toArray, List.nil_append, List.cons_append]
  generalize w.drew = W0 at hT0 ⊢
  refine Od.Till.takeT (i := 0) (d := 6) (v := .pointer (some ⟨tb, 0, none⟩)) rfl rfl (by kernel_rfl) (by kernel_rfl) (by kernel_rfl) (by kernel_rfl) (fun _ _ _ h => h) (.inl ⟨by rfl, ?_⟩) trivial hT0 ?_
  · intro wx hSw
    have r0 := (hSw.cell (p := ⟨tb, 0, none⟩) HR.out.1).trans HR.out.2.1; have r1 := (hSw.cell (p := ⟨tb, 1, none⟩) HR.out.1).trans HR.out.2.2.1; have r2 := (hSw.cell (p := ⟨tb, 2, none⟩) HR.out.1).trans HR.out.2.2.2
    go_simp
  simp only [Act.put, List.setIfInBounds_toArray, List.set_cons_zero, List.set_cons_succ]
  refine Od.Till.takeT (i := 1) (d := 7) (v := .pointer (some ⟨tb, 0, none⟩)) rfl rfl (by kernel_rfl) (by kernel_rfl) (by kernel_rfl) (by kernel_rfl) (fun _ _ _ h => h) (.inl ⟨by rfl, ?_⟩) trivial hT0 ?_
  · intro wx hSw
    have r0 := (hSw.cell (p := ⟨tb, 0, none⟩) HR.out.1).trans HR.out.2.1; have r1 := (hSw.cell (p := ⟨tb, 1, none⟩) HR.out.1).trans HR.out.2.2.1; have r2 := (hSw.cell (p := ⟨tb, 2, none⟩) HR.out.1).trans HR.out.2.2.2
    go_simp
  simp only [Act.put, List.setIfInBounds_toArray, List.set_cons_zero, List.set_cons_succ]
  refine Od.Till.takeT (i := 2) (d := 8) (v := .pointer (some ⟨tb, 0, none⟩)) rfl rfl (by kernel_rfl) (by kernel_rfl) (by kernel_rfl) (by kernel_rfl) (fun _ _ _ h => h) (.inl ⟨by rfl, ?_⟩) trivial hT0 ?_
  · intro wx hSw
    have r0 := (hSw.cell (p := ⟨tb, 0, none⟩) HR.out.1).trans HR.out.2.1; have r1 := (hSw.cell (p := ⟨tb, 1, none⟩) HR.out.1).trans HR.out.2.2.1; have r2 := (hSw.cell (p := ⟨tb, 2, none⟩) HR.out.1).trans HR.out.2.2.2
    go_simp
  simp only [Act.put, List.setIfInBounds_toArray, List.set_cons_zero, List.set_cons_succ]
  refine Od.Till.takeT (i := 3) (d := 9) (v := .slice (some ⟨g, 0, none⟩) T.rows.length c) rfl rfl (by kernel_rfl) (by kernel_rfl) (by kernel_rfl) (by kernel_rfl) (fun _ _ _ h => h) (.inl ⟨by rfl, ?_⟩) trivial hT0 ?_
  · intro wx hSw
    have r0 := (hSw.cell (p := ⟨tb, 0, none⟩) HR.out.1).trans HR.out.2.1; have r1 := (hSw.cell (p := ⟨tb, 1, none⟩) HR.out.1).trans HR.out.2.2.1; have r2 := (hSw.cell (p := ⟨tb, 2, none⟩) HR.out.1).trans HR.out.2.2.2
    go_simp
  simp only [Act.put, List.setIfInBounds_toArray, List.set_cons_zero, List.set_cons_succ]
  refine Od.Till.takeT (i := 5) (d := 11) (v := .pointer (some ⟨tb, 0, none⟩)) rfl rfl (by kernel_rfl) (by kernel_rfl) (by kernel_rfl) (by kernel_rfl) (fun _ _ _ h => h) (.inl ⟨by rfl, ?_⟩) trivial hT0 ?_
  · intro wx hSw
    have r0 := (hSw.cell (p := ⟨tb, 0, none⟩) HR.out.1).trans HR.out.2.1; have r1 := (hSw.cell (p := ⟨tb, 1, none⟩) HR.out.1).trans HR.out.2.2.1; have r2 := (hSw.cell (p := ⟨tb, 2, none⟩) HR.out.1).trans HR.out.2.2.2
    go_simp
  simp only [Act.put, List.setIfInBounds_toArray, List.set_cons_zero, List.set_cons_succ]
  refine Od.Till.takeT (i := 6) (d := 12) (v := .pointer (some ⟨tb, 0, none⟩)) rfl rfl (by kernel_rfl) (by kernel_rfl) (by kernel_rfl) (by kernel_rfl) (fun _ _ _ h => h) (.inl ⟨by rfl, ?_⟩) trivial hT0 ?_
  · intro wx hSw
    have r0 := (hSw.cell (p := ⟨tb, 0, none⟩) HR.out.1).trans HR.out.2.1; have r1 := (hSw.cell (p := ⟨tb, 1, none⟩) HR.out.1).trans HR.out.2.2.1; have r2 := (hSw.cell (p := ⟨tb, 2, none⟩) HR.out.1).trans HR.out.2.2.2
    go_simp
  simp only [Act.put, List.setIfInBounds_toArray, List.set_cons_zero, List.set_cons_succ]
  refine Od.Till.takeT (i := 7) (d := 13) (v := .pointer (some ⟨tb, 1, none⟩)) rfl rfl (by kernel_rfl) (by kernel_rfl) (by kernel_rfl) (by kernel_rfl) (fun _ _ _ h => h) (.inl ⟨by rfl, ?_⟩) trivial hT0 ?_
  · intro wx hSw
    have r0 := (hSw.cell (p := ⟨tb, 0, none⟩) HR.out.1).trans HR.out.2.1; have r1 := (hSw.cell (p := ⟨tb, 1, none⟩) HR.out.1).trans HR.out.2.2.1; have r2 := (hSw.cell (p := ⟨tb, 2, none⟩) HR.out.1).trans HR.out.2.2.2
    go_simp
  simp only [Act.put, List.setIfInBounds_toArray, List.set_cons_zero, List.set_cons_succ]
  refine Od.Till.takeT (i := 8) (d := 14) (v := .slice ma T.marks.length mc) rfl rfl (by kernel_rfl) (by kernel_rfl) (by kernel_rfl) (by kernel_rfl) (fun _ _ _ h => h) (.inl ⟨by rfl, ?_⟩) trivial hT0 ?_
  · intro wx hSw
    have r0 := (hSw.cell (p := ⟨tb, 0, none⟩) HR.out.1).trans HR.out.2.1; have r1 := (hSw.cell (p := ⟨tb, 1, none⟩) HR.out.1).trans HR.out.2.2.1; have r2 := (hSw.cell (p := ⟨tb, 2, none⟩) HR.out.1).trans HR.out.2.2.2
    go_simp
  simp only [Act.put, List.setIfInBounds_toArray, List.set_cons_zero, List.set_cons_succ]
  refine Od.Till.takeT (i := 10) (d := 16) (v := .pointer (some ⟨tb, 0, none⟩)) rfl rfl (by kernel_rfl) (by kernel_rfl) (by kernel_rfl) (by kernel_rfl) (fun _ _ _ h => h) (.inl ⟨by rfl, ?_⟩) trivial hT0 ?_
  · intro wx hSw
    have r0 := (hSw.cell (p := ⟨tb, 0, none⟩) HR.out.1).trans HR.out.2.1; have r1 := (hSw.cell (p := ⟨tb, 1, none⟩) HR.out.1).trans HR.out.2.2.1; have r2 := (hSw.cell (p := ⟨tb, 2, none⟩) HR.out.1).trans HR.out.2.2.2
    go_simp
  simp only [Act.put, List.setIfInBounds_toArray, List.set_cons_zero, List.set_cons_succ]
  refine Od.Till.takeT (i := 11) (d := 17) (v := .pointer (some ⟨tb, 0, none⟩)) rfl rfl (by kernel_rfl) (by kernel_rfl) (by kernel_rfl) (by kernel_rfl) (fun _ _ _ h => h) (.inl ⟨by rfl, ?_⟩) trivial hT0 ?_
  · intro wx hSw
    have r0 := (hSw.cell (p := ⟨tb, 0, none⟩) HR.out.1).trans HR.out.2.1; have r1 := (hSw.cell (p := ⟨tb, 1, none⟩) HR.out.1).trans HR.out.2.2.1; have r2 := (hSw.cell (p := ⟨tb, 2, none⟩) HR.out.1).trans HR.out.2.2.2
    go_simp
  simp only [Act.put, List.setIfInBounds_toArray, List.set_cons_zero, List.set_cons_succ]
  refine Od.Till.takeT (i := 12) (d := 18) (v := .pointer (some ⟨tb, 2, none⟩)) rfl rfl (by kernel_rfl) (by kernel_rfl) (by kernel_rfl) (by kernel_rfl) (fun _ _ _ h => h) (.inl ⟨by rfl, ?_⟩) trivial hT0 ?_
  · intro wx hSw
    have r0 := (hSw.cell (p := ⟨tb, 0, none⟩) HR.out.1).trans HR.out.2.1; have r1 := (hSw.cell (p := ⟨tb, 1, none⟩) HR.out.1).trans HR.out.2.2.1; have r2 := (hSw.cell (p := ⟨tb, 2, none⟩) HR.out.1).trans HR.out.2.2.2
    go_simp
  simp only [Act.put, List.setIfInBounds_toArray, List.set_cons_zero, List.set_cons_succ]
  refine Od.Till.takeT (i := 13) (d := 19) (v := .map (some bm)) rfl rfl (by kernel_rfl) (by kernel_rfl) (by kernel_rfl) (by kernel_rfl) (fun _ _ _ h => h) (.inl ⟨by rfl, ?_⟩) trivial hT0 ?_
  · intro wx hSw
    have r0 := (hSw.cell (p := ⟨tb, 0, none⟩) HR.out.1).trans HR.out.2.1; have r1 := (hSw.cell (p := ⟨tb, 1, none⟩) HR.out.1).trans HR.out.2.2.1; have r2 := (hSw.cell (p := ⟨tb, 2, none⟩) HR.out.1).trans HR.out.2.2.2
    go_simp
  simp only [Act.put, List.setIfInBounds_toArray, List.set_cons_zero, List.set_cons_succ]
  refine Od.Till.one (i := 4) (by kernel_rfl) rfl (fun K hK => ?_)
  rw [if_pos (by kernel_rfl)]
  go_simp
  refine (HROWS.out W0 hT0).mono ?_
  rintro e W4 ⟨v4, rfl, hown4, _, hb4⟩
  obtain ⟨a4, c4, rfl⟩ := slice_of hown4
  have hT4 : Below w.heap.size w W4 := hT0.trans (hb4.mono hT0.size)
  have HO4 := Lib.hid hown4
  have HS4 := Lib.hid hT0.size
  clear hown4 hb4
  refine hK.out _ _ ⟨fun _ => trivial, hT4⟩ ?_
  clear hK K
  simp only [Act.put, List.setIfInBounds_toArray, List.set_cons_zero, List.set_cons_succ]
  refine Od.Till.one (i := 9) (by kernel_rfl) rfl (fun K hK => ?_)
  rw [if_pos (by kernel_rfl)]
  go_simp
  refine (HMARKS.out W4 hT4).mono ?_
  rintro e W9 ⟨a9, c9, rfl, hown9, hb9⟩
  have hT9 : Below w.heap.size w W9 := hT4.trans (hb9.mono hT4.size)
  have HO9 := Lib.hid hown9
  have HO49 := Lib.hid (ownsRow_same HO4.out (fun k hk => hb9.block k (HO4.out.lt k hk).2))
  clear hown9 hb9
  refine hK.out _ _ ⟨fun _ => trivial, hT9⟩ ?_
  clear hK K
  simp only [Act.put, List.setIfInBounds_toArray, List.set_cons_zero, List.set_cons_succ]
  refine Od.Till.one (i := 14) (by kernel_rfl) rfl (fun K hK => ?_)
  rw [if_pos (by kernel_rfl)]
  go_simp
  refine (HMAP.out W9 hT9).mono ?_
  rintro e W14 ⟨b14, rfl, hfa, hsb, hb14⟩
  have hT14 : Below w.heap.size w W14 := hT9.trans (hb14.mono hT9.size)
  have HFA := Lib.hid (And.intro hfa hsb)
  have HO414 := Lib.hid (ownsRow_same HO49.out (fun k hk => hb14.block k (HO49.out.lt k hk).2))
  have HO914 := Lib.hid (ownsRow_same HO9.out (fun k hk => hb14.block k (HO9.out.lt k hk).2))
  clear hfa hb14 hsb
  refine hK.out _ _ ⟨fun _ => trivial, hT14⟩ ?_
  clear hK K
  simp only [Act.put, List.setIfInBounds_toArray, List.set_cons_zero, List.set_cons_succ]
  refine Od.Till.takeT (i := 15) (d := 21) (v := .agg #[.slice a4 T.rows.length c4, .slice a9 T.marks.length c9, .map (some b14)]) rfl rfl (by kernel_rfl) (by kernel_rfl) (by kernel_rfl) (by kernel_rfl) (fun _ _ _ h => h) (.inl ⟨by rfl, ?_⟩) trivial hT14 ?_
  · intro wx hSw
    have r0 := (hSw.cell (p := ⟨tb, 0, none⟩) HR.out.1).trans HR.out.2.1; have r1 := (hSw.cell (p := ⟨tb, 1, none⟩) HR.out.1).trans HR.out.2.2.1; have r2 := (hSw.cell (p := ⟨tb, 2, none⟩) HR.out.1).trans HR.out.2.2.2
    refine Ld.exec_build 66 #[(0, .tmp 10), (1, .tmp 15), (2, .tmp 20)] rfl _ ?_; simp only [List.map_toArray, List.map_cons, List.map_nil]; exact built_tab _ _ _ _ _ _ _
  simp only [Act.put, List.setIfInBounds_toArray, List.set_cons_zero, List.set_cons_succ]
  refine Od.Till.one (i := 16) (by kernel_rfl) rfl (fun K hK => ?_)
  rw [if_pos (by kernel_rfl)]
  go_simp
  show K ({ tmps := _, defers := [] } : Act) (W14.alloc (.cells #[.slice a4 T.rows.length c4, .slice a9 T.marks.length c9, .map (some b14)] 66))
  have hbA : Below W14.heap.size W14 (W14.alloc (.cells #[.slice a4 T.rows.length c4, .slice a9 T.marks.length c9, .map (some b14)] 66)) := (Below.refl _ _).alloc (Nat.le_refl _) _
  have hT16 : Below w.heap.size w (W14.alloc (.cells #[.slice a4 T.rows.length c4, .slice a9 T.marks.length c9, .map (some b14)] 66)) := hT14.trans (hbA.mono hT14.size)
  refine hK.out _ _ ⟨fun _ => trivial, hT16⟩ ?_
  clear hK K
  simp only [Act.put, List.setIfInBounds_toArray, List.set_cons_zero, List.set_cons_succ]
  refine Od.Till.takeT (i := 17) (d := 2) (v := .pointer (some ⟨W14.heap.size, 0, none⟩)) rfl rfl (by kernel_rfl) (by kernel_rfl) (by kernel_rfl) (by kernel_rfl) (fun _ _ _ h => h) (.inl ⟨by rfl, ?_⟩) trivial hT16 ?_
  · intro wx hSw
    have r0 := (hSw.cell (p := ⟨tb, 0, none⟩) HR.out.1).trans HR.out.2.1; have r1 := (hSw.cell (p := ⟨tb, 1, none⟩) HR.out.1).trans HR.out.2.2.1; have r2 := (hSw.cell (p := ⟨tb, 2, none⟩) HR.out.1).trans HR.out.2.2.2
    go_simp
  simp only [Act.put, List.setIfInBounds_toArray, List.set_cons_zero, List.set_cons_succ]
  refine Od.Till.done (by kernel_rfl) ?_
  have hblk := heap_alloc_new W14 (.cells #[.slice a4 T.rows.length c4, .slice a9 T.marks.length c9, .map (some b14)] 66)
  have hfin : TabIn (W14.alloc (.cells #[.slice a4 T.rows.length c4, .slice a9 T.marks.length c9, .map (some b14)] 66)) W14.heap.size T (fun k => w.heap.size ≤ k) := by
    refine ⟨_, _, b14, ⟨HT.out.ok, HT.out.ids, HT.out.whats, hblk, (own_zero HO414.out).alloc _, (own_zero HO914.out).alloc _, ?_⟩, fun k hk => ?_⟩
    · obtain ⟨D, h1, h2⟩ := HFA.out.1
      exact ⟨D, ownsMap_same h1 (Below.heap_alloc _ _ _ h1.lt), h2⟩
    · rcases hk with rfl | hk | hk | rfl
      · exact hT14.size
      · exact Nat.le_trans HS4.out (HO414.out.lt k hk).1
      · exact Nat.le_trans hT4.size (HO914.out.lt k hk).1
      · exact Nat.le_trans hT9.size HFA.out.2
  have HFIN := Lib.hid (And.intro hfin hT16)
  clear hblk hfin hT16 hT14 hT9 hT4 hT0
  go_wp2_with fail
  go_ret
  exact ⟨W14.heap.size, rfl, HFIN.out.1, HFIN.out.2⟩
end Go.Proofs.Ytapnighankepjaa.Sc
end
section
namespace Go.Proofs.Ytapnighankepjaa.Sc
open Go.ChangeShapes Go.WideShapes Go.ChangeAt Go.RowKit
set_option linter.unusedVariables false
set_option linter.unusedSimpArgs false

/-- What scopes bind are symbols. -/
def SymT (T : Tab) : Prop := ∀ i, 0 < i → i < T.rows.length → IsSym (dtI (T.id i))
theorem at_one' {W : World} {b : Nat} {t : TypeId} {x : Value} {l : List Value} (h : Da.Blk W b t (x :: l).toArray) : Ld.At W b 1 l := fun j v hv => by
  rw [cell_of_row W b (1 + j) (x :: l).toArray t (0, 0) h]
  rw [Nat.add_comm 1 j]
  simpa using hv
theorem chainO_in {T : Tab} (hT : T.Ok) {s : Int} {i : Nat} (h : i ∈ chainO T s) : 0 < i ∧ i < T.rows.length := by
  unfold chainO at h
  split at h
  · next h3 =>
    have h4 := chain_lt hT _ (by omega) _ h
    exact ⟨h4.1, h4.2.2⟩
  · cases h
set_option maxRecDepth 100000 in
set_option maxHeartbeats 16000000 in
theorem lnames_any (tb rb : Nat) (T : Tab) (O R : Nat → Prop) (s : Int) (w : World) (hS : SymT T) (h1 : TabIn w tb T O) (h2 : RTabIn w rb T R) :
    Calls Try.prog 10 #[.pointer (some ⟨tb, 0, none⟩), .pointer (some ⟨rb, 0, none⟩), .int .i64 s] w fun e w' => e = .returned (.bool true) ∧ Below w.heap.size w w' := by
  have H1 := Lib.hid h1
  have H2 := Lib.hid h2
  have HOK := Lib.hid h1.ok
  have HS := Lib.hid hS
  obtain ⟨cn, hcn⟩ : ∃ cn, chainO T s = cn := ⟨_, rfl⟩
  have HLEN : Hid (cn.length ≤ 16384) := Lib.hid (by
    rw [← hcn]
    unfold chainO
    split
    · have h3 := chainF_le T s.toNat s.toNat
      have h4 := HOK.out.few
      show (T.chainF s.toNat s.toNat).length ≤ _
      omega
    · exact Nat.zero_le _)
  have HCN := Lib.hid hcn
  clear h1 h2 hS hcn
  go_enter Try.func10, Try.ntmps10
  go_wp2_with fail
  refine (rnames_any rb T R HOK.out s w H2.out).mono ?_
  rintro e w1 ⟨ga', ac, rfl, hb1, hown1⟩
  rw [HCN.out] at hown1 ⊢
  have HB1 := Lib.hid hb1
  have HW1 := Lib.hid hown1
  clear hb1 hown1
  go_wp2_with fail
  refine (names_all tb T O s w1 (H1.out.bel HB1.out)).mono ?_
  rintro e w2 ⟨fv, rfl, hb2, hfv⟩
  have HB2 := Lib.hid (HB1.out.trans (hb2.mono HB1.out.size))
  have HW2 := Lib.hid (ownsRow_same HW1.out (fun k hk => hb2.block k (HW1.out.lt k hk).2))
  clear hb2
  go_wp2_with fail
  refine (hfv.out 1048576 w2 (Nat.le_refl _) (Below.refl _ _)).mono ?_
  rintro e w3 ⟨la, lac, ys, rfl, hys, hb3, hown3, hgood⟩
  rw [HCN.out, List.take_of_length_le (by have := HLEN.out; omega)] at hys
  have hyl : ys.length = cn.length := by rw [← hys, List.length_map]
  have HB3 := Lib.hid (HB2.out.trans (hb3.mono HB2.out.size))
  have HW3 := Lib.hid (ownsRow_same HW2.out (fun k hk => hb3.block k (HW2.out.lt k hk).2))
  have HL3 := Lib.hid hown3
  have HG3 := Lib.hid hgood
  have HYS := Lib.hid hys
  have HYL := Lib.hid hyl
  rw [hyl]
  clear hb3 hown3 hgood hfv hys hyl
  go_wp2_with fail
  refine (names_all tb T O s w3 (H1.out.bel HB3.out)).mono ?_
  rintro e w4 ⟨fv2, rfl, hb4, hfv2⟩
  have HB4 := Lib.hid (HB3.out.trans (hb4.mono HB3.out.size))
  have HW4 := Lib.hid (ownsRow_same HW3.out (fun k hk => hb4.block k (HW3.out.lt k hk).2))
  have HL4 := Lib.hid (ownsRow_same HL3.out (fun k hk => hb4.block k (HL3.out.lt k hk).2))
  have HG4 := Lib.hid (fun y hy => introw_keep (HG3.out y hy) (fun b hb => Nat.lt_of_lt_of_le hb hb4.size) (fun b oo u hb hu => (hb4.cell (p := ⟨b, oo, none⟩) hb).trans hu))
  clear hb4
  go_wp2_with fail
  refine (hfv2.out 1 w4 (by decide) (Below.refl _ _)).mono ?_
  rintro e w5 ⟨lb, lbc, zs5, rfl, hzs, hb5, _, _⟩
  have hzl : zs5.length = min 1 cn.length := by
    rw [HCN.out] at hzs
    have := congrArg List.length hzs
    rw [List.length_map, List.length_take] at this
    exact this
  have HB5 := Lib.hid (HB4.out.trans (hb5.mono HB4.out.size))
  have HW5 := Lib.hid (ownsRow_same HW4.out (fun k hk => hb5.block k (HW4.out.lt k hk).2))
  have HL5 := Lib.hid (ownsRow_same HL4.out (fun k hk => hb5.block k (HL4.out.lt k hk).2))
  have HG5 := Lib.hid (fun y hy => introw_keep (HG4.out y hy) (fun b hb => Nat.lt_of_lt_of_le hb hb5.size) (fun b oo u hb hu => (hb5.cell (p := ⟨b, oo, none⟩) hb).trans hu))
  rw [hzl]
  have hmin : min (1 : Int) (cn.length : Int) = ((min 1 cn.length : Nat) : Int) := by omega
  clear hb5 hfv2 hzs hzl
  generalize hmn : min 1 cn.length = mn at hmin ⊢
  clear hmn
  go_wp2_with fail
  clear hmin
  go_loopw [38] (fun i wr => ∃ k : Nat, k ≤ cn.length ∧ i = .int .i64 (k : Int) ∧ Below w5.heap.size w5 wr) (fun i _ => cn.length - (intOf i).toNat)
  case atStart => exact ⟨0, Nat.zero_le _, rfl, Below.refl _ _⟩
  case round =>
    obtain ⟨k, hk, rfl, hbel⟩ := hrel
    have HBW := Lib.hid hbel
    have hlen := HLEN.out
    by_cases hlt : k < cn.length
    · have dl : decide ((k : Int) < (cn.length : Int)) = true := decide_eq_true (by omega)
      have i0' : (0 : Int) ≤ (k : Int) := Int.natCast_nonneg _
      have i1' : (k : Int) < (cn.length : Int) := by omega
      obtain ⟨y, hy⟩ : ∃ y, ys[k]? = some y := ⟨_, List.getElem?_eq_getElem (by rw [HYL.out]; exact hlt)⟩
      have hcy : cn[k]? = some y.i := by rw [← HYS.out, List.getElem?_map, hy]; rfl
      have hyi := chainO_in HOK.out (s := s) (i := y.i) (by rw [HCN.out]; exact List.mem_of_getElem? hcy)
      obtain ⟨ga, rfl, hgal, _, hgac⟩ := row_cells HW5.out (by omega)
      have hown5 := HL5.out
      rw [HYL.out] at hown5
      obtain ⟨gl, rfl, hgll, _, hglc⟩ := row_cells hown5 (by omega)
      have g0 : wr.cell? ⟨gl, k * 7, none⟩ = some (.int .i64 (y.i : Int)) := (hbel.cell (p := ⟨gl, k * 7, none⟩) hgll).trans (hglc (k * 7 + 0) _ ((nmC_at T ys k 0 y hy (by decide)).trans rfl))
      have g1 : wr.cell? ⟨gl, k * 7 + 1, none⟩ = some (.int .i64 5) := (hbel.cell (p := ⟨gl, k * 7 + 1, none⟩) hgll).trans (hglc (k * 7 + 1) _ ((nmC_at T ys k 1 y hy (by decide)).trans rfl))
      have g2 : wr.cell? ⟨gl, k * 7 + 2, none⟩ = some (.int .i64 0) := (hbel.cell (p := ⟨gl, k * 7 + 2, none⟩) hgll).trans (hglc (k * 7 + 2) _ ((nmC_at T ys k 2 y hy (by decide)).trans rfl))
      have g3 : wr.cell? ⟨gl, k * 7 + 3, none⟩ = some (.string ⟨(T.id y.i).s.toArray⟩) := (hbel.cell (p := ⟨gl, k * 7 + 3, none⟩) hgll).trans (hglc (k * 7 + 3) _ ((nmC_at T ys k 3 y hy (by decide)).trans rfl))
      have g4 : wr.cell? ⟨gl, k * 7 + 4, none⟩ = some (.slice y.am (T.id y.i).m.length y.cm) := (hbel.cell (p := ⟨gl, k * 7 + 4, none⟩) hgll).trans (hglc (k * 7 + 4) _ ((nmC_at T ys k 4 y hy (by decide)).trans rfl))
      have g5 : wr.cell? ⟨gl, k * 7 + 5, none⟩ = some (.slice none 0 0) := (hbel.cell (p := ⟨gl, k * 7 + 5, none⟩) hgll).trans (hglc (k * 7 + 5) _ ((nmC_at T ys k 5 y hy (by decide)).trans rfl))
      have g6 : wr.cell? ⟨gl, k * 7 + 6, none⟩ = some (.slice none 0 0) := (hbel.cell (p := ⟨gl, k * 7 + 6, none⟩) hgll).trans (hglc (k * 7 + 6) _ ((nmC_at T ys k 6 y hy (by decide)).trans rfl))
      have hwk : wr.cell? ⟨ga, k, none⟩ = some (.int .i64 (y.i : Int)) := (hbel.cell (p := ⟨ga, k, none⟩) hgal).trans (hgac k _ (by unfold marksC; rw [List.getElem?_map, hcy]; rfl))
      have HHW := Lib.hid (And.intro hgal hwk)
      have HY := Lib.hid (And.intro hlt (And.intro hy hyi))
      clear hlt hy hcy hyi hown5 hgac hglc hgal hwk
      go_upto_region 8 with (fail)
      clear g0 g1 g2 g3 g4 g5 g6 dl
      obtain ⟨bx, hbx⟩ : ∃ bx, wr.heap.size = bx := ⟨_, rfl⟩
      generalize hV : (World.alloc wr _) = V
      have hbV : Below wr.heap.size wr V := by rw [← hV]; exact (Below.refl _ _).alloc (Nat.le_refl _) _
      have nV : Da.Blk V bx 58 [.int .i64 (y.i : Int), .int .i64 5, .int .i64 0, .string ⟨(T.id y.i).s.toArray⟩, .slice y.am (T.id y.i).m.length y.cm, .slice none 0 0, .slice none 0 0].toArray := by rw [← hV, ← hbx]; exact heap_alloc_new wr _
      have hltx : bx < V.heap.size := (Array.getElem?_eq_some_iff.1 nV).1
      rw [hbx]
      have HBX : Hid (bx < V.heap.size ∧ V.cell? ⟨bx, 0, none⟩ = some (.int .i64 (y.i : Int)) ∧ Ld.At V bx 1 [.int .i64 5, .int .i64 0, .string ⟨(T.id y.i).s.toArray⟩, .slice y.am (T.id y.i).m.length y.cm, .slice none 0 0, .slice none 0 0]) := Lib.hid ⟨hltx, (nV.cell 0).trans rfl, at_one' nV⟩
      have hbVw : Below w.heap.size w V := HB5.out.trans ((hbel.trans (hbV.mono hbel.size)).mono HB5.out.size)
      have HBV := Lib.hid hbVw
      have hbV5 : Below w5.heap.size w5 V := hbel.trans (hbV.mono hbel.size)
      have HBV5 := Lib.hid hbV5
      obtain ⟨lv, mv, cs, Q, ht, hQ, hO⟩ := H2.out
      obtain ⟨ra, lc, rfl⟩ := slice_of ht.rows
      obtain ⟨g, rfl, hltg, _, hcells⟩ := row_cells ht.rows HOK.out.pos
      have hltR : rb < w.heap.size := ht.apart.2.2.2 rb (.inl rfl)
      have c0 : V.cell? ⟨rb, 0, none⟩ = some (.slice (some ⟨g, 0, none⟩) T.rows.length lc) := (hbVw.cell (p := ⟨rb, 0, none⟩) hltR).trans ((ht.blk.cell 0).trans rfl)
      have HV : Hid (rb < V.heap.size ∧ V.cell? ⟨rb, 0, none⟩ = some (.slice (some ⟨g, 0, none⟩) T.rows.length lc) ∧ ga < V.heap.size ∧ V.cell? ⟨ga, k, none⟩ = some (.int .i64 (y.i : Int))) := Lib.hid ⟨Nat.lt_of_lt_of_le hltR hbVw.size, c0, Nat.lt_of_lt_of_le HHW.out.1 hbV5.size, (hbV.cell (p := ⟨ga, k, none⟩) (Nat.lt_of_lt_of_le HHW.out.1 hbel.size)).trans HHW.out.2⟩
      obtain ⟨r, hr⟩ : ∃ r, T.rows[y.i]? = some r := ⟨_, List.getElem?_eq_getElem HY.out.2.2.2⟩
      obtain ⟨cc, hcc⟩ : ∃ cc, cs[y.i]? = some cc := ⟨_, List.getElem?_eq_getElem (by rw [ht.len]; exact HY.out.2.2.2)⟩
      have hrid : r.id = T.id y.i := by unfold Tab.id; rw [List.getD_eq_getElem?_getD, hr]; rfl
      have hc6 := ht.six cc (List.mem_of_getElem? hcc)
      have HG : Hid (g < V.heap.size ∧ cc.length = 6 ∧ ∀ j u, cc[j]? = some u → V.cell? ⟨g, y.i * 8 + 1 + j, none⟩ = some u) := Lib.hid ⟨Nat.lt_of_lt_of_le hltg hbVw.size, hc6, fun j u hu => by
        have hj := (List.getElem?_eq_some_iff.1 hu).1
        refine (hbVw.cell (p := ⟨g, y.i * 8 + 1 + j, none⟩) hltg).trans ?_
        rw [Nat.add_assoc, Nat.add_comm 1 j]
        exact hcells (y.i * 8 + (j + 1)) u (by rw [rrows_at T.rows cs y.i (j + 1) r cc hr hcc ht.six (by omega)]; unfold rrow; rw [List.getElem?_cons_succ, List.getElem?_append_left hj]; exact hu)⟩
      have HDB : Hid (Da.IsDt V (Da.Lo V.heap.size) (dtI (T.id y.i)) (.agg cc.toArray)) := Lib.hid (by
        have h := (ht.dat y.i cc r HY.out.2.2.1 hcc hr).more (fun j hj => ht.lt j hj)
        rw [hrid] at h
        exact (h.below hbVw).more (fun j hj => Nat.lt_of_lt_of_le hj hbVw.size))
      have HDA : Hid (Da.IsDt V (Da.Lo V.heap.size) (dtI (T.id y.i)) (.agg [.int .i64 5, .int .i64 0, .string ⟨(T.id y.i).s.toArray⟩, .slice y.am (T.id y.i).m.length y.cm, .slice none 0 0, .slice none 0 0].toArray)) := Lib.hid (dt_sym (by have := (H1.out.idOk y.i HY.out.2.2.2).s; show (T.id y.i).s.toArray.size ≤ _; rw [List.size_toArray]; unfold maxLen; omega) (introw_keep (HG5.out y (List.mem_of_getElem? HY.out.2.1)) (fun b hb => Nat.lt_of_lt_of_le hb hbV5.size) (fun b oo u hb hu => (hbV5.cell (p := ⟨b, oo, none⟩) hb).trans hu)))
      have HTR : Hid (((Da.chk (dtI (T.id y.i)) == 0) && Da.eqD (dtI (T.id y.i)) (dtI (T.id y.i))) = true) := Lib.hid (by rw [(HS.out y.i HY.out.2.2.1 HY.out.2.2.2).2, Da.eqD_refl]; rfl)
      have i0y : (0 : Int) ≤ (y.i : Int) := Int.natCast_nonneg _
      have i1y : (y.i : Int) < (T.rows.length : Int) := by have := HY.out.2.2.2; omega
      have hT0 : Below V.heap.size V V.drew := bel_drew0 _ _
      clear hV hbV nV hltx hbx hbVw hbV5 ht hQ hO hcells hltg hltR c0 hr hcc hrid hc6 hbel hlen
      refine Od.till_region 24 (fun _ : World => True) (fun W : World => Below V.heap.size V W) 24 (by kernel_rfl) rfl ?_
      simp only [Array.replicate_succ, Array.replicate_zero, List.push_toArray, List.nil_append, List.cons_append]
      generalize V.drew = W0 at hT0 ⊢
      refine Od.Till.takeT (i := 0) (d := 43) (v := .pointer (some ⟨bx, 0, none⟩)) rfl rfl (by kernel_rfl) (by kernel_rfl) (by kernel_rfl) (by kernel_rfl) (fun _ _ _ h => h) (.inl ⟨by rfl, ?_⟩) trivial hT0 ?_
      · intro wx hSw
        have q0 := (hSw.cell (p := ⟨bx, 0, none⟩) HBX.out.1).trans HBX.out.2.1; have r0 := (hSw.cell (p := ⟨rb, 0, none⟩) HV.out.1).trans HV.out.2.1; have w0 := (hSw.cell (p := ⟨ga, k, none⟩) HV.out.2.2.1).trans HV.out.2.2.2
        go_simp
      simp only [Act.put, List.setIfInBounds_toArray, List.set_cons_zero, List.set_cons_succ]
      refine Od.Till.takeT (i := 1) (d := 44) (v := .int .i64 (y.i : Int)) rfl rfl (by kernel_rfl) (by kernel_rfl) (by kernel_rfl) (by kernel_rfl) (fun _ _ _ h => h) (.inl ⟨by rfl, ?_⟩) trivial hT0 ?_
      · intro wx hSw
        have q0 := (hSw.cell (p := ⟨bx, 0, none⟩) HBX.out.1).trans HBX.out.2.1; have r0 := (hSw.cell (p := ⟨rb, 0, none⟩) HV.out.1).trans HV.out.2.1; have w0 := (hSw.cell (p := ⟨ga, k, none⟩) HV.out.2.2.1).trans HV.out.2.2.2
        go_simp
      simp only [Act.put, List.setIfInBounds_toArray, List.set_cons_zero, List.set_cons_succ]
      refine Od.Till.takeT (i := 2) (d := 45) (v := .slice (some ⟨ga, 0, none⟩) cn.length ac) rfl rfl (by kernel_rfl) (by kernel_rfl) (by kernel_rfl) (by kernel_rfl) (fun _ _ _ h => h) (.inl ⟨by rfl, ?_⟩) trivial hT0 ?_
      · intro wx hSw
        have q0 := (hSw.cell (p := ⟨bx, 0, none⟩) HBX.out.1).trans HBX.out.2.1; have r0 := (hSw.cell (p := ⟨rb, 0, none⟩) HV.out.1).trans HV.out.2.1; have w0 := (hSw.cell (p := ⟨ga, k, none⟩) HV.out.2.2.1).trans HV.out.2.2.2
        go_simp
      simp only [Act.put, List.setIfInBounds_toArray, List.set_cons_zero, List.set_cons_succ]
      refine Od.Till.takeT (i := 3) (d := 46) (v := .int .i64 (k : Int)) rfl rfl (by kernel_rfl) (by kernel_rfl) (by kernel_rfl) (by kernel_rfl) (fun _ _ _ h => h) (.inl ⟨by rfl, ?_⟩) trivial hT0 ?_
      · intro wx hSw
        have q0 := (hSw.cell (p := ⟨bx, 0, none⟩) HBX.out.1).trans HBX.out.2.1; have r0 := (hSw.cell (p := ⟨rb, 0, none⟩) HV.out.1).trans HV.out.2.1; have w0 := (hSw.cell (p := ⟨ga, k, none⟩) HV.out.2.2.1).trans HV.out.2.2.2
        go_simp
      simp only [Act.put, List.setIfInBounds_toArray, List.set_cons_zero, List.set_cons_succ]
      refine Od.Till.takeT (i := 4) (d := 47) (v := .pointer (some ⟨ga, k, none⟩)) rfl rfl (by kernel_rfl) (by kernel_rfl) (by kernel_rfl) (by kernel_rfl) (fun _ _ _ h => h) (.inl ⟨by rfl, ?_⟩) trivial hT0 ?_
      · intro wx hSw
        have q0 := (hSw.cell (p := ⟨bx, 0, none⟩) HBX.out.1).trans HBX.out.2.1; have r0 := (hSw.cell (p := ⟨rb, 0, none⟩) HV.out.1).trans HV.out.2.1; have w0 := (hSw.cell (p := ⟨ga, k, none⟩) HV.out.2.2.1).trans HV.out.2.2.2
        go_simp
      simp only [Act.put, List.setIfInBounds_toArray, List.set_cons_zero, List.set_cons_succ]
      refine Od.Till.takeT (i := 5) (d := 48) (v := .int .i64 (y.i : Int)) rfl rfl (by kernel_rfl) (by kernel_rfl) (by kernel_rfl) (by kernel_rfl) (fun _ _ _ h => h) (.inl ⟨by rfl, ?_⟩) trivial hT0 ?_
      · intro wx hSw
        have q0 := (hSw.cell (p := ⟨bx, 0, none⟩) HBX.out.1).trans HBX.out.2.1; have r0 := (hSw.cell (p := ⟨rb, 0, none⟩) HV.out.1).trans HV.out.2.1; have w0 := (hSw.cell (p := ⟨ga, k, none⟩) HV.out.2.2.1).trans HV.out.2.2.2
        go_simp
      simp only [Act.put, List.setIfInBounds_toArray, List.set_cons_zero, List.set_cons_succ]
      refine Od.Till.takeT (i := 6) (d := 49) (v := .bool false) rfl rfl (by kernel_rfl) (by kernel_rfl) (by kernel_rfl) (by kernel_rfl) (fun _ _ _ h => h) (.inl ⟨by rfl, ?_⟩) trivial hT0 ?_
      · intro wx hSw
        have q0 := (hSw.cell (p := ⟨bx, 0, none⟩) HBX.out.1).trans HBX.out.2.1; have r0 := (hSw.cell (p := ⟨rb, 0, none⟩) HV.out.1).trans HV.out.2.1; have w0 := (hSw.cell (p := ⟨ga, k, none⟩) HV.out.2.2.1).trans HV.out.2.2.2
        go_simp
      simp only [Act.put, List.setIfInBounds_toArray, List.set_cons_zero, List.set_cons_succ]
      refine Od.Till.takeT (i := 7) (d := 50) (v := .bool false) rfl rfl (by kernel_rfl) (by kernel_rfl) (by kernel_rfl) (by kernel_rfl) (fun _ _ _ h => h) (.inl ⟨by rfl, ?_⟩) trivial hT0 ?_
      · intro wx hSw
        have q0 := (hSw.cell (p := ⟨bx, 0, none⟩) HBX.out.1).trans HBX.out.2.1; have r0 := (hSw.cell (p := ⟨rb, 0, none⟩) HV.out.1).trans HV.out.2.1; have w0 := (hSw.cell (p := ⟨ga, k, none⟩) HV.out.2.2.1).trans HV.out.2.2.2
        go_simp
      simp only [Act.put, List.setIfInBounds_toArray, List.set_cons_zero, List.set_cons_succ]
      refine Od.Till.takeT (i := 8) (d := 51) (v := .pointer (some ⟨bx, 1, none⟩)) rfl rfl (by kernel_rfl) (by kernel_rfl) (by kernel_rfl) (by kernel_rfl) (fun _ _ _ h => h) (.inl ⟨by rfl, ?_⟩) trivial hT0 ?_
      · intro wx hSw
        have q0 := (hSw.cell (p := ⟨bx, 0, none⟩) HBX.out.1).trans HBX.out.2.1; have r0 := (hSw.cell (p := ⟨rb, 0, none⟩) HV.out.1).trans HV.out.2.1; have w0 := (hSw.cell (p := ⟨ga, k, none⟩) HV.out.2.2.1).trans HV.out.2.2.2
        go_simp
      simp only [Act.put, List.setIfInBounds_toArray, List.set_cons_zero, List.set_cons_succ]
      refine Od.Till.takeT (i := 9) (d := 52) (v := .agg [.int .i64 5, .int .i64 0, .string ⟨(T.id y.i).s.toArray⟩, .slice y.am (T.id y.i).m.length y.cm, .slice none 0 0, .slice none 0 0].toArray) rfl rfl (by kernel_rfl) (by kernel_rfl) (by kernel_rfl) (by kernel_rfl) (fun _ _ _ h => h) (.inl ⟨by rfl, ?_⟩) trivial hT0 ?_
      · intro wx hSw
        have q0 := (hSw.cell (p := ⟨bx, 0, none⟩) HBX.out.1).trans HBX.out.2.1; have r0 := (hSw.cell (p := ⟨rb, 0, none⟩) HV.out.1).trans HV.out.2.1; have w0 := (hSw.cell (p := ⟨ga, k, none⟩) HV.out.2.2.1).trans HV.out.2.2.2
        exact Ld.exec_at 33 (.tmp 51) rfl bx 1 rfl [.int .i64 5, .int .i64 0, .string ⟨(T.id y.i).s.toArray⟩, .slice y.am (T.id y.i).m.length y.cm, .slice none 0 0, .slice none 0 0] _ (HBX.out.2.2.same (fun oo u hu => (hSw.cell (p := ⟨bx, oo, none⟩) HBX.out.1).trans hu)) Try.underlying33 rfl info_dt6
      simp only [Act.put, List.setIfInBounds_toArray, List.set_cons_zero, List.set_cons_succ]
      refine Od.Till.takeT (i := 10) (d := 53) (v := .pointer (some ⟨rb, 0, none⟩)) rfl rfl (by kernel_rfl) (by kernel_rfl) (by kernel_rfl) (by kernel_rfl) (fun _ _ _ h => h) (.inl ⟨by rfl, ?_⟩) trivial hT0 ?_
      · intro wx hSw
        have q0 := (hSw.cell (p := ⟨bx, 0, none⟩) HBX.out.1).trans HBX.out.2.1; have r0 := (hSw.cell (p := ⟨rb, 0, none⟩) HV.out.1).trans HV.out.2.1; have w0 := (hSw.cell (p := ⟨ga, k, none⟩) HV.out.2.2.1).trans HV.out.2.2.2
        go_simp
      simp only [Act.put, List.setIfInBounds_toArray, List.set_cons_zero, List.set_cons_succ]
      refine Od.Till.takeT (i := 11) (d := 54) (v := .pointer (some ⟨rb, 0, none⟩)) rfl rfl (by kernel_rfl) (by kernel_rfl) (by kernel_rfl) (by kernel_rfl) (fun _ _ _ h => h) (.inl ⟨by rfl, ?_⟩) trivial hT0 ?_
      · intro wx hSw
        have q0 := (hSw.cell (p := ⟨bx, 0, none⟩) HBX.out.1).trans HBX.out.2.1; have r0 := (hSw.cell (p := ⟨rb, 0, none⟩) HV.out.1).trans HV.out.2.1; have w0 := (hSw.cell (p := ⟨ga, k, none⟩) HV.out.2.2.1).trans HV.out.2.2.2
        go_simp
      simp only [Act.put, List.setIfInBounds_toArray, List.set_cons_zero, List.set_cons_succ]
      refine Od.Till.takeT (i := 12) (d := 55) (v := .pointer (some ⟨rb, 0, none⟩)) rfl rfl (by kernel_rfl) (by kernel_rfl) (by kernel_rfl) (by kernel_rfl) (fun _ _ _ h => h) (.inl ⟨by rfl, ?_⟩) trivial hT0 ?_
      · intro wx hSw
        have q0 := (hSw.cell (p := ⟨bx, 0, none⟩) HBX.out.1).trans HBX.out.2.1; have r0 := (hSw.cell (p := ⟨rb, 0, none⟩) HV.out.1).trans HV.out.2.1; have w0 := (hSw.cell (p := ⟨ga, k, none⟩) HV.out.2.2.1).trans HV.out.2.2.2
        go_simp
      simp only [Act.put, List.setIfInBounds_toArray, List.set_cons_zero, List.set_cons_succ]
      refine Od.Till.takeT (i := 13) (d := 56) (v := .slice (some ⟨g, 0, none⟩) T.rows.length lc) rfl rfl (by kernel_rfl) (by kernel_rfl) (by kernel_rfl) (by kernel_rfl) (fun _ _ _ h => h) (.inl ⟨by rfl, ?_⟩) trivial hT0 ?_
      · intro wx hSw
        have q0 := (hSw.cell (p := ⟨bx, 0, none⟩) HBX.out.1).trans HBX.out.2.1; have r0 := (hSw.cell (p := ⟨rb, 0, none⟩) HV.out.1).trans HV.out.2.1; have w0 := (hSw.cell (p := ⟨ga, k, none⟩) HV.out.2.2.1).trans HV.out.2.2.2
        go_simp
      simp only [Act.put, List.setIfInBounds_toArray, List.set_cons_zero, List.set_cons_succ]
      refine Od.Till.takeT (i := 14) (d := 57) (v := .slice (some ⟨ga, 0, none⟩) cn.length ac) rfl rfl (by kernel_rfl) (by kernel_rfl) (by kernel_rfl) (by kernel_rfl) (fun _ _ _ h => h) (.inl ⟨by rfl, ?_⟩) trivial hT0 ?_
      · intro wx hSw
        have q0 := (hSw.cell (p := ⟨bx, 0, none⟩) HBX.out.1).trans HBX.out.2.1; have r0 := (hSw.cell (p := ⟨rb, 0, none⟩) HV.out.1).trans HV.out.2.1; have w0 := (hSw.cell (p := ⟨ga, k, none⟩) HV.out.2.2.1).trans HV.out.2.2.2
        go_simp
      simp only [Act.put, List.setIfInBounds_toArray, List.set_cons_zero, List.set_cons_succ]
      refine Od.Till.takeT (i := 15) (d := 58) (v := .int .i64 (k : Int)) rfl rfl (by kernel_rfl) (by kernel_rfl) (by kernel_rfl) (by kernel_rfl) (fun _ _ _ h => h) (.inl ⟨by rfl, ?_⟩) trivial hT0 ?_
      · intro wx hSw
        have q0 := (hSw.cell (p := ⟨bx, 0, none⟩) HBX.out.1).trans HBX.out.2.1; have r0 := (hSw.cell (p := ⟨rb, 0, none⟩) HV.out.1).trans HV.out.2.1; have w0 := (hSw.cell (p := ⟨ga, k, none⟩) HV.out.2.2.1).trans HV.out.2.2.2
        go_simp
      simp only [Act.put, List.setIfInBounds_toArray, List.set_cons_zero, List.set_cons_succ]
      refine Od.Till.takeT (i := 16) (d := 59) (v := .pointer (some ⟨ga, k, none⟩)) rfl rfl (by kernel_rfl) (by kernel_rfl) (by kernel_rfl) (by kernel_rfl) (fun _ _ _ h => h) (.inl ⟨by rfl, ?_⟩) trivial hT0 ?_
      · intro wx hSw
        have q0 := (hSw.cell (p := ⟨bx, 0, none⟩) HBX.out.1).trans HBX.out.2.1; have r0 := (hSw.cell (p := ⟨rb, 0, none⟩) HV.out.1).trans HV.out.2.1; have w0 := (hSw.cell (p := ⟨ga, k, none⟩) HV.out.2.2.1).trans HV.out.2.2.2
        go_simp
      simp only [Act.put, List.setIfInBounds_toArray, List.set_cons_zero, List.set_cons_succ]
      refine Od.Till.takeT (i := 17) (d := 60) (v := .int .i64 (y.i : Int)) rfl rfl (by kernel_rfl) (by kernel_rfl) (by kernel_rfl) (by kernel_rfl) (fun _ _ _ h => h) (.inl ⟨by rfl, ?_⟩) trivial hT0 ?_
      · intro wx hSw
        have q0 := (hSw.cell (p := ⟨bx, 0, none⟩) HBX.out.1).trans HBX.out.2.1; have r0 := (hSw.cell (p := ⟨rb, 0, none⟩) HV.out.1).trans HV.out.2.1; have w0 := (hSw.cell (p := ⟨ga, k, none⟩) HV.out.2.2.1).trans HV.out.2.2.2
        go_simp
      simp only [Act.put, List.setIfInBounds_toArray, List.set_cons_zero, List.set_cons_succ]
      refine Od.Till.takeT (i := 18) (d := 61) (v := .pointer (some ⟨g, y.i * 8, none⟩)) rfl rfl (by kernel_rfl) (by kernel_rfl) (by kernel_rfl) (by kernel_rfl) (fun _ _ _ h => h) (.inl ⟨by rfl, ?_⟩) trivial hT0 ?_
      · intro wx hSw
        have q0 := (hSw.cell (p := ⟨bx, 0, none⟩) HBX.out.1).trans HBX.out.2.1; have r0 := (hSw.cell (p := ⟨rb, 0, none⟩) HV.out.1).trans HV.out.2.1; have w0 := (hSw.cell (p := ⟨ga, k, none⟩) HV.out.2.2.1).trans HV.out.2.2.2
        go_simp
      simp only [Act.put, List.setIfInBounds_toArray, List.set_cons_zero, List.set_cons_succ]
      refine Od.Till.takeT (i := 19) (d := 62) (v := .pointer (some ⟨g, y.i * 8 + 1, none⟩)) rfl rfl (by kernel_rfl) (by kernel_rfl) (by kernel_rfl) (by kernel_rfl) (fun _ _ _ h => h) (.inl ⟨by rfl, ?_⟩) trivial hT0 ?_
      · intro wx hSw
        have q0 := (hSw.cell (p := ⟨bx, 0, none⟩) HBX.out.1).trans HBX.out.2.1; have r0 := (hSw.cell (p := ⟨rb, 0, none⟩) HV.out.1).trans HV.out.2.1; have w0 := (hSw.cell (p := ⟨ga, k, none⟩) HV.out.2.2.1).trans HV.out.2.2.2
        go_simp
      simp only [Act.put, List.setIfInBounds_toArray, List.set_cons_zero, List.set_cons_succ]
      refine Od.Till.takeT (i := 20) (d := 63) (v := .agg cc.toArray) rfl rfl (by kernel_rfl) (by kernel_rfl) (by kernel_rfl) (by kernel_rfl) (fun _ _ _ h => h) (.inl ⟨by rfl, ?_⟩) trivial hT0 ?_
      · intro wx hSw
        have q0 := (hSw.cell (p := ⟨bx, 0, none⟩) HBX.out.1).trans HBX.out.2.1; have r0 := (hSw.cell (p := ⟨rb, 0, none⟩) HV.out.1).trans HV.out.2.1; have w0 := (hSw.cell (p := ⟨ga, k, none⟩) HV.out.2.2.1).trans HV.out.2.2.2
        exact Ld.exec_at 33 (.tmp 62) rfl g (y.i * 8 + 1) rfl cc _ (fun j u hu => (hSw.cell (p := ⟨g, y.i * 8 + 1 + j, none⟩) HG.out.1).trans (HG.out.2.2 j u hu)) Try.underlying33 rfl (by rw [HG.out.2.1]; exact info_dt6)
      simp only [Act.put, List.setIfInBounds_toArray, List.set_cons_zero, List.set_cons_succ]
      refine Od.Till.one (i := 21) (by kernel_rfl) rfl (fun K hK => ?_)
      rw [if_pos (by kernel_rfl)]
      go_simp
      refine (Da.rsame_any (dtI (T.id y.i)) (dtI (T.id y.i)) _ _ V.heap.size W0 (HDA.out.below hT0) (HDB.out.below hT0) hT0.size).mono ?_
      rintro e W1 ⟨rfl, hb1⟩
      rw [HTR.out]
      have hT1 : Below V.heap.size V W1 := hT0.trans (hb1.mono hT0.size)
      clear hb1
      refine hK.out _ _ ⟨fun _ => trivial, hT1⟩ ?_
      clear hK K
      simp only [Act.put, List.setIfInBounds_toArray, List.set_cons_zero, List.set_cons_succ]
      refine Od.Till.takeT (i := 22) (d := 65) (v := .bool false) rfl rfl (by kernel_rfl) (by kernel_rfl) (by kernel_rfl) (by kernel_rfl) (fun _ _ _ h => h) (.inl ⟨by rfl, ?_⟩) trivial hT1 ?_
      · intro wx hSw
        have q0 := (hSw.cell (p := ⟨bx, 0, none⟩) HBX.out.1).trans HBX.out.2.1; have r0 := (hSw.cell (p := ⟨rb, 0, none⟩) HV.out.1).trans HV.out.2.1; have w0 := (hSw.cell (p := ⟨ga, k, none⟩) HV.out.2.2.1).trans HV.out.2.2.2
        go_simp
      simp only [Act.put, List.setIfInBounds_toArray, List.set_cons_zero, List.set_cons_succ]
      refine Od.Till.takeT (i := 23) (d := 66) (v := .bool false) rfl rfl (by kernel_rfl) (by kernel_rfl) (by kernel_rfl) (by kernel_rfl) (fun _ _ _ h => h) (.inl ⟨by rfl, ?_⟩) trivial hT1 ?_
      · intro wx hSw
        have q0 := (hSw.cell (p := ⟨bx, 0, none⟩) HBX.out.1).trans HBX.out.2.1; have r0 := (hSw.cell (p := ⟨rb, 0, none⟩) HV.out.1).trans HV.out.2.1; have w0 := (hSw.cell (p := ⟨ga, k, none⟩) HV.out.2.2.1).trans HV.out.2.2.2
        go_simp
      simp only [Act.put, List.setIfInBounds_toArray, List.set_cons_zero, List.set_cons_succ]
      refine Od.Till.done (by kernel_rfl) ?_
      have HFT := Lib.hid hT1
      clear hT0 hT1 i0y i1y
      have hlen2 := HLEN.out
      go_wp2_with fail
      go_roundw
      case rel =>
        refine ⟨k + 1, by have := HY.out.1; omega, by have := HLEN.out; have := HY.out.1; go_num, HBV5.out.trans (HFT.out.mono HBV5.out.size)⟩
      case measure => have := HY.out.1; simp [intOf]; omega
    · have dl : decide ((k : Int) < (cn.length : Int)) = false := decide_eq_false (by omega)
      obtain rfl : k = cn.length := by omega
      have HBE := Lib.hid (HB5.out.trans (hbel.mono HB5.out.size))
      clear hbel hlt hlen
      have h1w := H1.out.bel HBE.out
      obtain ⟨vs, vm, bm, ht, _⟩ := h1w
      obtain ⟨pa, pc, rfl⟩ := slice_of ht.rows
      obtain ⟨pm, pmc, rfl⟩ := slice_of ht.marks
      have HSZ := Lib.hid (sizes_any tb pa pm T.rows.length pc T.marks.length pmc wr ((ht.blk.cell 0).trans rfl) ((ht.blk.cell 1).trans rfl) HOK.out.pos)
      clear ht
      go_wp2_with fail
      refine HSZ.out.mono ?_
      rintro e w6 ⟨rfl, hb6⟩
      have HB6 := Lib.hid (HBE.out.trans (hb6.mono HBE.out.size))
      obtain ⟨lv, mv, cs, Q, ht, _⟩ := H2.out.bel HB6.out
      obtain ⟨ra, lc, rfl⟩ := slice_of ht.rows
      obtain ⟨ma, mc, rfl⟩ := slice_of ht.marks
      have c0 : w6.cell? ⟨rb, 0, none⟩ = some (.slice ra T.rows.length lc) := (ht.blk.cell 0).trans rfl
      have c1 : w6.cell? ⟨rb, 1, none⟩ = some (.slice ma T.marks.length mc) := (ht.blk.cell 1).trans rfl
      clear hb6 HSZ ht
      go_wp2_with fail
      go_ret
      exact ⟨rfl, HB6.out⟩
end Go.Proofs.Ytapnighankepjaa.Sc
end
section
namespace Go.Proofs.Ytapnighankepjaa.Sc
open Go.ChangeShapes Go.WideShapes Go.ChangeAt Go.RowKit
set_option linter.unusedVariables false
set_option linter.unusedSimpArgs false

/-- Both tables, apart, and apart from what is to be left alone. -/
def ST (Av : Nat → Prop) (w : World) (tb : Nat) (T1 : Tab) (rb : Nat) (T2 : Tab) : Prop :=
  ∃ O R : Nat → Prop, TabIn w tb T1 O ∧ RTabIn w rb T2 R ∧ (∀ k, O k → ¬ R k) ∧ (∀ k, O k → ¬ Av k) ∧ ∀ k, R k → ¬ Av k
theorem st_prog {Av : Nat → Prop} {w w' : World} {tb rb : Nat} {T1' T2 : Tab} {O R : Nat → Prop} (hAv : ∀ k, Av k → k < w.heap.size) (h2 : RTabIn w rb T2 R) (hd : ∀ k, O k → ¬ R k) (hO : ∀ k, O k → ¬ Av k) (hR : ∀ k, R k → ¬ Av k)
    (r1 : TabIn w' tb T1' (fun k => O k ∨ w.heap.size ≤ k)) (r2 : Chg O w w') : ST Av w' tb T1' rb T2 ∧ Chg (fun k => ¬ Av k) w w' := by
  refine ⟨⟨_, _, r1, h2.in_.chg r2 (fun k hk ho => hd k ho hk.1), fun k ho hr => ?_, fun k ho hav => ?_, fun k hr hav => hR k hr.1 hav⟩, r2.mono hO⟩
  · rcases ho with ho | ho
    · exact hd k ho hr.1
    · have := hr.2; omega
  · rcases ho with ho | ho
    · exact hO k ho hav
    · have := hAv k hav; omega
theorem st_ref {Av : Nat → Prop} {w w' : World} {tb rb : Nat} {T1 T2' : Tab} {O R : Nat → Prop} (hAv : ∀ k, Av k → k < w.heap.size) (h1 : TabIn w tb T1 O) (hd : ∀ k, O k → ¬ R k) (hO : ∀ k, O k → ¬ Av k) (hR : ∀ k, R k → ¬ Av k)
    (r1 : RTabIn w' rb T2' (fun k => R k ∨ w.heap.size ≤ k)) (r2 : Chg R w w') : ST Av w' tb T1 rb T2' ∧ Chg (fun k => ¬ Av k) w w' := by
  refine ⟨⟨_, _, h1.in_.chg r2 (fun k hk => hd k hk.1), r1, fun k ho hr => ?_, fun k ho hav => hO k ho.1 hav, fun k hr hav => ?_⟩, r2.mono hR⟩
  · rcases hr with hr | hr
    · exact hd k ho.1 hr
    · have := ho.2; omega
  · rcases hr with hr | hr
    · exact hR k hr hav
    · have := hAv k hav; omega
theorem st_bel {Av : Nat → Prop} {w w' : World} {tb rb : Nat} {T1 T2 : Tab} (h : ST Av w tb T1 rb T2) (hb : Below w.heap.size w w') : ST Av w' tb T1 rb T2 := by
  obtain ⟨O, R, h1, h2, h3⟩ := h
  exact ⟨O, R, h1.bel hb, h2.bel hb, h3⟩
theorem st_more {Av Av' : Nat → Prop} {w : World} {tb rb : Nat} {T1 T2 : Tab} (h : ST Av w tb T1 rb T2) (hA : ∀ k, Av' k → Av k) : ST Av' w tb T1 rb T2 := by
  obtain ⟨O, R, h1, h2, h3, h4, h5⟩ := h
  exact ⟨O, R, h1, h2, h3, fun k hk ha => h4 k hk (hA k ha), fun k hk ha => h5 k hk (hA k ha)⟩
theorem st_box {Av : Nat → Prop} {w : World} {tb rb : Nat} {T1 T2 : Tab} (h : ST Av w tb T1 rb T2) (o : Obj) : ST (fun k => Av k ∨ k = w.heap.size) (w.alloc o) tb T1 rb T2 := by
  obtain ⟨O, R, h1, h2, h3, h4, h5⟩ := h
  have hb : Below w.heap.size w (w.alloc o) := (Below.refl _ _).alloc (Nat.le_refl _) _
  refine ⟨_, _, h1.in_.bel hb, h2.in_.bel hb, fun k ho hr => h3 k ho.1 hr.1, fun k ho hav => ?_, fun k hr hav => ?_⟩
  · rcases hav with hav | hav
    · exact h4 k ho.1 hav
    · have := ho.2; omega
  · rcases hav with hav | hav
    · exact h5 k hr.1 hav
    · have := hr.2; omega
theorem dat_chg {B : Nat} {Av : Nat → Prop} {w w' : World} {d : Da.Dt} {v : Value} (h : Da.IsDt w (Da.Lo B) d v) (hc : Chg (fun k => ¬ Av k) w w') (hA : ∀ k, k < B → Av k) : Da.IsDt w' (Da.Lo B) d v :=
  isDt_keep2 (fun _ h => h) (fun b o u hq hu => by
    obtain ⟨ob, h1, _⟩ := Rg.cells_of_cell hu
    exact (World.cell?_of_block (a := ⟨b, o, none⟩) (w := w) (hc.block b (Array.getElem?_eq_some_iff.1 h1).1 (fun h => h (hA b hq)))).trans hu) d v h
set_option maxRecDepth 100000 in
set_option maxHeartbeats 16000000 in
theorem does_any (B b0 tb rb : Nat) (T : Tab) (o : Opn) (x y : Sx) (w : World) (hB : B ≤ w.heap.size) (hb0 : b0 < w.heap.size) (h : ST (fun k => k < B ∨ k = b0) w tb T rb T) (hid : Da.IsDt w (Da.Lo B) o.id (.agg (sixL o.id x).toArray)) (hnd : Da.IsDt w (Da.Lo B) o.nd (.agg (sixL o.nd y).toArray)) (hwf : (Lit.int .i64 o.n).wf = true) :
    Calls Try.prog 9 #[.pointer (some ⟨tb, 0, none⟩), .pointer (some ⟨rb, 0, none⟩), .agg (opL o x y).toArray] w fun e w' => e = .returned (.bool true) ∧ ST (fun k => k < B ∨ k = b0) w' tb (stepT T o) rb (stepT T o) ∧ Chg (fun k => ¬ (k < B ∨ k = b0)) w w' := by
  have hT : T.Ok := by obtain ⟨O, R, h1, _⟩ := h; exact h1.ok
  have HOK := Lib.hid hT
  have HWF := Lib.hid hwf
  obtain ⟨oc, hoc⟩ : ∃ oc, (opL o x y).toArray = oc := ⟨_, rfl⟩
  have hbX : Below w.heap.size w (w.alloc (.cells oc 35)) := (Below.refl _ _).alloc (Nat.le_refl _) _
  have n1 := one_new w oc 35
  have HX0 : Hid (ST (fun k => (k < B ∨ k = b0) ∨ k = w.heap.size) (w.alloc (.cells oc 35)) tb T rb T) := Lib.hid (st_box h _)
  have HI0 := Lib.hid (And.intro (hid.below (hbX.mono hB)) (hnd.below (hbX.mono hB)))
  have hsX : (w.alloc (.cells oc 35)).heap.size = w.heap.size + 1 := by simp
  have HOC := Lib.hid hoc
  rw [hoc]
  clear hT h hid hnd hwf hoc
  go_enter Try.func9, Try.ntmps9
  go_upto_region 1 with (fail)
  generalize hX : (World.alloc w _) = X
  rw [hX] at hbX n1 HX0 HI0 hsX
  have HSTX := HX0
  have HCX : Hid (Chg (fun k => ¬ (k < B ∨ k = b0)) w X) := Lib.hid (.of_below _ hbX)
  have HBX := Lib.hid (show Da.Blk X w.heap.size 35 (opL o x y).toArray by rw [HOC.out]; exact n1)
  have HIX := HI0
  have HZX : Hid (B ≤ X.heap.size ∧ w.heap.size < X.heap.size) := Lib.hid ⟨by omega, by omega⟩
  clear hX n1 HX0 HI0 hbX hsX
  have f0 : X.cell? ⟨w.heap.size, 0, none⟩ = some (.int .i64 o.k) := (HBX.out.cell 0).trans rfl
  have f1 : X.cell? ⟨w.heap.size, 1, none⟩ = some (.int .i64 o.s) := (HBX.out.cell 1).trans rfl
  have f2 : X.cell? ⟨w.heap.size, 2, none⟩ = some (.int .i64 o.t) := (HBX.out.cell 2).trans rfl
  have f15 : X.cell? ⟨w.heap.size, 15, none⟩ = some (.int .i64 o.n) := (HBX.out.cell 15).trans rfl
  by_cases hk0 : o.k = 0
  · have d0 : (o.k == 0) = true := by rw [hk0]; rfl
    have HST : Hid (stepT T o = extT T o.s o.id o.n) := Lib.hid (by unfold stepT; rw [if_pos hk0])
    obtain ⟨O, R, h1, h2, h3, h4, h5⟩ := HSTX.out
    have HDJ := Lib.hid (And.intro h2 (And.intro h3 (And.intro h4 h5)))
    have H1 := Lib.hid h1
    clear hk0 h1 h2 h3 h4 h5
    go_wp2_with (refine load_list (.tmp 31) 33 w.heap.size 3 (sixL o.id x) _ rfl rfl rfl (at_id HBX.out) Try.underlying33 rfl info_dt6 ?_)
    refine (ext_all tb T O o.s o.n o.id _ B X HIX.out.1 HZX.out.1 H1.out HWF.out).mono ?_
    rintro e w1 ⟨rfl, r1, r2⟩
    obtain ⟨hst1, hc1⟩ := st_prog (Av := fun k => (k < B ∨ k = b0) ∨ k = w.heap.size) (fun k hk => by have := HZX.out; rcases hk with (hk | hk) | hk <;> omega) HDJ.out.1 HDJ.out.2.1 HDJ.out.2.2.1 HDJ.out.2.2.2 r1 r2
    have HSTw1 := Lib.hid hst1
    have HCw1 := Lib.hid (HCX.out.trans hc1 (fun _ h => .inl (fun h' => h (.inl h'))))
    have HBw1 := Lib.hid (show Da.Blk w1 w.heap.size 35 (opL o x y).toArray from (hc1.block _ (Array.getElem?_eq_some_iff.1 HBX.out).1 (fun h => h (.inr rfl))).trans HBX.out)
    have HIw1 := Lib.hid (And.intro (dat_chg HIX.out.1 hc1 (fun _ h => .inl (.inl h))) (dat_chg HIX.out.2 hc1 (fun _ h => .inl (.inl h))))
    have HZw1 : Hid (B ≤ w1.heap.size ∧ w.heap.size < w1.heap.size) := Lib.hid ⟨Nat.le_trans HZX.out.1 hc1.size, Nat.lt_of_lt_of_le HZX.out.2 hc1.size⟩
    clear f0 f1 f2 f15 r1 r2 hst1 hc1 HDJ H1
    have f0 : w1.cell? ⟨w.heap.size, 0, none⟩ = some (.int .i64 o.k) := (HBw1.out.cell 0).trans rfl
    have f1 : w1.cell? ⟨w.heap.size, 1, none⟩ = some (.int .i64 o.s) := (HBw1.out.cell 1).trans rfl
    have f2 : w1.cell? ⟨w.heap.size, 2, none⟩ = some (.int .i64 o.t) := (HBw1.out.cell 2).trans rfl
    have f15 : w1.cell? ⟨w.heap.size, 15, none⟩ = some (.int .i64 o.n) := (HBw1.out.cell 15).trans rfl
    obtain ⟨O1, R1, h1, h2, h3, h4, h5⟩ := HSTw1.out
    have HDJ := Lib.hid (And.intro h1 (And.intro h3 (And.intro h4 h5)))
    have H2 := Lib.hid h2
    clear h1 h2 h3 h4 h5
    go_wp2_with (refine load_list (.tmp 42) 33 w.heap.size 3 (sixL o.id x) _ rfl rfl rfl (at_id HBw1.out) Try.underlying33 rfl info_dt6 ?_)
    refine (rext_all rb T R1 o.s o.n o.id _ w1 (HIw1.out.1.more (fun k hk => Nat.lt_of_lt_of_le hk HZw1.out.1)) HOK.out H2.out).mono ?_
    rintro e w2 ⟨rfl, r1, r2⟩
    obtain ⟨hst2, hc2⟩ := st_ref (Av := fun k => (k < B ∨ k = b0) ∨ k = w.heap.size) (fun k hk => by have := HZw1.out; rcases hk with (hk | hk) | hk <;> omega) HDJ.out.1 HDJ.out.2.1 HDJ.out.2.2.1 HDJ.out.2.2.2 r1 r2
    have HF := Lib.hid (And.intro (st_more (Av' := fun k => k < B ∨ k = b0) hst2 (fun k hk => .inl hk)) (HCw1.out.trans hc2 (fun _ h => .inl (fun h' => h (.inl h')))))
    clear f0 f1 f2 f15 r1 r2 hst2 hc2 HDJ H2
    generalize extN T o.s o.id = nn
    generalize extE T o.s o.id = ee
    go_wp2_with fail
    go_ret
    rw [HST.out]
    exact ⟨rfl, HF.out.1, HF.out.2⟩
  · have d0 : (o.k == 0) = false := beq_eq_false_iff_ne.2 hk0
    by_cases hk1 : o.k = 1
    · have d1 : (o.k == 1) = true := by rw [hk1]; rfl
      have HST : Hid (stepT T o = markT T o.s) := Lib.hid (by unfold stepT; rw [if_neg hk0, if_pos hk1])
      obtain ⟨O, R, h1, h2, h3, h4, h5⟩ := HSTX.out
      have HDJ := Lib.hid (And.intro h2 (And.intro h3 (And.intro h4 h5)))
      have H1 := Lib.hid h1
      clear hk0 hk1 h1 h2 h3 h4 h5
      go_wp2_with fail
      refine (mark_all tb T O o.s X H1.out).mono ?_
      rintro e w1 ⟨rfl, r1, r2⟩
      obtain ⟨hst1, hc1⟩ := st_prog (Av := fun k => (k < B ∨ k = b0) ∨ k = w.heap.size) (fun k hk => by have := HZX.out; rcases hk with (hk | hk) | hk <;> omega) HDJ.out.1 HDJ.out.2.1 HDJ.out.2.2.1 HDJ.out.2.2.2 r1 r2
      have HSTw1 := Lib.hid hst1
      have HCw1 := Lib.hid (HCX.out.trans hc1 (fun _ h => .inl (fun h' => h (.inl h'))))
      have HBw1 := Lib.hid (show Da.Blk w1 w.heap.size 35 (opL o x y).toArray from (hc1.block _ (Array.getElem?_eq_some_iff.1 HBX.out).1 (fun h => h (.inr rfl))).trans HBX.out)
      have HIw1 := Lib.hid (And.intro (dat_chg HIX.out.1 hc1 (fun _ h => .inl (.inl h))) (dat_chg HIX.out.2 hc1 (fun _ h => .inl (.inl h))))
      have HZw1 : Hid (B ≤ w1.heap.size ∧ w.heap.size < w1.heap.size) := Lib.hid ⟨Nat.le_trans HZX.out.1 hc1.size, Nat.lt_of_lt_of_le HZX.out.2 hc1.size⟩
      clear f0 f1 f2 f15 r1 r2 hst1 hc1 HDJ H1
      have f0 : w1.cell? ⟨w.heap.size, 0, none⟩ = some (.int .i64 o.k) := (HBw1.out.cell 0).trans rfl
      have f1 : w1.cell? ⟨w.heap.size, 1, none⟩ = some (.int .i64 o.s) := (HBw1.out.cell 1).trans rfl
      have f2 : w1.cell? ⟨w.heap.size, 2, none⟩ = some (.int .i64 o.t) := (HBw1.out.cell 2).trans rfl
      have f15 : w1.cell? ⟨w.heap.size, 15, none⟩ = some (.int .i64 o.n) := (HBw1.out.cell 15).trans rfl
      obtain ⟨O1, R1, h1, h2, h3, h4, h5⟩ := HSTw1.out
      have HDJ := Lib.hid (And.intro h1 (And.intro h3 (And.intro h4 h5)))
      have H2 := Lib.hid h2
      clear h1 h2 h3 h4 h5
      go_wp2_with fail
      refine (rmark_all rb T R1 o.s w1 HOK.out H2.out).mono ?_
      rintro e w2 ⟨rfl, r1, r2⟩
      obtain ⟨hst2, hc2⟩ := st_ref (Av := fun k => (k < B ∨ k = b0) ∨ k = w.heap.size) (fun k hk => by have := HZw1.out; rcases hk with (hk | hk) | hk <;> omega) HDJ.out.1 HDJ.out.2.1 HDJ.out.2.2.1 HDJ.out.2.2.2 r1 r2
      have HF := Lib.hid (And.intro (st_more (Av' := fun k => k < B ∨ k = b0) hst2 (fun k hk => .inl hk)) (HCw1.out.trans hc2 (fun _ h => .inl (fun h' => h (.inl h')))))
      clear f0 f1 f2 f15 r1 r2 hst2 hc2 HDJ H2
      generalize markN T o.s = nn
      generalize markE T o.s = ee
      go_wp2_with fail
      go_ret
      rw [HST.out]
      exact ⟨rfl, HF.out.1, HF.out.2⟩
    · have d1 : (o.k == 1) = false := beq_eq_false_iff_ne.2 hk1
      have HST : Hid (stepT T o = T) := Lib.hid (by unfold stepT; rw [if_neg hk0, if_neg hk1])
      clear hk0 hk1
      obtain ⟨O, R, h1, h2, h3⟩ := HSTX.out
      have HTT := Lib.hid (And.intro h1 h2)
      have HWX : Hid (Below X.heap.size X X) := Lib.hid (Below.refl _ _)
      clear h1 h2 h3
      obtain ⟨zf, hzf⟩ : ∃ zf, findZ T o.s o.id = zf := ⟨_, rfl⟩
      obtain ⟨ef, hef⟩ : ∃ ef, findE T o.s o.id = ef := ⟨_, rfl⟩
      have HZE := Lib.hid (And.intro hzf hef)
      clear hzf hef
      go_wp2_with (refine load_list (.tmp 85) 33 w.heap.size 3 (sixL o.id x) _ rfl rfl rfl (at_id HBX.out) Try.underlying33 rfl info_dt6 ?_)
      have HFA := find_all tb T O o.s o.id _ B X HIX.out.1 HZX.out.1 HTT.out.1
      rw [HZE.out.1, HZE.out.2] at HFA
      refine HFA.mono ?_
      clear HFA
      rintro e w1 ⟨rfl, hb1⟩
      have HWw1 := Lib.hid (HWX.out.trans (hb1.mono HWX.out.size))
      clear hb1 f0 f1 f2 f15
      go_upto_region 11 with (refine wpList_store_row rfl 49 (.tmp 15) (.tmp 88) rfl w1.heap.size (seenC zf) rfl rfl 49 (seenC Seen.zero) (heap_alloc_new w1 _) info_seen rfl (seenC_one _) ?_)
      generalize hXw2 : (World.setRow (World.alloc w1 _) w1.heap.size (seenC zf)) = w2
      have hbw2 : Below w1.heap.size w1 w2 := by rw [← hXw2]; exact bel_row ((Below.refl _ _).alloc (Nat.le_refl _) _) _ _ (Nat.le_refl _)
      have hzw2 : Da.Blk w2 w1.heap.size 49 (seenC zf) := by rw [← hXw2]; exact setRow_heap _ _ (seenC Seen.zero) _ _ _ (heap_alloc_new w1 _)
      have HYw2 := Lib.hid hzw2
      have HWw2 := Lib.hid (HWw1.out.trans (hbw2.mono HWw1.out.size))
      clear hXw2 hbw2 hzw2
      have f1 : w2.cell? ⟨w.heap.size, 1, none⟩ = some (.int .i64 o.s) := (HWw2.out.cell (p := ⟨w.heap.size, 1, none⟩) HZX.out.2).trans ((HBX.out.cell 1).trans rfl)
      have f2 : w2.cell? ⟨w.heap.size, 2, none⟩ = some (.int .i64 o.t) := (HWw2.out.cell (p := ⟨w.heap.size, 2, none⟩) HZX.out.2).trans ((HBX.out.cell 2).trans rfl)
      have HBw2 := Lib.hid (show Da.Blk w2 w.heap.size 35 (opL o x y).toArray from (HWw2.out.block _ HZX.out.2).trans HBX.out)
      go_wp2_with (refine load_list (.tmp 94) 33 w.heap.size 3 (sixL o.id x) _ rfl rfl rfl (at_id HBw2.out) Try.underlying33 rfl info_dt6 ?_)
      have HFA := rfind_any rb T R HOK.out _ o.id rfl o.s _ w2 ((HIX.out.1.below (HWw2.out.mono HZX.out.1)).more (fun k hk => Nat.lt_of_lt_of_le hk (Nat.le_trans HZX.out.1 HWw2.out.size))) (HTT.out.2.bel HWw2.out)
      rw [HZE.out.1, HZE.out.2] at HFA
      refine HFA.mono ?_
      clear HFA
      rintro e w3 ⟨rfl, hb3⟩
      have HWw3 := Lib.hid (HWw2.out.trans (hb3.mono HWw2.out.size))
      have HYw3 := Lib.hid (show Da.Blk w3 w1.heap.size 49 (seenC zf) from (hb3.block _ (Array.getElem?_eq_some_iff.1 HYw2.out).1).trans HYw2.out)
      clear hb3 f1 f2
      go_upto_region 12 with (refine wpList_store_row rfl 49 (.tmp 17) (.tmp 97) rfl w3.heap.size (seenC zf) rfl rfl 49 (seenC Seen.zero) (heap_alloc_new w3 _) info_seen rfl (seenC_one _) ?_)
      generalize hXw4 : (World.setRow (World.alloc w3 _) w3.heap.size (seenC zf)) = w4
      have hbw4 : Below w3.heap.size w3 w4 := by rw [← hXw4]; exact bel_row ((Below.refl _ _).alloc (Nat.le_refl _) _) _ _ (Nat.le_refl _)
      have hzw4 : Da.Blk w4 w3.heap.size 49 (seenC zf) := by rw [← hXw4]; exact setRow_heap _ _ (seenC Seen.zero) _ _ _ (heap_alloc_new w3 _)
      have HVw4 := Lib.hid hzw4
      have HWw4 := Lib.hid (HWw3.out.trans (hbw4.mono HWw3.out.size))
      have HYw4 := Lib.hid (show Da.Blk w4 w1.heap.size 49 (seenC zf) from (hbw4.block _ (Array.getElem?_eq_some_iff.1 HYw3.out).1).trans HYw3.out)
      clear hXw4 hbw4 hzw4
      have f1 : w4.cell? ⟨w.heap.size, 1, none⟩ = some (.int .i64 o.s) := (HWw4.out.cell (p := ⟨w.heap.size, 1, none⟩) HZX.out.2).trans ((HBX.out.cell 1).trans rfl)
      have f2 : w4.cell? ⟨w.heap.size, 2, none⟩ = some (.int .i64 o.t) := (HWw4.out.cell (p := ⟨w.heap.size, 2, none⟩) HZX.out.2).trans ((HBX.out.cell 2).trans rfl)
      have HBw4 := Lib.hid (show Da.Blk w4 w.heap.size 35 (opL o x y).toArray from (HWw4.out.block _ HZX.out.2).trans HBX.out)
      obtain ⟨sb, hsb⟩ : ∃ sb, sameB (findZ T o.s o.id) (findZ T o.t o.nd) (findE T o.s o.id) (findE T o.t o.nd) = sb := ⟨_, rfl⟩
      obtain ⟨se, hse⟩ : ∃ se, sameE (findE T o.s o.id) (findE T o.t o.nd) = se := ⟨_, rfl⟩
      have HSE := Lib.hid (And.intro hsb hse)
      clear hsb hse
      go_wp2_with (first | (refine load_list (.tmp 103) 33 w.heap.size 3 (sixL o.id x) _ rfl rfl rfl (at_id HBw4.out) Try.underlying33 rfl info_dt6 ?_) | (refine load_list (.tmp 107) 33 w.heap.size 9 (sixL o.nd y) _ rfl rfl rfl (at_nd HBw4.out) Try.underlying33 rfl info_dt6 ?_))
      have HFA := same_all tb T O o.s o.t o.id o.nd _ _ B w4 (Nat.le_trans HZX.out.1 HWw4.out.size) (HIX.out.1.below (HWw4.out.mono HZX.out.1)) (HIX.out.2.below (HWw4.out.mono HZX.out.1)) (HTT.out.1.bel HWw4.out)
      rw [HSE.out.1, HSE.out.2] at HFA
      refine HFA.mono ?_
      clear HFA
      rintro e w5 ⟨rfl, hb5⟩
      have HWw5 := Lib.hid (HWw4.out.trans (hb5.mono HWw4.out.size))
      have HYw5 := Lib.hid (show Da.Blk w5 w1.heap.size 49 (seenC zf) from (hb5.block _ (Array.getElem?_eq_some_iff.1 HYw4.out).1).trans HYw4.out)
      have HVw5 := Lib.hid (show Da.Blk w5 w3.heap.size 49 (seenC zf) from (hb5.block _ (Array.getElem?_eq_some_iff.1 HVw4.out).1).trans HVw4.out)
      clear hb5 f1 f2
      have f1 : w5.cell? ⟨w.heap.size, 1, none⟩ = some (.int .i64 o.s) := (HWw5.out.cell (p := ⟨w.heap.size, 1, none⟩) HZX.out.2).trans ((HBX.out.cell 1).trans rfl)
      have f2 : w5.cell? ⟨w.heap.size, 2, none⟩ = some (.int .i64 o.t) := (HWw5.out.cell (p := ⟨w.heap.size, 2, none⟩) HZX.out.2).trans ((HBX.out.cell 2).trans rfl)
      have HBw5 := Lib.hid (show Da.Blk w5 w.heap.size 35 (opL o x y).toArray from (HWw5.out.block _ HZX.out.2).trans HBX.out)
      go_wp2_with (first | (refine load_list (.tmp 116) 33 w.heap.size 3 (sixL o.id x) _ rfl rfl rfl (at_id HBw5.out) Try.underlying33 rfl info_dt6 ?_) | (refine load_list (.tmp 120) 33 w.heap.size 9 (sixL o.nd y) _ rfl rfl rfl (at_nd HBw5.out) Try.underlying33 rfl info_dt6 ?_))
      have HFA := rsame_all rb T R HOK.out o.s o.t o.id o.nd _ _ B w5 (Nat.le_trans HZX.out.1 HWw5.out.size) (HIX.out.1.below (HWw5.out.mono HZX.out.1)) (HIX.out.2.below (HWw5.out.mono HZX.out.1)) (HTT.out.2.bel HWw5.out)
      rw [HSE.out.1, HSE.out.2] at HFA
      refine HFA.mono ?_
      clear HFA
      rintro e w6 ⟨rfl, hb6⟩
      have HWw6 := Lib.hid (HWw5.out.trans (hb6.mono HWw5.out.size))
      have HYw6 := Lib.hid (show Da.Blk w6 w1.heap.size 49 (seenC zf) from (hb6.block _ (Array.getElem?_eq_some_iff.1 HYw5.out).1).trans HYw5.out)
      have HVw6 := Lib.hid (show Da.Blk w6 w3.heap.size 49 (seenC zf) from (hb6.block _ (Array.getElem?_eq_some_iff.1 HVw5.out).1).trans HVw5.out)
      clear hb6 f1 f2
      have q0 : w6.cell? ⟨w1.heap.size, 0, none⟩ = some (.int .i64 (zf.scope : Int)) := (HYw6.out.cell 0).trans rfl
      have q1 : w6.cell? ⟨w1.heap.size, 1, none⟩ = some (.int .i64 zf.what) := (HYw6.out.cell 1).trans rfl
      have q2 : w6.cell? ⟨w1.heap.size, 2, none⟩ = some (.string ⟨zf.name.toArray⟩) := (HYw6.out.cell 2).trans rfl
      have p0 : w6.cell? ⟨w3.heap.size, 0, none⟩ = some (.int .i64 (zf.scope : Int)) := (HVw6.out.cell 0).trans rfl
      have p1 : w6.cell? ⟨w3.heap.size, 1, none⟩ = some (.int .i64 zf.what) := (HVw6.out.cell 1).trans rfl
      have p2 : w6.cell? ⟨w3.heap.size, 2, none⟩ = some (.string ⟨zf.name.toArray⟩) := (HVw6.out.cell 2).trans rfl
      have hes : ∀ w, (binOp BinOp.eql 49 (.agg #[.int .i64 (zf.scope : Int), .int .i64 zf.what, .string ⟨zf.name.toArray⟩]) (.agg #[.int .i64 (zf.scope : Int), .int .i64 zf.what, .string ⟨zf.name.toArray⟩])).run Try.prog w = .ok (.bool true) w := fun w => by have h := eq_seen zf zf w; rwa [(Seen.same_iff zf zf).2 rfl] at h
      have hgd : ∀ w, (eqGuard BinOp.eql 49 (.tmp 125) (.tmp 126) (.agg #[.int .i64 (zf.scope : Int), .int .i64 zf.what, .string ⟨zf.name.toArray⟩]) (.agg #[.int .i64 (zf.scope : Int), .int .i64 zf.what, .string ⟨zf.name.toArray⟩])).run Try.prog w = .ok () w := guard_seen _ _ _ zf zf
      have hsb2 : (sb == sb) = true := by cases sb <;> rfl
      go_wp2_with fail
      go_ret
      rw [HST.out]
      refine ⟨rfl, st_more (st_bel HSTX.out HWw6.out) (fun k hk => .inl hk), HCX.out.trans (Chg.of_below (fun k => ¬ (k < B ∨ k = b0)) HWw6.out) (fun _ h => .inl h)⟩
end Go.Proofs.Ytapnighankepjaa.Sc
end
section
namespace Go.Proofs.Ytapnighankepjaa.Sc
open Go.ChangeShapes Go.WideShapes Go.ChangeAt Go.RowKit
set_option linter.unusedVariables false
set_option linter.unusedSimpArgs false

theorem symT_new : SymT Tab.new := fun i h0 h1 => by
  have : i < 1 := h1
  omega
theorem symT_step {T : Tab} (h : SymT T) (o : Opn) : SymT (stepT T o) := by
  unfold stepT
  split
  · unfold extT
    split
    · next he =>
      have hy : IsSym o.id := by
        unfold extE at he
        by_cases h1 : chkE T.rows.length o.s ≠ 0
        · rw [if_pos h1] at he; exact absurd he h1
        · rw [if_neg h1] at he
          by_cases h2 : IsSym o.id
          · exact h2
          · rw [if_pos h2] at he; exact absurd he (by decide)
      intro i h0 hi
      by_cases hl : i < T.rows.length
      · rw [(ext_old hl).1]; exact h i h0 hl
      · have hrl : (T.ext o.s.toNat (idn o.id) o.n).rows.length = T.rows.length + 1 := by unfold Tab.ext; simp
        have : i = T.rows.length := by omega
        rw [this, ext_new.1, sym_dtI hy]
        exact hy
    · exact h
  · split
    · unfold markT
      split
      · exact h
      · exact h
    · exact h
theorem st_clone {B : Nat} {w6 : World} {tb rb : Nat} {T : Tab} (hB : B ≤ w6.heap.size) (h : ST (fun k => k < B) w6 tb T rb T) :
    ∃ O : Nat → Prop, TabIn w6 tb T O ∧ ∀ (w7 w8 w9 w10 : World) (tb' : Nat), TabIn w7 tb' T (fun k => w6.heap.size ≤ k) → Below w6.heap.size w6 w7 → Below w7.heap.size w7 w8 → Chg O w8 w9 → Chg (fun k => O k ∨ w8.heap.size ≤ k) w9 w10 → ST (fun k => k < B) w10 tb' T rb T ∧ Below B w6 w10 := by
  obtain ⟨O, R, h1, h2, h3, h4, h5⟩ := h
  refine ⟨fun k => O k ∧ k < w6.heap.size, h1.in_, fun w7 w8 w9 w10 tb' k1 hb7 hb8 hc9 hc10 => ⟨⟨_, _, ((k1.in_.bel hb8).chg hc9 fun k hk ho => ?_).chg hc10 fun k hk ho => ?_, (((h2.in_.bel hb7).bel (hb8.mono (Nat.le_refl _))).chg hc9 fun k hk ho => ?_).chg hc10 fun k hk ho => ?_, fun k ho hr => ?_, fun k ho hav => ?_, fun k hr hav => ?_⟩, ?_⟩⟩
  · have := hk.1; have := ho.2; omega
  · have := hk.1; have := hk.2; have := hb8.size
    rcases ho with ho | ho
    · have := ho.2; omega
    · omega
  · exact h3 k ho.1 hk.1
  · have := hk.2; have := hb7.size; have := hb8.size
    rcases ho with ho | ho
    · exact h3 k ho.1 hk.1
    · omega
  · have := ho.1; have := hr.2; omega
  · have := ho.1; have : k < B := hav; omega
  · exact h5 k hr.1 hav
  · have s7 := hb7.size
    have s8 := hb8.size
    exact ((hb7.mono hB).trans (hb8.mono (by omega))).trans ((hc9.to_below (by omega) (fun k ho => by have := h4 k ho.1; omega)).trans (hc10.to_below (by have := hc9.size; omega) (fun k ho => by
      rcases ho with ho | ho
      · have := h4 k ho.1; omega
      · omega)))
theorem st_box2 {Av : Nat → Prop} {w W : World} {tb rb : Nat} {T1 T2 : Tab} (h : ST Av w tb T1 rb T2) (hb : Below w.heap.size w W) : ST (fun k => Av k ∨ k = w.heap.size) W tb T1 rb T2 := by
  obtain ⟨O, R, h1, h2, h3, h4, h5⟩ := h
  refine ⟨_, _, h1.in_.bel hb, h2.in_.bel hb, fun k ho hr => h3 k ho.1 hr.1, fun k ho hav => ?_, fun k hr hav => ?_⟩
  · rcases hav with hav | hav
    · exact h4 k ho.1 hav
    · have := ho.2; omega
  · rcases hav with hav | hav
    · exact h5 k hr.1 hav
    · have := hr.2; omega
def ScRound (w : World) (wB : World) (l : List Opn) (m rb : Nat) (v i : Value) (wr : World) : Prop :=
  ∃ k tb : Nat, k ≤ m ∧ v = .pointer (some ⟨tb, 0, none⟩) ∧ i = .int .i64 (k : Int) ∧ ST (fun k => k < w.heap.size) wr tb (actsT Tab.new (l.take k)) rb (actsT Tab.new (l.take k)) ∧ Below w.heap.size w wr ∧ Hid (SymT (actsT Tab.new (l.take k)))
set_option maxRecDepth 100000 in
set_option maxHeartbeats 16000000 in
theorem does_walk (l : List Opn) (a : Option Addr) (c : Nat) (w : World) (hc : l.length ≤ c) (hcm : c ≤ maxLen) (ho : IsOps w (Da.Lo w.heap.size) a l) :
    Calls Try.prog 3 #[.slice a l.length c] w fun e w' => e = .returned (.bool true) ∧ Below w.heap.size w w' := by
  obtain ⟨m, hm⟩ : ∃ m, min l.length 60 = m := ⟨_, rfl⟩
  have hm60 : m ≤ 60 := by omega
  have hml : m ≤ l.length := by omega
  have HM := Lib.hid hm
  have HO := Lib.hid ho
  have HSM : Hid (Calls Try.prog 5 #[.slice a l.length c] w (SmallIs l a l.length c w)) := Lib.hid (small_any l a c w.heap.size w hc hcm (Nat.le_refl _) ho)
  clear ho hm hc hcm
  go_enter Try.func3, Try.ntmps3
  go_wp2_with fail
  refine HSM.out.mono ?_
  intro e w1 he
  obtain ⟨hb1, s1, b, rfl, hs1⟩ := he.form
  have HS1 := Lib.hid hs1
  have HB1 := Lib.hid hb1
  clear he hb1 hs1
  go_wp2_with fail
  refine (new_any w1).mono ?_
  rintro e w2 ⟨rfl, h2, hb2⟩
  obtain ⟨tb, htb⟩ : ∃ tb, w1.heap.size + 2 = tb := ⟨_, rfl⟩
  rw [htb] at h2 ⊢
  have H2 := Lib.hid h2
  have HB2 := Lib.hid (HB1.out.trans (hb2.mono HB1.out.size))
  clear h2 hb2 htb
  go_wp2_with fail
  refine (rnew_any w2).mono ?_
  rintro e w3 ⟨rfl, h3, hb3⟩
  obtain ⟨rb, hrb⟩ : ∃ rb, w2.heap.size + 1 = rb := ⟨_, rfl⟩
  rw [hrb] at h3 ⊢
  have HB3 := Lib.hid (HB2.out.trans (hb3.mono HB2.out.size))
  have HST3 : Hid (ST (fun k => k < w.heap.size) w3 tb Tab.new rb Tab.new) := Lib.hid ⟨_, _, H2.out.in_.bel hb3, h3, fun k ho hr => by have := ho.2; omega, fun k ho hav => by have h1 := HB1.out.size; have h2 := ho.1; have : k < w.heap.size := hav; omega, fun k hr hav => by have h1 := HB2.out.size; have h2 : w2.heap.size ≤ k := hr; have : k < w.heap.size := hav; omega⟩
  clear h3 hb3 hrb
  go_wp2_with fail
  refine (awake_any w3).mono ?_
  rintro e w4 ⟨rfl, hb4⟩
  have HB4 := Lib.hid (HB3.out.trans (hb4.mono HB3.out.size))
  have HST4 := Lib.hid (st_bel HST3.out hb4)
  clear hb4
  cases b with
  | false =>
    go_wp2_with fail
    refine (awake_any w4).mono ?_
    rintro e w5 ⟨rfl, hb5⟩
    have HB5 := Lib.hid (HB4.out.trans (hb5.mono HB4.out.size))
    clear hb5
    go_wp2_with fail
    go_ret
    exact ⟨rfl, HB5.out⟩
  | true =>
  obtain rfl := HS1.out rfl
  rw [HM.out]
  go_wp2_with fail
  go_loopw [5, 30] (fun v i wr => ScRound w w l m rb v i wr) (fun _ i _ => m - (intOf i).toNat)
  case atStart => exact ⟨0, tb, Nat.zero_le _, rfl, rfl, HST4.out, HB4.out, Lib.hid symT_new⟩
  case round =>
    obtain ⟨k, tk, hk, rfl, rfl, hst, hbel, hsym⟩ := hrel
    have HBL := Lib.hid hbel
    have HT := Lib.hid hst
    by_cases hlk : k < m
    · have dl : decide ((k : Int) < (m : Int)) = true := decide_eq_true (by omega)
      have i0 : (0 : Int) ≤ (k : Int) := Int.natCast_nonneg _
      have i1 : (k : Int) < (m : Int) := by omega
      obtain ⟨o, ho⟩ : ∃ o, l[k]? = some o := ⟨l[k]'(by omega), List.getElem?_eq_getElem _⟩
      obtain ⟨g, off, rfl, hg, x, y, hat, hid, hnd, hwn⟩ := (HO.out.below hbel) k o ho
      have HAT := Lib.hid hat
      have HID := Lib.hid (And.intro hid hnd)
      have HWN := Lib.hid hwn
      have HSTEP := Lib.hid (actsT_take (T := Tab.new) ho)
      have HSZR := Lib.hid hbel.size
      clear hat hid hnd hwn ho hbel hst
      go_upto_region 9 with (first | (refine load_list (.tmp 32) 35 g (off + k * 16) (opL o x y) _ rfl rfl rfl HAT.out Try.underlying35 rfl info_op ?_) | (refine wpList_store_row rfl 35 (.tmp 8) (.tmp 33) rfl wr.heap.size (opL o x y).toArray rfl rfl 35 opZ (heap_alloc_new wr _) info_op rfl (opL_one _ _ _) ?_))
      generalize hX4 : (World.setRow (World.alloc wr _) wr.heap.size (opL o x y).toArray) = W4
      have hb4 : Below wr.heap.size wr W4 := by rw [← hX4]; exact bel_row ((Below.refl _ _).alloc (Nat.le_refl _) _) _ _ (Nat.le_refl _)
      have hz4 : Da.Blk W4 wr.heap.size 35 (opL o x y).toArray := by rw [← hX4]; exact setRow_heap _ _ opZ _ _ _ (heap_alloc_new wr _)
      have hlt4 : wr.heap.size < W4.heap.size := (Array.getElem?_eq_some_iff.1 hz4).1
      have hs4 : w.heap.size ≤ W4.heap.size := Nat.le_trans HSZR.out hb4.size
      have HT4 := Lib.hid (st_box2 HT.out hb4)
      have HB4' := Lib.hid (HBL.out.trans (hb4.mono HSZR.out))
      have HID4 := Lib.hid (And.intro (HID.out.1.below (hb4.mono HSZR.out)) (HID.out.2.below (hb4.mono HSZR.out)))
      have HZ4 := Lib.hid hz4
      have HS4 := Lib.hid (And.intro hs4 hlt4)
      obtain ⟨bx, hbx⟩ : ∃ bx, wr.heap.size = bx := ⟨_, rfl⟩
      rw [hbx] at HT4 HZ4 HS4 ⊢
      have HBX := Lib.hid (show w.heap.size ≤ bx by rw [← hbx]; exact HSZR.out)
      clear hX4 hb4 hz4 hlt4 hs4 hbx
      obtain ⟨Tk, hTk⟩ : ∃ Tk, actsT Tab.new (l.take k) = Tk := ⟨_, rfl⟩
      rw [hTk] at HT4 HSTEP hsym
      clear hTk
      go_wp2_with (refine load_list (.tmp 8) 35 bx 0 (opL o x y) _ rfl rfl rfl (Ld.At.of_blk HZ4.out) Try.underlying35 rfl info_op ?_)
      refine (does_any w.heap.size bx tk rb Tk o x y W4 HS4.out.1 HS4.out.2 HT4.out HID4.out.1 HID4.out.2 HWN.out).mono ?_
      rintro e w5 ⟨rfl, hst5, hc5⟩
      have HST5 := Lib.hid hst5
      have hb5 : Below w.heap.size W4 w5 := hc5.to_below HS4.out.1 (fun j hj => by by_cases h : j < w.heap.size; exact absurd (.inl h) hj; omega)
      have HB5 := Lib.hid (HB4'.out.trans hb5)
      have hz5 : Da.Blk w5 bx 35 (opL o x y).toArray := (hc5.block _ HS4.out.2 (fun h => h (.inr rfl))).trans HZ4.out
      have HZ5 := Lib.hid hz5
      have HS5 : Hid (w.heap.size ≤ w5.heap.size ∧ bx < w5.heap.size) := Lib.hid ⟨Nat.le_trans HS4.out.1 hc5.size, Nat.lt_of_lt_of_le HS4.out.2 hc5.size⟩
      have HSY := Lib.hid (symT_step hsym.out o)
      clear hst5 hb5 hc5 hz5 hsym
      obtain ⟨T5, hT5⟩ : ∃ T5, stepT Tk o = T5 := ⟨_, rfl⟩
      rw [hT5] at HST5 HSY HSTEP
      clear hT5
      have f1 : w5.cell? ⟨bx, 1, none⟩ = some (.int .i64 o.s) := (HZ5.out.cell 1).trans rfl
      have HNM : Hid (Calls Try.prog 10 #[.pointer (some ⟨tk, 0, none⟩), .pointer (some ⟨rb, 0, none⟩), .int .i64 o.s] w5 fun e w' => e = .returned (.bool true) ∧ Below w5.heap.size w5 w') := Lib.hid (by
        obtain ⟨O, R, h1, h2, _⟩ := HST5.out
        exact lnames_any tk rb T5 O R o.s w5 HSY.out h1 h2)
      go_wp2_with fail
      refine HNM.out.mono ?_
      rintro e w6 ⟨rfl, hb6⟩
      clear HNM f1
      have HST6 := Lib.hid (st_more (Av' := fun k => k < w.heap.size) (st_bel HST5.out hb6) (fun k hk => .inl hk))
      have HB6 := Lib.hid (HB5.out.trans (hb6.mono HS5.out.1))
      have hz6 : Da.Blk w6 bx 35 (opL o x y).toArray := (hb6.block _ HS5.out.2).trans HZ5.out
      have HS6 : Hid (w.heap.size ≤ w6.heap.size) := Lib.hid (Nat.le_trans HS5.out.1 hb6.size)
      clear hb6
      have f0 : w6.cell? ⟨bx, 0, none⟩ = some (.int .i64 o.k) := (hz6.cell 0).trans rfl
      clear hz6
      by_cases hk3 : o.k = 3
      · have d3 : (o.k == 3) = true := by rw [hk3]; rfl
        clear hk3
        obtain ⟨O6, h6, hfin⟩ := st_clone HS6.out HST6.out
        have H6 := Lib.hid h6
        have HF := Lib.hid hfin
        clear h6 hfin
        go_wp2_with fail
        refine (tclone_any tk T5 O6 w6 H6.out).mono ?_
        rintro e w7 ⟨tn, rfl, h7, hb7⟩
        have H7 := Lib.hid (And.intro h7 hb7)
        have HO7 := Lib.hid (H6.out.bel hb7)
        clear h7 hb7
        go_wp2_with fail
        refine (sym_any ⟨#[122]⟩ none 0 0 w7).mono ?_
        rintro e w8 ⟨rfl, hb8⟩
        have H8 := Lib.hid hb8
        have HO8 := Lib.hid (HO7.out.bel hb8)
        clear hb8
        go_wp2_with fail
        refine (ext_all tk T5 O6 0 3 (.mk 5 0 ⟨#[122]⟩ [] [] []) _ w8.heap.size w8 (dt_sym (by decide) (row_nil _ _)) (Nat.le_refl _) HO8.out (by decide)).mono ?_
        rintro e w9 ⟨rfl, h9, hc9⟩
        have HO9 := Lib.hid h9
        have HC9 := Lib.hid hc9
        clear h9 hc9
        generalize extN T5 0 (.mk 5 0 ⟨#[122]⟩ [] [] []) = nn
        generalize extE T5 0 (.mk 5 0 ⟨#[122]⟩ [] [] []) = ee
        go_wp2_with fail
        refine (mark_all tk _ _ 0 w9 HO9.out).mono ?_
        rintro e w10 ⟨rfl, h10, hc10⟩
        have HF10 := Lib.hid (HF.out w7 w8 w9 w10 tn H7.out.1 H7.out.2 H8.out HC9.out hc10)
        have HB10 := Lib.hid (HB6.out.trans HF10.out.2)
        clear h10 hc10
        generalize markN _ 0 = n2
        generalize markE _ 0 = e2
        go_wp2_with fail
        go_roundw
        case rel => exact ⟨k + 1, tn, by omega, rfl, by go_num, by rw [HSTEP.out]; exact HF10.out.1, HB10.out, by rw [HSTEP.out]; exact HSY⟩
        case measure => simp [intOf]; omega
      · have d3 : (o.k == 3) = false := beq_eq_false_iff_ne.2 hk3
        clear hk3
        go_wp2_with fail
        go_roundw
        case rel => exact ⟨k + 1, tk, by omega, rfl, by go_num, by rw [HSTEP.out]; exact HST6.out, HB6.out, by rw [HSTEP.out]; exact HSY⟩
        case measure => simp [intOf]; omega
    · have dl : decide ((k : Int) < (m : Int)) = false := decide_eq_false (by omega)
      obtain ⟨Tk, hTk⟩ : ∃ Tk, actsT Tab.new (l.take k) = Tk := ⟨_, rfl⟩
      rw [hTk] at HT hsym
      have HSY := Lib.hid hsym.out
      clear hst hbel hsym hTk
      obtain ⟨O, R, h1, h2, _⟩ := HT.out
      have hpos := h1.ok.pos
      have hfew := h1.ok.few
      have H1 := Lib.hid h1
      have H2 := Lib.hid h2
      obtain ⟨lv, mv, cs, Q, h3, _⟩ := h2
      obtain ⟨ra, rc, rfl⟩ := slice_of h3.rows
      have q0 : wr.cell? ⟨rb, 0, none⟩ = some (.slice ra Tk.rows.length rc) := (h3.blk.cell 0).trans rfl
      clear h1 h3
      generalize hn : Tk.rows.length = n at q0 hpos hfew
      clear hn
      go_wp2_with fail
      refine (lnames_any tk rb Tk O R ((n : Int) - 1) wr HSY.out H1.out H2.out).mono ?_
      rintro e w2 ⟨rfl, hb2⟩
      have HB2 := Lib.hid (HBL.out.trans (hb2.mono HBL.out.size))
      clear hb2 q0
      go_wp2_with fail
      go_ret
      exact ⟨rfl, HB2.out⟩
end Go.Proofs.Ytapnighankepjaa.Sc
end
