/- A scope, its parent, and so on: the program's iterator (layer 5). -/
import Derived.Test.YteolfkkabhileaaM0
import Derived.Test.YteolfkkabhileaaMScCheck
section
namespace Go.Proofs.Yteolfkkabhileaa.Sc
open Go.ChangeShapes Go.WideShapes Go.ChangeAt Go.RowKit
set_option linter.unusedVariables false
set_option linter.unusedSimpArgs false

/-- What the iterator reads of the scopes: the slice in its box, each scope's parent. -/
def Reads (T : Tab) (rb B : Nat) (W : World) : Prop :=
  ∃ g c, (rb < B ∧ g < B) ∧ W.cell? ⟨rb, 0, none⟩ = some (.slice (some ⟨g, 0, none⟩) T.rows.length c) ∧ ∀ k, k < T.rows.length → W.cell? ⟨g, k * 19, none⟩ = some (.int .i64 (T.par k : Int))
theorem out_any (a : Option Addr) (n c : Nat) (s : Int) (w : World) :
    Calls Try.prog 42 #[.slice a n c, .int .i64 s] w fun e w' => e = .returned (.func (.func 52) #[] #[.pointer (some ⟨w.heap.size + 1, 0, none⟩), .pointer (some ⟨w.heap.size, 0, none⟩)]) ∧ w' = (w.alloc (.cells #[.slice a n c] 70)).alloc (.cells #[.int .i64 s] 3) := by
  go_enter Try.func42, Try.ntmps42
  go_wp2_with fail
  go_ret
  exact ⟨rfl, rfl⟩
set_option maxRecDepth 100000 in
set_option maxHeartbeats 4000000 in
theorem out1_in (n l rb B sb : Nat) (hn : 1 ≤ n) (T : Tab) (hT : T.Ok) (s : Nat) (hs : s < T.rows.length) (J Jx : List Nat → World → Prop) (W : World)
    (hY : ∀ (pre : List Nat) (x : Nat) (W1 : World), J pre W1 → pre.length < (T.chain s).length → 0 < x ∧ x < T.rows.length → YieldAt Fence.wide (n - 1) Try.prog l #[.int .i64 (x : Int)] W1 fun e W' => (e = .returned (.bool true) ∧ J (pre ++ [x]) W' ∧ (Reads T rb B W1 → Reads T rb B W')) ∨ (e = .returned (.bool false) ∧ Jx (pre ++ [x]) W'))
    (hR : Reads T rb B W) (hS : W.cell? ⟨sb, 0, none⟩ = some (.int .i64 (s : Int))) (h0 : J [] W) :
    CallsIn Fence.wide n Try.prog 52 #[.func (.yield l) #[] #[], .pointer (some ⟨sb, 0, none⟩), .pointer (some ⟨rb, 0, none⟩)] W fun e W' => (∃ v, e = .returned v) ∧ ((∃ ys, ys = T.chain s ∧ J ys W') ∨ (∃ pre, pre <+: T.chain s ∧ Jx pre W')) := by
  have HY := Lib.hid hY
  have H0 := Lib.hid h0
  have HR := Lib.hid hR
  have HT := Lib.hid hT
  have HS := Lib.hid hs
  have hfew := hT.few
  clear hY h0 hR hT hs
  refine callsIn_of_wp Try.func52 rfl trivial ?_ rfl
  simp only [Try.ntmps52, List.size_toArray, List.length_cons, List.length_nil, Nat.reduceAdd, Nat.reduceSub, Array.replicate_succ, Array.replicate_zero, List.push_toArray, List.append_toArray, List.nil_append, List.cons_append]
  gi_wp2_with fail
  gi_loopw [4] (fun i wr => ∃ (pre : List Nat) (cur : Nat), Hid (T.chain s = pre ++ T.chain cur) ∧ i = .int .i64 (cur : Int) ∧ cur < T.rows.length ∧ J pre wr ∧ Reads T rb B wr) (fun i _ => (intOf i).toNat)
  case atStart => exact ⟨[], s, Lib.hid rfl, rfl, HS.out, H0.out, HR.out⟩
  case round =>
    obtain ⟨pre, cur, hch, rfl, hcl, hj, hrd⟩ := hrel
    have HJ := Lib.hid hj
    clear hj
    by_cases hz : cur = 0
    · have dz : ((cur : Int) != 0) = false := by subst hz; rfl
      have hfull : T.chain s = pre := by rw [hch.out, hz, chain_zero, List.append_nil]
      have HF := Lib.hid hfull
      clear hfull hz
      gi_wp2_with fail
      go_end0
      exact ⟨⟨_, rfl⟩, .inl ⟨_, rfl, by rw [HF.out]; exact HJ.out⟩⟩
    · have dz : ((cur : Int) != 0) = true := by simp; omega
      have hc2 : T.chain s = (pre ++ [cur]) ++ T.chain (T.par cur) := by rw [hch.out, chain_step HT.out hz, List.append_assoc]; rfl
      have hpl : pre.length < (T.chain s).length := by rw [hc2, List.length_append, List.length_append]; simp; omega
      have hy1 := HY.out pre cur wr HJ.out hpl ⟨by omega, hcl⟩
      have hpr : pre ++ [cur] <+: T.chain s := ⟨_, hc2.symm⟩
      have hpar := HT.out.par' cur (by omega)
      have HC2 := Lib.hid hc2
      have HPR := Lib.hid hpr
      have HRD := Lib.hid hrd
      clear hc2 hpl hpr hrd hz
      obtain ⟨fn, tmps, assign, body, hy, hR⟩ := hy1
      gi_wp2_with fail
      refine hR.mono ?_
      rintro e3 W3 (⟨rfl, hJ3, hk3⟩ | ⟨rfl, hJx3⟩)
      · have HJ3 := Lib.hid hJ3
        obtain ⟨g, c, hgb, cr, cp⟩ := hk3 HRD.out
        have HR3 : Hid (Reads T rb B W3) := Lib.hid ⟨g, c, hgb, cr, cp⟩
        have cpk := cp cur hcl
        have i0 : (0 : Int) ≤ (cur : Int) := Int.natCast_nonneg _
        have i1 : (cur : Int) < (T.rows.length : Int) := by omega
        clear hJ3 hk3 hR hy cp hgb
        gi_wp2_with fail
        go_roundw
        case rel => exact ⟨pre ++ [cur], T.par cur, HC2, rfl, by omega, HJ3.out, HR3.out⟩
        case measure => simp [intOf]; omega
      · have HX3 := Lib.hid hJx3
        clear hJx3 hR hy
        gi_wp2_with fail
        refine bodyPost_ret (results_none rfl _ _ _) rfl ?_
        exact ⟨⟨_, rfl⟩, .inr ⟨_, HPR.out, HX3.out⟩⟩
/-- A scope that is not the outermost one. -/
abbrev Sco (T : Tab) : Type := { y : Nat // 0 < y ∧ y < T.rows.length }
theorem out_stops (n rb B sb : Nat) (hn : 1 ≤ n) (T : Tab) (hT : T.Ok) (s : Nat) (hs : s < T.rows.length) (w : World) (Kp : World → World → Prop) (hKp : ∀ W W', Kp W W' → Reads T rb B W → Reads T rb B W')
    (hR : ∀ W, Below w.heap.size w W → Reads T rb B W) (hS : w.cell? ⟨sb, 0, none⟩ = some (.int .i64 (s : Int))) (hsb : sb < w.heap.size) :
    SeqStopsK Fence.wide n Try.prog 52 #[.pointer (some ⟨sb, 0, none⟩), .pointer (some ⟨rb, 0, none⟩)] (fun x : Sco T => #[.int .i64 (x.1 : Int)]) Kp (fun ys => ys.map (·.1) = T.chain s) (fun pre => pre.map (·.1) <+: T.chain s) (T.chain s).length w := fun l J Jx W hW _ _ hY h0 =>
  (out1_in n l rb B sb hn T hT s hs (fun q W => ∃ pre : List (Sco T), pre.map (·.1) = q ∧ J pre W) (fun q W => ∃ pre : List (Sco T), pre.map (·.1) = q ∧ Jx pre W) W (fun q x W1 h1 h2 hx => by
    obtain ⟨pre, rfl, h1⟩ := h1
    obtain ⟨fn, tmps, assign, body, hy, hR⟩ := hY pre ⟨x, hx⟩ W1 h1 (by rwa [List.length_map] at h2)
    refine ⟨fn, tmps, assign, body, hy, hR.mono ?_⟩
    rintro e W' (⟨h3, h4, h5⟩ | ⟨h3, h4⟩)
    · exact .inl ⟨h3, ⟨_, by simp, h4⟩, hKp _ _ h5⟩
    · exact .inr ⟨h3, ⟨_, by simp, h4⟩⟩) (hR W hW) ((hW.cell (p := ⟨sb, 0, none⟩) hsb).trans hS) ⟨[], rfl, h0⟩).mono (by
    rintro e W' ⟨hv, (⟨ys, rfl, pre, hp, hj⟩ | ⟨q, hq, pre, hp, hj⟩)⟩
    · exact ⟨hv, .inl ⟨pre, hp, hj⟩⟩
    · exact ⟨hv, .inr ⟨pre, by show _ <+: _; rw [hp]; exact hq, hj⟩⟩)
theorem Reads.bel {T : Tab} {rb B : Nat} {W W' : World} (h : Reads T rb B W) (hb : Below B W W') : Reads T rb B W' := by
  obtain ⟨g, c, ⟨h1, h2⟩, hc, hp⟩ := h
  exact ⟨g, c, ⟨h1, h2⟩, (hb.cell (p := ⟨rb, 0, none⟩) h1).trans hc, fun k hk => (hb.cell (p := ⟨g, k * 19, none⟩) h2).trans (hp k hk)⟩
end Go.Proofs.Yteolfkkabhileaa.Sc
end
