/- The document's copies of a datum: made, by the program text. -/
import Derived.Test.YtjmchodddobleaaDatMadeMath
namespace Go.Proofs.Ytjmchodddobleaa.Da
open Go.ChangeShapes Go.WideShapes Go.ChangeAt Go.RowKit
set_option maxRecDepth 100000

structure MadeSt (w W2 : World) : Prop where
  below : Below w.heap.size w W2
  size : w.heap.size + 3 ≤ W2.heap.size
theorem MadeSt.more {w W2 W3 : World} (h : MadeSt w W2) (hf : Fr (fun i => i = w.heap.size + 2) W2 W3) : MadeSt w W3 := ⟨h.below.trans (hf.below (by have := h.size; omega) (fun i hi hs => by omega)), by have := h.size; have := hf.size; omega⟩
theorem made_fin {mk : Bool} {d : Dt} {w W2 W3 W4 Wf : World} {ma la ta : Option Addr} {mc lc tc : Nat} (h2 : MadeSt w W2) (hm : IntRow W2 (Rg (w.heap.size + 3) W2.heap.size) ma (if mk = true then d.M else []).length mc (if mk = true then d.M else []))
    (hf3 : Fr (fun i => i = w.heap.size + 2) W2 W3) (hsl : IsSl la d.L.length lc) (hld : IsDts W3 (Rg W2.heap.size W3.heap.size) la 0 (d.L.map (madeD mk))) (hf4 : Fr (fun i => i = w.heap.size + 2) W3 W4) (hst : IsSl ta d.T.length tc) (htd : IsDts W4 (Rg W3.heap.size W4.heap.size) ta 0 (d.T.map (madeD mk)))
    (k1 : (Lit.int .i64 d.K).wf = true) (k2 : (Lit.int .i64 d.N).wf = true) (k3 : d.S.size ≤ maxLen) (hf : Fr (fun i => i = w.heap.size + 1) W4 Wf) :
    MadeR mk d w (.returned (.agg #[.int .i64 d.K, .int .i64 d.N, .string d.S, .slice ma (if mk = true then d.M else []).length mc, .slice la d.L.length lc, .slice ta d.T.length tc])) Wf := by
  have s2 := h2.size
  have s3 := hf3.size
  have s4 := hf4.size
  have sf := hf.size
  have h3 := h2.more hf3
  have h4 := h3.more hf4
  refine ⟨_, rfl, h4.below.trans (hf.below (by omega) (fun i hi hs => by omega)), ?_⟩
  rw [madeD_eq]
  simp only [IsDt, List.length_map]
  refine ⟨k1, k2, k3, ma, mc, la, lc, ta, tc, rfl, ?_, hsl, ?_, hst, ?_⟩
  · refine hm.keep (fun b hb => ⟨by have := hb.1; omega, by have := hb.2; omega⟩) (fun b o hb => ?_)
    have hb1 := hb.1
    have hb2 := hb.2
    exact (hf.cell (p := ⟨b, o, none⟩) (by show b < _; omega) (by show ¬ b = _; omega)).trans ((hf4.cell (p := ⟨b, o, none⟩) (by show b < _; omega) (by show ¬ b = _; omega)).trans (hf3.cell (p := ⟨b, o, none⟩) (by show b < _; omega) (by show ¬ b = _; omega)))
  · refine IsDts.keep (fun b hb => ⟨by have := hb.1; omega, by have := hb.2; omega⟩) (fun b o hb => ?_) _ _ _ hld
    have hb1 := hb.1
    have hb2 := hb.2
    exact (hf.cell (p := ⟨b, o, none⟩) (by show b < _; omega) (by show ¬ b = _; omega)).trans (hf4.cell (p := ⟨b, o, none⟩) (by show b < _; omega) (by show ¬ b = _; omega))
  · refine IsDts.keep (fun b hb => ⟨by have := hb.1; omega, by have := hb.2; omega⟩) (fun b o hb => ?_) _ _ _ htd
    have hb1 := hb.1
    have hb2 := hb.2
    exact hf.cell (p := ⟨b, o, none⟩) (by show b < _; omega) (by show ¬ b = _; omega)
theorem RowAt.start (mk : Bool) (W2 : World) (o f : Nat) (cs : Array Value) (l : List Dt) (h : Blk W2 o 25 (cs.setIfInBounds f (.slice none 0 0))) : MadeAt mk W2 o f cs l (.int .i64 0) W2 :=
  ⟨0, Nat.zero_le _, rfl, none, 0, [], Fr.refl _ _, h, World.ownsRow_nil _ _ _ _, RowIs.nil _ _⟩
set_option maxHeartbeats 4000000 in
theorem made_step (mk : Bool) (d : Dt) (ihL : ∀ x ∈ d.L, MadeIs mk x) (ihT : ∀ x ∈ d.T, MadeIs mk x) : MadeIs mk d := by
  intro v B w hd hBw
  have hd' := hd
  obtain ⟨am, cm, al, cl, at_, ct, rfl, wk, wn, ws, hm, hl, hls, ht, hts⟩ := hd'.open_
  have HD := Lib.hid hd
  have Hm := Lib.hid hm
  have Hls := Lib.hid hls
  have Hts := Lib.hid hts
  have IHL := Lib.hid ihL
  have IHT := Lib.hid ihT
  have Hl := Lib.hid hl
  have Ht := Lib.hid ht
  have hl1 : d.L.length * 104 ≤ 140737488351232 := hl.2.2.1
  have ht1 : d.T.length * 104 ≤ 140737488351232 := ht.2.2.1
  have hl2 : (d.L.length : Int) ≤ 17592186044416 := by omega
  have ht2 : (d.T.length : Int) ≤ 17592186044416 := by omega
  clear hd hd' hm hls hts ihL ihT hl ht
  obtain ⟨hb0, hs0, hk0⟩ := start_allocs [(#[.int .i64 d.K, .int .i64 d.N, .string d.S, .slice am d.M.length cm, .slice al d.L.length cl, .slice at_ d.T.length ct], 25), (#[.int .i64 0, .int .i64 0, .string ⟨#[]⟩, .slice none 0 0, .slice none 0 0, .slice none 0 0], 25), (#[.int .i64 d.K, .int .i64 d.N, .string d.S, .slice none 0 0, .slice none 0 0, .slice none 0 0], 25)] w
  have g0 := hk0 0 _ rfl
  have g1 := hk0 1 _ rfl
  have g2 := hk0 2 _ rfl
  set_option linter.unusedSimpArgs false in
  simp only [allocs, List.foldl_cons, List.foldl_nil, Nat.add_zero, List.length_cons, List.length_nil, Nat.zero_add, Nat.reduceAdd] at hb0 hs0 g0 g1 g2
  clear hk0
  cases mk
  · have H0 := Lib.hid (And.intro hb0 (And.intro hs0 (And.intro g0 (And.intro g1 g2))))
    clear hb0 hs0 g0 g1 g2
    go_enter Try.func46, Try.ntmps46
    go_wp2_with fail
    obtain ⟨hb0, hs0, g0, g1, g2⟩ := H0.out
    clear H0
    generalize ((w.alloc (.cells #[.int .i64 d.K, .int .i64 d.N, .string d.S, .slice am d.M.length cm, .slice al d.L.length cl, .slice at_ d.T.length ct] 25)).alloc (.cells #[.int .i64 0, .int .i64 0, .string ⟨#[]⟩, .slice none 0 0, .slice none 0 0, .slice none 0 0] 25)).alloc (.cells #[.int .i64 d.K, .int .i64 d.N, .string d.S, .slice none 0 0, .slice none 0 0, .slice none 0 0] 25) = W2 at *
    have H2 := Lib.hid (show MadeSt w W2 from ⟨hb0, by omega⟩)
    have HQ := Lib.hid g0
    have HR0 := Lib.hid g1
    have HO := Lib.hid g2
    have HMR := Lib.hid (show IntRow W2 (Rg (w.heap.size + 3) W2.heap.size) none 0 0 (if false = true then d.M else []) from ⟨rfl, Nat.le_refl _, by simp [maxLen], by omega, fun _ => rfl, by simp, fun k hk => by omega⟩)
    clear hb0 hs0 g0 g1 g2
    go_loopw [6] (fun i wr => MadeAt false W2 (w.heap.size + 2) 4 #[.int .i64 d.K, .int .i64 d.N, .string d.S, .slice none 0 0, .slice none 0 0, .slice none 0 0] d.L i wr) (fun i _ => d.L.length - (intOf i).toNat)
    case atStart => exact RowAt.start _ _ _ _ _ _ HO.out
    case round =>
      obtain ⟨j, hj, rfl, pv, pc, xs, hf, hb, ho, hr⟩ := hrel
      have htl : (d.L.take j).length = j := by rw [List.length_take]; omega
      rw [htl] at hb ho
      have hsr := hf.size
      have pr : Blk wr w.heap.size 25 #[.int .i64 d.K, .int .i64 d.N, .string d.S, .slice am d.M.length cm, .slice al d.L.length cl, .slice at_ d.T.length ct] := (hf.block _ (by have := H2.out.size; omega) (by omega)).trans HQ.out
      have pr4 : wr.cell? ⟨w.heap.size, 4, none⟩ = some (.slice al d.L.length cl) := (pr.cell 4).trans rfl
      have or : wr.cell? ⟨w.heap.size + 2, 4, none⟩ = some (.slice pv j pc) := (hb.cell 4).trans rfl
      have orf : wr.frozen? ⟨w.heap.size + 2, 4, none⟩ = false := hb.frozen 4
      have hqr : w.heap.size + 2 < wr.heap.size := by have := H2.out.size; omega
      have hqr0 : w.heap.size < wr.heap.size := by omega
      have hbr : Below w.heap.size w wr := H2.out.below.trans (hf.below (by have := H2.out.size; omega) (fun i hi hs => by omega))
      have HR := Lib.hid (And.intro hf (And.intro hb (And.intro ho hr)))
      have Hbr := Lib.hid hbr
      have HTL := Lib.hid htl
      clear hf hb ho hr hbr pr htl
      by_cases hlj : j < d.L.length
      · have dl : decide ((j : Int) < (d.L.length : Int)) = true := by simp [hlj]
        obtain ⟨x, hx⟩ : ∃ x, d.L[j]? = some x := ⟨d.L[j], by simp [hlj]⟩
        obtain ⟨b', off, am2, cm2, al2, cl2, at2, ct2, rfl, hb', hsix, hix⟩ := Hls.out.at6 j x hx
        have hbw : b' < w.heap.size := Nat.lt_of_lt_of_le hb' hBw
        obtain ⟨c0, c1, c2, c3, c4, c5⟩ := hsix.keep (w' := wr) (fun o => Hbr.out.cell (p := ⟨b', o, none⟩) hbw)
        have k0 : (0 : Int) ≤ (j : Int) := Int.natCast_nonneg _
        have k1 : (j : Int) < (d.L.length : Int) := by omega
        have Hx := Lib.hid hx
        have Hix := Lib.hid (hix.below (Hbr.out.mono hBw))
        have hjm : j * 104 ≤ 140737488351232 := by omega
        clear hx hix hsix
        go_wp2_with fail
        refine Od.till_region 12 (fun w' : World => w'.cell? ⟨w.heap.size + 2, 4, none⟩ = some (.slice pv j pc)) (fun w' : World => w'.cell? ⟨w.heap.size, 4, none⟩ = some (.slice (some ⟨b', off, none⟩) d.L.length cl) ∧ w'.cell? ⟨b', off + j * 6, none⟩ = some (.int .i64 x.K) ∧ w'.cell? ⟨b', off + j * 6 + 1, none⟩ = some (.int .i64 x.N) ∧ w'.cell? ⟨b', off + j * 6 + 2, none⟩ = some (.string x.S) ∧ w'.cell? ⟨b', off + j * 6 + 3, none⟩ = some (.slice am2 x.M.length cm2) ∧ w'.cell? ⟨b', off + j * 6 + 4, none⟩ = some (.slice al2 x.L.length cl2) ∧ w'.cell? ⟨b', off + j * 6 + 5, none⟩ = some (.slice at2 x.T.length ct2)) 13 (by kernel_rfl) rfl ?_
        simp only [Array.replicate_succ, Array.replicate_zero, List.push_toArray, List.nil_append, List.cons_append]
        have hS0 : (fun w' : World => w'.cell? ⟨w.heap.size + 2, 4, none⟩ = some (.slice pv j pc)) wr.drew := or
        have hT0 : (fun w' : World => w'.cell? ⟨w.heap.size, 4, none⟩ = some (.slice (some ⟨b', off, none⟩) d.L.length cl) ∧ w'.cell? ⟨b', off + j * 6, none⟩ = some (.int .i64 x.K) ∧ w'.cell? ⟨b', off + j * 6 + 1, none⟩ = some (.int .i64 x.N) ∧ w'.cell? ⟨b', off + j * 6 + 2, none⟩ = some (.string x.S) ∧ w'.cell? ⟨b', off + j * 6 + 3, none⟩ = some (.slice am2 x.M.length cm2) ∧ w'.cell? ⟨b', off + j * 6 + 4, none⟩ = some (.slice al2 x.L.length cl2) ∧ w'.cell? ⟨b', off + j * 6 + 5, none⟩ = some (.slice at2 x.T.length ct2)) wr.drew := ⟨pr4, c0, c1, c2, c3, c4, c5⟩
        refine Od.Till.take (i := 0) (d := 29) (v := .pointer (some ⟨w.heap.size + 2, 4, none⟩)) rfl rfl (by kernel_rfl) (by kernel_rfl) (by kernel_rfl) (by kernel_rfl) (fun _ _ _ h => h) (.inl ⟨by rfl, ?_⟩) hS0 hT0 ?_
        · intro wx hSw
          have j0 := hSw
          go_simp
        simp only [Act.put, List.setIfInBounds_toArray, List.set_cons_zero, List.set_cons_succ]
        refine Od.Till.take (i := 1) (d := 30) (v := .slice pv j pc) rfl rfl (by kernel_rfl) (by kernel_rfl) (by kernel_rfl) (by kernel_rfl) (fun _ _ _ h => h) (.inl ⟨by rfl, ?_⟩) hS0 hT0 ?_
        · intro wx hSw
          have j0 := hSw
          go_simp
        simp only [Act.put, List.setIfInBounds_toArray, List.set_cons_zero, List.set_cons_succ]
        refine Od.Till.takeT (i := 2) (d := 31) (v := .pointer (some ⟨w.heap.size, 4, none⟩)) rfl rfl (by kernel_rfl) (by kernel_rfl) (by kernel_rfl) (by kernel_rfl) (fun _ _ _ h => h) (.inl ⟨by rfl, ?_⟩) hS0 hT0 ?_
        · intro wx hSw
          obtain ⟨j0, j1, j2, j3, j4, j5, j6⟩ := hSw
          go_simp
        simp only [Act.put, List.setIfInBounds_toArray, List.set_cons_zero, List.set_cons_succ]
        refine Od.Till.takeT (i := 3) (d := 32) (v := .slice (some ⟨b', off, none⟩) d.L.length cl) rfl rfl (by kernel_rfl) (by kernel_rfl) (by kernel_rfl) (by kernel_rfl) (fun _ _ _ h => h) (.inl ⟨by rfl, ?_⟩) hS0 hT0 ?_
        · intro wx hSw
          obtain ⟨j0, j1, j2, j3, j4, j5, j6⟩ := hSw
          go_simp
        simp only [Act.put, List.setIfInBounds_toArray, List.set_cons_zero, List.set_cons_succ]
        refine Od.Till.takeT (i := 4) (d := 33) (v := .int .i64 (j : Int)) rfl rfl (by kernel_rfl) (by kernel_rfl) (by kernel_rfl) (by kernel_rfl) (fun _ _ _ h => h) (.inl ⟨by rfl, ?_⟩) hS0 hT0 ?_
        · intro wx hSw
          obtain ⟨j0, j1, j2, j3, j4, j5, j6⟩ := hSw
          go_simp
        simp only [Act.put, List.setIfInBounds_toArray, List.set_cons_zero, List.set_cons_succ]
        refine Od.Till.takeT (i := 5) (d := 34) (v := .pointer (some ⟨b', off + j * 6, none⟩)) rfl rfl (by kernel_rfl) (by kernel_rfl) (by kernel_rfl) (by kernel_rfl) (fun _ _ _ h => h) (.inl ⟨by rfl, ?_⟩) hS0 hT0 ?_
        · intro wx hSw
          obtain ⟨j0, j1, j2, j3, j4, j5, j6⟩ := hSw
          go_simp
          try (intro h; omega)
        simp only [Act.put, List.setIfInBounds_toArray, List.set_cons_zero, List.set_cons_succ]
        refine Od.Till.takeT (i := 6) (d := 35) (v := .agg #[.int .i64 x.K, .int .i64 x.N, .string x.S, .slice am2 x.M.length cm2, .slice al2 x.L.length cl2, .slice at2 x.T.length ct2]) rfl rfl (by kernel_rfl) (by kernel_rfl) (by kernel_rfl) (by kernel_rfl) (fun _ _ _ h => h) (.inl ⟨by rfl, ?_⟩) hS0 hT0 ?_
        · intro wx hSw
          obtain ⟨j0, j1, j2, j3, j4, j5, j6⟩ := hSw
          go_simp
        simp only [Act.put, List.setIfInBounds_toArray, List.set_cons_zero, List.set_cons_succ]
        refine Od.Till.takeT (i := 7) (d := 36) (v := .bool false) rfl rfl (by kernel_rfl) (by kernel_rfl) (by kernel_rfl) (by kernel_rfl) (fun _ _ _ h => h) (.inl ⟨by rfl, ?_⟩) hS0 hT0 ?_
        · intro wx hSw
          obtain ⟨j0, j1, j2, j3, j4, j5, j6⟩ := hSw
          go_simp
        simp only [Act.put, List.setIfInBounds_toArray, List.set_cons_zero, List.set_cons_succ]
        refine Od.Till.one (i := 8) (by kernel_rfl) rfl (fun K hK => ?_)
        go_simp
        refine (IHL.out x (List.mem_of_getElem? Hx.out) _ B wr.drew (IsDt.keep (w := wr) (w' := wr.drew) (fun _ h => h) (fun _ _ _ => rfl) _ _ Hix.out) (by show B ≤ wr.heap.size; omega)).mono ?_
        rintro e w2 ⟨v', rfl, hb2, hi2⟩
        have hi' := hi2
        obtain ⟨am3, cm3, al3, cl3, at3, ct3, rfl, _⟩ := hi'.open_
        replace hb2 : Below wr.heap.size wr w2 := ⟨hb2.os, hb2.tape, hb2.output, hb2.size, hb2.block⟩
        replace hi2 : IsDt w2 (Rg wr.heap.size w2.heap.size) _ _ := hi2
        have hS2 : (fun w' : World => w'.cell? ⟨w.heap.size + 2, 4, none⟩ = some (.slice pv j pc)) w2 := (hb2.cell (p := ⟨w.heap.size + 2, 4, none⟩) hqr).trans or
        have hT2 : (fun w' : World => w'.cell? ⟨w.heap.size, 4, none⟩ = some (.slice (some ⟨b', off, none⟩) d.L.length cl) ∧ w'.cell? ⟨b', off + j * 6, none⟩ = some (.int .i64 x.K) ∧ w'.cell? ⟨b', off + j * 6 + 1, none⟩ = some (.int .i64 x.N) ∧ w'.cell? ⟨b', off + j * 6 + 2, none⟩ = some (.string x.S) ∧ w'.cell? ⟨b', off + j * 6 + 3, none⟩ = some (.slice am2 x.M.length cm2) ∧ w'.cell? ⟨b', off + j * 6 + 4, none⟩ = some (.slice al2 x.L.length cl2) ∧ w'.cell? ⟨b', off + j * 6 + 5, none⟩ = some (.slice at2 x.T.length ct2)) w2 := ⟨(hb2.cell (p := ⟨w.heap.size, 4, none⟩) hqr0).trans pr4, (hb2.cell (by show b' < wr.heap.size; omega)).trans c0, (hb2.cell (by show b' < wr.heap.size; omega)).trans c1, (hb2.cell (by show b' < wr.heap.size; omega)).trans c2, (hb2.cell (by show b' < wr.heap.size; omega)).trans c3, (hb2.cell (by show b' < wr.heap.size; omega)).trans c4, (hb2.cell (by show b' < wr.heap.size; omega)).trans c5⟩
        have Hb2 := Lib.hid hb2
        have Hi2 := Lib.hid hi2
        clear hi2 hi'
        refine hK.out _ _ ⟨fun _ => hS2, hT2⟩ ?_
        clear hK K
        simp only [Act.put, List.setIfInBounds_toArray, List.set_cons_zero, List.set_cons_succ]
        refine Od.Till.one (i := 9) (by kernel_rfl) rfl (fun K hK => ?_)
        go_simp
        obtain ⟨i0, hi, hy0, hy1, hy2⟩ := info_parts datum_info
        have hX : Below w2.heap.size w2 (w2.alloc (.cells #[.int .i64 (madeD false x).K, .int .i64 (madeD false x).N, .string (madeD false x).S, .slice am3 (madeD false x).M.length cm3, .slice al3 (madeD false x).L.length cl3, .slice at3 (madeD false x).T.length ct3] 25)) := bel_alloc _ _
        have gX : Blk (w2.alloc (.cells #[.int .i64 (madeD false x).K, .int .i64 (madeD false x).N, .string (madeD false x).S, .slice am3 (madeD false x).M.length cm3, .slice al3 (madeD false x).L.length cl3, .slice at3 (madeD false x).T.length ct3] 25)) w2.heap.size 25 #[.int .i64 (madeD false x).K, .int .i64 (madeD false x).N, .string (madeD false x).S, .slice am3 (madeD false x).M.length cm3, .slice al3 (madeD false x).L.length cl3, .slice at3 (madeD false x).T.length ct3] := heap_alloc_new w2 _
        have sX : (w2.alloc (.cells #[.int .i64 (madeD false x).K, .int .i64 (madeD false x).N, .string (madeD false x).S, .slice am3 (madeD false x).M.length cm3, .slice al3 (madeD false x).L.length cl3, .slice at3 (madeD false x).T.length ct3] 25)).heap.size = w2.heap.size + 1 := by simp
        generalize w2.alloc (.cells #[.int .i64 (madeD false x).K, .int .i64 (madeD false x).N, .string (madeD false x).S, .slice am3 (madeD false x).M.length cm3, .slice al3 (madeD false x).L.length cl3, .slice at3 (madeD false x).T.length ct3] 25) = X at *
        have hrX : Below wr.heap.size wr X := hb2.trans (hX.mono hb2.size)
        have hSX : (fun w' : World => w'.cell? ⟨w.heap.size + 2, 4, none⟩ = some (.slice pv j pc)) X := (hrX.cell (p := ⟨w.heap.size + 2, 4, none⟩) hqr).trans or
        have hTX : (fun w' : World => w'.cell? ⟨w.heap.size, 4, none⟩ = some (.slice (some ⟨b', off, none⟩) d.L.length cl) ∧ w'.cell? ⟨b', off + j * 6, none⟩ = some (.int .i64 x.K) ∧ w'.cell? ⟨b', off + j * 6 + 1, none⟩ = some (.int .i64 x.N) ∧ w'.cell? ⟨b', off + j * 6 + 2, none⟩ = some (.string x.S) ∧ w'.cell? ⟨b', off + j * 6 + 3, none⟩ = some (.slice am2 x.M.length cm2) ∧ w'.cell? ⟨b', off + j * 6 + 4, none⟩ = some (.slice al2 x.L.length cl2) ∧ w'.cell? ⟨b', off + j * 6 + 5, none⟩ = some (.slice at2 x.T.length ct2)) X := ⟨(hrX.cell (p := ⟨w.heap.size, 4, none⟩) hqr0).trans pr4, (hrX.cell (by show b' < wr.heap.size; omega)).trans c0, (hrX.cell (by show b' < wr.heap.size; omega)).trans c1, (hrX.cell (by show b' < wr.heap.size; omega)).trans c2, (hrX.cell (by show b' < wr.heap.size; omega)).trans c3, (hrX.cell (by show b' < wr.heap.size; omega)).trans c4, (hrX.cell (by show b' < wr.heap.size; omega)).trans c5⟩
        have ownX : X.ownsRow W2.heap.size 25 6 (.slice pv j pc) j xs := own_stay HR.out.2.2.1 (fun g _ hg => hrX.block g hg)
        refine hK.out _ _ ⟨fun _ => hSX, hTX⟩ ?_
        clear hK K
        refine Od.Till.one (i := 10) (by kernel_rfl) rfl (fun K hK => ?_)
        rw [if_pos (by kernel_rfl)]
        refine wp_append_lies X (.tmp 30) (.tmp 38) 23 (by rfl) W2.heap.size 25 i0 _ 6 104 Try.underlying23 hi hy0 hy1 hy2 rfl (by omega) (.slice pv j pc) j xs (by rfl) ownX ⟨w2.heap.size, 0, none⟩ 1 1 [.int .i64 (madeD false x).K, .int .i64 (madeD false x).N, .string (madeD false x).S, .slice am3 (madeD false x).M.length cm3, .slice al3 (madeD false x).L.length cl3, .slice at3 (madeD false x).T.length ct3] (by rfl) rfl (fun i u hu => by rw [add_plain, Nat.zero_add, gX.cell i, ← hu]; simp) (by simp [Value.oneCell']) (by omega) (by simp only [maxLen]; omega) (by omega) (by have := hrX.size; omega) X.heap.size rfl ?_
        intro g' cap2 w4 hown1 hg1 hat hlt1
        rw [ob_slice] at hat hg1
        have hm := made_end HTL.out HR.out.1 HR.out.2.1 (by have := H2.out.size; omega) HR.out.2.2.1 HR.out.2.2.2 Hb2.out Hi2.out hX hown1 hg1 hat
        have hpo : ob pv ≠ some (w.heap.size + 2) := fun e => by have := (HR.out.2.2.1.lt (w.heap.size + 2) (by rw [ob_slice]; exact e)).1; have := H2.out.size; omega
        have hpq : ob pv ≠ some w.heap.size := fun e => by have := (HR.out.2.2.1.lt w.heap.size (by rw [ob_slice]; exact e)).1; have := H2.out.size; omega
        have hpb : ob pv ≠ some b' := fun e => by have := (HR.out.2.2.1.lt b' (by rw [ob_slice]; exact e)).1; have := H2.out.size; omega
        have far : ∀ q o, q < X.heap.size → ob pv ≠ some q → w4.cell? ⟨q, o, none⟩ = X.cell? ⟨q, o, none⟩ := fun q o hq hd => hg1.cell_far _ hq (fun h => hd h.symm)
        have sX2 := hrX.size
        have hS4 : (fun w' : World => w'.cell? ⟨w.heap.size + 2, 4, none⟩ = some (.slice pv j pc)) w4 := (far _ 4 (by omega) hpo).trans hSX
        have hT4 : (fun w' : World => w'.cell? ⟨w.heap.size, 4, none⟩ = some (.slice (some ⟨b', off, none⟩) d.L.length cl) ∧ w'.cell? ⟨b', off + j * 6, none⟩ = some (.int .i64 x.K) ∧ w'.cell? ⟨b', off + j * 6 + 1, none⟩ = some (.int .i64 x.N) ∧ w'.cell? ⟨b', off + j * 6 + 2, none⟩ = some (.string x.S) ∧ w'.cell? ⟨b', off + j * 6 + 3, none⟩ = some (.slice am2 x.M.length cm2) ∧ w'.cell? ⟨b', off + j * 6 + 4, none⟩ = some (.slice al2 x.L.length cl2) ∧ w'.cell? ⟨b', off + j * 6 + 5, none⟩ = some (.slice at2 x.T.length ct2)) w4 := ⟨(far _ 4 (by omega) hpq).trans hTX.1, (far b' _ (by omega) hpb).trans hTX.2.1, (far b' _ (by omega) hpb).trans hTX.2.2.1, (far b' _ (by omega) hpb).trans hTX.2.2.2.1, (far b' _ (by omega) hpb).trans hTX.2.2.2.2.1, (far b' _ (by omega) hpb).trans hTX.2.2.2.2.2.1, (far b' _ (by omega) hpb).trans hTX.2.2.2.2.2.2⟩
        have or4 : w4.cell? ⟨w.heap.size + 2, 4, none⟩ = some (.slice pv j pc) := hS4
        have orf4 : w4.frozen? ⟨w.heap.size + 2, 4, none⟩ = false := (hg1.frozen_far (a := ⟨w.heap.size + 2, 4, none⟩) (by show w.heap.size + 2 < _; omega) (fun h => hpo h.symm)).trans ((hrX.frozen (p := ⟨w.heap.size + 2, 4, none⟩) hqr).trans orf)
        refine hK.out _ _ ⟨fun _ => hS4, hT4⟩ ?_
        clear hK K
        simp only [Act.put, List.setIfInBounds_toArray, List.set_cons_zero, List.set_cons_succ]
        refine Od.Till.takeT (i := 11) (d := 40) (v := .pointer (some ⟨w.heap.size + 2, 4, none⟩)) rfl rfl (by kernel_rfl) (by kernel_rfl) (by kernel_rfl) (by kernel_rfl) (fun _ _ _ h => h) (.inl ⟨by rfl, ?_⟩) hS4 hT4 ?_
        · intro wx hSw
          obtain ⟨j0, j1, j2, j3, j4, j5, j6⟩ := hSw
          go_simp
        simp only [Act.put, List.setIfInBounds_toArray, List.set_cons_zero, List.set_cons_succ]
        have HM := Lib.hid hm
        clear hm hS0 hT0 hS2 hT2 hSX hTX hT4 hS4 ownX hown1 far
        refine Od.Till.one (i := 12) (by kernel_rfl) rfl (fun K hK => ?_)
        rw [if_pos (by kernel_rfl)]
        go_simp
        refine hK.out _ _ ⟨fun h => absurd h (by decide), ⟨(set_ne _ _ _ _ _ _ (.inl (by omega))).trans ((hg1.cell_far _ (by show w.heap.size < _; omega) (fun h => hpq h.symm)).trans ((hrX.cell (p := ⟨w.heap.size, 4, none⟩) hqr0).trans pr4)), (set_ne _ _ _ _ _ _ (.inl (by omega))).trans ((hg1.cell_far _ (by show b' < _; omega) (fun h => hpb h.symm)).trans ((hrX.cell (by show b' < wr.heap.size; omega)).trans c0)), (set_ne _ _ _ _ _ _ (.inl (by omega))).trans ((hg1.cell_far _ (by show b' < _; omega) (fun h => hpb h.symm)).trans ((hrX.cell (by show b' < wr.heap.size; omega)).trans c1)), (set_ne _ _ _ _ _ _ (.inl (by omega))).trans ((hg1.cell_far _ (by show b' < _; omega) (fun h => hpb h.symm)).trans ((hrX.cell (by show b' < wr.heap.size; omega)).trans c2)), (set_ne _ _ _ _ _ _ (.inl (by omega))).trans ((hg1.cell_far _ (by show b' < _; omega) (fun h => hpb h.symm)).trans ((hrX.cell (by show b' < wr.heap.size; omega)).trans c3)), (set_ne _ _ _ _ _ _ (.inl (by omega))).trans ((hg1.cell_far _ (by show b' < _; omega) (fun h => hpb h.symm)).trans ((hrX.cell (by show b' < wr.heap.size; omega)).trans c4)), (set_ne _ _ _ _ _ _ (.inl (by omega))).trans ((hg1.cell_far _ (by show b' < _; omega) (fun h => hpb h.symm)).trans ((hrX.cell (by show b' < wr.heap.size; omega)).trans c5))⟩⟩ (Od.Till.done (by kernel_rfl) ?_)
        clear hK K
        generalize w4.setCell ⟨w.heap.size + 2, 4, none⟩ (.slice (some ⟨g', 0, none⟩) (j + 1) cap2) = W5 at *
        go_wp2_with fail
        go_roundw
        case rel => exact ⟨j + 1, by omega, by go_num, by rw [take_snoc_dt _ _ _ Hx.out]; exact HM.out⟩
        case measure => simp [intOf]; omega
      · have dl : decide ((j : Int) < (d.L.length : Int)) = false := by simp [hlj]
        have hje : d.L.take j = d.L := List.take_of_length_le (by omega)
        have hfin : RowAt false W2 (w.heap.size + 2) 4 #[.int .i64 d.K, .int .i64 d.N, .string d.S, .slice none 0 0, .slice none 0 0, .slice none 0 0] d.L wr := ⟨pv, pc, xs, HR.out.1, by have h := HR.out.2.1; rw [← HTL.out, hje] at h; exact h, by have h := HR.out.2.2.1; rw [← HTL.out, hje] at h; exact h, by have h := HR.out.2.2.2; rw [hje] at h; exact h⟩
        have HF := Lib.hid hfin
        clear hje hfin HR
        obtain ⟨la, lc, hbo, hf3, hls1, hld⟩ := HF.out.dts hl1
        have hsz := hf3.size
        have bo : Blk wr (w.heap.size + 2) 25 #[.int .i64 d.K, .int .i64 d.N, .string d.S, .slice none 0 0, .slice la d.L.length lc, .slice none 0 0] := hbo.trans rfl
        have bq : Blk wr w.heap.size 25 #[.int .i64 d.K, .int .i64 d.N, .string d.S, .slice am d.M.length cm, .slice al d.L.length cl, .slice at_ d.T.length ct] := (hf3.block _ (by have := H2.out.size; omega) (by omega)).trans HQ.out
        have br : Blk wr (w.heap.size + 1) 25 #[.int .i64 0, .int .i64 0, .string ⟨#[]⟩, .slice none 0 0, .slice none 0 0, .slice none 0 0] := (hf3.block _ (by have := H2.out.size; omega) (by omega)).trans HR0.out
        have HQ3 := Lib.hid bq
        have HR3 := Lib.hid br
        have HO3 := Lib.hid bo
        have H3 := Lib.hid (MadeSt.more H2.out hf3)
        have HLD := Lib.hid (And.intro hf3 (And.intro hls1 hld))
        clear hbo hf3 hls1 hld bo bq br HF
        go_wp2_with fail
        clear or orf pr4 Hbr hqr hqr0
        obtain ⟨W3, hW3⟩ : ∃ W3 : World, W3 = wr := ⟨_, rfl⟩
        subst hW3
        go_loopw [7] (fun i wr => MadeAt false W3 (w.heap.size + 2) 5 #[.int .i64 d.K, .int .i64 d.N, .string d.S, .slice none 0 0, .slice la d.L.length lc, .slice none 0 0] d.T i wr) (fun i _ => d.T.length - (intOf i).toNat)
        case atStart => exact RowAt.start _ _ _ _ _ _ HO3.out
        case round =>
          obtain ⟨j, hj, rfl, pv, pc, xs, hf, hb, ho, hr⟩ := hrel
          have htl : (d.T.take j).length = j := by rw [List.length_take]; omega
          rw [htl] at hb ho
          have hsr := hf.size
          have pr : Blk wr w.heap.size 25 #[.int .i64 d.K, .int .i64 d.N, .string d.S, .slice am d.M.length cm, .slice al d.L.length cl, .slice at_ d.T.length ct] := (hf.block _ (by have := H3.out.size; omega) (by omega)).trans HQ3.out
          have pr5 : wr.cell? ⟨w.heap.size, 5, none⟩ = some (.slice at_ d.T.length ct) := (pr.cell 5).trans rfl
          have or : wr.cell? ⟨w.heap.size + 2, 5, none⟩ = some (.slice pv j pc) := (hb.cell 5).trans rfl
          have orf : wr.frozen? ⟨w.heap.size + 2, 5, none⟩ = false := hb.frozen 5
          have hqr : w.heap.size + 2 < wr.heap.size := by have := H3.out.size; omega
          have hqr0 : w.heap.size < wr.heap.size := by omega
          have hbr : Below w.heap.size w wr := H3.out.below.trans (hf.below (by have := H3.out.size; omega) (fun i hi hs => by omega))
          have HR := Lib.hid (And.intro hf (And.intro hb (And.intro ho hr)))
          have Hbr := Lib.hid hbr
          have HTL := Lib.hid htl
          clear hf hb ho hr hbr pr htl
          by_cases hlj : j < d.T.length
          · have dl : decide ((j : Int) < (d.T.length : Int)) = true := by simp [hlj]
            obtain ⟨x, hx⟩ : ∃ x, d.T[j]? = some x := ⟨d.T[j], by simp [hlj]⟩
            obtain ⟨b', off, am2, cm2, al2, cl2, at2, ct2, rfl, hb', hsix, hix⟩ := Hts.out.at6 j x hx
            have hbw : b' < w.heap.size := Nat.lt_of_lt_of_le hb' hBw
            obtain ⟨c0, c1, c2, c3, c4, c5⟩ := hsix.keep (w' := wr) (fun o => Hbr.out.cell (p := ⟨b', o, none⟩) hbw)
            have k0 : (0 : Int) ≤ (j : Int) := Int.natCast_nonneg _
            have k1 : (j : Int) < (d.T.length : Int) := by omega
            have Hx := Lib.hid hx
            have Hix := Lib.hid (hix.below (Hbr.out.mono hBw))
            have hjm : j * 104 ≤ 140737488351232 := by omega
            clear hx hix hsix
            go_wp2_with fail
            refine Od.till_region 12 (fun w' : World => w'.cell? ⟨w.heap.size + 2, 5, none⟩ = some (.slice pv j pc)) (fun w' : World => w'.cell? ⟨w.heap.size, 5, none⟩ = some (.slice (some ⟨b', off, none⟩) d.T.length ct) ∧ w'.cell? ⟨b', off + j * 6, none⟩ = some (.int .i64 x.K) ∧ w'.cell? ⟨b', off + j * 6 + 1, none⟩ = some (.int .i64 x.N) ∧ w'.cell? ⟨b', off + j * 6 + 2, none⟩ = some (.string x.S) ∧ w'.cell? ⟨b', off + j * 6 + 3, none⟩ = some (.slice am2 x.M.length cm2) ∧ w'.cell? ⟨b', off + j * 6 + 4, none⟩ = some (.slice al2 x.L.length cl2) ∧ w'.cell? ⟨b', off + j * 6 + 5, none⟩ = some (.slice at2 x.T.length ct2)) 13 (by kernel_rfl) rfl ?_
            simp only [Array.replicate_succ, Array.replicate_zero, List.push_toArray, List.nil_append, List.cons_append]
            have hS0 : (fun w' : World => w'.cell? ⟨w.heap.size + 2, 5, none⟩ = some (.slice pv j pc)) wr.drew := or
            have hT0 : (fun w' : World => w'.cell? ⟨w.heap.size, 5, none⟩ = some (.slice (some ⟨b', off, none⟩) d.T.length ct) ∧ w'.cell? ⟨b', off + j * 6, none⟩ = some (.int .i64 x.K) ∧ w'.cell? ⟨b', off + j * 6 + 1, none⟩ = some (.int .i64 x.N) ∧ w'.cell? ⟨b', off + j * 6 + 2, none⟩ = some (.string x.S) ∧ w'.cell? ⟨b', off + j * 6 + 3, none⟩ = some (.slice am2 x.M.length cm2) ∧ w'.cell? ⟨b', off + j * 6 + 4, none⟩ = some (.slice al2 x.L.length cl2) ∧ w'.cell? ⟨b', off + j * 6 + 5, none⟩ = some (.slice at2 x.T.length ct2)) wr.drew := ⟨pr5, c0, c1, c2, c3, c4, c5⟩
            refine Od.Till.take (i := 0) (d := 48) (v := .pointer (some ⟨w.heap.size + 2, 5, none⟩)) rfl rfl (by kernel_rfl) (by kernel_rfl) (by kernel_rfl) (by kernel_rfl) (fun _ _ _ h => h) (.inl ⟨by rfl, ?_⟩) hS0 hT0 ?_
            · intro wx hSw
              have j0 := hSw
              go_simp
            simp only [Act.put, List.setIfInBounds_toArray, List.set_cons_zero, List.set_cons_succ]
            refine Od.Till.take (i := 1) (d := 49) (v := .slice pv j pc) rfl rfl (by kernel_rfl) (by kernel_rfl) (by kernel_rfl) (by kernel_rfl) (fun _ _ _ h => h) (.inl ⟨by rfl, ?_⟩) hS0 hT0 ?_
            · intro wx hSw
              have j0 := hSw
              go_simp
            simp only [Act.put, List.setIfInBounds_toArray, List.set_cons_zero, List.set_cons_succ]
            refine Od.Till.takeT (i := 2) (d := 50) (v := .pointer (some ⟨w.heap.size, 5, none⟩)) rfl rfl (by kernel_rfl) (by kernel_rfl) (by kernel_rfl) (by kernel_rfl) (fun _ _ _ h => h) (.inl ⟨by rfl, ?_⟩) hS0 hT0 ?_
            · intro wx hSw
              obtain ⟨j0, j1, j2, j3, j4, j5, j6⟩ := hSw
              go_simp
            simp only [Act.put, List.setIfInBounds_toArray, List.set_cons_zero, List.set_cons_succ]
            refine Od.Till.takeT (i := 3) (d := 51) (v := .slice (some ⟨b', off, none⟩) d.T.length ct) rfl rfl (by kernel_rfl) (by kernel_rfl) (by kernel_rfl) (by kernel_rfl) (fun _ _ _ h => h) (.inl ⟨by rfl, ?_⟩) hS0 hT0 ?_
            · intro wx hSw
              obtain ⟨j0, j1, j2, j3, j4, j5, j6⟩ := hSw
              go_simp
            simp only [Act.put, List.setIfInBounds_toArray, List.set_cons_zero, List.set_cons_succ]
            refine Od.Till.takeT (i := 4) (d := 52) (v := .int .i64 (j : Int)) rfl rfl (by kernel_rfl) (by kernel_rfl) (by kernel_rfl) (by kernel_rfl) (fun _ _ _ h => h) (.inl ⟨by rfl, ?_⟩) hS0 hT0 ?_
            · intro wx hSw
              obtain ⟨j0, j1, j2, j3, j4, j5, j6⟩ := hSw
              go_simp
            simp only [Act.put, List.setIfInBounds_toArray, List.set_cons_zero, List.set_cons_succ]
            refine Od.Till.takeT (i := 5) (d := 53) (v := .pointer (some ⟨b', off + j * 6, none⟩)) rfl rfl (by kernel_rfl) (by kernel_rfl) (by kernel_rfl) (by kernel_rfl) (fun _ _ _ h => h) (.inl ⟨by rfl, ?_⟩) hS0 hT0 ?_
            · intro wx hSw
              obtain ⟨j0, j1, j2, j3, j4, j5, j6⟩ := hSw
              go_simp
              try (intro h; omega)
            simp only [Act.put, List.setIfInBounds_toArray, List.set_cons_zero, List.set_cons_succ]
            refine Od.Till.takeT (i := 6) (d := 54) (v := .agg #[.int .i64 x.K, .int .i64 x.N, .string x.S, .slice am2 x.M.length cm2, .slice al2 x.L.length cl2, .slice at2 x.T.length ct2]) rfl rfl (by kernel_rfl) (by kernel_rfl) (by kernel_rfl) (by kernel_rfl) (fun _ _ _ h => h) (.inl ⟨by rfl, ?_⟩) hS0 hT0 ?_
            · intro wx hSw
              obtain ⟨j0, j1, j2, j3, j4, j5, j6⟩ := hSw
              go_simp
            simp only [Act.put, List.setIfInBounds_toArray, List.set_cons_zero, List.set_cons_succ]
            refine Od.Till.takeT (i := 7) (d := 55) (v := .bool false) rfl rfl (by kernel_rfl) (by kernel_rfl) (by kernel_rfl) (by kernel_rfl) (fun _ _ _ h => h) (.inl ⟨by rfl, ?_⟩) hS0 hT0 ?_
            · intro wx hSw
              obtain ⟨j0, j1, j2, j3, j4, j5, j6⟩ := hSw
              go_simp
            simp only [Act.put, List.setIfInBounds_toArray, List.set_cons_zero, List.set_cons_succ]
            refine Od.Till.one (i := 8) (by kernel_rfl) rfl (fun K hK => ?_)
            go_simp
            refine (IHT.out x (List.mem_of_getElem? Hx.out) _ B wr.drew (IsDt.keep (w := wr) (w' := wr.drew) (fun _ h => h) (fun _ _ _ => rfl) _ _ Hix.out) (by show B ≤ wr.heap.size; omega)).mono ?_
            rintro e w2 ⟨v', rfl, hb2, hi2⟩
            have hi' := hi2
            obtain ⟨am3, cm3, al3, cl3, at3, ct3, rfl, _⟩ := hi'.open_
            replace hb2 : Below wr.heap.size wr w2 := ⟨hb2.os, hb2.tape, hb2.output, hb2.size, hb2.block⟩
            replace hi2 : IsDt w2 (Rg wr.heap.size w2.heap.size) _ _ := hi2
            have hS2 : (fun w' : World => w'.cell? ⟨w.heap.size + 2, 5, none⟩ = some (.slice pv j pc)) w2 := (hb2.cell (p := ⟨w.heap.size + 2, 5, none⟩) hqr).trans or
            have hT2 : (fun w' : World => w'.cell? ⟨w.heap.size, 5, none⟩ = some (.slice (some ⟨b', off, none⟩) d.T.length ct) ∧ w'.cell? ⟨b', off + j * 6, none⟩ = some (.int .i64 x.K) ∧ w'.cell? ⟨b', off + j * 6 + 1, none⟩ = some (.int .i64 x.N) ∧ w'.cell? ⟨b', off + j * 6 + 2, none⟩ = some (.string x.S) ∧ w'.cell? ⟨b', off + j * 6 + 3, none⟩ = some (.slice am2 x.M.length cm2) ∧ w'.cell? ⟨b', off + j * 6 + 4, none⟩ = some (.slice al2 x.L.length cl2) ∧ w'.cell? ⟨b', off + j * 6 + 5, none⟩ = some (.slice at2 x.T.length ct2)) w2 := ⟨(hb2.cell (p := ⟨w.heap.size, 5, none⟩) hqr0).trans pr5, (hb2.cell (by show b' < wr.heap.size; omega)).trans c0, (hb2.cell (by show b' < wr.heap.size; omega)).trans c1, (hb2.cell (by show b' < wr.heap.size; omega)).trans c2, (hb2.cell (by show b' < wr.heap.size; omega)).trans c3, (hb2.cell (by show b' < wr.heap.size; omega)).trans c4, (hb2.cell (by show b' < wr.heap.size; omega)).trans c5⟩
            have Hb2 := Lib.hid hb2
            have Hi2 := Lib.hid hi2
            clear hi2 hi'
            refine hK.out _ _ ⟨fun _ => hS2, hT2⟩ ?_
            clear hK K
            simp only [Act.put, List.setIfInBounds_toArray, List.set_cons_zero, List.set_cons_succ]
            refine Od.Till.one (i := 9) (by kernel_rfl) rfl (fun K hK => ?_)
            go_simp
            obtain ⟨i0, hi, hy0, hy1, hy2⟩ := info_parts datum_info
            have hX : Below w2.heap.size w2 (w2.alloc (.cells #[.int .i64 (madeD false x).K, .int .i64 (madeD false x).N, .string (madeD false x).S, .slice am3 (madeD false x).M.length cm3, .slice al3 (madeD false x).L.length cl3, .slice at3 (madeD false x).T.length ct3] 25)) := bel_alloc _ _
            have gX : Blk (w2.alloc (.cells #[.int .i64 (madeD false x).K, .int .i64 (madeD false x).N, .string (madeD false x).S, .slice am3 (madeD false x).M.length cm3, .slice al3 (madeD false x).L.length cl3, .slice at3 (madeD false x).T.length ct3] 25)) w2.heap.size 25 #[.int .i64 (madeD false x).K, .int .i64 (madeD false x).N, .string (madeD false x).S, .slice am3 (madeD false x).M.length cm3, .slice al3 (madeD false x).L.length cl3, .slice at3 (madeD false x).T.length ct3] := heap_alloc_new w2 _
            have sX : (w2.alloc (.cells #[.int .i64 (madeD false x).K, .int .i64 (madeD false x).N, .string (madeD false x).S, .slice am3 (madeD false x).M.length cm3, .slice al3 (madeD false x).L.length cl3, .slice at3 (madeD false x).T.length ct3] 25)).heap.size = w2.heap.size + 1 := by simp
            generalize w2.alloc (.cells #[.int .i64 (madeD false x).K, .int .i64 (madeD false x).N, .string (madeD false x).S, .slice am3 (madeD false x).M.length cm3, .slice al3 (madeD false x).L.length cl3, .slice at3 (madeD false x).T.length ct3] 25) = X at *
            have hrX : Below wr.heap.size wr X := hb2.trans (hX.mono hb2.size)
            have hSX : (fun w' : World => w'.cell? ⟨w.heap.size + 2, 5, none⟩ = some (.slice pv j pc)) X := (hrX.cell (p := ⟨w.heap.size + 2, 5, none⟩) hqr).trans or
            have hTX : (fun w' : World => w'.cell? ⟨w.heap.size, 5, none⟩ = some (.slice (some ⟨b', off, none⟩) d.T.length ct) ∧ w'.cell? ⟨b', off + j * 6, none⟩ = some (.int .i64 x.K) ∧ w'.cell? ⟨b', off + j * 6 + 1, none⟩ = some (.int .i64 x.N) ∧ w'.cell? ⟨b', off + j * 6 + 2, none⟩ = some (.string x.S) ∧ w'.cell? ⟨b', off + j * 6 + 3, none⟩ = some (.slice am2 x.M.length cm2) ∧ w'.cell? ⟨b', off + j * 6 + 4, none⟩ = some (.slice al2 x.L.length cl2) ∧ w'.cell? ⟨b', off + j * 6 + 5, none⟩ = some (.slice at2 x.T.length ct2)) X := ⟨(hrX.cell (p := ⟨w.heap.size, 5, none⟩) hqr0).trans pr5, (hrX.cell (by show b' < wr.heap.size; omega)).trans c0, (hrX.cell (by show b' < wr.heap.size; omega)).trans c1, (hrX.cell (by show b' < wr.heap.size; omega)).trans c2, (hrX.cell (by show b' < wr.heap.size; omega)).trans c3, (hrX.cell (by show b' < wr.heap.size; omega)).trans c4, (hrX.cell (by show b' < wr.heap.size; omega)).trans c5⟩
            have ownX : X.ownsRow W3.heap.size 25 6 (.slice pv j pc) j xs := own_stay HR.out.2.2.1 (fun g _ hg => hrX.block g hg)
            refine hK.out _ _ ⟨fun _ => hSX, hTX⟩ ?_
            clear hK K
            refine Od.Till.one (i := 10) (by kernel_rfl) rfl (fun K hK => ?_)
            rw [if_pos (by kernel_rfl)]
            refine wp_append_lies X (.tmp 49) (.tmp 57) 23 (by rfl) W3.heap.size 25 i0 _ 6 104 Try.underlying23 hi hy0 hy1 hy2 rfl (by omega) (.slice pv j pc) j xs (by rfl) ownX ⟨w2.heap.size, 0, none⟩ 1 1 [.int .i64 (madeD false x).K, .int .i64 (madeD false x).N, .string (madeD false x).S, .slice am3 (madeD false x).M.length cm3, .slice al3 (madeD false x).L.length cl3, .slice at3 (madeD false x).T.length ct3] (by rfl) rfl (fun i u hu => by rw [add_plain, Nat.zero_add, gX.cell i, ← hu]; simp) (by simp [Value.oneCell']) (by omega) (by simp only [maxLen]; omega) (by omega) (by have := hrX.size; omega) X.heap.size rfl ?_
            intro g' cap2 w4 hown1 hg1 hat hlt1
            rw [ob_slice] at hat hg1
            have hm := made_end HTL.out HR.out.1 HR.out.2.1 (by have := H3.out.size; omega) HR.out.2.2.1 HR.out.2.2.2 Hb2.out Hi2.out hX hown1 hg1 hat
            have hpo : ob pv ≠ some (w.heap.size + 2) := fun e => by have := (HR.out.2.2.1.lt (w.heap.size + 2) (by rw [ob_slice]; exact e)).1; have := H3.out.size; omega
            have hpq : ob pv ≠ some w.heap.size := fun e => by have := (HR.out.2.2.1.lt w.heap.size (by rw [ob_slice]; exact e)).1; have := H3.out.size; omega
            have hpb : ob pv ≠ some b' := fun e => by have := (HR.out.2.2.1.lt b' (by rw [ob_slice]; exact e)).1; have := H3.out.size; omega
            have far : ∀ q o, q < X.heap.size → ob pv ≠ some q → w4.cell? ⟨q, o, none⟩ = X.cell? ⟨q, o, none⟩ := fun q o hq hd => hg1.cell_far _ hq (fun h => hd h.symm)
            have sX2 := hrX.size
            have hS4 : (fun w' : World => w'.cell? ⟨w.heap.size + 2, 5, none⟩ = some (.slice pv j pc)) w4 := (far _ 5 (by omega) hpo).trans hSX
            have hT4 : (fun w' : World => w'.cell? ⟨w.heap.size, 5, none⟩ = some (.slice (some ⟨b', off, none⟩) d.T.length ct) ∧ w'.cell? ⟨b', off + j * 6, none⟩ = some (.int .i64 x.K) ∧ w'.cell? ⟨b', off + j * 6 + 1, none⟩ = some (.int .i64 x.N) ∧ w'.cell? ⟨b', off + j * 6 + 2, none⟩ = some (.string x.S) ∧ w'.cell? ⟨b', off + j * 6 + 3, none⟩ = some (.slice am2 x.M.length cm2) ∧ w'.cell? ⟨b', off + j * 6 + 4, none⟩ = some (.slice al2 x.L.length cl2) ∧ w'.cell? ⟨b', off + j * 6 + 5, none⟩ = some (.slice at2 x.T.length ct2)) w4 := ⟨(far _ 5 (by omega) hpq).trans hTX.1, (far b' _ (by omega) hpb).trans hTX.2.1, (far b' _ (by omega) hpb).trans hTX.2.2.1, (far b' _ (by omega) hpb).trans hTX.2.2.2.1, (far b' _ (by omega) hpb).trans hTX.2.2.2.2.1, (far b' _ (by omega) hpb).trans hTX.2.2.2.2.2.1, (far b' _ (by omega) hpb).trans hTX.2.2.2.2.2.2⟩
            have or4 : w4.cell? ⟨w.heap.size + 2, 5, none⟩ = some (.slice pv j pc) := hS4
            have orf4 : w4.frozen? ⟨w.heap.size + 2, 5, none⟩ = false := (hg1.frozen_far (a := ⟨w.heap.size + 2, 5, none⟩) (by show w.heap.size + 2 < _; omega) (fun h => hpo h.symm)).trans ((hrX.frozen (p := ⟨w.heap.size + 2, 5, none⟩) hqr).trans orf)
            refine hK.out _ _ ⟨fun _ => hS4, hT4⟩ ?_
            clear hK K
            simp only [Act.put, List.setIfInBounds_toArray, List.set_cons_zero, List.set_cons_succ]
            refine Od.Till.takeT (i := 11) (d := 59) (v := .pointer (some ⟨w.heap.size + 2, 5, none⟩)) rfl rfl (by kernel_rfl) (by kernel_rfl) (by kernel_rfl) (by kernel_rfl) (fun _ _ _ h => h) (.inl ⟨by rfl, ?_⟩) hS4 hT4 ?_
            · intro wx hSw
              obtain ⟨j0, j1, j2, j3, j4, j5, j6⟩ := hSw
              go_simp
            simp only [Act.put, List.setIfInBounds_toArray, List.set_cons_zero, List.set_cons_succ]
            have HM := Lib.hid hm
            clear hm hS0 hT0 hS2 hT2 hSX hTX hT4 hS4 ownX hown1 far
            refine Od.Till.one (i := 12) (by kernel_rfl) rfl (fun K hK => ?_)
            rw [if_pos (by kernel_rfl)]
            go_simp
            refine hK.out _ _ ⟨fun h => absurd h (by decide), ⟨(set_ne _ _ _ _ _ _ (.inl (by omega))).trans ((hg1.cell_far _ (by show w.heap.size < _; omega) (fun h => hpq h.symm)).trans ((hrX.cell (p := ⟨w.heap.size, 5, none⟩) hqr0).trans pr5)), (set_ne _ _ _ _ _ _ (.inl (by omega))).trans ((hg1.cell_far _ (by show b' < _; omega) (fun h => hpb h.symm)).trans ((hrX.cell (by show b' < wr.heap.size; omega)).trans c0)), (set_ne _ _ _ _ _ _ (.inl (by omega))).trans ((hg1.cell_far _ (by show b' < _; omega) (fun h => hpb h.symm)).trans ((hrX.cell (by show b' < wr.heap.size; omega)).trans c1)), (set_ne _ _ _ _ _ _ (.inl (by omega))).trans ((hg1.cell_far _ (by show b' < _; omega) (fun h => hpb h.symm)).trans ((hrX.cell (by show b' < wr.heap.size; omega)).trans c2)), (set_ne _ _ _ _ _ _ (.inl (by omega))).trans ((hg1.cell_far _ (by show b' < _; omega) (fun h => hpb h.symm)).trans ((hrX.cell (by show b' < wr.heap.size; omega)).trans c3)), (set_ne _ _ _ _ _ _ (.inl (by omega))).trans ((hg1.cell_far _ (by show b' < _; omega) (fun h => hpb h.symm)).trans ((hrX.cell (by show b' < wr.heap.size; omega)).trans c4)), (set_ne _ _ _ _ _ _ (.inl (by omega))).trans ((hg1.cell_far _ (by show b' < _; omega) (fun h => hpb h.symm)).trans ((hrX.cell (by show b' < wr.heap.size; omega)).trans c5))⟩⟩ (Od.Till.done (by kernel_rfl) ?_)
            clear hK K
            generalize w4.setCell ⟨w.heap.size + 2, 5, none⟩ (.slice (some ⟨g', 0, none⟩) (j + 1) cap2) = W5 at *
            go_wp2_with fail
            go_roundw
            case rel => exact ⟨j + 1, by omega, by go_num, by rw [take_snoc_dt _ _ _ Hx.out]; exact HM.out⟩
            case measure => simp [intOf]; omega
          · have dl : decide ((j : Int) < (d.T.length : Int)) = false := by simp [hlj]
            have hje : d.T.take j = d.T := List.take_of_length_le (by omega)
            have hfin : RowAt false W3 (w.heap.size + 2) 5 #[.int .i64 d.K, .int .i64 d.N, .string d.S, .slice none 0 0, .slice la d.L.length lc, .slice none 0 0] d.T wr := ⟨pv, pc, xs, HR.out.1, by have h := HR.out.2.1; rw [← HTL.out, hje] at h; exact h, by have h := HR.out.2.2.1; rw [← HTL.out, hje] at h; exact h, by have h := HR.out.2.2.2; rw [hje] at h; exact h⟩
            have HF := Lib.hid hfin
            clear hje hfin HR
            obtain ⟨ta, tc, hbo, hf3, hts1, htd⟩ := HF.out.dts ht1
            have hsz := hf3.size
            have br : Blk wr (w.heap.size + 1) 25 #[.int .i64 0, .int .i64 0, .string ⟨#[]⟩, .slice none 0 0, .slice none 0 0, .slice none 0 0] := (hf3.block _ (by have := H3.out.size; omega) (by omega)).trans HR3.out
            have bo : Blk wr (w.heap.size + 2) 25 #[.int .i64 d.K, .int .i64 d.N, .string d.S, .slice none 0 0, .slice la d.L.length lc, .slice ta d.T.length tc] := hbo.trans rfl
            have r0 : wr.cell? ⟨w.heap.size + 1, 0, none⟩ = some (.int .i64 0) := (br.cell 0).trans rfl
            have rf0 := br.frozen 0
            have o0 : wr.cell? ⟨w.heap.size + 2, 0, none⟩ = some (.int .i64 d.K) := (bo.cell 0).trans rfl
            have r1 : wr.cell? ⟨w.heap.size + 1, 1, none⟩ = some (.int .i64 0) := (br.cell 1).trans rfl
            have rf1 := br.frozen 1
            have o1 : wr.cell? ⟨w.heap.size + 2, 1, none⟩ = some (.int .i64 d.N) := (bo.cell 1).trans rfl
            have r2 : wr.cell? ⟨w.heap.size + 1, 2, none⟩ = some (.string ⟨#[]⟩) := (br.cell 2).trans rfl
            have rf2 := br.frozen 2
            have o2 : wr.cell? ⟨w.heap.size + 2, 2, none⟩ = some (.string d.S) := (bo.cell 2).trans rfl
            have r3 : wr.cell? ⟨w.heap.size + 1, 3, none⟩ = some (.slice none 0 0) := (br.cell 3).trans rfl
            have rf3 := br.frozen 3
            have o3 : wr.cell? ⟨w.heap.size + 2, 3, none⟩ = some (.slice none 0 0) := (bo.cell 3).trans rfl
            have r4 : wr.cell? ⟨w.heap.size + 1, 4, none⟩ = some (.slice none 0 0) := (br.cell 4).trans rfl
            have rf4 := br.frozen 4
            have o4 : wr.cell? ⟨w.heap.size + 2, 4, none⟩ = some (.slice la d.L.length lc) := (bo.cell 4).trans rfl
            have r5 : wr.cell? ⟨w.heap.size + 1, 5, none⟩ = some (.slice none 0 0) := (br.cell 5).trans rfl
            have rf5 := br.frozen 5
            have o5 : wr.cell? ⟨w.heap.size + 2, 5, none⟩ = some (.slice ta d.T.length tc) := (bo.cell 5).trans rfl
            have hlr : w.heap.size + 1 < wr.heap.size := by omega
            have HBO := Lib.hid (And.intro hf3 (And.intro hts1 htd))
            clear hbo hf3 hts1 htd br bo or orf
            go_wp2_with fail
            obtain ⟨hsf, hss⟩ := HBO.out
            refine bodyPost_ret (v := .agg #[.int .i64 d.K, .int .i64 d.N, .string d.S, .slice none 0 0, .slice la d.L.length lc, .slice ta d.T.length tc]) ?_ rfl ?_
            · simp [results, Try.results46, go_sem, r0, r1, r2, r3, r4, r5, hlr]
            · exact made_fin (mk := false) H2.out HMR.out HLD.out.1 HLD.out.2.1 HLD.out.2.2 HBO.out.1 HBO.out.2.1 HBO.out.2.2 wk wn ws (set6_fr wr (w.heap.size + 1) 0 _ _ _ _ _ _)
  · have hmX : IntRow (((w.alloc (.cells #[.int .i64 d.K, .int .i64 d.N, .string d.S, .slice am d.M.length cm, .slice al d.L.length cl, .slice at_ d.T.length ct] 25)).alloc (.cells #[.int .i64 0, .int .i64 0, .string ⟨#[]⟩, .slice none 0 0, .slice none 0 0, .slice none 0 0] 25)).alloc (.cells #[.int .i64 d.K, .int .i64 d.N, .string d.S, .slice none 0 0, .slice none 0 0, .slice none 0 0] 25)) (Lo B) am d.M.length cm d.M := Hm.out.keep (fun _ h => h) (fun b o hb => hb0.cell (p := ⟨b, o, none⟩) (Nat.lt_of_lt_of_le hb hBw))
    obtain ⟨a', c', w', hrun, hbm, him⟩ := append_ints 22 hmX
    have h2 : Blk w' (w.heap.size + 2) 25 #[.int .i64 d.K, .int .i64 d.N, .string d.S, .slice none 0 0, .slice none 0 0, .slice none 0 0] := (hbm.block _ (by omega)).trans g2
    have h1 : Blk w' (w.heap.size + 1) 25 #[.int .i64 0, .int .i64 0, .string ⟨#[]⟩, .slice none 0 0, .slice none 0 0, .slice none 0 0] := (hbm.block _ (by omega)).trans g1
    have h0 : Blk w' w.heap.size 25 #[.int .i64 d.K, .int .i64 d.N, .string d.S, .slice am d.M.length cm, .slice al d.L.length cl, .slice at_ d.T.length ct] := (hbm.block _ (by omega)).trans g0
    have o3 : w'.cell? ⟨w.heap.size + 2, 3, none⟩ = some (.slice none 0 0) := (h2.cell 3).trans rfl
    have f3 := h2.frozen 3
    have hszm := hbm.size
    have l3 : w.heap.size + 2 < w'.heap.size := by omega
    rw [hs0] at him hbm hszm
    have Hrun := Lib.hid hrun
    have H0 := Lib.hid (And.intro (hb0.trans (hbm.mono (by omega))) (And.intro hszm (And.intro h0 (And.intro h1 (And.intro h2 him)))))
    clear hb0 hs0 g0 g1 g2 hmX hrun hbm him h0 h1 h2 hszm
    go_enter Try.func46, Try.ntmps46
    go_wp2_with (at_builtin; refine wpList_append_run rfl _ _ _ rfl _ _ _ rfl rfl Hrun.out ?_)
    obtain ⟨hb0, hs0, g0, g1, g2, him⟩ := H0.out
    clear H0
    have e2 : Blk (w'.setCell ⟨w.heap.size + 2, 3, none⟩ (.slice a' d.M.length c')) (w.heap.size + 2) 25 #[.int .i64 d.K, .int .i64 d.N, .string d.S, .slice a' d.M.length c', .slice none 0 0, .slice none 0 0] := (blk_set g2 3 _).trans rfl
    have e1 : Blk (w'.setCell ⟨w.heap.size + 2, 3, none⟩ (.slice a' d.M.length c')) (w.heap.size + 1) 25 #[.int .i64 0, .int .i64 0, .string ⟨#[]⟩, .slice none 0 0, .slice none 0 0, .slice none 0 0] := (Below.heap_setCell _ _ _ _ (by show w.heap.size + 1 ≠ w.heap.size + 2; omega)).trans g1
    have e0 : Blk (w'.setCell ⟨w.heap.size + 2, 3, none⟩ (.slice a' d.M.length c')) w.heap.size 25 #[.int .i64 d.K, .int .i64 d.N, .string d.S, .slice am d.M.length cm, .slice al d.L.length cl, .slice at_ d.T.length ct] := (Below.heap_setCell _ _ _ _ (by show w.heap.size ≠ w.heap.size + 2; omega)).trans g0
    have eb : Below w.heap.size w (w'.setCell ⟨w.heap.size + 2, 3, none⟩ (.slice a' d.M.length c')) := hb0.setCell (p := ⟨w.heap.size + 2, 3, none⟩) (by show w.heap.size ≤ w.heap.size + 2; omega) _
    have es : (w'.setCell ⟨w.heap.size + 2, 3, none⟩ (.slice a' d.M.length c')).heap.size = w'.heap.size := by simp [World.setCell]
    have em : IntRow (w'.setCell ⟨w.heap.size + 2, 3, none⟩ (.slice a' d.M.length c')) (Rg (w.heap.size + 3) w'.heap.size) a' d.M.length c' d.M := him.keep (fun _ h => h) (fun b o hb => World.cell?_setCell_other _ _ _ _ (fun e => by cases e; have := hb.1; omega))
    rw [← es] at em
    clear o3 f3 l3 g0 g1 g2 hb0 him Hrun
    generalize w'.setCell ⟨w.heap.size + 2, 3, none⟩ (.slice a' d.M.length c') = W2 at *
    have H2 := Lib.hid (show MadeSt w W2 from ⟨eb, by omega⟩)
    have HQ := Lib.hid e0
    have HR0 := Lib.hid e1
    have HO := Lib.hid e2
    have HMR := Lib.hid (show IntRow W2 (Rg (w.heap.size + 3) W2.heap.size) a' (if true = true then d.M else []).length c' (if true = true then d.M else []) from em)
    clear e0 e1 e2 eb em es
    go_loopw [6] (fun i wr => MadeAt true W2 (w.heap.size + 2) 4 #[.int .i64 d.K, .int .i64 d.N, .string d.S, .slice a' d.M.length c', .slice none 0 0, .slice none 0 0] d.L i wr) (fun i _ => d.L.length - (intOf i).toNat)
    case atStart => exact RowAt.start _ _ _ _ _ _ HO.out
    case round =>
      obtain ⟨j, hj, rfl, pv, pc, xs, hf, hb, ho, hr⟩ := hrel
      have htl : (d.L.take j).length = j := by rw [List.length_take]; omega
      rw [htl] at hb ho
      have hsr := hf.size
      have pr : Blk wr w.heap.size 25 #[.int .i64 d.K, .int .i64 d.N, .string d.S, .slice am d.M.length cm, .slice al d.L.length cl, .slice at_ d.T.length ct] := (hf.block _ (by have := H2.out.size; omega) (by omega)).trans HQ.out
      have pr4 : wr.cell? ⟨w.heap.size, 4, none⟩ = some (.slice al d.L.length cl) := (pr.cell 4).trans rfl
      have or : wr.cell? ⟨w.heap.size + 2, 4, none⟩ = some (.slice pv j pc) := (hb.cell 4).trans rfl
      have orf : wr.frozen? ⟨w.heap.size + 2, 4, none⟩ = false := hb.frozen 4
      have hqr : w.heap.size + 2 < wr.heap.size := by have := H2.out.size; omega
      have hqr0 : w.heap.size < wr.heap.size := by omega
      have hbr : Below w.heap.size w wr := H2.out.below.trans (hf.below (by have := H2.out.size; omega) (fun i hi hs => by omega))
      have HR := Lib.hid (And.intro hf (And.intro hb (And.intro ho hr)))
      have Hbr := Lib.hid hbr
      have HTL := Lib.hid htl
      clear hf hb ho hr hbr pr htl
      by_cases hlj : j < d.L.length
      · have dl : decide ((j : Int) < (d.L.length : Int)) = true := by simp [hlj]
        obtain ⟨x, hx⟩ : ∃ x, d.L[j]? = some x := ⟨d.L[j], by simp [hlj]⟩
        obtain ⟨b', off, am2, cm2, al2, cl2, at2, ct2, rfl, hb', hsix, hix⟩ := Hls.out.at6 j x hx
        have hbw : b' < w.heap.size := Nat.lt_of_lt_of_le hb' hBw
        obtain ⟨c0, c1, c2, c3, c4, c5⟩ := hsix.keep (w' := wr) (fun o => Hbr.out.cell (p := ⟨b', o, none⟩) hbw)
        have k0 : (0 : Int) ≤ (j : Int) := Int.natCast_nonneg _
        have k1 : (j : Int) < (d.L.length : Int) := by omega
        have Hx := Lib.hid hx
        have Hix := Lib.hid (hix.below (Hbr.out.mono hBw))
        have hjm : j * 104 ≤ 140737488351232 := by omega
        clear hx hix hsix
        go_wp2_with fail
        refine Od.till_region 12 (fun w' : World => w'.cell? ⟨w.heap.size + 2, 4, none⟩ = some (.slice pv j pc)) (fun w' : World => w'.cell? ⟨w.heap.size, 4, none⟩ = some (.slice (some ⟨b', off, none⟩) d.L.length cl) ∧ w'.cell? ⟨b', off + j * 6, none⟩ = some (.int .i64 x.K) ∧ w'.cell? ⟨b', off + j * 6 + 1, none⟩ = some (.int .i64 x.N) ∧ w'.cell? ⟨b', off + j * 6 + 2, none⟩ = some (.string x.S) ∧ w'.cell? ⟨b', off + j * 6 + 3, none⟩ = some (.slice am2 x.M.length cm2) ∧ w'.cell? ⟨b', off + j * 6 + 4, none⟩ = some (.slice al2 x.L.length cl2) ∧ w'.cell? ⟨b', off + j * 6 + 5, none⟩ = some (.slice at2 x.T.length ct2)) 13 (by kernel_rfl) rfl ?_
        simp only [Array.replicate_succ, Array.replicate_zero, List.push_toArray, List.nil_append, List.cons_append]
        have hS0 : (fun w' : World => w'.cell? ⟨w.heap.size + 2, 4, none⟩ = some (.slice pv j pc)) wr.drew := or
        have hT0 : (fun w' : World => w'.cell? ⟨w.heap.size, 4, none⟩ = some (.slice (some ⟨b', off, none⟩) d.L.length cl) ∧ w'.cell? ⟨b', off + j * 6, none⟩ = some (.int .i64 x.K) ∧ w'.cell? ⟨b', off + j * 6 + 1, none⟩ = some (.int .i64 x.N) ∧ w'.cell? ⟨b', off + j * 6 + 2, none⟩ = some (.string x.S) ∧ w'.cell? ⟨b', off + j * 6 + 3, none⟩ = some (.slice am2 x.M.length cm2) ∧ w'.cell? ⟨b', off + j * 6 + 4, none⟩ = some (.slice al2 x.L.length cl2) ∧ w'.cell? ⟨b', off + j * 6 + 5, none⟩ = some (.slice at2 x.T.length ct2)) wr.drew := ⟨pr4, c0, c1, c2, c3, c4, c5⟩
        refine Od.Till.take (i := 0) (d := 29) (v := .pointer (some ⟨w.heap.size + 2, 4, none⟩)) rfl rfl (by kernel_rfl) (by kernel_rfl) (by kernel_rfl) (by kernel_rfl) (fun _ _ _ h => h) (.inl ⟨by rfl, ?_⟩) hS0 hT0 ?_
        · intro wx hSw
          have j0 := hSw
          go_simp
        simp only [Act.put, List.setIfInBounds_toArray, List.set_cons_zero, List.set_cons_succ]
        refine Od.Till.take (i := 1) (d := 30) (v := .slice pv j pc) rfl rfl (by kernel_rfl) (by kernel_rfl) (by kernel_rfl) (by kernel_rfl) (fun _ _ _ h => h) (.inl ⟨by rfl, ?_⟩) hS0 hT0 ?_
        · intro wx hSw
          have j0 := hSw
          go_simp
        simp only [Act.put, List.setIfInBounds_toArray, List.set_cons_zero, List.set_cons_succ]
        refine Od.Till.takeT (i := 2) (d := 31) (v := .pointer (some ⟨w.heap.size, 4, none⟩)) rfl rfl (by kernel_rfl) (by kernel_rfl) (by kernel_rfl) (by kernel_rfl) (fun _ _ _ h => h) (.inl ⟨by rfl, ?_⟩) hS0 hT0 ?_
        · intro wx hSw
          obtain ⟨j0, j1, j2, j3, j4, j5, j6⟩ := hSw
          go_simp
        simp only [Act.put, List.setIfInBounds_toArray, List.set_cons_zero, List.set_cons_succ]
        refine Od.Till.takeT (i := 3) (d := 32) (v := .slice (some ⟨b', off, none⟩) d.L.length cl) rfl rfl (by kernel_rfl) (by kernel_rfl) (by kernel_rfl) (by kernel_rfl) (fun _ _ _ h => h) (.inl ⟨by rfl, ?_⟩) hS0 hT0 ?_
        · intro wx hSw
          obtain ⟨j0, j1, j2, j3, j4, j5, j6⟩ := hSw
          go_simp
        simp only [Act.put, List.setIfInBounds_toArray, List.set_cons_zero, List.set_cons_succ]
        refine Od.Till.takeT (i := 4) (d := 33) (v := .int .i64 (j : Int)) rfl rfl (by kernel_rfl) (by kernel_rfl) (by kernel_rfl) (by kernel_rfl) (fun _ _ _ h => h) (.inl ⟨by rfl, ?_⟩) hS0 hT0 ?_
        · intro wx hSw
          obtain ⟨j0, j1, j2, j3, j4, j5, j6⟩ := hSw
          go_simp
        simp only [Act.put, List.setIfInBounds_toArray, List.set_cons_zero, List.set_cons_succ]
        refine Od.Till.takeT (i := 5) (d := 34) (v := .pointer (some ⟨b', off + j * 6, none⟩)) rfl rfl (by kernel_rfl) (by kernel_rfl) (by kernel_rfl) (by kernel_rfl) (fun _ _ _ h => h) (.inl ⟨by rfl, ?_⟩) hS0 hT0 ?_
        · intro wx hSw
          obtain ⟨j0, j1, j2, j3, j4, j5, j6⟩ := hSw
          go_simp
          try (intro h; omega)
        simp only [Act.put, List.setIfInBounds_toArray, List.set_cons_zero, List.set_cons_succ]
        refine Od.Till.takeT (i := 6) (d := 35) (v := .agg #[.int .i64 x.K, .int .i64 x.N, .string x.S, .slice am2 x.M.length cm2, .slice al2 x.L.length cl2, .slice at2 x.T.length ct2]) rfl rfl (by kernel_rfl) (by kernel_rfl) (by kernel_rfl) (by kernel_rfl) (fun _ _ _ h => h) (.inl ⟨by rfl, ?_⟩) hS0 hT0 ?_
        · intro wx hSw
          obtain ⟨j0, j1, j2, j3, j4, j5, j6⟩ := hSw
          go_simp
        simp only [Act.put, List.setIfInBounds_toArray, List.set_cons_zero, List.set_cons_succ]
        refine Od.Till.takeT (i := 7) (d := 36) (v := .bool true) rfl rfl (by kernel_rfl) (by kernel_rfl) (by kernel_rfl) (by kernel_rfl) (fun _ _ _ h => h) (.inl ⟨by rfl, ?_⟩) hS0 hT0 ?_
        · intro wx hSw
          obtain ⟨j0, j1, j2, j3, j4, j5, j6⟩ := hSw
          go_simp
        simp only [Act.put, List.setIfInBounds_toArray, List.set_cons_zero, List.set_cons_succ]
        refine Od.Till.one (i := 8) (by kernel_rfl) rfl (fun K hK => ?_)
        go_simp
        refine (IHL.out x (List.mem_of_getElem? Hx.out) _ B wr.drew (IsDt.keep (w := wr) (w' := wr.drew) (fun _ h => h) (fun _ _ _ => rfl) _ _ Hix.out) (by show B ≤ wr.heap.size; omega)).mono ?_
        rintro e w2 ⟨v', rfl, hb2, hi2⟩
        have hi' := hi2
        obtain ⟨am3, cm3, al3, cl3, at3, ct3, rfl, _⟩ := hi'.open_
        replace hb2 : Below wr.heap.size wr w2 := ⟨hb2.os, hb2.tape, hb2.output, hb2.size, hb2.block⟩
        replace hi2 : IsDt w2 (Rg wr.heap.size w2.heap.size) _ _ := hi2
        have hS2 : (fun w' : World => w'.cell? ⟨w.heap.size + 2, 4, none⟩ = some (.slice pv j pc)) w2 := (hb2.cell (p := ⟨w.heap.size + 2, 4, none⟩) hqr).trans or
        have hT2 : (fun w' : World => w'.cell? ⟨w.heap.size, 4, none⟩ = some (.slice (some ⟨b', off, none⟩) d.L.length cl) ∧ w'.cell? ⟨b', off + j * 6, none⟩ = some (.int .i64 x.K) ∧ w'.cell? ⟨b', off + j * 6 + 1, none⟩ = some (.int .i64 x.N) ∧ w'.cell? ⟨b', off + j * 6 + 2, none⟩ = some (.string x.S) ∧ w'.cell? ⟨b', off + j * 6 + 3, none⟩ = some (.slice am2 x.M.length cm2) ∧ w'.cell? ⟨b', off + j * 6 + 4, none⟩ = some (.slice al2 x.L.length cl2) ∧ w'.cell? ⟨b', off + j * 6 + 5, none⟩ = some (.slice at2 x.T.length ct2)) w2 := ⟨(hb2.cell (p := ⟨w.heap.size, 4, none⟩) hqr0).trans pr4, (hb2.cell (by show b' < wr.heap.size; omega)).trans c0, (hb2.cell (by show b' < wr.heap.size; omega)).trans c1, (hb2.cell (by show b' < wr.heap.size; omega)).trans c2, (hb2.cell (by show b' < wr.heap.size; omega)).trans c3, (hb2.cell (by show b' < wr.heap.size; omega)).trans c4, (hb2.cell (by show b' < wr.heap.size; omega)).trans c5⟩
        have Hb2 := Lib.hid hb2
        have Hi2 := Lib.hid hi2
        clear hi2 hi'
        refine hK.out _ _ ⟨fun _ => hS2, hT2⟩ ?_
        clear hK K
        simp only [Act.put, List.setIfInBounds_toArray, List.set_cons_zero, List.set_cons_succ]
        refine Od.Till.one (i := 9) (by kernel_rfl) rfl (fun K hK => ?_)
        go_simp
        obtain ⟨i0, hi, hy0, hy1, hy2⟩ := info_parts datum_info
        have hX : Below w2.heap.size w2 (w2.alloc (.cells #[.int .i64 (madeD true x).K, .int .i64 (madeD true x).N, .string (madeD true x).S, .slice am3 (madeD true x).M.length cm3, .slice al3 (madeD true x).L.length cl3, .slice at3 (madeD true x).T.length ct3] 25)) := bel_alloc _ _
        have gX : Blk (w2.alloc (.cells #[.int .i64 (madeD true x).K, .int .i64 (madeD true x).N, .string (madeD true x).S, .slice am3 (madeD true x).M.length cm3, .slice al3 (madeD true x).L.length cl3, .slice at3 (madeD true x).T.length ct3] 25)) w2.heap.size 25 #[.int .i64 (madeD true x).K, .int .i64 (madeD true x).N, .string (madeD true x).S, .slice am3 (madeD true x).M.length cm3, .slice al3 (madeD true x).L.length cl3, .slice at3 (madeD true x).T.length ct3] := heap_alloc_new w2 _
        have sX : (w2.alloc (.cells #[.int .i64 (madeD true x).K, .int .i64 (madeD true x).N, .string (madeD true x).S, .slice am3 (madeD true x).M.length cm3, .slice al3 (madeD true x).L.length cl3, .slice at3 (madeD true x).T.length ct3] 25)).heap.size = w2.heap.size + 1 := by simp
        generalize w2.alloc (.cells #[.int .i64 (madeD true x).K, .int .i64 (madeD true x).N, .string (madeD true x).S, .slice am3 (madeD true x).M.length cm3, .slice al3 (madeD true x).L.length cl3, .slice at3 (madeD true x).T.length ct3] 25) = X at *
        have hrX : Below wr.heap.size wr X := hb2.trans (hX.mono hb2.size)
        have hSX : (fun w' : World => w'.cell? ⟨w.heap.size + 2, 4, none⟩ = some (.slice pv j pc)) X := (hrX.cell (p := ⟨w.heap.size + 2, 4, none⟩) hqr).trans or
        have hTX : (fun w' : World => w'.cell? ⟨w.heap.size, 4, none⟩ = some (.slice (some ⟨b', off, none⟩) d.L.length cl) ∧ w'.cell? ⟨b', off + j * 6, none⟩ = some (.int .i64 x.K) ∧ w'.cell? ⟨b', off + j * 6 + 1, none⟩ = some (.int .i64 x.N) ∧ w'.cell? ⟨b', off + j * 6 + 2, none⟩ = some (.string x.S) ∧ w'.cell? ⟨b', off + j * 6 + 3, none⟩ = some (.slice am2 x.M.length cm2) ∧ w'.cell? ⟨b', off + j * 6 + 4, none⟩ = some (.slice al2 x.L.length cl2) ∧ w'.cell? ⟨b', off + j * 6 + 5, none⟩ = some (.slice at2 x.T.length ct2)) X := ⟨(hrX.cell (p := ⟨w.heap.size, 4, none⟩) hqr0).trans pr4, (hrX.cell (by show b' < wr.heap.size; omega)).trans c0, (hrX.cell (by show b' < wr.heap.size; omega)).trans c1, (hrX.cell (by show b' < wr.heap.size; omega)).trans c2, (hrX.cell (by show b' < wr.heap.size; omega)).trans c3, (hrX.cell (by show b' < wr.heap.size; omega)).trans c4, (hrX.cell (by show b' < wr.heap.size; omega)).trans c5⟩
        have ownX : X.ownsRow W2.heap.size 25 6 (.slice pv j pc) j xs := own_stay HR.out.2.2.1 (fun g _ hg => hrX.block g hg)
        refine hK.out _ _ ⟨fun _ => hSX, hTX⟩ ?_
        clear hK K
        refine Od.Till.one (i := 10) (by kernel_rfl) rfl (fun K hK => ?_)
        rw [if_pos (by kernel_rfl)]
        refine wp_append_lies X (.tmp 30) (.tmp 38) 23 (by rfl) W2.heap.size 25 i0 _ 6 104 Try.underlying23 hi hy0 hy1 hy2 rfl (by omega) (.slice pv j pc) j xs (by rfl) ownX ⟨w2.heap.size, 0, none⟩ 1 1 [.int .i64 (madeD true x).K, .int .i64 (madeD true x).N, .string (madeD true x).S, .slice am3 (madeD true x).M.length cm3, .slice al3 (madeD true x).L.length cl3, .slice at3 (madeD true x).T.length ct3] (by rfl) rfl (fun i u hu => by rw [add_plain, Nat.zero_add, gX.cell i, ← hu]; simp) (by simp [Value.oneCell']) (by omega) (by simp only [maxLen]; omega) (by omega) (by have := hrX.size; omega) X.heap.size rfl ?_
        intro g' cap2 w4 hown1 hg1 hat hlt1
        rw [ob_slice] at hat hg1
        have hm := made_end HTL.out HR.out.1 HR.out.2.1 (by have := H2.out.size; omega) HR.out.2.2.1 HR.out.2.2.2 Hb2.out Hi2.out hX hown1 hg1 hat
        have hpo : ob pv ≠ some (w.heap.size + 2) := fun e => by have := (HR.out.2.2.1.lt (w.heap.size + 2) (by rw [ob_slice]; exact e)).1; have := H2.out.size; omega
        have hpq : ob pv ≠ some w.heap.size := fun e => by have := (HR.out.2.2.1.lt w.heap.size (by rw [ob_slice]; exact e)).1; have := H2.out.size; omega
        have hpb : ob pv ≠ some b' := fun e => by have := (HR.out.2.2.1.lt b' (by rw [ob_slice]; exact e)).1; have := H2.out.size; omega
        have far : ∀ q o, q < X.heap.size → ob pv ≠ some q → w4.cell? ⟨q, o, none⟩ = X.cell? ⟨q, o, none⟩ := fun q o hq hd => hg1.cell_far _ hq (fun h => hd h.symm)
        have sX2 := hrX.size
        have hS4 : (fun w' : World => w'.cell? ⟨w.heap.size + 2, 4, none⟩ = some (.slice pv j pc)) w4 := (far _ 4 (by omega) hpo).trans hSX
        have hT4 : (fun w' : World => w'.cell? ⟨w.heap.size, 4, none⟩ = some (.slice (some ⟨b', off, none⟩) d.L.length cl) ∧ w'.cell? ⟨b', off + j * 6, none⟩ = some (.int .i64 x.K) ∧ w'.cell? ⟨b', off + j * 6 + 1, none⟩ = some (.int .i64 x.N) ∧ w'.cell? ⟨b', off + j * 6 + 2, none⟩ = some (.string x.S) ∧ w'.cell? ⟨b', off + j * 6 + 3, none⟩ = some (.slice am2 x.M.length cm2) ∧ w'.cell? ⟨b', off + j * 6 + 4, none⟩ = some (.slice al2 x.L.length cl2) ∧ w'.cell? ⟨b', off + j * 6 + 5, none⟩ = some (.slice at2 x.T.length ct2)) w4 := ⟨(far _ 4 (by omega) hpq).trans hTX.1, (far b' _ (by omega) hpb).trans hTX.2.1, (far b' _ (by omega) hpb).trans hTX.2.2.1, (far b' _ (by omega) hpb).trans hTX.2.2.2.1, (far b' _ (by omega) hpb).trans hTX.2.2.2.2.1, (far b' _ (by omega) hpb).trans hTX.2.2.2.2.2.1, (far b' _ (by omega) hpb).trans hTX.2.2.2.2.2.2⟩
        have or4 : w4.cell? ⟨w.heap.size + 2, 4, none⟩ = some (.slice pv j pc) := hS4
        have orf4 : w4.frozen? ⟨w.heap.size + 2, 4, none⟩ = false := (hg1.frozen_far (a := ⟨w.heap.size + 2, 4, none⟩) (by show w.heap.size + 2 < _; omega) (fun h => hpo h.symm)).trans ((hrX.frozen (p := ⟨w.heap.size + 2, 4, none⟩) hqr).trans orf)
        refine hK.out _ _ ⟨fun _ => hS4, hT4⟩ ?_
        clear hK K
        simp only [Act.put, List.setIfInBounds_toArray, List.set_cons_zero, List.set_cons_succ]
        refine Od.Till.takeT (i := 11) (d := 40) (v := .pointer (some ⟨w.heap.size + 2, 4, none⟩)) rfl rfl (by kernel_rfl) (by kernel_rfl) (by kernel_rfl) (by kernel_rfl) (fun _ _ _ h => h) (.inl ⟨by rfl, ?_⟩) hS4 hT4 ?_
        · intro wx hSw
          obtain ⟨j0, j1, j2, j3, j4, j5, j6⟩ := hSw
          go_simp
        simp only [Act.put, List.setIfInBounds_toArray, List.set_cons_zero, List.set_cons_succ]
        have HM := Lib.hid hm
        clear hm hS0 hT0 hS2 hT2 hSX hTX hT4 hS4 ownX hown1 far
        refine Od.Till.one (i := 12) (by kernel_rfl) rfl (fun K hK => ?_)
        rw [if_pos (by kernel_rfl)]
        go_simp
        refine hK.out _ _ ⟨fun h => absurd h (by decide), ⟨(set_ne _ _ _ _ _ _ (.inl (by omega))).trans ((hg1.cell_far _ (by show w.heap.size < _; omega) (fun h => hpq h.symm)).trans ((hrX.cell (p := ⟨w.heap.size, 4, none⟩) hqr0).trans pr4)), (set_ne _ _ _ _ _ _ (.inl (by omega))).trans ((hg1.cell_far _ (by show b' < _; omega) (fun h => hpb h.symm)).trans ((hrX.cell (by show b' < wr.heap.size; omega)).trans c0)), (set_ne _ _ _ _ _ _ (.inl (by omega))).trans ((hg1.cell_far _ (by show b' < _; omega) (fun h => hpb h.symm)).trans ((hrX.cell (by show b' < wr.heap.size; omega)).trans c1)), (set_ne _ _ _ _ _ _ (.inl (by omega))).trans ((hg1.cell_far _ (by show b' < _; omega) (fun h => hpb h.symm)).trans ((hrX.cell (by show b' < wr.heap.size; omega)).trans c2)), (set_ne _ _ _ _ _ _ (.inl (by omega))).trans ((hg1.cell_far _ (by show b' < _; omega) (fun h => hpb h.symm)).trans ((hrX.cell (by show b' < wr.heap.size; omega)).trans c3)), (set_ne _ _ _ _ _ _ (.inl (by omega))).trans ((hg1.cell_far _ (by show b' < _; omega) (fun h => hpb h.symm)).trans ((hrX.cell (by show b' < wr.heap.size; omega)).trans c4)), (set_ne _ _ _ _ _ _ (.inl (by omega))).trans ((hg1.cell_far _ (by show b' < _; omega) (fun h => hpb h.symm)).trans ((hrX.cell (by show b' < wr.heap.size; omega)).trans c5))⟩⟩ (Od.Till.done (by kernel_rfl) ?_)
        clear hK K
        generalize w4.setCell ⟨w.heap.size + 2, 4, none⟩ (.slice (some ⟨g', 0, none⟩) (j + 1) cap2) = W5 at *
        go_wp2_with fail
        go_roundw
        case rel => exact ⟨j + 1, by omega, by go_num, by rw [take_snoc_dt _ _ _ Hx.out]; exact HM.out⟩
        case measure => simp [intOf]; omega
      · have dl : decide ((j : Int) < (d.L.length : Int)) = false := by simp [hlj]
        have hje : d.L.take j = d.L := List.take_of_length_le (by omega)
        have hfin : RowAt true W2 (w.heap.size + 2) 4 #[.int .i64 d.K, .int .i64 d.N, .string d.S, .slice a' d.M.length c', .slice none 0 0, .slice none 0 0] d.L wr := ⟨pv, pc, xs, HR.out.1, by have h := HR.out.2.1; rw [← HTL.out, hje] at h; exact h, by have h := HR.out.2.2.1; rw [← HTL.out, hje] at h; exact h, by have h := HR.out.2.2.2; rw [hje] at h; exact h⟩
        have HF := Lib.hid hfin
        clear hje hfin HR
        obtain ⟨la, lc, hbo, hf3, hls1, hld⟩ := HF.out.dts hl1
        have hsz := hf3.size
        have bo : Blk wr (w.heap.size + 2) 25 #[.int .i64 d.K, .int .i64 d.N, .string d.S, .slice a' d.M.length c', .slice la d.L.length lc, .slice none 0 0] := hbo.trans rfl
        have bq : Blk wr w.heap.size 25 #[.int .i64 d.K, .int .i64 d.N, .string d.S, .slice am d.M.length cm, .slice al d.L.length cl, .slice at_ d.T.length ct] := (hf3.block _ (by have := H2.out.size; omega) (by omega)).trans HQ.out
        have br : Blk wr (w.heap.size + 1) 25 #[.int .i64 0, .int .i64 0, .string ⟨#[]⟩, .slice none 0 0, .slice none 0 0, .slice none 0 0] := (hf3.block _ (by have := H2.out.size; omega) (by omega)).trans HR0.out
        have HQ3 := Lib.hid bq
        have HR3 := Lib.hid br
        have HO3 := Lib.hid bo
        have H3 := Lib.hid (MadeSt.more H2.out hf3)
        have HLD := Lib.hid (And.intro hf3 (And.intro hls1 hld))
        clear hbo hf3 hls1 hld bo bq br HF
        go_wp2_with fail
        clear or orf pr4 Hbr hqr hqr0
        obtain ⟨W3, hW3⟩ : ∃ W3 : World, W3 = wr := ⟨_, rfl⟩
        subst hW3
        go_loopw [7] (fun i wr => MadeAt true W3 (w.heap.size + 2) 5 #[.int .i64 d.K, .int .i64 d.N, .string d.S, .slice a' d.M.length c', .slice la d.L.length lc, .slice none 0 0] d.T i wr) (fun i _ => d.T.length - (intOf i).toNat)
        case atStart => exact RowAt.start _ _ _ _ _ _ HO3.out
        case round =>
          obtain ⟨j, hj, rfl, pv, pc, xs, hf, hb, ho, hr⟩ := hrel
          have htl : (d.T.take j).length = j := by rw [List.length_take]; omega
          rw [htl] at hb ho
          have hsr := hf.size
          have pr : Blk wr w.heap.size 25 #[.int .i64 d.K, .int .i64 d.N, .string d.S, .slice am d.M.length cm, .slice al d.L.length cl, .slice at_ d.T.length ct] := (hf.block _ (by have := H3.out.size; omega) (by omega)).trans HQ3.out
          have pr5 : wr.cell? ⟨w.heap.size, 5, none⟩ = some (.slice at_ d.T.length ct) := (pr.cell 5).trans rfl
          have or : wr.cell? ⟨w.heap.size + 2, 5, none⟩ = some (.slice pv j pc) := (hb.cell 5).trans rfl
          have orf : wr.frozen? ⟨w.heap.size + 2, 5, none⟩ = false := hb.frozen 5
          have hqr : w.heap.size + 2 < wr.heap.size := by have := H3.out.size; omega
          have hqr0 : w.heap.size < wr.heap.size := by omega
          have hbr : Below w.heap.size w wr := H3.out.below.trans (hf.below (by have := H3.out.size; omega) (fun i hi hs => by omega))
          have HR := Lib.hid (And.intro hf (And.intro hb (And.intro ho hr)))
          have Hbr := Lib.hid hbr
          have HTL := Lib.hid htl
          clear hf hb ho hr hbr pr htl
          by_cases hlj : j < d.T.length
          · have dl : decide ((j : Int) < (d.T.length : Int)) = true := by simp [hlj]
            obtain ⟨x, hx⟩ : ∃ x, d.T[j]? = some x := ⟨d.T[j], by simp [hlj]⟩
            obtain ⟨b', off, am2, cm2, al2, cl2, at2, ct2, rfl, hb', hsix, hix⟩ := Hts.out.at6 j x hx
            have hbw : b' < w.heap.size := Nat.lt_of_lt_of_le hb' hBw
            obtain ⟨c0, c1, c2, c3, c4, c5⟩ := hsix.keep (w' := wr) (fun o => Hbr.out.cell (p := ⟨b', o, none⟩) hbw)
            have k0 : (0 : Int) ≤ (j : Int) := Int.natCast_nonneg _
            have k1 : (j : Int) < (d.T.length : Int) := by omega
            have Hx := Lib.hid hx
            have Hix := Lib.hid (hix.below (Hbr.out.mono hBw))
            have hjm : j * 104 ≤ 140737488351232 := by omega
            clear hx hix hsix
            go_wp2_with fail
            refine Od.till_region 12 (fun w' : World => w'.cell? ⟨w.heap.size + 2, 5, none⟩ = some (.slice pv j pc)) (fun w' : World => w'.cell? ⟨w.heap.size, 5, none⟩ = some (.slice (some ⟨b', off, none⟩) d.T.length ct) ∧ w'.cell? ⟨b', off + j * 6, none⟩ = some (.int .i64 x.K) ∧ w'.cell? ⟨b', off + j * 6 + 1, none⟩ = some (.int .i64 x.N) ∧ w'.cell? ⟨b', off + j * 6 + 2, none⟩ = some (.string x.S) ∧ w'.cell? ⟨b', off + j * 6 + 3, none⟩ = some (.slice am2 x.M.length cm2) ∧ w'.cell? ⟨b', off + j * 6 + 4, none⟩ = some (.slice al2 x.L.length cl2) ∧ w'.cell? ⟨b', off + j * 6 + 5, none⟩ = some (.slice at2 x.T.length ct2)) 13 (by kernel_rfl) rfl ?_
            simp only [Array.replicate_succ, Array.replicate_zero, List.push_toArray, List.nil_append, List.cons_append]
            have hS0 : (fun w' : World => w'.cell? ⟨w.heap.size + 2, 5, none⟩ = some (.slice pv j pc)) wr.drew := or
            have hT0 : (fun w' : World => w'.cell? ⟨w.heap.size, 5, none⟩ = some (.slice (some ⟨b', off, none⟩) d.T.length ct) ∧ w'.cell? ⟨b', off + j * 6, none⟩ = some (.int .i64 x.K) ∧ w'.cell? ⟨b', off + j * 6 + 1, none⟩ = some (.int .i64 x.N) ∧ w'.cell? ⟨b', off + j * 6 + 2, none⟩ = some (.string x.S) ∧ w'.cell? ⟨b', off + j * 6 + 3, none⟩ = some (.slice am2 x.M.length cm2) ∧ w'.cell? ⟨b', off + j * 6 + 4, none⟩ = some (.slice al2 x.L.length cl2) ∧ w'.cell? ⟨b', off + j * 6 + 5, none⟩ = some (.slice at2 x.T.length ct2)) wr.drew := ⟨pr5, c0, c1, c2, c3, c4, c5⟩
            refine Od.Till.take (i := 0) (d := 48) (v := .pointer (some ⟨w.heap.size + 2, 5, none⟩)) rfl rfl (by kernel_rfl) (by kernel_rfl) (by kernel_rfl) (by kernel_rfl) (fun _ _ _ h => h) (.inl ⟨by rfl, ?_⟩) hS0 hT0 ?_
            · intro wx hSw
              have j0 := hSw
              go_simp
            simp only [Act.put, List.setIfInBounds_toArray, List.set_cons_zero, List.set_cons_succ]
            refine Od.Till.take (i := 1) (d := 49) (v := .slice pv j pc) rfl rfl (by kernel_rfl) (by kernel_rfl) (by kernel_rfl) (by kernel_rfl) (fun _ _ _ h => h) (.inl ⟨by rfl, ?_⟩) hS0 hT0 ?_
            · intro wx hSw
              have j0 := hSw
              go_simp
            simp only [Act.put, List.setIfInBounds_toArray, List.set_cons_zero, List.set_cons_succ]
            refine Od.Till.takeT (i := 2) (d := 50) (v := .pointer (some ⟨w.heap.size, 5, none⟩)) rfl rfl (by kernel_rfl) (by kernel_rfl) (by kernel_rfl) (by kernel_rfl) (fun _ _ _ h => h) (.inl ⟨by rfl, ?_⟩) hS0 hT0 ?_
            · intro wx hSw
              obtain ⟨j0, j1, j2, j3, j4, j5, j6⟩ := hSw
              go_simp
            simp only [Act.put, List.setIfInBounds_toArray, List.set_cons_zero, List.set_cons_succ]
            refine Od.Till.takeT (i := 3) (d := 51) (v := .slice (some ⟨b', off, none⟩) d.T.length ct) rfl rfl (by kernel_rfl) (by kernel_rfl) (by kernel_rfl) (by kernel_rfl) (fun _ _ _ h => h) (.inl ⟨by rfl, ?_⟩) hS0 hT0 ?_
            · intro wx hSw
              obtain ⟨j0, j1, j2, j3, j4, j5, j6⟩ := hSw
              go_simp
            simp only [Act.put, List.setIfInBounds_toArray, List.set_cons_zero, List.set_cons_succ]
            refine Od.Till.takeT (i := 4) (d := 52) (v := .int .i64 (j : Int)) rfl rfl (by kernel_rfl) (by kernel_rfl) (by kernel_rfl) (by kernel_rfl) (fun _ _ _ h => h) (.inl ⟨by rfl, ?_⟩) hS0 hT0 ?_
            · intro wx hSw
              obtain ⟨j0, j1, j2, j3, j4, j5, j6⟩ := hSw
              go_simp
            simp only [Act.put, List.setIfInBounds_toArray, List.set_cons_zero, List.set_cons_succ]
            refine Od.Till.takeT (i := 5) (d := 53) (v := .pointer (some ⟨b', off + j * 6, none⟩)) rfl rfl (by kernel_rfl) (by kernel_rfl) (by kernel_rfl) (by kernel_rfl) (fun _ _ _ h => h) (.inl ⟨by rfl, ?_⟩) hS0 hT0 ?_
            · intro wx hSw
              obtain ⟨j0, j1, j2, j3, j4, j5, j6⟩ := hSw
              go_simp
              try (intro h; omega)
            simp only [Act.put, List.setIfInBounds_toArray, List.set_cons_zero, List.set_cons_succ]
            refine Od.Till.takeT (i := 6) (d := 54) (v := .agg #[.int .i64 x.K, .int .i64 x.N, .string x.S, .slice am2 x.M.length cm2, .slice al2 x.L.length cl2, .slice at2 x.T.length ct2]) rfl rfl (by kernel_rfl) (by kernel_rfl) (by kernel_rfl) (by kernel_rfl) (fun _ _ _ h => h) (.inl ⟨by rfl, ?_⟩) hS0 hT0 ?_
            · intro wx hSw
              obtain ⟨j0, j1, j2, j3, j4, j5, j6⟩ := hSw
              go_simp
            simp only [Act.put, List.setIfInBounds_toArray, List.set_cons_zero, List.set_cons_succ]
            refine Od.Till.takeT (i := 7) (d := 55) (v := .bool true) rfl rfl (by kernel_rfl) (by kernel_rfl) (by kernel_rfl) (by kernel_rfl) (fun _ _ _ h => h) (.inl ⟨by rfl, ?_⟩) hS0 hT0 ?_
            · intro wx hSw
              obtain ⟨j0, j1, j2, j3, j4, j5, j6⟩ := hSw
              go_simp
            simp only [Act.put, List.setIfInBounds_toArray, List.set_cons_zero, List.set_cons_succ]
            refine Od.Till.one (i := 8) (by kernel_rfl) rfl (fun K hK => ?_)
            go_simp
            refine (IHT.out x (List.mem_of_getElem? Hx.out) _ B wr.drew (IsDt.keep (w := wr) (w' := wr.drew) (fun _ h => h) (fun _ _ _ => rfl) _ _ Hix.out) (by show B ≤ wr.heap.size; omega)).mono ?_
            rintro e w2 ⟨v', rfl, hb2, hi2⟩
            have hi' := hi2
            obtain ⟨am3, cm3, al3, cl3, at3, ct3, rfl, _⟩ := hi'.open_
            replace hb2 : Below wr.heap.size wr w2 := ⟨hb2.os, hb2.tape, hb2.output, hb2.size, hb2.block⟩
            replace hi2 : IsDt w2 (Rg wr.heap.size w2.heap.size) _ _ := hi2
            have hS2 : (fun w' : World => w'.cell? ⟨w.heap.size + 2, 5, none⟩ = some (.slice pv j pc)) w2 := (hb2.cell (p := ⟨w.heap.size + 2, 5, none⟩) hqr).trans or
            have hT2 : (fun w' : World => w'.cell? ⟨w.heap.size, 5, none⟩ = some (.slice (some ⟨b', off, none⟩) d.T.length ct) ∧ w'.cell? ⟨b', off + j * 6, none⟩ = some (.int .i64 x.K) ∧ w'.cell? ⟨b', off + j * 6 + 1, none⟩ = some (.int .i64 x.N) ∧ w'.cell? ⟨b', off + j * 6 + 2, none⟩ = some (.string x.S) ∧ w'.cell? ⟨b', off + j * 6 + 3, none⟩ = some (.slice am2 x.M.length cm2) ∧ w'.cell? ⟨b', off + j * 6 + 4, none⟩ = some (.slice al2 x.L.length cl2) ∧ w'.cell? ⟨b', off + j * 6 + 5, none⟩ = some (.slice at2 x.T.length ct2)) w2 := ⟨(hb2.cell (p := ⟨w.heap.size, 5, none⟩) hqr0).trans pr5, (hb2.cell (by show b' < wr.heap.size; omega)).trans c0, (hb2.cell (by show b' < wr.heap.size; omega)).trans c1, (hb2.cell (by show b' < wr.heap.size; omega)).trans c2, (hb2.cell (by show b' < wr.heap.size; omega)).trans c3, (hb2.cell (by show b' < wr.heap.size; omega)).trans c4, (hb2.cell (by show b' < wr.heap.size; omega)).trans c5⟩
            have Hb2 := Lib.hid hb2
            have Hi2 := Lib.hid hi2
            clear hi2 hi'
            refine hK.out _ _ ⟨fun _ => hS2, hT2⟩ ?_
            clear hK K
            simp only [Act.put, List.setIfInBounds_toArray, List.set_cons_zero, List.set_cons_succ]
            refine Od.Till.one (i := 9) (by kernel_rfl) rfl (fun K hK => ?_)
            go_simp
            obtain ⟨i0, hi, hy0, hy1, hy2⟩ := info_parts datum_info
            have hX : Below w2.heap.size w2 (w2.alloc (.cells #[.int .i64 (madeD true x).K, .int .i64 (madeD true x).N, .string (madeD true x).S, .slice am3 (madeD true x).M.length cm3, .slice al3 (madeD true x).L.length cl3, .slice at3 (madeD true x).T.length ct3] 25)) := bel_alloc _ _
            have gX : Blk (w2.alloc (.cells #[.int .i64 (madeD true x).K, .int .i64 (madeD true x).N, .string (madeD true x).S, .slice am3 (madeD true x).M.length cm3, .slice al3 (madeD true x).L.length cl3, .slice at3 (madeD true x).T.length ct3] 25)) w2.heap.size 25 #[.int .i64 (madeD true x).K, .int .i64 (madeD true x).N, .string (madeD true x).S, .slice am3 (madeD true x).M.length cm3, .slice al3 (madeD true x).L.length cl3, .slice at3 (madeD true x).T.length ct3] := heap_alloc_new w2 _
            have sX : (w2.alloc (.cells #[.int .i64 (madeD true x).K, .int .i64 (madeD true x).N, .string (madeD true x).S, .slice am3 (madeD true x).M.length cm3, .slice al3 (madeD true x).L.length cl3, .slice at3 (madeD true x).T.length ct3] 25)).heap.size = w2.heap.size + 1 := by simp
            generalize w2.alloc (.cells #[.int .i64 (madeD true x).K, .int .i64 (madeD true x).N, .string (madeD true x).S, .slice am3 (madeD true x).M.length cm3, .slice al3 (madeD true x).L.length cl3, .slice at3 (madeD true x).T.length ct3] 25) = X at *
            have hrX : Below wr.heap.size wr X := hb2.trans (hX.mono hb2.size)
            have hSX : (fun w' : World => w'.cell? ⟨w.heap.size + 2, 5, none⟩ = some (.slice pv j pc)) X := (hrX.cell (p := ⟨w.heap.size + 2, 5, none⟩) hqr).trans or
            have hTX : (fun w' : World => w'.cell? ⟨w.heap.size, 5, none⟩ = some (.slice (some ⟨b', off, none⟩) d.T.length ct) ∧ w'.cell? ⟨b', off + j * 6, none⟩ = some (.int .i64 x.K) ∧ w'.cell? ⟨b', off + j * 6 + 1, none⟩ = some (.int .i64 x.N) ∧ w'.cell? ⟨b', off + j * 6 + 2, none⟩ = some (.string x.S) ∧ w'.cell? ⟨b', off + j * 6 + 3, none⟩ = some (.slice am2 x.M.length cm2) ∧ w'.cell? ⟨b', off + j * 6 + 4, none⟩ = some (.slice al2 x.L.length cl2) ∧ w'.cell? ⟨b', off + j * 6 + 5, none⟩ = some (.slice at2 x.T.length ct2)) X := ⟨(hrX.cell (p := ⟨w.heap.size, 5, none⟩) hqr0).trans pr5, (hrX.cell (by show b' < wr.heap.size; omega)).trans c0, (hrX.cell (by show b' < wr.heap.size; omega)).trans c1, (hrX.cell (by show b' < wr.heap.size; omega)).trans c2, (hrX.cell (by show b' < wr.heap.size; omega)).trans c3, (hrX.cell (by show b' < wr.heap.size; omega)).trans c4, (hrX.cell (by show b' < wr.heap.size; omega)).trans c5⟩
            have ownX : X.ownsRow W3.heap.size 25 6 (.slice pv j pc) j xs := own_stay HR.out.2.2.1 (fun g _ hg => hrX.block g hg)
            refine hK.out _ _ ⟨fun _ => hSX, hTX⟩ ?_
            clear hK K
            refine Od.Till.one (i := 10) (by kernel_rfl) rfl (fun K hK => ?_)
            rw [if_pos (by kernel_rfl)]
            refine wp_append_lies X (.tmp 49) (.tmp 57) 23 (by rfl) W3.heap.size 25 i0 _ 6 104 Try.underlying23 hi hy0 hy1 hy2 rfl (by omega) (.slice pv j pc) j xs (by rfl) ownX ⟨w2.heap.size, 0, none⟩ 1 1 [.int .i64 (madeD true x).K, .int .i64 (madeD true x).N, .string (madeD true x).S, .slice am3 (madeD true x).M.length cm3, .slice al3 (madeD true x).L.length cl3, .slice at3 (madeD true x).T.length ct3] (by rfl) rfl (fun i u hu => by rw [add_plain, Nat.zero_add, gX.cell i, ← hu]; simp) (by simp [Value.oneCell']) (by omega) (by simp only [maxLen]; omega) (by omega) (by have := hrX.size; omega) X.heap.size rfl ?_
            intro g' cap2 w4 hown1 hg1 hat hlt1
            rw [ob_slice] at hat hg1
            have hm := made_end HTL.out HR.out.1 HR.out.2.1 (by have := H3.out.size; omega) HR.out.2.2.1 HR.out.2.2.2 Hb2.out Hi2.out hX hown1 hg1 hat
            have hpo : ob pv ≠ some (w.heap.size + 2) := fun e => by have := (HR.out.2.2.1.lt (w.heap.size + 2) (by rw [ob_slice]; exact e)).1; have := H3.out.size; omega
            have hpq : ob pv ≠ some w.heap.size := fun e => by have := (HR.out.2.2.1.lt w.heap.size (by rw [ob_slice]; exact e)).1; have := H3.out.size; omega
            have hpb : ob pv ≠ some b' := fun e => by have := (HR.out.2.2.1.lt b' (by rw [ob_slice]; exact e)).1; have := H3.out.size; omega
            have far : ∀ q o, q < X.heap.size → ob pv ≠ some q → w4.cell? ⟨q, o, none⟩ = X.cell? ⟨q, o, none⟩ := fun q o hq hd => hg1.cell_far _ hq (fun h => hd h.symm)
            have sX2 := hrX.size
            have hS4 : (fun w' : World => w'.cell? ⟨w.heap.size + 2, 5, none⟩ = some (.slice pv j pc)) w4 := (far _ 5 (by omega) hpo).trans hSX
            have hT4 : (fun w' : World => w'.cell? ⟨w.heap.size, 5, none⟩ = some (.slice (some ⟨b', off, none⟩) d.T.length ct) ∧ w'.cell? ⟨b', off + j * 6, none⟩ = some (.int .i64 x.K) ∧ w'.cell? ⟨b', off + j * 6 + 1, none⟩ = some (.int .i64 x.N) ∧ w'.cell? ⟨b', off + j * 6 + 2, none⟩ = some (.string x.S) ∧ w'.cell? ⟨b', off + j * 6 + 3, none⟩ = some (.slice am2 x.M.length cm2) ∧ w'.cell? ⟨b', off + j * 6 + 4, none⟩ = some (.slice al2 x.L.length cl2) ∧ w'.cell? ⟨b', off + j * 6 + 5, none⟩ = some (.slice at2 x.T.length ct2)) w4 := ⟨(far _ 5 (by omega) hpq).trans hTX.1, (far b' _ (by omega) hpb).trans hTX.2.1, (far b' _ (by omega) hpb).trans hTX.2.2.1, (far b' _ (by omega) hpb).trans hTX.2.2.2.1, (far b' _ (by omega) hpb).trans hTX.2.2.2.2.1, (far b' _ (by omega) hpb).trans hTX.2.2.2.2.2.1, (far b' _ (by omega) hpb).trans hTX.2.2.2.2.2.2⟩
            have or4 : w4.cell? ⟨w.heap.size + 2, 5, none⟩ = some (.slice pv j pc) := hS4
            have orf4 : w4.frozen? ⟨w.heap.size + 2, 5, none⟩ = false := (hg1.frozen_far (a := ⟨w.heap.size + 2, 5, none⟩) (by show w.heap.size + 2 < _; omega) (fun h => hpo h.symm)).trans ((hrX.frozen (p := ⟨w.heap.size + 2, 5, none⟩) hqr).trans orf)
            refine hK.out _ _ ⟨fun _ => hS4, hT4⟩ ?_
            clear hK K
            simp only [Act.put, List.setIfInBounds_toArray, List.set_cons_zero, List.set_cons_succ]
            refine Od.Till.takeT (i := 11) (d := 59) (v := .pointer (some ⟨w.heap.size + 2, 5, none⟩)) rfl rfl (by kernel_rfl) (by kernel_rfl) (by kernel_rfl) (by kernel_rfl) (fun _ _ _ h => h) (.inl ⟨by rfl, ?_⟩) hS4 hT4 ?_
            · intro wx hSw
              obtain ⟨j0, j1, j2, j3, j4, j5, j6⟩ := hSw
              go_simp
            simp only [Act.put, List.setIfInBounds_toArray, List.set_cons_zero, List.set_cons_succ]
            have HM := Lib.hid hm
            clear hm hS0 hT0 hS2 hT2 hSX hTX hT4 hS4 ownX hown1 far
            refine Od.Till.one (i := 12) (by kernel_rfl) rfl (fun K hK => ?_)
            rw [if_pos (by kernel_rfl)]
            go_simp
            refine hK.out _ _ ⟨fun h => absurd h (by decide), ⟨(set_ne _ _ _ _ _ _ (.inl (by omega))).trans ((hg1.cell_far _ (by show w.heap.size < _; omega) (fun h => hpq h.symm)).trans ((hrX.cell (p := ⟨w.heap.size, 5, none⟩) hqr0).trans pr5)), (set_ne _ _ _ _ _ _ (.inl (by omega))).trans ((hg1.cell_far _ (by show b' < _; omega) (fun h => hpb h.symm)).trans ((hrX.cell (by show b' < wr.heap.size; omega)).trans c0)), (set_ne _ _ _ _ _ _ (.inl (by omega))).trans ((hg1.cell_far _ (by show b' < _; omega) (fun h => hpb h.symm)).trans ((hrX.cell (by show b' < wr.heap.size; omega)).trans c1)), (set_ne _ _ _ _ _ _ (.inl (by omega))).trans ((hg1.cell_far _ (by show b' < _; omega) (fun h => hpb h.symm)).trans ((hrX.cell (by show b' < wr.heap.size; omega)).trans c2)), (set_ne _ _ _ _ _ _ (.inl (by omega))).trans ((hg1.cell_far _ (by show b' < _; omega) (fun h => hpb h.symm)).trans ((hrX.cell (by show b' < wr.heap.size; omega)).trans c3)), (set_ne _ _ _ _ _ _ (.inl (by omega))).trans ((hg1.cell_far _ (by show b' < _; omega) (fun h => hpb h.symm)).trans ((hrX.cell (by show b' < wr.heap.size; omega)).trans c4)), (set_ne _ _ _ _ _ _ (.inl (by omega))).trans ((hg1.cell_far _ (by show b' < _; omega) (fun h => hpb h.symm)).trans ((hrX.cell (by show b' < wr.heap.size; omega)).trans c5))⟩⟩ (Od.Till.done (by kernel_rfl) ?_)
            clear hK K
            generalize w4.setCell ⟨w.heap.size + 2, 5, none⟩ (.slice (some ⟨g', 0, none⟩) (j + 1) cap2) = W5 at *
            go_wp2_with fail
            go_roundw
            case rel => exact ⟨j + 1, by omega, by go_num, by rw [take_snoc_dt _ _ _ Hx.out]; exact HM.out⟩
            case measure => simp [intOf]; omega
          · have dl : decide ((j : Int) < (d.T.length : Int)) = false := by simp [hlj]
            have hje : d.T.take j = d.T := List.take_of_length_le (by omega)
            have hfin : RowAt true W3 (w.heap.size + 2) 5 #[.int .i64 d.K, .int .i64 d.N, .string d.S, .slice a' d.M.length c', .slice la d.L.length lc, .slice none 0 0] d.T wr := ⟨pv, pc, xs, HR.out.1, by have h := HR.out.2.1; rw [← HTL.out, hje] at h; exact h, by have h := HR.out.2.2.1; rw [← HTL.out, hje] at h; exact h, by have h := HR.out.2.2.2; rw [hje] at h; exact h⟩
            have HF := Lib.hid hfin
            clear hje hfin HR
            obtain ⟨ta, tc, hbo, hf3, hts1, htd⟩ := HF.out.dts ht1
            have hsz := hf3.size
            have br : Blk wr (w.heap.size + 1) 25 #[.int .i64 0, .int .i64 0, .string ⟨#[]⟩, .slice none 0 0, .slice none 0 0, .slice none 0 0] := (hf3.block _ (by have := H3.out.size; omega) (by omega)).trans HR3.out
            have bo : Blk wr (w.heap.size + 2) 25 #[.int .i64 d.K, .int .i64 d.N, .string d.S, .slice a' d.M.length c', .slice la d.L.length lc, .slice ta d.T.length tc] := hbo.trans rfl
            have r0 : wr.cell? ⟨w.heap.size + 1, 0, none⟩ = some (.int .i64 0) := (br.cell 0).trans rfl
            have rf0 := br.frozen 0
            have o0 : wr.cell? ⟨w.heap.size + 2, 0, none⟩ = some (.int .i64 d.K) := (bo.cell 0).trans rfl
            have r1 : wr.cell? ⟨w.heap.size + 1, 1, none⟩ = some (.int .i64 0) := (br.cell 1).trans rfl
            have rf1 := br.frozen 1
            have o1 : wr.cell? ⟨w.heap.size + 2, 1, none⟩ = some (.int .i64 d.N) := (bo.cell 1).trans rfl
            have r2 : wr.cell? ⟨w.heap.size + 1, 2, none⟩ = some (.string ⟨#[]⟩) := (br.cell 2).trans rfl
            have rf2 := br.frozen 2
            have o2 : wr.cell? ⟨w.heap.size + 2, 2, none⟩ = some (.string d.S) := (bo.cell 2).trans rfl
            have r3 : wr.cell? ⟨w.heap.size + 1, 3, none⟩ = some (.slice none 0 0) := (br.cell 3).trans rfl
            have rf3 := br.frozen 3
            have o3 : wr.cell? ⟨w.heap.size + 2, 3, none⟩ = some (.slice a' d.M.length c') := (bo.cell 3).trans rfl
            have r4 : wr.cell? ⟨w.heap.size + 1, 4, none⟩ = some (.slice none 0 0) := (br.cell 4).trans rfl
            have rf4 := br.frozen 4
            have o4 : wr.cell? ⟨w.heap.size + 2, 4, none⟩ = some (.slice la d.L.length lc) := (bo.cell 4).trans rfl
            have r5 : wr.cell? ⟨w.heap.size + 1, 5, none⟩ = some (.slice none 0 0) := (br.cell 5).trans rfl
            have rf5 := br.frozen 5
            have o5 : wr.cell? ⟨w.heap.size + 2, 5, none⟩ = some (.slice ta d.T.length tc) := (bo.cell 5).trans rfl
            have hlr : w.heap.size + 1 < wr.heap.size := by omega
            have HBO := Lib.hid (And.intro hf3 (And.intro hts1 htd))
            clear hbo hf3 hts1 htd br bo or orf
            go_wp2_with fail
            obtain ⟨hsf, hss⟩ := HBO.out
            refine bodyPost_ret (v := .agg #[.int .i64 d.K, .int .i64 d.N, .string d.S, .slice a' d.M.length c', .slice la d.L.length lc, .slice ta d.T.length tc]) ?_ rfl ?_
            · simp [results, Try.results46, go_sem, r0, r1, r2, r3, r4, r5, hlr]
            · exact made_fin (mk := true) H2.out HMR.out HLD.out.1 HLD.out.2.1 HLD.out.2.2 HBO.out.1 HBO.out.2.1 HBO.out.2.2 wk wn ws (set6_fr wr (w.heap.size + 1) 0 _ _ _ _ _ _)
theorem made_all (mk : Bool) (d : Dt) : MadeIs mk d := Dt.ind (fun k n s m l t hl ht => made_step mk (.mk k n s m l t) hl ht) d
end Go.Proofs.Ytjmchodddobleaa.Da
