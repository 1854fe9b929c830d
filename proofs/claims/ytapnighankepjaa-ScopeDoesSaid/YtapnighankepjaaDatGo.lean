/- The document's walk over the parts of a datum: one datum, whatever stands ahead of it. -/
import Derived.Test.YtapnighankepjaaDatGoEnd
import Derived.Deep.DrawnRows
import Derived.Maps.AppendAt
namespace Go.Proofs.Ytapnighankepjaa.Da
open Go.ChangeShapes Go.WideShapes Go.ChangeAt Go.RowKit
set_option maxRecDepth 100000

theorem int_info : (Try.prog.info? 3).map (fun i => (i.zero, i.size, i.bytes)) = some (some (.int .i64 0), 1, 8) := by kernel_rfl
def GoIs (d : Dt) : Prop := ∀ (k : Nat) (kI : Int) (v : Value) (B b : Nat) (pre : List (Dt × Nat)) (er : Int) (pv dv : Option Addr) (pc dc : Nat) (xs : List Value) (w : World), kI = (k : Int) → IsDt w (Lo B) d v → Wk w B b (pre, er) pv dv pc dc xs → k ≤ 65 →
    Calls Try.prog 53 #[.pointer (some ⟨b, 0, none⟩), v, .int .i64 kI] w (GoP B b (goAll (pre, er) (nodes d k)) pv dv w)
theorem go_same {w W : World} {B b : Nat} {st : St} {pv dv : Option Addr} {pc dc : Nat} {xs : List Value} (h : Wk w B b st pv dv pc dc xs) (hb : Below w.heap.size w W) : GoR B b st pv dv w W :=
  ⟨pv, dv, pc, dc, xs, h.keep hb, Fr.of_bel hb _, fun _ hg => .inl hg, fun _ hg => .inl hg⟩
theorem go_err {w W : World} {B b : Nat} {pre : List (Dt × Nat)} {er : Int} {pv dv : Option Addr} {pc dc : Nat} {xs : List Value} (h : Wk w B b (pre, er) pv dv pc dc xs) (hb : Below w.heap.size w W) (e : Int) : GoR B b (pre, e) pv dv w (W.setCell ⟨b, 2, none⟩ (.int .i64 e)) :=
  ⟨pv, dv, pc, dc, xs, (h.keep hb).setErr e, (Fr.of_bel hb _).setCell (.inl (.inl rfl)) _, fun _ hg => .inl hg, fun _ hg => .inl hg⟩
theorem GoR.more {B b : Nat} {st : St} {pv dv : Option Addr} {w W W2 : World} (h : GoR B b st pv dv w W) (hb : Below W.heap.size W W2) : GoR B b st pv dv w W2 := by
  obtain ⟨pv', dv', pc', dc', xs', hk, hf, h1, h2⟩ := h
  exact ⟨pv', dv', pc', dc', xs', hk.keep hb, hf.trans (Fr.of_bel hb _), h1, h2⟩
theorem go_err2 {w : World} {B b : Nat} {pre : List (Dt × Nat)} {er : Int} {pv dv : Option Addr} {pc dc : Nat} {xs : List Value} (h : Wk w B b (pre, er) pv dv pc dc xs) (o : Obj) (e : Int) : GoR B b (pre, e) pv dv w ((w.setCell ⟨b, 2, none⟩ (.int .i64 e)).alloc o) :=
  (go_err h (bel_refl w) e).more (bel_alloc _ _)
theorem go_bad_node {pre : List (Dt × Nat)} {d : Dt} {k : Nat} {e : Int} (h : mErr pre.length d k = e) (h0 : e ≠ 0) : goAll (pre, 0) (nodes d k) = (pre, e) := by
  rw [nodes_eq]
  show goAll (goStep (pre, 0) (d, k)) _ = _
  have hs : goStep (pre, 0) (d, k) = (pre, e) := by unfold goStep; rw [if_pos rfl]; show (if mErr pre.length d k = 0 then _ else _) = _; rw [h, if_neg h0]
  rw [hs]
  exact goAll_bad (st := (pre, e)) h0 _
theorem go_good_node {pre : List (Dt × Nat)} {d : Dt} {k : Nat} (h : mErr pre.length d k = 0) : goAll (pre, 0) (nodes d k) = goAll (pre ++ [(d, k)], 0) (nodesL d.L (k + 1) ++ nodesL d.T (k + 1)) := by
  rw [nodes_eq]
  show goAll (goStep (pre, 0) (d, k)) _ = _
  have hs : goStep (pre, 0) (d, k) = (pre ++ [(d, k)], 0) := by unfold goStep; rw [if_pos rfl]; show (if mErr pre.length d k = 0 then _ else _) = _; rw [if_pos h]
  rw [hs]
/-- The loops' state. -/
def GoAt (B b : Nat) (st : St) (pv dv : Option Addr) (W1 : World) (ahead : List (Dt × Nat)) (l : List Dt) (k : Nat) (i : Value) (wr : World) : Prop :=
  ∃ j : Nat, j ≤ l.length ∧ i = .int .i64 (j : Int) ∧ GoR B b (goAll st (ahead ++ nodesL (l.take j) (k + 1))) pv dv W1 wr
theorem go_skip (d : Dt) (k : Nat) (v : Value) (B b : Nat) (pre : List (Dt × Nat)) (er : Int) (pv dv : Option Addr) (pc dc : Nat) (xs : List Value) (w : World) (hd : IsDt w (Lo B) d v) (hk : Wk w B b (pre, er) pv dv pc dc xs) (he : er ≠ 0) :
    Calls Try.prog 53 #[.pointer (some ⟨b, 0, none⟩), v, .int .i64 (k : Int)] w (GoP B b (goAll (pre, er) (nodes d k)) pv dv w) := by
  obtain ⟨am, cm, al, cl, at_, ct, rfl, _⟩ := hd.open_
  have c2 : w.cell? ⟨b, 2, none⟩ = some (.int .i64 er) := (hk.blk.cell 2).trans rfl
  have hlt := hk.blk.lt
  have de : (er != 0) = true := by simp [he]
  have HK := Lib.hid hk
  have HR := Lib.hid (goAll_bad (st := (pre, er)) he (nodes d k))
  clear hk hd he
  go_enter Try.func53, Try.ntmps53
  go_wp2_with fail
  go_end0
  exact ⟨rfl, by rw [HR.out]; exact go_same HK.out (bel_alloc _ _)⟩
theorem go_stop (d : Dt) (k : Nat) (v : Value) (B b : Nat) (pre : List (Dt × Nat)) (pv dv : Option Addr) (pc dc : Nat) (xs : List Value) (w : World) (hd : IsDt w (Lo B) d v) (hk : Wk w B b (pre, 0) pv dv pc dc xs) (he : mErr pre.length d k ≠ 0) (hk65 : k ≤ 65) :
    Calls Try.prog 53 #[.pointer (some ⟨b, 0, none⟩), v, .int .i64 (k : Int)] w (GoP B b (goAll (pre, 0) (nodes d k)) pv dv w) := by
  have hd' := hd
  obtain ⟨am, cm, al, cl, at_, ct, rfl, _⟩ := hd'.open_
  have HD := Lib.hid hd
  clear hd hd'
  have hlt := hk.blk.lt
  have hln := hk.len
  have hB := hk.hB
  have c0 : w.cell? ⟨b, 0, none⟩ = some (.slice pv pre.length pc) := (hk.blk.cell 0).trans rfl
  have c2 : w.cell? ⟨b, 2, none⟩ = some (.int .i64 0) := (hk.blk.cell 2).trans rfl
  have z2 := hk.blk.frozen 2
  by_cases h1 : 64 < k
  · have hm : mErr pre.length d k = 4 := by unfold mErr; rw [if_pos h1]
    have HR := Lib.hid (go_bad_node hm (by decide))
    have HK := Lib.hid hk
    have d1 : decide ((k : Int) > 64) = true := by simp; omega
    clear hk he hm
    go_enter Try.func53, Try.ntmps53
    go_wp2_with fail
    go_end0
    exact ⟨rfl, by rw [HR.out]; exact go_err2 HK.out _ 4⟩
  · have d1 : decide ((k : Int) > 64) = false := by simp; omega
    by_cases h2 : pre.length = 4096
    · have hm : mErr pre.length d k = 3 := by unfold mErr; rw [if_neg h1, if_pos h2]
      have HR := Lib.hid (go_bad_node hm (by decide))
      have HK := Lib.hid hk
      have d2 : decide ((pre.length : Int) ≥ 4096) = true := by simp; omega
      clear hk he hm h2
      go_enter Try.func53, Try.ntmps53
      go_wp2_with fail
      go_end0
      exact ⟨rfl, by rw [HR.out]; exact go_err2 HK.out _ 3⟩
    · have hp : properB d = false := by
        cases h3 : properB d
        · rfl
        · exact absurd (by unfold mErr; rw [if_neg h1, if_neg h2, if_pos h3]) he
      have hm : mErr pre.length d k = 20 := by unfold mErr; rw [if_neg h1, if_neg h2, hp]; rfl
      have HR := Lib.hid (go_bad_node hm (by decide))
      have HK := Lib.hid hk
      have HP := Lib.hid hp
      have d2 : decide ((pre.length : Int) ≥ 4096) = false := by simp only at hln; simp; omega
      clear hk he hm h2 hp
      go_enter Try.func53, Try.ntmps53
      go_wp2_with fail
      refine (alone_any d _ B _ (by exact HD.out.below ((Below.refl _ _).alloc (by omega) _)) (by simp; omega)).mono ?_
      rintro e W ⟨rfl, hb2⟩
      rw [HP.out]
      have HB := Lib.hid (bel_trans (bel_alloc w _) hb2)
      have c2' : W.cell? ⟨b, 2, none⟩ = some (.int .i64 0) := (HB.out.cell (p := ⟨b, 2, none⟩) hlt).trans c2
      have z2' : W.frozen? ⟨b, 2, none⟩ = false := (HB.out.frozen (p := ⟨b, 2, none⟩) hlt).trans z2
      have hltW : b < W.heap.size := Nat.lt_of_lt_of_le hlt HB.out.size
      clear hb2 c0 c2 z2
      go_wp2_with fail
      go_end0
      exact ⟨rfl, by rw [HR.out]; exact go_err HK.out HB.out 20⟩
theorem go_step (d : Dt) (ihL : ∀ x ∈ d.L, GoIs x) (ihT : ∀ x ∈ d.T, GoIs x) : GoIs d := by
  intro k kI v B b pre er pv dv pc dc xs w hkI hd hk hk65
  subst hkI
  by_cases he : er ≠ 0
  · exact go_skip d k v B b pre er pv dv pc dc xs w hd hk he
  obtain rfl : er = 0 := by simpa using he
  by_cases hm : mErr pre.length d k ≠ 0
  · exact go_stop d k v B b pre pv dv pc dc xs w hd hk hm hk65
  have hm0 : mErr pre.length d k = 0 := by simpa using hm
  obtain ⟨hk64, hn4, hp⟩ := mErr_zero hm0
  have hd' := hd
  obtain ⟨am, cm, al, cl, at_, ct, rfl, _, _, _, _, hl, hls, ht, hts⟩ := hd'.open_
  have hlt := hk.blk.lt
  have hln := hk.len
  have hBb := hk.hB
  have n0 := hk.bLt.1
  obtain ⟨n, hn⟩ : ∃ n, pre.length = n := ⟨_, rfl⟩
  have hn' : pre.length = n := hn
  have c0 : w.cell? ⟨b, 0, none⟩ = some (.slice pv n pc) := by rw [← hn]; exact (hk.blk.cell 0).trans rfl
  have c2 : w.cell? ⟨b, 2, none⟩ = some (.int .i64 0) := (hk.blk.cell 2).trans rfl
  have hown : w.ownsRow B 33 6 (.slice pv n pc) n xs := by rw [← hn]; exact hk.own0
  have hown1 : w.ownsRow B 3 1 (.slice dv n dc) n (pre.map fun x => .int .i64 (x.2 : Int)) := by rw [← hn]; exact hk.own1
  have hn5 : n < 4096 := by simp only at hln; omega
  have d1 : decide ((k : Int) > 64) = false := by simp; omega
  have d2 : decide ((n : Int) ≥ 4096) = false := by simp; omega
  have HR := Lib.hid (go_good_node hm0)
  have HK := Lib.hid hk
  have HP := Lib.hid hp
  have HD := Lib.hid hd
  have HN := Lib.hid hn
  have Hls := Lib.hid hls
  have Hts := Lib.hid hts
  have IHL := Lib.hid ihL
  have IHT := Lib.hid ihT
  have N0 := Lib.hid n0
  have Hown := Lib.hid hown
  have Hown1 := Lib.hid hown1
  have Hl := Lib.hid hl
  have Ht := Lib.hid ht
  have hl1 : (d.L.length : Int) ≤ 17592186044416 := by have a := hl.1; have b := hl.2.2.1; omega
  have ht1 : (d.T.length : Int) ≤ 17592186044416 := by have a := ht.1; have b := ht.2.2.1; omega
  clear hd hd' hk hm hm0 he hn4 hp hn hn' hls hts ihL ihT n0 hln hown hown1 hl ht
  go_enter Try.func53, Try.ntmps53
  go_wp2_with fail
  refine (alone_any d _ B _ (by exact HD.out.below ((Below.refl _ _).alloc (by omega) _)) (by simp; omega)).mono ?_
  rintro e W ⟨rfl, hb2⟩
  rw [HP.out]
  obtain ⟨hc2, hz2⟩ := bcell hb2
  have s2 := hb2.size
  have hsz : (w.alloc (.cells #[.int .i64 d.K, .int .i64 d.N, .string d.S, .slice am d.M.length cm, .slice al d.L.length cl, .slice at_ d.T.length ct] 33)).heap.size = w.heap.size + 1 := by simp
  have HBW := Lib.hid (bel_trans (bel_alloc w (.cells #[.int .i64 d.K, .int .i64 d.N, .string d.S, .slice am d.M.length cm, .slice al d.L.length cl, .slice at_ d.T.length ct] 33)) hb2)
  rw [hsz] at s2
  have hl0 : b < w.heap.size + 1 := by omega
  have hl1' : b < W.heap.size := by omega
  have hl2 : w.heap.size < W.heap.size := by omega
  have k0 : W.cell? ⟨b, 0, none⟩ = some (.slice pv n pc) := (HBW.out.cell (p := ⟨b, 0, none⟩) hlt).trans c0
  have g0 : Blk W w.heap.size 33 #[.int .i64 d.K, .int .i64 d.N, .string d.S, .slice am d.M.length cm, .slice al d.L.length cl, .slice at_ d.T.length ct] := (hb2.block w.heap.size (by rw [hsz]; omega)).trans (heap_alloc_new w _)
  have p0 : W.cell? ⟨w.heap.size, 0, none⟩ = some (.int .i64 d.K) := (g0.cell 0).trans rfl
  have p1 : W.cell? ⟨w.heap.size, 1, none⟩ = some (.int .i64 d.N) := (g0.cell 1).trans rfl
  have p2 : W.cell? ⟨w.heap.size, 2, none⟩ = some (.string d.S) := (g0.cell 2).trans rfl
  have p3 : W.cell? ⟨w.heap.size, 3, none⟩ = some (.slice am d.M.length cm) := (g0.cell 3).trans rfl
  have p4 : W.cell? ⟨w.heap.size, 4, none⟩ = some (.slice al d.L.length cl) := (g0.cell 4).trans rfl
  have p5 : W.cell? ⟨w.heap.size, 5, none⟩ = some (.slice at_ d.T.length ct) := (g0.cell 5).trans rfl
  have G0 := Lib.hid g0
  have Hc := Lib.hid (And.intro c0 c2)
  clear hc2 hz2 c0 c2 hsz s2 hb2 g0
  go_wp2_with fail
  refine Od.till_region 12 (fun w' : World => w'.cell? ⟨b, 0, none⟩ = some (.slice pv n pc)) (fun w' : World => w'.cell? ⟨w.heap.size, 0, none⟩ = some (.int .i64 d.K) ∧ w'.cell? ⟨w.heap.size, 1, none⟩ = some (.int .i64 d.N) ∧ w'.cell? ⟨w.heap.size, 2, none⟩ = some (.string d.S) ∧ w'.cell? ⟨w.heap.size, 3, none⟩ = some (.slice am d.M.length cm) ∧ w'.cell? ⟨w.heap.size, 4, none⟩ = some (.slice al d.L.length cl) ∧ w'.cell? ⟨w.heap.size, 5, none⟩ = some (.slice at_ d.T.length ct)) 13 (by kernel_rfl) rfl ?_
  simp only [Array.replicate_succ, Array.replicate_zero, List.push_toArray, List.nil_append, List.cons_append]
  have hS0 : (fun w' : World => w'.cell? ⟨b, 0, none⟩ = some (.slice pv n pc)) W.drew := k0
  have hT0 : (fun w' : World => w'.cell? ⟨w.heap.size, 0, none⟩ = some (.int .i64 d.K) ∧ w'.cell? ⟨w.heap.size, 1, none⟩ = some (.int .i64 d.N) ∧ w'.cell? ⟨w.heap.size, 2, none⟩ = some (.string d.S) ∧ w'.cell? ⟨w.heap.size, 3, none⟩ = some (.slice am d.M.length cm) ∧ w'.cell? ⟨w.heap.size, 4, none⟩ = some (.slice al d.L.length cl) ∧ w'.cell? ⟨w.heap.size, 5, none⟩ = some (.slice at_ d.T.length ct)) W.drew := ⟨p0, p1, p2, p3, p4, p5⟩
  refine Od.Till.take (i := 0) (d := 33) (v := .pointer (some ⟨b, 0, none⟩)) rfl rfl (by kernel_rfl) (by kernel_rfl) (by kernel_rfl) (by kernel_rfl) (fun _ _ _ h => h) (.inl ⟨by rfl, ?_⟩) hS0 hT0 ?_
  · intro wx hSw
    have j0 := hSw
    go_simp
  simp only [Act.put, List.setIfInBounds_toArray, List.set_cons_zero, List.set_cons_succ]
  refine Od.Till.take (i := 1) (d := 34) (v := .pointer (some ⟨b, 0, none⟩)) rfl rfl (by kernel_rfl) (by kernel_rfl) (by kernel_rfl) (by kernel_rfl) (fun _ _ _ h => h) (.inl ⟨by rfl, ?_⟩) hS0 hT0 ?_
  · intro wx hSw
    have j0 := hSw
    go_simp
  simp only [Act.put, List.setIfInBounds_toArray, List.set_cons_zero, List.set_cons_succ]
  refine Od.Till.take (i := 2) (d := 35) (v := .pointer (some ⟨b, 0, none⟩)) rfl rfl (by kernel_rfl) (by kernel_rfl) (by kernel_rfl) (by kernel_rfl) (fun _ _ _ h => h) (.inl ⟨by rfl, ?_⟩) hS0 hT0 ?_
  · intro wx hSw
    have j0 := hSw
    go_simp
  simp only [Act.put, List.setIfInBounds_toArray, List.set_cons_zero, List.set_cons_succ]
  refine Od.Till.take (i := 3) (d := 36) (v := .slice pv n pc) rfl rfl (by kernel_rfl) (by kernel_rfl) (by kernel_rfl) (by kernel_rfl) (fun _ _ _ h => h) (.inl ⟨by rfl, ?_⟩) hS0 hT0 ?_
  · intro wx hSw
    have j0 := hSw
    go_simp
  simp only [Act.put, List.setIfInBounds_toArray, List.set_cons_zero, List.set_cons_succ]
  refine Od.Till.takeT (i := 4) (d := 37) (v := .agg #[.int .i64 d.K, .int .i64 d.N, .string d.S, .slice am d.M.length cm, .slice al d.L.length cl, .slice at_ d.T.length ct]) rfl rfl (by kernel_rfl) (by kernel_rfl) (by kernel_rfl) (by kernel_rfl) (fun _ _ _ h => h) (.inl ⟨by rfl, ?_⟩) hS0 hT0 ?_
  · intro wx hSw
    obtain ⟨j0, j1, j2, j3, j4, j5⟩ := hSw
    go_simp
  simp only [Act.put, List.setIfInBounds_toArray, List.set_cons_zero, List.set_cons_succ]
  refine Od.Till.take (i := 5) (d := 38) (v := .int .i64 (n : Int)) rfl rfl (by kernel_rfl) (by kernel_rfl) (by kernel_rfl) (by kernel_rfl) (fun _ _ _ h => h) (.inl ⟨by rfl, ?_⟩) hS0 hT0 ?_
  · intro wx hSw
    have j0 := hSw
    go_simp
  simp only [Act.put, List.setIfInBounds_toArray, List.set_cons_zero, List.set_cons_succ]
  refine Od.Till.one (i := 6) (by kernel_rfl) rfl (fun K hK => ?_)
  go_simp
  obtain ⟨i0, hi, hy0, hy1, hy2⟩ := info_parts datum_info
  have hX : Below W.heap.size W ((W.alloc (.cells #[.int .i64 0, .int .i64 0, .string ⟨#[]⟩, .slice none 0 0, .slice none 0 0, .slice none 0 0] 33)).drew) := ((Fr.refl (fun _ => False) W).alloc _).drew.bel (fun _ _ h => h)
  have gX : Blk ((W.alloc (.cells #[.int .i64 0, .int .i64 0, .string ⟨#[]⟩, .slice none 0 0, .slice none 0 0, .slice none 0 0] 33)).drew) W.heap.size 33 #[.int .i64 0, .int .i64 0, .string ⟨#[]⟩, .slice none 0 0, .slice none 0 0, .slice none 0 0] := heap_alloc_new W _
  have sX : ((W.alloc (.cells #[.int .i64 0, .int .i64 0, .string ⟨#[]⟩, .slice none 0 0, .slice none 0 0, .slice none 0 0] 33)).drew).heap.size = W.heap.size + 1 := by simp
  generalize (W.alloc (.cells #[.int .i64 0, .int .i64 0, .string ⟨#[]⟩, .slice none 0 0, .slice none 0 0, .slice none 0 0] 33)).drew = X at *
  obtain ⟨hcX, hzX⟩ := bcell hX
  have HBX := Lib.hid (bel_trans HBW.out hX)
  have G0X : Blk X w.heap.size 33 #[.int .i64 d.K, .int .i64 d.N, .string d.S, .slice am d.M.length cm, .slice al d.L.length cl, .slice at_ d.T.length ct] := (hX.block _ hl2).trans G0.out
  have ownX : X.ownsRow B 33 6 (.slice pv n pc) n xs := own_stay Hown.out (fun g _ hg => HBX.out.block g hg)
  refine hK.out _ _ ⟨fun _ => (hcX b 0 hl1').trans k0, (hcX _ 0 hl2).trans p0, (hcX _ 1 hl2).trans p1, (hcX _ 2 hl2).trans p2, (hcX _ 3 hl2).trans p3, (hcX _ 4 hl2).trans p4, (hcX _ 5 hl2).trans p5⟩ ?_
  clear hK K
  refine Od.Till.one (i := 7) (by kernel_rfl) rfl (fun K hK => ?_)
  rw [if_pos (by kernel_rfl)]
  refine wp_append_lies X (.tmp 36) (.tmp 39) 31 (by rfl) B 33 i0 _ 6 104 Try.underlying31 hi hy0 hy1 hy2 rfl (by omega) (.slice pv n pc) n xs (by rfl) ownX ⟨W.heap.size, 0, none⟩ 1 1 [.int .i64 0, .int .i64 0, .string ⟨#[]⟩, .slice none 0 0, .slice none 0 0, .slice none 0 0] (by rfl) rfl (fun j u hu => by rw [add_plain, Nat.zero_add, gX.cell j, ← hu]; simp) (by simp [Value.oneCell']) (by omega) (by simp only [maxLen]; omega) (by omega) (by omega) X.heap.size rfl ?_
  intro g' cap2 w2 hown1 hg1 hat hlt1
  rw [ob_slice] at hat hg1
  have hq9 : w.heap.size + 1 < X.heap.size := by omega
  have hm := mid_of (pv := pv) (dv := dv) (pc := pc) (dc := dc) (g := g') (cap := cap2) (w2 := w2) (.int .i64 d.K) (.int .i64 d.N) (.string d.S) (.slice am d.M.length cm) (.slice al d.L.length cl) (.slice at_ d.T.length ct) HN.out HK.out rfl HBX.out hq9 G0X hown1 hg1 hat
  have far : ∀ q o, q < X.heap.size → ob pv ≠ some q → w2.cell? ⟨q, o, none⟩ = X.cell? ⟨q, o, none⟩ := fun q o hq hd => hg1.cell_far _ hq (fun h => hd h.symm)
  have fb : ob pv ≠ some b := fun e => (N0.out b e).2.2 rfl
  have fq : ob pv ≠ some w.heap.size := fun e => by have := (N0.out _ e).2.1; omega
  have sw2 := hg1.size
  have hgb : b ≠ g' := fun e => by
    have h1 : Blk w2 b 104 _ := (hg1.block b (by omega) (fun e => fb e.symm)).trans ((HBX.out.block b hlt).trans HK.out.blk)
    subst e
    exact row_ne h1 (by decide) hown1 rfl
  have hgq : w.heap.size ≠ g' := fun e => hm.gq e.symm
  have hS2 : (fun w' : World => w'.cell? ⟨b, 0, none⟩ = some (.slice pv n pc)) w2 := (far b 0 (by omega) fb).trans ((hcX b 0 hl1').trans k0)
  have hT2 : (fun w' : World => w'.cell? ⟨w.heap.size, 0, none⟩ = some (.int .i64 d.K) ∧ w'.cell? ⟨w.heap.size, 1, none⟩ = some (.int .i64 d.N) ∧ w'.cell? ⟨w.heap.size, 2, none⟩ = some (.string d.S) ∧ w'.cell? ⟨w.heap.size, 3, none⟩ = some (.slice am d.M.length cm) ∧ w'.cell? ⟨w.heap.size, 4, none⟩ = some (.slice al d.L.length cl) ∧ w'.cell? ⟨w.heap.size, 5, none⟩ = some (.slice at_ d.T.length ct)) w2 := ⟨(far _ 0 (by omega) fq).trans ((hcX _ 0 hl2).trans p0), (far _ 1 (by omega) fq).trans ((hcX _ 1 hl2).trans p1), (far _ 2 (by omega) fq).trans ((hcX _ 2 hl2).trans p2), (far _ 3 (by omega) fq).trans ((hcX _ 3 hl2).trans p3), (far _ 4 (by omega) fq).trans ((hcX _ 4 hl2).trans p4), (far _ 5 (by omega) fq).trans ((hcX _ 5 hl2).trans p5)⟩
  refine hK.out _ _ ⟨fun _ => hS2, hT2⟩ ?_
  clear hK K
  simp only [Act.put, List.setIfInBounds_toArray, List.set_cons_zero, List.set_cons_succ]
  refine Od.Till.takeT (i := 8) (d := 41) (v := .pointer (some ⟨g', n * 6, none⟩)) rfl rfl (by kernel_rfl) (by kernel_rfl) (by kernel_rfl) (by kernel_rfl) (fun _ _ _ h => h) (.inl ⟨by rfl, ?_⟩) hS2 hT2 ?_
  · intro wx hSw
    go_simp
    try (intro h; omega)
  simp only [Act.put, List.setIfInBounds_toArray, List.set_cons_zero, List.set_cons_succ]
  refine Od.Till.takeT (i := 10) (d := 42) (v := .pointer (some ⟨b, 0, none⟩)) rfl rfl (by kernel_rfl) (by kernel_rfl) (by kernel_rfl) (by kernel_rfl) (fun _ _ _ h => h) (.inl ⟨by rfl, ?_⟩) hS2 hT2 ?_
  · intro wx hSw
    go_simp
  simp only [Act.put, List.setIfInBounds_toArray, List.set_cons_zero, List.set_cons_succ]
  refine Od.Till.takeT (i := 11) (d := 43) (v := .pointer (some ⟨b, 0, none⟩)) rfl rfl (by kernel_rfl) (by kernel_rfl) (by kernel_rfl) (by kernel_rfl) (fun _ _ _ h => h) (.inl ⟨by rfl, ?_⟩) hS2 hT2 ?_
  · intro wx hSw
    go_simp
  simp only [Act.put, List.setIfInBounds_toArray, List.set_cons_zero, List.set_cons_succ]
  have hfz : ∀ o, w2.frozen? ⟨g', o, none⟩ = false := fun o => hown1.frozenAt o
  have hfb : w2.frozen? ⟨b, 0, none⟩ = false := (hg1.frozen_far (a := ⟨b, 0, none⟩) (by show b < _; omega) (fun h => fb h.symm)).trans ((HBX.out.frozen (p := ⟨b, 0, none⟩) hlt).trans (HK.out.blk.frozen 0))
  have hcl : ∀ r, r < 6 → ∃ u, w2.cell? ⟨g', n * 6 + r, none⟩ = some u := fun r hr => by
    refine ⟨(xs ++ [.int .i64 0, .int .i64 0, .string ⟨#[]⟩, .slice none 0 0, .slice none 0 0, .slice none 0 0])[n * 6 + r]'(by rw [hown1.1]; omega), ?_⟩
    rw [hown1.cellAt _ (by omega), List.getElem?_eq_getElem]
  obtain ⟨u0, e0⟩ := hcl 0 (by omega)
  obtain ⟨u1, e1⟩ := hcl 1 (by omega)
  obtain ⟨u2, e2⟩ := hcl 2 (by omega)
  obtain ⟨u3, e3⟩ := hcl 3 (by omega)
  obtain ⟨u4, e4⟩ := hcl 4 (by omega)
  obtain ⟨u5, e5⟩ := hcl 5 (by omega)
  rw [Nat.add_zero] at e0
  have z0 := hfz (n * 6)
  have z1 := hfz (n * 6 + 1)
  have z2 := hfz (n * 6 + 2)
  have z3 := hfz (n * 6 + 3)
  have z4 := hfz (n * 6 + 4)
  have z5 := hfz (n * 6 + 5)
  have eb : w2.cell? ⟨b, 0, none⟩ = some (.slice pv n pc) := hS2
  have hqb : w.heap.size ≠ b := by omega
  refine Od.Till.two (i := 9) (j := 12) (set6 w2 g' (n * 6) (.int .i64 d.K) (.int .i64 d.N) (.string d.S) (.slice am d.M.length cm) (.slice al d.L.length cl) (.slice at_ d.T.length ct)) (w2.setCell ⟨b, 0, none⟩ (.slice (some ⟨g', 0, none⟩) (n + 1) cap2)) ((set6 w2 g' (n * 6) (.int .i64 d.K) (.int .i64 d.N) (.string d.S) (.slice am d.M.length cm) (.slice al d.L.length cl) (.slice at_ d.T.length ct)).setCell ⟨b, 0, none⟩ (.slice (some ⟨g', 0, none⟩) (n + 1) cap2)) (by kernel_rfl) (by kernel_rfl) (by kernel_rfl) (by kernel_rfl) (by decide) ?h1 ?h2 ?h3 ?h4 ?c1 ?c2 ?c3 ?fin
  case h1 =>
    intro K hK
    refine wpOp_step rfl (fun K' hK' => ?_)
    rw [if_pos (by kernel_rfl)]
    go_simp
    exact hK' _ _ hK
  case h3 =>
    intro K hK
    refine wpOp_step rfl (fun K' hK' => ?_)
    rw [if_pos (by kernel_rfl)]
    go_simp
    exact hK' _ _ hK
  case h2 =>
    have y0 : (set6 w2 g' (n * 6) (.int .i64 d.K) (.int .i64 d.N) (.string d.S) (.slice am d.M.length cm) (.slice al d.L.length cl) (.slice at_ d.T.length ct)).cell? ⟨b, 0, none⟩ = some (.slice pv n pc) := (set6_ne _ _ _ _ _ _ _ _ _ _ _ (.inl hgb)).trans eb
    have y1 : (set6 w2 g' (n * 6) (.int .i64 d.K) (.int .i64 d.N) (.string d.S) (.slice am d.M.length cm) (.slice al d.L.length cl) (.slice at_ d.T.length ct)).frozen? ⟨b, 0, none⟩ = false := (set6_frozen _ _ _ _ _ _ _ _ _ _).trans hfb
    generalize (set6 w2 g' (n * 6) (.int .i64 d.K) (.int .i64 d.N) (.string d.S) (.slice am d.M.length cm) (.slice al d.L.length cl) (.slice at_ d.T.length ct)) = Wi at *
    intro K hK
    refine wpOp_step rfl (fun K' hK' => ?_)
    rw [if_pos (by kernel_rfl)]
    go_simp
    exact hK' _ _ hK
  case h4 =>
    intro K hK
    have hcm : (set6 w2 g' (n * 6) (.int .i64 d.K) (.int .i64 d.N) (.string d.S) (.slice am d.M.length cm) (.slice al d.L.length cl) (.slice at_ d.T.length ct)).setCell ⟨b, 0, none⟩ (.slice (some ⟨g', 0, none⟩) (n + 1) cap2) = set6 (w2.setCell ⟨b, 0, none⟩ (.slice (some ⟨g', 0, none⟩) (n + 1) cap2)) g' (n * 6) (.int .i64 d.K) (.int .i64 d.N) (.string d.S) (.slice am d.M.length cm) (.slice al d.L.length cl) (.slice at_ d.T.length ct) := by
      unfold set6
      have cm : ∀ (u : World) o x, (u.setCell ⟨g', o, none⟩ x).setCell ⟨b, 0, none⟩ (.slice (some ⟨g', 0, none⟩) (n + 1) cap2) = (u.setCell ⟨b, 0, none⟩ (.slice (some ⟨g', 0, none⟩) (n + 1) cap2)).setCell ⟨g', o, none⟩ x := fun u o x => Od.setCell_comm _ _ _ _ _ (Ne.symm hgb)
      rw [cm, cm, cm, cm, cm, cm]
    rw [hcm] at hK
    have hwj : ∀ r, (w2.setCell ⟨b, 0, none⟩ (.slice (some ⟨g', 0, none⟩) (n + 1) cap2)).cell? ⟨g', r, none⟩ = w2.cell? ⟨g', r, none⟩ := fun r => set_ne _ _ _ _ _ _ (.inl (Ne.symm hgb))
    have hwf : ∀ r, (w2.setCell ⟨b, 0, none⟩ (.slice (some ⟨g', 0, none⟩) (n + 1) cap2)).frozen? ⟨g', r, none⟩ = w2.frozen? ⟨g', r, none⟩ := fun r => World.frozen?_setCell _ _ _ _
    generalize w2.setCell ⟨b, 0, none⟩ (.slice (some ⟨g', 0, none⟩) (n + 1) cap2) = Wj at *
    replace e0 := (hwj _).trans e0
    replace e1 := (hwj _).trans e1
    replace e2 := (hwj _).trans e2
    replace e3 := (hwj _).trans e3
    replace e4 := (hwj _).trans e4
    replace e5 := (hwj _).trans e5
    replace z0 := (hwf _).trans z0
    replace z1 := (hwf _).trans z1
    replace z2 := (hwf _).trans z2
    replace z3 := (hwf _).trans z3
    replace z4 := (hwf _).trans z4
    replace z5 := (hwf _).trans z5
    clear hwj hwf hfz hS2 hT2
    refine wpOp_step rfl (fun K' hK' => ?_)
    rw [if_pos (by kernel_rfl)]
    go_simp
    exact hK' _ _ hK
  case c1 => exact ⟨fun _ => (set6_ne _ _ _ _ _ _ _ _ _ _ _ (.inl hgb)).trans eb, (set6_ne _ _ _ _ _ _ _ _ _ _ _ (.inl hgq)).trans hT2.1, (set6_ne _ _ _ _ _ _ _ _ _ _ _ (.inl hgq)).trans hT2.2.1, (set6_ne _ _ _ _ _ _ _ _ _ _ _ (.inl hgq)).trans hT2.2.2.1, (set6_ne _ _ _ _ _ _ _ _ _ _ _ (.inl hgq)).trans hT2.2.2.2.1, (set6_ne _ _ _ _ _ _ _ _ _ _ _ (.inl hgq)).trans hT2.2.2.2.2.1, (set6_ne _ _ _ _ _ _ _ _ _ _ _ (.inl hgq)).trans hT2.2.2.2.2.2⟩
  case c2 => exact ⟨fun h => absurd h (by decide), ((set_ne _ _ _ _ _ _ (.inl hqb)).trans (set6_ne _ _ _ _ _ _ _ _ _ _ _ (.inl hgq))).trans hT2.1, ((set_ne _ _ _ _ _ _ (.inl hqb)).trans (set6_ne _ _ _ _ _ _ _ _ _ _ _ (.inl hgq))).trans hT2.2.1, ((set_ne _ _ _ _ _ _ (.inl hqb)).trans (set6_ne _ _ _ _ _ _ _ _ _ _ _ (.inl hgq))).trans hT2.2.2.1, ((set_ne _ _ _ _ _ _ (.inl hqb)).trans (set6_ne _ _ _ _ _ _ _ _ _ _ _ (.inl hgq))).trans hT2.2.2.2.1, ((set_ne _ _ _ _ _ _ (.inl hqb)).trans (set6_ne _ _ _ _ _ _ _ _ _ _ _ (.inl hgq))).trans hT2.2.2.2.2.1, ((set_ne _ _ _ _ _ _ (.inl hqb)).trans (set6_ne _ _ _ _ _ _ _ _ _ _ _ (.inl hgq))).trans hT2.2.2.2.2.2⟩
  case c3 => exact ⟨fun h => absurd h (by decide), (set_ne _ _ _ _ _ _ (.inl hqb)).trans hT2.1, (set_ne _ _ _ _ _ _ (.inl hqb)).trans hT2.2.1, (set_ne _ _ _ _ _ _ (.inl hqb)).trans hT2.2.2.1, (set_ne _ _ _ _ _ _ (.inl hqb)).trans hT2.2.2.2.1, (set_ne _ _ _ _ _ _ (.inl hqb)).trans hT2.2.2.2.2.1, (set_ne _ _ _ _ _ _ (.inl hqb)).trans hT2.2.2.2.2.2⟩
  case fin =>
    clear hS2 hT2 e0 e1 e2 e3 e4 e5 z0 z1 z2 z3 z4 z5 eb hcl hfz hfb far ownX gX hcX hzX k0 p0 p1 p2 p3 p4 p5 hS0 hT0 hX sX hg1 hat hown1 G0X hi hy0 hy1 hy2
    generalize (set6 w2 g' (n * 6) (.int .i64 d.K) (.int .i64 d.N) (.string d.S) (.slice am d.M.length cm) (.slice al d.L.length cl) (.slice at_ d.T.length ct)).setCell ⟨b, 0, none⟩ (.slice (some ⟨g', 0, none⟩) (n + 1) cap2) = Wf at *
    obtain ⟨i1, hi, hy0, hy1, hy2⟩ := info_parts int_info
    have hbF := hm.blk.lt
    have k1 : Wf.cell? ⟨b, 1, none⟩ = some (.slice dv n dc) := (hm.blk.cell 1).trans rfl
    have hownF : Wf.ownsRow B 3 1 (.slice dv n dc) n (pre.map fun x => .int .i64 (x.2 : Int)) := hm.own1
    have HM := Lib.hid hm
    have hBF : B ≤ Wf.heap.size := by omega
    have hb4 : ∀ W4, (Wf.alloc (.cells #[.int .i64 (k : Int)] 3)).grownBy W4 (Value.slice dv n dc).ownBlock → W4.cell? ⟨b, 1, none⟩ = some (.slice dv n dc) ∧ W4.frozen? ⟨b, 1, none⟩ = false := fun W4 h4 => by
      have h5 : Blk W4 b 104 _ := (h4.block b (by simp; omega) (fun e => by rw [ob_slice] at e; exact (HK.out.bLt.2 b e.symm).2.2 rfl)).trans ((Below.heap_alloc _ _ _ hbF).trans HM.out.blk)
      exact ⟨(h5.cell 1).trans rfl, h5.frozen 1⟩
    have HB4 := Lib.hid hb4
    clear hm hb4
    go_wp2_with (at_builtin; refine wpList_append_lies _ rfl _ _ _ rfl B 3 i1 _ 1 8 Try.underlying30 hi hy0 hy1 hy2 rfl (by omega) (.slice dv n dc) n (pre.map fun x => .int .i64 (x.2 : Int)) rfl (hownF.alloc _) ⟨Wf.heap.size, 0, none⟩ 1 1 [.int .i64 (k : Int)] rfl rfl (cell_one_new _ _ _) (by simp [Value.oneCell']) (by omega) (by simp only [maxLen]; omega) (by omega) (by simp; omega) (Wf.heap.size + 1) (by simp) ?_; intro g2 cap3 W4 hown2 hg2 hat2 hlt2; obtain ⟨q1, q2⟩ := HB4.out _ hg2)
    rw [ob_slice] at hg2 hat2
    obtain ⟨W5, hW5, hk5, hf5, hp5, hq5, hqs, h6, h7⟩ := wk_of HN.out (by omega) HK.out rfl HM.out HD.out (bel_alloc Wf _) (by simp) hown2 hg2 (by simp only [World.size_alloc]; exact hat2)
    rw [hW5]
    clear hW5 hown2 hg2 hat2 hlt2 q1 q2 k1 hownF hi hy0 hy1 hy2
    have HW5 := Lib.hid (And.intro hf5 (And.intro h6 h7))
    have hbel5 : Below B w W5 := hf5.below (by omega) (fun i hi hs => by
      rcases hs with rfl | h | h
      · omega
      · have := (HK.out.bLt.1 i h).1; omega
      · have := (HK.out.bLt.2 i h).1; omega)
    have HB5 := Lib.hid hbel5
    have HP5 := Lib.hid hp5
    have HQS := Lib.hid hqs
    have HK5 := Lib.hid hk5
    clear hf5 h6 h7 hbel5 hp5 hqs hk5
    go_loopw [6] (fun i wr => GoAt B b (pre ++ [(d, k)], 0) (some ⟨g', 0, none⟩) (some ⟨g2, 0, none⟩) W5 [] d.L k i wr) (fun i _ => d.L.length - (intOf i).toNat)
    case atStart => exact ⟨0, Nat.zero_le _, rfl, go_same HK5.out (bel_refl _)⟩
    case round =>
      obtain ⟨j, hj, rfl, hr⟩ := hrel
      have Hr := Lib.hid hr
      obtain ⟨pv2, dv2, pc2, dc2, xs2, hk2, hf2, r1, r2⟩ := hr
      have hsr := hf2.size
      have hbr : Below B w wr := HB5.out.trans (hf2.below (by have := HB5.out.size; omega) (fun i hi hs => by
        have hk5 := HK5.out.bLt
        rcases hs with rfl | h | h
        · omega
        · have := (hk5.1 i h).1; omega
        · have := (hk5.2 i h).1; omega))
      have pr : Blk wr w.heap.size 33 #[.int .i64 d.K, .int .i64 d.N, .string d.S, .slice am d.M.length cm, .slice al d.L.length cl, .slice at_ d.T.length ct] := (hf2.block _ hq5 HQS.out).trans HP5.out
      have pr4 : wr.cell? ⟨w.heap.size, 4, none⟩ = some (.slice al d.L.length cl) := (pr.cell 4).trans rfl
      have pr5 : wr.cell? ⟨w.heap.size, 5, none⟩ = some (.slice at_ d.T.length ct) := (pr.cell 5).trans rfl
      have hqr : w.heap.size < wr.heap.size := by omega
      have Hk2 := Lib.hid hk2
      have Hf2 := Lib.hid (And.intro hf2 (And.intro r1 r2))
      have Hbr := Lib.hid hbr
      clear hk2 hf2 r1 r2 hbr pr
      by_cases hlj : j < d.L.length
      · have dl : decide ((j : Int) < (d.L.length : Int)) = true := by simp [hlj]
        obtain ⟨x, hx⟩ : ∃ x, d.L[j]? = some x := ⟨d.L[j], by simp [hlj]⟩
        obtain ⟨b', off, am2, cm2, al2, cl2, at2, ct2, rfl, hb', hsix, hix⟩ := Hls.out.at6 j x hx
        obtain ⟨c0, c1, c2, c3, c4, c5⟩ := hsix.keep (w' := wr) (fun o => Hbr.out.cell (p := ⟨b', o, none⟩) hb')
        have k0 : (0 : Int) ≤ (j : Int) := Int.natCast_nonneg _
        have k1 : (j : Int) < (d.L.length : Int) := by omega
        have Hx := Lib.hid hx
        have Hix := Lib.hid (hix.below Hbr.out)
        clear hx hix hsix
        obtain ⟨st, hst⟩ : ∃ st : St, goAll (pre ++ [(d, k)], 0) ([] ++ nodesL (d.L.take j) (k + 1)) = st := ⟨_, rfl⟩
        have Hst := Lib.hid hst
        clear hst
        go_wp2_with fail
        refine (IHL.out x (List.mem_of_getElem? Hx.out) (k + 1) _ _ B b st.1 st.2 pv2 dv2 pc2 dc2 xs2 wr (by omega) (by exact Hix.out) (by have := Hk2.out; rw [Hst.out] at this; exact this) (by omega)).mono ?_
        rintro e w9 ⟨rfl, hr9⟩
        have H9 := Lib.hid hr9
        clear hr9
        go_wp2_with fail
        go_roundw
        case rel => exact ⟨j + 1, by omega, by go_num, by rw [nodesL_snoc _ _ _ _ Hx.out, ← List.append_assoc, goAll_append, Hst.out]; exact GoR.trans Hf2.out.1 Hf2.out.2.1 Hf2.out.2.2 H9.out⟩
        case measure => simp [intOf]; omega
      · have dl : decide ((j : Int) < (d.L.length : Int)) = false := by simp [hlj]
        have hje : d.L.take j = d.L := List.take_of_length_le (by omega)
        rw [hje] at Hr
        have HR1 := Lib.hid Hr.out
        clear hje Hk2 Hf2 Hr
        go_wp2_with fail
        have HR0 := HR1
        clear HR1 pr4 pr5 Hbr hsr hqr
        obtain ⟨Wo, rfl⟩ : ∃ Wo : World, Wo = wr := ⟨_, rfl⟩
        go_loopw [7] (fun i wr => GoAt B b (pre ++ [(d, k)], 0) (some ⟨g', 0, none⟩) (some ⟨g2, 0, none⟩) W5 (nodesL d.L (k + 1)) d.T k i wr) (fun i _ => d.T.length - (intOf i).toNat)
        case atStart => exact ⟨0, Nat.zero_le _, rfl, by rw [List.take_zero, nodesL_nil, List.append_nil]; exact HR0.out⟩
        case round =>
          obtain ⟨j, hj, rfl, hr⟩ := hrel
          have Hr := Lib.hid hr
          obtain ⟨pv2, dv2, pc2, dc2, xs2, hk2, hf2, r1, r2⟩ := hr
          have hsr := hf2.size
          have hbr : Below B w wr := HB5.out.trans (hf2.below (by have := HB5.out.size; omega) (fun i hi hs => by
            have hk5 := HK5.out.bLt
            rcases hs with rfl | h | h
            · omega
            · have := (hk5.1 i h).1; omega
            · have := (hk5.2 i h).1; omega))
          have pr : Blk wr w.heap.size 33 #[.int .i64 d.K, .int .i64 d.N, .string d.S, .slice am d.M.length cm, .slice al d.L.length cl, .slice at_ d.T.length ct] := (hf2.block _ hq5 HQS.out).trans HP5.out
          have pr4 : wr.cell? ⟨w.heap.size, 4, none⟩ = some (.slice al d.L.length cl) := (pr.cell 4).trans rfl
          have pr5 : wr.cell? ⟨w.heap.size, 5, none⟩ = some (.slice at_ d.T.length ct) := (pr.cell 5).trans rfl
          have hqr : w.heap.size < wr.heap.size := by omega
          have Hk2 := Lib.hid hk2
          have Hf2 := Lib.hid (And.intro hf2 (And.intro r1 r2))
          have Hbr := Lib.hid hbr
          clear hk2 hf2 r1 r2 hbr pr
          by_cases hlj : j < d.T.length
          · have dl : decide ((j : Int) < (d.T.length : Int)) = true := by simp [hlj]
            obtain ⟨x, hx⟩ : ∃ x, d.T[j]? = some x := ⟨d.T[j], by simp [hlj]⟩
            obtain ⟨b', off, am2, cm2, al2, cl2, at2, ct2, rfl, hb', hsix, hix⟩ := Hts.out.at6 j x hx
            obtain ⟨c0, c1, c2, c3, c4, c5⟩ := hsix.keep (w' := wr) (fun o => Hbr.out.cell (p := ⟨b', o, none⟩) hb')
            have k0 : (0 : Int) ≤ (j : Int) := Int.natCast_nonneg _
            have k1 : (j : Int) < (d.T.length : Int) := by omega
            have Hx := Lib.hid hx
            have Hix := Lib.hid (hix.below Hbr.out)
            clear hx hix hsix
            obtain ⟨st, hst⟩ : ∃ st : St, goAll (pre ++ [(d, k)], 0) ((nodesL d.L (k + 1)) ++ nodesL (d.T.take j) (k + 1)) = st := ⟨_, rfl⟩
            have Hst := Lib.hid hst
            clear hst
            go_wp2_with fail
            refine (IHT.out x (List.mem_of_getElem? Hx.out) (k + 1) _ _ B b st.1 st.2 pv2 dv2 pc2 dc2 xs2 wr (by omega) (by exact Hix.out) (by have := Hk2.out; rw [Hst.out] at this; exact this) (by omega)).mono ?_
            rintro e w9 ⟨rfl, hr9⟩
            have H9 := Lib.hid hr9
            clear hr9
            go_wp2_with fail
            go_roundw
            case rel => exact ⟨j + 1, by omega, by go_num, by rw [nodesL_snoc _ _ _ _ Hx.out, ← List.append_assoc, goAll_append, Hst.out]; exact GoR.trans Hf2.out.1 Hf2.out.2.1 Hf2.out.2.2 H9.out⟩
            case measure => simp [intOf]; omega
          · have dl : decide ((j : Int) < (d.T.length : Int)) = false := by simp [hlj]
            have hje : d.T.take j = d.T := List.take_of_length_le (by omega)
            rw [hje] at Hr
            have HR1 := Lib.hid Hr.out
            clear hje Hk2 Hf2 Hr
            go_wp2_with fail
            go_end0
            exact ⟨rfl, by rw [HR.out]; exact GoR.trans HW5.out.1 HW5.out.2.1 HW5.out.2.2 HR1.out⟩
theorem go_all (d : Dt) : GoIs d := Dt.ind (fun k n s m l t hl ht => go_step (.mk k n s m l t) hl ht) d
end Go.Proofs.Ytapnighankepjaa.Da
