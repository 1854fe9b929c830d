/- A datum's nodes in order, as far as they go: what the program's walk returns, by what is done at each node. -/
import Derived.Test.YtapnighankepjaaDatSee
namespace Go.Proofs.Ytapnighankepjaa.Da
open Go.ChangeShapes Go.WideShapes Go.ChangeAt Go.RowKit

mutual
/-- The nodes, each with its depth. -/
def nodes : Dt → Nat → List (Dt × Nat)
  | .mk k n s m l t, i => (.mk k n s m l t, i) :: (nodesL l (i + 1) ++ nodesL t (i + 1))
def nodesL : List Dt → Nat → List (Dt × Nat)
  | [], _ => []
  | d :: r, i => nodes d i ++ nodesL r i
end
theorem nodes_eq (d : Dt) (i : Nat) : nodes d i = (d, i) :: (nodesL d.L (i + 1) ++ nodesL d.T (i + 1)) := by
  cases d; simp only [nodes, Dt.L, Dt.T]
theorem nodesL_cons (d : Dt) (r : List Dt) (i : Nat) : nodesL (d :: r) i = nodes d i ++ nodesL r i := by simp only [nodesL]
theorem nodesL_nil (i : Nat) : nodesL [] i = [] := by simp only [nodesL]
theorem nodesL_append (a b : List Dt) (i : Nat) : nodesL (a ++ b) i = nodesL a i ++ nodesL b i := by
  induction a with
  | nil => simp [nodesL_nil]
  | cons x r ih => simp [nodesL_cons, ih]
theorem nodesL_snoc (l : List Dt) (k i : Nat) (d : Dt) (h : l[k]? = some d) : nodesL (l.take (k + 1)) i = nodesL (l.take k) i ++ nodes d i := by
  rw [List.take_add_one, h, nodesL_append]
  simp [nodesL_cons, nodesL_nil]

/-- All went on, or one of them ended it. -/
def VisPost (S : Nat → Prop) (J Jx : List (Dt × Nat) → World → Prop) (pre ns : List (Dt × Nat)) (w : World) (e : Ending) (w' : World) : Prop :=
  Fr S w w' ∧ ((e = .returned (.bool true) ∧ J (pre ++ ns) w') ∨ (e = .returned (.bool false) ∧ ∃ q, q <+: ns ∧ Jx (pre ++ q) w'))
/-- What is asked of that which is done at each node. -/
structure SeeIs (fS : FuncId) (ar : Value → Value → Array Value) (S : Nat → Prop) (B bs : Nat) (N : Dt × Nat → Prop) (J Jx : List (Dt × Nat) → World → Prop) : Prop where
  s : ∀ i, S i → B ≤ i ∧ i < bs
  b : B ≤ bs
  j : ∀ pre w w', J pre w → Below w.heap.size w w' → J pre w'
  jx : ∀ pre w w', Jx pre w → Below w.heap.size w w' → Jx pre w'
  step : ∀ pre d k v w, N (d, k) → k ≤ 1000 → J pre w → B ≤ w.heap.size → bs < w.heap.size → IsDt w (Lo B) d v →
    Calls Try.prog fS (ar v (.int .i64 (k : Int))) w fun e w' => VisPost S J Jx pre [(d, k)] w e w' ∧ (e = .returned (.bool true) → k ≤ 64)

/-- The elements of the first j of the two lists. -/
def pieces (l t : List Dt) : Nat → List Dt | 0 => [] | 1 => l | _ => l ++ t
theorem pieces_all (dd : Dt) (l t : List Dt) (k : Nat) (hL : dd.L = l) (hT : dd.T = t) : (dd, k) :: nodesL (pieces l t 2) (k + 1) = nodes dd k := by
  rw [nodes_eq, hL, hT]; simp [pieces, nodesL_append]
theorem mem_nodesL {x : List Dt} {d : Dt} {i : Nat} {y : Dt × Nat} (hd : d ∈ x) (hy : y ∈ nodes d i) : y ∈ nodesL x i := by
  induction x with
  | nil => cases hd
  | cons a r ih =>
    rw [nodesL_cons, List.mem_append]
    rcases List.mem_cons.1 hd with rfl | hd
    · exact .inl hy
    · exact .inr (ih hd)
theorem mem_nodes {l t x : List Dt} {dd d : Dt} {k i : Nat} {y : Dt × Nat} (hx : x = l ∨ x = t) (hd : d ∈ x) (hy : y ∈ nodes d i) : y ∈ (dd, k) :: (nodesL l i ++ nodesL t i) := by
  rcases hx with rfl | rfl
  · simp [mem_nodesL hd hy]
  · simp [mem_nodesL hd hy]
/-- A loop's state: so many pieces have been done. -/
def VisAt (S : Nat → Prop) (J : List (Dt × Nat) → World → Prop) (pre : List (Dt × Nat)) (dd : Dt) (k : Nat) (_from : List (Dt × Nat)) (done : Nat → List (Dt × Nat)) (n : Nat) (W1 : World) (i : Value) (wr : World) : Prop :=
  ∃ j : Nat, j ≤ n ∧ i = .int .i64 (j : Int) ∧ Fr S W1 wr ∧ J (pre ++ (dd, k) :: done j) wr
theorem pieces_pref (l t : List Dt) (j : Nat) (h : j ≤ 2) : ∃ r, pieces l t 2 = pieces l t j ++ r := by
  match j, h with
  | 0, _ => exact ⟨l ++ t, by simp [pieces]⟩
  | 1, _ => exact ⟨t, by simp [pieces]⟩
  | 2, _ => exact ⟨[], by simp [pieces]⟩
theorem pref_piece {dd xi : Dt} {l t x : List Dt} {j k i : Nat} {q : List (Dt × Nat)} (hall : (dd, k) :: nodesL (pieces l t 2) (k + 1) = nodes dd k) (hpc : pieces l t (j + 1) = pieces l t j ++ x) (hj : j < 2)
    (hxi : x[i]? = some xi) (hq : q <+: nodes xi (k + 1)) : (dd, k) :: (nodesL (pieces l t j) (k + 1) ++ nodesL (x.take i) (k + 1) ++ q) <+: nodes dd k := by
  obtain ⟨r, hr⟩ := pieces_pref l t (j + 1) (by omega)
  obtain ⟨q', hq'⟩ := hq
  have e1 : nodesL x (k + 1) = nodesL (x.take i) (k + 1) ++ nodes xi (k + 1) ++ nodesL (x.drop (i + 1)) (k + 1) := by
    have hlt : i < x.length := by
      rcases Nat.lt_or_ge i x.length with h | h
      · exact h
      · rw [List.getElem?_eq_none h] at hxi; cases hxi
    rw [← nodesL_snoc x i (k + 1) xi hxi, ← nodesL_append, List.take_append_drop]
  refine ⟨q' ++ nodesL (x.drop (i + 1)) (k + 1) ++ nodesL r (k + 1), ?_⟩
  rw [← hall, hr, hpc, nodesL_append, nodesL_append, e1, ← hq']
  simp [List.append_assoc]
/-- What a visit of a datum does. -/
def Vvisit_measure (b : Nat) (S : Nat → Prop) (B bs : Nat) (N : Dt × Nat → Prop) (J Jx : List (Dt × Nat) → World → Prop) (d : Dt) : Prop :=
    ∀ (k : Nat) (kI : Int) (v : Value) (pre : List (Dt × Nat)) (w : World), kI = (k : Int) → (∀ x ∈ nodes d k, N x) → k ≤ 66 → J pre w → IsDt w (Lo B) d v →
    w.cell? ⟨bs, 0, none⟩ = some (.func (.func 55) #[] #[.pointer (some ⟨b + 2, 0, none⟩), .pointer (some ⟨b, 0, none⟩), .pointer (some ⟨b + 1, 0, none⟩)]) → w.cell? ⟨bs + 1, 0, none⟩ = some (.func (.func 58) #[] #[.pointer (some ⟨bs, 0, none⟩), .pointer (some ⟨bs + 1, 0, none⟩)]) → bs + 1 < w.heap.size →
    Calls Try.prog 58 #[v, .int .i64 kI, .pointer (some ⟨bs, 0, none⟩), .pointer (some ⟨bs + 1, 0, none⟩)] w (VisPost S J Jx pre (nodes d k) w)
set_option maxHeartbeats 1000000 in
theorem visit_measure (b : Nat) (S : Nat → Prop) (B bs : Nat) (N : Dt × Nat → Prop) (J Jx : List (Dt × Nat) → World → Prop) (hS : SeeIs 55 (fun x y => #[x, y, .pointer (some ⟨b + 2, 0, none⟩), .pointer (some ⟨b, 0, none⟩), .pointer (some ⟨b + 1, 0, none⟩)]) S B bs N J Jx) (d : Dt) : Vvisit_measure b S B bs N J Jx d := by
  induction d using Dt.ind with | h kk n s m l t ihl iht =>
  intro k kI v pre w hkI hN hk hj hd cs cv hsz
  subst hkI
  have hd' := hd
  obtain ⟨am, cm, al, cl, at_, ct, rfl, _, _, _, _, hl, hls, ht, hts⟩ := hd'.open_
  obtain ⟨dd, hdd⟩ : ∃ dd, Dt.mk kk n s m l t = dd := ⟨_, rfl⟩
  have hL : dd.L = l := by rw [← hdd]; rfl
  have hT : dd.T = t := by rw [← hdd]; rfl
  rw [hdd] at hN hd hl hls ht hts hd' ⊢
  rw [hL] at hl hls hd ⊢
  rw [hT] at ht hts hd ⊢
  have hpc := pieces_all dd l t k hL hT
  have hpN : ∀ (x : List Dt) (d : Dt), (x = l ∨ x = t) → d ∈ x → ∀ y ∈ nodes d (k + 1), N y := fun x d hx hd y hy => hN y (by rw [nodes_eq, hL, hT]; exact mem_nodes hx hd hy)
  have HPC := Lib.hid hpc
  have HPN := Lib.hid hpN
  have HS := Lib.hid hS
  have HN := Lib.hid hN
  have Hj := Lib.hid hj
  have HD := Lib.hid hd
  have Ihl := Lib.hid ihl
  have Iht := Lib.hid iht
  have Hl := Lib.hid hl
  have Hls := Lib.hid hls
  have Ht := Lib.hid ht
  have Hts := Lib.hid hts
  clear hS hN hj hd hd' ihl iht hl hls ht hts hL hT hdd hpc hpN
  have hbs : bs < w.heap.size := by omega
  have hBw : B ≤ w.heap.size := Nat.le_trans HS.out.b (by omega)
  have HCV := Lib.hid cv
  have HCS := Lib.hid cs
  go_enter Try.func58, Try.ntmps58
  go_wp2_with fail
  refine (HS.out.step pre dd k _ _ (by exact HN.out _ (by rw [nodes_eq]; simp)) (by omega) (by exact HS.out.j _ _ _ Hj.out (bel_alloc _ _)) (by simp; omega) (by simp; omega) (by exact HD.out.below ((Below.refl _ _).alloc hBw _))).mono ?_
  rintro e w1 ⟨⟨hf, hres⟩, hk64⟩
  have hnS : ∀ i, bs ≤ i → ¬ S i := fun i hi hs => by have := HS.out.s i hs; omega
  have hfw : Fr S w w1 := ((Fr.refl S w).alloc _).trans hf
  rcases hres with ⟨rfl, hj1⟩ | ⟨rfl, q, hq, hjx⟩
  · have hk : k ≤ 64 := hk64 rfl
    have hx4 : w1.cell? ⟨w.heap.size, 4, none⟩ = some (.slice al l.length cl) := (hf.cell (p := ⟨w.heap.size, 4, none⟩) (by simp) (hnS _ (by show bs ≤ w.heap.size; omega))).trans (by simp [go_sem])
    have hx5 : w1.cell? ⟨w.heap.size, 5, none⟩ = some (.slice at_ t.length ct) := (hf.cell (p := ⟨w.heap.size, 5, none⟩) (by simp) (hnS _ (by show bs ≤ w.heap.size; omega))).trans (by simp [go_sem])
    have Hj1 := Lib.hid hj1
    have Hfw := Lib.hid hfw
    have HnS := Lib.hid hnS
    clear hj1 hfw hf hnS hk64
    go_wp2_with fail
    have hq0 : (w1.alloc (.cells #[.slice al l.length cl, .slice at_ t.length ct] 31)).cell? ⟨w1.heap.size, 0, none⟩ = some (.slice al l.length cl) := by simp [go_sem]
    have hq1 : (w1.alloc (.cells #[.slice al l.length cl, .slice at_ t.length ct] 31)).cell? ⟨w1.heap.size, 1, none⟩ = some (.slice at_ t.length ct) := by simp [go_sem]
    have hj2 : J (pre ++ [(dd, k)]) (w1.alloc (.cells #[.slice al l.length cl, .slice at_ t.length ct] 31)) := HS.out.j _ _ _ Hj1.out (bel_alloc _ _)
    have hf2 := Hfw.out.alloc (.cells #[.slice al l.length cl, .slice at_ t.length ct] 31)
    have hbq : w1.heap.size < (w1.alloc (.cells #[.slice al l.length cl, .slice at_ t.length ct] 31)).heap.size := by simp
    have hsq := Hfw.out.size
    obtain ⟨W1, hW1⟩ : ∃ W1, w1.alloc (.cells #[.slice al l.length cl, .slice at_ t.length ct] 31) = W1 := ⟨_, rfl⟩
    rw [hW1] at hq0 hq1 hj2 hf2 hbq
    rw [hW1]
    obtain ⟨bq, hbqe⟩ : ∃ bq, w1.heap.size = bq := ⟨_, rfl⟩
    rw [hbqe] at hq0 hq1 hbq hsq
    rw [hbqe]
    have hcol : ∀ j, j < 2 → ∃ ax x cx, W1.cell? ⟨bq, j, none⟩ = some (.slice ax x.length cx) ∧ IsSl ax x.length cx ∧ IsDts w (Lo B) ax 0 x ∧ (∀ d ∈ x, Vvisit_measure b S B bs N J Jx d) ∧ pieces l t (j + 1) = pieces l t j ++ x ∧ (x = l ∨ x = t) := by
      intro j hj
      match j, hj with
      | 0, _ => exact ⟨al, l, cl, hq0, Hl.out, Hls.out, Ihl.out, by simp [pieces], .inl rfl⟩
      | 1, _ => exact ⟨at_, t, ct, hq1, Ht.out, Hts.out, Iht.out, by simp [pieces], .inr rfl⟩
    have Hcol := Lib.hid hcol
    have Hj2 := Lib.hid hj2
    have Hf2 := Lib.hid hf2
    clear hcol hj2 hf2 hq0 hq1 hx4 hx5 hW1 hbqe Hj1 cs cv
    go_loopw [22] (fun i wr => VisAt S J pre dd k (nodesL (pieces l t 0) (k + 1)) (fun j => nodesL (pieces l t j) (k + 1)) 2 W1 i wr) (fun i _ => 2 - (intOf i).toNat)
    case atStart => exact ⟨0, by omega, rfl, Fr.refl _ _, by simpa [pieces, nodesL_nil] using Hj2.out⟩
    case round =>
      obtain ⟨j, hj, rfl, hfr, hjr⟩ := hrel
      have Hfr := Lib.hid hfr
      have Hjr := Lib.hid hjr
      clear hfr hjr
      by_cases hlt : j < 2
      · obtain ⟨ax, x, cx, hcell, hsl, hds, ih, hpc, hxx⟩ := Hcol.out j hlt
        have hcell' : wr.cell? ⟨bq, j, none⟩ = some (.slice ax x.length cx) := (Hfr.out.cell (p := ⟨bq, j, none⟩) hbq (HnS.out _ (by show bs ≤ bq; omega))).trans hcell
        have dl : decide ((j : Int) < 2) = true := by simp; omega
        have Hpc := Lib.hid hpc
        have Hds := Lib.hid hds
        have Ih := Lib.hid ih
        have Hxx := Lib.hid hxx
        obtain ⟨hs1, hs2, _, _⟩ := hsl
        unfold maxLen at hs2
        clear hcell hpc hds ih hxx
        obtain ⟨wo, rfl⟩ : ∃ wo : World, wo = wr := ⟨_, rfl⟩
        go_wp2_with fail
        go_loopw [28] (fun i wr => VisAt S J pre dd k (nodesL (pieces l t j) (k + 1)) (fun i => nodesL (pieces l t j) (k + 1) ++ nodesL (x.take i) (k + 1)) x.length W1 i wr) (fun i _ => x.length - (intOf i).toNat)
        case atStart => exact ⟨0, by omega, rfl, Hfr.out, by simpa [nodesL_nil] using Hjr.out⟩
        case round =>
          obtain ⟨i, hi, rfl, hfi, hji⟩ := hrel
          by_cases hlx : i < x.length
          · have dx : decide ((i : Int) < (x.length : Int)) = true := by simp [hlx]
            obtain ⟨xi, hxi⟩ : ∃ xi, x[i]? = some xi := ⟨x[i], by simp [hlx]⟩
            obtain ⟨b', off, am', cm', al', cl', at', ct', rfl, hb', hsix, hdi⟩ := Hds.out.at6 i xi hxi
            have Hxi := Lib.hid hxi
            clear hxi
            have hall : Fr S w wr := Hf2.out.trans hfi
            have hbel : Below B w wr := hall.below hBw (fun y hy hs => by have := (HS.out.s y hs).1; omega)
            obtain ⟨c0, c1, c2, c3, c4, c5⟩ := hsix.keep (w' := wr) (fun o => hbel.cell (p := ⟨b', o, none⟩) hb')
            have cvr : wr.cell? ⟨bs + 1, 0, none⟩ = some (.func (.func 58) #[] #[.pointer (some ⟨bs, 0, none⟩), .pointer (some ⟨bs + 1, 0, none⟩)]) := (hall.cell (p := ⟨bs + 1, 0, none⟩) hsz (HnS.out _ (by show bs ≤ bs + 1; omega))).trans HCV.out
            have Hfi := Lib.hid hfi
            have Hji := Lib.hid hji
            have Hall := Lib.hid hall
            have Hbel := Lib.hid hbel
            have Hdi := Lib.hid hdi
            have hsr : bs + 1 < wr.heap.size := by have := Hall.out.size; omega
            clear hfi hji hall hbel hdi hsix
            go_wp2_with fail
            refine (Ih.out xi (by exact List.mem_of_getElem? Hxi.out) (k + 1) _ _ (pre ++ (dd, k) :: (nodesL (pieces l t j) (k + 1) ++ nodesL (x.take i) (k + 1))) _ (by omega) (by exact HPN.out x xi Hxx.out (List.mem_of_getElem? Hxi.out)) (by omega) (by exact HS.out.j _ _ _ Hji.out (bel_alloc _ _)) (by exact Hdi.out.below (Hbel.out.alloc (Nat.le_trans hBw Hall.out.size) _))
              (by exact ((Hall.out.alloc _).cell (p := ⟨bs, 0, none⟩) hbs (HnS.out _ (Nat.le_refl _))).trans HCS.out) (by exact ((Hall.out.alloc _).cell (p := ⟨bs + 1, 0, none⟩) hsz (HnS.out _ (by show bs ≤ bs + 1; omega))).trans HCV.out) (by simp; omega)).mono ?_
            rintro e w2 ⟨hf3, ⟨rfl, hj3⟩ | ⟨rfl, q, hq, hj3⟩⟩
            · have Hf3 := Lib.hid hf3
              have Hj3 := Lib.hid hj3
              clear hf3 hj3 cvr c0 c1 c2 c3 c4 c5
              go_wp2_with fail
              go_roundw
              case rel => exact ⟨i + 1, by omega, by go_num, (Hfi.out.alloc _).trans Hf3.out, by have h3 := Hj3.out; dsimp only; rw [nodesL_snoc x i (k + 1) xi Hxi.out]; simpa using h3⟩
              case measure => simp [intOf]; omega
            · have Hf3 := Lib.hid hf3
              have Hj3 := Lib.hid (And.intro hq hj3)
              clear hf3 hj3 hq cvr c0 c1 c2 c3 c4 c5
              go_wp2_with fail
              go_ret
              exact ⟨((Hf2.out.trans Hfi.out).alloc _).trans Hf3.out, .inr ⟨rfl, _, pref_piece HPC.out Hpc.out hlt Hxi.out Hj3.out.1, by simpa [List.append_assoc] using Hj3.out.2⟩⟩
          · have dx : decide ((i : Int) < (x.length : Int)) = false := by simp [hlx]
            have hjn : J (pre ++ (dd, k) :: nodesL (pieces l t (j + 1)) (k + 1)) wr := by
              rw [Hpc.out, nodesL_append]
              dsimp only at hji
              rw [List.take_of_length_le (by omega)] at hji
              exact hji
            have Hfi := Lib.hid hfi
            have Hjn := Lib.hid hjn
            clear hfi hji hjn
            go_wp2_with fail
            go_roundw
            case rel => exact ⟨j + 1, by omega, by go_num, Hfi.out, Hjn.out⟩
            case measure => simp [intOf]; omega
      · obtain rfl : j = 2 := by omega
        go_wp2_with fail
        go_ret
        exact ⟨Hf2.out.trans Hfr.out, .inl ⟨rfl, by have h2 := Hjr.out; rw [HPC.out] at h2; exact h2⟩⟩
  · have Hfw := Lib.hid hfw
    have Hjx := Lib.hid hjx
    have Hq := Lib.hid hq
    clear hfw hf hjx hq hnS hk64
    go_wp2_with fail
    go_ret
    exact ⟨Hfw.out, .inr ⟨rfl, q, Hq.out.trans ⟨nodesL (pieces l t 2) (k + 1), HPC.out⟩, Hjx.out⟩⟩
end Go.Proofs.Ytapnighankepjaa.Da
