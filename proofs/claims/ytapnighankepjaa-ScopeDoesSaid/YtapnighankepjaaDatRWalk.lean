/- The document's Check, All, Size and Deep: what they answer is what the program answers. -/
import Derived.Test.YtapnighankepjaaDatGo
namespace Go.Proofs.Ytapnighankepjaa.Da
open Go.ChangeShapes Go.WideShapes Go.ChangeAt Go.RowKit
set_option maxRecDepth 100000

def WalkedR (B : Nat) (d : Dt) (w : World) (e : Ending) (w' : World) : Prop :=
  ∃ b pv dv pc dc xs, e = .returned (.pointer (some ⟨b, 0, none⟩)) ∧ Below w.heap.size w w' ∧ w.heap.size ≤ b ∧ Wk w' B b (goAll ([], 0) (nodes d 1)) pv dv pc dc xs
theorem walked_any (d : Dt) (v : Value) (B : Nat) (w : World) (hd : IsDt w (Lo B) d v) (hB : B ≤ w.heap.size) : Calls Try.prog 49 #[v] w (WalkedR B d w) := by
  have hd' := hd
  obtain ⟨am, cm, al, cl, at_, ct, rfl, _⟩ := hd'.open_
  have HD := Lib.hid hd
  clear hd hd'
  go_enter Try.func49, Try.ntmps49
  go_wp2_with fail
  have hbel : Below w.heap.size w ((w.alloc (.cells #[.int .i64 d.K, .int .i64 d.N, .string d.S, .slice am d.M.length cm, .slice al d.L.length cl, .slice at_ d.T.length ct] 33)).alloc (.cells #[.slice none 0 0, .slice none 0 0, .int .i64 0] 104)) := ((Below.refl _ _).alloc (Nat.le_refl _) _).alloc (by simp) _
  have hblk : Blk ((w.alloc (.cells #[.int .i64 d.K, .int .i64 d.N, .string d.S, .slice am d.M.length cm, .slice al d.L.length cl, .slice at_ d.T.length ct] 33)).alloc (.cells #[.slice none 0 0, .slice none 0 0, .int .i64 0] 104)) (w.heap.size + 1) 104 #[.slice none 0 0, .slice none 0 0, .int .i64 0] := by
    have := heap_alloc_new (w.alloc (.cells #[.int .i64 d.K, .int .i64 d.N, .string d.S, .slice am d.M.length cm, .slice al d.L.length cl, .slice at_ d.T.length ct] 33)) (.cells #[.slice none 0 0, .slice none 0 0, .int .i64 0] 104)
    rw [World.size_alloc] at this
    exact this
  generalize (w.alloc (.cells #[.int .i64 d.K, .int .i64 d.N, .string d.S, .slice am d.M.length cm, .slice al d.L.length cl, .slice at_ d.T.length ct] 33)).alloc (.cells #[.slice none 0 0, .slice none 0 0, .int .i64 0] 104) = X at *
  refine (go_all d 1 1 _ B (w.heap.size + 1) [] 0 none none 0 0 [] X rfl (HD.out.below (hbel.mono hB)) ⟨by omega, hblk, World.ownsRow_nil _ _ _ _, World.ownsRow_nil _ _ _ _, PartsIs.nil _ _, by simp⟩ (by omega)).mono ?_
  rintro e w2 ⟨rfl, hr⟩
  have HX := Lib.hid hbel
  have HR := Lib.hid hr
  clear hbel hr hblk
  go_wp2_with fail
  go_ret
  obtain ⟨pv, dv, pc, dc, xs, hk, hf, _⟩ := HR.out
  refine ⟨_, pv, dv, pc, dc, xs, rfl, HX.out.trans (hf.below HX.out.size (fun i hi hs => ?_)), by omega, hk⟩
  rcases hs with h | h | h
  · omega
  · cases h
  · cases h
/-- The cells of the walk's block. -/
theorem Wk.cells {w : World} {B b : Nat} {st : St} {pv dv : Option Addr} {pc dc : Nat} {xs : List Value} (h : Wk w B b st pv dv pc dc xs) :
    w.cell? ⟨b, 0, none⟩ = some (.slice pv st.1.length pc) ∧ w.cell? ⟨b, 1, none⟩ = some (.slice dv st.1.length dc) ∧ w.cell? ⟨b, 2, none⟩ = some (.int .i64 st.2) := ⟨(h.blk.cell 0).trans rfl, (h.blk.cell 1).trans rfl, (h.blk.cell 2).trans rfl⟩
theorem rcheck_any (d : Dt) (v : Value) (B : Nat) (w : World) (hd : IsDt w (Lo B) d v) (hB : B ≤ w.heap.size) :
    Calls Try.prog 50 #[v] w fun e w' => e = .returned (.int .i64 (chk d)) ∧ Below w.heap.size w w' := by
  have hd' := hd
  obtain ⟨am, cm, al, cl, at_, ct, rfl, _⟩ := hd'.open_
  have HD := Lib.hid hd
  clear hd hd'
  go_enter Try.func50, Try.ntmps50
  go_wp2_with fail
  refine (walked_any d _ B _ (by exact HD.out.below ((bel_alloc _ _).mono hB)) (by simp; omega)).mono ?_
  rintro e w2 ⟨b, pv, dv, pc, dc, xs, rfl, hb, hle, hk⟩
  obtain ⟨_, _, c2⟩ := hk.cells
  rw [goAll_chk] at c2
  have hlt := hk.blk.lt
  have HB := Lib.hid (bel_trans (bel_alloc w _) hb)
  clear hb hk
  go_wp2_with fail
  go_ret
  exact ⟨rfl, HB.out⟩
/-- A datum's parts, none where it may not be. -/
def partsD (d : Dt) : List (Dt × Nat) := if chk d = 0 then nodes d 1 else []
theorem partsD_len (d : Dt) : ((partsD d).length : Int) = sizeD d := by
  unfold partsD
  by_cases h : chk d = 0
  · rw [if_pos h, (sizeD_ok h).1, nodes_len]
  · rw [if_neg h, sizeD_bad h]; rfl
theorem partsD_go {d : Dt} (h : chk d = 0) : (goAll ([], 0) (nodes d 1)).1 = partsD d := by rw [goAll_good h]; unfold partsD; rw [if_pos h]
/-- A row of parts. -/
def AllR (B : Nat) (d : Dt) (w : World) (e : Ending) (w' : World) : Prop :=
  ∃ pv pc xs, e = .returned (.slice pv (partsD d).length pc) ∧ Below w.heap.size w w' ∧ w'.ownsRow B 33 6 (.slice pv (partsD d).length pc) (partsD d).length xs ∧ PartsIs w' B (partsD d) xs
theorem rall_any (d : Dt) (v : Value) (B : Nat) (w : World) (hd : IsDt w (Lo B) d v) (hB : B ≤ w.heap.size) : Calls Try.prog 38 #[v] w (AllR B d w) := by
  have hd' := hd
  obtain ⟨am, cm, al, cl, at_, ct, rfl, _⟩ := hd'.open_
  have HD := Lib.hid hd
  clear hd hd'
  go_enter Try.func38, Try.ntmps38
  go_wp2_with fail
  refine (walked_any d _ B _ (by exact HD.out.below ((bel_alloc _ _).mono hB)) (by simp; omega)).mono ?_
  rintro e w2 ⟨b, pv, dv, pc, dc, xs, rfl, hb, hle, hk⟩
  obtain ⟨c0, _, c2⟩ := hk.cells
  rw [goAll_chk] at c2
  have hlt := hk.blk.lt
  have HB := Lib.hid (bel_trans (bel_alloc w _) hb)
  by_cases h0 : chk d = 0
  · rw [partsD_go h0] at c0
    rw [h0] at c2
    have ho := hk.own0
    have hp := hk.rows
    rw [partsD_go h0] at ho hp
    have HO := Lib.hid (And.intro ho hp)
    clear hb hk ho hp h0
    go_wp2_with fail
    go_ret
    exact ⟨pv, pc, xs, rfl, HB.out, HO.out.1, HO.out.2⟩
  · have hne : (chk d != 0) = true := by simp [h0]
    obtain ⟨c, hc⟩ : ∃ c, chk d = c := ⟨_, rfl⟩
    rw [hc] at c2 hne
    have hp : partsD d = [] := by unfold partsD; rw [if_neg h0]
    have HP := Lib.hid hp
    clear hb hk c0 h0 hc hp
    go_wp2_with fail
    go_ret
    unfold AllR
    rw [HP.out]
    exact ⟨none, 0, [], rfl, HB.out, World.ownsRow_nil _ _ _ _, PartsIs.nil _ _⟩
def deepL (l : List (Dt × Nat)) : Int := (maxD l : Int)
theorem deepD_is (d : Dt) : deepD d = deepL (partsD d) := by
  unfold deepL partsD
  by_cases h : chk d = 0
  · rw [if_pos h]; exact (sizeD_ok h).2.1
  · rw [if_neg h]
    unfold deepD meas
    unfold chk meas at h
    by_cases h1 : errOf 0 (nodes d 1) = 0
    · rw [if_pos h1] at h; exact absurd rfl h
    · rw [if_neg h1]; rfl
def DeepAt (l : List (Dt × Nat)) (W1 : World) (n i : Value) (wr : World) : Prop := ∃ j : Nat, j ≤ l.length ∧ i = .int .i64 (j : Int) ∧ n = .int .i64 (maxD (l.take j) : Int) ∧ wr = W1
theorem maxD_take (l : List (Dt × Nat)) (j : Nat) (x : Dt × Nat) (h : l[j]? = some x) : maxD (l.take (j + 1)) = max (maxD (l.take j)) x.2 := by
  rw [List.take_add_one, h]
  obtain ⟨d, k⟩ := x
  exact maxD_snoc _ d k
end Go.Proofs.Ytapnighankepjaa.Da
