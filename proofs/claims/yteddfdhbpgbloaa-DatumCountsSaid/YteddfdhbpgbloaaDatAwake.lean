/- What the laws call of their own: a number, what is little, whether a list is put together and taken apart. -/
import Derived.Test.YteddfdhbpgbloaaDatCons
namespace Go.Proofs.Yteddfdhbpgbloaa.Da
open Go.ChangeShapes Go.WideShapes Go.ChangeAt Go.RowKit

def fixD (n : Int) : Dt := .mk 1 n ⟨#[]⟩ [] [] []
def fixV (n : Int) : Value := .agg #[.int .i64 1, .int .i64 n, .string ⟨#[]⟩, .slice none 0 0, .slice none 0 0, .slice none 0 0]
theorem fix_isDt (w : World) (Q : Nat → Prop) (n : Int) (hn : (Lit.int .i64 n).wf = true) : IsDt w Q (fixD n) (fixV n) := by
  unfold fixD fixV
  simp only [IsDt, IsDts]
  exact ⟨rfl, hn, by show (0 : Nat) ≤ _; exact Nat.zero_le _, none, 0, _, 0, _, 0, rfl, ⟨rfl, Nat.le_refl _, by simp [maxLen], by simp, fun _ => rfl, by simp, fun k hk => absurd hk (Nat.not_lt_zero _)⟩, ⟨Nat.le_refl _, by simp [maxLen], by simp, fun _ => rfl⟩, trivial, ⟨Nat.le_refl _, by simp [maxLen], by simp, fun _ => rfl⟩, trivial⟩
theorem fix_any (n : Int) (w : World) :
    Calls Try.prog 33 #[.int .i64 n] w fun e w' => e = .returned (fixV n) ∧ Below w.heap.size w w' := by
  go_enter Try.func33, Try.ntmps33
  go_wp2_with fail
  refine bodyPost_ret (v := fixV n) ?_ rfl ?_
  · simp [results, Try.results33, go_sem, fixV]
  · exact ⟨rfl, bel_alloc _ _⟩
def smallB (d : Dt) : Bool := decide ((d.S.size : Int) ≤ 5000) && decide ((d.M.length : Int) ≤ 5000) && decide ((d.L.length : Int) ≤ 5000) && decide ((d.T.length : Int) ≤ 5000)
set_option linter.unusedVariables false in
theorem small_any (d : Dt) (v : Value) (B : Nat) (w : World) (hd : IsDt w (Lo B) d v) (hB : B ≤ w.heap.size) :
    Calls Try.prog 9 #[v] w fun e w' => e = .returned (.bool (smallB d)) ∧ Below w.heap.size w w' := by
  obtain ⟨am, cm, al, cl, at_, ct, rfl, _, _, hs, hm, hl, _, ht, _⟩ := hd.open_
  have h1 : (d.M.length : Int) ≤ 17592186044416 := by have a := hm.2.1; have b := hm.2.2.2.1; omega
  have h3 : (d.L.length : Int) ≤ 17592186044416 := by have a := hl.1; have b := hl.2.2.1; omega
  have h4 : (d.T.length : Int) ≤ 17592186044416 := by have a := ht.1; have b := ht.2.2.1; omega
  clear hd hm hl ht
  unfold smallB
  cases c1 : decide ((d.S.size : Int) ≤ 5000) <;> cases c2 : decide ((d.M.length : Int) ≤ 5000) <;> cases c3 : decide ((d.L.length : Int) ≤ 5000)
  all_goals
    go_enter Try.func9, Try.ntmps9
    go_wp2_with fail
    go_ret
    exact ⟨by simp, bel_alloc _ _⟩
theorem listD_chk : chk (listD [fixD 2]) = 0 ∧ chk (fixD 1) = 0 ∧ consE (fixD 1) (listD [fixD 2]) = 0 := by decide +kernel
theorem consD_is : consD (fixD 1) (listD [fixD 2]) = .mk 6 0 ⟨#[]⟩ [] [fixD 1, fixD 2] [] := rfl
theorem pairE_is : pairE (.mk 6 0 ⟨#[]⟩ [] [fixD 1, fixD 2] []) = 0 := by decide +kernel
theorem rest_is : restD (.mk 6 0 ⟨#[]⟩ [] [fixD 1, fixD 2] []) = listD [fixD 2] := rfl
theorem size_is : sizeD (.mk 6 0 ⟨#[]⟩ [] [fixD 1, fixD 2] []) = 3 ∧ deepD (.mk 6 0 ⟨#[]⟩ [] [fixD 1, fixD 2] []) = 2 := by decide +kernel
theorem sym_is : symB ⟨#[97, 45, 62, 98]⟩ = true := by decide +kernel
set_option maxHeartbeats 2000000 in
theorem awake_any (w : World) :
    Calls Try.prog 8 #[] w fun e w' => e = .returned (.bool true) ∧ Below w.heap.size w w' := by
  go_enter Try.func8, Try.ntmps8
  go_wp2_with fail
  refine (fix_any 1 _).mono ?_
  rintro e w1 ⟨rfl, hb1⟩
  simp only [fixV]
  have Hb1 := Lib.hid hb1
  clear hb1
  go_wp2_with fail
  refine (fix_any 2 _).mono ?_
  rintro e w2 ⟨rfl, hb2⟩
  simp only [fixV]
  have Hb2 := Lib.hid (bel_trans Hb1.out hb2)
  clear hb2 Hb1
  go_wp2_with fail
  obtain ⟨hbX, hsX, hkX⟩ := start_allocs [(#[.int .i64 1, .int .i64 2, .string ⟨#[]⟩, .slice none 0 0, .slice none 0 0, .slice none 0 0], 25)] w2
  have g0 := hkX 0 _ rfl
  simp only [allocs, List.foldl_cons, List.foldl_nil, Nat.add_zero, List.length_cons, List.length_nil, Nat.zero_add] at hbX hsX g0
  clear hkX
  generalize w2.alloc (.cells #[.int .i64 1, .int .i64 2, .string ⟨#[]⟩, .slice none 0 0, .slice none 0 0, .slice none 0 0] 25) = X at *
  have hX : Below w.heap.size w X := bel_trans Hb2.out hbX
  refine (list_any (some ⟨w2.heap.size, 0, none⟩) 1 [fixD 2] X.heap.size X (one_sl _) (one_dts (by show w2.heap.size < X.heap.size; omega) g0 (fix_isDt _ _ 2 (by decide))) (Nat.le_refl _)).mono ?_
  rintro e w3 ⟨v3, rfl, hb3, hi3⟩
  have HX := Lib.hid (bel_trans hX hb3)
  have hi3' : IsDt w3 (Lo w3.heap.size) (listD [fixD 2]) v3 := hi3.more fun b hb => by
    have s3 := hb3.size
    rcases hb with h | ⟨h1, h2⟩
    · have h1 : b < X.heap.size := h
      show b < w3.heap.size
      omega
    · exact h2
  have HI3 := Lib.hid hi3'
  obtain ⟨am3, cm3, al3, cl3, at3, ct3, hv3, _⟩ := hi3'.open_
  subst hv3
  clear hbX hsX g0 hX hb3 hi3 hi3' Hb2
  go_wp2_with fail
  refine (cons_any (fixD 1) (listD [fixD 2]) _ _ w3.heap.size w3 (fix_isDt _ _ 1 (by decide)) HI3.out (Nat.le_refl _)).mono ?_
  obtain ⟨dd, hdd⟩ : ∃ dd, Dt.mk 6 0 ⟨#[]⟩ [] [fixD 1, fixD 2] [] = dd := ⟨_, rfl⟩
  rw [listD_chk.2.2, consD_is, hdd]
  have HDD := Lib.hid hdd
  clear hdd
  rintro e w4 ⟨v4, rfl, hb4, _, hi4⟩
  have hi4 := hi4 rfl
  have HX4 := Lib.hid (bel_trans HX.out hb4)
  have hi4' : IsDt w4 (Lo w4.heap.size) dd v4 := hi4.more fun b hb => by
    have s3 := hb4.size
    rcases hb with h | ⟨h1, h2⟩
    · have h1 : b < w3.heap.size := h
      show b < w4.heap.size
      omega
    · exact h2
  have HI4 := Lib.hid hi4'
  obtain ⟨am4, cm4, al4, cl4, at4, ct4, hv4, _⟩ := hi4'.open_
  subst hv4
  clear hb4 hi4 hi4' HX
  go_wp2_with fail
  obtain ⟨hbY, hsY, hkY⟩ := start_allocs [(#[.int .i64 dd.K, .int .i64 dd.N, .string dd.S, .slice am4 dd.M.length cm4, .slice al4 dd.L.length cl4, .slice at4 dd.T.length ct4], 25)] w4
  have g0 := hkY 0 _ rfl
  simp only [allocs, List.foldl_cons, List.foldl_nil, Nat.add_zero, List.length_cons, List.length_nil, Nat.zero_add] at hbY hsY g0
  clear hkY
  generalize w4.alloc (.cells #[.int .i64 dd.K, .int .i64 dd.N, .string dd.S, .slice am4 dd.M.length cm4, .slice al4 dd.L.length cl4, .slice at4 dd.T.length ct4] 25) = Y at *
  refine (cdr_rest dd _ w4.heap.size Y (by exact HI4.out.below hbY) (by omega) (by rw [← HDD.out]; exact pairE_is) (by rw [← HDD.out]; intro h; exact absurd h.1 (by decide))).mono ?_
  rw [show restD dd = listD [fixD 2] by rw [← HDD.out]; exact rest_is]
  rintro e w5 ⟨v5, rfl, hb5, _, hi5⟩
  have hi5 := hi5 rfl
  have s5 := hb5.size
  have t0 := g0.fr (Fr.of_bel hb5 (fun _ => False)) (fun h => h) (by omega)
  have c0 : w5.cell? ⟨w4.heap.size, 0, none⟩ = some (.int .i64 dd.K) := (t0.cell 0).trans rfl
  have c1 : w5.cell? ⟨w4.heap.size, 1, none⟩ = some (.int .i64 dd.N) := (t0.cell 1).trans rfl
  have c2 : w5.cell? ⟨w4.heap.size, 2, none⟩ = some (.string dd.S) := (t0.cell 2).trans rfl
  have c3 : w5.cell? ⟨w4.heap.size, 3, none⟩ = some (.slice am4 dd.M.length cm4) := (t0.cell 3).trans rfl
  have c4 : w5.cell? ⟨w4.heap.size, 4, none⟩ = some (.slice al4 dd.L.length cl4) := (t0.cell 4).trans rfl
  have c5 : w5.cell? ⟨w4.heap.size, 5, none⟩ = some (.slice at4 dd.T.length ct4) := (t0.cell 5).trans rfl
  have hl5 : w4.heap.size < w5.heap.size := by omega
  have HD5 := Lib.hid (HI4.out.below (hbY.trans (hb5.mono hbY.size)))
  have HX5 := Lib.hid (HX4.out.trans ((bel_trans hbY hb5).mono HX4.out.size))
  have hi5' : IsDt w5 (Lo w5.heap.size) (listD [fixD 2]) v5 := hi5.more fun b hb => by
    rcases hb with h | ⟨h1, h2⟩
    · have h1 : b < w4.heap.size := h
      show b < w5.heap.size
      omega
    · exact h2
  have HI5 := Lib.hid hi5'
  have HS5 := Lib.hid hl5
  obtain ⟨am5, cm5, al5, cl5, at5, ct5, hv5, _, _, _, _, _, hls5, _⟩ := hi5'.open_
  subst hv5
  obtain ⟨b6, o6, z0, z1, z2, z3, z4, z5, he6, hb6, hsix, hf6⟩ := hls5.at6 0 (fixD 2) rfl
  obtain ⟨e0, e1, e2, e3, e4, e5⟩ := hsix
  have hb6' : b6 < w5.heap.size := hb6
  have hq : (listD [fixD 2]).L.length = 1 := rfl
  have hn6 : (fixD 2).N = 2 := rfl
  rw [hn6] at e1
  rw [he6, hq]
  have HDm := Lib.hid (And.intro hbY.size s5)
  clear hb6 hn6
  clear hbY hsY g0 hb5 hi5 hi5' s5 t0 hls5 hf6
  go_wp2_with fail
  obtain ⟨hbZ, hsZ, hkZ⟩ := start_allocs [(#[.int .i64 (listD [fixD 2]).K, .int .i64 (listD [fixD 2]).N, .string (listD [fixD 2]).S, .slice am5 (listD [fixD 2]).M.length cm5, .slice (some ⟨b6, o6, none⟩) 1 cl5, .slice at5 (listD [fixD 2]).T.length ct5], 25)] w5
  have g0 := hkZ 0 _ rfl
  simp only [allocs, List.foldl_cons, List.foldl_nil, Nat.add_zero, List.length_cons, List.length_nil, Nat.zero_add] at hbZ hsZ g0
  clear hkZ
  generalize w5.alloc (.cells #[.int .i64 (listD [fixD 2]).K, .int .i64 (listD [fixD 2]).N, .string (listD [fixD 2]).S, .slice am5 (listD [fixD 2]).M.length cm5, .slice (some ⟨b6, o6, none⟩) 1 cl5, .slice at5 (listD [fixD 2]).T.length ct5] 25) = Z at *
  have x0 : Z.cell? ⟨w5.heap.size, 0, none⟩ = some (.int .i64 (listD [fixD 2]).K) := (g0.cell 0).trans rfl
  have x1 : Z.cell? ⟨w5.heap.size, 1, none⟩ = some (.int .i64 (listD [fixD 2]).N) := (g0.cell 1).trans rfl
  have x2 : Z.cell? ⟨w5.heap.size, 2, none⟩ = some (.string (listD [fixD 2]).S) := (g0.cell 2).trans rfl
  have x3 : Z.cell? ⟨w5.heap.size, 3, none⟩ = some (.slice am5 (listD [fixD 2]).M.length cm5) := (g0.cell 3).trans rfl
  have x4 : Z.cell? ⟨w5.heap.size, 4, none⟩ = some (.slice (some ⟨b6, o6, none⟩) 1 cl5) := (g0.cell 4).trans rfl
  have x5 : Z.cell? ⟨w5.heap.size, 5, none⟩ = some (.slice at5 (listD [fixD 2]).T.length ct5) := (g0.cell 5).trans rfl
  have p0 : Z.cell? ⟨w4.heap.size, 0, none⟩ = some (.int .i64 dd.K) := (hbZ.cell (p := ⟨w4.heap.size, 0, none⟩) HS5.out).trans c0
  have p1 : Z.cell? ⟨w4.heap.size, 1, none⟩ = some (.int .i64 dd.N) := (hbZ.cell (p := ⟨w4.heap.size, 1, none⟩) HS5.out).trans c1
  have p2 : Z.cell? ⟨w4.heap.size, 2, none⟩ = some (.string dd.S) := (hbZ.cell (p := ⟨w4.heap.size, 2, none⟩) HS5.out).trans c2
  have p3 : Z.cell? ⟨w4.heap.size, 3, none⟩ = some (.slice am4 dd.M.length cm4) := (hbZ.cell (p := ⟨w4.heap.size, 3, none⟩) HS5.out).trans c3
  have p4 : Z.cell? ⟨w4.heap.size, 4, none⟩ = some (.slice al4 dd.L.length cl4) := (hbZ.cell (p := ⟨w4.heap.size, 4, none⟩) HS5.out).trans c4
  have p5 : Z.cell? ⟨w4.heap.size, 5, none⟩ = some (.slice at4 dd.T.length ct4) := (hbZ.cell (p := ⟨w4.heap.size, 5, none⟩) HS5.out).trans c5
  have q0 : Z.cell? ⟨b6, o6 + 0, none⟩ = some (.int .i64 (fixD 2).K) := (hbZ.cell (p := ⟨b6, o6 + 0, none⟩) hb6').trans (by simpa using e0)
  have q1 : Z.cell? ⟨b6, o6 + 1, none⟩ = some (.int .i64 2) := (hbZ.cell (p := ⟨b6, o6 + 1, none⟩) hb6').trans (by simpa using e1)
  have q2 : Z.cell? ⟨b6, o6 + 2, none⟩ = some (.string (fixD 2).S) := (hbZ.cell (p := ⟨b6, o6 + 2, none⟩) hb6').trans (by simpa using e2)
  have q3 : Z.cell? ⟨b6, o6 + 3, none⟩ = some (.slice z0 (fixD 2).M.length z1) := (hbZ.cell (p := ⟨b6, o6 + 3, none⟩) hb6').trans (by simpa using e3)
  have q4 : Z.cell? ⟨b6, o6 + 4, none⟩ = some (.slice z2 (fixD 2).L.length z3) := (hbZ.cell (p := ⟨b6, o6 + 4, none⟩) hb6').trans (by simpa using e4)
  have q5 : Z.cell? ⟨b6, o6 + 5, none⟩ = some (.slice z4 (fixD 2).T.length z5) := (hbZ.cell (p := ⟨b6, o6 + 5, none⟩) hb6').trans (by simpa using e5)
  have hl1 : w5.heap.size < Z.heap.size := by omega
  have hl2 : w4.heap.size < Z.heap.size := by omega
  have hl3 : b6 < Z.heap.size := by omega
  have HXZ := Lib.hid (HX5.out.trans (hbZ.mono HX5.out.size))
  have HDZ := Lib.hid (IsDt.below (HD5.out.more (Q' := Lo w5.heap.size) (fun b hb => by have h1 : b < w4.heap.size := hb; show b < w5.heap.size; omega)) hbZ)
  have HSZ := Lib.hid hbZ.size
  clear hbZ hsZ g0 c0 c1 c2 c3 c4 c5 e0 e1 e2 e3 e4 e5 hb6'
  refine (size_any dd _ w5.heap.size Z (by exact HDZ.out) HSZ.out).mono ?_
  rintro e w7 ⟨rfl, hb7⟩
  rw [show sizeD dd = 3 by rw [← HDD.out]; exact size_is.1]
  obtain ⟨hc7, _⟩ := bcell hb7
  have Hb7 := Lib.hid hb7
  have s7 := hb7.size
  clear hb7
  go_wp2_with fail
  refine (deep_any dd _ w5.heap.size w7 (by exact HDZ.out.below (Hb7.out.mono HSZ.out)) (by have := HSZ.out; omega)).mono ?_
  rintro e w8 ⟨rfl, hb8⟩
  rw [show deepD dd = 2 by rw [← HDD.out]; exact size_is.2]
  obtain ⟨hc8, _⟩ := bcell hb8
  have Hb8 := Lib.hid (bel_trans Hb7.out hb8)
  have s8 := hb8.size
  have hl4 : w5.heap.size < w7.heap.size := by omega
  have hl5 : w4.heap.size < w7.heap.size := by omega
  have hl6 : b6 < w7.heap.size := by omega
  clear hb8 Hb7
  go_wp2_with fail
  refine (symbol_any _ _ (by decide)).mono ?_
  rintro e w9 ⟨rfl, rfl⟩
  rw [sym_is]
  go_wp2_with fail
  go_ret
  exact ⟨by simp, HXZ.out.trans (Hb8.out.mono HXZ.out.size)⟩
end Go.Proofs.Yteddfdhbpgbloaa.Da
