/- Two data put together: what the program returns. -/
import Derived.Test.YteddfdhbpgbloaaDatConsMath
namespace Go.Proofs.Yteddfdhbpgbloaa.Da
open Go.ChangeShapes Go.WideShapes Go.ChangeAt Go.RowKit

def ConsAt (W1 : World) (a d : Dt) (i : Value) (wr : World) : Prop := ∃ j : Nat, j ≤ 2 ∧ i = .int .i64 (j : Int) ∧ Below W1.heap.size W1 wr ∧ (1 ≤ j → chk a = 0) ∧ (2 ≤ j → chk d = 0)
set_option maxRecDepth 100000 in
set_option maxHeartbeats 4000000 in
theorem cons_any (a d : Dt) (va vd : Value) (B : Nat) (w : World) (ha : IsDt w (Lo B) a va) (hd : IsDt w (Lo B) d vd) (hB : B ≤ w.heap.size) :
    Calls Try.prog 32 #[va, vd] w (TwoR w (Lo B) (consE a d) (consD a d)) := by
  have ha' := ha
  have hd' := hd
  obtain ⟨am, cm, al, cl, at_, ct, rfl, _⟩ := ha'.open_
  obtain ⟨am', cm', al', cl', at', ct', rfl, _, _, _, _, hsl, hls, _⟩ := hd'.open_
  have HA := Lib.hid ha
  have HD := Lib.hid hd
  have Hsl := Lib.hid hsl
  have Hls := Lib.hid hls
  have hlen : (d.L.length : Int) ≤ 17592186044416 := by have a := hsl.1; have b := hsl.2.2.1; omega
  clear ha hd ha' hd' hsl hls
  go_enter Try.func32, Try.ntmps32
  go_wp2_with fail
  obtain ⟨hb, hs, hk⟩ := start_allocs [(#[.int .i64 a.K, .int .i64 a.N, .string a.S, .slice am a.M.length cm, .slice al a.L.length cl, .slice at_ a.T.length ct], 25), (#[.int .i64 d.K, .int .i64 d.N, .string d.S, .slice am' d.M.length cm', .slice al' d.L.length cl', .slice at' d.T.length ct'], 25), (#[.int .i64 0, .int .i64 0, .string ⟨#[]⟩, .slice none 0 0, .slice none 0 0, .slice none 0 0], 25), (#[.int .i64 a.K, .int .i64 a.N, .string a.S, .slice am a.M.length cm, .slice al a.L.length cl, .slice at_ a.T.length ct, .int .i64 d.K, .int .i64 d.N, .string d.S, .slice am' d.M.length cm', .slice al' d.L.length cl', .slice at' d.T.length ct'], 25)] w
  have b0 := hk 0 _ rfl
  have b1 := hk 1 _ rfl
  have b2 := hk 2 _ rfl
  have b3 := hk 3 _ rfl
  simp only [allocs, List.foldl_cons, List.foldl_nil, Nat.add_zero, List.length_cons, List.length_nil, Nat.zero_add, Nat.reduceAdd] at hb hs b0 b1 b2 b3
  clear hk
  generalize ((((w.alloc (.cells #[.int .i64 a.K, .int .i64 a.N, .string a.S, .slice am a.M.length cm, .slice al a.L.length cl, .slice at_ a.T.length ct] 25)).alloc (.cells #[.int .i64 d.K, .int .i64 d.N, .string d.S, .slice am' d.M.length cm', .slice al' d.L.length cl', .slice at' d.T.length ct'] 25)).alloc (.cells #[.int .i64 0, .int .i64 0, .string ⟨#[]⟩, .slice none 0 0, .slice none 0 0, .slice none 0 0] 25)).alloc (.cells #[.int .i64 a.K, .int .i64 a.N, .string a.S, .slice am a.M.length cm, .slice al a.L.length cl, .slice at_ a.T.length ct, .int .i64 d.K, .int .i64 d.N, .string d.S, .slice am' d.M.length cm', .slice al' d.L.length cl', .slice at' d.T.length ct'] 25)) = W1 at *
  obtain ⟨N, hN⟩ : ∃ N, w.heap.size = N := ⟨_, rfl⟩
  rw [hN] at hs b0 b1 b2 b3 ⊢
  have Hb := Lib.hid hb
  have Hs := Lib.hid hs
  have B0 := Lib.hid b0
  have B1 := Lib.hid b1
  have B2 := Lib.hid b2
  have B3 := Lib.hid b3
  have HN := Lib.hid hN
  have hBN : B ≤ N := by omega
  have hBN' : B ≤ w.heap.size := hB
  clear hb hs b0 b1 b2 b3 hN
  obtain ⟨ca, hca⟩ : ∃ ca, chk a = ca := ⟨_, rfl⟩
  obtain ⟨cd, hcd⟩ : ∃ cd, chk d = cd := ⟨_, rfl⟩
  have HCA := Lib.hid hca
  have HCD := Lib.hid hcd
  clear hca hcd
  go_loopw [15] (fun i wr => ConsAt W1 a d i wr) (fun i _ => 2 - (intOf i).toNat)
  case atStart => exact ⟨0, by omega, rfl, Below.refl _ _, fun h => by omega, fun h => by omega⟩
  case round =>
    obtain ⟨j, hj, rfl, hbw, hj1, hj2⟩ := hrel
    have hsz : N + 4 ≤ wr.heap.size := by have := hbw.size; have := Hs.out; omega
    have hs1 := Hs.out
    have e0 := B0.out.fr (Fr.of_bel hbw (fun _ => False)) (fun h => h) (by omega)
    have e1 := B1.out.fr (Fr.of_bel hbw (fun _ => False)) (fun h => h) (by omega)
    have e2 := B2.out.fr (Fr.of_bel hbw (fun _ => False)) (fun h => h) (by omega)
    have e3 := B3.out.fr (Fr.of_bel hbw (fun _ => False)) (fun h => h) (by omega)
    have hww : Below w.heap.size w wr := Hb.out.trans (hbw.mono Hb.out.size)
    have E0 := Lib.hid e0
    have E1 := Lib.hid e1
    have E2 := Lib.hid e2
    have E3 := Lib.hid e3
    have Hww := Lib.hid hww
    have Hbw := Lib.hid hbw
    have HJ := Lib.hid (And.intro hj1 hj2)
    clear e0 e1 e2 e3 hww hbw hj1 hj2 hs1
    have hjj : j = 0 ∨ j = 1 ∨ j = 2 := by omega
    rcases hjj with rfl | rfl | rfl
    · -- element 0
      have c0 : wr.cell? ⟨N + 3, 0, none⟩ = some (.int .i64 a.K) := (E3.out.cell 0).trans rfl
      have c1 : wr.cell? ⟨N + 3, 1, none⟩ = some (.int .i64 a.N) := (E3.out.cell 1).trans rfl
      have c2 : wr.cell? ⟨N + 3, 2, none⟩ = some (.string a.S) := (E3.out.cell 2).trans rfl
      have c3 : wr.cell? ⟨N + 3, 3, none⟩ = some (.slice am a.M.length cm) := (E3.out.cell 3).trans rfl
      have c4 : wr.cell? ⟨N + 3, 4, none⟩ = some (.slice al a.L.length cl) := (E3.out.cell 4).trans rfl
      have c5 : wr.cell? ⟨N + 3, 5, none⟩ = some (.slice at_ a.T.length ct) := (E3.out.cell 5).trans rfl
      have y0 : wr.cell? ⟨N + 2, 0, none⟩ = some (.int .i64 0) := (E2.out.cell 0).trans rfl
      have y1 : wr.cell? ⟨N + 2, 1, none⟩ = some (.int .i64 0) := (E2.out.cell 1).trans rfl
      have y2 : wr.cell? ⟨N + 2, 2, none⟩ = some (.string ⟨#[]⟩) := (E2.out.cell 2).trans rfl
      have y3 : wr.cell? ⟨N + 2, 3, none⟩ = some (.slice none 0 0) := (E2.out.cell 3).trans rfl
      have y4 : wr.cell? ⟨N + 2, 4, none⟩ = some (.slice none 0 0) := (E2.out.cell 4).trans rfl
      have y5 : wr.cell? ⟨N + 2, 5, none⟩ = some (.slice none 0 0) := (E2.out.cell 5).trans rfl
      have f0 := E2.out.frozen 0
      have f1 := E2.out.frozen 1
      have f2 := E2.out.frozen 2
      have f3 := E2.out.frozen 3
      have f4 := E2.out.frozen 4
      have f5 := E2.out.frozen 5
      by_cases h0 : ca = 0
      · subst h0
        go_wp2_with fail
        refine (check_any a _ B _ (by exact HA.out.below ((Hww.out.mono hB).trans ((Below.refl _ _).alloc (by omega) _))) (by simp; omega)).mono ?_
        rintro e w2 ⟨rfl, hb2⟩
        rw [HCA.out]
        have Hb2 := Lib.hid hb2
        clear hb2
        go_wp2_with fail
        go_roundw
        case rel => exact ⟨1, by omega, rfl, Hbw.out.trans (((Below.refl _ _).alloc (by have := Hbw.out.size; omega) _).trans (Hb2.out.mono (by simp; have := Hbw.out.size; omega))), fun _ => HCA.out, fun h => by omega⟩
        case measure => simp [intOf]
      · have dn : (ca != 0) = true := by simp [h0]
        have H0 := Lib.hid h0
        clear h0
        have hlt2 : N + 2 < wr.heap.size := by omega
        go_wp2_with fail
        refine (check_any a _ B _ (by exact HA.out.below ((Hww.out.mono hB).trans ((Below.refl _ _).alloc (by omega) _))) (by simp; omega)).mono ?_
        rintro e w2 ⟨rfl, hb2⟩
        rw [HCA.out]
        obtain ⟨hc2, hz2⟩ := bcell hb2
        have Hb2 := Lib.hid hb2
        have hlt3 : N + 2 < wr.heap.size + 1 := by omega
        clear hb2
        go_wp2_with fail
        have he : consE a d = ca := by unfold consE; rw [if_pos (by rw [HCA.out]; exact H0.out), HCA.out]
        rw [he]
        refine bodyPost_ret (v := .tuple #[zeroV, .int .i64 ca]) ?_ rfl ?_
        · simp [results, Try.results32, go_sem, hc2, hlt3, hlt2, zeroV, y0, y1, y2, y3, y4, y5]
        · exact two_bad (b := N + 2) (by have := HN.out; omega) H0.out (Hww.out.trans ((bel_trans (bel_alloc _ _) Hb2.out).mono Hww.out.size)) rfl
    · -- element 1
      have c0 : wr.cell? ⟨N + 3, 6, none⟩ = some (.int .i64 d.K) := (E3.out.cell 6).trans rfl
      have c1 : wr.cell? ⟨N + 3, 7, none⟩ = some (.int .i64 d.N) := (E3.out.cell 7).trans rfl
      have c2 : wr.cell? ⟨N + 3, 8, none⟩ = some (.string d.S) := (E3.out.cell 8).trans rfl
      have c3 : wr.cell? ⟨N + 3, 9, none⟩ = some (.slice am' d.M.length cm') := (E3.out.cell 9).trans rfl
      have c4 : wr.cell? ⟨N + 3, 10, none⟩ = some (.slice al' d.L.length cl') := (E3.out.cell 10).trans rfl
      have c5 : wr.cell? ⟨N + 3, 11, none⟩ = some (.slice at' d.T.length ct') := (E3.out.cell 11).trans rfl
      have y0 : wr.cell? ⟨N + 2, 0, none⟩ = some (.int .i64 0) := (E2.out.cell 0).trans rfl
      have y1 : wr.cell? ⟨N + 2, 1, none⟩ = some (.int .i64 0) := (E2.out.cell 1).trans rfl
      have y2 : wr.cell? ⟨N + 2, 2, none⟩ = some (.string ⟨#[]⟩) := (E2.out.cell 2).trans rfl
      have y3 : wr.cell? ⟨N + 2, 3, none⟩ = some (.slice none 0 0) := (E2.out.cell 3).trans rfl
      have y4 : wr.cell? ⟨N + 2, 4, none⟩ = some (.slice none 0 0) := (E2.out.cell 4).trans rfl
      have y5 : wr.cell? ⟨N + 2, 5, none⟩ = some (.slice none 0 0) := (E2.out.cell 5).trans rfl
      have f0 := E2.out.frozen 0
      have f1 := E2.out.frozen 1
      have f2 := E2.out.frozen 2
      have f3 := E2.out.frozen 3
      have f4 := E2.out.frozen 4
      have f5 := E2.out.frozen 5
      by_cases h0 : cd = 0
      · subst h0
        go_wp2_with fail
        refine (check_any d _ B _ (by exact HD.out.below ((Hww.out.mono hB).trans ((Below.refl _ _).alloc (by omega) _))) (by simp; omega)).mono ?_
        rintro e w2 ⟨rfl, hb2⟩
        rw [HCD.out]
        have Hb2 := Lib.hid hb2
        clear hb2
        go_wp2_with fail
        go_roundw
        case rel => exact ⟨2, by omega, rfl, Hbw.out.trans (((Below.refl _ _).alloc (by have := Hbw.out.size; omega) _).trans (Hb2.out.mono (by simp; have := Hbw.out.size; omega))), fun _ => HJ.out.1 (by omega), fun _ => HCD.out⟩
        case measure => simp [intOf]
      · have dn : (cd != 0) = true := by simp [h0]
        have H0 := Lib.hid h0
        clear h0
        have hlt2 : N + 2 < wr.heap.size := by omega
        go_wp2_with fail
        refine (check_any d _ B _ (by exact HD.out.below ((Hww.out.mono hB).trans ((Below.refl _ _).alloc (by omega) _))) (by simp; omega)).mono ?_
        rintro e w2 ⟨rfl, hb2⟩
        rw [HCD.out]
        obtain ⟨hc2, hz2⟩ := bcell hb2
        have Hb2 := Lib.hid hb2
        have hlt3 : N + 2 < wr.heap.size + 1 := by omega
        clear hb2
        go_wp2_with fail
        have he : consE a d = cd := by unfold consE; rw [if_neg (by rw [HJ.out.1 (by omega)]; simp), if_pos (by rw [HCD.out]; exact H0.out), HCD.out]
        rw [he]
        refine bodyPost_ret (v := .tuple #[zeroV, .int .i64 cd]) ?_ rfl ?_
        · simp [results, Try.results32, go_sem, hc2, hlt3, hlt2, zeroV, y0, y1, y2, y3, y4, y5]
        · exact two_bad (b := N + 2) (by have := HN.out; omega) H0.out (Hww.out.trans ((bel_trans (bel_alloc _ _) Hb2.out).mono Hww.out.size)) rfl
    · -- the pair itself
      have p0 : wr.cell? ⟨N, 0, none⟩ = some (.int .i64 a.K) := (E0.out.cell 0).trans rfl
      have p1 : wr.cell? ⟨N, 1, none⟩ = some (.int .i64 a.N) := (E0.out.cell 1).trans rfl
      have p2 : wr.cell? ⟨N, 2, none⟩ = some (.string a.S) := (E0.out.cell 2).trans rfl
      have p3 : wr.cell? ⟨N, 3, none⟩ = some (.slice am a.M.length cm) := (E0.out.cell 3).trans rfl
      have p4 : wr.cell? ⟨N, 4, none⟩ = some (.slice al a.L.length cl) := (E0.out.cell 4).trans rfl
      have p5 : wr.cell? ⟨N, 5, none⟩ = some (.slice at_ a.T.length ct) := (E0.out.cell 5).trans rfl
      have q0 : wr.cell? ⟨N + 1, 0, none⟩ = some (.int .i64 d.K) := (E1.out.cell 0).trans rfl
      have q1 : wr.cell? ⟨N + 1, 1, none⟩ = some (.int .i64 d.N) := (E1.out.cell 1).trans rfl
      have q2 : wr.cell? ⟨N + 1, 2, none⟩ = some (.string d.S) := (E1.out.cell 2).trans rfl
      have q3 : wr.cell? ⟨N + 1, 3, none⟩ = some (.slice am' d.M.length cm') := (E1.out.cell 3).trans rfl
      have q4 : wr.cell? ⟨N + 1, 4, none⟩ = some (.slice al' d.L.length cl') := (E1.out.cell 4).trans rfl
      have q5 : wr.cell? ⟨N + 1, 5, none⟩ = some (.slice at' d.T.length ct') := (E1.out.cell 5).trans rfl
      have y0 : wr.cell? ⟨N + 2, 0, none⟩ = some (.int .i64 0) := (E2.out.cell 0).trans rfl
      have y1 : wr.cell? ⟨N + 2, 1, none⟩ = some (.int .i64 0) := (E2.out.cell 1).trans rfl
      have y2 : wr.cell? ⟨N + 2, 2, none⟩ = some (.string ⟨#[]⟩) := (E2.out.cell 2).trans rfl
      have y3 : wr.cell? ⟨N + 2, 3, none⟩ = some (.slice none 0 0) := (E2.out.cell 3).trans rfl
      have y4 : wr.cell? ⟨N + 2, 4, none⟩ = some (.slice none 0 0) := (E2.out.cell 4).trans rfl
      have y5 : wr.cell? ⟨N + 2, 5, none⟩ = some (.slice none 0 0) := (E2.out.cell 5).trans rfl
      have f0 := E2.out.frozen 0
      have f1 := E2.out.frozen 1
      have f2 := E2.out.frozen 2
      have f3 := E2.out.frozen 3
      have f4 := E2.out.frozen 4
      have f5 := E2.out.frozen 5
      have hN0 : N < wr.heap.size := by omega
      have hN1 : N + 1 < wr.heap.size := by omega
      have hN2 : N + 2 < wr.heap.size := by omega
      have hNa : N < wr.heap.size + 1 := by omega
      have hNb : N < wr.heap.size + 1 + 1 := by omega
      have hNc : N < wr.heap.size + 1 + 1 + 1 := by omega
      have hNd : N + 1 < wr.heap.size + 1 + 1 := by omega
      have hNe : N + 1 < wr.heap.size + 1 := by omega
      by_cases h67 : d.K = 6 ∨ d.K = 7
      · have hcd : consD a d = .mk d.K d.N d.S d.M (a :: d.L) d.T := by unfold consD; rw [if_pos h67]
        have Hcd := Lib.hid hcd
        clear hcd
        cases d6 : (d.K == 6)
        · have d7 : (d.K == 7) = true := by
            rw [beq_iff_eq]
            rcases h67 with h | h
            · rw [h] at d6; cases d6
            · exact h
          clear h67
          go_wp2_with fail
          obtain ⟨hbY, hsY, hkY⟩ := start_allocs [(#[.int .i64 a.K, .int .i64 a.N, .string a.S, .slice am a.M.length cm, .slice al a.L.length cl, .slice at_ a.T.length ct], 25), (#[.int .i64 d.K, .int .i64 d.N, .string d.S, .slice am' d.M.length cm', .slice al' d.L.length cl', .slice at' d.T.length ct'], 25), (#[.int .i64 d.K, .int .i64 d.N, .string d.S, .slice am' d.M.length cm', .slice al' d.L.length cl', .slice at' d.T.length ct'], 25), (#[.int .i64 a.K, .int .i64 a.N, .string a.S, .slice am a.M.length cm, .slice al a.L.length cl, .slice at_ a.T.length ct], 25), (#[.slice (some ⟨wr.heap.size + 1 + 1 + 1, 0, none⟩) 1 1, .slice al' d.L.length cl'], 23)] wr
          have g2 := hkY 2 _ rfl
          have g3 := hkY 3 _ rfl
          have g4 := hkY 4 _ rfl
          simp only [allocs, List.foldl_cons, List.foldl_nil, List.length_cons, List.length_nil, Nat.zero_add, Nat.reduceAdd] at hbY hsY g2 g3 g4
          clear hkY
          generalize (((((wr.alloc (.cells #[.int .i64 a.K, .int .i64 a.N, .string a.S, .slice am a.M.length cm, .slice al a.L.length cl, .slice at_ a.T.length ct] 25)).alloc (.cells #[.int .i64 d.K, .int .i64 d.N, .string d.S, .slice am' d.M.length cm', .slice al' d.L.length cl', .slice at' d.T.length ct'] 25)).alloc (.cells #[.int .i64 d.K, .int .i64 d.N, .string d.S, .slice am' d.M.length cm', .slice al' d.L.length cl', .slice at' d.T.length ct'] 25)).alloc (.cells #[.int .i64 a.K, .int .i64 a.N, .string a.S, .slice am a.M.length cm, .slice al a.L.length cl, .slice at_ a.T.length ct] 25)).alloc (.cells #[.slice (some ⟨wr.heap.size + 1 + 1 + 1, 0, none⟩) 1 1, .slice al' d.L.length cl'] 23)) = Y at *
          have hww := Hww.out
          have hY : Below w.heap.size w Y := hww.trans (hbY.mono hww.size)
          have hln := len_le (HJ.out.2 (by omega))
          have hlsY : IsDts Y (Lo B) al' 0 d.L := Hls.out.below (hY.mono hB)
          obtain ⟨news1, hn1, hn2, hn3⟩ : ∃ news1 : List Value, news1.length = d.L.length * 6 ∧ (∀ ad, al' = some ad → (∀ j u, news1[j]? = some u → Y.cell? (ad.add j) = some u)) ∧ (∀ u ∈ news1, u.oneCell' = true) := by
            cases al' with
            | none =>
              have h0 := Hsl.out.2.2.2 rfl
              have h1 := Hsl.out.1
              exact ⟨[], (by simp; omega), (fun ad h => by cases h), (by simp)⟩
            | some ad =>
              obtain ⟨news, q1, q2, q3⟩ := dts_cells hlsY
              exact ⟨news, q1, fun ad' h => by injection h with h; subst h; exact q2, q3⟩
          have hc1 : al' = none → d.L.length = 0 ∧ cl' = 0 := fun h => by have h0 := Hsl.out.2.2.2 h; have h1 := Hsl.out.1; omega
          have hcat := concat_any (wr.heap.size + 4) ⟨wr.heap.size + 3, 0, none⟩ 1 al' d.L.length cl' [.int .i64 a.K, .int .i64 a.N, .string a.S, .slice am a.M.length cm, .slice al a.L.length cl, .slice at_ a.T.length ct] news1 Y (by omega) ((g4.cell 0).trans rfl) ((g4.cell 1).trans rfl) (by omega) hc1 rfl
            (fun j u hu => by rw [add_plain, Nat.zero_add, g3.cell j, ← hu]; simp) (by simp [Value.oneCell']) (by show wr.heap.size + 3 < Y.heap.size; omega) hn1
            (fun ad h => ⟨hn2 ad h, by
              rcases Nat.eq_zero_or_pos d.L.length with q | q
              · exact .inr q
              · obtain ⟨b', off, _, _, _, _, _, _, he, hb', _⟩ := hlsY.at6 0 (d.L[0]'q) (by simp)
                rw [h] at he
                injection he with he
                subst he
                have h1 : b' < B := hb'
                exact .inl (by show b' < Y.heap.size; have := hY.size; omega)⟩) hn3
          refine hcat.mono ?_
          rintro e w4 ⟨g, cap2, rfl, hg1, hg2, hg3, hg4, hg5, hb4⟩
          have t2 := g2.fr (Fr.of_bel hb4 (fun _ => False)) (fun h => h) (by omega)
          have u0 : w4.cell? ⟨wr.heap.size + 2, 0, none⟩ = some (.int .i64 d.K) := (t2.cell 0).trans rfl
          have u1 : w4.cell? ⟨wr.heap.size + 2, 1, none⟩ = some (.int .i64 d.N) := (t2.cell 1).trans rfl
          have u2 : w4.cell? ⟨wr.heap.size + 2, 2, none⟩ = some (.string d.S) := (t2.cell 2).trans rfl
          have u3 : w4.cell? ⟨wr.heap.size + 2, 3, none⟩ = some (.slice am' d.M.length cm') := (t2.cell 3).trans rfl
          have u4 : w4.cell? ⟨wr.heap.size + 2, 4, none⟩ = some (.slice al' d.L.length cl') := (t2.cell 4).trans rfl
          have u5 : w4.cell? ⟨wr.heap.size + 2, 5, none⟩ = some (.slice at' d.T.length ct') := (t2.cell 5).trans rfl
          have z0 := t2.frozen 0
          have z1 := t2.frozen 1
          have z2 := t2.frozen 2
          have z3 := t2.frozen 3
          have z4 := t2.frozen 4
          have z5 := t2.frozen 5
          clear p0 p1 p2 p3 p4 p5 q0 q1 q2 q3 q4 q5
          have Hg := Lib.hid (And.intro hg1 (And.intro hg2 (And.intro hg3 (And.intro hg4 hg5))))
          have Hb4 := Lib.hid hb4
          have HbY := Lib.hid hbY
          have HsY := Lib.hid hsY
          have HY := Lib.hid hY
          have HlsY := Lib.hid hlsY
          have Hn := Lib.hid (And.intro hn1 (And.intro hn2 hln))
          have Hy := Lib.hid (And.intro y0 (And.intro y1 (And.intro y2 (And.intro y3 (And.intro y4 y5)))))
          have Hf := Lib.hid (And.intro f0 (And.intro f1 (And.intro f2 (And.intro f3 (And.intro f4 f5)))))
          clear hg1 hg2 hg3 hg4 hg5 hb4 t2 hbY hsY hY hlsY hn1 hn2 hn3 hc1 hcat g2 g3 g4 hww hln y0 y1 y2 y3 y4 y5 f0 f1 f2 f3 f4 f5
          go_wp2_with fail
          have hy := Hy.out
          have hf := Hf.out
          have hwn := HN.out
          have hsY := HsY.out
          have hs4 := Hb4.out.size
          obtain ⟨k1, k2, k3⟩ := cons_row (P := wr.heap.size + 1 + 1) hBN' HA.out HD.out HY.out HlsY.out Hn.out Hg.out Hb4.out (by rw [hwn]; omega) (by omega) (.slice (some ⟨g, 0, none⟩) (1 + d.L.length) cap2)
          rw [← Hcd.out] at k3
          have r0 := (set_ne w4 (wr.heap.size + 1 + 1) 4 (wr.heap.size + 2) 0 (.slice (some ⟨g, 0, none⟩) (1 + d.L.length) cap2) (.inr (by omega))).trans u0
          have r1 := (set_ne w4 (wr.heap.size + 1 + 1) 4 (wr.heap.size + 2) 1 (.slice (some ⟨g, 0, none⟩) (1 + d.L.length) cap2) (.inr (by omega))).trans u1
          have r2 := (set_ne w4 (wr.heap.size + 1 + 1) 4 (wr.heap.size + 2) 2 (.slice (some ⟨g, 0, none⟩) (1 + d.L.length) cap2) (.inr (by omega))).trans u2
          have r3 := (set_ne w4 (wr.heap.size + 1 + 1) 4 (wr.heap.size + 2) 3 (.slice (some ⟨g, 0, none⟩) (1 + d.L.length) cap2) (.inr (by omega))).trans u3
          have r4 := set_eq w4 (wr.heap.size + 1 + 1) 4 (.slice (some ⟨g, 0, none⟩) (1 + d.L.length) cap2) _ u4
          have r5 := (set_ne w4 (wr.heap.size + 1 + 1) 4 (wr.heap.size + 2) 5 (.slice (some ⟨g, 0, none⟩) (1 + d.L.length) cap2) (.inr (by omega))).trans u5
          have x0 := ((set_ne w4 (wr.heap.size + 1 + 1) 4 (N + 2) 0 (.slice (some ⟨g, 0, none⟩) (1 + d.L.length) cap2) (.inl (by omega))).trans ((Hb4.out.cell (p := ⟨N + 2, 0, none⟩) (by show N + 2 < Y.heap.size; omega)).trans (HbY.out.cell (p := ⟨N + 2, 0, none⟩) (by show N + 2 < wr.heap.size; omega)))).trans hy.1
          have fz0 : (w4.setCell ⟨wr.heap.size + 1 + 1, 4, none⟩ (.slice (some ⟨g, 0, none⟩) (1 + d.L.length) cap2)).frozen? ⟨N + 2, 0, none⟩ = false := by rw [World.frozen?_setCell]; exact ((Hb4.out.frozen (p := ⟨N + 2, 0, none⟩) (by show N + 2 < Y.heap.size; omega)).trans (HbY.out.frozen (p := ⟨N + 2, 0, none⟩) (by show N + 2 < wr.heap.size; omega))).trans hf.1
          have x1 := ((set_ne w4 (wr.heap.size + 1 + 1) 4 (N + 2) 1 (.slice (some ⟨g, 0, none⟩) (1 + d.L.length) cap2) (.inl (by omega))).trans ((Hb4.out.cell (p := ⟨N + 2, 1, none⟩) (by show N + 2 < Y.heap.size; omega)).trans (HbY.out.cell (p := ⟨N + 2, 1, none⟩) (by show N + 2 < wr.heap.size; omega)))).trans hy.2.1
          have fz1 : (w4.setCell ⟨wr.heap.size + 1 + 1, 4, none⟩ (.slice (some ⟨g, 0, none⟩) (1 + d.L.length) cap2)).frozen? ⟨N + 2, 1, none⟩ = false := by rw [World.frozen?_setCell]; exact ((Hb4.out.frozen (p := ⟨N + 2, 1, none⟩) (by show N + 2 < Y.heap.size; omega)).trans (HbY.out.frozen (p := ⟨N + 2, 1, none⟩) (by show N + 2 < wr.heap.size; omega))).trans hf.2.1
          have x2 := ((set_ne w4 (wr.heap.size + 1 + 1) 4 (N + 2) 2 (.slice (some ⟨g, 0, none⟩) (1 + d.L.length) cap2) (.inl (by omega))).trans ((Hb4.out.cell (p := ⟨N + 2, 2, none⟩) (by show N + 2 < Y.heap.size; omega)).trans (HbY.out.cell (p := ⟨N + 2, 2, none⟩) (by show N + 2 < wr.heap.size; omega)))).trans hy.2.2.1
          have fz2 : (w4.setCell ⟨wr.heap.size + 1 + 1, 4, none⟩ (.slice (some ⟨g, 0, none⟩) (1 + d.L.length) cap2)).frozen? ⟨N + 2, 2, none⟩ = false := by rw [World.frozen?_setCell]; exact ((Hb4.out.frozen (p := ⟨N + 2, 2, none⟩) (by show N + 2 < Y.heap.size; omega)).trans (HbY.out.frozen (p := ⟨N + 2, 2, none⟩) (by show N + 2 < wr.heap.size; omega))).trans hf.2.2.1
          have x3 := ((set_ne w4 (wr.heap.size + 1 + 1) 4 (N + 2) 3 (.slice (some ⟨g, 0, none⟩) (1 + d.L.length) cap2) (.inl (by omega))).trans ((Hb4.out.cell (p := ⟨N + 2, 3, none⟩) (by show N + 2 < Y.heap.size; omega)).trans (HbY.out.cell (p := ⟨N + 2, 3, none⟩) (by show N + 2 < wr.heap.size; omega)))).trans hy.2.2.2.1
          have fz3 : (w4.setCell ⟨wr.heap.size + 1 + 1, 4, none⟩ (.slice (some ⟨g, 0, none⟩) (1 + d.L.length) cap2)).frozen? ⟨N + 2, 3, none⟩ = false := by rw [World.frozen?_setCell]; exact ((Hb4.out.frozen (p := ⟨N + 2, 3, none⟩) (by show N + 2 < Y.heap.size; omega)).trans (HbY.out.frozen (p := ⟨N + 2, 3, none⟩) (by show N + 2 < wr.heap.size; omega))).trans hf.2.2.2.1
          have x4 := ((set_ne w4 (wr.heap.size + 1 + 1) 4 (N + 2) 4 (.slice (some ⟨g, 0, none⟩) (1 + d.L.length) cap2) (.inl (by omega))).trans ((Hb4.out.cell (p := ⟨N + 2, 4, none⟩) (by show N + 2 < Y.heap.size; omega)).trans (HbY.out.cell (p := ⟨N + 2, 4, none⟩) (by show N + 2 < wr.heap.size; omega)))).trans hy.2.2.2.2.1
          have fz4 : (w4.setCell ⟨wr.heap.size + 1 + 1, 4, none⟩ (.slice (some ⟨g, 0, none⟩) (1 + d.L.length) cap2)).frozen? ⟨N + 2, 4, none⟩ = false := by rw [World.frozen?_setCell]; exact ((Hb4.out.frozen (p := ⟨N + 2, 4, none⟩) (by show N + 2 < Y.heap.size; omega)).trans (HbY.out.frozen (p := ⟨N + 2, 4, none⟩) (by show N + 2 < wr.heap.size; omega))).trans hf.2.2.2.2.1
          have x5 := ((set_ne w4 (wr.heap.size + 1 + 1) 4 (N + 2) 5 (.slice (some ⟨g, 0, none⟩) (1 + d.L.length) cap2) (.inl (by omega))).trans ((Hb4.out.cell (p := ⟨N + 2, 5, none⟩) (by show N + 2 < Y.heap.size; omega)).trans (HbY.out.cell (p := ⟨N + 2, 5, none⟩) (by show N + 2 < wr.heap.size; omega)))).trans hy.2.2.2.2.2
          have fz5 : (w4.setCell ⟨wr.heap.size + 1 + 1, 4, none⟩ (.slice (some ⟨g, 0, none⟩) (1 + d.L.length) cap2)).frozen? ⟨N + 2, 5, none⟩ = false := by rw [World.frozen?_setCell]; exact ((Hb4.out.frozen (p := ⟨N + 2, 5, none⟩) (by show N + 2 < Y.heap.size; omega)).trans (HbY.out.frozen (p := ⟨N + 2, 5, none⟩) (by show N + 2 < wr.heap.size; omega))).trans hf.2.2.2.2.2
          have hl1 : N + 2 < (w4.setCell ⟨wr.heap.size + 1 + 1, 4, none⟩ (.slice (some ⟨g, 0, none⟩) (1 + d.L.length) cap2)).heap.size := by rw [k2]; omega
          have hl3 : wr.heap.size + 2 < (w4.setCell ⟨wr.heap.size + 1 + 1, 4, none⟩ (.slice (some ⟨g, 0, none⟩) (1 + d.L.length) cap2)).heap.size := by rw [k2]; omega
          clear hy hf u0 u1 u2 u3 u4 u5 z0 z1 z2 z3 z4 z5 hs4 hsY k2
          generalize w4.setCell ⟨wr.heap.size + 1 + 1, 4, none⟩ (.slice (some ⟨g, 0, none⟩) (1 + d.L.length) cap2) = X at *
          have HX := Lib.hid k1
          have HI := Lib.hid k3
          clear k1 k3 hwn
          obtain ⟨cp, hcp⟩ : ∃ cp, chk (consD a d) = cp := ⟨_, rfl⟩
          have HCP := Lib.hid hcp
          have he : consE a d = cp := by unfold consE; rw [if_neg (by rw [HJ.out.1 (by omega)]; simp), if_neg (by rw [HJ.out.2 (by omega)]; simp), hcp]
          have HE := Lib.hid he
          clear hcp he
          refine (check_any (consD a d) _ X.heap.size X HI.out (Nat.le_refl _)).mono ?_
          rintro e w2 ⟨rfl, hb2⟩
          rw [HCP.out]
          obtain ⟨hc2, hz2⟩ := bcell hb2
          have Hb2 := Lib.hid hb2
          have hl2 : N + 2 < w2.heap.size := by have := hb2.size; omega
          clear hb2
          by_cases h0 : cp = 0
          · subst h0
            go_wp2_with fail
            refine (own_any (consD a d) _ X.heap.size w2 (by exact HI.out.below Hb2.out) Hb2.out.size).mono ?_
            rintro e w3 ⟨v', rfl, hb3, hi3, ho3⟩
            have ho := ho3 (chk_cnt HCP.out)
            obtain ⟨am2, cm2, al2, cl2, at2, ct2, rfl, _⟩ := hi3.open_
            obtain ⟨hc3, hz3⟩ := bcell hb3
            have Hb3 := Lib.hid hb3
            have Ho := Lib.hid ho
            clear hb3 hi3 ho3 ho
            go_wp2_with fail
            refine bodyPost_ret (v := .tuple #[.agg #[.int .i64 (consD a d).K, .int .i64 (consD a d).N, .string (consD a d).S, .slice am2 (consD a d).M.length cm2, .slice al2 (consD a d).L.length cl2, .slice at2 (consD a d).T.length ct2], .int .i64 0]) ?_ rfl ?_
            · simp [results, Try.results32, go_sem, hc2, hc3, hl1, hl2, x0, x1, x2, x3, x4, x5]
            · rw [HE.out]
              exact two_own (b := N + 2) (by have := HN.out; omega) hl2 (HX.out.trans ((bel_trans Hb2.out Hb3.out).mono HX.out.size)) (Nat.le_refl _) Ho.out
          · have dn : (cp != 0) = true := by simp [h0]
            have H0 := Lib.hid h0
            clear h0
            go_wp2_with fail
            refine bodyPost_ret (v := .tuple #[zeroV, .int .i64 cp]) ?_ rfl ?_
            · simp [results, Try.results32, go_sem, hc2, hl1, zeroV, x0, x1, x2, x3, x4, x5]
            · rw [HE.out]
              exact two_bad (b := N + 2) (by have := HN.out; omega) H0.out (HX.out.trans (Hb2.out.mono HX.out.size)) rfl
        · clear h67
          go_wp2_with fail
          obtain ⟨hbY, hsY, hkY⟩ := start_allocs [(#[.int .i64 a.K, .int .i64 a.N, .string a.S, .slice am a.M.length cm, .slice al a.L.length cl, .slice at_ a.T.length ct], 25), (#[.int .i64 d.K, .int .i64 d.N, .string d.S, .slice am' d.M.length cm', .slice al' d.L.length cl', .slice at' d.T.length ct'], 25), (#[.int .i64 d.K, .int .i64 d.N, .string d.S, .slice am' d.M.length cm', .slice al' d.L.length cl', .slice at' d.T.length ct'], 25), (#[.int .i64 a.K, .int .i64 a.N, .string a.S, .slice am a.M.length cm, .slice al a.L.length cl, .slice at_ a.T.length ct], 25), (#[.slice (some ⟨wr.heap.size + 1 + 1 + 1, 0, none⟩) 1 1, .slice al' d.L.length cl'], 23)] wr
          have g2 := hkY 2 _ rfl
          have g3 := hkY 3 _ rfl
          have g4 := hkY 4 _ rfl
          simp only [allocs, List.foldl_cons, List.foldl_nil, List.length_cons, List.length_nil, Nat.zero_add, Nat.reduceAdd] at hbY hsY g2 g3 g4
          clear hkY
          generalize (((((wr.alloc (.cells #[.int .i64 a.K, .int .i64 a.N, .string a.S, .slice am a.M.length cm, .slice al a.L.length cl, .slice at_ a.T.length ct] 25)).alloc (.cells #[.int .i64 d.K, .int .i64 d.N, .string d.S, .slice am' d.M.length cm', .slice al' d.L.length cl', .slice at' d.T.length ct'] 25)).alloc (.cells #[.int .i64 d.K, .int .i64 d.N, .string d.S, .slice am' d.M.length cm', .slice al' d.L.length cl', .slice at' d.T.length ct'] 25)).alloc (.cells #[.int .i64 a.K, .int .i64 a.N, .string a.S, .slice am a.M.length cm, .slice al a.L.length cl, .slice at_ a.T.length ct] 25)).alloc (.cells #[.slice (some ⟨wr.heap.size + 1 + 1 + 1, 0, none⟩) 1 1, .slice al' d.L.length cl'] 23)) = Y at *
          have hww := Hww.out
          have hY : Below w.heap.size w Y := hww.trans (hbY.mono hww.size)
          have hln := len_le (HJ.out.2 (by omega))
          have hlsY : IsDts Y (Lo B) al' 0 d.L := Hls.out.below (hY.mono hB)
          obtain ⟨news1, hn1, hn2, hn3⟩ : ∃ news1 : List Value, news1.length = d.L.length * 6 ∧ (∀ ad, al' = some ad → (∀ j u, news1[j]? = some u → Y.cell? (ad.add j) = some u)) ∧ (∀ u ∈ news1, u.oneCell' = true) := by
            cases al' with
            | none =>
              have h0 := Hsl.out.2.2.2 rfl
              have h1 := Hsl.out.1
              exact ⟨[], (by simp; omega), (fun ad h => by cases h), (by simp)⟩
            | some ad =>
              obtain ⟨news, q1, q2, q3⟩ := dts_cells hlsY
              exact ⟨news, q1, fun ad' h => by injection h with h; subst h; exact q2, q3⟩
          have hc1 : al' = none → d.L.length = 0 ∧ cl' = 0 := fun h => by have h0 := Hsl.out.2.2.2 h; have h1 := Hsl.out.1; omega
          have hcat := concat_any (wr.heap.size + 4) ⟨wr.heap.size + 3, 0, none⟩ 1 al' d.L.length cl' [.int .i64 a.K, .int .i64 a.N, .string a.S, .slice am a.M.length cm, .slice al a.L.length cl, .slice at_ a.T.length ct] news1 Y (by omega) ((g4.cell 0).trans rfl) ((g4.cell 1).trans rfl) (by omega) hc1 rfl
            (fun j u hu => by rw [add_plain, Nat.zero_add, g3.cell j, ← hu]; simp) (by simp [Value.oneCell']) (by show wr.heap.size + 3 < Y.heap.size; omega) hn1
            (fun ad h => ⟨hn2 ad h, by
              rcases Nat.eq_zero_or_pos d.L.length with q | q
              · exact .inr q
              · obtain ⟨b', off, _, _, _, _, _, _, he, hb', _⟩ := hlsY.at6 0 (d.L[0]'q) (by simp)
                rw [h] at he
                injection he with he
                subst he
                have h1 : b' < B := hb'
                exact .inl (by show b' < Y.heap.size; have := hY.size; omega)⟩) hn3
          refine hcat.mono ?_
          rintro e w4 ⟨g, cap2, rfl, hg1, hg2, hg3, hg4, hg5, hb4⟩
          have t2 := g2.fr (Fr.of_bel hb4 (fun _ => False)) (fun h => h) (by omega)
          have u0 : w4.cell? ⟨wr.heap.size + 2, 0, none⟩ = some (.int .i64 d.K) := (t2.cell 0).trans rfl
          have u1 : w4.cell? ⟨wr.heap.size + 2, 1, none⟩ = some (.int .i64 d.N) := (t2.cell 1).trans rfl
          have u2 : w4.cell? ⟨wr.heap.size + 2, 2, none⟩ = some (.string d.S) := (t2.cell 2).trans rfl
          have u3 : w4.cell? ⟨wr.heap.size + 2, 3, none⟩ = some (.slice am' d.M.length cm') := (t2.cell 3).trans rfl
          have u4 : w4.cell? ⟨wr.heap.size + 2, 4, none⟩ = some (.slice al' d.L.length cl') := (t2.cell 4).trans rfl
          have u5 : w4.cell? ⟨wr.heap.size + 2, 5, none⟩ = some (.slice at' d.T.length ct') := (t2.cell 5).trans rfl
          have z0 := t2.frozen 0
          have z1 := t2.frozen 1
          have z2 := t2.frozen 2
          have z3 := t2.frozen 3
          have z4 := t2.frozen 4
          have z5 := t2.frozen 5
          clear p0 p1 p2 p3 p4 p5 q0 q1 q2 q3 q4 q5
          have Hg := Lib.hid (And.intro hg1 (And.intro hg2 (And.intro hg3 (And.intro hg4 hg5))))
          have Hb4 := Lib.hid hb4
          have HbY := Lib.hid hbY
          have HsY := Lib.hid hsY
          have HY := Lib.hid hY
          have HlsY := Lib.hid hlsY
          have Hn := Lib.hid (And.intro hn1 (And.intro hn2 hln))
          have Hy := Lib.hid (And.intro y0 (And.intro y1 (And.intro y2 (And.intro y3 (And.intro y4 y5)))))
          have Hf := Lib.hid (And.intro f0 (And.intro f1 (And.intro f2 (And.intro f3 (And.intro f4 f5)))))
          clear hg1 hg2 hg3 hg4 hg5 hb4 t2 hbY hsY hY hlsY hn1 hn2 hn3 hc1 hcat g2 g3 g4 hww hln y0 y1 y2 y3 y4 y5 f0 f1 f2 f3 f4 f5
          go_wp2_with fail
          have hy := Hy.out
          have hf := Hf.out
          have hwn := HN.out
          have hsY := HsY.out
          have hs4 := Hb4.out.size
          obtain ⟨k1, k2, k3⟩ := cons_row (P := wr.heap.size + 1 + 1) hBN' HA.out HD.out HY.out HlsY.out Hn.out Hg.out Hb4.out (by rw [hwn]; omega) (by omega) (.slice (some ⟨g, 0, none⟩) (1 + d.L.length) cap2)
          rw [← Hcd.out] at k3
          have r0 := (set_ne w4 (wr.heap.size + 1 + 1) 4 (wr.heap.size + 2) 0 (.slice (some ⟨g, 0, none⟩) (1 + d.L.length) cap2) (.inr (by omega))).trans u0
          have r1 := (set_ne w4 (wr.heap.size + 1 + 1) 4 (wr.heap.size + 2) 1 (.slice (some ⟨g, 0, none⟩) (1 + d.L.length) cap2) (.inr (by omega))).trans u1
          have r2 := (set_ne w4 (wr.heap.size + 1 + 1) 4 (wr.heap.size + 2) 2 (.slice (some ⟨g, 0, none⟩) (1 + d.L.length) cap2) (.inr (by omega))).trans u2
          have r3 := (set_ne w4 (wr.heap.size + 1 + 1) 4 (wr.heap.size + 2) 3 (.slice (some ⟨g, 0, none⟩) (1 + d.L.length) cap2) (.inr (by omega))).trans u3
          have r4 := set_eq w4 (wr.heap.size + 1 + 1) 4 (.slice (some ⟨g, 0, none⟩) (1 + d.L.length) cap2) _ u4
          have r5 := (set_ne w4 (wr.heap.size + 1 + 1) 4 (wr.heap.size + 2) 5 (.slice (some ⟨g, 0, none⟩) (1 + d.L.length) cap2) (.inr (by omega))).trans u5
          have x0 := ((set_ne w4 (wr.heap.size + 1 + 1) 4 (N + 2) 0 (.slice (some ⟨g, 0, none⟩) (1 + d.L.length) cap2) (.inl (by omega))).trans ((Hb4.out.cell (p := ⟨N + 2, 0, none⟩) (by show N + 2 < Y.heap.size; omega)).trans (HbY.out.cell (p := ⟨N + 2, 0, none⟩) (by show N + 2 < wr.heap.size; omega)))).trans hy.1
          have fz0 : (w4.setCell ⟨wr.heap.size + 1 + 1, 4, none⟩ (.slice (some ⟨g, 0, none⟩) (1 + d.L.length) cap2)).frozen? ⟨N + 2, 0, none⟩ = false := by rw [World.frozen?_setCell]; exact ((Hb4.out.frozen (p := ⟨N + 2, 0, none⟩) (by show N + 2 < Y.heap.size; omega)).trans (HbY.out.frozen (p := ⟨N + 2, 0, none⟩) (by show N + 2 < wr.heap.size; omega))).trans hf.1
          have x1 := ((set_ne w4 (wr.heap.size + 1 + 1) 4 (N + 2) 1 (.slice (some ⟨g, 0, none⟩) (1 + d.L.length) cap2) (.inl (by omega))).trans ((Hb4.out.cell (p := ⟨N + 2, 1, none⟩) (by show N + 2 < Y.heap.size; omega)).trans (HbY.out.cell (p := ⟨N + 2, 1, none⟩) (by show N + 2 < wr.heap.size; omega)))).trans hy.2.1
          have fz1 : (w4.setCell ⟨wr.heap.size + 1 + 1, 4, none⟩ (.slice (some ⟨g, 0, none⟩) (1 + d.L.length) cap2)).frozen? ⟨N + 2, 1, none⟩ = false := by rw [World.frozen?_setCell]; exact ((Hb4.out.frozen (p := ⟨N + 2, 1, none⟩) (by show N + 2 < Y.heap.size; omega)).trans (HbY.out.frozen (p := ⟨N + 2, 1, none⟩) (by show N + 2 < wr.heap.size; omega))).trans hf.2.1
          have x2 := ((set_ne w4 (wr.heap.size + 1 + 1) 4 (N + 2) 2 (.slice (some ⟨g, 0, none⟩) (1 + d.L.length) cap2) (.inl (by omega))).trans ((Hb4.out.cell (p := ⟨N + 2, 2, none⟩) (by show N + 2 < Y.heap.size; omega)).trans (HbY.out.cell (p := ⟨N + 2, 2, none⟩) (by show N + 2 < wr.heap.size; omega)))).trans hy.2.2.1
          have fz2 : (w4.setCell ⟨wr.heap.size + 1 + 1, 4, none⟩ (.slice (some ⟨g, 0, none⟩) (1 + d.L.length) cap2)).frozen? ⟨N + 2, 2, none⟩ = false := by rw [World.frozen?_setCell]; exact ((Hb4.out.frozen (p := ⟨N + 2, 2, none⟩) (by show N + 2 < Y.heap.size; omega)).trans (HbY.out.frozen (p := ⟨N + 2, 2, none⟩) (by show N + 2 < wr.heap.size; omega))).trans hf.2.2.1
          have x3 := ((set_ne w4 (wr.heap.size + 1 + 1) 4 (N + 2) 3 (.slice (some ⟨g, 0, none⟩) (1 + d.L.length) cap2) (.inl (by omega))).trans ((Hb4.out.cell (p := ⟨N + 2, 3, none⟩) (by show N + 2 < Y.heap.size; omega)).trans (HbY.out.cell (p := ⟨N + 2, 3, none⟩) (by show N + 2 < wr.heap.size; omega)))).trans hy.2.2.2.1
          have fz3 : (w4.setCell ⟨wr.heap.size + 1 + 1, 4, none⟩ (.slice (some ⟨g, 0, none⟩) (1 + d.L.length) cap2)).frozen? ⟨N + 2, 3, none⟩ = false := by rw [World.frozen?_setCell]; exact ((Hb4.out.frozen (p := ⟨N + 2, 3, none⟩) (by show N + 2 < Y.heap.size; omega)).trans (HbY.out.frozen (p := ⟨N + 2, 3, none⟩) (by show N + 2 < wr.heap.size; omega))).trans hf.2.2.2.1
          have x4 := ((set_ne w4 (wr.heap.size + 1 + 1) 4 (N + 2) 4 (.slice (some ⟨g, 0, none⟩) (1 + d.L.length) cap2) (.inl (by omega))).trans ((Hb4.out.cell (p := ⟨N + 2, 4, none⟩) (by show N + 2 < Y.heap.size; omega)).trans (HbY.out.cell (p := ⟨N + 2, 4, none⟩) (by show N + 2 < wr.heap.size; omega)))).trans hy.2.2.2.2.1
          have fz4 : (w4.setCell ⟨wr.heap.size + 1 + 1, 4, none⟩ (.slice (some ⟨g, 0, none⟩) (1 + d.L.length) cap2)).frozen? ⟨N + 2, 4, none⟩ = false := by rw [World.frozen?_setCell]; exact ((Hb4.out.frozen (p := ⟨N + 2, 4, none⟩) (by show N + 2 < Y.heap.size; omega)).trans (HbY.out.frozen (p := ⟨N + 2, 4, none⟩) (by show N + 2 < wr.heap.size; omega))).trans hf.2.2.2.2.1
          have x5 := ((set_ne w4 (wr.heap.size + 1 + 1) 4 (N + 2) 5 (.slice (some ⟨g, 0, none⟩) (1 + d.L.length) cap2) (.inl (by omega))).trans ((Hb4.out.cell (p := ⟨N + 2, 5, none⟩) (by show N + 2 < Y.heap.size; omega)).trans (HbY.out.cell (p := ⟨N + 2, 5, none⟩) (by show N + 2 < wr.heap.size; omega)))).trans hy.2.2.2.2.2
          have fz5 : (w4.setCell ⟨wr.heap.size + 1 + 1, 4, none⟩ (.slice (some ⟨g, 0, none⟩) (1 + d.L.length) cap2)).frozen? ⟨N + 2, 5, none⟩ = false := by rw [World.frozen?_setCell]; exact ((Hb4.out.frozen (p := ⟨N + 2, 5, none⟩) (by show N + 2 < Y.heap.size; omega)).trans (HbY.out.frozen (p := ⟨N + 2, 5, none⟩) (by show N + 2 < wr.heap.size; omega))).trans hf.2.2.2.2.2
          have hl1 : N + 2 < (w4.setCell ⟨wr.heap.size + 1 + 1, 4, none⟩ (.slice (some ⟨g, 0, none⟩) (1 + d.L.length) cap2)).heap.size := by rw [k2]; omega
          have hl3 : wr.heap.size + 2 < (w4.setCell ⟨wr.heap.size + 1 + 1, 4, none⟩ (.slice (some ⟨g, 0, none⟩) (1 + d.L.length) cap2)).heap.size := by rw [k2]; omega
          clear hy hf u0 u1 u2 u3 u4 u5 z0 z1 z2 z3 z4 z5 hs4 hsY k2
          generalize w4.setCell ⟨wr.heap.size + 1 + 1, 4, none⟩ (.slice (some ⟨g, 0, none⟩) (1 + d.L.length) cap2) = X at *
          have HX := Lib.hid k1
          have HI := Lib.hid k3
          clear k1 k3 hwn
          obtain ⟨cp, hcp⟩ : ∃ cp, chk (consD a d) = cp := ⟨_, rfl⟩
          have HCP := Lib.hid hcp
          have he : consE a d = cp := by unfold consE; rw [if_neg (by rw [HJ.out.1 (by omega)]; simp), if_neg (by rw [HJ.out.2 (by omega)]; simp), hcp]
          have HE := Lib.hid he
          clear hcp he
          refine (check_any (consD a d) _ X.heap.size X HI.out (Nat.le_refl _)).mono ?_
          rintro e w2 ⟨rfl, hb2⟩
          rw [HCP.out]
          obtain ⟨hc2, hz2⟩ := bcell hb2
          have Hb2 := Lib.hid hb2
          have hl2 : N + 2 < w2.heap.size := by have := hb2.size; omega
          clear hb2
          by_cases h0 : cp = 0
          · subst h0
            go_wp2_with fail
            refine (own_any (consD a d) _ X.heap.size w2 (by exact HI.out.below Hb2.out) Hb2.out.size).mono ?_
            rintro e w3 ⟨v', rfl, hb3, hi3, ho3⟩
            have ho := ho3 (chk_cnt HCP.out)
            obtain ⟨am2, cm2, al2, cl2, at2, ct2, rfl, _⟩ := hi3.open_
            obtain ⟨hc3, hz3⟩ := bcell hb3
            have Hb3 := Lib.hid hb3
            have Ho := Lib.hid ho
            clear hb3 hi3 ho3 ho
            go_wp2_with fail
            refine bodyPost_ret (v := .tuple #[.agg #[.int .i64 (consD a d).K, .int .i64 (consD a d).N, .string (consD a d).S, .slice am2 (consD a d).M.length cm2, .slice al2 (consD a d).L.length cl2, .slice at2 (consD a d).T.length ct2], .int .i64 0]) ?_ rfl ?_
            · simp [results, Try.results32, go_sem, hc2, hc3, hl1, hl2, x0, x1, x2, x3, x4, x5]
            · rw [HE.out]
              exact two_own (b := N + 2) (by have := HN.out; omega) hl2 (HX.out.trans ((bel_trans Hb2.out Hb3.out).mono HX.out.size)) (Nat.le_refl _) Ho.out
          · have dn : (cp != 0) = true := by simp [h0]
            have H0 := Lib.hid h0
            clear h0
            go_wp2_with fail
            refine bodyPost_ret (v := .tuple #[zeroV, .int .i64 cp]) ?_ rfl ?_
            · simp [results, Try.results32, go_sem, hc2, hl1, zeroV, x0, x1, x2, x3, x4, x5]
            · rw [HE.out]
              exact two_bad (b := N + 2) (by have := HN.out; omega) H0.out (HX.out.trans (Hb2.out.mono HX.out.size)) rfl
      · have d6 : (d.K == 6) = false := by rw [beq_eq_false_iff_ne]; exact fun h => h67 (.inl h)
        have d7 : (d.K == 7) = false := by rw [beq_eq_false_iff_ne]; exact fun h => h67 (.inr h)
        have hcd : consD a d = .mk 7 0 ⟨#[]⟩ [] [a] [d] := by unfold consD; rw [if_neg h67]
        have Hcd := Lib.hid hcd
        clear h67 hcd
        go_wp2_with fail
        obtain ⟨hbX, hsX, hkX⟩ := start_allocs [(#[.int .i64 a.K, .int .i64 a.N, .string a.S, .slice am a.M.length cm, .slice al a.L.length cl, .slice at_ a.T.length ct], 25), (#[.int .i64 d.K, .int .i64 d.N, .string d.S, .slice am' d.M.length cm', .slice al' d.L.length cl', .slice at' d.T.length ct'], 25), (#[.int .i64 7, .int .i64 0, .string ⟨#[]⟩, .slice none 0 0, .slice (some ⟨wr.heap.size, 0, none⟩) 1 1, .slice (some ⟨wr.heap.size + 1, 0, none⟩) 1 1], 25)] wr
        have g0 := hkX 0 _ rfl
        have g1 := hkX 1 _ rfl
        have g2 := hkX 2 _ rfl
        simp only [allocs, List.foldl_cons, List.foldl_nil, Nat.add_zero, List.length_cons, List.length_nil, Nat.zero_add, Nat.reduceAdd] at hbX hsX g0 g1 g2
        clear hkX
        generalize (((wr.alloc (.cells #[.int .i64 a.K, .int .i64 a.N, .string a.S, .slice am a.M.length cm, .slice al a.L.length cl, .slice at_ a.T.length ct] 25)).alloc (.cells #[.int .i64 d.K, .int .i64 d.N, .string d.S, .slice am' d.M.length cm', .slice al' d.L.length cl', .slice at' d.T.length ct'] 25)).alloc (.cells #[.int .i64 7, .int .i64 0, .string ⟨#[]⟩, .slice none 0 0, .slice (some ⟨wr.heap.size, 0, none⟩) 1 1, .slice (some ⟨wr.heap.size + 1, 0, none⟩) 1 1] 25)) = X at *
        have hww := Hww.out
        have hX : Below w.heap.size w X := hww.trans (hbX.mono hww.size)
        have hia : IsDt X (Lo X.heap.size) a (.agg #[.int .i64 a.K, .int .i64 a.N, .string a.S, .slice am a.M.length cm, .slice al a.L.length cl, .slice at_ a.T.length ct]) := (HA.out.below (hX.mono hB)).more fun b hb => by have h1 : b < B := hb; show b < X.heap.size; omega
        have hid : IsDt X (Lo X.heap.size) d (.agg #[.int .i64 d.K, .int .i64 d.N, .string d.S, .slice am' d.M.length cm', .slice al' d.L.length cl', .slice at' d.T.length ct']) := (HD.out.below (hX.mono hB)).more fun b hb => by have h1 : b < B := hb; show b < X.heap.size; omega
        have hip : IsDt X (Lo X.heap.size) (consD a d) (.agg #[.int .i64 7, .int .i64 0, .string ⟨#[]⟩, .slice none 0 0, .slice (some ⟨wr.heap.size, 0, none⟩) 1 1, .slice (some ⟨wr.heap.size + 1, 0, none⟩) 1 1]) := by
          rw [Hcd.out]
          exact dot_isDt (one_dts (by show wr.heap.size < X.heap.size; omega) g0 hia) (one_dts (by show wr.heap.size + 1 < X.heap.size; omega) g1 hid)
        have HI := Lib.hid hip
        have HX := Lib.hid hX
        have hl1 : N + 2 < X.heap.size := by omega
        have u0 : X.cell? ⟨wr.heap.size + 2, 0, none⟩ = some (.int .i64 7) := (g2.cell 0).trans rfl
        have u1 : X.cell? ⟨wr.heap.size + 2, 1, none⟩ = some (.int .i64 0) := (g2.cell 1).trans rfl
        have u2 : X.cell? ⟨wr.heap.size + 2, 2, none⟩ = some (.string ⟨#[]⟩) := (g2.cell 2).trans rfl
        have u3 : X.cell? ⟨wr.heap.size + 2, 3, none⟩ = some (.slice none 0 0) := (g2.cell 3).trans rfl
        have u4 : X.cell? ⟨wr.heap.size + 2, 4, none⟩ = some (.slice (some ⟨wr.heap.size, 0, none⟩) 1 1) := (g2.cell 4).trans rfl
        have u5 : X.cell? ⟨wr.heap.size + 2, 5, none⟩ = some (.slice (some ⟨wr.heap.size + 1, 0, none⟩) 1 1) := (g2.cell 5).trans rfl
        have hl3 : wr.heap.size + 2 < X.heap.size := by omega
        have x0 := (hbX.cell (p := ⟨N + 2, 0, none⟩) (by show N + 2 < wr.heap.size; omega)).trans y0
        have z0 := (hbX.frozen (p := ⟨N + 2, 0, none⟩) (by show N + 2 < wr.heap.size; omega)).trans f0
        have x1 := (hbX.cell (p := ⟨N + 2, 1, none⟩) (by show N + 2 < wr.heap.size; omega)).trans y1
        have z1 := (hbX.frozen (p := ⟨N + 2, 1, none⟩) (by show N + 2 < wr.heap.size; omega)).trans f1
        have x2 := (hbX.cell (p := ⟨N + 2, 2, none⟩) (by show N + 2 < wr.heap.size; omega)).trans y2
        have z2 := (hbX.frozen (p := ⟨N + 2, 2, none⟩) (by show N + 2 < wr.heap.size; omega)).trans f2
        have x3 := (hbX.cell (p := ⟨N + 2, 3, none⟩) (by show N + 2 < wr.heap.size; omega)).trans y3
        have z3 := (hbX.frozen (p := ⟨N + 2, 3, none⟩) (by show N + 2 < wr.heap.size; omega)).trans f3
        have x4 := (hbX.cell (p := ⟨N + 2, 4, none⟩) (by show N + 2 < wr.heap.size; omega)).trans y4
        have z4 := (hbX.frozen (p := ⟨N + 2, 4, none⟩) (by show N + 2 < wr.heap.size; omega)).trans f4
        have x5 := (hbX.cell (p := ⟨N + 2, 5, none⟩) (by show N + 2 < wr.heap.size; omega)).trans y5
        have z5 := (hbX.frozen (p := ⟨N + 2, 5, none⟩) (by show N + 2 < wr.heap.size; omega)).trans f5
        clear g0 g1 g2 hww hX hia hid hip hbX hsX y0 y1 y2 y3 y4 y5 f0 f1 f2 f3 f4 f5 p0 p1 p2 p3 p4 p5 q0 q1 q2 q3 q4 q5
        obtain ⟨cp, hcp⟩ : ∃ cp, chk (consD a d) = cp := ⟨_, rfl⟩
        have HCP := Lib.hid hcp
        have he : consE a d = cp := by unfold consE; rw [if_neg (by rw [HJ.out.1 (by omega)]; simp), if_neg (by rw [HJ.out.2 (by omega)]; simp), hcp]
        have HE := Lib.hid he
        clear hcp he
        refine (check_any (consD a d) _ X.heap.size X HI.out (Nat.le_refl _)).mono ?_
        rintro e w2 ⟨rfl, hb2⟩
        rw [HCP.out]
        obtain ⟨hc2, hz2⟩ := bcell hb2
        have Hb2 := Lib.hid hb2
        have hl2 : N + 2 < w2.heap.size := by have := hb2.size; omega
        clear hb2
        by_cases h0 : cp = 0
        · subst h0
          go_wp2_with fail
          refine (own_any (consD a d) _ X.heap.size w2 (by exact HI.out.below Hb2.out) Hb2.out.size).mono ?_
          rintro e w3 ⟨v', rfl, hb3, hi3, ho3⟩
          have ho := ho3 (chk_cnt HCP.out)
          obtain ⟨am2, cm2, al2, cl2, at2, ct2, rfl, _⟩ := hi3.open_
          obtain ⟨hc3, hz3⟩ := bcell hb3
          have Hb3 := Lib.hid hb3
          have Ho := Lib.hid ho
          clear hb3 hi3 ho3 ho
          go_wp2_with fail
          refine bodyPost_ret (v := .tuple #[.agg #[.int .i64 (consD a d).K, .int .i64 (consD a d).N, .string (consD a d).S, .slice am2 (consD a d).M.length cm2, .slice al2 (consD a d).L.length cl2, .slice at2 (consD a d).T.length ct2], .int .i64 0]) ?_ rfl ?_
          · simp [results, Try.results32, go_sem, hc2, hc3, hl1, hl2, x0, x1, x2, x3, x4, x5]
          · rw [HE.out]
            exact two_own (b := N + 2) (by have := HN.out; omega) hl2 (HX.out.trans ((bel_trans Hb2.out Hb3.out).mono HX.out.size)) (Nat.le_refl _) Ho.out
        · have dn : (cp != 0) = true := by simp [h0]
          have H0 := Lib.hid h0
          clear h0
          go_wp2_with fail
          refine bodyPost_ret (v := .tuple #[zeroV, .int .i64 cp]) ?_ rfl ?_
          · simp [results, Try.results32, go_sem, hc2, hl1, zeroV, x0, x1, x2, x3, x4, x5]
          · rw [HE.out]
            exact two_bad (b := N + 2) (by have := HN.out; omega) H0.out (HX.out.trans (Hb2.out.mono HX.out.size)) rfl
end Go.Proofs.Yteddfdhbpgbloaa.Da
