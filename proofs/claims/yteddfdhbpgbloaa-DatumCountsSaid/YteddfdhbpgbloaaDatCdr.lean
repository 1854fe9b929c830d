/- What is behind the first element of a datum: what the program returns. -/
import Derived.Test.YteddfdhbpgbloaaDatPairs
namespace Go.Proofs.Yteddfdhbpgbloaa.Da
open Go.ChangeShapes Go.WideShapes Go.ChangeAt Go.RowKit

def restD (d : Dt) : Dt := .mk d.K d.N d.S d.M d.L.tail d.T
def cdrD (d : Dt) : Dt := if d.K = 7 ∧ d.L.length = 1 then d.T.headD (.mk 0 0 ⟨#[]⟩ [] [] []) else restD d
theorem shift_dts {w : World} {Q : Nat → Prop} {b off : Nat} : ∀ {l : List Dt} {i : Nat}, IsDts w Q (some ⟨b, off, none⟩) (i + 1) l → IsDts w Q (some ⟨b, off + 6, none⟩) i l
  | [], _, _ => by simp only [IsDts]
  | d :: r, i, h => by
    simp only [IsDts] at h ⊢
    obtain ⟨⟨b', off', x0, x1, x2, x3, x4, x5, ha, hb, hs, hd⟩, hr⟩ := h
    injection ha with ha
    injection ha with h1 h2
    subst h1
    subst h2
    refine ⟨⟨b, off + 6, x0, x1, x2, x3, x4, x5, rfl, hb, ?_, hd⟩, shift_dts hr⟩
    rwa [show off + 6 + i * 6 = off + (i + 1) * 6 by omega]
theorem rest_isDt {w : World} {Q : Nat → Prop} {d : Dt} {am at_ : Option Addr} {cm cl ct b off : Nat} (h : IsDt w Q d (.agg #[.int .i64 d.K, .int .i64 d.N, .string d.S, .slice am d.M.length cm, .slice (some ⟨b, off, none⟩) d.L.length cl, .slice at_ d.T.length ct])) (hpos : 0 < d.L.length) :
    (cl = 1 → IsDt w Q (restD d) (.agg #[.int .i64 d.K, .int .i64 d.N, .string d.S, .slice am d.M.length cm, .slice (some ⟨b, off, none⟩) 0 0, .slice at_ d.T.length ct])) ∧
    (cl ≠ 1 → IsDt w Q (restD d) (.agg #[.int .i64 d.K, .int .i64 d.N, .string d.S, .slice am d.M.length cm, .slice (some ⟨b, off + 6, none⟩) (d.L.length - 1) (cl - 1), .slice at_ d.T.length ct])) := by
  obtain ⟨k, n, s, m, l, t⟩ := d
  obtain _ | ⟨x, r⟩ := l
  · simp [Dt.L] at hpos
  simp only [IsDt, restD, Dt.K, Dt.N, Dt.S, Dt.M, Dt.L, Dt.T, List.tail_cons, List.length_cons, Nat.add_sub_cancel] at h ⊢
  obtain ⟨h1, h2, h3, am', cm', al', cl', at', ct', hv, hm, hl, hls, ht, hts⟩ := h
  injection hv with hv
  simp only [Array.mk.injEq, List.cons.injEq, and_true, true_and, Value.slice.injEq] at hv
  obtain ⟨⟨rfl, rfl⟩, ⟨rfl, rfl⟩, rfl, rfl⟩ := hv
  obtain ⟨l1, l2, l3, _⟩ := hl
  simp only [IsDts] at hls
  refine ⟨fun hc => ?_, fun hc => ⟨h1, h2, h3, am, cm, _, _, at_, ct, rfl, hm, ⟨by omega, by omega, by omega, fun h => by cases h⟩, shift_dts hls.2, ht, hts⟩⟩
  have h0 : r.length = 0 := by omega
  obtain rfl := List.eq_nil_of_length_eq_zero h0
  exact ⟨h1, h2, h3, am, cm, _, _, at_, ct, rfl, hm, ⟨Nat.le_refl _, by simp [maxLen], by simp, fun h => by cases h⟩, by simp only [IsDts], ht, hts⟩
set_option maxHeartbeats 2000000 in
theorem cdr_bad (d : Dt) (v : Value) (B : Nat) (w : World) (hd : IsDt w (Lo B) d v) (hB : B ≤ w.heap.size) (h0 : pairE d ≠ 0) (dx : Dt) :
    Calls Try.prog 35 #[v] w (TwoR w (Lo B) (pairE d) dx) := by
  have hd' := hd
  obtain ⟨am, cm, al, cl, at_, ct, rfl, _⟩ := hd'.open_
  have HD := Lib.hid hd
  clear hd hd'
  obtain ⟨pe, hpe⟩ : ∃ pe, pairE d = pe := ⟨_, rfl⟩
  have HP := Lib.hid hpe
  rw [hpe] at h0 ⊢
  have dn : (pe != 0) = true := by simp [h0]
  have H0 := Lib.hid h0
  clear hpe h0
  go_enter Try.func35, Try.ntmps35
  go_wp2_with fail
  refine (paired_any d _ B _ (by exact HD.out.below (((Below.refl _ _).alloc hB _).alloc (by simp; omega) _)) (by simp; omega)).mono ?_
  rintro e w1 ⟨rfl, hb⟩
  rw [HP.out]
  obtain ⟨hc, hfz⟩ := bcell hb
  have hz1 : w.heap.size + 1 < w1.heap.size := by have := hb.size; simp at this; omega
  have hbw : Below w.heap.size w w1 := (((Below.refl _ _).alloc (Nat.le_refl _) _).alloc (by simp) _).trans (hb.mono (by simp; omega))
  have Hbw := Lib.hid hbw
  clear hb hbw
  go_wp2_with fail
  refine bodyPost_ret (v := .tuple #[zeroV, .int .i64 pe]) ?_ rfl ?_
  · simp [results, Try.results35, go_sem, hc, zeroV]
  · exact two_bad (b := w.heap.size + 1) (by omega) H0.out Hbw.out rfl
set_option maxHeartbeats 2000000 in
theorem cdr_tail (d : Dt) (v : Value) (B : Nat) (w : World) (hd : IsDt w (Lo B) d v) (hB : B ≤ w.heap.size) (h0 : pairE d = 0) (h7 : d.K = 7) (h1 : d.L.length = 1) (x : Dt) (hx : d.T[0]? = some x) :
    Calls Try.prog 35 #[v] w (TwoR w (Lo B) 0 x) := by
  have hd' := hd
  obtain ⟨am, cm, al, cl, at_, ct, rfl, _, _, _, _, _, _, _, hts⟩ := hd'.open_
  have HD := Lib.hid hd
  have HP := Lib.hid h0
  have hpos : 0 < d.T.length := (List.getElem?_eq_some_iff.1 hx).1
  obtain ⟨b', off, am', cm', al', cl', at', ct', rfl, hb', hsix, hix⟩ := hts.at6 0 x hx
  have hb'' : b' < w.heap.size := Nat.lt_of_lt_of_le hb' hB
  have Hix := Lib.hid hix
  rw [Nat.zero_mul, Nat.add_zero] at hsix
  have Hsix := Lib.hid hsix
  have d7 : (d.K == 7) = true := by simp [h7]
  have dl : ((d.L.length : Int) == 1) = true := by simp [h1]
  clear hd hd' h0 h7 h1 hx hts hix hsix hb'
  go_enter Try.func35, Try.ntmps35
  go_wp2_with fail
  refine (paired_any d _ B _ (by exact HD.out.below (((Below.refl _ _).alloc hB _).alloc (by simp; omega) _)) (by simp; omega)).mono ?_
  rintro e w1 ⟨rfl, hb⟩
  rw [HP.out]
  obtain ⟨hc, hfz⟩ := bcell hb
  have hz1 : w.heap.size + 1 < w1.heap.size := by have := hb.size; simp at this; omega
  have hbw : Below w.heap.size w w1 := (((Below.refl _ _).alloc (Nat.le_refl _) _).alloc (by simp) _).trans (hb.mono (by simp; omega))
  obtain ⟨c0, c1, c2, c3, c4, c5⟩ := Hsix.out.keep (w' := w1) (fun o => hbw.cell (p := ⟨b', o, none⟩) hb'')
  have Hbw := Lib.hid hbw
  clear hb hbw
  go_wp2_with fail
  refine (own_any x _ B w1 (by exact Hix.out.below (Hbw.out.mono hB)) (by have := Hbw.out.size; omega)).mono ?_
  rintro e w2 ⟨v', rfl, hb2, hi, _⟩
  have hi' := hi
  obtain ⟨am2, cm2, al2, cl2, at2, ct2, rfl, _⟩ := hi'.open_
  obtain ⟨hc2, hfz2⟩ := bcell hb2
  have HB2 := Lib.hid hb2
  have Hi := Lib.hid hi
  clear hb2 hi hi' c0 c1 c2 c3 c4 c5
  go_wp2_with fail
  refine bodyPost_ret (v := .tuple #[.agg #[.int .i64 x.K, .int .i64 x.N, .string x.S, .slice am2 x.M.length cm2, .slice al2 x.L.length cl2, .slice at2 x.T.length ct2], .int .i64 0]) ?_ rfl ?_
  · simp [results, Try.results35, go_sem, hc, hc2, hz1]
  · exact two_end hB (by omega) hz1 Hbw.out HB2.out Hi.out
set_option maxHeartbeats 2000000 in
theorem cdr_rest (d : Dt) (v : Value) (B : Nat) (w : World) (hd : IsDt w (Lo B) d v) (hB : B ≤ w.heap.size) (h0 : pairE d = 0) (hn : ¬ (d.K = 7 ∧ d.L.length = 1)) :
    Calls Try.prog 35 #[v] w (TwoR w (Lo B) 0 (restD d)) := by
  have hd' := hd
  obtain ⟨am, cm, al, cl, at_, ct, rfl, _, _, _, _, hl, hls, _⟩ := hd'.open_
  obtain ⟨_, _, hne⟩ := pairE_zero h0
  have hpos : 0 < d.L.length := List.length_pos_iff.2 hne
  obtain ⟨x, hx⟩ : ∃ x, d.L[0]? = some x := ⟨d.L[0], by simp [hpos]⟩
  obtain ⟨b', off, _, _, _, _, _, _, rfl, hb', _, _⟩ := hls.at6 0 x hx
  have hrest := rest_isDt hd hpos
  have HR := Lib.hid hrest
  have HD := Lib.hid hd
  have HP := Lib.hid h0
  obtain ⟨l1, l2, l3, _⟩ := hl
  have hlen : (d.L.length : Int) ≤ 17592186044416 := by omega
  unfold maxLen at l2
  clear hd hd' h0 hx hls hrest hb' hne
  by_cases hc1 : cl = 1
  all_goals
    have hq := HR.out
    first | (have hq2 := hq.1 hc1; subst hc1) | (have hq2 := hq.2 hc1)
    have Hq := Lib.hid hq2
    clear hq hq2
    by_cases h7 : d.K = 7
    all_goals
      have HN := Lib.hid hn
      first | (have d7 : (d.K == 7) = true := by simp [h7]) | (have d7 : (d.K == 7) = false := by simp [h7])
      have dl : d.K = 7 → ((d.L.length : Int) == 1) = false := fun h => by rw [beq_eq_false_iff_ne]; have := fun h1 => HN.out ⟨h, h1⟩; omega
      try (have dl' := dl h7)
      clear dl
      clear h7
      go_enter Try.func35, Try.ntmps35
      go_wp2_with fail
      refine (paired_any d _ B _ (by exact HD.out.below (((Below.refl _ _).alloc hB _).alloc (by simp; omega) _)) (by simp; omega)).mono ?_
      rintro e w1 ⟨rfl, hb⟩
      rw [HP.out]
      obtain ⟨hc, hfz⟩ := bcell hb
      have hz1 : w.heap.size + 1 < w1.heap.size := by have := hb.size; simp at this; omega
      have hbw : Below w.heap.size w w1 := (((Below.refl _ _).alloc (Nat.le_refl _) _).alloc (by simp) _).trans (hb.mono (by simp; omega))
      have hz0 : w.heap.size < w1.heap.size := by omega
      have Hbw := Lib.hid hbw
      clear hb hbw
      go_wp2_with fail
      refine (own_any (restD d) _ B _ (by exact Hq.out.below ((Hbw.out.mono hB).trans ((Below.refl _ _).alloc (by omega) _))) (by simp; omega)).mono ?_
      rintro e w2 ⟨v', rfl, hb2, hi, _⟩
      have hi' := hi
      obtain ⟨am2, cm2, al2, cl2, at2, ct2, rfl, _⟩ := hi'.open_
      obtain ⟨hc2, hfz2⟩ := bcell hb2
      have HB2 := Lib.hid hb2
      have Hi := Lib.hid hi
      clear hb2 hi hi'
      go_wp2_with fail
      refine bodyPost_ret (v := .tuple #[.agg #[.int .i64 (restD d).K, .int .i64 (restD d).N, .string (restD d).S, .slice am2 (restD d).M.length cm2, .slice al2 (restD d).L.length cl2, .slice at2 (restD d).T.length ct2], .int .i64 0]) ?_ rfl ?_
      · simp [results, Try.results35, go_sem, hc, hc2, hz0, hz1]
      · exact two_end hB (b := w.heap.size + 1) (by omega) (by simp; omega) (Hbw.out.alloc (by omega) _) HB2.out Hi.out
end Go.Proofs.Yteddfdhbpgbloaa.Da
