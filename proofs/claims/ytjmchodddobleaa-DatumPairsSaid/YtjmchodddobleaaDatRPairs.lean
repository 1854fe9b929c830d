/- The document's pair, Car and Cdr: they answer what the program's answer. -/
import Derived.Test.YtjmchodddobleaaDatRClone
import Derived.Test.YtjmchodddobleaaDatHalvesMath
import Derived.Deep.RegionHeld3
import Derived.Test.YtjmchodddobleaaOrd2
namespace Go.Proofs.Ytjmchodddobleaa.Da
open Go.ChangeShapes Go.WideShapes Go.ChangeAt Go.RowKit
set_option maxRecDepth 100000

theorem pairE_ref {d : Dt} (h : chk d = 0) : pairE d = if d.K = 7 then 0 else if d.K ≠ 6 then 6 else if d.L = [] then 6 else 0 := by
  unfold pairE
  rw [if_neg (by simp [h])]
  by_cases h7 : d.K = 7
  · have hp := chk_self h
    have hl : d.L ≠ [] := by
      cases d with | mk k n s m l t =>
      simp only [Dt.K] at h7
      subst h7
      have := (proper7 hp).2.2.2.1
      simp only [Dt.L]
      intro e; rw [e] at this; simp at this
    rw [if_pos h7, if_neg]
    rintro (⟨_, h⟩ | h)
    · exact h h7
    · exact hl h
  · rw [if_neg h7]
    by_cases h6 : d.K = 6
    · rw [show (if d.K ≠ 6 then (6 : Int) else if d.L = [] then 6 else 0) = if d.L = [] then 6 else 0 from if_neg (fun h => h h6)]
      by_cases hl : d.L = []
      · rw [if_pos (.inr hl), if_pos hl]
      · rw [if_neg hl, if_neg]
        rintro (⟨h, _⟩ | h)
        · exact h h6
        · exact hl h
    · rw [if_pos h6, if_pos (.inl ⟨h6, h7⟩)]
set_option maxHeartbeats 2000000 in
theorem rpair_any (d : Dt) (v : Value) (B : Nat) (w : World) (hd : IsDt w (Lo B) d v) (hB : B ≤ w.heap.size) :
    Calls Try.prog 57 #[v] w fun e w' => e = .returned (.int .i64 (pairE d)) ∧ Below w.heap.size w w' := by
  have hd' := hd
  obtain ⟨am, cm, al, cl, at_, ct, rfl, _, _, _, _, hl, hls, _⟩ := hd'.open_
  have hlen : (d.L.length : Int) ≤ 17592186044416 := by have a := hl.1; have b := hl.2.2.1; omega
  have HD := Lib.hid hd
  clear hd hd' hl hls
  obtain ⟨c, hc⟩ : ∃ c, chk d = c := ⟨_, rfl⟩
  have HC := Lib.hid hc
  by_cases h0 : c = 0
  · subst h0
    have hr := pairE_ref hc
    clear hc
    by_cases h7 : d.K = 7
    · rw [if_pos h7] at hr
      have HR := Lib.hid hr
      have d7 : (d.K != 7) = false := by simp [h7]
      clear hr h7
      go_enter Try.func57, Try.ntmps57
      go_wp2_with fail
      refine (rcheck_any d _ B _ (by exact HD.out.below ((bel_alloc _ _).mono hB)) (by simp; omega)).mono ?_
      rintro e w1 ⟨rfl, hb⟩
      rw [HC.out]
      have HB := Lib.hid hb
      obtain ⟨hc1, hz1⟩ := bcell hb
      have hl1 : w.heap.size < w1.heap.size := by have := hb.size; simp at this; omega
      clear hb
      go_wp2_with fail
      go_ret
      exact ⟨by rw [HR.out]; rfl, (bel_alloc w _).trans (HB.out.mono (by simp))⟩
    · rw [if_neg h7] at hr
      have d7 : (d.K != 7) = true := by simp [h7]
      by_cases h6 : d.K = 6
      · rw [if_neg (by simp [h6])] at hr
        have d6 : (d.K != 6) = false := by simp [h6]
        by_cases hl0 : d.L = []
        all_goals
          first | rw [if_pos hl0] at hr | rw [if_neg hl0] at hr
          have HR := Lib.hid hr
          have dl : ((d.L.length : Int) == 0) = decide (d.L = []) := by
            by_cases h : d.L = []
            · simp [h]
            · have := List.length_pos_iff.2 h
              rw [decide_eq_false h, beq_eq_false_iff_ne]; omega
          first | rw [decide_eq_true hl0] at dl | rw [decide_eq_false hl0] at dl
          clear hr h6 h7 hl0
          go_enter Try.func57, Try.ntmps57
          go_wp2_with fail
          refine (rcheck_any d _ B _ (by exact HD.out.below ((bel_alloc _ _).mono hB)) (by simp; omega)).mono ?_
          rintro e w1 ⟨rfl, hb⟩
          rw [HC.out]
          have HB := Lib.hid hb
          obtain ⟨hc1, hz1⟩ := bcell hb
          have hl1 : w.heap.size < w1.heap.size := by have := hb.size; simp at this; omega
          clear hb
          go_wp2_with fail
          go_ret
          exact ⟨by rw [HR.out]; rfl, (bel_alloc w _).trans (HB.out.mono (by simp))⟩
      · rw [if_pos h6] at hr
        have d6 : (d.K != 6) = true := by simp [h6]
        have HR := Lib.hid hr
        clear hr h6 h7
        go_enter Try.func57, Try.ntmps57
        go_wp2_with fail
        refine (rcheck_any d _ B _ (by exact HD.out.below ((bel_alloc _ _).mono hB)) (by simp; omega)).mono ?_
        rintro e w1 ⟨rfl, hb⟩
        rw [HC.out]
        have HB := Lib.hid hb
        obtain ⟨hc1, hz1⟩ := bcell hb
        have hl1 : w.heap.size < w1.heap.size := by have := hb.size; simp at this; omega
        clear hb
        go_wp2_with fail
        go_ret
        exact ⟨by rw [HR.out]; rfl, (bel_alloc w _).trans (HB.out.mono (by simp))⟩
  · have dn : (c != 0) = true := by simp [h0]
    have hr : pairE d = c := by unfold pairE; rw [if_pos (by rw [hc]; exact h0), hc]
    have HR := Lib.hid hr
    clear hc h0 hr
    go_enter Try.func57, Try.ntmps57
    go_wp2_with fail
    refine (rcheck_any d _ B _ (by exact HD.out.below ((bel_alloc _ _).mono hB)) (by simp; omega)).mono ?_
    rintro e w1 ⟨rfl, hb⟩
    rw [HC.out]
    have HB := Lib.hid hb
    clear hb
    go_wp2_with fail
    go_ret
    exact ⟨by rw [HR.out]; rfl, (bel_alloc w _).trans (HB.out.mono (by simp))⟩
theorem clone_of {x : Dt} (h : chk x = 0) : madeD true (cloneD x) = x := by unfold cloneD madeD; rw [if_pos rfl, if_pos h]
set_option maxHeartbeats 2000000 in
theorem rcar_any (d : Dt) (v : Value) (B : Nat) (w : World) (hd : IsDt w (Lo B) d v) (hB : B ≤ w.heap.size) :
    Calls Try.prog 33 #[v] w (TwoR w (Lo B) (pairE d) (carD d)) := by
  have hd' := hd
  obtain ⟨am, cm, al, cl, at_, ct, rfl, _, _, _, _, hl, hls, _⟩ := hd'.open_
  have hlen : (d.L.length : Int) ≤ 17592186044416 := by have a := hl.1; have b := hl.2.2.1; omega
  have HD := Lib.hid hd
  have Hls := Lib.hid hls
  clear hd hd' hl hls
  obtain ⟨pe, hpe⟩ : ∃ pe, pairE d = pe := ⟨_, rfl⟩
  have HP := Lib.hid hpe
  rw [hpe]
  by_cases h0 : pe = 0
  · subst h0
    obtain ⟨hck, _, hne⟩ := pairE_zero hpe
    obtain ⟨x, hx⟩ : ∃ x, d.L[0]? = some x := by
      cases hL : d.L with
      | nil => exact absurd hL hne
      | cons a r => exact ⟨a, rfl⟩
    have hcar : carD d = x := by
      unfold carD
      cases hL : d.L with
      | nil => exact absurd hL hne
      | cons a r => rw [hL] at hx; simpa using hx
    have HX := Lib.hid (chk_child hck (.inl (List.mem_of_getElem? hx)))
    have hpos : 0 < d.L.length := List.length_pos_iff.2 hne
    obtain ⟨b', off, am', cm', al', cl', at', ct', rfl, hb', hsix, hix⟩ := Hls.out.at6 0 x hx
    have hb'' : b' < w.heap.size := Nat.lt_of_lt_of_le hb' hB
    rw [hcar]
    have Hix := Lib.hid hix
    rw [Nat.zero_mul, Nat.add_zero] at hsix
    have Hsix := Lib.hid hsix
    clear hsix hpe hne hx hcar hix hb' hck
    go_enter Try.func33, Try.ntmps33
    go_wp2_with fail
    refine (rpair_any d _ B _ (by exact HD.out.below (((Below.refl _ _).alloc hB _).alloc (by simp; omega) _)) (by simp; omega)).mono ?_
    rintro e w1 ⟨rfl, hb⟩
    rw [HP.out]
    have HB := Lib.hid hb
    have HS := Lib.hid hb.size
    obtain ⟨hc, hfz⟩ := bcell hb
    have hz0 : w.heap.size < w1.heap.size := by have := hb.size; simp at this; omega
    have hz1 : w.heap.size + 1 < w1.heap.size := by have := hb.size; simp at this; omega
    have hbw : Below w.heap.size w w1 := (((Below.refl _ _).alloc (Nat.le_refl _) _).alloc (by simp) _).trans (hb.mono (by simp; omega))
    obtain ⟨c0, c1, c2, c3, c4, c5⟩ := Hsix.out.keep (w' := w1) (fun o => hbw.cell (p := ⟨b', o, none⟩) hb'')
    have Hbw := Lib.hid hbw
    clear hb hbw
    go_wp2_with fail
    refine (rclone_any x _ B w1 (by exact Hix.out.below (Hbw.out.mono hB)) (by have := Hbw.out.size; omega)).mono ?_
    rintro e w2 ⟨v', rfl, hb2, hi⟩
    rw [clone_of HX.out] at hi
    have hi' := hi
    obtain ⟨am2, cm2, al2, cl2, at2, ct2, rfl, _⟩ := hi'.open_
    obtain ⟨hc2, hfz2⟩ := bcell hb2
    have HB2 := Lib.hid hb2
    have Hi := Lib.hid hi
    clear hb2 hi hi' c0 c1 c2 c3 c4 c5
    go_wp2_with fail
    refine bodyPost_ret (v := .tuple #[.agg #[.int .i64 x.K, .int .i64 x.N, .string x.S, .slice am2 x.M.length cm2, .slice al2 x.L.length cl2, .slice at2 x.T.length ct2], .int .i64 0]) ?_ rfl ?_
    · simp [results, Try.results33, go_sem, hc, hc2, hz1]
    · exact two_end hB (by omega) hz1 Hbw.out HB2.out (Hi.out.more (fun b hb => .inr hb))
  · have dn : (pe != 0) = true := by simp [h0]
    have H0 := Lib.hid h0
    clear hpe h0
    go_enter Try.func33, Try.ntmps33
    go_wp2_with fail
    refine (rpair_any d _ B _ (by exact HD.out.below (((Below.refl _ _).alloc hB _).alloc (by simp; omega) _)) (by simp; omega)).mono ?_
    rintro e w1 ⟨rfl, hb⟩
    rw [HP.out]
    obtain ⟨hc, hfz⟩ := bcell hb
    have hz1 : w.heap.size + 1 < w1.heap.size := by have := hb.size; simp at this; omega
    have hbw : Below w.heap.size w w1 := (((Below.refl _ _).alloc (Nat.le_refl _) _).alloc (by simp) _).trans (hb.mono (by simp; omega))
    have Hbw := Lib.hid hbw
    clear hb hbw
    go_wp2_with fail
    refine bodyPost_ret (v := .tuple #[zeroV, .int .i64 pe]) ?_ rfl ?_
    · simp [results, Try.results33, go_sem, hc, zeroV]
    · exact two_bad (b := w.heap.size + 1) (by omega) H0.out Hbw.out rfl
set_option maxHeartbeats 2000000 in
theorem rcdr_one (d : Dt) (v : Value) (B : Nat) (w : World) (hd : IsDt w (Lo B) d v) (hB : B ≤ w.heap.size) (hpe : pairE d = 0) (h7 : d.K = 7) (h1 : d.L.length = 1) :
    Calls Try.prog 35 #[v] w (TwoR w (Lo B) 0 (cdrD d)) := by
    have hd' := hd
    obtain ⟨am, cm, al, cl, at_, ct, rfl, _, _, _, _, _, _, ht, hts⟩ := hd'.open_
    have HD := Lib.hid hd
    have Hts := Lib.hid hts
    have HP := Lib.hid hpe
    obtain ⟨hck, _, _⟩ := pairE_zero hpe
    obtain ⟨x, hx, hx1⟩ : ∃ x, d.T[0]? = some x ∧ d.T.length = 1 := by
      have hp := chk_self hck
      cases d with | mk k n s m l t =>
      simp only [Dt.K] at h7
      subst h7
      obtain ⟨x, hx, _⟩ := (proper7 hp).2.2.2.2
      exact ⟨x, by simp [Dt.T, hx], by simp [Dt.T, hx]⟩
    have hcdr : cdrD d = x := by
      unfold cdrD
      rw [if_pos ⟨h7, h1⟩]
      cases hT : d.T with
      | nil => rw [hT] at hx; simp at hx
      | cons a r => rw [hT] at hx; simpa using hx
    have HX := Lib.hid (chk_child hck (.inr (List.mem_of_getElem? hx)))
    obtain ⟨b', off, am', cm', al', cl', at', ct', rfl, hb', hsix, hix⟩ := Hts.out.at6 0 x hx
    have hb'' : b' < w.heap.size := Nat.lt_of_lt_of_le hb' hB
    rw [hcdr]
    have Hix := Lib.hid hix
    rw [Nat.zero_mul, Nat.add_zero] at hsix
    have Hsix := Lib.hid hsix
    have d7 : (d.K == 7) = true := by simp [h7]
    have dl : ((d.L.length : Int) == 1) = true := by rw [beq_iff_eq]; omega
    have hpos : 0 < d.T.length := by omega
    clear hd hd' hts ht hsix hpe hx hcdr hix hb' hck h7 h1 hx1
    go_enter Try.func35, Try.ntmps35
    go_wp2_with fail
    refine (rpair_any d _ B _ (by exact HD.out.below (((Below.refl _ _).alloc hB _).alloc (by simp; omega) _)) (by simp; omega)).mono ?_
    rintro e w1 ⟨rfl, hb⟩
    rw [HP.out]
    have HB := Lib.hid hb
    have HS := Lib.hid hb.size
    obtain ⟨hc, hfz⟩ := bcell hb
    have hz0 : w.heap.size < w1.heap.size := by have := hb.size; simp at this; omega
    have hz1 : w.heap.size + 1 < w1.heap.size := by have := hb.size; simp at this; omega
    have hbw : Below w.heap.size w w1 := (((Below.refl _ _).alloc (Nat.le_refl _) _).alloc (by simp) _).trans (hb.mono (by simp; omega))
    obtain ⟨c0, c1, c2, c3, c4, c5⟩ := Hsix.out.keep (w' := w1) (fun o => hbw.cell (p := ⟨b', o, none⟩) hb'')
    have Hbw := Lib.hid hbw
    clear hb hbw
    go_wp2_with fail
    refine (rclone_any x _ B w1 (by exact Hix.out.below (Hbw.out.mono hB)) (by have := Hbw.out.size; omega)).mono ?_
    rintro e w2 ⟨v', rfl, hb2, hi⟩
    rw [clone_of HX.out] at hi
    have hi' := hi
    obtain ⟨am2, cm2, al2, cl2, at2, ct2, rfl, _⟩ := hi'.open_
    obtain ⟨hc2, hfz2⟩ := bcell hb2
    have HB2 := Lib.hid hb2
    have Hi := Lib.hid hi
    clear hb2 hi hi' c0 c1 c2 c3 c4 c5
    go_wp2_with fail
    refine bodyPost_ret (v := .tuple #[.agg #[.int .i64 x.K, .int .i64 x.N, .string x.S, .slice am2 x.M.length cm2, .slice al2 x.L.length cl2, .slice at2 x.T.length ct2], .int .i64 0]) ?_ rfl ?_
    · simp [results, Try.results35, go_sem, hc, hc2, hz1]
    · exact two_end hB (by omega) hz1 Hbw.out HB2.out (Hi.out.more (fun b hb => .inr hb))
theorem pair_bare {d : Dt} (h : properB d = true) (hK : d.K = 6 ∨ d.K = 7) : d.N = 0 ∧ d.S = ⟨#[]⟩ ∧ d.M = [] := by
  obtain ⟨k, n, s, m, l, t⟩ := d
  simp only [Dt.K, Dt.N, Dt.S, Dt.M] at hK ⊢
  rcases hK with rfl | rfl
  · simp only [properB, properOf, Dt.K, Dt.N, Dt.S, Dt.M, Dt.L, Dt.T] at h
    simp only [show ¬ (6 : Int) = 1 by decide, show ¬ (6 : Int) = 2 by decide, show ¬ (6 : Int) = 3 by decide, show ¬ (6 : Int) = 4 by decide, show ¬ (6 : Int) = 5 by decide, if_false, if_true, Bool.and_eq_true, beq_iff_eq, nil2] at h
    obtain ⟨⟨h5, h6⟩, h7⟩ := h
    refine ⟨h5, ?_, List.eq_nil_of_length_eq_zero (by omega)⟩
    rw [ByteArray.toList_eq] at h6
    obtain ⟨s⟩ := s
    have : s.toList = [] := by simpa using h6
    have : s = #[] := by simpa using this
    rw [this]
  · exact ⟨(proper7 h).1, (proper7 h).2.1, (proper7 h).2.2.1⟩
/-- What is behind the first one, with no number, text and marks. -/
theorem rest_bare {w : World} {B : Nat} {d : Dt} {b off cl cm ct : Nat} {am at_ : Option Addr} (hd : IsDt w (Lo B) d (.agg #[.int .i64 d.K, .int .i64 d.N, .string d.S, .slice am d.M.length cm, .slice (some ⟨b, off, none⟩) d.L.length cl, .slice at_ d.T.length ct])) (hpos : 0 < d.L.length) (h0 : pairE d = 0) :
    (cl = 1 → IsDt w (Lo B) (restD d) (.agg #[.int .i64 d.K, .int .i64 0, .string ⟨#[]⟩, .slice none 0 0, .slice (some ⟨b, off, none⟩) 0 0, .slice at_ d.T.length ct])) ∧
    (cl ≠ 1 → IsDt w (Lo B) (restD d) (.agg #[.int .i64 d.K, .int .i64 0, .string ⟨#[]⟩, .slice none 0 0, .slice (some ⟨b, off + 6, none⟩) (d.L.length - 1) (cl - 1), .slice at_ d.T.length ct])) := by
  obtain ⟨am', cm', al', cl', at', ct', hv, k1, _, _, _, hl, hls, ht, hts⟩ := hd.open_
  injection hv with hv
  simp only [Array.mk.injEq, List.cons.injEq, Value.slice.injEq, and_true, true_and] at hv
  obtain ⟨_, ⟨rfl, rfl⟩, rfl, rfl⟩ := hv
  obtain ⟨hck, hK, _⟩ := pairE_zero h0
  have hz : d.N = 0 ∧ d.S = ⟨#[]⟩ ∧ d.M = [] := pair_bare (chk_self hck) hK
  have hrest := rest_isDt hd hpos
  have e : restD d = .mk d.K 0 ⟨#[]⟩ [] d.L.tail d.T := by unfold restD; rw [hz.1, hz.2.1, hz.2.2]
  rw [e] at hrest ⊢
  have key : ∀ (a : Option Addr) (n c : Nat), IsDt w (Lo B) (.mk d.K 0 ⟨#[]⟩ [] d.L.tail d.T) (.agg #[.int .i64 d.K, .int .i64 d.N, .string d.S, .slice am d.M.length cm, .slice a n c, .slice at_ d.T.length ct]) → IsDt w (Lo B) (.mk d.K 0 ⟨#[]⟩ [] d.L.tail d.T) (.agg #[.int .i64 d.K, .int .i64 0, .string ⟨#[]⟩, .slice none 0 0, .slice a n c, .slice at_ d.T.length ct]) := fun a n c h => by
    simp only [IsDt] at h ⊢
    obtain ⟨q1, _, _, am2, cm2, al2, cl2, at2, ct2, hv, hm, hl, hls, ht, hts⟩ := h
    injection hv with hv
    simp only [Array.mk.injEq, List.cons.injEq, Value.slice.injEq, and_true, true_and] at hv
    obtain ⟨_, _, _, ⟨rfl, hlen, rfl⟩, rfl, rfl⟩ := hv
    exact ⟨q1, rfl, by show (0 : Nat) ≤ _; exact Nat.zero_le _, none, 0, a, c, at_, ct, by rw [hlen]; rfl, ⟨rfl, Nat.le_refl _, by simp [maxLen], by simp, fun _ => rfl, by simp, fun k hk => absurd hk (Nat.not_lt_zero _)⟩, hl, hls, ht, hts⟩
  exact ⟨fun h => key _ _ _ (hrest.1 h), fun h => key _ _ _ (hrest.2 h)⟩
theorem rest_chk {d : Dt} (h0 : pairE d = 0) (hn : ¬ (d.K = 7 ∧ d.L.length = 1)) : chk (restD d) = 0 := by
  have h := (halves_put (halves_take h0).1).2.1
  unfold cdrD at h
  rw [if_neg hn] at h
  exact h
set_option maxHeartbeats 4000000 in
theorem rcdr_rest (d : Dt) (v : Value) (B : Nat) (w : World) (hd : IsDt w (Lo B) d v) (hB : B ≤ w.heap.size) (h0 : pairE d = 0) (hn : ¬ (d.K = 7 ∧ d.L.length = 1)) :
    Calls Try.prog 35 #[v] w (TwoR w (Lo B) 0 (restD d)) := by
  have hd' := hd
  obtain ⟨am, cm, al, cl, at_, ct, rfl, _, _, _, _, hl, hls, _⟩ := hd'.open_
  obtain ⟨_, _, hne⟩ := pairE_zero h0
  have hpos : 0 < d.L.length := List.length_pos_iff.2 hne
  obtain ⟨x, hx⟩ : ∃ x, d.L[0]? = some x := ⟨d.L[0], by simp [hpos]⟩
  obtain ⟨b', off, _, _, _, _, _, _, rfl, hb', _, _⟩ := hls.at6 0 x hx
  have hrest := rest_bare hd hpos h0
  have hxx := rest_chk h0 hn
  obtain ⟨rd, hrd⟩ : ∃ rd, restD d = rd := ⟨_, rfl⟩
  rw [hrd] at hrest hxx ⊢
  clear hrd
  have HR := Lib.hid hrest
  have HX := Lib.hid hxx
  have HD := Lib.hid hd
  have HP := Lib.hid h0
  obtain ⟨l1, l2, l3, _⟩ := hl
  have hlen : (d.L.length : Int) ≤ 17592186044416 := by omega
  unfold maxLen at l2
  clear hd hd' h0 hx hls hrest hb' hne hxx
  by_cases hc1 : cl = 1
  · subst hc1
    have Hq := Lib.hid (HR.out.1 rfl)
    clear HR
    by_cases h7 : d.K = 7
    all_goals
      have HN := Lib.hid hn
      first | (have d7 : (d.K == 7) = true := by simp [h7]) | (have d7 : (d.K == 7) = false := by simp [h7])
      have dl : d.K = 7 → ((d.L.length : Int) == 1) = false := fun h => by rw [beq_eq_false_iff_ne]; have := fun h1 => HN.out ⟨h, h1⟩; omega
      try (have dl' := dl h7)
      clear dl
      clear h7
      go_enter Try.func35, Try.ntmps35
      go_wp2_with fail
      have gX : Blk ((w.alloc (.cells #[.int .i64 d.K, .int .i64 d.N, .string d.S, .slice am d.M.length cm, .slice (some ⟨b', off, none⟩) d.L.length 1, .slice at_ d.T.length ct] 25)).alloc (.cells #[.int .i64 0, .int .i64 0, .string ⟨#[]⟩, .slice none 0 0, .slice none 0 0, .slice none 0 0] 25)) w.heap.size 25 #[.int .i64 d.K, .int .i64 d.N, .string d.S, .slice am d.M.length cm, .slice (some ⟨b', off, none⟩) d.L.length 1, .slice at_ d.T.length ct] := (Below.heap_alloc _ _ _ (by simp)).trans (heap_alloc_new w _)
      refine (rpair_any d _ B _ (by exact HD.out.below (((Below.refl _ _).alloc hB _).alloc (by simp; omega) _)) (by simp; omega)).mono ?_
      rintro e w1 ⟨rfl, hb⟩
      rw [HP.out]
      obtain ⟨hc, hfz⟩ := bcell hb
      have hz1 : w.heap.size + 1 < w1.heap.size := by have := hb.size; simp at this; omega
      have hbw : Below w.heap.size w w1 := (((Below.refl _ _).alloc (Nat.le_refl _) _).alloc (by simp) _).trans (hb.mono (by simp; omega))
      have hz0 : w.heap.size < w1.heap.size := by omega
      have g1 := (hb.block w.heap.size (by simp; omega)).trans gX
      have p0 : w1.cell? ⟨w.heap.size, 0, none⟩ = some (.int .i64 d.K) := (Blk.cell g1 0).trans rfl
      have p4 : w1.cell? ⟨w.heap.size, 4, none⟩ = some (.slice (some ⟨b', off, none⟩) d.L.length 1) := (Blk.cell g1 4).trans rfl
      have p5 : w1.cell? ⟨w.heap.size, 5, none⟩ = some (.slice at_ d.T.length ct) := (Blk.cell g1 5).trans rfl
      have Hbw := Lib.hid hbw
      have bb1 : (1 : Int) ≤ (d.L.length : Int) := by omega
      have bb2 : (d.L.length : Int) ≤ (1 : Int) := by omega
      clear hb hbw g1 gX
      go_wp2_with fail
      refine Od.till_region 9 (fun _ : World => True) (fun w' : World => w'.cell? ⟨w.heap.size, 0, none⟩ = some (.int .i64 d.K) ∧ w'.cell? ⟨w.heap.size, 4, none⟩ = some (.slice (some ⟨b', off, none⟩) d.L.length 1) ∧ w'.cell? ⟨w.heap.size, 5, none⟩ = some (.slice at_ d.T.length ct)) 11 (by kernel_rfl) rfl ?_
      simp only [Array.replicate_succ, Array.replicate_zero, List.push_toArray, List.nil_append, List.cons_append]
      have hT0 : (fun w' : World => w'.cell? ⟨w.heap.size, 0, none⟩ = some (.int .i64 d.K) ∧ w'.cell? ⟨w.heap.size, 4, none⟩ = some (.slice (some ⟨b', off, none⟩) d.L.length 1) ∧ w'.cell? ⟨w.heap.size, 5, none⟩ = some (.slice at_ d.T.length ct)) w1.drew := ⟨p0, p4, p5⟩
      refine Od.Till.takeT (i := 0) (d := 25) (v := .pointer (some ⟨w.heap.size, 0, none⟩)) rfl rfl (by kernel_rfl) (by kernel_rfl) (by kernel_rfl) (by kernel_rfl) (fun _ _ _ h => h) (.inl ⟨by rfl, ?_⟩) trivial hT0 ?_
      · intro wx hSw
        obtain ⟨j0, j1, j2⟩ := hSw
        go_simp
        try omega
      simp only [Act.put, List.setIfInBounds_toArray, List.set_cons_zero, List.set_cons_succ]
      refine Od.Till.takeT (i := 1) (d := 26) (v := .int .i64 d.K) rfl rfl (by kernel_rfl) (by kernel_rfl) (by kernel_rfl) (by kernel_rfl) (fun _ _ _ h => h) (.inl ⟨by rfl, ?_⟩) trivial hT0 ?_
      · intro wx hSw
        obtain ⟨j0, j1, j2⟩ := hSw
        go_simp
        try omega
      simp only [Act.put, List.setIfInBounds_toArray, List.set_cons_zero, List.set_cons_succ]
      refine Od.Till.takeT (i := 2) (d := 27) (v := .pointer (some ⟨w.heap.size, 4, none⟩)) rfl rfl (by kernel_rfl) (by kernel_rfl) (by kernel_rfl) (by kernel_rfl) (fun _ _ _ h => h) (.inl ⟨by rfl, ?_⟩) trivial hT0 ?_
      · intro wx hSw
        obtain ⟨j0, j1, j2⟩ := hSw
        go_simp
        try omega
      simp only [Act.put, List.setIfInBounds_toArray, List.set_cons_zero, List.set_cons_succ]
      refine Od.Till.takeT (i := 3) (d := 28) (v := .slice (some ⟨b', off, none⟩) d.L.length 1) rfl rfl (by kernel_rfl) (by kernel_rfl) (by kernel_rfl) (by kernel_rfl) (fun _ _ _ h => h) (.inl ⟨by rfl, ?_⟩) trivial hT0 ?_
      · intro wx hSw
        obtain ⟨j0, j1, j2⟩ := hSw
        go_simp
        try omega
      simp only [Act.put, List.setIfInBounds_toArray, List.set_cons_zero, List.set_cons_succ]
      refine Od.Till.takeT (i := 4) (d := 29) (v := .slice (some ⟨b', off, none⟩) 0 0) rfl rfl (by kernel_rfl) (by kernel_rfl) (by kernel_rfl) (by kernel_rfl) (fun _ _ _ h => h) (.inl ⟨by rfl, ?_⟩) trivial hT0 ?_
      · intro wx hSw
        obtain ⟨j0, j1, j2⟩ := hSw
        go_simp
        try omega
      simp only [Act.put, List.setIfInBounds_toArray, List.set_cons_zero, List.set_cons_succ]
      refine Od.Till.takeT (i := 5) (d := 30) (v := .pointer (some ⟨w.heap.size, 5, none⟩)) rfl rfl (by kernel_rfl) (by kernel_rfl) (by kernel_rfl) (by kernel_rfl) (fun _ _ _ h => h) (.inl ⟨by rfl, ?_⟩) trivial hT0 ?_
      · intro wx hSw
        obtain ⟨j0, j1, j2⟩ := hSw
        go_simp
        try omega
      simp only [Act.put, List.setIfInBounds_toArray, List.set_cons_zero, List.set_cons_succ]
      refine Od.Till.takeT (i := 6) (d := 31) (v := .slice at_ d.T.length ct) rfl rfl (by kernel_rfl) (by kernel_rfl) (by kernel_rfl) (by kernel_rfl) (fun _ _ _ h => h) (.inl ⟨by rfl, ?_⟩) trivial hT0 ?_
      · intro wx hSw
        obtain ⟨j0, j1, j2⟩ := hSw
        go_simp
        try omega
      simp only [Act.put, List.setIfInBounds_toArray, List.set_cons_zero, List.set_cons_succ]
      refine Od.Till.takeT (i := 7) (d := 32) (v := .agg #[.int .i64 d.K, .int .i64 0, .string ⟨#[]⟩, .slice none 0 0, .slice (some ⟨b', off, none⟩) 0 0, .slice at_ d.T.length ct]) rfl rfl (by kernel_rfl) (by kernel_rfl) (by kernel_rfl) (by kernel_rfl) (fun _ _ _ h => h) (.inl ⟨by rfl, ?_⟩) trivial hT0 ?_
      · intro wx hSw
        obtain ⟨j0, j1, j2⟩ := hSw
        go_simp
        try omega
      simp only [Act.put, List.setIfInBounds_toArray, List.set_cons_zero, List.set_cons_succ]
      refine Od.Till.one (i := 8) (by kernel_rfl) rfl (fun K hK => ?_)
      go_simp
      refine (rclone_any rd _ B w1.drew (IsDt.keep (w := w) (w' := World.drew w1) (fun _ h => h) (fun b o hb => Hbw.out.cell (p := ⟨b, o, none⟩) (Nat.lt_of_lt_of_le hb hB)) _ _ Hq.out) (by show B ≤ w1.heap.size; omega)).mono ?_
      rintro e w2 ⟨v', rfl, hb2, hi⟩
      rw [clone_of HX.out] at hi
      have hi' := hi
      obtain ⟨am2, cm2, al2, cl2, at2, ct2, rfl, _⟩ := hi'.open_
      have hb3 : Below w1.heap.size w1 w2 := ⟨hb2.os, hb2.tape, hb2.output, hb2.size, hb2.block⟩
      obtain ⟨hc2, hfz2⟩ := bcell hb3
      have hT2 : (fun w' : World => w'.cell? ⟨w.heap.size, 0, none⟩ = some (.int .i64 d.K) ∧ w'.cell? ⟨w.heap.size, 4, none⟩ = some (.slice (some ⟨b', off, none⟩) d.L.length 1) ∧ w'.cell? ⟨w.heap.size, 5, none⟩ = some (.slice at_ d.T.length ct)) w2 := ⟨(hc2 _ 0 hz0).trans p0, (hc2 _ 4 hz0).trans p4, (hc2 _ 5 hz0).trans p5⟩
      have HB2 := Lib.hid hb3
      have Hi := Lib.hid (show IsDt w2 (Rg w1.heap.size w2.heap.size) rd _ from hi)
      have hlw2 : w.heap.size + 1 < w2.heap.size := Nat.lt_of_lt_of_le hz1 hb3.size
      clear hb2 hi hi' hb3
      refine hK.out _ _ ⟨fun _ => trivial, hT2⟩ ?_
      clear hK K
      have v2c : w2.cell? ⟨w.heap.size + 1, 0, none⟩ = some (.int .i64 0) := (hc2 _ 0 hz1).trans ((hc _ 0 (by simp)).trans (by simp [go_sem]))
      refine Od.Till.one (i := 9) (by kernel_rfl) rfl (fun K hK => ?_)
      rw [if_pos (by kernel_rfl)]
      go_simp
      refine hK.out _ _ ⟨fun _ => trivial, (set6_ne w2 (w.heap.size + 1) 0 w.heap.size 0 _ _ _ _ _ _ (.inl (by omega))).trans hT2.1, (set6_ne w2 (w.heap.size + 1) 0 w.heap.size 4 _ _ _ _ _ _ (.inl (by omega))).trans hT2.2.1, (set6_ne w2 (w.heap.size + 1) 0 w.heap.size 5 _ _ _ _ _ _ (.inl (by omega))).trans hT2.2.2⟩ ?_
      clear hK K
      refine Od.Till.one (i := 10) (by kernel_rfl) rfl (fun K hK => ?_)
      rw [if_pos (by kernel_rfl)]
      go_simp
      refine hK.out _ _ ⟨fun _ => trivial, (set6_ne w2 (w.heap.size + 1) 0 w.heap.size 0 _ _ _ _ _ _ (.inl (by omega))).trans hT2.1, (set6_ne w2 (w.heap.size + 1) 0 w.heap.size 4 _ _ _ _ _ _ (.inl (by omega))).trans hT2.2.1, (set6_ne w2 (w.heap.size + 1) 0 w.heap.size 5 _ _ _ _ _ _ (.inl (by omega))).trans hT2.2.2⟩ (Od.Till.done (by kernel_rfl) ?_)
      clear hK K
      go_wp2_with fail
      refine bodyPost_ret (v := .tuple #[.agg #[.int .i64 rd.K, .int .i64 rd.N, .string rd.S, .slice am2 rd.M.length cm2, .slice al2 rd.L.length cl2, .slice at2 rd.T.length ct2], .int .i64 0]) ?_ rfl ?_
      · simp [results, Try.results35, go_sem, hc, hc2, hz1]
      · exact two_end hB (b := w.heap.size + 1) (by omega) hz1 Hbw.out HB2.out (Hi.out.more (fun b hb => .inr hb))
  · have Hq := Lib.hid (HR.out.2 hc1)
    clear HR
    by_cases h7 : d.K = 7
    all_goals
      have HN := Lib.hid hn
      first | (have d7 : (d.K == 7) = true := by simp [h7]) | (have d7 : (d.K == 7) = false := by simp [h7])
      have dl : d.K = 7 → ((d.L.length : Int) == 1) = false := fun h => by rw [beq_eq_false_iff_ne]; have := fun h1 => HN.out ⟨h, h1⟩; omega
      try (have dl' := dl h7)
      clear dl
      clear h7
      go_enter Try.func35, Try.ntmps35
      go_wp2_with fail
      have gX : Blk ((w.alloc (.cells #[.int .i64 d.K, .int .i64 d.N, .string d.S, .slice am d.M.length cm, .slice (some ⟨b', off, none⟩) d.L.length cl, .slice at_ d.T.length ct] 25)).alloc (.cells #[.int .i64 0, .int .i64 0, .string ⟨#[]⟩, .slice none 0 0, .slice none 0 0, .slice none 0 0] 25)) w.heap.size 25 #[.int .i64 d.K, .int .i64 d.N, .string d.S, .slice am d.M.length cm, .slice (some ⟨b', off, none⟩) d.L.length cl, .slice at_ d.T.length ct] := (Below.heap_alloc _ _ _ (by simp)).trans (heap_alloc_new w _)
      refine (rpair_any d _ B _ (by exact HD.out.below (((Below.refl _ _).alloc hB _).alloc (by simp; omega) _)) (by simp; omega)).mono ?_
      rintro e w1 ⟨rfl, hb⟩
      rw [HP.out]
      obtain ⟨hc, hfz⟩ := bcell hb
      have hz1 : w.heap.size + 1 < w1.heap.size := by have := hb.size; simp at this; omega
      have hbw : Below w.heap.size w w1 := (((Below.refl _ _).alloc (Nat.le_refl _) _).alloc (by simp) _).trans (hb.mono (by simp; omega))
      have hz0 : w.heap.size < w1.heap.size := by omega
      have g1 := (hb.block w.heap.size (by simp; omega)).trans gX
      have p0 : w1.cell? ⟨w.heap.size, 0, none⟩ = some (.int .i64 d.K) := (Blk.cell g1 0).trans rfl
      have p4 : w1.cell? ⟨w.heap.size, 4, none⟩ = some (.slice (some ⟨b', off, none⟩) d.L.length cl) := (Blk.cell g1 4).trans rfl
      have p5 : w1.cell? ⟨w.heap.size, 5, none⟩ = some (.slice at_ d.T.length ct) := (Blk.cell g1 5).trans rfl
      have Hbw := Lib.hid hbw
      have bb1 : (1 : Int) ≤ (d.L.length : Int) := by omega
      have bb2 : (d.L.length : Int) ≤ (cl : Int) := by omega
      clear hb hbw g1 gX
      go_wp2_with fail
      refine Od.till_region 9 (fun _ : World => True) (fun w' : World => w'.cell? ⟨w.heap.size, 0, none⟩ = some (.int .i64 d.K) ∧ w'.cell? ⟨w.heap.size, 4, none⟩ = some (.slice (some ⟨b', off, none⟩) d.L.length cl) ∧ w'.cell? ⟨w.heap.size, 5, none⟩ = some (.slice at_ d.T.length ct)) 11 (by kernel_rfl) rfl ?_
      simp only [Array.replicate_succ, Array.replicate_zero, List.push_toArray, List.nil_append, List.cons_append]
      have hT0 : (fun w' : World => w'.cell? ⟨w.heap.size, 0, none⟩ = some (.int .i64 d.K) ∧ w'.cell? ⟨w.heap.size, 4, none⟩ = some (.slice (some ⟨b', off, none⟩) d.L.length cl) ∧ w'.cell? ⟨w.heap.size, 5, none⟩ = some (.slice at_ d.T.length ct)) w1.drew := ⟨p0, p4, p5⟩
      refine Od.Till.takeT (i := 0) (d := 25) (v := .pointer (some ⟨w.heap.size, 0, none⟩)) rfl rfl (by kernel_rfl) (by kernel_rfl) (by kernel_rfl) (by kernel_rfl) (fun _ _ _ h => h) (.inl ⟨by rfl, ?_⟩) trivial hT0 ?_
      · intro wx hSw
        obtain ⟨j0, j1, j2⟩ := hSw
        go_simp
        try omega
      simp only [Act.put, List.setIfInBounds_toArray, List.set_cons_zero, List.set_cons_succ]
      refine Od.Till.takeT (i := 1) (d := 26) (v := .int .i64 d.K) rfl rfl (by kernel_rfl) (by kernel_rfl) (by kernel_rfl) (by kernel_rfl) (fun _ _ _ h => h) (.inl ⟨by rfl, ?_⟩) trivial hT0 ?_
      · intro wx hSw
        obtain ⟨j0, j1, j2⟩ := hSw
        go_simp
        try omega
      simp only [Act.put, List.setIfInBounds_toArray, List.set_cons_zero, List.set_cons_succ]
      refine Od.Till.takeT (i := 2) (d := 27) (v := .pointer (some ⟨w.heap.size, 4, none⟩)) rfl rfl (by kernel_rfl) (by kernel_rfl) (by kernel_rfl) (by kernel_rfl) (fun _ _ _ h => h) (.inl ⟨by rfl, ?_⟩) trivial hT0 ?_
      · intro wx hSw
        obtain ⟨j0, j1, j2⟩ := hSw
        go_simp
        try omega
      simp only [Act.put, List.setIfInBounds_toArray, List.set_cons_zero, List.set_cons_succ]
      refine Od.Till.takeT (i := 3) (d := 28) (v := .slice (some ⟨b', off, none⟩) d.L.length cl) rfl rfl (by kernel_rfl) (by kernel_rfl) (by kernel_rfl) (by kernel_rfl) (fun _ _ _ h => h) (.inl ⟨by rfl, ?_⟩) trivial hT0 ?_
      · intro wx hSw
        obtain ⟨j0, j1, j2⟩ := hSw
        go_simp
        try omega
      simp only [Act.put, List.setIfInBounds_toArray, List.set_cons_zero, List.set_cons_succ]
      refine Od.Till.takeT (i := 4) (d := 29) (v := .slice (some ⟨b', off + 6, none⟩) (d.L.length - 1) (cl - 1)) rfl rfl (by kernel_rfl) (by kernel_rfl) (by kernel_rfl) (by kernel_rfl) (fun _ _ _ h => h) (.inl ⟨by rfl, ?_⟩) trivial hT0 ?_
      · intro wx hSw
        obtain ⟨j0, j1, j2⟩ := hSw
        go_simp
        try omega
      simp only [Act.put, List.setIfInBounds_toArray, List.set_cons_zero, List.set_cons_succ]
      refine Od.Till.takeT (i := 5) (d := 30) (v := .pointer (some ⟨w.heap.size, 5, none⟩)) rfl rfl (by kernel_rfl) (by kernel_rfl) (by kernel_rfl) (by kernel_rfl) (fun _ _ _ h => h) (.inl ⟨by rfl, ?_⟩) trivial hT0 ?_
      · intro wx hSw
        obtain ⟨j0, j1, j2⟩ := hSw
        go_simp
        try omega
      simp only [Act.put, List.setIfInBounds_toArray, List.set_cons_zero, List.set_cons_succ]
      refine Od.Till.takeT (i := 6) (d := 31) (v := .slice at_ d.T.length ct) rfl rfl (by kernel_rfl) (by kernel_rfl) (by kernel_rfl) (by kernel_rfl) (fun _ _ _ h => h) (.inl ⟨by rfl, ?_⟩) trivial hT0 ?_
      · intro wx hSw
        obtain ⟨j0, j1, j2⟩ := hSw
        go_simp
        try omega
      simp only [Act.put, List.setIfInBounds_toArray, List.set_cons_zero, List.set_cons_succ]
      refine Od.Till.takeT (i := 7) (d := 32) (v := .agg #[.int .i64 d.K, .int .i64 0, .string ⟨#[]⟩, .slice none 0 0, .slice (some ⟨b', off + 6, none⟩) (d.L.length - 1) (cl - 1), .slice at_ d.T.length ct]) rfl rfl (by kernel_rfl) (by kernel_rfl) (by kernel_rfl) (by kernel_rfl) (fun _ _ _ h => h) (.inl ⟨by rfl, ?_⟩) trivial hT0 ?_
      · intro wx hSw
        obtain ⟨j0, j1, j2⟩ := hSw
        go_simp
        try omega
      simp only [Act.put, List.setIfInBounds_toArray, List.set_cons_zero, List.set_cons_succ]
      refine Od.Till.one (i := 8) (by kernel_rfl) rfl (fun K hK => ?_)
      go_simp
      refine (rclone_any rd _ B w1.drew (IsDt.keep (w := w) (w' := World.drew w1) (fun _ h => h) (fun b o hb => Hbw.out.cell (p := ⟨b, o, none⟩) (Nat.lt_of_lt_of_le hb hB)) _ _ Hq.out) (by show B ≤ w1.heap.size; omega)).mono ?_
      rintro e w2 ⟨v', rfl, hb2, hi⟩
      rw [clone_of HX.out] at hi
      have hi' := hi
      obtain ⟨am2, cm2, al2, cl2, at2, ct2, rfl, _⟩ := hi'.open_
      have hb3 : Below w1.heap.size w1 w2 := ⟨hb2.os, hb2.tape, hb2.output, hb2.size, hb2.block⟩
      obtain ⟨hc2, hfz2⟩ := bcell hb3
      have hT2 : (fun w' : World => w'.cell? ⟨w.heap.size, 0, none⟩ = some (.int .i64 d.K) ∧ w'.cell? ⟨w.heap.size, 4, none⟩ = some (.slice (some ⟨b', off, none⟩) d.L.length cl) ∧ w'.cell? ⟨w.heap.size, 5, none⟩ = some (.slice at_ d.T.length ct)) w2 := ⟨(hc2 _ 0 hz0).trans p0, (hc2 _ 4 hz0).trans p4, (hc2 _ 5 hz0).trans p5⟩
      have HB2 := Lib.hid hb3
      have Hi := Lib.hid (show IsDt w2 (Rg w1.heap.size w2.heap.size) rd _ from hi)
      have hlw2 : w.heap.size + 1 < w2.heap.size := Nat.lt_of_lt_of_le hz1 hb3.size
      clear hb2 hi hi' hb3
      refine hK.out _ _ ⟨fun _ => trivial, hT2⟩ ?_
      clear hK K
      have v2c : w2.cell? ⟨w.heap.size + 1, 0, none⟩ = some (.int .i64 0) := (hc2 _ 0 hz1).trans ((hc _ 0 (by simp)).trans (by simp [go_sem]))
      refine Od.Till.one (i := 9) (by kernel_rfl) rfl (fun K hK => ?_)
      rw [if_pos (by kernel_rfl)]
      go_simp
      refine hK.out _ _ ⟨fun _ => trivial, (set6_ne w2 (w.heap.size + 1) 0 w.heap.size 0 _ _ _ _ _ _ (.inl (by omega))).trans hT2.1, (set6_ne w2 (w.heap.size + 1) 0 w.heap.size 4 _ _ _ _ _ _ (.inl (by omega))).trans hT2.2.1, (set6_ne w2 (w.heap.size + 1) 0 w.heap.size 5 _ _ _ _ _ _ (.inl (by omega))).trans hT2.2.2⟩ ?_
      clear hK K
      refine Od.Till.one (i := 10) (by kernel_rfl) rfl (fun K hK => ?_)
      rw [if_pos (by kernel_rfl)]
      go_simp
      refine hK.out _ _ ⟨fun _ => trivial, (set6_ne w2 (w.heap.size + 1) 0 w.heap.size 0 _ _ _ _ _ _ (.inl (by omega))).trans hT2.1, (set6_ne w2 (w.heap.size + 1) 0 w.heap.size 4 _ _ _ _ _ _ (.inl (by omega))).trans hT2.2.1, (set6_ne w2 (w.heap.size + 1) 0 w.heap.size 5 _ _ _ _ _ _ (.inl (by omega))).trans hT2.2.2⟩ (Od.Till.done (by kernel_rfl) ?_)
      clear hK K
      go_wp2_with fail
      refine bodyPost_ret (v := .tuple #[.agg #[.int .i64 rd.K, .int .i64 rd.N, .string rd.S, .slice am2 rd.M.length cm2, .slice al2 rd.L.length cl2, .slice at2 rd.T.length ct2], .int .i64 0]) ?_ rfl ?_
      · simp [results, Try.results35, go_sem, hc, hc2, hz1]
      · exact two_end hB (b := w.heap.size + 1) (by omega) hz1 Hbw.out HB2.out (Hi.out.more (fun b hb => .inr hb))
end Go.Proofs.Ytjmchodddobleaa.Da
