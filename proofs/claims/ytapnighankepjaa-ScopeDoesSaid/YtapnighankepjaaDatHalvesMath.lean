/- The halves of a datum (P2.4): what is reckoned without a walk. -/
import Derived.Test.YtapnighankepjaaDatPartsMath
import Derived.Test.YtapnighankepjaaDatSame
namespace Go.Proofs.Ytapnighankepjaa.Da
open Go.ChangeShapes Go.WideShapes Go.ChangeAt Go.RowKit

theorem chk_iff (d : Dt) : chk d = 0 ↔ (∀ x ∈ nodes d 1, properB x.1 = true ∧ x.2 ≤ 64) ∧ cnt d ≤ 4096 := by
  constructor
  · intro h
    exact ⟨errOf_proper _ _ (chk_zero.1 h), chk_cnt h⟩
  · intro h
    have hs := errOf_sound (nodes d 1) 0 (by omega) (fun x hx => (h.1 x hx).1)
    exact chk_zero.2 (hs.2.2 ⟨by rw [nodes_len]; omega, fun x hx => (h.1 x hx).2⟩)
theorem nodesL_mem {l : List Dt} {x : Dt} {i : Nat} (hx : x ∈ l) : ∀ y ∈ nodes x i, y ∈ nodesL l i := by
  induction l with
  | nil => cases hx
  | cons d r ih =>
    intro y hy
    rw [nodesL_cons]
    rcases List.mem_cons.1 hx with rfl | hx
    · exact List.mem_append_left _ hy
    · exact List.mem_append_right _ (ih hx y hy)
theorem cntL_mem {l : List Dt} {x : Dt} (hx : x ∈ l) : cnt x ≤ cntL l := by
  induction l with
  | nil => cases hx
  | cons d r ih =>
    simp only [cntL]
    rcases List.mem_cons.1 hx with rfl | hx
    · omega
    · have := ih hx; omega
theorem chk_child {d x : Dt} (h : chk d = 0) (hx : x ∈ d.L ∨ x ∈ d.T) : chk x = 0 := by
  obtain ⟨h1, h2⟩ := (chk_iff d).1 h
  rw [cnt_eq] at h2
  refine (chk_iff x).2 ⟨fun y hy => ?_, ?_⟩
  · have hm : up1 y ∈ nodes d 1 := by
      rw [nodes_eq]
      have : up1 y ∈ nodes x 2 := by rw [nodes_up x 1]; exact List.mem_map_of_mem hy
      rcases hx with hx | hx
      · exact List.mem_cons_of_mem _ (List.mem_append_left _ (nodesL_mem hx _ this))
      · exact List.mem_cons_of_mem _ (List.mem_append_right _ (nodesL_mem hx _ this))
    have := h1 _ hm
    simp only [up1] at this
    exact ⟨this.1, by omega⟩
  · rcases hx with hx | hx
    · have := cntL_mem hx; omega
    · have := cntL_mem hx; omega
theorem chk_self {d : Dt} (h : chk d = 0) : properB d = true := ((chk_iff d).1 h).1 (d, 1) (by rw [nodes_eq]; exact List.mem_cons_self ..) |>.1
theorem chk_rest {d : Dt} (h : chk d = 0) (hp : properB (restD d) = true) : chk (restD d) = 0 := by
  obtain ⟨h1, h2⟩ := (chk_iff d).1 h
  rw [cnt_eq] at h2
  have ht : ∀ y ∈ nodesL d.L.tail 2, y ∈ nodesL d.L 2 := by
    cases d.L with
    | nil => intro y hy; exact hy
    | cons a r => intro y hy; rw [nodesL_cons]; exact List.mem_append_right _ hy
  have hc : cntL d.L.tail ≤ cntL d.L := by
    cases d.L with
    | nil => exact Nat.le_refl _
    | cons a r => show cntL r ≤ _; simp only [cntL]; omega
  refine (chk_iff _).2 ⟨fun y hy => ?_, ?_⟩
  · rw [nodes_eq] at hy
    rcases List.mem_cons.1 hy with rfl | hy
    · exact ⟨hp, by show (1 : Nat) ≤ 64; omega⟩
    · refine h1 y ?_
      rw [nodes_eq]
      refine List.mem_cons_of_mem _ ?_
      rcases List.mem_append.1 hy with hy | hy
      · exact List.mem_append_left _ (ht y hy)
      · exact List.mem_append_right _ hy
  · rw [cnt_eq]
    show 1 + (cntL d.L.tail + cntL d.T) ≤ 4096
    omega
theorem proper7 {n : Int} {s : ByteArray} {m : List Int} {l t : List Dt} (h : properB (.mk 7 n s m l t) = true) : n = 0 ∧ s = ⟨#[]⟩ ∧ m = [] ∧ 0 < l.length ∧ ∃ x, t = [x] ∧ x.K ≠ 6 ∧ x.K ≠ 7 := by
  simp only [properB, properOf, Dt.K, Dt.N, Dt.S, Dt.M, Dt.L, Dt.T] at h
  simp only [show ¬ (7 : Int) = 1 by decide, show ¬ (7 : Int) = 2 by decide, show ¬ (7 : Int) = 3 by decide, show ¬ (7 : Int) = 4 by decide, show ¬ (7 : Int) = 5 by decide, show ¬ (7 : Int) = 6 by decide, if_false, if_true, Bool.and_eq_true, beq_iff_eq, nil1, tailB, bne_iff_ne] at h
  obtain ⟨⟨⟨⟨h1', ⟨h2, h3⟩, h4⟩, h5⟩, h6⟩, h7⟩ := h
  have h1 := of_decide_eq_true h1'
  refine ⟨h5, ?_, List.eq_nil_of_length_eq_zero (by omega), by omega, ?_⟩
  · rw [ByteArray.toList_eq] at h6
    obtain ⟨s⟩ := s
    have : s.toList = [] := by simpa using h6
    have : s = #[] := by simpa using this
    rw [this]
  · match t, h2 with
    | [x], _ => exact ⟨x, rfl, h3, h4⟩
theorem halves_put {a d : Dt} (h : consE a d = 0) : chk a = 0 ∧ chk d = 0 ∧ pairE (consD a d) = 0 ∧ carD (consD a d) = a ∧ cdrD (consD a d) = d := by
  have ha : chk a = 0 := by
    by_cases h1 : chk a = 0
    · exact h1
    · unfold consE at h; rw [if_pos h1] at h; exact h
  have hd : chk d = 0 := by
    by_cases h1 : chk d = 0
    · exact h1
    · unfold consE at h; rw [if_neg (by simp [ha]), if_pos h1] at h; exact h
  have hp : chk (consD a d) = 0 := by
    unfold consE at h
    rw [if_neg (by simp [ha]), if_neg (by simp [hd])] at h
    exact h
  refine ⟨ha, hd, ?_⟩
  obtain ⟨k, n, s, m, l, t⟩ := d
  by_cases hk : k = 6 ∨ k = 7
  · have hcons : consD a (.mk k n s m l t) = .mk k n s m (a :: l) t := by unfold consD; exact if_pos hk
    rw [hcons] at hp ⊢
    refine ⟨?_, rfl, ?_⟩
    · unfold pairE
      rw [if_neg (by simp [hp]), if_neg]
      rintro (h1 | h1)
      · simp only [Dt.K] at h1; omega
      · cases h1
    · unfold cdrD
      rw [if_neg]
      · rfl
      · rintro ⟨h7, h1⟩
        simp only [Dt.K, Dt.L, List.length_cons] at h7 h1
        subst h7
        have := (proper7 (chk_self hd)).2.2.2.1
        omega
  · have hcons : consD a (.mk k n s m l t) = .mk 7 0 ⟨#[]⟩ [] [a] [.mk k n s m l t] := by unfold consD; exact if_neg hk
    rw [hcons] at hp ⊢
    refine ⟨?_, rfl, ?_⟩
    · unfold pairE
      rw [if_neg (by simp [hp]), if_neg]
      rintro (h1 | h1)
      · simp only [Dt.K] at h1; omega
      · cases h1
    · unfold cdrD
      rw [if_pos ⟨rfl, rfl⟩]
      rfl
theorem halves_take {d : Dt} (h : pairE d = 0) : consE (carD d) (cdrD d) = 0 ∧ consD (carD d) (cdrD d) = d ∧ (d.K = 7 → d.L.length = 1 → d.T[0]? = some (cdrD d)) := by
  obtain ⟨hc, hk, hl⟩ := pairE_zero h
  obtain ⟨k, n, s, m, l, t⟩ := d
  simp only [Dt.K, Dt.L, Dt.T] at hk hl ⊢
  cases l with
  | nil => exact absurd rfl hl
  | cons a r =>
    have hca : chk a = 0 := chk_child hc (.inl (List.mem_cons_self ..))
    have hcar : carD (.mk k n s m (a :: r) t) = a := rfl
    rw [hcar]
    by_cases h7 : k = 7 ∧ (a :: r).length = 1
    · obtain ⟨rfl, h1⟩ := h7
      obtain ⟨rfl, rfl, rfl, _, x, rfl, hx6, hx7⟩ := proper7 (chk_self hc)
      obtain rfl : r = [] := List.eq_nil_of_length_eq_zero (by simpa using h1)
      have hcdr : cdrD (.mk 7 0 ⟨#[]⟩ [] [a] [x]) = x := by unfold cdrD; rw [if_pos ⟨rfl, rfl⟩]; rfl
      have hcx : chk x = 0 := chk_child hc (.inr (List.mem_cons_self ..))
      have hcons : consD a x = .mk 7 0 ⟨#[]⟩ [] [a] [x] := by unfold consD; rw [if_neg (by rintro (h | h); exact hx6 h; exact hx7 h)]
      rw [hcdr, hcons]
      refine ⟨?_, rfl, fun _ _ => rfl⟩
      unfold consE
      rw [if_neg (by simp [hca]), if_neg (by simp [hcx]), hcons]
      exact hc
    · have hcdr : cdrD (.mk k n s m (a :: r) t) = .mk k n s m r t := by unfold cdrD; exact if_neg h7
      have hp : properB (.mk k n s m r t) = true := by
        have hpd := chk_self hc
        rcases hk with rfl | rfl
        · exact hpd
        · have hr : 0 < r.length := by
            cases r with
            | nil => exact absurd ⟨rfl, rfl⟩ h7
            | cons b q => simp
          simp only [properB, properOf, Dt.K, Dt.N, Dt.S, Dt.M, Dt.L, Dt.T] at hpd ⊢
          simp only [show ¬ (7 : Int) = 1 by decide, show ¬ (7 : Int) = 2 by decide, show ¬ (7 : Int) = 3 by decide, show ¬ (7 : Int) = 4 by decide, show ¬ (7 : Int) = 5 by decide, show ¬ (7 : Int) = 6 by decide, if_false, if_true, Bool.and_eq_true] at hpd ⊢
          exact ⟨⟨⟨⟨decide_eq_true (by omega), hpd.1.1.1.2⟩, hpd.1.1.2⟩, hpd.1.2⟩, hpd.2⟩
      have hcr : chk (.mk k n s m r t) = 0 := chk_rest hc hp
      have hcons : consD a (.mk k n s m r t) = .mk k n s m (a :: r) t := by unfold consD; exact if_pos hk
      rw [hcdr, hcons]
      refine ⟨?_, rfl, fun h1 h2 => absurd ⟨h1, h2⟩ h7⟩
      unfold consE
      rw [if_neg (by simp [hca]), if_neg (by simp [hcr]), hcons]
      exact hc
theorem TwoR.lo {w : World} {B : Nat} {er : Int} {d : Dt} {e : Ending} {w' : World} (h : TwoR w (Lo B) er d e w') (hB : B ≤ w.heap.size) :
    ∃ v', e = .returned (.tuple #[v', .int .i64 er]) ∧ Below w.heap.size w w' ∧ (er ≠ 0 → v' = zeroV) ∧ (er = 0 → IsDt w' (Lo w'.heap.size) d v') := by
  obtain ⟨v', he, hb, h1, h2⟩ := h
  refine ⟨v', he, hb, h1, fun h0 => (h2 h0).more fun b hq => ?_⟩
  have := hb.size
  rcases hq with h | ⟨h1, h2⟩
  · have h1 : b < B := h
    show b < w'.heap.size
    omega
  · exact h2
end Go.Proofs.Ytapnighankepjaa.Da
