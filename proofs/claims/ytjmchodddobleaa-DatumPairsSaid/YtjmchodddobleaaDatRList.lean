/- The document's List. -/
import Derived.Test.YtjmchodddobleaaDatRCons
namespace Go.Proofs.Ytjmchodddobleaa.Da
open Go.ChangeShapes Go.WideShapes Go.ChangeAt Go.RowKit
set_option maxRecDepth 100000

/-- append of data to nothing. -/
theorem append_new {w : World} {B : Nat} {al : Option Addr} {cl : Nat} {l : List Dt} (ty : TypeId) (hs : IsSl al l.length cl) (hl : IsDts w (Lo B) al 0 l) (hB : B ≤ w.heap.size) :
    ∃ a' c' w', (Builtin.append_ #[23, 23] ty #[.slice none 0 0, .slice al l.length cl]).run Try.prog w = .ok (.slice a' l.length c') w' ∧ Below w.heap.size w w' ∧ IsSl a' l.length c' ∧ IsDts w' (Nw w w' (Lo B)) a' 0 l := by
  obtain ⟨i0, hi, hz0, hz1, hz2⟩ := info_parts datum_info
  cases al with
  | none =>
    have h0 := hs.2.2.2 rfl
    have hl0 : l.length = 0 := by have := hs.1; omega
    subst h0
    obtain rfl := List.eq_nil_of_length_eq_zero hl0
    exact ⟨none, 0, w, run_append_owned_none (P := Try.prog) (w := w) w.heap.size 23 ty 25 i0 6 Try.underlying23 hi _ 0 [] (World.ownsRow_nil _ _ _ _), Below.refl _ _, ⟨Nat.le_refl _, by simp [maxLen], by simp, fun _ => rfl⟩, by simp only [IsDts]⟩
  | some ad =>
    obtain ⟨news, hnl, hnews, hone⟩ := dts_cells hl
    obtain ⟨v', w', hr, ho, hg, hiff⟩ := run_append_own (P := Try.prog) w w.heap.size 23 ty 25 i0 _ 6 104 Try.underlying23 hi hz0 hz1 hz2 rfl (by omega) (.slice none 0 0) 0 [] (World.ownsRow_nil _ _ _ _) ad l.length cl news hnl hnews hone (by have := hs.1; have := hs.2.1; omega) (by have := hs.2.2.1; omega) (Nat.le_refl _)
    have hbel : Below w.heap.size w w' := ⟨hg.os, hg.tape, hg.output, hg.size, fun k hk => hg.block k hk (fun e => by cases e)⟩
    rw [Nat.zero_add] at ho
    by_cases hv : v' = .slice none 0 0
    · have hm0 := (hiff.1 hv).2
      obtain rfl := List.eq_nil_of_length_eq_zero hm0
      subst hv
      exact ⟨none, 0, w', hr, hbel, ⟨Nat.le_refl _, by simp [maxLen], by simp, fun _ => rfl⟩, by simp only [IsDts]⟩
    · obtain ⟨g, cap, rfl, hbg, hlt, hnc, hcm⟩ := own_form ho hv
      refine ⟨_, cap, w', hr, hbel, ⟨hnc, hcm, hs.2.2.1, fun h => by cases h⟩, IsDts.of_at fun k d hd => ?_⟩
      have hk : k < l.length := (List.getElem?_eq_some_iff.1 hd).1
      obtain ⟨b, off, x0, x1, x2, x3, x4, x5, he, hb, hx, hdt⟩ := hl.at_ k d hd
      injection he with he
      subst he
      have hc : ∀ r u, r < 6 → w.cell? ⟨b, off + (0 + k) * 6 + r, none⟩ = some u → w'.cell? ⟨g, 0 + (0 + k) * 6 + r, none⟩ = some u := fun r u hr6 hu => by
        rw [ho.cellAt _ (by omega)]
        have hj : (0 + (0 + k) * 6 + r) < news.length := by omega
        have h2 := hnews (0 + (0 + k) * 6 + r) _ (List.getElem?_eq_getElem hj)
        rw [add_plain, show off + (0 + (0 + k) * 6 + r) = off + (0 + k) * 6 + r by omega, hu] at h2
        rw [List.nil_append, List.getElem?_eq_getElem hj, h2]
      obtain ⟨e0, e1, e2, e3, e4, e5⟩ := hx
      refine ⟨g, 0, x0, x1, x2, x3, x4, x5, rfl, .inr ⟨hbg, hlt⟩, ⟨hc 0 _ (by omega) e0, hc 1 _ (by omega) e1, hc 2 _ (by omega) e2, hc 3 _ (by omega) e3, hc 4 _ (by omega) e4, hc 5 _ (by omega) e5⟩, ?_⟩
      exact IsDt.keep (fun b hb => .inl hb) (fun b o hb => hbel.cell (p := ⟨b, o, none⟩) (Nat.lt_of_lt_of_le hb hB)) _ _ hdt
set_option maxHeartbeats 2000000 in
theorem rlist_any (al : Option Addr) (cl : Nat) (l : List Dt) (B : Nat) (w : World) (hs : IsSl al l.length cl) (hl : IsDts w (Lo B) al 0 l) (hB : B ≤ w.heap.size) :
    Calls Try.prog 37 #[.slice al l.length cl] w fun e w' => ∃ v', e = .returned v' ∧ Below w.heap.size w w' ∧ IsDt w' (Lo w'.heap.size) (listD l) v' := by
  obtain ⟨a', c', w', hrun, hbel, hs', hl'⟩ := append_new 23 hs (hl.below ((bel_alloc w (.cells #[.int .i64 0, .int .i64 0, .string ⟨#[]⟩, .slice none 0 0, .slice none 0 0, .slice none 0 0] 25)).mono hB)) (by simp; omega)
  have gz : Blk w' w.heap.size 25 #[.int .i64 0, .int .i64 0, .string ⟨#[]⟩, .slice none 0 0, .slice none 0 0, .slice none 0 0] := (hbel.block _ (by simp)).trans (heap_alloc_new w _)
  have hlz := gz.lt
  have z0 : w'.cell? ⟨w.heap.size, 0, none⟩ = some (.int .i64 0) := (gz.cell 0).trans rfl
  have f0 := gz.frozen 0
  have z1 : w'.cell? ⟨w.heap.size, 1, none⟩ = some (.int .i64 0) := (gz.cell 1).trans rfl
  have f1 := gz.frozen 1
  have z2 : w'.cell? ⟨w.heap.size, 2, none⟩ = some (.string ⟨#[]⟩) := (gz.cell 2).trans rfl
  have f2 := gz.frozen 2
  have z3 : w'.cell? ⟨w.heap.size, 3, none⟩ = some (.slice none 0 0) := (gz.cell 3).trans rfl
  have f3 := gz.frozen 3
  have z4 : w'.cell? ⟨w.heap.size, 4, none⟩ = some (.slice none 0 0) := (gz.cell 4).trans rfl
  have f4 := gz.frozen 4
  have z5 : w'.cell? ⟨w.heap.size, 5, none⟩ = some (.slice none 0 0) := (gz.cell 5).trans rfl
  have f5 := gz.frozen 5
  have HB := Lib.hid ((bel_alloc w _).trans (hbel.mono (by simp)))
  have HS := Lib.hid (And.intro hs' hl')
  have Hrun := Lib.hid hrun
  clear hrun hbel hs' hl' gz hs hl
  go_enter Try.func37, Try.ntmps37
  go_wp2_with (at_builtin; refine wpList_append_run rfl _ _ _ rfl _ _ _ rfl rfl Hrun.out ?_)
  refine bodyPost_ret (v := .agg #[.int .i64 6, .int .i64 0, .string ⟨#[]⟩, .slice none 0 0, .slice a' l.length c', .slice none 0 0]) ?_ rfl ?_
  · simp [results, Try.results37, go_sem, z0, z1, z2, z3, z4, z5]
  · have hf6 := set6_fr w' w.heap.size 0 (.int .i64 6) (.int .i64 0) (.string ⟨#[]⟩) (.slice none 0 0) (.slice a' l.length c') (.slice none 0 0)
    refine ⟨_, rfl, HB.out.trans (hf6.below HB.out.size (fun i hi h => by omega)), ?_⟩
    have hsz := hf6.size
    unfold listD
    simp only [IsDt]
    refine ⟨rfl, rfl, by show (0 : Nat) ≤ _; exact Nat.zero_le _, none, 0, a', c', none, 0, rfl, ⟨rfl, Nat.le_refl _, by simp [maxLen], by simp, fun _ => rfl, by simp, fun k hk => absurd hk (Nat.not_lt_zero _)⟩, HS.out.1, ?_, ⟨Nat.le_refl _, by simp [maxLen], by simp, fun _ => rfl⟩, by simp only [IsDts]⟩
    refine IsDts.keep (fun b hb => ?_) (fun b o hb => ?_) _ _ _ HS.out.2
    · rcases hb with hb | hb
      · have h1 : b < B := hb
        have := HB.out.size
        refine Nat.lt_of_lt_of_le ?_ hsz
        omega
      · have := hb.2
        refine Nat.lt_of_lt_of_le ?_ hsz
        omega
    · rcases hb with hb | hb
      · have h1 : b < B := hb
        have := HB.out.size
        exact hf6.cell (p := ⟨b, o, none⟩) (by show b < _; omega) (by show ¬ b = _; omega)
      · have h1 := hb.1
        simp at h1
        exact hf6.cell (p := ⟨b, o, none⟩) hb.2 (by show ¬ b = _; omega)
end Go.Proofs.Ytjmchodddobleaa.Da
