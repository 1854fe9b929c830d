/- A slice of data copied in new memory: what the program's closure returns. -/
import Derived.Test.YteddfdhbpgbloaaDatEachStep
import Derived.LoopTactic
namespace Go.Proofs.Yteddfdhbpgbloaa.Da
open Go.ChangeShapes Go.WideShapes Go.ChangeAt Go.RowKit

def EachAt (w0 W1 : World) (Q : Nat → Prop) (c : Nat) (l : List Dt) (g : Nat) (ad : Addr) (bl : Nat) (i : Value) (wr : World) : Prop := ∃ k : Nat, k ≤ l.length ∧ i = .int .i64 (k : Int) ∧ EachIn w0 W1 Q c l g ad bl k wr
theorem src_cells {w : World} {Q : Nat → Prop} {ad : Addr} {l : List Dt} (h : IsDts w Q (some ad) 0 l) : ∀ j, j < l.length * 6 → ∃ u, w.cell? (ad.add j) = some u ∧ u.oneCell' = true := by
  intro j hj
  obtain ⟨b, off, am, cm, al, cl, at_, ct, he, _, ⟨h0, h1, h2, h3, h4, h5⟩, _⟩ := h.at6 (j / 6) (l[j / 6]'(by omega)) (by simp)
  injection he with he
  subst he
  rw [add_plain]
  have e : off + j = off + j / 6 * 6 + j % 6 := by omega
  have hr : j % 6 < 6 := Nat.mod_lt _ (by omega)
  rw [e]
  generalize j % 6 = r at hr
  match r, hr with
  | 0, _ => exact ⟨_, h0, rfl⟩
  | 1, _ => exact ⟨_, h1, rfl⟩
  | 2, _ => exact ⟨_, h2, rfl⟩
  | 3, _ => exact ⟨_, h3, rfl⟩
  | 4, _ => exact ⟨_, h4, rfl⟩
  | 5, _ => exact ⟨_, h5, rfl⟩
/-- The element that is next, as it lies in the new row. -/
theorem EachIn.next {w0 W1 wr : World} {Q : Nat → Prop} {c : Nat} {l : List Dt} {g : Nat} {ad : Addr} {bl k : Nat} {d : Dt} (h : EachIn w0 W1 Q c l g ad bl k wr) (hd : l[k]? = some d) (hs : IsDts w0 Q (some ad) 0 l)
    (hq : ∀ b, Q b → ∀ o, wr.cell? ⟨b, o, none⟩ = w0.cell? ⟨b, o, none⟩) :
    ∃ am cm al cl at_ ct, Six wr g (k * 6) (.int .i64 d.K) (.int .i64 d.N) (.string d.S) (.slice am d.M.length cm) (.slice al d.L.length cl) (.slice at_ d.T.length ct) ∧
      IsDt wr Q d (.agg #[.int .i64 d.K, .int .i64 d.N, .string d.S, .slice am d.M.length cm, .slice al d.L.length cl, .slice at_ d.T.length ct]) := by
  have hk : k < l.length := (List.getElem?_eq_some_iff.1 hd).1
  obtain ⟨b, off, am, cm, al, cl, at_, ct, he, hb, ⟨h0, h1, h2, h3, h4, h5⟩, hi⟩ := hs.at6 k d hd
  injection he with he
  subst he
  refine ⟨am, cm, al, cl, at_, ct, ⟨?_, ?_, ?_, ?_, ?_, ?_⟩, IsDt.keep (fun _ h => h) (fun b o hb => hq b hb o) d _ hi⟩
  · rw [h.rest _ (by omega) (by omega), add_plain]; exact h0
  · rw [h.rest _ (by omega) (by omega), add_plain, ← Nat.add_assoc]; exact h1
  · rw [h.rest _ (by omega) (by omega), add_plain, ← Nat.add_assoc]; exact h2
  · rw [h.rest _ (by omega) (by omega), add_plain, ← Nat.add_assoc]; exact h3
  · rw [h.rest _ (by omega) (by omega), add_plain, ← Nat.add_assoc]; exact h4
  · rw [h.rest _ (by omega) (by omega), add_plain, ← Nat.add_assoc]; exact h5
theorem each_end {w W1 wr : World} {Q : Nat → Prop} {c : Nat} {l : List Dt} {g cap' : Nat} {ad : Addr} {bl : Nat} (hg1 : w.heap.size ≤ g) (hg2 : g < W1.heap.size) (hnc : l.length ≤ cap') (hcm : cap' ≤ 2 ^ 63 - 1)
    (hs3 : l.length * 104 ≤ 140737488351232) (hbel : Below w.heap.size w W1) (h : EachIn w W1 Q c l g ad bl l.length wr) : EachR w Q c l bl (.returned (.slice (some ⟨g, 0, none⟩) l.length cap')) wr := by
  have hsz := h.fr.size
  have hbx := h.bx
  have hown := h.own
  rw [List.take_length] at hbx hown
  refine ⟨_, _, rfl, ?_, hbx, ⟨hnc, hcm, hs3, fun h => by cases h⟩, IsDts.of_at (fun j d hd => ?_), fun hle => ⟨.inr ⟨g, rfl, hg1, by omega, hnc, hcm, hs3, h.fz⟩, hown hle⟩⟩
  · exact (Fr.of_bel hbel (fun i => i = bl)).trans' h.fr (fun i hi hlt => by
      rcases hi with hi | hi
      · exact hi
      · omega)
  · obtain ⟨x0, x1, x2, x3, x4, x5, hx, hi⟩ := h.done j d (List.getElem?_eq_some_iff.1 hd).1 hd
    refine ⟨g, 0, x0, x1, x2, x3, x4, x5, rfl, .inr ⟨hg1, by omega⟩, by simpa using hx, hi.more fun b hb => ?_⟩
    rcases hb with hb | hb
    · exact .inl hb
    · exact .inr ⟨by omega, hb.2⟩
theorem each_nil (Q : Nat → Prop) (bl c : Nat) (w : World) (hb : LBox w bl c) :
    Calls Try.prog 72 #[.slice none 0 0, .pointer (some ⟨bl + 1, 0, none⟩)] w (EachR w Q c [] bl) := by
  have HB := Lib.hid hb
  clear hb
  have heq := fun W : World => Lib.run_eql_slice_nil (P := Try.prog) W 23 25 none 0 0 0 0 Try.underlying23
  have hcl : Calls Try.prog 73 #[.slice none 0 0] w fun e w' => e = .returned (.slice none 0 0) ∧ w = w' := by
    go_enter Try.func73, Try.ntmps73
    go_wp2_with fail
    go_ret
    exact ⟨rfl, rfl⟩
  clear heq
  have Hcl := Lib.hid hcl
  clear hcl
  go_enter Try.func72, Try.ntmps72
  go_wp2_with (go_at_call 73; refine Hcl.out.mono ?_; rintro e w' ⟨rfl, rfl⟩)
  go_loop [10] (fun i => i = .int .i64 0) (fun _ => 0)
  case atStart => rfl
  case round =>
    subst hrel
    go_wp2_with fail
    go_ret
    exact ⟨none, 0, rfl, Fr.refl _ _, by simpa [cntL] using HB.out, ⟨Nat.le_refl _, by simp [maxLen], by simp, fun _ => rfl⟩, by simp only [IsDts], fun _ => ⟨.inl ⟨rfl, rfl, rfl⟩, by simp only [OwnDts]⟩⟩
set_option maxHeartbeats 1000000 in
theorem each_some (Q : Nat → Prop) (bl c : Nat) (ad : Addr) (l : List Dt) (cap : Nat) (w : World) (hQ : ∀ b, Q b → b < bl) (ih : ∀ d ∈ l, OwnVis Q bl d) (hc : c ≤ 4096) (hsl : IsSl (some ad) l.length cap) (hs : IsDts w Q (some ad) 0 l) (hb : LBox w bl c) :
    Calls Try.prog 72 #[.slice (some ad) l.length cap, .pointer (some ⟨bl + 1, 0, none⟩)] w (EachR w Q c l bl) := by
  obtain ⟨hs1, hs2, hs3, _⟩ := hsl
  have hlt := hb.lt
  have hclone := clone_dat ad l.length cap w hs3 (src_cells hs) (by
    rcases Nat.eq_zero_or_pos l.length with h0 | h0
    · exact .inr h0
    · obtain ⟨b, off, am, cm, al, cl, at_, ct, he, hb', _⟩ := hs.at6 0 (l[0]'h0) (by simp)
      injection he with he
      subst he
      exact .inl (by show b < _; have := hQ b hb'; omega))
  have HQ := Lib.hid hQ
  have Ih := Lib.hid ih
  have Hs := Lib.hid hs
  have HB := Lib.hid hb
  have Hclone := Lib.hid hclone
  unfold maxLen at hs2
  clear hQ ih hs hb hclone
  go_enter Try.func72, Try.ntmps72
  go_wp2_with fail
  refine Hclone.out.mono ?_
  rintro e W1 ⟨g, cap', rfl, hg1, hg2, hnc, hcm, hcells, hfz, hbel⟩
  have hglt : bl + 2 < g := by omega
  have hin : EachIn w W1 Q c l g ad bl 0 W1 := ⟨Fr.refl _ _, by simpa [cntL] using HB.out.bel hbel, hfz, fun j d hj => by omega, fun j _ hj => hcells j hj, fun _ => by simp only [List.take_zero, OwnDts]⟩
  have Hin := Lib.hid hin
  have Hbel := Lib.hid hbel
  have HW := Lib.hid hbel.size
  clear hin hbel hcells hfz
  unfold maxLen at hcm
  go_wp2_with fail
  go_loopw [10] (fun i wr => EachAt w W1 Q c l g ad bl i wr) (fun i _ => l.length - (intOf i).toNat)
  case atStart => exact ⟨0, Nat.zero_le _, rfl, Hin.out⟩
  case round =>
    obtain ⟨k, hk, rfl, hr⟩ := hrel
    have Hr := Lib.hid hr
    by_cases hlk : k < l.length
    · have dl : decide ((k : Int) < (l.length : Int)) = true := by simp [hlk]
      obtain ⟨d, hd⟩ : ∃ d, l[k]? = some d := ⟨l[k], by simp [hlk]⟩
      have hqk : ∀ b, Q b → ∀ o, wr.cell? ⟨b, o, none⟩ = w.cell? ⟨b, o, none⟩ := fun b hq o => by
        have h1 := HQ.out b hq
        exact (hr.fr.cell (p := ⟨b, o, none⟩) (by show b < _; have := HW.out; omega) (by show ¬ (b = bl ∨ b = g); omega)).trans (Hbel.out.cell (p := ⟨b, o, none⟩) (by show b < _; omega))
      obtain ⟨am, cm, al, cl, at_, ct, ⟨c0, c1, c2, c3, c4, c5⟩, hdt⟩ := hr.next hd Hs.out hqk
      have cv := hr.bx.c1
      have hwl := hr.bx.lt
      have hgl : g < wr.heap.size := Nat.lt_of_lt_of_le hg2 hr.fr.size
      have hb1 : bl + 1 < wr.heap.size := by omega
      have Hd := Lib.hid hd
      have Hdt := Lib.hid hdt
      clear hr hd hqk hdt
      go_wp2_with fail
      refine (Ih.out d (by exact List.mem_of_getElem? Hd.out) (c - cntL (l.take k)) _ _ (by omega) (by exact IsDt.keep (fun _ h => h) (fun b o hb => (bel_alloc wr _).cell (p := ⟨b, o, none⟩) (by have := HQ.out b hb; show b < _; omega)) d _ Hdt.out) (by exact Hr.out.bx.bel (bel_alloc _ _))).mono ?_
      rintro e w2 ⟨v', rfl, hf, hbx, hi, ho⟩
      have hi' := hi
      obtain ⟨am', cm', al', cl', at', ct', rfl, _⟩ := hi'.open_
      have hg2' : ∀ j, w2.cell? ⟨g, j, none⟩ = wr.cell? ⟨g, j, none⟩ := fun j => (hf.cell (p := ⟨g, j, none⟩) (by simp; omega) (by show ¬ g = bl; omega)).trans ((bel_alloc wr _).cell (p := ⟨g, j, none⟩) hgl)
      have hz2' : ∀ j, w2.frozen? ⟨g, j, none⟩ = false := fun j => ((hf.frozen (p := ⟨g, j, none⟩) (by simp; omega) (by show ¬ g = bl; omega)).trans ((bel_alloc wr _).frozen (p := ⟨g, j, none⟩) hgl)).trans (Hr.out.fz j)
      have d0 := (hg2' _).trans c0
      have d1 := (hg2' _).trans c1
      have d2 := (hg2' _).trans c2
      have d3 := (hg2' _).trans c3
      have d4 := (hg2' _).trans c4
      have d5 := (hg2' _).trans c5
      have z0 := hz2' (k * 6)
      have z1 := hz2' (k * 6 + 1)
      have z2 := hz2' (k * 6 + 2)
      have z3 := hz2' (k * 6 + 3)
      have z4 := hz2' (k * 6 + 4)
      have z5 := hz2' (k * 6 + 5)
      have Hf := Lib.hid hf
      have Hbx := Lib.hid hbx
      have Hi := Lib.hid hi
      have Ho := Lib.hid ho
      clear hf hbx hi hi' ho hg2' hz2' c0 c1 c2 c3 c4 c5 cv
      go_wp2_with fail
      go_roundw
      case rel => exact ⟨k + 1, by omega, by go_num, each_step _ HQ.out hglt hg2 (fun j hj => by obtain ⟨u, hu, _⟩ := src_cells Hs.out j hj; exact ⟨u, hu⟩) Hd.out Hr.out Hf.out Hbx.out Hi.out Ho.out⟩
      case measure => simp [intOf]; omega
    · obtain rfl : k = l.length := by omega
      have dl : decide ((l.length : Int) < (l.length : Int)) = false := by simp
      have hend := each_end hg1 hg2 hnc hcm hs3 Hbel.out hr
      have Hend := Lib.hid hend
      clear hr hend
      go_wp2_with fail
      go_ret
      exact Hend.out
theorem each_any (Q : Nat → Prop) (bl : Nat) (hQ : ∀ b, Q b → b < bl) (l : List Dt) (ih : ∀ d ∈ l, OwnVis Q bl d) (c : Nat) (a : Option Addr) (cap : Nat) (w : World) (hc : c ≤ 4096) (hsl : IsSl a l.length cap) (hs : IsDts w Q a 0 l) (hb : LBox w bl c) :
    Calls Try.prog 72 #[.slice a l.length cap, .pointer (some ⟨bl + 1, 0, none⟩)] w (EachR w Q c l bl) := by
  cases a with
  | none =>
    obtain ⟨h1, _, _, h4⟩ := hsl
    have h0 := h4 rfl
    obtain rfl := List.eq_nil_of_length_eq_zero (l := l) (by omega)
    subst h0
    exact each_nil Q bl c w hb
  | some ad => exact each_some Q bl c ad l cap w hQ ih hc hsl hs hb
end Go.Proofs.Yteddfdhbpgbloaa.Da
