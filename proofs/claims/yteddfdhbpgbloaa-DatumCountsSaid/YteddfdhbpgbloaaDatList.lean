/- The list of some data: what the program returns. -/
import Derived.Test.YteddfdhbpgbloaaDatCdr
import Derived.Laws.MakeOwn
import Derived.Deep.RegionHeld3
namespace Go.Proofs.Yteddfdhbpgbloaa.Da
open Go.ChangeShapes Go.WideShapes Go.ChangeAt Go.RowKit

def listD (l : List Dt) : Dt := .mk 6 0 ⟨#[]⟩ [] l []
/-- Between two rounds: k elements are copied into the new row. -/
structure ListIn (W1 : World) (Q : Nat → Prop) (l : List Dt) (g k : Nat) (wr : World) : Prop where
  fr : Fr (fun i => i = g) W1 wr
  fz : ∀ j, wr.frozen? ⟨g, j, none⟩ = false
  there : ∀ j, j < l.length * 6 → ∃ u, wr.cell? ⟨g, j, none⟩ = some u
  done : ∀ j d, j < k → l[j]? = some d → ∃ x0 x1 x2 x3 x4 x5, Six wr g (j * 6) x0 x1 x2 x3 x4 x5 ∧ IsDt wr (fun b => Q b ∨ (g < b ∧ b < wr.heap.size)) d (.agg #[x0, x1, x2, x3, x4, x5])
theorem list_step {W1 wr X w2 : World} {Q : Nat → Prop} {l : List Dt} {g k : Nat} {d : Dt} {y0 y1 y2 y3 y4 y5 : Value} (hQ : ∀ b, Q b → b < g) (hgs : g < W1.heap.size) (hd : l[k]? = some d) (h : ListIn W1 Q l g k wr) (hX : Below wr.heap.size wr X) (hf : Below X.heap.size X w2)
    (hi : IsDt w2 (Nw X w2 Q) d (.agg #[y0, y1, y2, y3, y4, y5])) : ListIn W1 Q l g (k + 1) (set6 w2 g (k * 6) y0 y1 y2 y3 y4 y5) := by
  have hk : k < l.length := (List.getElem?_eq_some_iff.1 hd).1
  have hgr : g < wr.heap.size := Nat.lt_of_lt_of_le hgs h.fr.size
  have q1 : ∀ g' o', (g' ≠ g ∨ o' < k * 6 ∨ k * 6 + 6 ≤ o') → (set6 w2 g (k * 6) y0 y1 y2 y3 y4 y5).cell? ⟨g', o', none⟩ = w2.cell? ⟨g', o', none⟩ := fun g' o' h => set6_ne _ _ _ _ _ _ _ _ _ _ _ h
  have q2 := set6_six w2 g (k * 6) y0 y1 y2 y3 y4 y5
  have q3 := set6_frozen w2 g (k * 6) y0 y1 y2 y3 y4 y5
  have q4 := set6_fr w2 g (k * 6) y0 y1 y2 y3 y4 y5
  have s6 := set6_size w2 g (k * 6) y0 y1 y2 y3 y4 y5
  generalize set6 w2 g (k * 6) y0 y1 y2 y3 y4 y5 = W6 at *
  have hsX := hX.size
  have hs2 := hf.size
  have hw : Below wr.heap.size wr w2 := hX.trans (hf.mono hsX)
  have cg : ∀ j, w2.cell? ⟨g, j, none⟩ = wr.cell? ⟨g, j, none⟩ := fun j => hw.cell (p := ⟨g, j, none⟩) hgr
  have six : Six W6 g (k * 6) y0 y1 y2 y3 y4 y5 := q2 fun r hr => by
    obtain ⟨u, hu⟩ := h.there (k * 6 + r) (by omega)
    exact ⟨u, by rw [cg, hu]⟩
  refine ⟨(h.fr.trans (Fr.of_bel hw _)).trans q4, fun j => by rw [q3, hw.frozen (p := ⟨g, j, none⟩) hgr]; exact h.fz j, fun j hj => ?_, fun j d' hj hd' => ?_⟩
  · by_cases hin : k * 6 ≤ j ∧ j < k * 6 + 6
    · obtain ⟨r, rfl⟩ : ∃ r, j = k * 6 + r := ⟨j - k * 6, by omega⟩
      obtain ⟨c0, c1, c2, c3, c4, c5⟩ := six
      have hr : r < 6 := by omega
      match r, hr with
      | 0, _ => exact ⟨_, c0⟩
      | 1, _ => exact ⟨_, c1⟩
      | 2, _ => exact ⟨_, c2⟩
      | 3, _ => exact ⟨_, c3⟩
      | 4, _ => exact ⟨_, c4⟩
      | 5, _ => exact ⟨_, c5⟩
    · obtain ⟨u, hu⟩ := h.there j hj
      exact ⟨u, by rw [q1 _ _ (by omega), cg, hu]⟩
  · by_cases hjk : j < k
    · obtain ⟨x0, x1, x2, x3, x4, x5, ⟨e0, e1, e2, e3, e4, e5⟩, hdt⟩ := h.done j d' hjk hd'
      refine ⟨x0, x1, x2, x3, x4, x5, ⟨(q1 _ _ (by omega)).trans ((cg _).trans e0), (q1 _ _ (by omega)).trans ((cg _).trans e1), (q1 _ _ (by omega)).trans ((cg _).trans e2), (q1 _ _ (by omega)).trans ((cg _).trans e3), (q1 _ _ (by omega)).trans ((cg _).trans e4), (q1 _ _ (by omega)).trans ((cg _).trans e5)⟩,
        IsDt.keep (fun b hb => ?_) (fun b o' hb => ?_) d' _ hdt⟩
      · rcases hb with hb | ⟨hb1, hb2⟩
        · exact .inl hb
        · exact .inr ⟨hb1, by omega⟩
      · rcases hb with hb | ⟨hb1, hb2⟩
        · have := hQ b hb
          exact (q1 _ _ (.inl (by omega))).trans (hw.cell (p := ⟨b, o', none⟩) (by show b < wr.heap.size; omega))
        · exact (q1 _ _ (.inl (by omega))).trans (hw.cell (p := ⟨b, o', none⟩) hb2)
    · obtain rfl : j = k := by omega
      obtain rfl : d = d' := by rw [hd] at hd'; injection hd'
      refine ⟨y0, y1, y2, y3, y4, y5, six, IsDt.keep (fun b hb => ?_) (fun b o' hb => ?_) d _ hi⟩
      · rcases hb with hb | ⟨hb1, hb2⟩
        · exact .inl hb
        · exact .inr ⟨by omega, by omega⟩
      · refine q1 _ _ (.inl ?_)
        rcases hb with hb | ⟨hb1, hb2⟩
        · have := hQ b hb
          omega
        · omega
theorem start3 (w : World) (xs ys zs : Array Value) (t1 t2 t3 : TypeId) :
    Below w.heap.size w (((w.alloc (.cells xs t1)).alloc (.cells ys t2)).alloc (.cells zs t3)) ∧ (((w.alloc (.cells xs t1)).alloc (.cells ys t2)).alloc (.cells zs t3)).heap.size = w.heap.size + 3 ∧
    Blk (((w.alloc (.cells xs t1)).alloc (.cells ys t2)).alloc (.cells zs t3)) w.heap.size t1 xs ∧ Blk (((w.alloc (.cells xs t1)).alloc (.cells ys t2)).alloc (.cells zs t3)) (w.heap.size + 1) t2 ys ∧
    Blk (((w.alloc (.cells xs t1)).alloc (.cells ys t2)).alloc (.cells zs t3)) (w.heap.size + 2) t3 zs := by
  have a0 := heap_alloc_new w (.cells xs t1)
  have a1 := heap_alloc_new (w.alloc (.cells xs t1)) (.cells ys t2)
  have a2 := heap_alloc_new ((w.alloc (.cells xs t1)).alloc (.cells ys t2)) (.cells zs t3)
  simp only [World.size_alloc, Nat.add_assoc, Nat.reduceAdd] at a1 a2
  refine ⟨((bel_alloc w _).alloc (by simp) _).alloc (by simp; omega) _, by simp [Nat.add_assoc], ?_, ?_, a2⟩
  · unfold Blk; rw [Below.heap_alloc _ _ _ (by simp; omega), Below.heap_alloc _ _ _ (by simp)]; exact a0
  · unfold Blk; rw [Below.heap_alloc _ _ _ (by simp)]; exact a1
theorem alloc6 (w : World) (x0 x1 x2 x3 x4 x5 : Value) (t : TypeId) : Six (w.alloc (.cells #[x0, x1, x2, x3, x4, x5] t)) w.heap.size 0 x0 x1 x2 x3 x4 x5 := by
  have h : Blk (w.alloc (.cells #[x0, x1, x2, x3, x4, x5] t)) w.heap.size t #[x0, x1, x2, x3, x4, x5] := heap_alloc_new w _
  exact ⟨(h.cell 0).trans rfl, (h.cell 1).trans rfl, (h.cell 2).trans rfl, (h.cell 3).trans rfl, (h.cell 4).trans rfl, (h.cell 5).trans rfl⟩
def ListAt (W1 : World) (Q : Nat → Prop) (l : List Dt) (g : Nat) (i : Value) (wr : World) : Prop := ∃ k : Nat, k ≤ l.length ∧ i = .int .i64 (k : Int) ∧ ListIn W1 Q l g k wr
/-- One datum comes back. -/
def OneR (w0 : World) (Q : Nat → Prop) (d : Dt) (e : Ending) (w' : World) : Prop := ∃ v', e = .returned v' ∧ Below w0.heap.size w0 w' ∧ IsDt w' (Nw w0 w' Q) d v'
theorem list_end {w W1 wr Wf : World} {B N : Nat} {l : List Dt} (hB : B ≤ w.heap.size) (hN : w.heap.size = N) (hs : W1.heap.size = N + 3) (hb : Below w.heap.size w W1) (h3 : l.length * 104 ≤ 140737488351232) (h : ListIn W1 (Lo B) l (N + 1) l.length wr) (hw : Fr (fun i => i = N) wr Wf) :
    OneR w (Lo B) (listD l) (.returned (.agg #[.int .i64 6, .int .i64 0, .string ⟨#[]⟩, .slice none 0 0, .slice (some ⟨N + 1, 0, none⟩) l.length l.length, .slice none 0 0])) Wf := by
  have s1 := h.fr.size
  have sf := hw.size
  have hbw : Below w.heap.size w wr := hb.trans (h.fr.below (by omega) (fun i hi e => by omega))
  refine ⟨_, rfl, hbw.trans (hw.below hbw.size (fun i hi e => by omega)), ?_⟩
  unfold listD
  simp only [IsDt]
  refine ⟨rfl, rfl, by show (0 : Nat) ≤ _; exact Nat.zero_le _, none, 0, _, _, none, 0, rfl, ⟨rfl, Nat.le_refl _, by simp [maxLen], by simp, fun _ => rfl, by simp, fun k hk => absurd hk (Nat.not_lt_zero _)⟩, ⟨Nat.le_refl _, by simp only [maxLen]; omega, h3, fun e => by cases e⟩, IsDts.of_at (fun j d hd => ?_), ⟨Nat.le_refl _, by simp [maxLen], by simp, fun _ => rfl⟩, by simp only [IsDts]⟩
  obtain ⟨x0, x1, x2, x3, x4, x5, hx, hi⟩ := h.done j d (List.getElem?_eq_some_iff.1 hd).1 hd
  refine ⟨N + 1, 0, x0, x1, x2, x3, x4, x5, rfl, .inr ⟨by omega, by omega⟩, by simpa using hx.keep (w' := Wf) (fun o => hw.cell (p := ⟨N + 1, o, none⟩) (by show N + 1 < wr.heap.size; omega) (by show ¬ N + 1 = N; omega)), IsDt.keep (fun b hb => ?_) (fun b o hb => ?_) d _ hi⟩
  · rcases hb with hb | ⟨hb1, hb2⟩
    · exact .inl hb
    · exact .inr ⟨by omega, by omega⟩
  · rcases hb with hb | ⟨hb1, hb2⟩
    · have : b < B := hb
      exact hw.cell (p := ⟨b, o, none⟩) (by show b < wr.heap.size; omega) (by show ¬ b = N; omega)
    · exact hw.cell (p := ⟨b, o, none⟩) hb2 (by show ¬ b = N; omega)
set_option maxRecDepth 100000 in
set_option maxHeartbeats 2000000 in
theorem list_any (a : Option Addr) (cap : Nat) (l : List Dt) (B : Nat) (w : World) (hsl : IsSl a l.length cap) (hd : IsDts w (Lo B) a 0 l) (hB : B ≤ w.heap.size) :
    Calls Try.prog 34 #[.slice a l.length cap] w (OneR w (Lo B) (listD l)) := by
  obtain ⟨s1, s2, s3, _⟩ := hsl
  unfold maxLen at s2
  obtain ⟨i0, hi, hz0, hz1, hz2⟩ := info_parts datum_info
  have hmk0 := fun W : World => run_make (P := Try.prog) W 23 25 i0 _ Try.underlying23 hi hz0 .i64 .i64 (l.length : Int) (l.length : Int) (by omega) (by omega) (by rw [hz2]; omega) (by omega)
  have hsz := size_madeCells (Value.cells (.agg #[.int .i64 0, .int .i64 0, .string ByteArray.empty, .slice none 0 0, .slice none 0 0, .slice none 0 0])) (l.length * 6)
  simp only [Int.toNat_natCast, hz1] at hmk0
  generalize madeCells (Value.cells (.agg #[.int .i64 0, .int .i64 0, .string ByteArray.empty, .slice none 0 0, .slice none 0 0, .slice none 0 0])) (l.length * 6) = Mk at *
  have Hd := Lib.hid hd
  have Hsz := Lib.hid hsz
  clear hd hsz hi hz0 hz1 hz2
  have hmk := hmk0
  clear hmk0
  go_enter Try.func34, Try.ntmps34
  go_wp2_with fail
  obtain ⟨hb, hs, b0, b1, b2⟩ := start3 w #[.int .i64 0, .int .i64 0, .string ⟨#[]⟩, .slice none 0 0, .slice none 0 0, .slice none 0 0] Mk #[.int .i64 6, .int .i64 0, .string ⟨#[]⟩, .slice none 0 0, .slice (some ⟨w.heap.size + 1, 0, none⟩) l.length l.length, .slice none 0 0] 25 25 25
  generalize (((w.alloc (.cells #[.int .i64 0, .int .i64 0, .string ⟨#[]⟩, .slice none 0 0, .slice none 0 0, .slice none 0 0] 25)).alloc (.cells Mk 25)).alloc (.cells #[.int .i64 6, .int .i64 0, .string ⟨#[]⟩, .slice none 0 0, .slice (some ⟨w.heap.size + 1, 0, none⟩) l.length l.length, .slice none 0 0] 25)) = W1 at *
  obtain ⟨N, hN⟩ : ∃ N, w.heap.size = N := ⟨_, rfl⟩
  rw [hN] at hs b0 b1 b2 ⊢
  have hin : ListIn W1 (Lo B) l (N + 1) 0 W1 := ⟨Fr.refl _ _, fun j => b1.frozen j, fun j hj => ⟨Mk[j]'(by rw [Hsz.out]; exact hj), by rw [b1.cell]; simp [Hsz.out, hj]⟩, fun j d hj => by omega⟩
  have Hin := Lib.hid hin
  have Hb := Lib.hid hb
  have Hs := Lib.hid hs
  have B0 := Lib.hid b0
  have B2 := Lib.hid b2
  have HN := Lib.hid hN
  have hBN : B ≤ N := by omega
  clear hin hb hs b0 b1 b2 hN hmk
  go_loopw [12] (fun i wr => ListAt W1 (Lo B) l (N + 1) i wr) (fun i _ => l.length - (intOf i).toNat)
  case atStart => exact ⟨0, Nat.zero_le _, rfl, Hin.out⟩
  case round =>
    obtain ⟨k, hk, rfl, hr⟩ := hrel
    have Hr := Lib.hid hr
    have hsr : N + 3 ≤ wr.heap.size := by have := hr.fr.size; have := Hs.out; omega
    have b2r := B2.out.fr hr.fr (by show ¬ N + 2 = N + 1; omega) (by have := Hs.out; omega)
    by_cases hlk : k < l.length
    · have dl : decide ((k : Int) < (l.length : Int)) = true := by simp [hlk]
      obtain ⟨x, hx⟩ : ∃ x, l[k]? = some x := ⟨l[k], by simp [hlk]⟩
      obtain ⟨b', off, am, cm, al, cl, at_, ct, rfl, hb', hsix, hix⟩ := Hd.out.at6 k x hx
      have hbr : Below B w wr := (Hb.out.mono hB).trans (hr.fr.below (by have := Hs.out; omega) (fun i hi h => by omega))
      obtain ⟨c0, c1, c2, c3, c4, c5⟩ := hsix.keep (w' := wr) (fun o => hbr.cell (p := ⟨b', o, none⟩) hb')
      have hl4 : wr.cell? ⟨N + 2, 4, none⟩ = some (.slice (some ⟨N + 1, 0, none⟩) l.length l.length) := (b2r.cell 4).trans rfl
      have hN2 : N + 2 < wr.heap.size := by omega
      have k0 : (0 : Int) ≤ (k : Int) := Int.natCast_nonneg _
      have k1 : (k : Int) < (l.length : Int) := by omega
      have Hx := Lib.hid hx
      have Hix := Lib.hid hix
      have Hbr := Lib.hid hbr
      clear hr b2r hx hix hbr hsix
      go_wp2_with fail
      have xs := alloc6 wr (.int .i64 x.K) (.int .i64 x.N) (.string x.S) (.slice am x.M.length cm) (.slice al x.L.length cl) (.slice at_ x.T.length ct) 25
      have hXl : (wr.alloc (.cells #[.int .i64 x.K, .int .i64 x.N, .string x.S, .slice am x.M.length cm, .slice al x.L.length cl, .slice at_ x.T.length ct] 25)).cell? ⟨N + 2, 4, none⟩ = some (.slice (some ⟨N + 1, 0, none⟩) l.length l.length) := ((bel_alloc wr _).cell (p := ⟨N + 2, 4, none⟩) hN2).trans hl4
      have hXs : (wr.alloc (.cells #[.int .i64 x.K, .int .i64 x.N, .string x.S, .slice am x.M.length cm, .slice al x.L.length cl, .slice at_ x.T.length ct] 25)).heap.size = wr.heap.size + 1 := by simp
      have hXb : Below wr.heap.size wr (wr.alloc (.cells #[.int .i64 x.K, .int .i64 x.N, .string x.S, .slice am x.M.length cm, .slice al x.L.length cl, .slice at_ x.T.length ct] 25)) := bel_alloc _ _
      generalize (wr.alloc (.cells #[.int .i64 x.K, .int .i64 x.N, .string x.S, .slice am x.M.length cm, .slice al x.L.length cl, .slice at_ x.T.length ct] 25)) = X at *
      obtain ⟨x0, x1, x2, x3, x4, x5⟩ := xs
      have hne1 : N + 1 ≠ wr.heap.size := by omega
      have HXs := Lib.hid hXs
      have HXb := Lib.hid hXb
      clear hXs hXb c0 c1 c2 c3 c4 c5 hl4
      go_region_held3 (fun w' => w'.cell? ⟨N + 2, 4, none⟩ = some (.slice (some ⟨N + 1, 0, none⟩) l.length l.length) ∧ w'.cell? ⟨wr.heap.size, 0, none⟩ = some (.int .i64 x.K) ∧ w'.cell? ⟨wr.heap.size, 1, none⟩ = some (.int .i64 x.N) ∧ w'.cell? ⟨wr.heap.size, 2, none⟩ = some (.string x.S) ∧ w'.cell? ⟨wr.heap.size, 3, none⟩ = some (.slice am x.M.length cm) ∧ w'.cell? ⟨wr.heap.size, 4, none⟩ = some (.slice al x.L.length cl) ∧ w'.cell? ⟨wr.heap.size, 5, none⟩ = some (.slice at_ x.T.length ct)) (first | (with_reducible exact ⟨q, p0, p1, p2, p3, p4, p5⟩) | go_keep)
        (first
          | (go_at_call 39
             refine (own_any x _ B _ (by exact IsDt.keep (w := w) (w' := World.drew X) (fun _ h => h) (fun b o hb => (HXb.out.cell (p := ⟨b, o, none⟩) (by show b < wr.heap.size; have : b < B := hb; omega)).trans (Hbr.out.cell (p := ⟨b, o, none⟩) hb)) x _ Hix.out) (by show B ≤ X.heap.size; have := HXs.out; omega)).mono ?_
             rintro e w2 ⟨v', rfl, hb2, hi2, _⟩
             have hi' := hi2
             obtain ⟨am2, cm2, al2, cl2, at2, ct2, rfl, _⟩ := hi'.open_
             have hb2' : Below X.heap.size X w2 := ⟨hb2.os, hb2.tape, hb2.output, hb2.size, hb2.block⟩
             have hi3 : IsDt w2 (Nw X w2 (Lo B)) x (.agg #[.int .i64 x.K, .int .i64 x.N, .string x.S, .slice am2 x.M.length cm2, .slice al2 x.L.length cl2, .slice at2 x.T.length ct2]) := hi2
             have q := (hb2'.cell (p := ⟨N + 2, 4, none⟩) (by show N + 2 < X.heap.size; have := HXs.out; omega)).trans hXl
             have p0 := (hb2'.cell (p := ⟨wr.heap.size, 0, none⟩) (by show wr.heap.size < X.heap.size; have := HXs.out; omega)).trans x0
             have p1 := (hb2'.cell (p := ⟨wr.heap.size, 1, none⟩) (by show wr.heap.size < X.heap.size; have := HXs.out; omega)).trans x1
             have p2 := (hb2'.cell (p := ⟨wr.heap.size, 2, none⟩) (by show wr.heap.size < X.heap.size; have := HXs.out; omega)).trans x2
             have p3 := (hb2'.cell (p := ⟨wr.heap.size, 3, none⟩) (by show wr.heap.size < X.heap.size; have := HXs.out; omega)).trans x3
             have p4 := (hb2'.cell (p := ⟨wr.heap.size, 4, none⟩) (by show wr.heap.size < X.heap.size; have := HXs.out; omega)).trans x4
             have p5 := (hb2'.cell (p := ⟨wr.heap.size, 5, none⟩) (by show wr.heap.size < X.heap.size; have := HXs.out; omega)).trans x5
             have hw2 : Below wr.heap.size wr w2 := HXb.out.trans (hb2'.mono HXb.out.size)
             have hth : ∀ r, r < 6 → ∃ u, w2.cell? ⟨N + 1, k * 6 + r, none⟩ = some u := fun r hr => by
               obtain ⟨u, hu⟩ := Hr.out.there (k * 6 + r) (by omega)
               exact ⟨u, (hw2.cell (p := ⟨N + 1, k * 6 + r, none⟩) (by show N + 1 < wr.heap.size; omega)).trans hu⟩
             have hfz : ∀ j, w2.frozen? ⟨N + 1, j, none⟩ = false := fun j => (hw2.frozen (p := ⟨N + 1, j, none⟩) (by show N + 1 < wr.heap.size; omega)).trans (Hr.out.fz j)
             obtain ⟨u0, g0'⟩ := hth 0 (by omega)
             have g0 : w2.cell? ⟨N + 1, k * 6, none⟩ = some u0 := g0'
             clear g0'
             obtain ⟨u1, g1⟩ := hth 1 (by omega)
             obtain ⟨u2, g2⟩ := hth 2 (by omega)
             obtain ⟨u3, g3⟩ := hth 3 (by omega)
             obtain ⟨u4, g4⟩ := hth 4 (by omega)
             obtain ⟨u5, g5⟩ := hth 5 (by omega)
             have z0 := hfz (k * 6)
             have z1 := hfz (k * 6 + 1)
             have z2 := hfz (k * 6 + 2)
             have z3 := hfz (k * 6 + 3)
             have z4 := hfz (k * 6 + 4)
             have z5 := hfz (k * 6 + 5)
             have Hb2 := Lib.hid hb2'
             have Hi2 := Lib.hid hi3
             clear hb2 hb2' hi2 hi3 hi' hw2 hth hfz))
      go_wp2_with fail
      go_roundw
      case rel => exact ⟨k + 1, by omega, by go_num, list_step (fun b hb => by have : b < B := hb; omega) (by have := Hs.out; omega) Hx.out Hr.out HXb.out Hb2.out Hi2.out⟩
      case measure => simp [intOf]; omega
    · obtain rfl : k = l.length := by omega
      have dl : decide ((l.length : Int) < (l.length : Int)) = false := by simp
      have b0r := B0.out.fr hr.fr (by show ¬ N = N + 1; omega) (by have := Hs.out; omega)
      have hc2 := b2r.cell
      have e0 : wr.cell? ⟨N + 2, 0, none⟩ = some (.int .i64 6) := (b2r.cell 0).trans rfl
      have e1 : wr.cell? ⟨N + 2, 1, none⟩ = some (.int .i64 0) := (b2r.cell 1).trans rfl
      have e2 : wr.cell? ⟨N + 2, 2, none⟩ = some (.string ⟨#[]⟩) := (b2r.cell 2).trans rfl
      have e3 : wr.cell? ⟨N + 2, 3, none⟩ = some (.slice none 0 0) := (b2r.cell 3).trans rfl
      have e4 : wr.cell? ⟨N + 2, 4, none⟩ = some (.slice (some ⟨N + 1, 0, none⟩) l.length l.length) := (b2r.cell 4).trans rfl
      have e5 : wr.cell? ⟨N + 2, 5, none⟩ = some (.slice none 0 0) := (b2r.cell 5).trans rfl
      have y0 : wr.cell? ⟨N, 0, none⟩ = some (.int .i64 0) := (b0r.cell 0).trans rfl
      have y1 : wr.cell? ⟨N, 1, none⟩ = some (.int .i64 0) := (b0r.cell 1).trans rfl
      have y2 : wr.cell? ⟨N, 2, none⟩ = some (.string ⟨#[]⟩) := (b0r.cell 2).trans rfl
      have y3 : wr.cell? ⟨N, 3, none⟩ = some (.slice none 0 0) := (b0r.cell 3).trans rfl
      have y4 : wr.cell? ⟨N, 4, none⟩ = some (.slice none 0 0) := (b0r.cell 4).trans rfl
      have y5 : wr.cell? ⟨N, 5, none⟩ = some (.slice none 0 0) := (b0r.cell 5).trans rfl
      have v0 := b0r.frozen 0
      have v1 := b0r.frozen 1
      have v2 := b0r.frozen 2
      have v3 := b0r.frozen 3
      have v4 := b0r.frozen 4
      have v5 := b0r.frozen 5
      clear hr b0r b2r hc2
      go_wp2_with fail
      refine bodyPost_ret (v := .agg #[.int .i64 6, .int .i64 0, .string ⟨#[]⟩, .slice none 0 0, .slice (some ⟨N + 1, 0, none⟩) l.length l.length, .slice none 0 0]) ?_ rfl ?_
      · simp [results, Try.results34, go_sem, y0, y1, y2, y3, y4, y5]
      · exact list_end hB HN.out Hs.out Hb.out s3 Hr.out (set6_fr wr N 0 _ _ _ _ _ _)
end Go.Proofs.Yteddfdhbpgbloaa.Da
