/- Two slices of data put together in new memory: what slices.Concat returns. -/
import Derived.Test.YteddfdhbpgbloaaDatList
import Derived.Shelf.Spec.SlicesGrow
import Derived.Laws.AppendOwnNone
namespace Go.Proofs.Yteddfdhbpgbloaa.Da
open Go.ChangeShapes Go.WideShapes Go.ChangeAt Go.RowKit

def grow_ren : Go.Shelf.Ren := ⟨fun | 4 => 108 | n => n, fun | 0 => 0 | 3 => 3 | 4 => 4 | 9 => 9 | 20 => 20 | 22 => 23 | 25 => 25 | n => n, fun | n => n⟩
theorem grow_lays : Go.Proofs.Lays8.n4 Try.prog grow_ren := {
  mixed := by kernel_rfl
  f4 := ⟨"slices.Grow[[]shuttle/api.Datum,shuttle/api.Datum]", by decide +kernel, Try.func108.trans (congrArg some (by kernel_rfl))⟩
  t0 := Try.underlying0
  a0 := Try.isAgg0
  z0 := Try.sizeOf0
  v0 := Try.zeroValue0
  t3 := Try.underlying3
  a3 := Try.isAgg3
  z3 := Try.sizeOf3
  v3 := Try.zeroValue3
  t4 := Try.underlying4
  a4 := Try.isAgg4
  z4 := Try.sizeOf4
  v4 := Try.zeroValue4
  t9 := Try.underlying9
  a9 := Try.isAgg9
  z9 := Try.sizeOf9
  v9 := Try.zeroValue9
  t20 := Try.underlying20
  a20 := Try.isAgg20
  z20 := Try.sizeOf20
  v20 := Try.zeroValue20
  t22 := Try.underlying23
  a22 := Try.isAgg23
  z22 := Try.sizeOf23
  v22 := Try.zeroValue23 }
theorem size_zeroCells (z : Array Value) (n : Nat) : (Builtin.zeroCells z n).size = n * z.size := by
  unfold Builtin.zeroCells
  simp
/-- Room for so many. -/
def GrowP (w : World) (e : Ending) (w' : World) : Prop := ∃ cap, e = .returned (.slice (some ⟨w.heap.size, 0, none⟩) 0 cap) ∧ w'.ownsRow w.heap.size 25 6 (.slice (some ⟨w.heap.size, 0, none⟩) 0 cap) 0 [] ∧ Below w.heap.size w w'
theorem grow_new (n : Nat) (nI : Int) (w : World) (hI : nI = (n : Int)) (hn : 0 < n) (hb : n * 104 ≤ 140737488355328) :
    Calls Try.prog 108 #[.slice none 0 0, .int .i64 nI] w (GrowP w) := by
  subst hI
  obtain ⟨i0, hi, hz0, hz1, hz2⟩ := info_parts datum_info
  have h := Go.Proofs.Any8.slices_Grow_grow grow_lays i0 _ hi hz0 (by rw [hz1]; omega) none 0 0 n [] w (Nat.le_refl _) (by omega) (by rw [hz2]; omega) (by omega) (by simp) (fun _ => rfl) (fun a ha => by cases ha)
  refine (Calls.mono h : _) fun e w' ⟨he, hw⟩ => ?_
  subst hw
  refine ⟨_, he, ?_, (Below.refl w.heap.size w).drew.alloc (Nat.le_refl _) _⟩
  have hge := grownCap_ge w (0 + n) 0 (grow_ren.t 25)
  have hle := grownCap_le_maxLen w (0 + n) 0 (grow_ren.t 25) (by simp only [maxLen]; omega)
  generalize grownCap w (0 + n) 0 (grow_ren.t 25) = cap at *
  refine ⟨rfl, .inr ⟨w.heap.size, cap, _, rfl, Nat.le_refl _, heap_alloc_new w.drew _, Nat.zero_le _, hle, ?_, by simp⟩⟩
  have h6 : (Value.cells (.agg #[.int .i64 0, .int .i64 0, .string ByteArray.empty, .slice none 0 0, .slice none 0 0, .slice none 0 0])).size = 6 := rfl
  simp only [Array.size_append, size_zeroCells, h6, List.size_toArray, List.length_nil]
  omega
theorem block_add (a : Addr) (n : Nat) : (a.add n).block = a.block := by unfold Addr.add; split <;> rfl
theorem own_ge {w : World} {base : Nat} {e : TypeId} {size : Nat} {v : Value} {n : Nat} {xs : List Value} (h : w.ownsRow base e size v n xs) {k : Nat} (hk : v.ownBlock = some k) : base ≤ k := by
  rcases h.2 with ⟨rfl, _⟩ | ⟨g, cap, cur, rfl, hb, _⟩
  · simp [Value.ownBlock] at hk
  · have : g = k := by simpa [Value.ownBlock] using hk
    omega
def CatAt1 (n1 : Nat) (t i : Value) : Prop := (i = .int .i64 0 ∧ t = .int .i64 0) ∨ (i = .int .i64 1 ∧ t = .int .i64 1) ∨ (i = .int .i64 2 ∧ t = .int .i64 (1 + (n1 : Int)))
/-- The two put together in a row of its own. -/
def CatR (w : World) (n1 : Nat) (news0 news1 : List Value) (e : Ending) (w' : World) : Prop :=
  ∃ g cap, e = .returned (.slice (some ⟨g, 0, none⟩) (1 + n1) cap) ∧ w.heap.size ≤ g ∧ g < w'.heap.size ∧ 1 + n1 ≤ cap ∧ cap ≤ maxLen ∧ (∀ j, j < (1 + n1) * 6 → w'.cell? ⟨g, j, none⟩ = (news0 ++ news1)[j]?) ∧ Below w.heap.size w w'
def CatAt2 (w : World) (n1 : Nat) (news0 news1 : List Value) (v i : Value) (wr : World) : Prop :=
  ((i = .int .i64 0 ∧ ∃ g cap, v = .slice (some ⟨g, 0, none⟩) 0 cap ∧ wr.ownsRow w.heap.size 25 6 v 0 []) ∨ (i = .int .i64 1 ∧ ∃ g cap, v = .slice (some ⟨g, 0, none⟩) 1 cap ∧ wr.ownsRow w.heap.size 25 6 v 1 news0) ∨
    (i = .int .i64 2 ∧ ∃ g cap, v = .slice (some ⟨g, 0, none⟩) (1 + n1) cap ∧ wr.ownsRow w.heap.size 25 6 v (1 + n1) (news0 ++ news1))) ∧ Below w.heap.size w wr
set_option maxRecDepth 100000 in
set_option maxHeartbeats 2000000 in
theorem concat_any (bs : Nat) (ad0 : Addr) (c0 : Nat) (a1 : Option Addr) (n1 c1 : Nat) (news0 news1 : List Value) (w : World) (hb : bs < w.heap.size)
    (hs0 : w.cell? ⟨bs, 0, none⟩ = some (.slice (some ad0) 1 c0)) (hs1 : w.cell? ⟨bs, 1, none⟩ = some (.slice a1 n1 c1)) (hn1 : (1 + n1) * 104 ≤ 140737488355328) (hc1 : a1 = none → n1 = 0 ∧ c1 = 0)
    (hl0 : news0.length = 1 * 6) (h0 : ∀ j u, news0[j]? = some u → w.cell? (ad0.add j) = some u) (o0 : ∀ u ∈ news0, u.oneCell' = true) (b0 : ad0.block < w.heap.size)
    (hl1 : news1.length = n1 * 6) (h1 : ∀ ad, a1 = some ad → (∀ j u, news1[j]? = some u → w.cell? (ad.add j) = some u) ∧ (ad.block < w.heap.size ∨ n1 = 0)) (o1 : ∀ u ∈ news1, u.oneCell' = true) :
    Calls Try.prog 67 #[.slice (some ⟨bs, 0, none⟩) 2 2] w (CatR w n1 news0 news1) := by
  obtain ⟨i0, hi, hz0, hz1, hz2⟩ := info_parts datum_info
  have H0 := Lib.hid h0
  have HL0 := Lib.hid hl0
  have HL1 := Lib.hid hl1
  have H1 := Lib.hid h1
  have O0 := Lib.hid o0
  have O1 := Lib.hid o1
  have S0 := Lib.hid hs0
  have S1 := Lib.hid hs1
  have HC1 := Lib.hid hc1
  clear h0 hl0 hl1 h1 o0 o1 hc1
  have hn : (n1 : Int) ≤ 17592186044416 := by omega
  go_enter Try.func67, Try.ntmps67
  go_wp2_with fail
  go_loop [3, 11] (fun t i => CatAt1 n1 t i) (fun _ i => 2 - (intOf i).toNat)
  case atStart => exact .inl ⟨rfl, rfl⟩
  case round =>
    rcases hrel with ⟨rfl, rfl⟩ | ⟨rfl, rfl⟩ | ⟨rfl, rfl⟩
    · go_wp2_with fail
      go_round
      case rel => exact .inr (.inl ⟨rfl, rfl⟩)
      case measure => simp [intOf]
    · go_wp2_with fail
      go_round
      case rel => exact .inr (.inr ⟨rfl, rfl⟩)
      case measure => simp [intOf]
    · clear hs0 hs1
      go_wp2_with fail
      refine (grow_new (1 + n1) _ w (by omega) (by omega) (by omega)).mono ?_
      rintro e w1 ⟨cap, rfl, hown, hbel⟩
      have Hown := Lib.hid hown
      have Hbel := Lib.hid hbel
      clear hown hbel
      go_wp2_with fail
      go_loopw [6, 27] (fun v i wr => CatAt2 w n1 news0 news1 v i wr) (fun _ i _ => 2 - (intOf i).toNat)
      case atStart => exact ⟨.inl ⟨rfl, _, _, rfl, Hown.out⟩, Hbel.out⟩
      case round =>
        obtain ⟨hst, hbw⟩ := hrel
        have r0 := (hbw.cell (p := ⟨bs, 0, none⟩) hb).trans S0.out
        have r1 := (hbw.cell (p := ⟨bs, 1, none⟩) hb).trans S1.out
        have Hbw := Lib.hid hbw
        clear hbw
        rcases hst with ⟨rfl, g, cap', rfl, hown⟩ | ⟨rfl, g, cap', rfl, hown⟩ | ⟨rfl, g, cap', rfl, hown⟩
        · have Ho := Lib.hid hown
          clear hown
          have hc0 : ∀ j u, news0[j]? = some u → wr.cell? (ad0.add j) = some u := fun j u hu => (Hbw.out.cell (by rw [block_add]; exact b0)).trans (H0.out j u hu)
          have HC0 := Lib.hid hc0
          clear hc0 r1
          go_wp2_with (at_builtin; refine wpList_append_own _ rfl (.tmp 31) (.tmp 32) _ rfl w.heap.size 25 i0 _ 6 104 Try.underlying23 hi hz0 hz1 hz2 rfl (by omega) _ 0 [] rfl Ho.out ad0 1 c0 news0 rfl HL0.out HC0.out O0.out (by simp only [maxLen]; omega) (by omega) Hbw.out.size ?_; intro v1 w2 hown1 hg1 hiff)
          obtain ⟨g', cap2, rfl, e1, e2, e3, e4⟩ := own_form hown1 (fun h => by have h2 := (hiff.1 h).1; cases h2)
          have hb2 := Hbw.out.grown hg1 Hbw.out.size (fun k hk => own_ge Ho.out hk)
          exact ⟨⟨.inr (.inl ⟨rfl, g', cap2, rfl, hown1⟩), hb2⟩, by simp [intOf]⟩
        · have Ho := Lib.hid hown
          clear hown r0
          cases a1 with
          | none =>
            obtain ⟨rfl, rfl⟩ := HC1.out rfl
            have hnil : news1 = [] := List.eq_nil_of_length_eq_zero HL1.out
            have Hnil := Lib.hid hnil
            clear hnil
            go_wp2_with (at_builtin; refine wpList_append_own_none rfl (.tmp 31) (.tmp 32) _ rfl w.heap.size 25 i0 6 Try.underlying23 hi _ 1 news0 rfl Ho.out rfl ?_)
            exact ⟨⟨_, _, _, ⟨.inr (.inr ⟨rfl, g, cap', rfl, by rw [Hnil.out, List.append_nil]; exact Ho.out⟩), Hbw.out⟩, rfl, rfl, rfl⟩, by simp [intOf]⟩
          | some ad =>
            have hc1 : ∀ j u, news1[j]? = some u → wr.cell? (ad.add j) = some u := fun j u hu => by
              obtain ⟨q1, q2⟩ := H1.out ad rfl
              rcases q2 with q2 | q2
              · exact (Hbw.out.cell (by rw [block_add]; exact q2)).trans (q1 j u hu)
              · have := HL1.out
                rw [q2] at this
                obtain rfl := List.eq_nil_of_length_eq_zero (by simpa using this)
                simp at hu
            have HC2 := Lib.hid hc1
            clear hc1
            go_wp2_with (at_builtin; refine wpList_append_own _ rfl (.tmp 31) (.tmp 32) _ rfl w.heap.size 25 i0 _ 6 104 Try.underlying23 hi hz0 hz1 hz2 rfl (by omega) _ 1 news0 rfl Ho.out ad n1 c1 news1 rfl HL1.out HC2.out O1.out (by simp only [maxLen]; omega) (by omega) Hbw.out.size ?_; intro v1 w2 hown1 hg1 hiff)
            obtain ⟨g', cap2, rfl, e1, e2, e3, e4⟩ := own_form hown1 (fun h => by have h2 := (hiff.1 h).1; cases h2)
            have hb2 := Hbw.out.grown hg1 Hbw.out.size (fun k hk => own_ge Ho.out hk)
            exact ⟨⟨.inr (.inr ⟨rfl, g', cap2, rfl, hown1⟩), hb2⟩, by simp [intOf]⟩
        · have Ho := Lib.hid hown
          clear hown r0 r1
          go_wp2_with fail
          go_ret
          obtain ⟨g', cap2, hv, e1, e2, e3, e4⟩ := own_form Ho.out (fun h => by cases h)
          exact ⟨g', cap2, by rw [← hv]; rfl, e1, e2, e3, e4, fun j hj => by rw [hv] at Ho; exact Ho.out.cellAt j hj, Hbw.out⟩
end Go.Proofs.Yteddfdhbpgbloaa.Da
