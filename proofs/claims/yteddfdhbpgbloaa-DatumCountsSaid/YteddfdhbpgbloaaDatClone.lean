/- A slice of data in new memory: what slices.Clone returns at slices of data, and at slices of marks. -/
import Derived.Test.YteddfdhbpgbloaaDatRead
import Derived.Test.YteddfdhbpgbloaaShelf
import Derived.Test.YteddfdhbpgbloaaRows
import Derived.OwnWalk
import Derived.Laws.OwnMore
import Derived.WalkSpells
namespace Go.Proofs.Yteddfdhbpgbloaa.Da
open Go.ChangeShapes Go.WideShapes Go.ChangeAt Go.RowKit

theorem datum_info : (Try.prog.info? 25).map (fun i => (i.zero, i.size, i.bytes)) = some (some (.agg #[.int .i64 0, .int .i64 0, .string ByteArray.empty, .slice none 0 0, .slice none 0 0, .slice none 0 0]), 6, 104) := by kernel_rfl
/-- A copy of a slice's cells in a row of its own. -/
def CloneP (w : World) (ad : Addr) (n : Nat) (e : Ending) (w' : World) : Prop :=
  ∃ g cap, e = .returned (.slice (some ⟨g, 0, none⟩) n cap) ∧ w.heap.size ≤ g ∧ g < w'.heap.size ∧ n ≤ cap ∧ cap ≤ maxLen ∧ (∀ j, j < n * 6 → w'.cell? ⟨g, j, none⟩ = w.cell? (ad.add j)) ∧ (∀ j, w'.frozen? ⟨g, j, none⟩ = false) ∧ Below w.heap.size w w'
theorem own_form {w : World} {base : Nat} {e : TypeId} {size : Nat} {v : Value} {n : Nat} {xs : List Value} (h : w.ownsRow base e size v n xs) (hv : v ≠ .slice none 0 0) :
    ∃ g cap, v = .slice (some ⟨g, 0, none⟩) n cap ∧ base ≤ g ∧ g < w.heap.size ∧ n ≤ cap ∧ cap ≤ maxLen := by
  rcases h.2 with ⟨h0, _⟩ | ⟨g, cap, cur, hv, hb, hg, hc, hm, _⟩
  · exact absurd h0 hv
  · refine ⟨g, cap, hv, hb, ?_, hc, hm⟩
    rcases Nat.lt_or_ge g w.heap.size with hlt | hge
    · exact hlt
    · rw [Array.getElem?_eq_none hge] at hg; cases hg
theorem own_lit_ge (w : World) (k : Nat) (hk : (Value.slice (some ⟨w.heap.size, 0, none⟩) 0 0).ownBlock = some k) : w.heap.size ≤ k := by
  have : w.heap.size = k := by simpa [Value.ownBlock] using hk
  omega
theorem clone_dat (ad : Addr) (n c : Nat) (w : World) (hn : n * 104 ≤ 140737488351232) (hc : ∀ j, j < n * 6 → ∃ u, w.cell? (ad.add j) = some u ∧ u.oneCell' = true) (hlt : ad.block < w.heap.size ∨ n = 0) :
    Calls Try.prog 73 #[.slice (some ad) n c] w (CloneP w ad n) := by
  obtain ⟨i0, hi, hz0, hz1, hz2⟩ := info_parts datum_info
  have heq := fun W : World => Lib.run_eql_slice_nil (P := Try.prog) W 23 25 (some ad) n c 0 0 Try.underlying23
  obtain ⟨news, hl, hnews, h1⟩ : ∃ news : List Value, news.length = n * 6 ∧ (∀ j u, news[j]? = some u → w.cell? (ad.add j) = some u) ∧ ∀ u ∈ news, u.oneCell' = true := by
    refine ⟨(List.range (n * 6)).map fun j => (w.cell? (ad.add j)).getD undef, by simp, fun j u hu => ?_, fun u hu => ?_⟩
    · simp only [List.getElem?_map, Option.map_eq_some_iff] at hu
      obtain ⟨x, hx, hu⟩ := hu
      obtain ⟨hj, hx⟩ := List.getElem?_eq_some_iff.1 hx
      rw [List.getElem_range] at hx
      subst hx
      rw [List.length_range] at hj
      obtain ⟨y, hy, _⟩ := hc j hj
      rw [hy] at hu
      rw [hy, ← hu]
      rfl
    · simp only [List.mem_map, List.mem_range] at hu
      obtain ⟨j, hj, hu⟩ := hu
      obtain ⟨y, hy, hy1⟩ := hc j hj
      rw [hy] at hu
      rw [← hu]
      exact hy1
  have hnews2 : ∀ j u, news[j]? = some u → (w.alloc (.cells #[] 25)).cell? (ad.add j) = some u := fun j u hu => by
    have hj : j < n * 6 := by rw [← hl]; exact (List.getElem?_eq_some_iff.1 hu).1
    refine ((bel_alloc w _).cell ?_).trans (hnews j u hu)
    have : (ad.add j).block = ad.block := by unfold Addr.add; split <;> rfl
    rw [this]
    rcases hlt with h | h
    · exact h
    · omega
  have hcell : ∀ j, j < n * 6 → news[j]? = w.cell? (ad.add j) := fun j hj => by
    have := List.getElem?_eq_getElem (l := news) (i := j) (by omega)
    rw [this, hnews j _ this]
  have hown := World.ownsRow_lit (base := w.heap.size) (e := 25) w #[] 0 (Nat.le_refl _) (by simp [maxLen]) (size := 6) rfl
  have Hown := Lib.hid hown
  have Hl := Lib.hid hl
  have Hnews := Lib.hid hnews2
  have H1 := Lib.hid h1
  have Hcell := Lib.hid hcell
  clear hown hl hnews hnews2 h1 hc hcell hlt
  go_enter Try.func73, Try.ntmps73
  go_wp2_with (at_builtin; refine wpList_append_own _ rfl (.tmp 5) (.tmp 6) _ rfl w.heap.size 25 i0 _ 6 104 Try.underlying23 hi hz0 hz1 hz2 rfl (by omega) _ 0 [] rfl Hown.out ad n c news rfl Hl.out Hnews.out H1.out (by simp only [maxLen]; omega) (by omega) (by simp) ?_; intro v1 w1 hown1 hg1 hiff)
  go_ret
  obtain ⟨g, cap, rfl, hb, hlt, hnc, hcm⟩ := own_form hown1 (fun h => by have h2 := (hiff.1 h).1; cases h2)
  rw [Nat.zero_add] at hown1 hnc ⊢
  refine ⟨g, cap, rfl, hb, hlt, hnc, hcm, fun j hj => ?_, fun j => hown1.frozenAt j, (bel_alloc w _).grown hg1 (by simp) (fun k hk => own_lit_ge w k hk)⟩
  rw [hown1.cellAt j hj, List.nil_append, Hcell.out j hj]
end Go.Proofs.Yteddfdhbpgbloaa.Da
