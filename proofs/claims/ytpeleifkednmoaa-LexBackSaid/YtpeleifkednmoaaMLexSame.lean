/- Whether two rows of words are the same (layer 3), the document's function: at rows that are. -/
import Derived.Test.YtpeleifkednmoaaMLexAwake
section
namespace Go.Proofs.Ytpeleifkednmoaa.Lx
open Go.ChangeShapes Go.WideShapes Go.ChangeAt Go.RowKit
set_option linter.unusedVariables false

/-- A slice that reads as these words. -/
def TkIs (w : World) (a : Option Addr) (l : List Tk) : Prop :=
  l = [] ∨ ∃ g o, a = some ⟨g, o, none⟩ ∧ ∀ i (h : i < l.length), w.cell? ⟨g, o + i * 5, none⟩ = some (.int .i64 l[i].k) ∧ w.cell? ⟨g, o + i * 5 + 1, none⟩ = some (.int .i64 l[i].a) ∧ w.cell? ⟨g, o + i * 5 + 2, none⟩ = some (.int .i64 l[i].z) ∧ w.cell? ⟨g, o + i * 5 + 3, none⟩ = some (.int .i64 l[i].n) ∧ w.cell? ⟨g, o + i * 5 + 4, none⟩ = some (.string ⟨l[i].S.toArray⟩)
theorem cellsV_at : ∀ (l : List Tk) (i : Nat) (h : i < l.length) (j : Nat) (hj : j < 5), (cellsV l)[i * 5 + j]? = l[i].cells[j]?
  | t :: r, 0, h, j, hj => by
    rw [cellsV, List.flatMap_cons, List.getElem?_append_left (by show 0 * 5 + j < 5; omega)]
    simp
  | t :: r, i + 1, h, j, hj => by
    rw [cellsV, List.flatMap_cons, List.getElem?_append_right (by show 5 ≤ _; omega)]
    have := cellsV_at r i (by simpa using h) j hj
    rw [show (i + 1) * 5 + j - t.cells.length = i * 5 + j from by show _ - 5 = _; omega]
    exact this
theorem TkIs.of_own {w : World} {B : Nat} {a : Option Addr} {c : Nat} {l : List Tk} (h : w.ownsRow B 26 5 (.slice a l.length c) l.length (cellsV l)) : TkIs w a l := by
  by_cases h0 : l = []
  · exact .inl h0
  · obtain ⟨g, ha, _, hc⟩ := own_some h (List.length_pos_iff.2 h0)
    refine .inr ⟨g, 0, ha, fun i hi => ?_⟩
    simp only [Nat.zero_add]
    refine ⟨hc (i * 5 + 0) _ ?_, hc (i * 5 + 1) _ ?_, hc (i * 5 + 2) _ ?_, hc (i * 5 + 3) _ ?_, hc (i * 5 + 4) _ ?_⟩
    all_goals
      rw [cellsV_at l i hi _ (by decide)]
      rfl
theorem TkIs.bel {w w' : World} {a : Option Addr} {l : List Tk} (h : TkIs w a l) (hb : Below w.heap.size w w') : TkIs w' a l := by
  rcases h with h | ⟨g, o, ha, hc⟩
  · exact .inl h
  · refine .inr ⟨g, o, ha, fun i hi => ?_⟩
    obtain ⟨c0, c1, c2, c3, c4⟩ := hc i hi
    have hl : g < w.heap.size := by
      rcases Nat.lt_or_ge g w.heap.size with hh | hh
      · exact hh
      · unfold World.cell? at c0
        rw [Array.getElem?_eq_none hh] at c0
        cases c0
    exact ⟨(hb.cell (p := ⟨g, _, none⟩) hl).trans c0, (hb.cell (p := ⟨g, _, none⟩) hl).trans c1, (hb.cell (p := ⟨g, _, none⟩) hl).trans c2, (hb.cell (p := ⟨g, _, none⟩) hl).trans c3, (hb.cell (p := ⟨g, _, none⟩) hl).trans c4⟩
def SameAt (n : Nat) (w : World) (i : Value) (wr : World) : Prop := ∃ k m : Nat, k ≤ n ∧ i = .int .i64 (k : Int) ∧ wr = w.drewN m
set_option maxRecDepth 100000 in
set_option maxHeartbeats 2000000 in
theorem same_yes (l : List Tk) (a b : Option Addr) (ca cb : Nat) (w : World) (ha : TkIs w a l) (hb : TkIs w b l) (hl : l.length ≤ 140737488351232) :
    Calls Try.prog 12 #[.slice a l.length ca, .slice b l.length cb] w fun e w' => e = .returned (.bool true) ∧ ∃ n, w' = w.drewN n := by
  have d0 : ((l.length : Int) != (l.length : Int)) = false := by simp
  go_enter Try.func12, Try.ntmps12
  go_wp2_with fail
  go_loopw [5] (fun i wr => SameAt l.length w i wr) (fun i _ => l.length - (intOf i).toNat)
  case atStart => exact ⟨0, 0, Nat.zero_le _, rfl, rfl⟩
  case round =>
    obtain ⟨k, m, hk, rfl, rfl⟩ := hrel
    by_cases hlt : k < l.length
    · have dl : decide ((k : Int) < (l.length : Int)) = true := by simp [hlt]
      have hne : l ≠ [] := fun e => by rw [e] at hlt; exact absurd hlt (by simp)
      rcases ha with h | ⟨g, o, rfl, hc⟩
      · exact absurd h hne
      rcases hb with h | ⟨g', o', rfl, hc'⟩
      · exact absurd h hne
      obtain ⟨c0, c1, c2, c3, c4⟩ := hc k hlt
      obtain ⟨e0, e1, e2, e3, e4⟩ := hc' k hlt
      have i1 : (k : Int) < (l.length : Int) := by omega
      clear hc hc'
      generalize l[k] = t at *
      obtain ⟨tk, ta, tz, tn, tS⟩ := t
      simp only at c0 c1 c2 c3 c4 e0 e1 e2 e3 e4
      go_wp2_with fail
      go_quiet (fail)
      go_wp2_with fail
      go_roundw
      case rel => exact ⟨k + 1, _, hlt, by go_num, rfl⟩
      case measure => simp [intOf]; omega
    · have dl : decide ((k : Int) < (l.length : Int)) = false := by simp [hlt]
      go_wp2_with fail
      go_ret
      exact ⟨rfl, m, rfl⟩
theorem same_bel (l : List Tk) (a b : Option Addr) (ca cb : Nat) (w : World) (ha : TkIs w a l) (hb : TkIs w b l) (hl : l.length ≤ 140737488351232) :
    Calls Try.prog 12 #[.slice a l.length ca, .slice b l.length cb] w fun e w' => e = .returned (.bool true) ∧ Below w.heap.size w w' :=
  (same_yes l a b ca cb w ha hb hl).mono fun e w' ⟨h, n, hn⟩ => ⟨h, by rw [hn]; exact bel_drewN w n⟩
/- Words without their places. -/
def Tk.bare (t : Tk) : Tk := ⟨t.k, 0, 0, t.n, t.S⟩
theorem TkIs.cells {w : World} {a : Option Addr} {l : List Tk} (h : TkIs w a l) (h0 : l ≠ []) : ∃ ad, a = some ad ∧ ∀ j u, (cellsV l)[j]? = some u → w.cell? (ad.add j) = some u := by
  rcases h with h | ⟨g, o, ha, hc⟩
  · exact absurd h h0
  · refine ⟨_, ha, fun j u hu => ?_⟩
    have hj : j < l.length * 5 := by
      have := (List.getElem?_eq_some_iff.1 hu).1
      rwa [cellsV_len] at this
    have hi : j / 5 < l.length := by omega
    have hr : j % 5 < 5 := Nat.mod_lt _ (by decide)
    have hx := cellsV_at l (j / 5) hi (j % 5) hr
    rw [show j / 5 * 5 + j % 5 = j by omega, hu] at hx
    rw [show (⟨g, o, none⟩ : Addr).add j = ⟨g, o + j, none⟩ by unfold Addr.add; split <;> simp_all]
    obtain ⟨c0, c1, c2, c3, c4⟩ := hc (j / 5) hi
    have h5 : j % 5 = 0 ∨ j % 5 = 1 ∨ j % 5 = 2 ∨ j % 5 = 3 ∨ j % 5 = 4 := by omega
    rcases h5 with h | h | h | h | h <;> rw [h] at hx
    · rw [show o + j = o + j / 5 * 5 by omega, c0]; exact hx.symm
    · rw [show o + j = o + j / 5 * 5 + 1 by omega, c1]; exact hx.symm
    · rw [show o + j = o + j / 5 * 5 + 2 by omega, c2]; exact hx.symm
    · rw [show o + j = o + j / 5 * 5 + 3 by omega, c3]; exact hx.symm
    · rw [show o + j = o + j / 5 * 5 + 4 by omega, c4]; exact hx.symm
theorem cellsV_one (l : List Tk) : ∀ u ∈ cellsV l, u.oneCell' = true := by
  intro u hu
  rw [cellsV, List.mem_flatMap] at hu
  obtain ⟨t, _, hu⟩ := hu
  simp only [Tk.cells, List.mem_cons, List.not_mem_nil, or_false] at hu
  rcases hu with rfl | rfl | rfl | rfl | rfl <;> simp [Value.oneCell']
theorem bare_step (p : List Tk) (t : Tk) (r : List Tk) : ((cellsV (p ++ t :: r)).set (p.length * 5 + 1) (.int .i64 0)).set (p.length * 5 + 2) (.int .i64 0) = cellsV (p ++ t.bare :: r) := by
  have e : ∀ x : Tk, cellsV (p ++ x :: r) = cellsV p ++ (x.cells ++ cellsV r) := fun x => by simp [cellsV]
  rw [e, e, List.set_append_right _ _ (by rw [cellsV_len]; omega), cellsV_len, List.set_append_right _ _ (by rw [cellsV_len]; omega), cellsV_len]
  rw [show p.length * 5 + 1 - p.length * 5 = 1 by omega, show p.length * 5 + 2 - p.length * 5 = 2 by omega]
  rfl
theorem own_form {w : World} {B : Nat} {e : TypeId} {sz : Nat} {v : Value} {n : Nat} {xs : List Value} (h : w.ownsRow B e sz v n xs) (hn : 0 < n) : ∃ g c, v = .slice (some ⟨g, 0, none⟩) n c := by
  rcases h.2 with ⟨rfl, h0⟩ | ⟨g, cap, cur, rfl, _⟩
  · omega
  · exact ⟨_, _, rfl⟩
def BareAt (l : List Tk) (w : World) (g c : Nat) (i : Value) (wr : World) : Prop :=
  ∃ (p r : List Tk), l = p ++ r ∧ i = .int .i64 (p.length : Int) ∧ wr.ownsRow w.heap.size 26 5 (.slice (some ⟨g, 0, none⟩) l.length c) l.length (cellsV (p.map Tk.bare ++ r)) ∧ Below w.heap.size w wr
/-- Words of the call's own. -/
def RowR (l : List Tk) (w : World) (e : Ending) (w' : World) : Prop := ∃ a c, e = .returned (.slice a l.length c) ∧ Below w.heap.size w w' ∧ w'.ownsRow w.heap.size 26 5 (.slice a l.length c) l.length (cellsV l)
set_option maxRecDepth 100000 in
set_option maxHeartbeats 2000000 in
theorem bare_any (l : List Tk) (a : Option Addr) (ca : Nat) (w : World) (ha : TkIs w a l) (hl : l.length ≤ 10000) (h0 : l ≠ []) :
    Calls Try.prog 13 #[.slice a l.length ca] w (RowR (l.map Tk.bare) w) := by
  obtain ⟨ad, rfl, hcells⟩ := ha.cells h0
  obtain ⟨i0, hi, hz0, hz1, hz2⟩ := info_parts tok_info
  have HH := Lib.hid (And.intro hcells (cellsV_one l))
  have hpos : 0 < l.length := List.length_pos_iff.2 h0
  clear hcells ha h0
  have hcl : (cellsV l).length = l.length * 5 := cellsV_len l
  have HC := Lib.hid hcl
  clear hcl
  go_enter Try.func13, Try.ntmps13
  go_wp2_with (at_builtin; refine wpList_append_own _ rfl (.const (.slice none 0 0)) (.tmp 5) 22 rfl w.heap.size 26 i0 (.agg #[.int .i64 0, .int .i64 0, .int .i64 0, .int .i64 0, .string ⟨#[]⟩]) 5 48 Try.underlying22 hi hz0 hz1 hz2 rfl (by omega) _ 0 [] rfl (World.ownsRow_nil _ _ _ _) ad l.length ca (cellsV l) rfl HC.out HH.out.1 HH.out.2 (by simp only [maxLen]; omega) (by omega) (Nat.le_refl _) ?_; intro v' w1 hown1 hg1 _; simp only [Nat.zero_add, List.nil_append] at hown1; obtain ⟨g, c, rfl⟩ := own_form hown1 hpos)
  have HO := Lib.hid hown1
  have hb1 : Below w.heap.size w w1 := (Below.refl _ _).grown hg1 (Nat.le_refl _) (fun k h => by cases h)
  have HB := Lib.hid hb1
  have hgB := (hown1.lt g rfl).1
  clear hown1 hg1 hb1
  go_loopw [9] (fun i wr => BareAt l w g c i wr) (fun i _ => l.length - (intOf i).toNat)
  case atStart => exact ⟨[], l, rfl, rfl, HO.out, HB.out⟩
  case round =>
    clear HO HB
    obtain ⟨p, r, hpr, rfl, hown, hbel⟩ := hrel
    have hll : l.length = p.length + r.length := by rw [hpr, List.length_append]
    have Hpr := Lib.hid hpr
    have HB := Lib.hid hbel
    clear hpr hbel
    cases r with
    | nil =>
      have hpl : p.length = l.length := by rw [hll]; rfl
      have dl : decide ((p.length : Int) < (l.length : Int)) = false := by simp; omega
      have HO := Lib.hid hown
      have HP := Lib.hid hpl
      have hnl : ¬ p.length < l.length := by omega
      clear hown hll hpl
      go_wp2_with fail
      go_ret
      have hml : (l.map Tk.bare).length = l.length := List.length_map _
      have hpp : p.map Tk.bare ++ [] = l.map Tk.bare := by rw [Hpr.out, List.append_nil, List.append_nil]
      refine ⟨some ⟨g, 0, none⟩, c, by rw [hml]; rfl, HB.out, ?_⟩
      rw [hml, ← hpp]
      exact HO.out
    | cons t r =>
      have hlt : p.length < l.length := by rw [hll, List.length_cons]; omega
      have dl : decide ((p.length : Int) < (l.length : Int)) = true := by simp [hlt]
      have hpm : (p.map Tk.bare).length = p.length := List.length_map _
      have hx := cellsV_at (p.map Tk.bare ++ t :: r) p.length (by rw [List.length_append, hpm, List.length_cons]; omega)
      have hc1 : wr.cell? ⟨g, p.length * 5 + 1, none⟩ = some (.int .i64 t.a) := by
        rw [hown.cellAt _ (by omega), hx 1 (by decide)]
        simp [Tk.cells, hpm]
      have hc2 : wr.cell? ⟨g, p.length * 5 + 2, none⟩ = some (.int .i64 t.z) := by
        rw [hown.cellAt _ (by omega), hx 2 (by decide)]
        simp [Tk.cells, hpm]
      have hf1 := hown.frozenAt (p.length * 5 + 1)
      have hf2 := hown.frozenAt (p.length * 5 + 2)
      have hs := (((hown.stored (p.length * 5 + 1) (.int .i64 0)).1).stored (p.length * 5 + 2) (.int .i64 0)).1
      have hbs := bare_step (p.map Tk.bare) t r
      rw [hpm] at hbs
      rw [hbs] at hs
      have HS := Lib.hid hs
      have i1 : (p.length : Int) < (l.length : Int) := by omega
      have hll2 : (l.length : Int) ≤ 10000 := by omega
      clear hown hx hs hbs hpm hll
      go_wp2_with fail
      go_roundw
      case rel =>
        refine ⟨p ++ [t], r, by rw [Hpr.out, List.append_assoc]; rfl, by rw [List.length_append]; go_num, ?_, (HB.out.setCell hgB _).setCell hgB _⟩
        rw [List.map_append, List.append_assoc]
        exact HS.out
      case measure => simp [intOf]; omega
end Go.Proofs.Ytpeleifkednmoaa.Lx
end
