/- The words of a text, by definition. -/
import Derived.Test.YtpeleifkednmoaaMLexScanB
section
namespace Go.Proofs.Ytpeleifkednmoaa.Lx
open Go.ChangeShapes Go.WideShapes Go.ChangeAt Go.RowKit
set_option linter.unusedVariables false

/-- A word: kind, from, to, number, text. -/
structure Tk where
  (k a z n : Int) (S : Bs)
def Tk.cells (t : Tk) : List Value := [.int .i64 t.k, .int .i64 t.a, .int .i64 t.z, .int .i64 t.n, .string ⟨t.S.toArray⟩]
def cellsV (l : List Tk) : List Value := l.flatMap Tk.cells
theorem cellsV_len (l : List Tk) : (cellsV l).length = l.length * 5 := by
  induction l with
  | nil => rfl
  | cons t r ih => rw [cellsV, List.flatMap_cons, List.length_append, ← cellsV, ih, List.length_cons]; show 5 + _ = _; omega
theorem cellsV_snoc (l : List Tk) (t : Tk) : cellsV (l ++ [t]) = cellsV l ++ t.cells := by simp [cellsV]
def Sc.tk (R : Sc) (a : Nat) : Tk := ⟨R.k, a, ((a + R.z : Nat) : Int), R.n, R.S⟩
/-- Words, or where and what is wrong. -/
structure WR where
  (toks : List Tk) (p e : Int)
def finW (at_ : Nat) (e : Int) (acc : List Tk) : WR := if e = 0 then ⟨acc, 0, 0⟩ else ⟨[], at_, e⟩
def wordsF : Nat → Bs → Nat → Int → List Tk → WR
  | 0, _, at_, e, acc => finW at_ e acc
  | f + 1, l, at_, e, acc =>
    if at_ < l.length ∧ e = 0 then
      if acc.length = 4096 then ⟨[], at_, 3⟩
      else if (scanR (l.drop at_)).e = 0 then
        wordsF f l (at_ + (scanR (l.drop at_)).z + skipN (l.drop (at_ + (scanR (l.drop at_)).z))) (skipE (l.drop (at_ + (scanR (l.drop at_)).z))) (acc ++ [(scanR (l.drop at_)).tk at_])
      else ⟨[], at_, (scanR (l.drop at_)).e⟩
    else finW at_ e acc
def wordsR (l : Bs) : WR :=
  if (16384 : Int) < (l.length : Int) then ⟨[], 0, 3⟩ else if 0 ≤ nightI l then ⟨[], nightI l, 32⟩ else wordsF (l.length + 1) l (skipN l) (skipE l) []
theorem markF_prefix : ∀ (r : List Int) (l : Bs), markF r l ≠ 0 → Lib.hasPrefix l (markS (markF r l)) = true ∧ markF r l ∈ r
  | [], l, h => absurd rfl h
  | k :: r, l, h => by
    rw [markF] at h ⊢
    by_cases hp : Lib.hasPrefix l (markS k) = true
    · rw [if_pos hp]; exact ⟨hp, List.mem_cons_self ..⟩
    · rw [if_neg hp] at h ⊢
      have := markF_prefix r l h
      exact ⟨this.1, List.mem_cons_of_mem _ this.2⟩
theorem mark_len (l : Bs) (h : markF kinds7 l ≠ 0) : 1 ≤ (markS (markF kinds7 l)).length ∧ (markS (markF kinds7 l)).length ≤ l.length := by
  obtain ⟨h1, h2⟩ := markF_prefix _ _ h
  refine ⟨?_, prefix_len _ _ h1⟩
  generalize markF kinds7 l = k at *
  simp only [kinds7, List.mem_cons, List.not_mem_nil, or_false] at h2
  rcases h2 with rfl | rfl | rfl | rfl | rfl | rfl | rfl <;> decide
theorem as_bytes (l : Bs) : ∃ t : ByteArray, t.data.toList = l := ⟨⟨l.toArray⟩, rfl⟩
theorem scanR_z {l : Bs} (h0 : l ≠ []) (h : (scanR l).e = 0) : 1 ≤ (scanR l).z ∧ (scanR l).z ≤ l.length := by
  obtain ⟨t, rfl⟩ := as_bytes l
  have hl : 0 < t.size := by rw [← len_of]; exact List.length_pos_iff.2 h0
  unfold scanR at h ⊢
  by_cases h1 : (markF kinds7 t.data.toList != 0) = true
  · rw [if_pos h1]
    exact mark_len _ (by simpa using h1)
  · rw [if_neg h1] at h ⊢
    by_cases h2 : isQuote t.data.toList = true
    · rw [if_pos h2] at h ⊢
      unfold strSc at h ⊢
      by_cases h3 : quotedN t.data.toList = 0
      · rw [if_pos h3] at h; exact absurd h (by decide)
      · rw [if_neg h3] at h ⊢
        have hq := quotedN_le h3
        unfold strU at h ⊢
        by_cases h4 : unqOk (unqL ((t.data.toList.drop 1).take (quotedN t.data.toList - 2))) = true
        · rw [if_pos h4]; simp only; omega
        · rw [if_neg h4] at h; exact absurd h (by decide)
    · rw [if_neg h2] at h ⊢
      by_cases h3 : (t.data.toList == [35, 92]) = true
      · rw [if_pos h3] at h; exact absurd h (by decide)
      · rw [if_neg h3] at h ⊢
        by_cases h4 : Lib.hasPrefix t.data.toList [35, 92] = true
        · rw [if_pos h4] at h ⊢
          unfold charSc at h ⊢
          have hsz : 2 < t.size := by
            rcases Nat.lt_or_ge 2 t.size with hh | hh
            · exact hh
            · exfalso
              have h2' := prefix_len _ _ h4
              rw [len_of] at h2'
              have hs2 : t.size = 2 := Nat.le_antisymm hh h2'
              obtain ⟨r, hr⟩ := List.isPrefixOf_iff_prefix.1 h4
              have hlen : t.data.toList.length = 2 := by rw [len_of]; exact hs2
              rw [← hr, List.length_append] at hlen
              have hr0 : r = [] := by simpa using hlen
              rw [← hr, hr0] at h3
              exact h3 (by decide)
          have hq := spelledN_le hsz
          by_cases h5 : charB ((t.data.toList.drop 2).take (spelledN t.data.toList - 2)) = true
          · rw [if_pos h5]; simp only; rw [len_of]; omega
          · rw [if_neg h5] at h; exact absurd h (by decide)
        · rw [if_neg h4] at h ⊢
          have hq := runN_le hl
          unfold runSc at h ⊢
          by_cases h5 : (meanR (t.data.toList.take (runN t.data.toList))).e = 0
          · rw [if_pos h5]; simp only; rw [len_of]; exact hq
          · rw [if_neg h5] at h; exact absurd h h5
theorem wordsF_stop {e : Int} (he : e ≠ 0) (f : Nat) (l : Bs) (a : Nat) (acc : List Tk) : wordsF f l a e acc = ⟨[], a, e⟩ := by
  cases f with
  | zero => rw [wordsF, finW, if_neg he]
  | succ f => rw [wordsF, if_neg (fun h => he h.2), finW, if_neg he]
theorem wordsF_end {l : Bs} {a : Nat} (ha : l.length ≤ a) (f : Nat) (acc : List Tk) : wordsF f l a 0 acc = ⟨acc, 0, 0⟩ := by
  cases f with
  | zero => rw [wordsF, finW, if_pos rfl]
  | succ f => rw [wordsF, if_neg (fun h => by omega), finW, if_pos rfl]
theorem drop_ne {l : Bs} {a : Nat} (h : a < l.length) : l.drop a ≠ [] := by
  intro e
  have := congrArg List.length e
  rw [List.length_drop, List.length_nil] at this
  omega
theorem wordsF_more : ∀ (f g : Nat) (l : Bs) (a : Nat) (e : Int) (acc : List Tk), l.length - a < f → l.length - a < g → wordsF f l a e acc = wordsF g l a e acc
  | 0, _, _, _, _, _, h, _ => by omega
  | f + 1, 0, _, _, _, _, _, h => by omega
  | f + 1, g + 1, l, a, e, acc, h1, h2 => by
    rw [wordsF, wordsF]
    by_cases hc : a < l.length ∧ e = 0
    · rw [if_pos hc, if_pos hc]
      by_cases hf : acc.length = 4096
      · rw [if_pos hf, if_pos hf]
      · rw [if_neg hf, if_neg hf]
        by_cases he : (scanR (l.drop a)).e = 0
        · rw [if_pos he, if_pos he]
          have hz := scanR_z (drop_ne hc.1) he
          rw [List.length_drop] at hz
          exact wordsF_more f g l _ _ _ (by omega) (by omega)
        · rw [if_neg he, if_neg he]
    · rw [if_neg hc, if_neg hc]
theorem wordsF_step {l : Bs} {a : Nat} (ha : a < l.length) (acc : List Tk) (hf : acc.length ≠ 4096) (he : (scanR (l.drop a)).e = 0) :
    wordsF (l.length - a + 1) l a 0 acc = wordsF (l.length - (a + (scanR (l.drop a)).z + skipN (l.drop (a + (scanR (l.drop a)).z))) + 1) l (a + (scanR (l.drop a)).z + skipN (l.drop (a + (scanR (l.drop a)).z))) (skipE (l.drop (a + (scanR (l.drop a)).z))) (acc ++ [(scanR (l.drop a)).tk a]) := by
  rw [wordsF, if_pos ⟨ha, rfl⟩, if_neg hf, if_pos he]
  have hz := scanR_z (drop_ne ha) he
  rw [List.length_drop] at hz
  exact wordsF_more _ _ _ _ _ _ (by omega) (by omega)
theorem wordsF_full {l : Bs} {a : Nat} (ha : a < l.length) (acc : List Tk) (hf : acc.length = 4096) (f : Nat) : wordsF (f + 1) l a 0 acc = ⟨[], a, 3⟩ := by
  rw [wordsF, if_pos ⟨ha, rfl⟩, if_pos hf]
theorem wordsF_bad {l : Bs} {a : Nat} (ha : a < l.length) (acc : List Tk) (hf : acc.length ≠ 4096) (he : (scanR (l.drop a)).e ≠ 0) (f : Nat) : wordsF (f + 1) l a 0 acc = ⟨[], a, (scanR (l.drop a)).e⟩ := by
  rw [wordsF, if_pos ⟨ha, rfl⟩, if_neg hf, if_neg he]
end Go.Proofs.Ytpeleifkednmoaa.Lx
end
