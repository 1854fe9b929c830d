/- Blanks and comments ahead of a text, or behind it, change nothing but places. -/
import Derived.Test.YtcnhoogljagkhaaLexAppMath
namespace Go.Proofs.Ytcnhoogljagkhaa.Lx
open Go.ChangeShapes Go.WideShapes Go.ChangeAt Go.RowKit
set_option linter.unusedVariables false

def Tk.shift (o : Nat) (t : Tk) : Tk := ⟨t.k, t.a + (o : Int), t.z + (o : Int), t.n, t.S⟩
theorem shift_tk (R : Sc) (o i : Nat) : (R.tk i).shift o = R.tk (o + i) := by
  unfold Sc.tk Tk.shift
  simp only [Tk.mk.injEq, true_and, and_true]
  constructor <;> omega
/-- Where one goes on in the longer text. -/
def posT (la n m i : Nat) : Nat := if i < n then la + i else m
section
variable {a s b : Bs}
theorem drop_T (j : Nat) (h : j ≤ s.length) : (a ++ (s ++ 10 :: b)).drop (a.length + j) = s.drop j ++ 10 :: b := by
  rw [← List.drop_drop, List.drop_left' rfl, List.drop_append_of_le_length h]
theorem next_T (hb1 : skipN (10 :: b) = 1 + b.length) (hb2 : skipE (10 :: b) = 0) (j : Nat) (h : j ≤ s.length) (hE : skipE (s.drop j) = 0) :
    a.length + j + skipN ((a ++ (s ++ 10 :: b)).drop (a.length + j)) = posT a.length s.length (a ++ (s ++ 10 :: b)).length (j + skipN (s.drop j)) ∧ skipE ((a ++ (s ++ 10 :: b)).drop (a.length + j)) = 0 := by
  rw [drop_T j h]
  obtain ⟨h1, h2⟩ := skipN_app b _ (s.drop j) (Nat.le_refl _) hE
  have hle := skipN_le (s.drop j)
  rw [h1, h2]
  unfold posT
  have hT : (a ++ (s ++ 10 :: b)).length = a.length + (s.length + (1 + b.length)) := by simp only [List.length_append, List.length_cons]; omega
  rw [List.length_drop] at hle ⊢
  by_cases hx : skipN (s.drop j) = s.length - j
  · rw [if_pos hx, if_pos hx, if_neg (by omega), hb1, hT]
    exact ⟨by omega, hb2⟩
  · rw [if_neg hx, if_neg hx, if_pos (by omega)]
    exact ⟨by omega, rfl⟩
theorem wordsF_blanks (hb1 : skipN (10 :: b) = 1 + b.length) (hb2 : skipE (10 :: b) = 0) : ∀ (f i : Nat) (e : Int) (acc toks : List Tk) (p : Int), s.length - i < f → i ≤ s.length → wordsF f s i e acc = ⟨toks, p, 0⟩ →
    wordsF ((a ++ (s ++ 10 :: b)).length - posT a.length s.length (a ++ (s ++ 10 :: b)).length i + 1) (a ++ (s ++ 10 :: b)) (posT a.length s.length (a ++ (s ++ 10 :: b)).length i) 0 (acc.map (Tk.shift a.length)) = ⟨toks.map (Tk.shift a.length), 0, 0⟩
  | 0, _, _, _, _, _, h, _, _ => by omega
  | f + 1, i, e, acc, toks, p, hf, hi, h => by
    have hT : (a ++ (s ++ 10 :: b)).length = a.length + (s.length + (1 + b.length)) := by simp only [List.length_append, List.length_cons]; omega
    rw [wordsF] at h
    by_cases hcc : i < s.length ∧ e = 0
    · rw [if_pos hcc] at h
      by_cases hfull : acc.length = 4096
      · rw [if_pos hfull] at h; injection h with _ _ h; exact absurd h (by decide)
      · rw [if_neg hfull] at h
        by_cases he : (scanR (s.drop i)).e = 0
        · rw [if_pos he] at h
          have h0 := drop_ne hcc.1
          have hz := scanR_z h0 he
          rw [List.length_drop] at hz
          have hE : skipE (s.drop (i + (scanR (s.drop i)).z)) = 0 := by
            by_cases hE : skipE (s.drop (i + (scanR (s.drop i)).z)) = 0
            · exact hE
            · rw [wordsF_stop hE] at h; exact absurd (congrArg WR.e h) hE
          have hle := skipN_le (s.drop (i + (scanR (s.drop i)).z))
          rw [List.length_drop] at hle
          have ih := wordsF_blanks hb1 hb2 f _ _ _ toks p (by omega) (by omega) h
          obtain ⟨n1, n2⟩ := next_T (a := a) hb1 hb2 (i + (scanR (s.drop i)).z) (by omega) hE
          have hsc : scanR ((a ++ (s ++ 10 :: b)).drop (a.length + i)) = scanR (s.drop i) := by rw [drop_T i hi]; exact scanR_app (by decide) h0 he
          have hp : posT a.length s.length (a ++ (s ++ 10 :: b)).length i = a.length + i := by unfold posT; rw [if_pos hcc.1]
          rw [hp]
          have hst := wordsF_step (l := a ++ (s ++ 10 :: b)) (a := a.length + i) (by omega) (acc.map (Tk.shift a.length)) (by rw [List.length_map]; exact hfull) (by rw [hsc]; exact he)
          rw [hst, hsc, Nat.add_assoc a.length i, n1, n2]
          rw [List.map_append, List.map_cons, List.map_nil, shift_tk] at ih
          exact ih
        · rw [if_neg he] at h; injection h with _ _ h; exact absurd h he
    · rw [if_neg hcc, finW] at h
      by_cases he : e = 0
      · rw [if_pos he] at h
        injection h with h _ _
        have hp : posT a.length s.length (a ++ (s ++ 10 :: b)).length i = (a ++ (s ++ 10 :: b)).length := by unfold posT; rw [if_neg (fun hh => hcc ⟨hh, he⟩)]
        rw [hp, wordsF_end (Nat.le_refl _), h]
      · rw [if_neg he] at h; injection h with _ _ h; exact absurd h he
theorem blanks_words {toks : List Tk} {p : Int} (hw : wordsR s = ⟨toks, p, 0⟩) (ha : ∀ x, skipN (a ++ x) = a.length + skipN x ∧ skipE (a ++ x) = skipE x) (hb1 : skipN (10 :: b) = 1 + b.length) (hb2 : skipE (10 :: b) = 0)
    (hoa : a.all okC = true) (hob : b.all okC = true) (hlen : (a ++ (s ++ 10 :: b)).length ≤ 16384) : wordsR (a ++ (s ++ 10 :: b)) = ⟨toks.map (Tk.shift a.length), 0, 0⟩ := by
  obtain ⟨hl, hok, _⟩ := wordsR_ok hw
  have hall : (a ++ (s ++ 10 :: b)).all okC = true := by
    rw [List.all_append, List.all_append, List.all_cons, hoa, hok, hob]
    rfl
  have hs : wordsF (s.length + 1) s (skipN s) (skipE s) [] = ⟨toks, p, 0⟩ := by
    unfold wordsR at hw
    rw [if_neg (by omega), nightI_no s hok, if_neg (by decide)] at hw
    exact hw
  have hE : skipE s = 0 := by
    by_cases hE : skipE s = 0
    · exact hE
    · rw [wordsF_stop hE] at hs; exact absurd (congrArg WR.e hs) hE
  unfold wordsR
  rw [if_neg (by omega), nightI_no _ hall, if_neg (by decide)]
  obtain ⟨n1, n2⟩ := next_T (a := a) hb1 hb2 0 (Nat.zero_le s.length) (by rw [List.drop_zero]; exact hE)
  rw [Nat.add_zero, List.drop_left', List.drop_zero, Nat.zero_add] at n1
  · rw [Nat.add_zero, List.drop_left' rfl] at n2
    obtain ⟨a1, a2⟩ := ha (s ++ 10 :: b)
    rw [a1, a2, n2, n1]
    have := wordsF_blanks (a := a) hb1 hb2 (s.length + 1) (skipN s) (skipE s) [] toks p (by omega) (skipN_le s) hs
    rw [← this]
    have hpl : posT a.length s.length (a ++ (s ++ 10 :: b)).length (skipN s) ≤ (a ++ (s ++ 10 :: b)).length := by
      have hT : (a ++ (s ++ 10 :: b)).length = a.length + (s.length + (1 + b.length)) := by simp only [List.length_append, List.length_cons]; omega
      unfold posT; split <;> omega
    exact wordsF_more _ _ _ _ _ _ (by omega) (by omega)
  · rfl
end
/- The blanks of the law. -/
theorem skip_step {l r : Bs} {g : Nat} (hg : gapN l = g) (h0 : g ≠ 0) (hd : l.drop g = r) : skipN l = g + skipN r ∧ skipE l = skipE r := by
  refine ⟨?_, ?_⟩
  · rw [skipN_gap (by rw [hg]; exact h0), hg, hd]
  · rw [skipE_gap (by rw [hg]; exact h0), hg, hd]
theorem skip_blank (c : UInt8) (x : Bs) (h : blankB c = true) : skipN (c :: x) = 1 + skipN x ∧ skipE (c :: x) = skipE x := skip_step (gapN_blank h) (by decide) rfl
def bl (i : Nat) : Bs := match i with
  | 0 => [32] | 1 => [10] | 2 => [9, 13] | 3 => [59, 32, 97, 32, 34, 32, 40, 32, 98, 10]
  | 4 => [32, 35, 124, 32, 120, 32, 35, 124, 32, 40, 32, 124, 35, 32, 34, 32, 124, 35, 32] | _ => [32, 59]
theorem bl_ahead : ∀ i, i < 5 → ∀ x, skipN (bl i ++ x) = (bl i).length + skipN x ∧ skipE (bl i ++ x) = skipE x := by
  intro i hi x
  have h : i = 0 ∨ i = 1 ∨ i = 2 ∨ i = 3 ∨ i = 4 := by omega
  rcases h with rfl | rfl | rfl | rfl | rfl
  · exact skip_blank 32 x (by decide)
  · exact skip_blank 10 x (by decide)
  · have h1 := skip_blank 9 (13 :: x) (by decide)
    have h2 := skip_blank 13 x (by decide)
    exact ⟨by show skipN (9 :: 13 :: x) = 2 + skipN x; omega, by show skipE (9 :: 13 :: x) = _; rw [h1.2, h2.2]⟩
  · have h1 := skip_step (l := 59 :: 32 :: 97 :: 32 :: 34 :: 32 :: 40 :: 32 :: 98 :: 10 :: x) (r := 10 :: x) (g := 9) (by rw [gapN_line (by decide) rfl]; rfl) (by decide) rfl
    have h2 := skip_blank 10 x (by decide)
    exact ⟨by show skipN (59 :: 32 :: 97 :: 32 :: 34 :: 32 :: 40 :: 32 :: 98 :: 10 :: x) = 10 + skipN x; omega, by show skipE (59 :: 32 :: 97 :: 32 :: 34 :: 32 :: 40 :: 32 :: 98 :: 10 :: x) = _; rw [h1.2, h2.2]⟩
  · have hcom : comR 1 (32 :: 120 :: 32 :: 35 :: 124 :: 32 :: 40 :: 32 :: 124 :: 35 :: 32 :: 34 :: 32 :: 124 :: 35 :: 32 :: x) = some 15 := by
      rw [comR_one 0 _ _ _ (by decide) (by decide), comR_one 0 _ _ _ (by decide) (by decide), comR_one 0 _ _ _ (by decide) (by decide), comR_open, comR_one 1 _ _ _ (by decide) (by decide), comR_one 1 _ _ _ (by decide) (by decide), comR_one 1 _ _ _ (by decide) (by decide), comR_shut,
        comR_one 0 _ _ _ (by decide) (by decide), comR_one 0 _ _ _ (by decide) (by decide), comR_one 0 _ _ _ (by decide) (by decide), comR_shut, show comR 0 (32 :: x) = some 0 by simp [comR]]
      rfl
    have h1 := skip_blank 32 (35 :: 124 :: 32 :: 120 :: 32 :: 35 :: 124 :: 32 :: 40 :: 32 :: 124 :: 35 :: 32 :: 34 :: 32 :: 124 :: 35 :: 32 :: x) (by decide)
    have h2 := skip_step (l := 35 :: 124 :: 32 :: 120 :: 32 :: 35 :: 124 :: 32 :: 40 :: 32 :: 124 :: 35 :: 32 :: 34 :: 32 :: 124 :: 35 :: 32 :: x) (r := 32 :: x) (g := 17) (by
      rw [gapN_com (by decide) (by decide) rfl]
      unfold comN
      rw [show (35 :: 124 :: 32 :: 120 :: 32 :: 35 :: 124 :: 32 :: 40 :: 32 :: 124 :: 35 :: 32 :: 34 :: 32 :: 124 :: 35 :: 32 :: x).drop 2 = 32 :: 120 :: 32 :: 35 :: 124 :: 32 :: 40 :: 32 :: 124 :: 35 :: 32 :: 34 :: 32 :: 124 :: 35 :: 32 :: x from rfl, hcom]) (by decide) rfl
    have h3 := skip_blank 32 x (by decide)
    refine ⟨?_, ?_⟩
    · show skipN (32 :: 35 :: 124 :: 32 :: 120 :: 32 :: 35 :: 124 :: 32 :: 40 :: 32 :: 124 :: 35 :: 32 :: 34 :: 32 :: 124 :: 35 :: 32 :: x) = 19 + skipN x
      omega
    · show skipE (32 :: 35 :: 124 :: 32 :: 120 :: 32 :: 35 :: 124 :: 32 :: 40 :: 32 :: 124 :: 35 :: 32 :: 34 :: 32 :: 124 :: 35 :: 32 :: x) = _
      rw [h1.2, h2.2, h3.2]
theorem bl_behind : ∀ i, i < 6 → skipN (10 :: bl i) = 1 + (bl i).length ∧ skipE (10 :: bl i) = 0 := by
  intro i hi
  have h10 := skip_blank 10 (bl i) (by decide)
  rw [h10.1, h10.2]
  by_cases h5 : i < 5
  · have := bl_ahead i h5 []
    rw [List.append_nil, show skipN [] = 0 from rfl, show skipE [] = 0 from rfl] at this
    rw [this.1, this.2]
    exact ⟨rfl, rfl⟩
  · obtain rfl : i = 5 := by omega
    exact ⟨rfl, rfl⟩
theorem bl_ok : ∀ i : Fin 6, (bl i.val).all okC = true ∧ (bl i.val).length ≤ 19 := by decide
end Go.Proofs.Ytcnhoogljagkhaa.Lx
