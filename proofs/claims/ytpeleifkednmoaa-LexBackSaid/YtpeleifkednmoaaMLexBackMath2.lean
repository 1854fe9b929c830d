/- Words' text is read as the words, and words that are read have a text (layer 3): the mathematics. -/
import Derived.Test.YtpeleifkednmoaaMLexBackMath
import Derived.Test.YtpeleifkednmoaaMLexApartMath2
import Derived.Test.YtpeleifkednmoaaMLexSame
section
namespace Go.Proofs.Ytpeleifkednmoaa.Lx
open Go.ChangeShapes Go.WideShapes Go.ChangeAt Go.RowKit
set_option linter.unusedVariables false
set_option linter.unusedSimpArgs false

theorem empty_of {S : Bs} (h : (⟨S.toArray⟩ : ByteArray).toList.isEmpty = true) : S = [] := by
  rw [toList_mk] at h
  exact List.isEmpty_iff.1 h
theorem facts_9 {t : Tk} (h : t.k = 9) (hg : goodB t = true) : t.S = [] := by
  unfold goodB Da.properOf datK at hg
  rw [h] at hg
  simp only [if_true, Bool.and_eq_true] at hg
  exact empty_of hg.1.2
theorem facts_10 {t : Tk} (h : t.k = 10) (hg : goodB t = true) : t.S = [] := by
  unfold goodB Da.properOf datK at hg
  rw [h] at hg
  simp only [show ¬ (10 : Int) = 9 by decide, show ¬ (2 : Int) = 1 by decide, if_true, if_false, Bool.and_eq_true] at hg
  exact empty_of hg.1.2
theorem facts_11 {t : Tk} (h : t.k = 11) (hg : goodB t = true) : t.S = [] := by
  unfold goodB Da.properOf datK at hg
  rw [h] at hg
  simp only [show ¬ (11 : Int) = 9 by decide, show ¬ (11 : Int) = 10 by decide, show ¬ (3 : Int) = 1 by decide, show ¬ (3 : Int) = 2 by decide, if_true, if_false, Bool.and_eq_true] at hg
  exact empty_of hg.1.2
theorem facts_12 {t : Tk} (h : t.k = 12) (hg : goodB t = true) : t.n = 0 := by
  unfold goodB Da.properOf datK at hg
  rw [h] at hg
  simp only [show ¬ (12 : Int) = 9 by decide, show ¬ (12 : Int) = 10 by decide, show ¬ (12 : Int) = 11 by decide, show ¬ (4 : Int) = 1 by decide, show ¬ (4 : Int) = 2 by decide, show ¬ (4 : Int) = 3 by decide, if_true, if_false, Bool.and_eq_true, beq_iff_eq] at hg
  exact hg.1.2
theorem facts_13 {t : Tk} (h : t.k = 13) (hg : goodB t = true) : t.n = 0 ∧ symL t.S = true := by
  unfold goodB Da.properOf datK at hg
  rw [h] at hg
  simp only [show ¬ (13 : Int) = 9 by decide, show ¬ (13 : Int) = 10 by decide, show ¬ (13 : Int) = 11 by decide, show ¬ (13 : Int) = 12 by decide, show ¬ (5 : Int) = 1 by decide, show ¬ (5 : Int) = 2 by decide, show ¬ (5 : Int) = 3 by decide, show ¬ (5 : Int) = 4 by decide, if_true, if_false, Bool.and_eq_true, beq_iff_eq] at hg
  refine ⟨hg.1.2, ?_⟩
  have := hg.1.1.1
  rw [symL_eq] at this
  exact this
/-- The text of a word that has one is that word. -/
theorem txt_good {t : Tk} (h : er t = 0) : Good (txt t) t.k t.n t.S := by
  unfold er textTk at h
  unfold txt textTk
  by_cases hm : (markS t.k).isEmpty = true
  · rw [if_pos hm] at h ⊢
    by_cases hg : goodB t = true
    · rw [if_pos hg]
      unfold bodyT
      by_cases h9 : t.k = 9
      · rw [if_pos h9, facts_9 h9 hg, h9]; exact good_fix (good_9 h9 hg)
      · rw [if_neg h9]
        by_cases h10 : t.k = 10
        · rw [if_pos h10, facts_10 h10 hg, h10]
          rcases good_10 h10 hg with h0 | h0
          · rw [h0, if_pos rfl]; exact good_false
          · rw [h0, if_neg (by decide)]; exact good_true
        · rw [if_neg h10]
          by_cases h11 : t.k = 11
          · rw [if_pos h11, facts_11 h11 hg, h11]; exact good_chr (good_11 h11 hg)
          · rw [if_neg h11]
            by_cases h12 : t.k = 12
            · rw [if_pos h12, facts_12 h12 hg, h12]
              obtain ⟨hl, hlow⟩ := good_12 h12 hg
              exact good_str hl (fun c hc => by obtain ⟨i, hi, rfl⟩ := List.mem_iff_getElem.1 hc; exact hlow i hi)
            · rw [if_neg h12]
              have hk := mark_no hm
              by_cases h13 : t.k = 13
              · obtain ⟨f1, f2⟩ := facts_13 h13 hg
                rw [f1, h13]; exact good_sym f2
              · rw [good_no (by omega)] at hg; cases hg
    · rw [if_neg hg] at h; exact absurd h (by decide)
  · rw [if_neg hm] at h ⊢
    by_cases hn : (t.n == 0 && t.S.isEmpty) = true
    · rw [if_pos hn]
      simp only [Bool.and_eq_true, beq_iff_eq, List.isEmpty_iff] at hn
      rw [hn.1, hn.2]
      refine good_mark ?_
      rcases Int.lt_or_le t.k 1 with hk | hk
      · exact absurd (mark_out (.inl hk)) hm
      · rcases Int.lt_or_le 8 t.k with hk' | hk'
        · exact absurd (mark_out (.inr hk')) hm
        · simp only [List.mem_cons, List.not_mem_nil, or_false]; omega
    · rw [if_neg hn] at h; exact absurd h (by decide)
/- A word that was read has a text. -/
theorem er_mark {t : Tk} (h : t.k ∈ [1, 2, 3, 4, 5, 6, 7, 8]) (hn : t.n = 0) (hS : t.S = []) : er t = 0 := by
  unfold er textTk
  have hm : (markS t.k).isEmpty = false := mark_in (by simp only [List.mem_cons, List.not_mem_nil, or_false] at h; omega)
  rw [if_neg (by rw [hm]; decide), hn, hS]
  rfl
theorem er_good {t : Tk} (h : 9 ≤ t.k) (hg : goodB t = true) : er t = 0 := by
  unfold er textTk
  rw [if_pos (mark_out (.inr (by omega))), if_pos hg]
theorem wf_i64 {n : Int} (h : -9223372036854775808 ≤ n ∧ n ≤ 9223372036854775807) : (Lit.int .i64 n).wf = true := by
  simp only [Lit.wf, Bool.and_eq_true, decide_eq_true_eq]
  exact h
theorem inB_wf {n : Int} (h : Fx.inB n = true) : (Lit.int .i64 n).wf = true := by
  obtain ⟨h1, h2⟩ := Fx.in_yes h
  exact wf_i64 (by omega)
theorem okC_low : ∀ n : Fin 256, okC (UInt8.ofNat n.val) = true → (UInt8.ofNat n.val).toNat < 128 := by decide +kernel
theorem ok_low {c : UInt8} (h : okC c = true) : c.toNat < 128 := by
  have := okC_low ⟨c.toNat, c.toNat_lt⟩
  simp only [of_byte] at this
  exact this h
theorem escF_mem : ∀ (r : List UInt8) (l : Bs) (c : UInt8), escF r l = some c → c ∈ r
  | [], _, _, h => by cases h
  | x :: r, l, c, h => by
    rw [escF] at h
    by_cases hp : Lib.hasPrefix l (escapeS x) = true
    · rw [if_pos hp] at h; injection h with h; rw [h]; exact List.mem_cons_self ..
    · rw [if_neg hp] at h; exact List.mem_cons_of_mem _ (escF_mem r l c h)
theorem nmF_mem : ∀ (r : List UInt8) (l : Bs) (c : UInt8), nmF r l = some c → c ∈ r
  | [], _, _, h => by cases h
  | x :: r, l, c, h => by
    rw [nmF] at h
    by_cases hp : (l == nameS x) = true
    · rw [if_pos hp] at h; injection h with h; rw [h]; exact List.mem_cons_self ..
    · rw [if_neg hp] at h; exact List.mem_cons_of_mem _ (nmF_mem r l c h)
theorem decV_le (l : Bs) : 0 ≤ decV l ∧ decV l < 128 := by
  have := decI_le l
  unfold decV
  split <;> omega
theorem stC_low {c : UInt8} {r : Bs} (h : okC c = true) : (stC (c :: r)).toNat < 128 := by
  have hc := ok_low h
  have hv : 0 ≤ stV (c :: r) ∧ stV (c :: r) < 128 := by
    unfold stV
    split
    · unfold unescV
      split
      · next x hx =>
        have hm := escF_mem _ _ _ hx
        simp only [escs, List.mem_cons, List.not_mem_nil, or_false] at hm
        rcases hm with rfl | rfl | rfl | rfl <;> decide
      · exact decV_le _
    · show 0 ≤ (c.toNat : Int) ∧ (c.toNat : Int) < 128
      omega
  have := stC_nat (c :: r)
  omega
theorem unqF_low : ∀ (f : Nat) (l S : Bs), l.all okC = true → unqF f l = some S → ∀ c ∈ S, c.toNat < 128
  | f, [], S, _, h => by
    have : S = [] := by cases f <;> (injection h with h; exact h.symm)
    subst this
    intro c hc; cases hc
  | 0, _ :: _, S, _, h => by cases h
  | f + 1, c :: r, S, hok, h => by
    rw [unqF] at h
    by_cases hb : stB (c :: r) = true
    · rw [if_pos hb] at h
      obtain ⟨S', hS, rfl⟩ := Option.map_eq_some_iff.1 h
      intro x hx
      rcases List.mem_cons.1 hx with rfl | hx
      · exact stC_low (by rw [List.all_cons, Bool.and_eq_true] at hok; exact hok.1)
      · exact unqF_low f _ S' (List.all_eq_true.2 (fun y hy => List.all_eq_true.1 hok y (List.mem_of_mem_drop hy))) hS x hx
    · rw [if_neg hb] at h; cases h
/-- Kind, number and text of a word that has a text. -/
def ErOk (k n : Int) (S : Bs) : Prop := ∀ a z : Int, er ⟨k, a, z, n, S⟩ = 0 ∧ TkW ⟨k, a, z, n, S⟩
theorem nil_empty : (⟨([] : Bs).toArray⟩ : ByteArray).toList.isEmpty = true := by rw [toList_mk]; rfl
theorem erok_mark {k : Int} (h : k ∈ [1, 2, 3, 4, 5, 6, 7, 8]) : ErOk k 0 [] := fun a z => ⟨er_mark h rfl rfl, ⟨(by show (Lit.int .i64 0).wf = true; decide), Nat.zero_le _⟩⟩
theorem erok_fix {n : Int} (h : Fx.inB n = true) : ErOk 9 n [] := fun a z => ⟨er_good (t := ⟨9, a, z, n, []⟩) (by show (9 : Int) ≤ 9; decide) (by
  show (Fx.inB n && (⟨([] : Bs).toArray⟩ : ByteArray).toList.isEmpty && Da.nil3 0 0 0) = true
  rw [h, nil_empty]; rfl), ⟨inB_wf h, Nat.zero_le _⟩⟩
theorem erok_bool {n : Int} (h : n = 0 ∨ n = 1) : ErOk 10 n [] := fun a z => ⟨er_good (t := ⟨10, a, z, n, []⟩) (by show (9 : Int) ≤ 10; decide) (by
  show ((n == 0 || n == 1) && (⟨([] : Bs).toArray⟩ : ByteArray).toList.isEmpty && Da.nil3 0 0 0) = true
  rw [nil_empty]
  rcases h with rfl | rfl <;> rfl), ⟨wf_i64 (by show -9223372036854775808 ≤ n ∧ n ≤ 9223372036854775807; omega), Nat.zero_le _⟩⟩
theorem erok_chr {n : Int} (h : 0 ≤ n ∧ n < 128) : ErOk 11 n [] := fun a z => ⟨er_good (t := ⟨11, a, z, n, []⟩) (by show (9 : Int) ≤ 11; decide) (by
  show ((decide (0 ≤ n) && decide (n < 128)) && (⟨([] : Bs).toArray⟩ : ByteArray).toList.isEmpty && Da.nil3 0 0 0) = true
  rw [nil_empty, show decide (0 ≤ n) = true by simpa using h.1, show decide (n < 128) = true by simpa using h.2]; rfl), ⟨wf_i64 (by show -9223372036854775808 ≤ n ∧ n ≤ 9223372036854775807; omega), Nat.zero_le _⟩⟩
theorem erok_str {S : Bs} (hl : S.length ≤ 256) (hlow : ∀ c ∈ S, c.toNat < 128) : ErOk 12 0 S := fun a z => ⟨er_good (t := ⟨12, a, z, 0, S⟩) (by show (9 : Int) ≤ 12; decide) (by
  have ht : Da.textB ⟨S.toArray⟩ = true := by
    unfold Da.textB
    rw [show ((⟨S.toArray⟩ : ByteArray).size) = S.length from List.size_toArray, Bool.and_eq_true]
    refine ⟨by simp; omega, ?_⟩
    unfold Da.allB
    refine List.all_eq_true.2 (fun c hc => ?_)
    have := hlow c (by simpa using hc)
    unfold Da.lowB
    simp; omega
  show (Da.textB ⟨S.toArray⟩ && ((0 : Int) == 0) && Da.nil3 0 0 0) = true
  rw [ht]; rfl), ⟨(by show (Lit.int .i64 0).wf = true; decide), (by show S.length ≤ _; omega)⟩⟩
theorem erok_sym {S : Bs} (hl : S.length ≤ 16384) (h : symL S = true) : ErOk 13 0 S := fun a z => ⟨er_good (t := ⟨13, a, z, 0, S⟩) (by show (9 : Int) ≤ 13; decide) (by
  show ((Da.symB ⟨S.toArray⟩ && Da.marksB []) && ((0 : Int) == 0) && Da.nil2 0 0) = true
  rw [symL_eq, show (⟨S.toArray⟩ : ByteArray).data.toList = S from rfl, h]; rfl), ⟨(by show (Lit.int .i64 0).wf = true; decide), (by show S.length ≤ _; omega)⟩⟩
theorem charV_low {y : Bs} (hok : y.all okC = true) : 0 ≤ charV y ∧ charV y < 128 := by
  unfold charV
  split
  · next c hc =>
    have hm := nmF_mem _ _ _ hc
    simp only [names4, List.mem_cons, List.not_mem_nil, or_false] at hm
    rcases hm with rfl | rfl | rfl | rfl <;> decide
  · split
    · rename_i c _
      have := ok_low (c := c) (by simpa using hok)
      omega
    · exact decV_le _
theorem mean_er {y : Bs} (hl : y.length ≤ 16384) (h5 : (meanR y).e = 0) : ErOk (meanR y).k (meanR y).n (meanR y).S := by
  unfold meanR at h5 ⊢
  by_cases m1 : (y == [46]) = true
  · rw [if_pos m1]; exact erok_mark (by decide)
  · rw [if_neg m1] at h5 ⊢
    by_cases m2 : (y == [35, 102]) = true
    · rw [if_pos m2]; exact erok_bool (.inl rfl)
    · rw [if_neg m2] at h5 ⊢
      by_cases m3 : (y == [35, 116]) = true
      · rw [if_pos m3]; exact erok_bool (.inr rfl)
      · rw [if_neg m3] at h5 ⊢
        by_cases m4 : numB y = true
        · rw [if_pos m4] at h5 ⊢
          have hp : Fx.parE y = 0 := by
            simp only at h5
            by_cases h55 : (Fx.parE y == 5) = true
            · rw [if_pos h55] at h5; exact absurd h5 (by decide)
            · rw [if_neg h55] at h5; exact h5
          exact erok_fix (Fx.parE_ok hp).1
        · rw [if_neg m4] at h5 ⊢
          by_cases m5 : symL y = true
          · rw [if_pos m5]; exact erok_sym hl m5
          · rw [if_neg m5] at h5; exact absurd h5 (by decide)
theorem scan_er {x : Bs} (h0 : x ≠ []) (hx : x.all okC = true) (hlen : x.length ≤ 16384) (he : (scanR x).e = 0) : ErOk (scanR x).k (scanR x).n (scanR x).S := by
  have hsub : ∀ m n, ((x.drop m).take n).all okC = true := fun m n => List.all_eq_true.2 (fun y hy => List.all_eq_true.1 hx y (List.mem_of_mem_drop (List.mem_of_mem_take hy)))
  unfold scanR at he ⊢
  by_cases h1 : (markF kinds7 x != 0) = true
  · rw [if_pos h1]
    have hm := (markF_prefix kinds7 x (by simpa using h1)).2
    refine erok_mark ?_
    simp only [kinds7, List.mem_cons, List.not_mem_nil, or_false] at hm ⊢
    omega
  · rw [if_neg h1] at he ⊢
    by_cases h2 : isQuote x = true
    · rw [if_pos h2] at he ⊢
      unfold strSc at he ⊢
      by_cases h3 : quotedN x = 0
      · rw [if_pos h3] at he; exact absurd he (by decide)
      · rw [if_neg h3] at he ⊢
        have hok := hsub 1 (quotedN x - 2)
        generalize (x.drop 1).take (quotedN x - 2) = y at *
        unfold strU at he ⊢
        by_cases h4 : unqOk (unqL y) = true
        · rw [if_pos h4]
          obtain ⟨S, hS⟩ : ∃ S, unqL y = some S := by
            cases hu : unqL y with
            | none => rw [hu] at h4; cases h4
            | some S => exact ⟨S, rfl⟩
          have hlow := unqF_low _ y S hok hS
          rw [hS] at h4 ⊢
          have hl : S.length ≤ 256 := by
            have : decide ((S.length : Int) ≤ 256) = true := h4
            simp only [decide_eq_true_eq] at this
            omega
          exact erok_str hl hlow
        · rw [if_neg h4] at he; exact absurd he (by decide)
    · rw [if_neg h2] at he ⊢
      by_cases h3 : (x == [35, 92]) = true
      · rw [if_pos h3] at he; exact absurd he (by decide)
      · rw [if_neg h3] at he ⊢
        by_cases h4 : Lib.hasPrefix x [35, 92] = true
        · rw [if_pos h4] at he ⊢
          unfold charSc at he ⊢
          have hok := hsub 2 (spelledN x - 2)
          generalize (x.drop 2).take (spelledN x - 2) = y at *
          by_cases h5 : charB y = true
          · rw [if_pos h5]; exact erok_chr (charV_low hok)
          · rw [if_neg h5] at he; exact absurd he (by decide)
        · rw [if_neg h4] at he ⊢
          unfold runSc at he ⊢
          have hlen2 : (x.take (runN x)).length ≤ 16384 := by rw [List.length_take]; omega
          by_cases h5 : (meanR (x.take (runN x))).e = 0
          · rw [if_pos h5]; exact mean_er hlen2 h5
          · rw [if_neg h5] at he; exact absurd he h5
theorem apart_er {l : Bs} (hok : l.all okC = true) (hlen : l.length ≤ 16384) : ∀ {r : List Tk} {p : Nat}, Apart l p r → ∀ t ∈ r, er t = 0 ∧ TkW t
  | [], _, _ => fun t ht => by cases ht
  | t :: r, p, ⟨a, h1, h2, h3, h4, h5, h6, h7⟩ => fun x hx => by
    rcases List.mem_cons.1 hx with rfl | hx
    · rw [h6]
      exact scan_er (drop_ne h2) (List.all_eq_true.2 (fun y hy => List.all_eq_true.1 hok y (List.mem_of_mem_drop hy))) (by rw [List.length_drop]; omega) h5 _ _
    · exact apart_er hok hlen h7 x hx
end Go.Proofs.Ytpeleifkednmoaa.Lx
end
