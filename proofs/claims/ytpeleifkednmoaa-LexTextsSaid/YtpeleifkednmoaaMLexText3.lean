/- What the text of a word is (layer 3): the program's function and the document's. -/
import Derived.Test.YtpeleifkednmoaaMLexText2
import Derived.Test.YtpeleifkednmoaaMLexAwake
import Derived.Test.YtpeleifkednmoaaM5
import Derived.Test.YtpeleifkednmoaaM8
import Derived.Test.YtpeleifkednmoaaM0
section
namespace Go.Proofs.Ytpeleifkednmoaa.Lx
open Go.ChangeShapes Go.WideShapes Go.ChangeAt Go.RowKit
set_option linter.unusedVariables false
set_option linter.unusedSimpArgs false

def datK (k : Int) : Int := if k = 9 then 1 else if k = 10 then 2 else if k = 11 then 3 else if k = 12 then 4 else if k = 13 then 5 else 0
theorem kinds13 (k : Int) : k = 1 ∨ k = 2 ∨ k = 3 ∨ k = 4 ∨ k = 5 ∨ k = 6 ∨ k = 7 ∨ k = 8 ∨ k = 9 ∨ k = 10 ∨ k = 11 ∨ k = 12 ∨ k = 13 ∨ (k < 1 ∨ 13 < k) := by omega
theorem datumKind_any (k : Int) (w : World) : Calls Try.prog 16 #[.int .i64 k] w fun e w' => e = .returned (.int .i64 (datK k)) ∧ w = w' := by
  unfold datK
  by_cases h9 : k = 9
  · subst h9; go_enter Try.func16, Try.ntmps16; go_wp2_with fail; go_ret; exact ⟨rfl, rfl⟩
  by_cases h10 : k = 10
  · subst h10; go_enter Try.func16, Try.ntmps16; go_wp2_with fail; go_ret; exact ⟨rfl, rfl⟩
  by_cases h11 : k = 11
  · subst h11; go_enter Try.func16, Try.ntmps16; go_wp2_with fail; go_ret; exact ⟨rfl, rfl⟩
  by_cases h12 : k = 12
  · subst h12; go_enter Try.func16, Try.ntmps16; go_wp2_with fail; go_ret; exact ⟨rfl, rfl⟩
  by_cases h13 : k = 13
  · subst h13; go_enter Try.func16, Try.ntmps16; go_wp2_with fail; go_ret; exact ⟨rfl, rfl⟩
  rw [if_neg h9, if_neg h10, if_neg h11, if_neg h12, if_neg h13]
  have d9 : (k == 9) = false := by simpa using h9
  have d10 : (k == 10) = false := by simpa using h10
  have d11 : (k == 11) = false := by simpa using h11
  have d12 : (k == 12) = false := by simpa using h12
  have d13 : (k == 13) = false := by simpa using h13
  go_enter Try.func16, Try.ntmps16
  go_wp2_with fail
  go_ret
  exact ⟨rfl, rfl⟩
theorem kinds_any (k : Int) (w : World) : Calls Try.prog 21 #[.int .i64 k] w fun e w' => e = .returned (.int .i64 (datK k)) ∧ w = w' := by
  unfold datK
  by_cases h9 : k = 9
  · subst h9; go_enter Try.func21, Try.ntmps21; go_wp2_with fail; go_ret; exact ⟨rfl, rfl⟩
  by_cases h10 : k = 10
  · subst h10; go_enter Try.func21, Try.ntmps21; go_wp2_with fail; go_ret; exact ⟨rfl, rfl⟩
  by_cases h11 : k = 11
  · subst h11; go_enter Try.func21, Try.ntmps21; go_wp2_with fail; go_ret; exact ⟨rfl, rfl⟩
  by_cases h12 : k = 12
  · subst h12; go_enter Try.func21, Try.ntmps21; go_wp2_with fail; go_ret; exact ⟨rfl, rfl⟩
  by_cases h13 : k = 13
  · subst h13; go_enter Try.func21, Try.ntmps21; go_wp2_with fail; go_ret; exact ⟨rfl, rfl⟩
  rw [if_neg h9, if_neg h10, if_neg h11, if_neg h12, if_neg h13]
  have d9 : (k == 9) = false := by simpa using h9
  have d10 : (k == 10) = false := by simpa using h10
  have d11 : (k == 11) = false := by simpa using h11
  have d12 : (k == 12) = false := by simpa using h12
  have d13 : (k == 13) = false := by simpa using h13
  go_enter Try.func21, Try.ntmps21
  go_wp2_with fail
  go_ret
  exact ⟨rfl, rfl⟩
theorem tokD_wf (k : Int) : (Lit.int .i64 (datK k)).wf = true := by
  unfold datK
  repeat' split
  all_goals decide
/-- A word as it may be handed in. -/
structure TkW (t : Tk) : Prop where
  n : (Lit.int .i64 t.n).wf = true
  S : t.S.length ≤ 1048576
/-- The datum that a word is. -/
def tkD (t : Tk) : Da.Dt := .mk (datK t.k) t.n ⟨t.S.toArray⟩ [] [] []
theorem tkD_is (t : Tk) (h : TkW t) (w : World) (B : Nat) : Da.IsDt w (Da.Lo B) (tkD t) (.agg #[.int .i64 (datK t.k), .int .i64 t.n, .string ⟨t.S.toArray⟩, .slice none 0 0, .slice none 0 0, .slice none 0 0]) := by
  unfold tkD
  simp only [Da.IsDt]
  refine ⟨tokD_wf _, h.n, ?_, none, 0, none, 0, none, 0, rfl, ⟨rfl, Nat.le_refl _, by decide, by decide, fun _ => rfl, by simp, fun k hk => absurd hk (Nat.not_lt_zero _)⟩, ⟨Nat.le_refl _, by decide, by decide, fun _ => rfl⟩, by simp only [Da.IsDts], ⟨Nat.le_refl _, by decide, by decide, fun _ => rfl⟩, by simp only [Da.IsDts]⟩
  have := h.S
  show t.S.toArray.size ≤ maxLen
  rw [List.size_toArray]
  unfold maxLen
  omega
def goodB (t : Tk) : Bool := Da.properOf (datK t.k) t.n ⟨t.S.toArray⟩ [] [] []
theorem chk_tkD (t : Tk) : Da.chk (tkD t) = if goodB t = true then 0 else 20 := by
  have hn : Da.nodes (tkD t) 1 = [(tkD t, 1)] := by unfold tkD; simp [Da.nodes, Da.nodesL]
  have he : Da.errOf 0 [(tkD t, 1)] = if goodB t = true then 0 else 20 := by
    have hm : Da.mErr 0 (tkD t) 1 = if goodB t = true then 0 else 20 := by
      unfold Da.mErr
      rw [if_neg (show ¬ 64 < 1 by decide), if_neg (show ¬ 0 = 4096 by decide)]
      rfl
    rw [Da.errOf]
    show (if Da.mErr 0 (tkD t) 1 = 0 then Da.errOf 1 [] else Da.mErr 0 (tkD t) 1) = _
    rw [hm]
    by_cases h : goodB t = true
    · rw [if_pos h]; rfl
    · rw [if_neg h]; rfl
  unfold Da.chk Da.meas
  rw [hn, he]
  by_cases h : goodB t = true
  · rw [if_pos h]; rfl
  · rw [if_neg h]; rfl
/-- A character as a byte. -/
def chrC (n : Int) : UInt8 := UInt8.ofNat n.toNat
/-- What stands for a word that may be. -/
def bodyT (t : Tk) : Bs := if t.k = 9 then Fx.textL t.n else if t.k = 10 then (if t.n = 0 then [35, 102] else [35, 116]) else if t.k = 11 then 35 :: 92 :: spellS (chrC t.n) else if t.k = 12 then quoteS t.S else t.S
/-- A word's text, and what is wrong with it. -/
def textTk (t : Tk) : Bs × Int := if (markS t.k).isEmpty = true then (if goodB t = true then (bodyT t, 0) else ([], 30)) else (if (t.n == 0 && t.S.isEmpty) = true then (markS t.k, 0) else ([], 30))
def tkV (t : Tk) : Value := .agg #[.int .i64 t.k, .int .i64 t.a, .int .i64 t.z, .int .i64 t.n, .string ⟨t.S.toArray⟩]
def TextP (t : Tk) (w : World) (e : Ending) (w' : World) : Prop := e = .returned (.tuple #[.string ⟨(textTk t).1.toArray⟩, .int .i64 (textTk t).2]) ∧ Below w.heap.size w w'
theorem good_9 {t : Tk} (h : t.k = 9) (hg : goodB t = true) : Fx.inB t.n = true := by
  unfold goodB Da.properOf datK at hg
  rw [h] at hg
  simp only [if_true, Bool.and_eq_true] at hg
  exact hg.1.1
theorem good_11 {t : Tk} (h : t.k = 11) (hg : goodB t = true) : 0 ≤ t.n ∧ t.n < 128 := by
  unfold goodB Da.properOf datK at hg
  rw [h] at hg
  simp only [show ¬ (11 : Int) = 9 by decide, show ¬ (11 : Int) = 10 by decide, show ¬ (3 : Int) = 1 by decide, show ¬ (3 : Int) = 2 by decide, if_true, if_false, Bool.and_eq_true, decide_eq_true_eq] at hg
  exact hg.1.1
theorem good_10 {t : Tk} (h : t.k = 10) (hg : goodB t = true) : t.n = 0 ∨ t.n = 1 := by
  unfold goodB Da.properOf datK at hg
  rw [h] at hg
  simp only [show ¬ (10 : Int) = 9 by decide, show ¬ (2 : Int) = 1 by decide, if_true, if_false, Bool.and_eq_true, Bool.or_eq_true, beq_iff_eq] at hg
  exact hg.1.1
theorem good_12 {t : Tk} (h : t.k = 12) (hg : goodB t = true) : t.S.length ≤ 256 ∧ ∀ k (hk : k < t.S.length), t.S[k].toNat < 128 := by
  unfold goodB Da.properOf datK at hg
  rw [h] at hg
  simp only [show ¬ (12 : Int) = 9 by decide, show ¬ (12 : Int) = 10 by decide, show ¬ (12 : Int) = 11 by decide, show ¬ (4 : Int) = 1 by decide, show ¬ (4 : Int) = 2 by decide, show ¬ (4 : Int) = 3 by decide, if_true, if_false, Bool.and_eq_true] at hg
  have h1 := hg.1.1
  unfold Da.textB at h1
  simp only [Bool.and_eq_true, Bool.not_eq_true', decide_eq_false_iff_not] at h1
  have hs : (⟨t.S.toArray⟩ : ByteArray).size = t.S.length := by show t.S.toArray.size = _; rw [List.size_toArray]
  refine ⟨by rw [hs] at h1; omega, fun k hk => ?_⟩
  have h2 := h1.2
  unfold Da.allB at h2
  have := List.all_eq_true.1 h2 t.S[k] (by simp)
  unfold Da.lowB at this
  have h3 : (t.S[k].toNat : Int) < 128 := by simpa using this
  omega
theorem good_no {t : Tk} (h : t.k < 1 ∨ 13 < t.k) : goodB t = false := by
  unfold goodB datK
  rw [if_neg (by omega), if_neg (by omega), if_neg (by omega), if_neg (by omega), if_neg (by omega)]
  rfl
theorem mark_no {t : Tk} (h : (markS t.k).isEmpty = true) : ¬ (t.k = 1 ∨ t.k = 2 ∨ t.k = 3 ∨ t.k = 4 ∨ t.k = 5 ∨ t.k = 6 ∨ t.k = 7 ∨ t.k = 8) := by
  intro hk
  rcases hk with hk | hk | hk | hk | hk | hk | hk | hk <;> (rw [hk] at h; revert h; decide)
theorem chrC_n {n : Int} (h : 0 ≤ n ∧ n < 128) : ((chrC n).toNat : Int) = n := by
  unfold chrC
  rw [UInt8.toNat_ofNat']
  omega
theorem tick_conv (w : World) : (convert 48 9 (.slice (some ⟨w.heap.size, 0, none⟩) 1 1)).run Try.prog (w.alloc (Obj.cells #[Value.int IntKind.u8 96] 5)) = .ok (.string ⟨#[96]⟩) (w.alloc (Obj.cells #[Value.int IntKind.u8 96] 5)) := one_conv w 96
theorem mark_out {k : Int} (h : k < 1 ∨ 8 < k) : (markS k).isEmpty = true := by
  have d : ∀ m : Int, 1 ≤ m → m ≤ 8 → (k == m) = false := fun m h1 h2 => by rw [beq_eq_false_iff_ne]; omega
  unfold markS
  rw [d 1 (by decide) (by decide), d 2 (by decide) (by decide), d 3 (by decide) (by decide), d 4 (by decide) (by decide), d 5 (by decide) (by decide), d 6 (by decide) (by decide), d 7 (by decide) (by decide), d 8 (by decide) (by decide)]
  rfl
theorem mark_in {k : Int} (h : 1 ≤ k ∧ k ≤ 8) : (markS k).isEmpty = false := by
  have h8 : k = 1 ∨ k = 2 ∨ k = 3 ∨ k = 4 ∨ k = 5 ∨ k = 6 ∨ k = 7 ∨ k = 8 := by omega
  rcases h8 with rfl | rfl | rfl | rfl | rfl | rfl | rfl | rfl <;> rfl
theorem textref_in (a : Int) (w : World) (ha : Fx.inB a = true) :
    Calls Try.prog 23 #[.int .i64 a] w fun e w' => e = .returned (.tuple #[.string ⟨(Fx.textL a).toArray⟩, .int .i64 0]) ∧ Below w.heap.size w w' := by
  have := Fx.text_ref a w
  unfold Fx.textR Fx.textE at this
  rw [if_pos ha, if_pos ha] at this
  exact this
theorem tk_cells {w w5 : World} (t : Tk) (hb : Below (w.alloc (.cells #[.int .i64 t.k, .int .i64 t.a, .int .i64 t.z, .int .i64 t.n, .string ⟨t.S.toArray⟩] 26)).heap.size (w.alloc (.cells #[.int .i64 t.k, .int .i64 t.a, .int .i64 t.z, .int .i64 t.n, .string ⟨t.S.toArray⟩] 26)) w5) :
    w5.cell? ⟨w.heap.size, 0, none⟩ = some (.int .i64 t.k) ∧ w5.cell? ⟨w.heap.size, 3, none⟩ = some (.int .i64 t.n) ∧ w5.cell? ⟨w.heap.size, 4, none⟩ = some (.string ⟨t.S.toArray⟩) := by
  have hlt : w.heap.size < (w.alloc (.cells #[.int .i64 t.k, .int .i64 t.a, .int .i64 t.z, .int .i64 t.n, .string ⟨t.S.toArray⟩] 26)).heap.size := by simp
  exact ⟨(hb.cell (p := ⟨w.heap.size, 0, none⟩) hlt).trans (by simp), (hb.cell (p := ⟨w.heap.size, 3, none⟩) hlt).trans (by simp), (hb.cell (p := ⟨w.heap.size, 4, none⟩) hlt).trans (by simp)⟩
theorem spell_sz (c : UInt8) : (⟨(spellS c).toArray⟩ : ByteArray).size ≤ 10 := by
  show (spellS c).toArray.size ≤ 10
  rw [List.size_toArray]
  unfold spellS encS nameS
  repeat' split
  all_goals simp
theorem spell_join (c : UInt8) : (⟨(35 :: 92 :: spellS c).toArray⟩ : ByteArray) = ⟨#[35, 92]⟩ ++ ⟨(spellS c).toArray⟩ := by
  rw [show (⟨#[35, 92]⟩ : ByteArray) = ⟨([35, 92] : Bs).toArray⟩ from rfl, str_add]; rfl
set_option maxRecDepth 100000 in
set_option maxHeartbeats 8000000 in
theorem text_any (t : Tk) (w : World) (ht : TkW t) : Calls Try.prog 7 #[tkV t] w (TextP t w) := by
  replace ht := Lib.hid ht
  unfold TextP tkV
  have HM := Lib.hid (mark_any t.k)
  obtain ⟨M, hM⟩ : ∃ M, (⟨(markS t.k).toArray⟩ : ByteArray) = M := ⟨_, rfl⟩
  rw [hM] at HM
  have hme : (M.toList == []) = (markS t.k).isEmpty := by rw [← hM, toList_mk, isEmpty_is]
  cases hb : M.toList == []
  · have hmf : (markS t.k).isEmpty = false := by rw [← hme, hb]
    obtain ⟨X, hX⟩ : ∃ X, textTk t = X := ⟨_, rfl⟩
    rw [hX]
    unfold textTk at hX
    rw [hmf, if_neg (by decide)] at hX
    by_cases hn : t.n = 0
    · have dn : (t.n != 0) = false := by simp [hn]
      have dn' : (t.n == 0) = true := by simp [hn]
      rw [dn', Bool.true_and] at hX
      obtain ⟨U, hU⟩ : ∃ U, (⟨t.S.toArray⟩ : ByteArray) = U := ⟨_, rfl⟩
      have hue : (U.toList == []) = t.S.isEmpty := by rw [← hU, toList_mk, isEmpty_is]
      rw [hU]
      cases hu : U.toList == []
      · rw [← hue, hu, if_neg (by decide)] at hX
        subst hX
        clear hM hme hmf hue hU
        go_enter Try.func7, Try.ntmps7
        go_wp2_with (go_at_call 14; refine (HM.out _).mono ?_; rintro e w' ⟨rfl, rfl⟩)
        go_ret2
        exact ⟨rfl, bel_alloc _ _⟩
      · rw [← hue, hu, if_pos rfl] at hX
        subst hX
        rw [hM]
        clear hM hme hmf hue hU
        go_enter Try.func7, Try.ntmps7
        go_wp2_with (go_at_call 14; refine (HM.out _).mono ?_; rintro e w' ⟨rfl, rfl⟩)
        go_ret2
        exact ⟨rfl, bel_alloc _ _⟩
    · have dn : (t.n != 0) = true := by simp [hn]
      have dn' : (t.n == 0) = false := by simp [hn]
      rw [dn', Bool.false_and, if_neg (by decide)] at hX
      subst hX
      clear hM hme hmf dn'
      go_enter Try.func7, Try.ntmps7
      go_wp2_with (go_at_call 14; refine (HM.out _).mono ?_; rintro e w' ⟨rfl, rfl⟩)
      go_ret2
      exact ⟨rfl, bel_alloc _ _⟩
  · have hmf : (markS t.k).isEmpty = true := by rw [← hme, hb]
    have hkn := mark_no hmf
    have hck := chk_tkD t
    obtain ⟨X, hX⟩ : ∃ X, textTk t = X := ⟨_, rfl⟩
    rw [hX]
    unfold textTk at hX
    rw [hmf, if_pos rfl] at hX
    clear hM hme hmf
    cases hg : goodB t
    · rw [hg, if_neg (by decide)] at hX hck
      subst hX
      have HC := Lib.hid hck
      clear hck hg
      go_enter Try.func7, Try.ntmps7
      go_wp2_with (go_at_call 14; refine (HM.out _).mono ?_; rintro e w' ⟨rfl, rfl⟩)
      have hlt : w.heap.size < ((w.alloc (.cells #[.int .i64 t.k, .int .i64 t.a, .int .i64 t.z, .int .i64 t.n, .string ⟨t.S.toArray⟩] 26)).drewN 1).heap.size := by show _ < (w.alloc _).heap.size; simp
      have hT0 : (fun w' : World => w'.cell? ⟨w.heap.size, 0, none⟩ = some (.int .i64 t.k) ∧ w'.cell? ⟨w.heap.size, 3, none⟩ = some (.int .i64 t.n) ∧ w'.cell? ⟨w.heap.size, 4, none⟩ = some (.string ⟨t.S.toArray⟩)) ((w.alloc (.cells #[.int .i64 t.k, .int .i64 t.a, .int .i64 t.z, .int .i64 t.n, .string ⟨t.S.toArray⟩] 26)).drewN 1) := ⟨by simp, by simp, by simp⟩
      refine Od.till_region 10 (fun _ : World => True) (fun w' : World => w'.cell? ⟨w.heap.size, 0, none⟩ = some (.int .i64 t.k) ∧ w'.cell? ⟨w.heap.size, 3, none⟩ = some (.int .i64 t.n) ∧ w'.cell? ⟨w.heap.size, 4, none⟩ = some (.string ⟨t.S.toArray⟩)) 10 (by kernel_rfl) rfl ?_
      simp only [Array.replicate_succ, Array.replicate_zero, List.push_toArray, List.nil_append, List.cons_append]
      refine Od.Till.takeT (i := 0) (d := 19) (v := .pointer (some ⟨w.heap.size, 0, none⟩)) rfl rfl (by kernel_rfl) (by kernel_rfl) (by kernel_rfl) (by kernel_rfl) (fun _ _ _ h => h) (.inl ⟨by rfl, ?_⟩) trivial hT0 ?_
      · intro wx hSw
        obtain ⟨j0, j1, j2⟩ := hSw
        go_simp
      simp only [Act.put, List.setIfInBounds_toArray, List.set_cons_zero, List.set_cons_succ]
      refine Od.Till.takeT (i := 1) (d := 20) (v := .int .i64 t.k) rfl rfl (by kernel_rfl) (by kernel_rfl) (by kernel_rfl) (by kernel_rfl) (fun _ _ _ h => h) (.inl ⟨by rfl, ?_⟩) trivial hT0 ?_
      · intro wx hSw
        obtain ⟨j0, j1, j2⟩ := hSw
        go_simp
      simp only [Act.put, List.setIfInBounds_toArray, List.set_cons_zero, List.set_cons_succ]
      refine Od.Till.takeT (i := 3) (d := 22) (v := .pointer (some ⟨w.heap.size, 3, none⟩)) rfl rfl (by kernel_rfl) (by kernel_rfl) (by kernel_rfl) (by kernel_rfl) (fun _ _ _ h => h) (.inl ⟨by rfl, ?_⟩) trivial hT0 ?_
      · intro wx hSw
        obtain ⟨j0, j1, j2⟩ := hSw
        go_simp
      simp only [Act.put, List.setIfInBounds_toArray, List.set_cons_zero, List.set_cons_succ]
      refine Od.Till.takeT (i := 4) (d := 23) (v := .int .i64 t.n) rfl rfl (by kernel_rfl) (by kernel_rfl) (by kernel_rfl) (by kernel_rfl) (fun _ _ _ h => h) (.inl ⟨by rfl, ?_⟩) trivial hT0 ?_
      · intro wx hSw
        obtain ⟨j0, j1, j2⟩ := hSw
        go_simp
      simp only [Act.put, List.setIfInBounds_toArray, List.set_cons_zero, List.set_cons_succ]
      refine Od.Till.takeT (i := 5) (d := 24) (v := .pointer (some ⟨w.heap.size, 4, none⟩)) rfl rfl (by kernel_rfl) (by kernel_rfl) (by kernel_rfl) (by kernel_rfl) (fun _ _ _ h => h) (.inl ⟨by rfl, ?_⟩) trivial hT0 ?_
      · intro wx hSw
        obtain ⟨j0, j1, j2⟩ := hSw
        go_simp
      simp only [Act.put, List.setIfInBounds_toArray, List.set_cons_zero, List.set_cons_succ]
      refine Od.Till.takeT (i := 6) (d := 25) (v := .string ⟨t.S.toArray⟩) rfl rfl (by kernel_rfl) (by kernel_rfl) (by kernel_rfl) (by kernel_rfl) (fun _ _ _ h => h) (.inl ⟨by rfl, ?_⟩) trivial hT0 ?_
      · intro wx hSw
        obtain ⟨j0, j1, j2⟩ := hSw
        go_simp
      simp only [Act.put, List.setIfInBounds_toArray, List.set_cons_zero, List.set_cons_succ]
      refine Od.Till.one (i := 2) (by kernel_rfl) rfl (fun K hK => ?_)
      rw [if_pos (by kernel_rfl)]
      go_simp
      refine (datumKind_any t.k _).mono ?_
      rintro e4 w4 ⟨rfl, rfl⟩
      refine hK.out _ _ ⟨fun _ => trivial, hT0⟩ ?_
      clear hK K
      simp only [Act.put, List.setIfInBounds_toArray, List.set_cons_zero, List.set_cons_succ]
      refine Od.Till.takeT (i := 7) (d := 26) (v := .agg #[.int .i64 (datK t.k), .int .i64 t.n, .string ⟨t.S.toArray⟩, .slice none 0 0, .slice none 0 0, .slice none 0 0]) rfl rfl (by kernel_rfl) (by kernel_rfl) (by kernel_rfl) (by kernel_rfl) (fun _ _ _ h => h) (.inl ⟨by rfl, ?_⟩) trivial hT0 ?_
      · intro wx hSw
        obtain ⟨j0, j1, j2⟩ := hSw
        go_simp
      simp only [Act.put, List.setIfInBounds_toArray, List.set_cons_zero, List.set_cons_succ]
      refine Od.Till.one (i := 8) (by kernel_rfl) rfl (fun K hK => ?_)
      rw [if_pos (by kernel_rfl)]
      go_simp
      refine (Da.check_any (tkD t) _ 0 _ (tkD_is t ht.out _ _) (Nat.zero_le _)).mono ?_
      rintro e4 w5 ⟨rfl, hb⟩
      rw [HC.out]
      have hT1 : (fun w' : World => w'.cell? ⟨w.heap.size, 0, none⟩ = some (.int .i64 t.k) ∧ w'.cell? ⟨w.heap.size, 3, none⟩ = some (.int .i64 t.n) ∧ w'.cell? ⟨w.heap.size, 4, none⟩ = some (.string ⟨t.S.toArray⟩)) w5 := ⟨(hb.cell (p := ⟨w.heap.size, 0, none⟩) hlt).trans hT0.1, (hb.cell (p := ⟨w.heap.size, 3, none⟩) hlt).trans hT0.2.1, (hb.cell (p := ⟨w.heap.size, 4, none⟩) hlt).trans hT0.2.2⟩
      have HB := Lib.hid (bel_trans (bel_alloc w (.cells #[.int .i64 t.k, .int .i64 t.a, .int .i64 t.z, .int .i64 t.n, .string ⟨t.S.toArray⟩] 26)) (bel_trans (bel_drewN _ 1) hb))
      clear hb hlt hT0
      refine hK.out _ _ ⟨fun _ => trivial, hT1⟩ ?_
      clear hK K
      simp only [Act.put, List.setIfInBounds_toArray, List.set_cons_zero, List.set_cons_succ]
      refine Od.Till.takeT (i := 9) (d := 28) (v := .bool true) rfl rfl (by kernel_rfl) (by kernel_rfl) (by kernel_rfl) (by kernel_rfl) (fun _ _ _ h => h) (.inl ⟨by rfl, ?_⟩) trivial hT1 ?_
      · intro wx hSw
        obtain ⟨j0, j1, j2⟩ := hSw
        go_simp
      simp only [Act.put, List.setIfInBounds_toArray, List.set_cons_zero, List.set_cons_succ]
      refine Od.Till.done (by kernel_rfl) ?_
      go_wp2_with fail
      go_ret2
      exact ⟨rfl, HB.out⟩
    · rw [hg, if_pos rfl] at hX hck
      have HC := Lib.hid hck
      clear hck
      go_enter Try.func7, Try.ntmps7
      go_wp2_with (go_at_call 14; refine (HM.out _).mono ?_; rintro e w' ⟨rfl, rfl⟩)
      have hlt : w.heap.size < ((w.alloc (.cells #[.int .i64 t.k, .int .i64 t.a, .int .i64 t.z, .int .i64 t.n, .string ⟨t.S.toArray⟩] 26)).drewN 1).heap.size := by show _ < (w.alloc _).heap.size; simp
      have hT0 : (fun w' : World => w'.cell? ⟨w.heap.size, 0, none⟩ = some (.int .i64 t.k) ∧ w'.cell? ⟨w.heap.size, 3, none⟩ = some (.int .i64 t.n) ∧ w'.cell? ⟨w.heap.size, 4, none⟩ = some (.string ⟨t.S.toArray⟩)) ((w.alloc (.cells #[.int .i64 t.k, .int .i64 t.a, .int .i64 t.z, .int .i64 t.n, .string ⟨t.S.toArray⟩] 26)).drewN 1) := ⟨by simp, by simp, by simp⟩
      refine Od.till_region 10 (fun _ : World => True) (fun w' : World => w'.cell? ⟨w.heap.size, 0, none⟩ = some (.int .i64 t.k) ∧ w'.cell? ⟨w.heap.size, 3, none⟩ = some (.int .i64 t.n) ∧ w'.cell? ⟨w.heap.size, 4, none⟩ = some (.string ⟨t.S.toArray⟩)) 10 (by kernel_rfl) rfl ?_
      simp only [Array.replicate_succ, Array.replicate_zero, List.push_toArray, List.nil_append, List.cons_append]
      refine Od.Till.takeT (i := 0) (d := 19) (v := .pointer (some ⟨w.heap.size, 0, none⟩)) rfl rfl (by kernel_rfl) (by kernel_rfl) (by kernel_rfl) (by kernel_rfl) (fun _ _ _ h => h) (.inl ⟨by rfl, ?_⟩) trivial hT0 ?_
      · intro wx hSw
        obtain ⟨j0, j1, j2⟩ := hSw
        go_simp
      simp only [Act.put, List.setIfInBounds_toArray, List.set_cons_zero, List.set_cons_succ]
      refine Od.Till.takeT (i := 1) (d := 20) (v := .int .i64 t.k) rfl rfl (by kernel_rfl) (by kernel_rfl) (by kernel_rfl) (by kernel_rfl) (fun _ _ _ h => h) (.inl ⟨by rfl, ?_⟩) trivial hT0 ?_
      · intro wx hSw
        obtain ⟨j0, j1, j2⟩ := hSw
        go_simp
      simp only [Act.put, List.setIfInBounds_toArray, List.set_cons_zero, List.set_cons_succ]
      refine Od.Till.takeT (i := 3) (d := 22) (v := .pointer (some ⟨w.heap.size, 3, none⟩)) rfl rfl (by kernel_rfl) (by kernel_rfl) (by kernel_rfl) (by kernel_rfl) (fun _ _ _ h => h) (.inl ⟨by rfl, ?_⟩) trivial hT0 ?_
      · intro wx hSw
        obtain ⟨j0, j1, j2⟩ := hSw
        go_simp
      simp only [Act.put, List.setIfInBounds_toArray, List.set_cons_zero, List.set_cons_succ]
      refine Od.Till.takeT (i := 4) (d := 23) (v := .int .i64 t.n) rfl rfl (by kernel_rfl) (by kernel_rfl) (by kernel_rfl) (by kernel_rfl) (fun _ _ _ h => h) (.inl ⟨by rfl, ?_⟩) trivial hT0 ?_
      · intro wx hSw
        obtain ⟨j0, j1, j2⟩ := hSw
        go_simp
      simp only [Act.put, List.setIfInBounds_toArray, List.set_cons_zero, List.set_cons_succ]
      refine Od.Till.takeT (i := 5) (d := 24) (v := .pointer (some ⟨w.heap.size, 4, none⟩)) rfl rfl (by kernel_rfl) (by kernel_rfl) (by kernel_rfl) (by kernel_rfl) (fun _ _ _ h => h) (.inl ⟨by rfl, ?_⟩) trivial hT0 ?_
      · intro wx hSw
        obtain ⟨j0, j1, j2⟩ := hSw
        go_simp
      simp only [Act.put, List.setIfInBounds_toArray, List.set_cons_zero, List.set_cons_succ]
      refine Od.Till.takeT (i := 6) (d := 25) (v := .string ⟨t.S.toArray⟩) rfl rfl (by kernel_rfl) (by kernel_rfl) (by kernel_rfl) (by kernel_rfl) (fun _ _ _ h => h) (.inl ⟨by rfl, ?_⟩) trivial hT0 ?_
      · intro wx hSw
        obtain ⟨j0, j1, j2⟩ := hSw
        go_simp
      simp only [Act.put, List.setIfInBounds_toArray, List.set_cons_zero, List.set_cons_succ]
      refine Od.Till.one (i := 2) (by kernel_rfl) rfl (fun K hK => ?_)
      rw [if_pos (by kernel_rfl)]
      go_simp
      refine (datumKind_any t.k _).mono ?_
      rintro e4 w4 ⟨rfl, rfl⟩
      refine hK.out _ _ ⟨fun _ => trivial, hT0⟩ ?_
      clear hK K
      simp only [Act.put, List.setIfInBounds_toArray, List.set_cons_zero, List.set_cons_succ]
      refine Od.Till.takeT (i := 7) (d := 26) (v := .agg #[.int .i64 (datK t.k), .int .i64 t.n, .string ⟨t.S.toArray⟩, .slice none 0 0, .slice none 0 0, .slice none 0 0]) rfl rfl (by kernel_rfl) (by kernel_rfl) (by kernel_rfl) (by kernel_rfl) (fun _ _ _ h => h) (.inl ⟨by rfl, ?_⟩) trivial hT0 ?_
      · intro wx hSw
        obtain ⟨j0, j1, j2⟩ := hSw
        go_simp
      simp only [Act.put, List.setIfInBounds_toArray, List.set_cons_zero, List.set_cons_succ]
      refine Od.Till.one (i := 8) (by kernel_rfl) rfl (fun K hK => ?_)
      rw [if_pos (by kernel_rfl)]
      go_simp
      refine (Da.check_any (tkD t) _ 0 _ (tkD_is t ht.out _ _) (Nat.zero_le _)).mono ?_
      rintro e4 w5 ⟨rfl, hb⟩
      rw [HC.out]
      have hT1 : (fun w' : World => w'.cell? ⟨w.heap.size, 0, none⟩ = some (.int .i64 t.k) ∧ w'.cell? ⟨w.heap.size, 3, none⟩ = some (.int .i64 t.n) ∧ w'.cell? ⟨w.heap.size, 4, none⟩ = some (.string ⟨t.S.toArray⟩)) w5 := ⟨(hb.cell (p := ⟨w.heap.size, 0, none⟩) hlt).trans hT0.1, (hb.cell (p := ⟨w.heap.size, 3, none⟩) hlt).trans hT0.2.1, (hb.cell (p := ⟨w.heap.size, 4, none⟩) hlt).trans hT0.2.2⟩
      have HB := Lib.hid (bel_trans (bel_alloc w (.cells #[.int .i64 t.k, .int .i64 t.a, .int .i64 t.z, .int .i64 t.n, .string ⟨t.S.toArray⟩] 26)) (bel_trans (bel_drewN _ 1) hb))
      clear hb hlt hT0
      refine hK.out _ _ ⟨fun _ => trivial, hT1⟩ ?_
      clear hK K
      simp only [Act.put, List.setIfInBounds_toArray, List.set_cons_zero, List.set_cons_succ]
      refine Od.Till.takeT (i := 9) (d := 28) (v := .bool false) rfl rfl (by kernel_rfl) (by kernel_rfl) (by kernel_rfl) (by kernel_rfl) (fun _ _ _ h => h) (.inl ⟨by rfl, ?_⟩) trivial hT1 ?_
      · intro wx hSw
        obtain ⟨j0, j1, j2⟩ := hSw
        go_simp
      simp only [Act.put, List.setIfInBounds_toArray, List.set_cons_zero, List.set_cons_succ]
      refine Od.Till.done (by kernel_rfl) ?_
      obtain ⟨c0, c3, c4⟩ := hT1
      by_cases h9 : t.k = 9
      · rw [h9] at c0
        have hxb : X = (Fx.textL t.n, 0) := by rw [← hX]; unfold bodyT; rw [if_pos h9]
        subst hxb
        have H9 := Lib.hid (good_9 h9 hg)
        clear hX hg hkn
        go_wp2_with (go_at_call 17; refine (Fx.text_fix_in t.n _ H9.out).mono ?_; rintro e w6 ⟨rfl, hb⟩; have HB6 := Lib.hid hb; clear hb)
        go_ret2
        exact ⟨rfl, bel_trans HB.out HB6.out⟩
      by_cases h10 : t.k = 10
      · rw [h10] at c0
        by_cases hn : t.n = 0
        · have hxb : X = ([35, 102], 0) := by rw [← hX]; unfold bodyT; rw [if_neg h9, if_pos h10, if_pos hn]
          subst hxb
          rw [hn] at c3
          clear hX hg hkn
          go_wp2_with (go_at_call 18; refine (boolean_0 _).mono ?_; rintro e w6 ⟨rfl, rfl⟩)
          go_ret2
          exact ⟨rfl, HB.out⟩
        · have hxb : X = ([35, 116], 0) := by rw [← hX]; unfold bodyT; rw [if_neg h9, if_pos h10, if_neg hn]
          subst hxb
          have hn1 : t.n = 1 := by rcases good_10 h10 hg with h | h; exact absurd h hn; exact h
          rw [hn1] at c3
          clear hX hg hkn
          go_wp2_with (go_at_call 18; refine (boolean_1 _).mono ?_; rintro e w6 ⟨rfl, rfl⟩)
          go_ret2
          exact ⟨rfl, HB.out⟩
      by_cases h11 : t.k = 11
      · rw [h11] at c0
        have hc := chrC_n (good_11 h11 hg)
        have hxb : X = (35 :: 92 :: spellS (chrC t.n), 0) := by rw [← hX]; unfold bodyT; rw [if_neg h9, if_neg h10, if_pos h11]
        subst hxb
        rw [← hc] at c3
        have hw := conv_u8 (chrC t.n)
        have hz := spell_sz (chrC t.n)
        have HS := Lib.hid (spell_any (chrC t.n))
        have hj := spell_join (chrC t.n)
        obtain ⟨SP, hsp⟩ : ∃ SP, (⟨(spellS (chrC t.n)).toArray⟩ : ByteArray) = SP := ⟨_, rfl⟩
        rw [hsp] at HS hz hj
        have hz1 : ¬ 9223372036854775807 < 2 + SP.size := by omega
        have HJ := Lib.hid hj
        clear hX hg hkn hc hsp hj
        go_wp2_with (go_at_call 19; refine (HS.out _).mono ?_; rintro e w6 ⟨rfl, hb⟩; have HB6 := Lib.hid hb; clear hb)
        go_ret2
        exact ⟨by rw [HJ.out]; rfl, bel_trans HB.out HB6.out⟩
      by_cases h12 : t.k = 12
      · rw [h12] at c0
        have hxb : X = (quoteS t.S, 0) := by rw [← hX]; unfold bodyT; rw [if_neg h9, if_neg h10, if_neg h11, if_pos h12]
        subst hxb
        have HS : Hid ((⟨t.S.toArray⟩ : ByteArray).size ≤ 1048576) := Lib.hid (by show t.S.toArray.size ≤ _; rw [List.size_toArray]; exact ht.out.S)
        clear hX hg hkn
        go_wp2_with (go_at_call 20; refine (quote_any ⟨t.S.toArray⟩ _ HS.out).mono ?_; rintro e w6 ⟨rfl, hb⟩; have HB6 := Lib.hid hb; clear hb)
        go_ret2
        exact ⟨rfl, bel_trans HB.out HB6.out⟩
      have hxb : X = (t.S, 0) := by rw [← hX]; unfold bodyT; rw [if_neg h9, if_neg h10, if_neg h11, if_neg h12]
      subst hxb
      have d9 : (t.k == 9) = false := by simpa using h9
      have d10 : (t.k == 10) = false := by simpa using h10
      have d11 : (t.k == 11) = false := by simpa using h11
      have d12 : (t.k == 12) = false := by simpa using h12
      clear hX hg hkn h9 h10 h11 h12
      go_wp2_with fail
      go_ret2
      exact ⟨rfl, HB.out⟩
set_option maxRecDepth 100000 in
set_option maxHeartbeats 8000000 in
theorem text_doc (t : Tk) (w : World) (ht : TkW t) : Calls Try.prog 8 #[tkV t] w (TextP t w) := by
  replace ht := Lib.hid ht
  unfold TextP tkV
  by_cases hk : 9 ≤ t.k ∧ t.k ≤ 13
  · have hdk : (datK t.k != 0) = true := by
      have h5 : t.k = 9 ∨ t.k = 10 ∨ t.k = 11 ∨ t.k = 12 ∨ t.k = 13 := by omega
      rcases h5 with h | h | h | h | h <;> rw [h] <;> rfl
    have hmf : (markS t.k).isEmpty = true := by
      have h5 : t.k = 9 ∨ t.k = 10 ∨ t.k = 11 ∨ t.k = 12 ∨ t.k = 13 := by omega
      rcases h5 with h | h | h | h | h <;> rw [h] <;> rfl
    have hck := chk_tkD t
    obtain ⟨X, hX⟩ : ∃ X, textTk t = X := ⟨_, rfl⟩
    rw [hX]
    unfold textTk at hX
    rw [hmf, if_pos rfl] at hX
    have HK := Lib.hid (kinds_any t.k)
    have HI : Hid (∀ w B, Da.IsDt w (Da.Lo B) (tkD t) (.agg #[.int .i64 (datK t.k), .int .i64 t.n, .string ⟨t.S.toArray⟩, .slice none 0 0, .slice none 0 0, .slice none 0 0])) := Lib.hid (tkD_is t ht.out)
    obtain ⟨D, hD⟩ : ∃ D, datK t.k = D := ⟨_, rfl⟩
    rw [hD] at hdk HK HI
    clear hmf hD
    cases hg : goodB t
    · rw [hg, if_neg (by decide)] at hX hck
      subst hX
      have HC := Lib.hid hck
      clear hck hg
      go_enter Try.func8, Try.ntmps8
      go_wp2_with (first | (go_at_call 21; refine (HK.out _).mono ?_; rintro e w4 ⟨rfl, rfl⟩) | (go_at_call 22; refine (Da.rcheck_any (tkD t) _ 0 _ (HI.out _ _) (Nat.zero_le _)).mono ?_; rintro e4 w5 ⟨rfl, hb⟩; rw [HC.out]; have HB := Lib.hid (bel_trans (bel_alloc w _) hb); clear hb))
      go_ret2
      exact ⟨rfl, HB.out⟩
    · rw [hg, if_pos rfl] at hX hck
      have HC := Lib.hid hck
      clear hck
      by_cases h9 : t.k = 9
      · have hxb : X = (Fx.textL t.n, 0) := by rw [← hX]; unfold bodyT; rw [if_pos h9]
        subst hxb
        have H9 := Lib.hid (good_9 h9 hg)
        have H0 := Lib.hid h9
        clear hX hg h9
        go_enter Try.func8, Try.ntmps8
        go_wp2_with (first | (go_at_call 21; refine (HK.out _).mono ?_; rintro e w4 ⟨rfl, rfl⟩) | (go_at_call 22; refine (Da.rcheck_any (tkD t) _ 0 _ (HI.out _ _) (Nat.zero_le _)).mono ?_; rintro e4 w5 ⟨rfl, hb⟩; rw [HC.out]; obtain ⟨c0, c3, c4⟩ := tk_cells t hb; rw [H0.out] at c0; have HB := Lib.hid (bel_trans (bel_alloc w _) hb); clear hb) | (go_at_call 23; refine (textref_in t.n _ H9.out).mono ?_; rintro e w6 ⟨rfl, hb⟩; have HB6 := Lib.hid hb; clear hb))
        go_ret2
        exact ⟨rfl, bel_trans HB.out HB6.out⟩
      by_cases h10 : t.k = 10
      · by_cases hn : t.n = 0
        · have hxb : X = ([35, 102], 0) := by rw [← hX]; unfold bodyT; rw [if_neg h9, if_pos h10, if_pos hn]
          subst hxb
          have H0 := Lib.hid h10
          have H1 := Lib.hid hn
          clear hX hg h9 h10 hn
          go_enter Try.func8, Try.ntmps8
          go_wp2_with (first | (go_at_call 21; refine (HK.out _).mono ?_; rintro e w4 ⟨rfl, rfl⟩) | (go_at_call 22; refine (Da.rcheck_any (tkD t) _ 0 _ (HI.out _ _) (Nat.zero_le _)).mono ?_; rintro e4 w5 ⟨rfl, hb⟩; rw [HC.out]; obtain ⟨c0, c3, c4⟩ := tk_cells t hb; rw [H0.out] at c0; rw [H1.out] at c3; have HB := Lib.hid (bel_trans (bel_alloc w _) hb); clear hb))
          go_ret2
          exact ⟨rfl, HB.out⟩
        · have hxb : X = ([35, 116], 0) := by rw [← hX]; unfold bodyT; rw [if_neg h9, if_pos h10, if_neg hn]
          subst hxb
          have hn1 : t.n = 1 := by rcases good_10 h10 hg with h | h; exact absurd h hn; exact h
          have H0 := Lib.hid h10
          have H1 := Lib.hid hn1
          clear hX hg h9 h10 hn hn1
          go_enter Try.func8, Try.ntmps8
          go_wp2_with (first | (go_at_call 21; refine (HK.out _).mono ?_; rintro e w4 ⟨rfl, rfl⟩) | (go_at_call 22; refine (Da.rcheck_any (tkD t) _ 0 _ (HI.out _ _) (Nat.zero_le _)).mono ?_; rintro e4 w5 ⟨rfl, hb⟩; rw [HC.out]; obtain ⟨c0, c3, c4⟩ := tk_cells t hb; rw [H0.out] at c0; rw [H1.out] at c3; have HB := Lib.hid (bel_trans (bel_alloc w _) hb); clear hb))
          go_ret2
          exact ⟨rfl, HB.out⟩
      by_cases h11 : t.k = 11
      · have hc := chrC_n (good_11 h11 hg)
        have h128 : (chrC t.n).toNat < 128 := by have := good_11 h11 hg; omega
        have hxb : X = (35 :: 92 :: spellS (chrC t.n), 0) := by rw [← hX]; unfold bodyT; rw [if_neg h9, if_neg h10, if_pos h11]
        subst hxb
        have H0 := Lib.hid h11
        have H1 := Lib.hid hc
        have H2 := Lib.hid h128
        clear hX hg h9 h10 h11 hc h128
        go_enter Try.func8, Try.ntmps8
        go_wp2_with (first | (go_at_call 21; refine (HK.out _).mono ?_; rintro e w4 ⟨rfl, rfl⟩) | (go_at_call 22; refine (Da.rcheck_any (tkD t) _ 0 _ (HI.out _ _) (Nat.zero_le _)).mono ?_; rintro e4 w5 ⟨rfl, hb⟩; rw [HC.out]; obtain ⟨c0, c3, c4⟩ := tk_cells t hb; rw [H0.out] at c0; rw [← H1.out] at c3; have HB := Lib.hid (bel_trans (bel_alloc w _) hb); clear hb) | (go_at_call 24; refine (charText_any (chrC t.n) _ H2.out).mono ?_; rintro e w6 ⟨rfl, hb⟩; have HB6 := Lib.hid hb; clear hb))
        go_ret2
        exact ⟨rfl, bel_trans HB.out HB6.out⟩
      by_cases h12 : t.k = 12
      · have hxb : X = (quoteS t.S, 0) := by rw [← hX]; unfold bodyT; rw [if_neg h9, if_neg h10, if_neg h11, if_pos h12]
        subst hxb
        have hlow := (good_12 h12 hg).2
        have HS : Hid ((⟨t.S.toArray⟩ : ByteArray).size ≤ 1048576) := Lib.hid (by show t.S.toArray.size ≤ _; rw [List.size_toArray]; exact ht.out.S)
        have HL : Hid (∀ k (hk : k < (⟨t.S.toArray⟩ : ByteArray).size), (⟨t.S.toArray⟩ : ByteArray)[k].toNat < 128) := Lib.hid (fun k hk => hlow k (by have h : k < t.S.toArray.size := hk; rwa [List.size_toArray] at h))
        have H0 := Lib.hid h12
        clear hX hg h9 h10 h11 h12 hlow
        go_enter Try.func8, Try.ntmps8
        go_wp2_with (first | (go_at_call 21; refine (HK.out _).mono ?_; rintro e w4 ⟨rfl, rfl⟩) | (go_at_call 22; refine (Da.rcheck_any (tkD t) _ 0 _ (HI.out _ _) (Nat.zero_le _)).mono ?_; rintro e4 w5 ⟨rfl, hb⟩; rw [HC.out]; obtain ⟨c0, c3, c4⟩ := tk_cells t hb; rw [H0.out] at c0; have HB := Lib.hid (bel_trans (bel_alloc w _) hb); clear hb) | (go_at_call 25; refine (quoted_doc ⟨t.S.toArray⟩ _ HS.out HL.out).mono ?_; rintro e w6 ⟨rfl, hb⟩; have HB6 := Lib.hid hb; clear hb))
        go_ret2
        exact ⟨rfl, bel_trans HB.out HB6.out⟩
      have hxb : X = (t.S, 0) := by rw [← hX]; unfold bodyT; rw [if_neg h9, if_neg h10, if_neg h11, if_neg h12]
      subst hxb
      have d9 : (t.k == 9) = false := by simpa using h9
      have d10 : (t.k == 10) = false := by simpa using h10
      have d11 : (t.k == 11) = false := by simpa using h11
      have d12 : (t.k == 12) = false := by simpa using h12
      clear hX hg h9 h10 h11 h12
      go_enter Try.func8, Try.ntmps8
      go_wp2_with (first | (go_at_call 21; refine (HK.out _).mono ?_; rintro e w4 ⟨rfl, rfl⟩) | (go_at_call 22; refine (Da.rcheck_any (tkD t) _ 0 _ (HI.out _ _) (Nat.zero_le _)).mono ?_; rintro e4 w5 ⟨rfl, hb⟩; rw [HC.out]; obtain ⟨c0, c3, c4⟩ := tk_cells t hb; have HB := Lib.hid (bel_trans (bel_alloc w _) hb); clear hb))
      go_ret2
      exact ⟨rfl, HB.out⟩
  · have hdk : datK t.k = 0 := by
      unfold datK
      rw [if_neg (by omega), if_neg (by omega), if_neg (by omega), if_neg (by omega), if_neg (by omega)]
    have HK : Hid (∀ w, Calls Try.prog 21 #[.int .i64 t.k] w fun e w' => e = .returned (.int .i64 0) ∧ w = w') := Lib.hid (by have := kinds_any t.k; rw [hdk] at this; exact this)
    clear hdk
    obtain ⟨X, hX⟩ : ∃ X, textTk t = X := ⟨_, rfl⟩
    rw [hX]
    unfold textTk at hX
    by_cases hlo : t.k < 1
    · have hmf : (markS t.k).isEmpty = true := mark_out (.inl hlo)
      rw [hmf, if_pos rfl, good_no (.inl hlo), if_neg (by decide)] at hX
      subst hX
      have e1 : decide (t.k < 1) = true := by simpa using hlo
      clear hmf hlo hk
      go_enter Try.func8, Try.ntmps8
      go_wp2_with (go_at_call 21; refine (HK.out _).mono ?_; rintro e w4 ⟨rfl, rfl⟩)
      go_ret2
      exact ⟨rfl, bel_alloc _ _⟩
    have e1 : decide (t.k < 1) = false := by simpa using hlo
    by_cases hhi : t.k > 8
    · have hmf : (markS t.k).isEmpty = true := mark_out (.inr (by omega))
      rw [hmf, if_pos rfl, good_no (.inr (by omega)), if_neg (by decide)] at hX
      subst hX
      have e2 : decide (t.k > 8) = true := by simpa using hhi
      clear hmf hlo hk hhi
      go_enter Try.func8, Try.ntmps8
      go_wp2_with (go_at_call 21; refine (HK.out _).mono ?_; rintro e w4 ⟨rfl, rfl⟩)
      go_ret2
      exact ⟨rfl, bel_alloc _ _⟩
    have e2 : decide (t.k > 8) = false := by simpa using hhi
    have hmf : (markS t.k).isEmpty = false := mark_in (by omega)
    rw [hmf, if_neg (by decide)] at hX
    by_cases hn : t.n = 0
    · have dn : (t.n != 0) = false := by simp [hn]
      have dn' : (t.n == 0) = true := by simp [hn]
      rw [dn', Bool.true_and] at hX
      obtain ⟨U, hU⟩ : ∃ U, (⟨t.S.toArray⟩ : ByteArray) = U := ⟨_, rfl⟩
      have hue : (U.toList == []) = t.S.isEmpty := by rw [← hU, toList_mk, isEmpty_is]
      rw [hU]
      cases hu : U.toList == []
      · rw [← hue, hu, if_neg (by decide)] at hX
        subst hX
        clear hmf hue hU dn' hlo hhi hk
        go_enter Try.func8, Try.ntmps8
        go_wp2_with (go_at_call 21; refine (HK.out _).mono ?_; rintro e w4 ⟨rfl, rfl⟩)
        go_ret2
        exact ⟨rfl, bel_alloc _ _⟩
      · rw [← hue, hu, if_pos rfl] at hX
        subst hX
        clear hmf hue hU dn' e1 e2
        obtain ⟨k, ta, tz, tn, tS⟩ := t
        simp only at *
        have h8 : k = 1 ∨ k = 2 ∨ k = 3 ∨ k = 4 ∨ k = 5 ∨ k = 6 ∨ k = 7 ∨ k = 8 := by omega
        clear hlo hhi hk dn
        subst hn
        rcases h8 with rfl | rfl | rfl | rfl | rfl | rfl | rfl | rfl
        all_goals
          have hcv := tick_conv (w.alloc (.cells #[.int .i64 5, .int .i64 ta, .int .i64 tz, .int .i64 0, .string U] 26))
          rw [World.size_alloc] at hcv
          go_enter Try.func8, Try.ntmps8
          go_wp2_with (go_at_call 21; refine (HK.out _).mono ?_; rintro e w4 ⟨rfl, rfl⟩)
          go_ret2
          first | exact ⟨rfl, bel_alloc _ _⟩ | exact ⟨rfl, bel_trans (bel_alloc _ _) (bel_alloc _ _)⟩
    · have dn : (t.n != 0) = true := by simp [hn]
      have dn' : (t.n == 0) = false := by simp [hn]
      rw [dn', Bool.false_and, if_neg (by decide)] at hX
      subst hX
      clear hmf dn' hlo hhi hk hn
      go_enter Try.func8, Try.ntmps8
      go_wp2_with (go_at_call 21; refine (HK.out _).mono ?_; rintro e w4 ⟨rfl, rfl⟩)
      go_ret2
      exact ⟨rfl, bel_alloc _ _⟩
end Go.Proofs.Ytpeleifkednmoaa.Lx
end
