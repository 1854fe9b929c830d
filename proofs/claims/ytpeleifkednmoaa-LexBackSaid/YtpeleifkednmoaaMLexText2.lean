/- Texts of characters and strings of layer 3: what the document's functions return. -/
import Derived.IntWalk
import Derived.Test.YtpeleifkednmoaaMLexText1
section
namespace Go.Proofs.Ytpeleifkednmoaa.Lx
open Go.ChangeShapes Go.WideShapes Go.ChangeAt Go.RowKit
set_option linter.unusedVariables false
set_option linter.unusedSimpArgs false

theorem wrap64_div (c : UInt8) : IntKind.i64.wrap ((c.toNat : Int) / 16) = (c.toNat : Int) / 16 := IntWalk.i64_in _ (by have := c.toNat_lt; omega)
theorem wrap64_q (c : UInt8) : IntKind.i64.wrap ((c.toNat : Int) / 16 + 1) = (c.toNat : Int) / 16 + 1 := IntWalk.i64_in _ (by have := c.toNat_lt; omega)
theorem wrap64_r (c : UInt8) : IntKind.i64.wrap ((c.toNat : Int) % 16 + 1) = (c.toNat : Int) % 16 + 1 := IntWalk.i64_in _ (by have := c.toNat_lt; omega)
theorem sl_at : ∀ q : Fin 16, ((⟨#[48, 49, 50, 51, 52, 53, 54, 55, 56, 57, 97, 98, 99, 100, 101, 102]⟩ : ByteArray).extract q.val (q.val + 1)) = ⟨#[digC q.val]⟩ := by decide
theorem sl_dig (x y : Int) (q : Nat) (hx : x = (q : Int)) (hy : y = (q : Int) + 1) (hq : q < 16) (wx : World) :
    (((Instr.slice 9 (.string ⟨#[48, 49, 50, 51, 52, 53, 54, 55, 56, 57, 97, 98, 99, 100, 101, 102]⟩) (some (.int .i64 x)) (some (.int .i64 y)) none).run Try.prog wx).andThen fun a w' => Result.ok (Next.value a) w') = Result.ok (Next.value (.string ⟨#[digC q]⟩)) wx := by
  subst hx hy
  rw [run_sub _ _ _ (by omega) (by omega) (by show (q : Int) + 1 ≤ 16; omega)]
  have := sl_at ⟨q, hq⟩
  rw [show ((q : Int)).toNat = q from rfl, show ((q : Int) + 1).toNat = q + 1 from rfl, this]
  rfl
set_option maxRecDepth 100000 in
theorem two_any (c : UInt8) (w : World) : Calls Try.prog 41 #[.int .i64 (c.toNat : Int)] w fun e w' => e = .returned (.string ⟨(encS c).toArray⟩) ∧ Below w.heap.size w w' := by
  go_enter Try.func41, Try.ntmps41
  go_wp2_with fail
  refine Od.till_region 15 (fun _ : World => True) (fun _ : World => True) 15 (by kernel_rfl) rfl ?_
  simp only [Array.replicate_succ, Array.replicate_zero, List.push_toArray, List.nil_append, List.cons_append]
  refine Od.Till.takeT (i := 0) (d := 3) (v := .int .i64 (c.toNat : Int)) rfl rfl (by kernel_rfl) (by kernel_rfl) (by kernel_rfl) (by kernel_rfl) (fun _ _ _ h => h) (.inl ⟨by rfl, ?_⟩) trivial trivial ?_
  · intro wx hSw
    clear hSw
    go_simp
  simp only [Act.put, List.setIfInBounds_toArray, List.set_cons_zero, List.set_cons_succ]
  refine Od.Till.takeT (i := 1) (d := 4) (v := .int .i64 ((c.toNat / 16 : Nat) : Int)) rfl rfl (by kernel_rfl) (by kernel_rfl) (by kernel_rfl) (by kernel_rfl) (fun _ _ _ h => h) (.inl ⟨by rfl, ?_⟩) trivial trivial ?_
  · intro wx hSw
    clear hSw
    go_simp; exact wrap64_div c
  simp only [Act.put, List.setIfInBounds_toArray, List.set_cons_zero, List.set_cons_succ]
  refine Od.Till.takeT (i := 2) (d := 5) (v := .int .i64 (c.toNat : Int)) rfl rfl (by kernel_rfl) (by kernel_rfl) (by kernel_rfl) (by kernel_rfl) (fun _ _ _ h => h) (.inl ⟨by rfl, ?_⟩) trivial trivial ?_
  · intro wx hSw
    clear hSw
    go_simp
  simp only [Act.put, List.setIfInBounds_toArray, List.set_cons_zero, List.set_cons_succ]
  refine Od.Till.takeT (i := 3) (d := 6) (v := .int .i64 ((c.toNat / 16 : Nat) : Int)) rfl rfl (by kernel_rfl) (by kernel_rfl) (by kernel_rfl) (by kernel_rfl) (fun _ _ _ h => h) (.inl ⟨by rfl, ?_⟩) trivial trivial ?_
  · intro wx hSw
    clear hSw
    go_simp; exact wrap64_div c
  simp only [Act.put, List.setIfInBounds_toArray, List.set_cons_zero, List.set_cons_succ]
  refine Od.Till.takeT (i := 4) (d := 7) (v := .int .i64 (((c.toNat / 16 : Nat) : Int) + 1)) rfl rfl (by kernel_rfl) (by kernel_rfl) (by kernel_rfl) (by kernel_rfl) (fun _ _ _ h => h) (.inl ⟨by rfl, ?_⟩) trivial trivial ?_
  · intro wx hSw
    clear hSw
    go_simp; exact wrap64_q c
  simp only [Act.put, List.setIfInBounds_toArray, List.set_cons_zero, List.set_cons_succ]
  refine Od.Till.takeT (i := 5) (d := 8) (v := .string ⟨#[digC (c.toNat / 16)]⟩) rfl rfl (by kernel_rfl) (by kernel_rfl) (by kernel_rfl) (by kernel_rfl) (fun _ _ _ h => h) (.inl ⟨by rfl, ?_⟩) trivial trivial ?_
  · intro wx hSw
    clear hSw
    go_simp; exact sl_dig _ _ (c.toNat / 16) rfl rfl (by have := c.toNat_lt; omega) _
  simp only [Act.put, List.setIfInBounds_toArray, List.set_cons_zero, List.set_cons_succ]
  refine Od.Till.takeT (i := 6) (d := 9) (v := .string ⟨#[120, digC (c.toNat / 16)]⟩) rfl rfl (by kernel_rfl) (by kernel_rfl) (by kernel_rfl) (by kernel_rfl) (fun _ _ _ h => h) (.inl ⟨by rfl, ?_⟩) trivial trivial ?_
  · intro wx hSw
    clear hSw
    go_simp; try rfl
  simp only [Act.put, List.setIfInBounds_toArray, List.set_cons_zero, List.set_cons_succ]
  refine Od.Till.takeT (i := 7) (d := 10) (v := .int .i64 (c.toNat : Int)) rfl rfl (by kernel_rfl) (by kernel_rfl) (by kernel_rfl) (by kernel_rfl) (fun _ _ _ h => h) (.inl ⟨by rfl, ?_⟩) trivial trivial ?_
  · intro wx hSw
    clear hSw
    go_simp
  simp only [Act.put, List.setIfInBounds_toArray, List.set_cons_zero, List.set_cons_succ]
  refine Od.Till.takeT (i := 8) (d := 11) (v := .int .i64 ((c.toNat % 16 : Nat) : Int)) rfl rfl (by kernel_rfl) (by kernel_rfl) (by kernel_rfl) (by kernel_rfl) (fun _ _ _ h => h) (.inl ⟨by rfl, ?_⟩) trivial trivial ?_
  · intro wx hSw
    clear hSw
    go_simp; exact Int.tmod_eq_emod_of_nonneg (Int.natCast_nonneg _)
  simp only [Act.put, List.setIfInBounds_toArray, List.set_cons_zero, List.set_cons_succ]
  refine Od.Till.takeT (i := 9) (d := 12) (v := .int .i64 (c.toNat : Int)) rfl rfl (by kernel_rfl) (by kernel_rfl) (by kernel_rfl) (by kernel_rfl) (fun _ _ _ h => h) (.inl ⟨by rfl, ?_⟩) trivial trivial ?_
  · intro wx hSw
    clear hSw
    go_simp
  simp only [Act.put, List.setIfInBounds_toArray, List.set_cons_zero, List.set_cons_succ]
  refine Od.Till.takeT (i := 10) (d := 13) (v := .int .i64 ((c.toNat % 16 : Nat) : Int)) rfl rfl (by kernel_rfl) (by kernel_rfl) (by kernel_rfl) (by kernel_rfl) (fun _ _ _ h => h) (.inl ⟨by rfl, ?_⟩) trivial trivial ?_
  · intro wx hSw
    clear hSw
    go_simp; exact Int.tmod_eq_emod_of_nonneg (Int.natCast_nonneg _)
  simp only [Act.put, List.setIfInBounds_toArray, List.set_cons_zero, List.set_cons_succ]
  refine Od.Till.takeT (i := 11) (d := 14) (v := .int .i64 (((c.toNat % 16 : Nat) : Int) + 1)) rfl rfl (by kernel_rfl) (by kernel_rfl) (by kernel_rfl) (by kernel_rfl) (fun _ _ _ h => h) (.inl ⟨by rfl, ?_⟩) trivial trivial ?_
  · intro wx hSw
    clear hSw
    go_simp; exact wrap64_r c
  simp only [Act.put, List.setIfInBounds_toArray, List.set_cons_zero, List.set_cons_succ]
  refine Od.Till.takeT (i := 12) (d := 15) (v := .string ⟨#[digC (c.toNat % 16)]⟩) rfl rfl (by kernel_rfl) (by kernel_rfl) (by kernel_rfl) (by kernel_rfl) (fun _ _ _ h => h) (.inl ⟨by rfl, ?_⟩) trivial trivial ?_
  · intro wx hSw
    clear hSw
    go_simp; exact sl_dig _ _ (c.toNat % 16) rfl rfl (Nat.mod_lt _ (by decide)) _
  simp only [Act.put, List.setIfInBounds_toArray, List.set_cons_zero, List.set_cons_succ]
  refine Od.Till.takeT (i := 13) (d := 16) (v := .string ⟨#[120, digC (c.toNat / 16), digC (c.toNat % 16)]⟩) rfl rfl (by kernel_rfl) (by kernel_rfl) (by kernel_rfl) (by kernel_rfl) (fun _ _ _ h => h) (.inl ⟨by rfl, ?_⟩) trivial trivial ?_
  · intro wx hSw
    clear hSw
    go_simp; try rfl
  simp only [Act.put, List.setIfInBounds_toArray, List.set_cons_zero, List.set_cons_succ]
  refine Od.Till.takeT (i := 14) (d := 2) (v := .string ⟨#[120, digC (c.toNat / 16), digC (c.toNat % 16)]⟩) rfl rfl (by kernel_rfl) (by kernel_rfl) (by kernel_rfl) (by kernel_rfl) (fun _ _ _ h => h) (.inl ⟨by rfl, ?_⟩) trivial trivial ?_
  · intro wx hSw
    clear hSw
    go_simp
  simp only [Act.put, List.setIfInBounds_toArray, List.set_cons_zero, List.set_cons_succ]
  refine Od.Till.done (by kernel_rfl) ?_
  go_wp2_with fail
  go_ret
  exact ⟨rfl, bel_drewN w 1⟩
theorem str_add (a b : Bs) : (⟨a.toArray⟩ : ByteArray) ++ ⟨b.toArray⟩ = ⟨(a ++ b).toArray⟩ := ByteArray.mk_append_mk a b
theorem name_no {c : UInt8} (h0 : ((c.toNat : Int) == 32) = false) (h1 : ((c.toNat : Int) == 10) = false) (h2 : ((c.toNat : Int) == 9) = false) (h3 : ((c.toNat : Int) == 0) = false) : nameS c = [] := by
  unfold nameS; rw [h0, h1, h2, h3]; rfl
theorem conv_u8 (c : UInt8) : IntKind.u8.wrap (c.toNat : Int) = (c.toNat : Int) := IntWalk.u8_in _ (by have := c.toNat_lt; omega)
set_option maxRecDepth 100000 in
theorem charText_any (c : UInt8) (w : World) (hc : c.toNat < 128) : Calls Try.prog 24 #[.int .i64 (c.toNat : Int)] w fun e w' => e = .returned (.string ⟨(35 :: 92 :: spellS c).toArray⟩) ∧ Below w.heap.size w w' := by
  cases h0 : (c.toNat : Int) == 32
  case true =>
    have hs : spellS c = [115, 112, 97, 99, 101] := by unfold spellS nameS; rw [h0]; rfl
    rw [hs]
    go_enter Try.func24, Try.ntmps24
    go_wp2_with fail
    go_ret
    exact ⟨rfl, Below.refl _ _⟩
  cases h1 : (c.toNat : Int) == 10
  case true =>
    have hs : spellS c = [110, 101, 119, 108, 105, 110, 101] := by unfold spellS nameS; rw [h0, h1]; rfl
    rw [hs]
    go_enter Try.func24, Try.ntmps24
    go_wp2_with fail
    go_ret
    exact ⟨rfl, Below.refl _ _⟩
  cases h2 : (c.toNat : Int) == 9
  case true =>
    have hs : spellS c = [116, 97, 98] := by unfold spellS nameS; rw [h0, h1, h2]; rfl
    rw [hs]
    go_enter Try.func24, Try.ntmps24
    go_wp2_with fail
    go_ret
    exact ⟨rfl, Below.refl _ _⟩
  cases h3 : (c.toNat : Int) == 0
  case true =>
    have hs : spellS c = [110, 117, 108] := by unfold spellS nameS; rw [h0, h1, h2, h3]; rfl
    rw [hs]
    go_enter Try.func24, Try.ntmps24
    go_wp2_with fail
    go_ret
    exact ⟨rfl, Below.refl _ _⟩
  have hn := name_no h0 h1 h2 h3
  by_cases h4 : (c.toNat : Int) < 32
  · have d4 : decide ((c.toNat : Int) < 32) = true := by simpa using h4
    have hs : (⟨(35 :: 92 :: spellS c).toArray⟩ : ByteArray) = ⟨#[35, 92]⟩ ++ ⟨(encS c).toArray⟩ := by
      rw [show (⟨#[35, 92]⟩ : ByteArray) = ⟨([35, 92] : Bs).toArray⟩ from rfl, str_add]
      unfold spellS printB
      rw [hn, show decide (32 ≤ (c.toNat : Int)) = false by simpa using h4]
      rfl
    rw [hs]
    clear hs hn
    go_enter Try.func24, Try.ntmps24
    go_wp2_with (go_at_call 41; refine (two_any c _).mono ?_; rintro e w' ⟨rfl, hB⟩; have HB := Lib.hid hB; clear hB)
    go_ret
    exact ⟨rfl, HB.out⟩
  · have d4 : decide ((c.toNat : Int) < 32) = false := by simpa using h4
    cases h5 : (c.toNat : Int) == 127
    · have hcv := one_conv w c
      have hw := conv_u8 c
      have h5' : (c.toNat : Int) ≠ 127 := by simpa using h5
      have hs : (⟨(35 :: 92 :: spellS c).toArray⟩ : ByteArray) = ⟨#[35, 92]⟩ ++ ⟨#[c]⟩ := by
        rw [show (⟨#[35, 92]⟩ : ByteArray) = ⟨([35, 92] : Bs).toArray⟩ from rfl, show (⟨#[c]⟩ : ByteArray) = ⟨([c] : Bs).toArray⟩ from rfl, str_add]
        unfold spellS printB
        rw [hn, show decide (32 ≤ (c.toNat : Int)) = true by simp; omega, show decide ((c.toNat : Int) ≤ 126) = true by simp; omega]
        rfl
      rw [hs]
      clear hs hn h5'
      go_enter Try.func24, Try.ntmps24
      go_wp2_with fail
      go_ret
      exact ⟨rfl, bel_alloc _ _⟩
    · have hs : (⟨(35 :: 92 :: spellS c).toArray⟩ : ByteArray) = ⟨#[35, 92]⟩ ++ ⟨(encS c).toArray⟩ := by
        rw [show (⟨#[35, 92]⟩ : ByteArray) = ⟨([35, 92] : Bs).toArray⟩ from rfl, str_add]
        have h5' : (c.toNat : Int) = 127 := by simpa using h5
        unfold spellS printB
        rw [hn, h5']
        rfl
      rw [hs]
      clear hs hn
      go_enter Try.func24, Try.ntmps24
      go_wp2_with (go_at_call 41; refine (two_any c _).mono ?_; rintro e w' ⟨rfl, hB⟩; have HB := Lib.hid hB; clear hB)
      go_ret
      exact ⟨rfl, HB.out⟩
/- A string's word. -/
def RQuoAt (s : ByteArray) (w : World) (v i : Value) (wr : World) : Prop :=
  ∃ (k : Nat) (T : ByteArray), k ≤ s.size ∧ i = .int .i64 (k : Int) ∧ v = .string T ∧ T = ⟨(34 :: quoteR (s.data.toList.take k)).toArray⟩ ∧ T.size ≤ 4 * k + 1 ∧ Below w.heap.size w wr
theorem rquo_next {s : ByteArray} {k : Nat} {T : ByteArray} (h : T = ⟨(34 :: quoteR (s.data.toList.take k)).toArray⟩) (hk : k < s.size) (L : Bs) (hL : qS s[k] = L) : T ++ ⟨L.toArray⟩ = ⟨(34 :: quoteR (s.data.toList.take (k + 1))).toArray⟩ := by
  rw [take_at s k hk, quoteR_snoc, h, str_add, hL]; rfl
theorem rsz {T X : ByteArray} {k n : Nat} (h : T.size ≤ 4 * k + 1) (hX : X.size = n) (hn : n ≤ 4 := by decide) : (T ++ X).size ≤ 4 * (k + 1) + 1 := by
  rw [ByteArray.size_append]; omega
theorem enc4 (c : UInt8) : ((⟨#[92]⟩ : ByteArray) ++ ⟨(encS c).toArray⟩).size = 4 := by
  rw [ByteArray.size_append]; rfl
theorem rsz4 {T : ByteArray} {k : Nat} {c : UInt8} (h : T.size ≤ 4 * k + 1) : (T ++ ((⟨#[92]⟩ : ByteArray) ++ ⟨(encS c).toArray⟩)).size ≤ 4 * (k + 1) + 1 := rsz h (enc4 c)
theorem rquo_esc {c : UInt8} (h : (escapeS c).isEmpty = false) : qS c = escapeS c := by unfold qS; rw [if_neg (by rw [h]; decide)]
theorem esc_no {c : UInt8} (h0 : ((c.toNat : Int) == 10) = false) (h1 : ((c.toNat : Int) == 9) = false) (h2 : ((c.toNat : Int) == 92) = false) (h3 : ((c.toNat : Int) == 34) = false) : escapeS c = [] := by
  unfold escapeS; rw [h0, h1, h2, h3]; rfl
set_option maxRecDepth 100000 in
set_option maxHeartbeats 4000000 in
theorem quoted_doc (s : ByteArray) (w : World) (hs : s.size ≤ 1048576) (hlow : ∀ k (hk : k < s.size), s[k].toNat < 128) : Calls Try.prog 25 #[.string s] w fun e w' => e = .returned (.string ⟨(quoteS s.data.toList).toArray⟩) ∧ Below w.heap.size w w' := by
  have Hlow := Lib.hid hlow
  clear hlow
  go_enter Try.func25, Try.ntmps25
  go_wp2_with fail
  go_loopw [3, 4] (fun v i wr => RQuoAt s w v i wr) (fun _ i _ => s.size - (intOf i).toNat)
  case atStart => exact ⟨0, ⟨#[34]⟩, Nat.zero_le _, rfl, rfl, rfl, by decide, Below.refl _ _⟩
  case round =>
    obtain ⟨k, T, hk, rfl, rfl, ho, hzb, hbel⟩ := hrel
    have HZB := Lib.hid hzb
    have z1 : ¬ 9223372036854775807 < T.size + 1 := by omega
    have z2 : ¬ 9223372036854775807 < T.size + 2 := by omega
    have z4 : ¬ 9223372036854775807 < T.size + 4 := by omega
    have Ho := Lib.hid ho
    have Hbel := Lib.hid hbel
    have hsz := hbel.size
    clear ho hbel
    by_cases hlt : k < s.size
    · have dl : decide ((k : Int) < (s.size : Int)) = true := by simp [hlt]
      have i1 : (k : Int) < s.size := by omega
      have hnx := rquo_next Ho.out hlt
      have HN := Lib.hid hnx
      have h128 := Hlow.out k hlt
      clear hnx Ho
      cases e0 : (s[k].toNat : Int) == 10
      case true =>
        have hq : qS s[k] = [92, 110] := by rw [u8_is (n := 10) (by decide) e0]; rfl
        have HQ := Lib.hid (HN.out _ hq)
        clear hq HN
        go_wp2_with fail
        go_roundw
        case rel => exact ⟨k + 1, T ++ ⟨#[92, 110]⟩, by omega, by go_num, rfl, HQ.out, rsz HZB.out (by rfl), Hbel.out⟩
        case measure => simp [intOf]; omega
      cases e1 : (s[k].toNat : Int) == 9
      case true =>
        have hq : qS s[k] = [92, 116] := by rw [u8_is (n := 9) (by decide) e1]; rfl
        have HQ := Lib.hid (HN.out _ hq)
        clear hq HN
        go_wp2_with fail
        go_roundw
        case rel => exact ⟨k + 1, T ++ ⟨#[92, 116]⟩, by omega, by go_num, rfl, HQ.out, rsz HZB.out (by rfl), Hbel.out⟩
        case measure => simp [intOf]; omega
      cases e2 : (s[k].toNat : Int) == 34
      case true =>
        have hq : qS s[k] = [92, 34] := by rw [u8_is (n := 34) (by decide) e2]; rfl
        have HQ := Lib.hid (HN.out _ hq)
        clear hq HN
        go_wp2_with fail
        go_roundw
        case rel => exact ⟨k + 1, T ++ ⟨#[92, 34]⟩, by omega, by go_num, rfl, HQ.out, rsz HZB.out (by rfl), Hbel.out⟩
        case measure => simp [intOf]; omega
      cases e3 : (s[k].toNat : Int) == 92
      case true =>
        have hq : qS s[k] = [92, 92] := by rw [u8_is (n := 92) (by decide) e3]; rfl
        have HQ := Lib.hid (HN.out _ hq)
        clear hq HN
        go_wp2_with fail
        go_roundw
        case rel => exact ⟨k + 1, T ++ ⟨#[92, 92]⟩, by omega, by go_num, rfl, HQ.out, rsz HZB.out (by rfl), Hbel.out⟩
        case measure => simp [intOf]; omega
      have hesc := esc_no e0 e1 e3 e2
      by_cases h4 : (s[k].toNat : Int) < 32
      · have d4 : decide ((s[k].toNat : Int) < 32) = true := by simpa using h4
        have hq : qS s[k] = 92 :: encS s[k] := by
          unfold qS printB
          rw [hesc, show decide (32 ≤ (s[k].toNat : Int)) = false by simpa using h4]; rfl
        have HQ : Hid (T ++ (⟨#[92]⟩ ++ ⟨(encS s[k]).toArray⟩) = ⟨(34 :: quoteR (s.data.toList.take (k + 1))).toArray⟩) := Lib.hid (by rw [show (⟨#[92]⟩ : ByteArray) = ⟨([92] : Bs).toArray⟩ from rfl, str_add]; exact HN.out _ hq)
        clear hq HN hesc
        go_wp2_with (go_at_call 41; refine (two_any s[k] _).mono ?_; rintro e w2 ⟨rfl, hB⟩; have HB := Lib.hid hB; clear hB)
        go_roundw
        case rel => exact ⟨k + 1, T ++ (⟨#[92]⟩ ++ ⟨(encS s[k]).toArray⟩), by omega, by go_num, rfl, HQ.out, rsz4 HZB.out, Hbel.out.trans (HB.out.mono hsz)⟩
        case measure => simp [intOf]; omega
      · have d4 : decide ((s[k].toNat : Int) < 32) = false := by simpa using h4
        cases h5 : (s[k].toNat : Int) == 127
        · have hcv := one_conv wr s[k]
          have h5' : (s[k].toNat : Int) ≠ 127 := by simpa using h5
          have hq : qS s[k] = [s[k]] := by
            unfold qS printB
            rw [hesc, show decide (32 ≤ (s[k].toNat : Int)) = true by simp; omega, show decide ((s[k].toNat : Int) ≤ 126) = true by simp; omega]; rfl
          have HQ := Lib.hid (HN.out _ hq)
          clear hq HN hesc h5'
          go_wp2_with fail
          go_roundw
          case rel => exact ⟨k + 1, T ++ ⟨#[s[k]]⟩, by omega, by go_num, rfl, HQ.out, rsz (n := 1) HZB.out (by rfl), Hbel.out.alloc hsz _⟩
          case measure => simp [intOf]; omega
        · have h5' : (s[k].toNat : Int) = 127 := by simpa using h5
          have hq : qS s[k] = 92 :: encS s[k] := by
            unfold qS printB
            rw [hesc, h5']; rfl
          have HQ : Hid (T ++ (⟨#[92]⟩ ++ ⟨(encS s[k]).toArray⟩) = ⟨(34 :: quoteR (s.data.toList.take (k + 1))).toArray⟩) := Lib.hid (by rw [show (⟨#[92]⟩ : ByteArray) = ⟨([92] : Bs).toArray⟩ from rfl, str_add]; exact HN.out _ hq)
          clear hq HN hesc h5'
          go_wp2_with (go_at_call 41; refine (two_any s[k] _).mono ?_; rintro e w2 ⟨rfl, hB⟩; have HB := Lib.hid hB; clear hB)
          go_roundw
          case rel => exact ⟨k + 1, T ++ (⟨#[92]⟩ ++ ⟨(encS s[k]).toArray⟩), by omega, by go_num, rfl, HQ.out, rsz4 HZB.out, Hbel.out.trans (HB.out.mono hsz)⟩
          case measure => simp [intOf]; omega
    · have dl : decide ((k : Int) < (s.size : Int)) = false := by simp [hlt]
      have hfin : T ++ ⟨#[34]⟩ = ⟨(quoteS s.data.toList).toArray⟩ := by
        rw [Ho.out, List.take_of_length_le (by rw [len_of]; omega), show (⟨#[34]⟩ : ByteArray) = ⟨([34] : Bs).toArray⟩ from rfl, str_add]; rfl
      have HF := Lib.hid hfin
      clear hfin Ho
      go_wp2_with fail
      go_ret
      exact ⟨by rw [← HF.out]; rfl, Hbel.out⟩
end Go.Proofs.Ytpeleifkednmoaa.Lx
end
