/- Characters and runs with which a text begins (layer 3): the program's function. -/
import Derived.Deep.Cut
import Derived.Test.YtpeleifkednmoaaMLexScan
section
namespace Go.Proofs.Ytpeleifkednmoaa.Lx
open Go.ChangeShapes Go.WideShapes Go.ChangeAt Go.RowKit
set_option linter.unusedVariables false
theorem spelledN_le {t : ByteArray} (h : 2 < t.size) : 3 ≤ spelledN t.data.toList ∧ spelledN t.data.toList ≤ t.size := by
  rw [spelledN_at t h]
  by_cases hb : lowerB t[2] = true
  · rw [if_pos hb]
    have h1 := (List.takeWhile_prefix (l := t.data.toList.drop 3) (fun x => lowerB x || digitB x)).length_le
    rw [List.length_drop, len_of] at h1
    omega
  · rw [if_neg hb]; omega
theorem runN_le {t : ByteArray} (h : 0 < t.size) : 1 ≤ runN t.data.toList ∧ runN t.data.toList ≤ t.size := by
  rw [runN_at t h]
  have h1 := (List.takeWhile_prefix (l := t.data.toList.drop 1) (fun x => !delimB x)).length_le
  rw [List.length_drop, len_of] at h1
  omega
theorem run_to (s : ByteArray) (i : Nat) (h : i ≤ s.size) (w : World) :
    (Instr.slice 9 (.string s) none (some (.int .i64 (i : Int))) none).run Try.prog w = .ok (.string (s.extract 0 i)) w := by
  rw [run_slice_string_to_if (P := Try.prog) w 9 s .i64 (i : Int) Try.underlying9, if_pos (by omega)]
  simp
set_option maxRecDepth 100000 in
set_option maxHeartbeats 4000000 in
theorem scan_open (s : ByteArray) (a : Nat) (w : World) (hs : s.size ≤ 140737488351232) (ha : a < s.size) (hM : Hid (markF kinds7 (s.data.toList.drop a) = 0)) (hq : Hid (isQuote (s.data.toList.drop a) = false)) (ho : Hid ((s.data.toList.drop a == [35, 92]) = true)) :
    Calls Try.prog 29 #[.string s, .int .i64 (a : Int)] w fun e w' => e = .returned (.tuple #[tokV 0 0 0 0 [], .int .i64 31]) ∧ Below w.heap.size w w' := by
  have Hs := Lib.hid hs
  have hr := run_from s a (by omega)
  have hz := ext_size s a (by omega)
  have hl : (s.extract a s.size).data.toList = s.data.toList.drop a := Lib.extract_to_end s a
  generalize s.extract a s.size = t at *
  have ht0 : 0 < t.size := by omega
  have hts : t.size ≤ s.size := by omega
  have Ht : Hid (t.size ≤ maxLen) := by show t.size ≤ maxLen; simp only [maxLen]; omega
  have Hz := Lib.hid hz
  clear hz hs
  rw [← hl] at hM hq ho
  have HM := hM
  have Hs2 := Hs.out
  have hst : t.size ≤ s.size - a := by rw [Hz.out]; exact Nat.le_refl _
  have e34 : ((t[0].toNat : Int) == 34) = false := by rw [← isQuote_at ht0]; exact hq.out
  clear hM hq
  have eo : (t.toList == [35, 92]) = true := by rw [ByteArray.toList_eq]; exact ho.out
  clear ho hl
  go_enter Try.func29, Try.ntmps29
  go_wp2_with fail
  refine wp_scope_fwd 0 rfl ?_
  go_wp2_with fail
  obtain ⟨hbX, hsX, hkX⟩ := start_allocs [(#[.int .i64 0, .int .i64 0, .int .i64 0, .int .i64 0, .string ⟨#[]⟩], 26), (#[.int .i64 0, .int .i64 0, .int .i64 0, .int .i64 0, .string ⟨#[]⟩], 26)] w
  have g0 := hkX 0 _ rfl
  have g1 := hkX 1 _ rfl
  simp only [allocs, List.foldl_cons, List.foldl_nil, Nat.add_zero] at hbX g0 g1
  clear hkX hsX
  generalize (w.alloc (.cells #[.int .i64 0, .int .i64 0, .int .i64 0, .int .i64 0, .string ⟨#[]⟩] 26)).alloc (.cells #[.int .i64 0, .int .i64 0, .int .i64 0, .int .i64 0, .string ⟨#[]⟩] 26) = X at *
  refine (marked_any t _).mono ?_
  rintro e w1 ⟨rfl, hb⟩
  rw [HM.out]
  have BR := Lib.hid (g0.bel hb)
  have BT := Lib.hid (g1.bel hb)
  have HB := Lib.hid (bel_trans hbX hb)
  clear hb hbX g0 g1
  have cr0 : w1.cell? ⟨w.heap.size, 0, none⟩ = some (.int .i64 0) := (BR.out.cell 0).trans rfl
  have fr0 : w1.frozen? ⟨w.heap.size, 0, none⟩ = false := BR.out.frozen 0
  have cr1 : w1.cell? ⟨w.heap.size, 1, none⟩ = some (.int .i64 0) := (BR.out.cell 1).trans rfl
  have fr1 : w1.frozen? ⟨w.heap.size, 1, none⟩ = false := BR.out.frozen 1
  have cr2 : w1.cell? ⟨w.heap.size, 2, none⟩ = some (.int .i64 0) := (BR.out.cell 2).trans rfl
  have fr2 : w1.frozen? ⟨w.heap.size, 2, none⟩ = false := BR.out.frozen 2
  have cr3 : w1.cell? ⟨w.heap.size, 3, none⟩ = some (.int .i64 0) := (BR.out.cell 3).trans rfl
  have fr3 : w1.frozen? ⟨w.heap.size, 3, none⟩ = false := BR.out.frozen 3
  have cr4 : w1.cell? ⟨w.heap.size, 4, none⟩ = some (.string ⟨#[]⟩) := (BR.out.cell 4).trans rfl
  have fr4 : w1.frozen? ⟨w.heap.size, 4, none⟩ = false := BR.out.frozen 4
  have ct0 : w1.cell? ⟨w.heap.size + 1, 0, none⟩ = some (.int .i64 0) := (BT.out.cell 0).trans rfl
  have ft0 : w1.frozen? ⟨w.heap.size + 1, 0, none⟩ = false := BT.out.frozen 0
  have ct1 : w1.cell? ⟨w.heap.size + 1, 1, none⟩ = some (.int .i64 0) := (BT.out.cell 1).trans rfl
  have ft1 : w1.frozen? ⟨w.heap.size + 1, 1, none⟩ = false := BT.out.frozen 1
  have ct2 : w1.cell? ⟨w.heap.size + 1, 2, none⟩ = some (.int .i64 0) := (BT.out.cell 2).trans rfl
  have ft2 : w1.frozen? ⟨w.heap.size + 1, 2, none⟩ = false := BT.out.frozen 2
  have ct3 : w1.cell? ⟨w.heap.size + 1, 3, none⟩ = some (.int .i64 0) := (BT.out.cell 3).trans rfl
  have ft3 : w1.frozen? ⟨w.heap.size + 1, 3, none⟩ = false := BT.out.frozen 3
  have ct4 : w1.cell? ⟨w.heap.size + 1, 4, none⟩ = some (.string ⟨#[]⟩) := (BT.out.cell 4).trans rfl
  have ft4 : w1.frozen? ⟨w.heap.size + 1, 4, none⟩ = false := BT.out.frozen 4
  have z0 : w.heap.size < w1.heap.size := BR.out.lt
  have z1 : w.heap.size + 1 < w1.heap.size := BT.out.lt
  go_wp2_with fail
  go_step3
  refine ⟨rfl, ?_⟩
  go_wp2_with fail
  rw [Exit.noGoto_ret]
  refine scan_fin w _ _ _ _ _ _ _ _ _ rfl rfl rfl (Blk.as (c := ?cc5) ?hb5 ?he5) ?hl5
  case hb5 => exact (((((BR.out.set _ _).set _ _).set _ _).set _ _).set _ _)
  case he5 => rfl
  case hl5 => exact (((((HB.out.setCell (Nat.le_refl _) _).setCell (Nat.le_refl _) _).setCell (Nat.le_refl _) _).setCell (Nat.le_refl _) _).setCell (Nat.le_refl _) _)
set_option maxRecDepth 100000 in
set_option maxHeartbeats 4000000 in
theorem scan_char (s : ByteArray) (a : Nat) (w : World) (hs : s.size ≤ 140737488351232) (ha : a < s.size) (hM : Hid (markF kinds7 (s.data.toList.drop a) = 0)) (hq : Hid (isQuote (s.data.toList.drop a) = false)) (ho : Hid ((s.data.toList.drop a == [35, 92]) = false))
    (hp : Hid (Lib.hasPrefix (s.data.toList.drop a) [35, 92] = true)) :
    Calls Try.prog 29 #[.string s, .int .i64 (a : Int)] w fun e w' => e = .returned (.tuple #[scV (charSc (s.data.toList.drop a)) a, .int .i64 (charSc (s.data.toList.drop a)).e]) ∧ Below w.heap.size w w' := by
  have Hs := Lib.hid hs
  have hr := run_from s a (by omega)
  have hz := ext_size s a (by omega)
  have hl : (s.extract a s.size).data.toList = s.data.toList.drop a := Lib.extract_to_end s a
  generalize s.extract a s.size = t at *
  have ht0 : 0 < t.size := by omega
  have hts : t.size ≤ s.size := by omega
  have Ht : Hid (t.size ≤ maxLen) := by show t.size ≤ maxLen; simp only [maxLen]; omega
  have Hz := Lib.hid hz
  clear hz hs
  rw [← hl] at hM hq ho hp ⊢
  have HM := hM
  have Hs2 := Hs.out
  have hst : t.size ≤ s.size - a := by rw [Hz.out]; exact Nat.le_refl _
  have e34 : ((t[0].toNat : Int) == 34) = false := by rw [← isQuote_at ht0]; exact hq.out
  clear hM hq
  have eo : (t.toList == [35, 92]) = false := by rw [ByteArray.toList_eq]; exact ho.out
  have h3 : 2 < t.size := by
    have h2 := prefix_len _ _ hp.out
    rw [len_of] at h2
    rcases Nat.lt_or_ge 2 t.size with h | h
    · exact h
    · exfalso
      have hpp := hp.out
      have h2' : t.size = 2 := Nat.le_antisymm h h2
      obtain ⟨r, hr⟩ := List.isPrefixOf_iff_prefix.1 hpp
      have hlen : t.data.toList.length = 2 := by rw [len_of]; exact h2'
      rw [← hr, List.length_append] at hlen
      have hr0 : r = [] := by simpa using hlen
      have hoo := ho.out
      rw [← hr, hr0] at hoo
      exact absurd hoo (by decide)
  have Hp := hp
  clear ho hl hp
  obtain ⟨q1, q2⟩ := spelledN_le h3
  have hR : charSc t.data.toList = if charB (t.extract 2 (spelledN t.data.toList)).data.toList = true then ⟨11, charV (t.extract 2 (spelledN t.data.toList)).data.toList, [], spelledN t.data.toList, 0⟩ else bad 30 := by rw [Lib.extract_data]; rfl
  rw [hR]
  clear hR
  have HQ := Lib.hid (spelled_any t · Ht.out h3)
  obtain ⟨q, hqq⟩ : ∃ q, spelledN t.data.toList = q := ⟨_, rfl⟩
  rw [hqq] at q1 q2 HQ ⊢
  clear hqq
  have hr2 := run_sub t 2 q (by omega) (by omega) (by omega)
  simp only [Int.reduceToNat, Int.toNat_natCast] at hr2
  have hisz := ext_le t 2 q
  generalize t.extract 2 q = u at *
  have hu : Hid (u.size ≤ maxLen) := by show u.size ≤ maxLen; simp only [maxLen]; omega
  clear hisz
  obtain ⟨v, hv⟩ : ∃ v, charV u.data.toList = v := ⟨_, rfl⟩
  obtain ⟨b, hb⟩ : ∃ b, charB u.data.toList = b := ⟨_, rfl⟩
  rw [hv, hb]
  have HV := Lib.hid hv
  have HBB := Lib.hid hb
  clear hv hb
  cases b
  · rw [if_neg (by decide)]
    show Calls _ _ _ _ fun e w' => e = .returned (.tuple #[tokV 0 0 0 0 [], .int .i64 30]) ∧ _
    go_enter Try.func29, Try.ntmps29
    go_wp2_with fail
    refine wp_scope_fwd 0 rfl ?_
    go_wp2_with fail
    obtain ⟨hbX, hsX, hkX⟩ := start_allocs [(#[.int .i64 0, .int .i64 0, .int .i64 0, .int .i64 0, .string ⟨#[]⟩], 26), (#[.int .i64 0, .int .i64 0, .int .i64 0, .int .i64 0, .string ⟨#[]⟩], 26)] w
    have g0 := hkX 0 _ rfl
    have g1 := hkX 1 _ rfl
    simp only [allocs, List.foldl_cons, List.foldl_nil, Nat.add_zero] at hbX g0 g1
    clear hkX hsX
    generalize (w.alloc (.cells #[.int .i64 0, .int .i64 0, .int .i64 0, .int .i64 0, .string ⟨#[]⟩] 26)).alloc (.cells #[.int .i64 0, .int .i64 0, .int .i64 0, .int .i64 0, .string ⟨#[]⟩] 26) = X at *
    refine (marked_any t _).mono ?_
    rintro e w1 ⟨rfl, hb⟩
    rw [HM.out]
    have BR := Lib.hid (g0.bel hb)
    have BT := Lib.hid (g1.bel hb)
    have HB := Lib.hid (bel_trans hbX hb)
    clear hb hbX g0 g1
    have cr0 : w1.cell? ⟨w.heap.size, 0, none⟩ = some (.int .i64 0) := (BR.out.cell 0).trans rfl
    have fr0 : w1.frozen? ⟨w.heap.size, 0, none⟩ = false := BR.out.frozen 0
    have cr1 : w1.cell? ⟨w.heap.size, 1, none⟩ = some (.int .i64 0) := (BR.out.cell 1).trans rfl
    have fr1 : w1.frozen? ⟨w.heap.size, 1, none⟩ = false := BR.out.frozen 1
    have cr2 : w1.cell? ⟨w.heap.size, 2, none⟩ = some (.int .i64 0) := (BR.out.cell 2).trans rfl
    have fr2 : w1.frozen? ⟨w.heap.size, 2, none⟩ = false := BR.out.frozen 2
    have cr3 : w1.cell? ⟨w.heap.size, 3, none⟩ = some (.int .i64 0) := (BR.out.cell 3).trans rfl
    have fr3 : w1.frozen? ⟨w.heap.size, 3, none⟩ = false := BR.out.frozen 3
    have cr4 : w1.cell? ⟨w.heap.size, 4, none⟩ = some (.string ⟨#[]⟩) := (BR.out.cell 4).trans rfl
    have fr4 : w1.frozen? ⟨w.heap.size, 4, none⟩ = false := BR.out.frozen 4
    have ct0 : w1.cell? ⟨w.heap.size + 1, 0, none⟩ = some (.int .i64 0) := (BT.out.cell 0).trans rfl
    have ft0 : w1.frozen? ⟨w.heap.size + 1, 0, none⟩ = false := BT.out.frozen 0
    have ct1 : w1.cell? ⟨w.heap.size + 1, 1, none⟩ = some (.int .i64 0) := (BT.out.cell 1).trans rfl
    have ft1 : w1.frozen? ⟨w.heap.size + 1, 1, none⟩ = false := BT.out.frozen 1
    have ct2 : w1.cell? ⟨w.heap.size + 1, 2, none⟩ = some (.int .i64 0) := (BT.out.cell 2).trans rfl
    have ft2 : w1.frozen? ⟨w.heap.size + 1, 2, none⟩ = false := BT.out.frozen 2
    have ct3 : w1.cell? ⟨w.heap.size + 1, 3, none⟩ = some (.int .i64 0) := (BT.out.cell 3).trans rfl
    have ft3 : w1.frozen? ⟨w.heap.size + 1, 3, none⟩ = false := BT.out.frozen 3
    have ct4 : w1.cell? ⟨w.heap.size + 1, 4, none⟩ = some (.string ⟨#[]⟩) := (BT.out.cell 4).trans rfl
    have ft4 : w1.frozen? ⟨w.heap.size + 1, 4, none⟩ = false := BT.out.frozen 4
    have z0 : w.heap.size < w1.heap.size := BR.out.lt
    have z1 : w.heap.size + 1 < w1.heap.size := BT.out.lt
    go_wp2_with (first | (go_at_call 47; refine (hasPrefix_is t ⟨#[35, 92]⟩ _ true Hp).mono ?_; rintro e w' ⟨rfl, rfl⟩) | (go_at_call 52; refine (HQ.out _).mono ?_; rintro e w' ⟨rfl, rfl⟩))
    refine (character_any u _ hu.out v false HV HBB).mono ?_
    rintro e w2 ⟨rfl, hb⟩
    have BR2 := (BR.out.other (Nat.succ_ne_self _) 0 (.int .i64 11)).bel hb
    have BT2 := (BT.out.set 0 (.int .i64 11)).bel hb
    replace BR := Lib.hid BR2
    replace BT : Hid (Blk w2 (w.heap.size + 1) 26 #[.int .i64 11, .int .i64 0, .int .i64 0, .int .i64 0, .string ⟨#[]⟩]) := BT2.as rfl
    replace HB := Lib.hid (bel_trans (HB.out.setCell (Nat.le_succ _) _) hb)
    clear hb BR2 BT2
    clear cr0 fr0 cr1 fr1 cr2 fr2 cr3 fr3 cr4 fr4 ct0 ft0 ct1 ft1 ct2 ft2 ct3 ft3 ct4 ft4 z0 z1
    have cr0 : w2.cell? ⟨w.heap.size, 0, none⟩ = some (.int .i64 0) := (BR.out.cell 0).trans rfl
    have fr0 : w2.frozen? ⟨w.heap.size, 0, none⟩ = false := BR.out.frozen 0
    have cr1 : w2.cell? ⟨w.heap.size, 1, none⟩ = some (.int .i64 0) := (BR.out.cell 1).trans rfl
    have fr1 : w2.frozen? ⟨w.heap.size, 1, none⟩ = false := BR.out.frozen 1
    have cr2 : w2.cell? ⟨w.heap.size, 2, none⟩ = some (.int .i64 0) := (BR.out.cell 2).trans rfl
    have fr2 : w2.frozen? ⟨w.heap.size, 2, none⟩ = false := BR.out.frozen 2
    have cr3 : w2.cell? ⟨w.heap.size, 3, none⟩ = some (.int .i64 0) := (BR.out.cell 3).trans rfl
    have fr3 : w2.frozen? ⟨w.heap.size, 3, none⟩ = false := BR.out.frozen 3
    have cr4 : w2.cell? ⟨w.heap.size, 4, none⟩ = some (.string ⟨#[]⟩) := (BR.out.cell 4).trans rfl
    have fr4 : w2.frozen? ⟨w.heap.size, 4, none⟩ = false := BR.out.frozen 4
    have ct0 : w2.cell? ⟨w.heap.size + 1, 0, none⟩ = some (.int .i64 11) := (BT.out.cell 0).trans rfl
    have ft0 : w2.frozen? ⟨w.heap.size + 1, 0, none⟩ = false := BT.out.frozen 0
    have ct1 : w2.cell? ⟨w.heap.size + 1, 1, none⟩ = some (.int .i64 0) := (BT.out.cell 1).trans rfl
    have ft1 : w2.frozen? ⟨w.heap.size + 1, 1, none⟩ = false := BT.out.frozen 1
    have ct2 : w2.cell? ⟨w.heap.size + 1, 2, none⟩ = some (.int .i64 0) := (BT.out.cell 2).trans rfl
    have ft2 : w2.frozen? ⟨w.heap.size + 1, 2, none⟩ = false := BT.out.frozen 2
    have ct3 : w2.cell? ⟨w.heap.size + 1, 3, none⟩ = some (.int .i64 0) := (BT.out.cell 3).trans rfl
    have ft3 : w2.frozen? ⟨w.heap.size + 1, 3, none⟩ = false := BT.out.frozen 3
    have ct4 : w2.cell? ⟨w.heap.size + 1, 4, none⟩ = some (.string ⟨#[]⟩) := (BT.out.cell 4).trans rfl
    have ft4 : w2.frozen? ⟨w.heap.size + 1, 4, none⟩ = false := BT.out.frozen 4
    have z0 : w.heap.size < w2.heap.size := BR.out.lt
    have z1 : w.heap.size + 1 < w2.heap.size := BT.out.lt
    go_wp2_with fail
    go_step3
    refine ⟨rfl, ?_⟩
    go_wp2_with fail
    rw [Exit.noGoto_ret]
    refine scan_fin w _ _ _ _ _ _ _ _ _ rfl rfl rfl (Blk.as (c := ?cc6) ?hb6 ?he6) ?hl6
    case hb6 => exact ((((((BR.out.other (Nat.succ_ne_self _) _ _).set _ _).set _ _).set _ _).set _ _).set _ _)
    case he6 => rfl
    case hl6 => exact ((((((HB.out.setCell (Nat.le_succ _) _).setCell (Nat.le_refl _) _).setCell (Nat.le_refl _) _).setCell (Nat.le_refl _) _).setCell (Nat.le_refl _) _).setCell (Nat.le_refl _) _)
  · rw [if_pos rfl]
    show Calls _ _ _ _ fun e w' => e = .returned (.tuple #[tokV 11 a ((a + q : Nat) : Int) v [], .int .i64 0]) ∧ _
    go_enter Try.func29, Try.ntmps29
    go_wp2_with fail
    refine wp_scope_fwd 0 rfl ?_
    go_wp2_with fail
    obtain ⟨hbX, hsX, hkX⟩ := start_allocs [(#[.int .i64 0, .int .i64 0, .int .i64 0, .int .i64 0, .string ⟨#[]⟩], 26), (#[.int .i64 0, .int .i64 0, .int .i64 0, .int .i64 0, .string ⟨#[]⟩], 26)] w
    have g0 := hkX 0 _ rfl
    have g1 := hkX 1 _ rfl
    simp only [allocs, List.foldl_cons, List.foldl_nil, Nat.add_zero] at hbX g0 g1
    clear hkX hsX
    generalize (w.alloc (.cells #[.int .i64 0, .int .i64 0, .int .i64 0, .int .i64 0, .string ⟨#[]⟩] 26)).alloc (.cells #[.int .i64 0, .int .i64 0, .int .i64 0, .int .i64 0, .string ⟨#[]⟩] 26) = X at *
    refine (marked_any t _).mono ?_
    rintro e w1 ⟨rfl, hb⟩
    rw [HM.out]
    have BR := Lib.hid (g0.bel hb)
    have BT := Lib.hid (g1.bel hb)
    have HB := Lib.hid (bel_trans hbX hb)
    clear hb hbX g0 g1
    have cr0 : w1.cell? ⟨w.heap.size, 0, none⟩ = some (.int .i64 0) := (BR.out.cell 0).trans rfl
    have fr0 : w1.frozen? ⟨w.heap.size, 0, none⟩ = false := BR.out.frozen 0
    have cr1 : w1.cell? ⟨w.heap.size, 1, none⟩ = some (.int .i64 0) := (BR.out.cell 1).trans rfl
    have fr1 : w1.frozen? ⟨w.heap.size, 1, none⟩ = false := BR.out.frozen 1
    have cr2 : w1.cell? ⟨w.heap.size, 2, none⟩ = some (.int .i64 0) := (BR.out.cell 2).trans rfl
    have fr2 : w1.frozen? ⟨w.heap.size, 2, none⟩ = false := BR.out.frozen 2
    have cr3 : w1.cell? ⟨w.heap.size, 3, none⟩ = some (.int .i64 0) := (BR.out.cell 3).trans rfl
    have fr3 : w1.frozen? ⟨w.heap.size, 3, none⟩ = false := BR.out.frozen 3
    have cr4 : w1.cell? ⟨w.heap.size, 4, none⟩ = some (.string ⟨#[]⟩) := (BR.out.cell 4).trans rfl
    have fr4 : w1.frozen? ⟨w.heap.size, 4, none⟩ = false := BR.out.frozen 4
    have ct0 : w1.cell? ⟨w.heap.size + 1, 0, none⟩ = some (.int .i64 0) := (BT.out.cell 0).trans rfl
    have ft0 : w1.frozen? ⟨w.heap.size + 1, 0, none⟩ = false := BT.out.frozen 0
    have ct1 : w1.cell? ⟨w.heap.size + 1, 1, none⟩ = some (.int .i64 0) := (BT.out.cell 1).trans rfl
    have ft1 : w1.frozen? ⟨w.heap.size + 1, 1, none⟩ = false := BT.out.frozen 1
    have ct2 : w1.cell? ⟨w.heap.size + 1, 2, none⟩ = some (.int .i64 0) := (BT.out.cell 2).trans rfl
    have ft2 : w1.frozen? ⟨w.heap.size + 1, 2, none⟩ = false := BT.out.frozen 2
    have ct3 : w1.cell? ⟨w.heap.size + 1, 3, none⟩ = some (.int .i64 0) := (BT.out.cell 3).trans rfl
    have ft3 : w1.frozen? ⟨w.heap.size + 1, 3, none⟩ = false := BT.out.frozen 3
    have ct4 : w1.cell? ⟨w.heap.size + 1, 4, none⟩ = some (.string ⟨#[]⟩) := (BT.out.cell 4).trans rfl
    have ft4 : w1.frozen? ⟨w.heap.size + 1, 4, none⟩ = false := BT.out.frozen 4
    have z0 : w.heap.size < w1.heap.size := BR.out.lt
    have z1 : w.heap.size + 1 < w1.heap.size := BT.out.lt
    go_wp2_with (first | (go_at_call 47; refine (hasPrefix_is t ⟨#[35, 92]⟩ _ true Hp).mono ?_; rintro e w' ⟨rfl, rfl⟩) | (go_at_call 52; refine (HQ.out _).mono ?_; rintro e w' ⟨rfl, rfl⟩))
    refine (character_any u _ hu.out v true HV HBB).mono ?_
    rintro e w2 ⟨rfl, hb⟩
    have BR2 := (BR.out.other (Nat.succ_ne_self _) 0 (.int .i64 11)).bel hb
    have BT2 := (BT.out.set 0 (.int .i64 11)).bel hb
    replace BR := Lib.hid BR2
    replace BT : Hid (Blk w2 (w.heap.size + 1) 26 #[.int .i64 11, .int .i64 0, .int .i64 0, .int .i64 0, .string ⟨#[]⟩]) := BT2.as rfl
    replace HB := Lib.hid (bel_trans (HB.out.setCell (Nat.le_succ _) _) hb)
    clear hb BR2 BT2
    clear cr0 fr0 cr1 fr1 cr2 fr2 cr3 fr3 cr4 fr4 ct0 ft0 ct1 ft1 ct2 ft2 ct3 ft3 ct4 ft4 z0 z1
    have cr0 : w2.cell? ⟨w.heap.size, 0, none⟩ = some (.int .i64 0) := (BR.out.cell 0).trans rfl
    have fr0 : w2.frozen? ⟨w.heap.size, 0, none⟩ = false := BR.out.frozen 0
    have cr1 : w2.cell? ⟨w.heap.size, 1, none⟩ = some (.int .i64 0) := (BR.out.cell 1).trans rfl
    have fr1 : w2.frozen? ⟨w.heap.size, 1, none⟩ = false := BR.out.frozen 1
    have cr2 : w2.cell? ⟨w.heap.size, 2, none⟩ = some (.int .i64 0) := (BR.out.cell 2).trans rfl
    have fr2 : w2.frozen? ⟨w.heap.size, 2, none⟩ = false := BR.out.frozen 2
    have cr3 : w2.cell? ⟨w.heap.size, 3, none⟩ = some (.int .i64 0) := (BR.out.cell 3).trans rfl
    have fr3 : w2.frozen? ⟨w.heap.size, 3, none⟩ = false := BR.out.frozen 3
    have cr4 : w2.cell? ⟨w.heap.size, 4, none⟩ = some (.string ⟨#[]⟩) := (BR.out.cell 4).trans rfl
    have fr4 : w2.frozen? ⟨w.heap.size, 4, none⟩ = false := BR.out.frozen 4
    have ct0 : w2.cell? ⟨w.heap.size + 1, 0, none⟩ = some (.int .i64 11) := (BT.out.cell 0).trans rfl
    have ft0 : w2.frozen? ⟨w.heap.size + 1, 0, none⟩ = false := BT.out.frozen 0
    have ct1 : w2.cell? ⟨w.heap.size + 1, 1, none⟩ = some (.int .i64 0) := (BT.out.cell 1).trans rfl
    have ft1 : w2.frozen? ⟨w.heap.size + 1, 1, none⟩ = false := BT.out.frozen 1
    have ct2 : w2.cell? ⟨w.heap.size + 1, 2, none⟩ = some (.int .i64 0) := (BT.out.cell 2).trans rfl
    have ft2 : w2.frozen? ⟨w.heap.size + 1, 2, none⟩ = false := BT.out.frozen 2
    have ct3 : w2.cell? ⟨w.heap.size + 1, 3, none⟩ = some (.int .i64 0) := (BT.out.cell 3).trans rfl
    have ft3 : w2.frozen? ⟨w.heap.size + 1, 3, none⟩ = false := BT.out.frozen 3
    have ct4 : w2.cell? ⟨w.heap.size + 1, 4, none⟩ = some (.string ⟨#[]⟩) := (BT.out.cell 4).trans rfl
    have ft4 : w2.frozen? ⟨w.heap.size + 1, 4, none⟩ = false := BT.out.frozen 4
    have z0 : w.heap.size < w2.heap.size := BR.out.lt
    have z1 : w.heap.size + 1 < w2.heap.size := BT.out.lt
    go_wp2_with fail
    simp only [Exit.jump]
    refine scan_fin w _ _ _ _ _ _ _ _ _ rfl rfl rfl (Blk.as (c := ?cc7) ?hb7 ?he7) ?hl7
    case hb7 => exact ((((((((BR.out.other (Nat.succ_ne_self _) _ _).other (Nat.succ_ne_self _) _ _).other (Nat.succ_ne_self _) _ _).set _ _).set _ _).set _ _).set _ _).set _ _)
    case he7 => rfl
    case hl7 => exact ((((((((HB.out.setCell (Nat.le_succ _) _).setCell (Nat.le_succ _) _).setCell (Nat.le_succ _) _).setCell (Nat.le_refl _) _).setCell (Nat.le_refl _) _).setCell (Nat.le_refl _) _).setCell (Nat.le_refl _) _).setCell (Nat.le_refl _) _)
set_option maxRecDepth 100000 in
set_option maxHeartbeats 4000000 in
theorem scan_run (s : ByteArray) (a : Nat) (w : World) (hs : s.size ≤ 140737488351232) (ha : a < s.size) (hM : Hid (markF kinds7 (s.data.toList.drop a) = 0)) (hq : Hid (isQuote (s.data.toList.drop a) = false)) (ho : Hid ((s.data.toList.drop a == [35, 92]) = false))
    (hp : Hid (Lib.hasPrefix (s.data.toList.drop a) [35, 92] = false)) :
    Calls Try.prog 29 #[.string s, .int .i64 (a : Int)] w fun e w' => e = .returned (.tuple #[scV (runSc (s.data.toList.drop a)) a, .int .i64 (runSc (s.data.toList.drop a)).e]) ∧ Below w.heap.size w w' := by
  have Hs := Lib.hid hs
  have hr := run_from s a (by omega)
  have hz := ext_size s a (by omega)
  have hl : (s.extract a s.size).data.toList = s.data.toList.drop a := Lib.extract_to_end s a
  generalize s.extract a s.size = t at *
  have ht0 : 0 < t.size := by omega
  have hts : t.size ≤ s.size := by omega
  have Ht : Hid (t.size ≤ maxLen) := by show t.size ≤ maxLen; simp only [maxLen]; omega
  have Hz := Lib.hid hz
  clear hz hs
  rw [← hl] at hM hq ho hp ⊢
  have HM := hM
  have Hs2 := Hs.out
  have hst : t.size ≤ s.size - a := by rw [Hz.out]; exact Nat.le_refl _
  have e34 : ((t[0].toNat : Int) == 34) = false := by rw [← isQuote_at ht0]; exact hq.out
  clear hM hq
  have eo : (t.toList == [35, 92]) = false := by rw [ByteArray.toList_eq]; exact ho.out
  have Hp := hp
  clear ho hl hp
  obtain ⟨q1, q2⟩ := runN_le ht0
  have hin : (t.extract 0 (runN t.data.toList)).data.toList = t.data.toList.take (runN t.data.toList) := by rw [Lib.extract_data]; rfl
  have hR : runSc t.data.toList = if (meanR (t.extract 0 (runN t.data.toList)).data.toList).e = 0 then ⟨(meanR (t.extract 0 (runN t.data.toList)).data.toList).k, (meanR (t.extract 0 (runN t.data.toList)).data.toList).n, (meanR (t.extract 0 (runN t.data.toList)).data.toList).S, runN t.data.toList, 0⟩ else bad (meanR (t.extract 0 (runN t.data.toList)).data.toList).e := by rw [hin]; rfl
  rw [hR]
  clear hR
  have HQ := Lib.hid (run_any t · Ht.out ht0)
  have hlen := congrArg List.length hin
  rw [len_of, List.length_take, len_of] at hlen
  obtain ⟨q, hqq⟩ : ∃ q, runN t.data.toList = q := ⟨_, rfl⟩
  rw [hqq] at q1 q2 HQ hlen ⊢
  clear hqq hin
  have hr2 := run_to t q q2
  generalize t.extract 0 q = u at *
  have hu : Hid (u.size ≤ maxLen ∧ 0 < u.size) := by show u.size ≤ maxLen ∧ 0 < u.size; simp only [maxLen]; omega
  clear hlen
  have HME := Lib.hid (meaning_any u · hu.out.1 hu.out.2)
  generalize meanR u.data.toList = R at *
  obtain ⟨k, n, S, e⟩ := R
  simp only at HME ⊢
  by_cases he : e = 0
  · subst he
    rw [if_pos rfl]
    show Calls _ _ _ _ fun e w' => e = .returned (.tuple #[tokV k a ((a + q : Nat) : Int) n S, .int .i64 0]) ∧ _
    go_enter Try.func29, Try.ntmps29
    go_wp2_with fail
    refine wp_scope_fwd 0 rfl ?_
    go_wp2_with fail
    obtain ⟨hbX, hsX, hkX⟩ := start_allocs [(#[.int .i64 0, .int .i64 0, .int .i64 0, .int .i64 0, .string ⟨#[]⟩], 26), (#[.int .i64 0, .int .i64 0, .int .i64 0, .int .i64 0, .string ⟨#[]⟩], 26)] w
    have g0 := hkX 0 _ rfl
    have g1 := hkX 1 _ rfl
    simp only [allocs, List.foldl_cons, List.foldl_nil, Nat.add_zero] at hbX g0 g1
    clear hkX hsX
    generalize (w.alloc (.cells #[.int .i64 0, .int .i64 0, .int .i64 0, .int .i64 0, .string ⟨#[]⟩] 26)).alloc (.cells #[.int .i64 0, .int .i64 0, .int .i64 0, .int .i64 0, .string ⟨#[]⟩] 26) = X at *
    refine (marked_any t _).mono ?_
    rintro e w1 ⟨rfl, hb⟩
    rw [HM.out]
    have BR := Lib.hid (g0.bel hb)
    have BT := Lib.hid (g1.bel hb)
    have HB := Lib.hid (bel_trans hbX hb)
    clear hb hbX g0 g1
    have cr0 : w1.cell? ⟨w.heap.size, 0, none⟩ = some (.int .i64 0) := (BR.out.cell 0).trans rfl
    have fr0 : w1.frozen? ⟨w.heap.size, 0, none⟩ = false := BR.out.frozen 0
    have cr1 : w1.cell? ⟨w.heap.size, 1, none⟩ = some (.int .i64 0) := (BR.out.cell 1).trans rfl
    have fr1 : w1.frozen? ⟨w.heap.size, 1, none⟩ = false := BR.out.frozen 1
    have cr2 : w1.cell? ⟨w.heap.size, 2, none⟩ = some (.int .i64 0) := (BR.out.cell 2).trans rfl
    have fr2 : w1.frozen? ⟨w.heap.size, 2, none⟩ = false := BR.out.frozen 2
    have cr3 : w1.cell? ⟨w.heap.size, 3, none⟩ = some (.int .i64 0) := (BR.out.cell 3).trans rfl
    have fr3 : w1.frozen? ⟨w.heap.size, 3, none⟩ = false := BR.out.frozen 3
    have cr4 : w1.cell? ⟨w.heap.size, 4, none⟩ = some (.string ⟨#[]⟩) := (BR.out.cell 4).trans rfl
    have fr4 : w1.frozen? ⟨w.heap.size, 4, none⟩ = false := BR.out.frozen 4
    have ct0 : w1.cell? ⟨w.heap.size + 1, 0, none⟩ = some (.int .i64 0) := (BT.out.cell 0).trans rfl
    have ft0 : w1.frozen? ⟨w.heap.size + 1, 0, none⟩ = false := BT.out.frozen 0
    have ct1 : w1.cell? ⟨w.heap.size + 1, 1, none⟩ = some (.int .i64 0) := (BT.out.cell 1).trans rfl
    have ft1 : w1.frozen? ⟨w.heap.size + 1, 1, none⟩ = false := BT.out.frozen 1
    have ct2 : w1.cell? ⟨w.heap.size + 1, 2, none⟩ = some (.int .i64 0) := (BT.out.cell 2).trans rfl
    have ft2 : w1.frozen? ⟨w.heap.size + 1, 2, none⟩ = false := BT.out.frozen 2
    have ct3 : w1.cell? ⟨w.heap.size + 1, 3, none⟩ = some (.int .i64 0) := (BT.out.cell 3).trans rfl
    have ft3 : w1.frozen? ⟨w.heap.size + 1, 3, none⟩ = false := BT.out.frozen 3
    have ct4 : w1.cell? ⟨w.heap.size + 1, 4, none⟩ = some (.string ⟨#[]⟩) := (BT.out.cell 4).trans rfl
    have ft4 : w1.frozen? ⟨w.heap.size + 1, 4, none⟩ = false := BT.out.frozen 4
    have z0 : w.heap.size < w1.heap.size := BR.out.lt
    have z1 : w.heap.size + 1 < w1.heap.size := BT.out.lt
    go_wp2_with (first | (go_at_call 47; refine (hasPrefix_is t ⟨#[35, 92]⟩ _ false Hp).mono ?_; rintro e w' ⟨rfl, rfl⟩) | (go_at_call 54; refine (HQ.out _).mono ?_; rintro e w' ⟨rfl, rfl⟩))
    refine (HME.out _).mono ?_
    rintro e w2 ⟨rfl, hb⟩
    simp only [tokV]
    replace BR := Lib.hid (BR.out.bel hb)
    replace BT := Lib.hid (BT.out.bel hb)
    replace HB := Lib.hid (bel_trans HB.out hb)
    clear hb
    clear cr0 fr0 cr1 fr1 cr2 fr2 cr3 fr3 cr4 fr4 ct0 ft0 ct1 ft1 ct2 ft2 ct3 ft3 ct4 ft4 z0 z1
    have cr0 : w2.cell? ⟨w.heap.size, 0, none⟩ = some (.int .i64 0) := (BR.out.cell 0).trans rfl
    have fr0 : w2.frozen? ⟨w.heap.size, 0, none⟩ = false := BR.out.frozen 0
    have cr1 : w2.cell? ⟨w.heap.size, 1, none⟩ = some (.int .i64 0) := (BR.out.cell 1).trans rfl
    have fr1 : w2.frozen? ⟨w.heap.size, 1, none⟩ = false := BR.out.frozen 1
    have cr2 : w2.cell? ⟨w.heap.size, 2, none⟩ = some (.int .i64 0) := (BR.out.cell 2).trans rfl
    have fr2 : w2.frozen? ⟨w.heap.size, 2, none⟩ = false := BR.out.frozen 2
    have cr3 : w2.cell? ⟨w.heap.size, 3, none⟩ = some (.int .i64 0) := (BR.out.cell 3).trans rfl
    have fr3 : w2.frozen? ⟨w.heap.size, 3, none⟩ = false := BR.out.frozen 3
    have cr4 : w2.cell? ⟨w.heap.size, 4, none⟩ = some (.string ⟨#[]⟩) := (BR.out.cell 4).trans rfl
    have fr4 : w2.frozen? ⟨w.heap.size, 4, none⟩ = false := BR.out.frozen 4
    have ct0 : w2.cell? ⟨w.heap.size + 1, 0, none⟩ = some (.int .i64 0) := (BT.out.cell 0).trans rfl
    have ft0 : w2.frozen? ⟨w.heap.size + 1, 0, none⟩ = false := BT.out.frozen 0
    have ct1 : w2.cell? ⟨w.heap.size + 1, 1, none⟩ = some (.int .i64 0) := (BT.out.cell 1).trans rfl
    have ft1 : w2.frozen? ⟨w.heap.size + 1, 1, none⟩ = false := BT.out.frozen 1
    have ct2 : w2.cell? ⟨w.heap.size + 1, 2, none⟩ = some (.int .i64 0) := (BT.out.cell 2).trans rfl
    have ft2 : w2.frozen? ⟨w.heap.size + 1, 2, none⟩ = false := BT.out.frozen 2
    have ct3 : w2.cell? ⟨w.heap.size + 1, 3, none⟩ = some (.int .i64 0) := (BT.out.cell 3).trans rfl
    have ft3 : w2.frozen? ⟨w.heap.size + 1, 3, none⟩ = false := BT.out.frozen 3
    have ct4 : w2.cell? ⟨w.heap.size + 1, 4, none⟩ = some (.string ⟨#[]⟩) := (BT.out.cell 4).trans rfl
    have ft4 : w2.frozen? ⟨w.heap.size + 1, 4, none⟩ = false := BT.out.frozen 4
    have z0 : w.heap.size < w2.heap.size := BR.out.lt
    have z1 : w.heap.size + 1 < w2.heap.size := BT.out.lt
    go_upto_region 6 with (fail)
    clear cr0 fr0 cr1 fr1 cr2 fr2 cr3 fr3 cr4 fr4 ct0 ft0 ct1 ft1 ct2 ft2 ct3 ft3 ct4 ft4 z0 z1
    have BR3 : Blk (((((w2.setCell ⟨w.heap.size + 1, 0, none⟩ (.int .i64 k)).setCell ⟨w.heap.size + 1, 1, none⟩ (.int .i64 0)).setCell ⟨w.heap.size + 1, 2, none⟩ (.int .i64 0)).setCell ⟨w.heap.size + 1, 3, none⟩ (.int .i64 n)).setCell ⟨w.heap.size + 1, 4, none⟩ (.string ⟨S.toArray⟩)) w.heap.size 26 #[.int .i64 0, .int .i64 0, .int .i64 0, .int .i64 0, .string ⟨#[]⟩] := (((((BR.out.other (Nat.succ_ne_self _) _ _).other (Nat.succ_ne_self _) _ _).other (Nat.succ_ne_self _) _ _).other (Nat.succ_ne_self _) _ _).other (Nat.succ_ne_self _) _ _)
    have BT3 : Blk (((((w2.setCell ⟨w.heap.size + 1, 0, none⟩ (.int .i64 k)).setCell ⟨w.heap.size + 1, 1, none⟩ (.int .i64 0)).setCell ⟨w.heap.size + 1, 2, none⟩ (.int .i64 0)).setCell ⟨w.heap.size + 1, 3, none⟩ (.int .i64 n)).setCell ⟨w.heap.size + 1, 4, none⟩ (.string ⟨S.toArray⟩)) (w.heap.size + 1) 26 #[.int .i64 k, .int .i64 0, .int .i64 0, .int .i64 n, .string ⟨S.toArray⟩] := (((((BT.out.set _ _).set _ _).set _ _).set _ _).set _ _).as rfl
    have HB3 : Below w.heap.size w (((((w2.setCell ⟨w.heap.size + 1, 0, none⟩ (.int .i64 k)).setCell ⟨w.heap.size + 1, 1, none⟩ (.int .i64 0)).setCell ⟨w.heap.size + 1, 2, none⟩ (.int .i64 0)).setCell ⟨w.heap.size + 1, 3, none⟩ (.int .i64 n)).setCell ⟨w.heap.size + 1, 4, none⟩ (.string ⟨S.toArray⟩)) := (((((HB.out.setCell (Nat.le_succ _) _).setCell (Nat.le_succ _) _).setCell (Nat.le_succ _) _).setCell (Nat.le_succ _) _).setCell (Nat.le_succ _) _)
    generalize (((((w2.setCell ⟨w.heap.size + 1, 0, none⟩ (.int .i64 k)).setCell ⟨w.heap.size + 1, 1, none⟩ (.int .i64 0)).setCell ⟨w.heap.size + 1, 2, none⟩ (.int .i64 0)).setCell ⟨w.heap.size + 1, 3, none⟩ (.int .i64 n)).setCell ⟨w.heap.size + 1, 4, none⟩ (.string ⟨S.toArray⟩)) = w3 at BR3 BT3 HB3 ⊢
    clear BR BT HB
    have BR := Lib.hid BR3
    have BT := Lib.hid BT3
    have HB := Lib.hid HB3
    clear BR3 BT3 HB3
    have cr0 : w3.cell? ⟨w.heap.size, 0, none⟩ = some (.int .i64 0) := (BR.out.cell 0).trans rfl
    have fr0 : w3.frozen? ⟨w.heap.size, 0, none⟩ = false := BR.out.frozen 0
    have cr1 : w3.cell? ⟨w.heap.size, 1, none⟩ = some (.int .i64 0) := (BR.out.cell 1).trans rfl
    have fr1 : w3.frozen? ⟨w.heap.size, 1, none⟩ = false := BR.out.frozen 1
    have cr2 : w3.cell? ⟨w.heap.size, 2, none⟩ = some (.int .i64 0) := (BR.out.cell 2).trans rfl
    have fr2 : w3.frozen? ⟨w.heap.size, 2, none⟩ = false := BR.out.frozen 2
    have cr3 : w3.cell? ⟨w.heap.size, 3, none⟩ = some (.int .i64 0) := (BR.out.cell 3).trans rfl
    have fr3 : w3.frozen? ⟨w.heap.size, 3, none⟩ = false := BR.out.frozen 3
    have cr4 : w3.cell? ⟨w.heap.size, 4, none⟩ = some (.string ⟨#[]⟩) := (BR.out.cell 4).trans rfl
    have fr4 : w3.frozen? ⟨w.heap.size, 4, none⟩ = false := BR.out.frozen 4
    have ct0 : w3.cell? ⟨w.heap.size + 1, 0, none⟩ = some (.int .i64 k) := (BT.out.cell 0).trans rfl
    have ft0 : w3.frozen? ⟨w.heap.size + 1, 0, none⟩ = false := BT.out.frozen 0
    have ct1 : w3.cell? ⟨w.heap.size + 1, 1, none⟩ = some (.int .i64 0) := (BT.out.cell 1).trans rfl
    have ft1 : w3.frozen? ⟨w.heap.size + 1, 1, none⟩ = false := BT.out.frozen 1
    have ct2 : w3.cell? ⟨w.heap.size + 1, 2, none⟩ = some (.int .i64 0) := (BT.out.cell 2).trans rfl
    have ft2 : w3.frozen? ⟨w.heap.size + 1, 2, none⟩ = false := BT.out.frozen 2
    have ct3 : w3.cell? ⟨w.heap.size + 1, 3, none⟩ = some (.int .i64 n) := (BT.out.cell 3).trans rfl
    have ft3 : w3.frozen? ⟨w.heap.size + 1, 3, none⟩ = false := BT.out.frozen 3
    have ct4 : w3.cell? ⟨w.heap.size + 1, 4, none⟩ = some (.string ⟨S.toArray⟩) := (BT.out.cell 4).trans rfl
    have ft4 : w3.frozen? ⟨w.heap.size + 1, 4, none⟩ = false := BT.out.frozen 4
    have z0 : w.heap.size < w3.heap.size := BR.out.lt
    have z1 : w.heap.size + 1 < w3.heap.size := BT.out.lt
    go_wp2_with fail
    simp only [Exit.jump]
    refine scan_fin w _ _ _ _ _ _ _ _ _ rfl rfl rfl (Blk.as (c := ?cc8) ?hb8 ?he8) ?hl8
    case hb8 => exact (((((((BR.out.other (Nat.succ_ne_self _) _ _).other (Nat.succ_ne_self _) _ _).set _ _).set _ _).set _ _).set _ _).set _ _)
    case he8 => rfl
    case hl8 => exact (((((((HB.out.setCell (Nat.le_succ _) _).setCell (Nat.le_succ _) _).setCell (Nat.le_refl _) _).setCell (Nat.le_refl _) _).setCell (Nat.le_refl _) _).setCell (Nat.le_refl _) _).setCell (Nat.le_refl _) _)
  · rw [if_neg he]
    have dn : (e == 0) = false := by simpa using he
    have hbad : scV (bad e) a = tokV 0 0 0 0 [] := by unfold scV; rw [if_neg (show (bad e).e ≠ 0 from he)]
    rw [hbad]
    clear hbad
    show Calls _ _ _ _ fun e' w' => e' = .returned (.tuple #[tokV 0 0 0 0 [], .int .i64 e]) ∧ _
    have He := Lib.hid he
    clear he
    go_enter Try.func29, Try.ntmps29
    go_wp2_with fail
    refine wp_scope_fwd 0 rfl ?_
    go_wp2_with fail
    obtain ⟨hbX, hsX, hkX⟩ := start_allocs [(#[.int .i64 0, .int .i64 0, .int .i64 0, .int .i64 0, .string ⟨#[]⟩], 26), (#[.int .i64 0, .int .i64 0, .int .i64 0, .int .i64 0, .string ⟨#[]⟩], 26)] w
    have g0 := hkX 0 _ rfl
    have g1 := hkX 1 _ rfl
    simp only [allocs, List.foldl_cons, List.foldl_nil, Nat.add_zero] at hbX g0 g1
    clear hkX hsX
    generalize (w.alloc (.cells #[.int .i64 0, .int .i64 0, .int .i64 0, .int .i64 0, .string ⟨#[]⟩] 26)).alloc (.cells #[.int .i64 0, .int .i64 0, .int .i64 0, .int .i64 0, .string ⟨#[]⟩] 26) = X at *
    refine (marked_any t _).mono ?_
    rintro e w1 ⟨rfl, hb⟩
    rw [HM.out]
    have BR := Lib.hid (g0.bel hb)
    have BT := Lib.hid (g1.bel hb)
    have HB := Lib.hid (bel_trans hbX hb)
    clear hb hbX g0 g1
    have cr0 : w1.cell? ⟨w.heap.size, 0, none⟩ = some (.int .i64 0) := (BR.out.cell 0).trans rfl
    have fr0 : w1.frozen? ⟨w.heap.size, 0, none⟩ = false := BR.out.frozen 0
    have cr1 : w1.cell? ⟨w.heap.size, 1, none⟩ = some (.int .i64 0) := (BR.out.cell 1).trans rfl
    have fr1 : w1.frozen? ⟨w.heap.size, 1, none⟩ = false := BR.out.frozen 1
    have cr2 : w1.cell? ⟨w.heap.size, 2, none⟩ = some (.int .i64 0) := (BR.out.cell 2).trans rfl
    have fr2 : w1.frozen? ⟨w.heap.size, 2, none⟩ = false := BR.out.frozen 2
    have cr3 : w1.cell? ⟨w.heap.size, 3, none⟩ = some (.int .i64 0) := (BR.out.cell 3).trans rfl
    have fr3 : w1.frozen? ⟨w.heap.size, 3, none⟩ = false := BR.out.frozen 3
    have cr4 : w1.cell? ⟨w.heap.size, 4, none⟩ = some (.string ⟨#[]⟩) := (BR.out.cell 4).trans rfl
    have fr4 : w1.frozen? ⟨w.heap.size, 4, none⟩ = false := BR.out.frozen 4
    have ct0 : w1.cell? ⟨w.heap.size + 1, 0, none⟩ = some (.int .i64 0) := (BT.out.cell 0).trans rfl
    have ft0 : w1.frozen? ⟨w.heap.size + 1, 0, none⟩ = false := BT.out.frozen 0
    have ct1 : w1.cell? ⟨w.heap.size + 1, 1, none⟩ = some (.int .i64 0) := (BT.out.cell 1).trans rfl
    have ft1 : w1.frozen? ⟨w.heap.size + 1, 1, none⟩ = false := BT.out.frozen 1
    have ct2 : w1.cell? ⟨w.heap.size + 1, 2, none⟩ = some (.int .i64 0) := (BT.out.cell 2).trans rfl
    have ft2 : w1.frozen? ⟨w.heap.size + 1, 2, none⟩ = false := BT.out.frozen 2
    have ct3 : w1.cell? ⟨w.heap.size + 1, 3, none⟩ = some (.int .i64 0) := (BT.out.cell 3).trans rfl
    have ft3 : w1.frozen? ⟨w.heap.size + 1, 3, none⟩ = false := BT.out.frozen 3
    have ct4 : w1.cell? ⟨w.heap.size + 1, 4, none⟩ = some (.string ⟨#[]⟩) := (BT.out.cell 4).trans rfl
    have ft4 : w1.frozen? ⟨w.heap.size + 1, 4, none⟩ = false := BT.out.frozen 4
    have z0 : w.heap.size < w1.heap.size := BR.out.lt
    have z1 : w.heap.size + 1 < w1.heap.size := BT.out.lt
    go_wp2_with (first | (go_at_call 47; refine (hasPrefix_is t ⟨#[35, 92]⟩ _ false Hp).mono ?_; rintro e w' ⟨rfl, rfl⟩) | (go_at_call 54; refine (HQ.out _).mono ?_; rintro e w' ⟨rfl, rfl⟩))
    refine (HME.out _).mono ?_
    rintro e2 w2 ⟨rfl, hb⟩
    simp only [tokV]
    replace BR := Lib.hid (BR.out.bel hb)
    replace BT := Lib.hid (BT.out.bel hb)
    replace HB := Lib.hid (bel_trans HB.out hb)
    clear hb
    clear cr0 fr0 cr1 fr1 cr2 fr2 cr3 fr3 cr4 fr4 ct0 ft0 ct1 ft1 ct2 ft2 ct3 ft3 ct4 ft4 z0 z1
    have cr0 : w2.cell? ⟨w.heap.size, 0, none⟩ = some (.int .i64 0) := (BR.out.cell 0).trans rfl
    have fr0 : w2.frozen? ⟨w.heap.size, 0, none⟩ = false := BR.out.frozen 0
    have cr1 : w2.cell? ⟨w.heap.size, 1, none⟩ = some (.int .i64 0) := (BR.out.cell 1).trans rfl
    have fr1 : w2.frozen? ⟨w.heap.size, 1, none⟩ = false := BR.out.frozen 1
    have cr2 : w2.cell? ⟨w.heap.size, 2, none⟩ = some (.int .i64 0) := (BR.out.cell 2).trans rfl
    have fr2 : w2.frozen? ⟨w.heap.size, 2, none⟩ = false := BR.out.frozen 2
    have cr3 : w2.cell? ⟨w.heap.size, 3, none⟩ = some (.int .i64 0) := (BR.out.cell 3).trans rfl
    have fr3 : w2.frozen? ⟨w.heap.size, 3, none⟩ = false := BR.out.frozen 3
    have cr4 : w2.cell? ⟨w.heap.size, 4, none⟩ = some (.string ⟨#[]⟩) := (BR.out.cell 4).trans rfl
    have fr4 : w2.frozen? ⟨w.heap.size, 4, none⟩ = false := BR.out.frozen 4
    have ct0 : w2.cell? ⟨w.heap.size + 1, 0, none⟩ = some (.int .i64 0) := (BT.out.cell 0).trans rfl
    have ft0 : w2.frozen? ⟨w.heap.size + 1, 0, none⟩ = false := BT.out.frozen 0
    have ct1 : w2.cell? ⟨w.heap.size + 1, 1, none⟩ = some (.int .i64 0) := (BT.out.cell 1).trans rfl
    have ft1 : w2.frozen? ⟨w.heap.size + 1, 1, none⟩ = false := BT.out.frozen 1
    have ct2 : w2.cell? ⟨w.heap.size + 1, 2, none⟩ = some (.int .i64 0) := (BT.out.cell 2).trans rfl
    have ft2 : w2.frozen? ⟨w.heap.size + 1, 2, none⟩ = false := BT.out.frozen 2
    have ct3 : w2.cell? ⟨w.heap.size + 1, 3, none⟩ = some (.int .i64 0) := (BT.out.cell 3).trans rfl
    have ft3 : w2.frozen? ⟨w.heap.size + 1, 3, none⟩ = false := BT.out.frozen 3
    have ct4 : w2.cell? ⟨w.heap.size + 1, 4, none⟩ = some (.string ⟨#[]⟩) := (BT.out.cell 4).trans rfl
    have ft4 : w2.frozen? ⟨w.heap.size + 1, 4, none⟩ = false := BT.out.frozen 4
    have z0 : w.heap.size < w2.heap.size := BR.out.lt
    have z1 : w.heap.size + 1 < w2.heap.size := BT.out.lt
    go_upto_region 6 with (fail)
    clear cr0 fr0 cr1 fr1 cr2 fr2 cr3 fr3 cr4 fr4 ct0 ft0 ct1 ft1 ct2 ft2 ct3 ft3 ct4 ft4 z0 z1
    have BR3 : Blk (((((w2.setCell ⟨w.heap.size + 1, 0, none⟩ (.int .i64 k)).setCell ⟨w.heap.size + 1, 1, none⟩ (.int .i64 0)).setCell ⟨w.heap.size + 1, 2, none⟩ (.int .i64 0)).setCell ⟨w.heap.size + 1, 3, none⟩ (.int .i64 n)).setCell ⟨w.heap.size + 1, 4, none⟩ (.string ⟨S.toArray⟩)) w.heap.size 26 #[.int .i64 0, .int .i64 0, .int .i64 0, .int .i64 0, .string ⟨#[]⟩] := (((((BR.out.other (Nat.succ_ne_self _) _ _).other (Nat.succ_ne_self _) _ _).other (Nat.succ_ne_self _) _ _).other (Nat.succ_ne_self _) _ _).other (Nat.succ_ne_self _) _ _)
    have BT3 : Blk (((((w2.setCell ⟨w.heap.size + 1, 0, none⟩ (.int .i64 k)).setCell ⟨w.heap.size + 1, 1, none⟩ (.int .i64 0)).setCell ⟨w.heap.size + 1, 2, none⟩ (.int .i64 0)).setCell ⟨w.heap.size + 1, 3, none⟩ (.int .i64 n)).setCell ⟨w.heap.size + 1, 4, none⟩ (.string ⟨S.toArray⟩)) (w.heap.size + 1) 26 #[.int .i64 k, .int .i64 0, .int .i64 0, .int .i64 n, .string ⟨S.toArray⟩] := (((((BT.out.set _ _).set _ _).set _ _).set _ _).set _ _).as rfl
    have HB3 : Below w.heap.size w (((((w2.setCell ⟨w.heap.size + 1, 0, none⟩ (.int .i64 k)).setCell ⟨w.heap.size + 1, 1, none⟩ (.int .i64 0)).setCell ⟨w.heap.size + 1, 2, none⟩ (.int .i64 0)).setCell ⟨w.heap.size + 1, 3, none⟩ (.int .i64 n)).setCell ⟨w.heap.size + 1, 4, none⟩ (.string ⟨S.toArray⟩)) := (((((HB.out.setCell (Nat.le_succ _) _).setCell (Nat.le_succ _) _).setCell (Nat.le_succ _) _).setCell (Nat.le_succ _) _).setCell (Nat.le_succ _) _)
    generalize (((((w2.setCell ⟨w.heap.size + 1, 0, none⟩ (.int .i64 k)).setCell ⟨w.heap.size + 1, 1, none⟩ (.int .i64 0)).setCell ⟨w.heap.size + 1, 2, none⟩ (.int .i64 0)).setCell ⟨w.heap.size + 1, 3, none⟩ (.int .i64 n)).setCell ⟨w.heap.size + 1, 4, none⟩ (.string ⟨S.toArray⟩)) = w3 at BR3 BT3 HB3 ⊢
    clear BR BT HB
    have BR := Lib.hid BR3
    have BT := Lib.hid BT3
    have HB := Lib.hid HB3
    clear BR3 BT3 HB3
    have cr0 : w3.cell? ⟨w.heap.size, 0, none⟩ = some (.int .i64 0) := (BR.out.cell 0).trans rfl
    have fr0 : w3.frozen? ⟨w.heap.size, 0, none⟩ = false := BR.out.frozen 0
    have cr1 : w3.cell? ⟨w.heap.size, 1, none⟩ = some (.int .i64 0) := (BR.out.cell 1).trans rfl
    have fr1 : w3.frozen? ⟨w.heap.size, 1, none⟩ = false := BR.out.frozen 1
    have cr2 : w3.cell? ⟨w.heap.size, 2, none⟩ = some (.int .i64 0) := (BR.out.cell 2).trans rfl
    have fr2 : w3.frozen? ⟨w.heap.size, 2, none⟩ = false := BR.out.frozen 2
    have cr3 : w3.cell? ⟨w.heap.size, 3, none⟩ = some (.int .i64 0) := (BR.out.cell 3).trans rfl
    have fr3 : w3.frozen? ⟨w.heap.size, 3, none⟩ = false := BR.out.frozen 3
    have cr4 : w3.cell? ⟨w.heap.size, 4, none⟩ = some (.string ⟨#[]⟩) := (BR.out.cell 4).trans rfl
    have fr4 : w3.frozen? ⟨w.heap.size, 4, none⟩ = false := BR.out.frozen 4
    have ct0 : w3.cell? ⟨w.heap.size + 1, 0, none⟩ = some (.int .i64 k) := (BT.out.cell 0).trans rfl
    have ft0 : w3.frozen? ⟨w.heap.size + 1, 0, none⟩ = false := BT.out.frozen 0
    have ct1 : w3.cell? ⟨w.heap.size + 1, 1, none⟩ = some (.int .i64 0) := (BT.out.cell 1).trans rfl
    have ft1 : w3.frozen? ⟨w.heap.size + 1, 1, none⟩ = false := BT.out.frozen 1
    have ct2 : w3.cell? ⟨w.heap.size + 1, 2, none⟩ = some (.int .i64 0) := (BT.out.cell 2).trans rfl
    have ft2 : w3.frozen? ⟨w.heap.size + 1, 2, none⟩ = false := BT.out.frozen 2
    have ct3 : w3.cell? ⟨w.heap.size + 1, 3, none⟩ = some (.int .i64 n) := (BT.out.cell 3).trans rfl
    have ft3 : w3.frozen? ⟨w.heap.size + 1, 3, none⟩ = false := BT.out.frozen 3
    have ct4 : w3.cell? ⟨w.heap.size + 1, 4, none⟩ = some (.string ⟨S.toArray⟩) := (BT.out.cell 4).trans rfl
    have ft4 : w3.frozen? ⟨w.heap.size + 1, 4, none⟩ = false := BT.out.frozen 4
    have z0 : w.heap.size < w3.heap.size := BR.out.lt
    have z1 : w.heap.size + 1 < w3.heap.size := BT.out.lt
    go_wp2_with fail
    go_step3
    refine ⟨rfl, ?_⟩
    go_wp2_with fail
    rw [Exit.noGoto_ret]
    refine scan_fin w _ _ _ _ _ _ _ _ _ rfl rfl rfl (Blk.as (c := ?cc9) ?hb9 ?he9) ?hl9
    case hb9 => exact (((((BR.out.set _ _).set _ _).set _ _).set _ _).set _ _)
    case he9 => rfl
    case hl9 => exact (((((HB.out.setCell (Nat.le_refl _) _).setCell (Nat.le_refl _) _).setCell (Nat.le_refl _) _).setCell (Nat.le_refl _) _).setCell (Nat.le_refl _) _)
/-- The word with which what is left of a text begins. -/
theorem scan_any (s : ByteArray) (a : Nat) (w : World) (hs : s.size ≤ 140737488351232) (ha : a < s.size) :
    Calls Try.prog 29 #[.string s, .int .i64 (a : Int)] w fun e w' => e = .returned (.tuple #[scV (scanR (s.data.toList.drop a)) a, .int .i64 (scanR (s.data.toList.drop a)).e]) ∧ Below w.heap.size w w' := by
  unfold scanR
  by_cases h0 : markF kinds7 (s.data.toList.drop a) = 0
  · rw [if_neg (by simp [h0])]
    cases hq : isQuote (s.data.toList.drop a)
    · rw [if_neg (by decide)]
      cases ho : s.data.toList.drop a == [35, 92]
      · rw [if_neg (by decide)]
        cases hp : Lib.hasPrefix (s.data.toList.drop a) [35, 92]
        · rw [if_neg (by decide)]
          exact scan_run s a w hs ha (Lib.hid h0) (Lib.hid hq) (Lib.hid ho) (Lib.hid hp)
        · rw [if_pos rfl]
          exact scan_char s a w hs ha (Lib.hid h0) (Lib.hid hq) (Lib.hid ho) (Lib.hid hp)
      · rw [if_pos rfl]
        exact scan_open s a w hs ha (Lib.hid h0) (Lib.hid hq) (Lib.hid ho)
    · rw [if_pos rfl]
      exact scan_str s a w hs ha (Lib.hid h0) (Lib.hid hq)
  · rw [if_pos (by simpa using h0)]
    exact scan_mark s a w hs ha _ (Lib.hid rfl) (Lib.hid h0)
end Go.Proofs.Ytpeleifkednmoaa.Lx
end
