/- Codes, spelled characters and quoted strings of layer 3 as texts: what the program's functions return. -/
import Derived.Lib.AppendStr
import Derived.Test.YtpeleifkednmoaaMLexUnq
import Derived.Test.YtpeleifkednmoaaM2
section
namespace Go.Proofs.Ytpeleifkednmoaa.Lx
open Go.ChangeShapes Go.WideShapes Go.ChangeAt Go.RowKit
set_option linter.unusedVariables false
set_option linter.unusedSimpArgs false

def digL : Bs := [48, 49, 50, 51, 52, 53, 54, 55, 56, 57, 97, 98, 99, 100, 101, 102]
def digC (q : Nat) : UInt8 := digL.getD q 0
/-- A character's code: x and its two digits. -/
def encS (c : UInt8) : Bs := [120, digC (c.toNat / 16), digC (c.toNat % 16)]
theorem wrap_div (c : UInt8) : IntKind.u8.wrap ((c.toNat : Int) / 16) = (c.toNat : Int) / 16 := by
  have := c.toNat_lt
  rw [IntKind.wrap_u8]
  omega
theorem dig_at : ∀ q : Fin 16, ((⟨#[48, 49, 50, 51, 52, 53, 54, 55, 56, 57, 97, 98, 99, 100, 101, 102]⟩ : ByteArray)[q.val]'(q.isLt)) = digC q.val := by decide
theorem idx_dig (x : Int) (q : Nat) (hx : x = (q : Int)) (hq : q < 16) (wx : World) (E : Result Value) :
    ((if h : 0 ≤ x ∧ x < 16 then Result.ok (Value.int IntKind.u8 (((⟨#[48, 49, 50, 51, 52, 53, 54, 55, 56, 57, 97, 98, 99, 100, 101, 102]⟩ : ByteArray)[x.toNat]'(by have := h.1; have := h.2; show x.toNat < 16; omega)).toNat : Int)) wx else E).andThen fun a w' => Result.ok (Next.value a) w') = Result.ok (Next.value (Value.int IntKind.u8 ((digC q).toNat : Int))) wx := by
  subst hx
  rw [dif_pos ⟨by omega, by omega⟩]
  have := dig_at ⟨q, hq⟩
  simp only [Int.toNat_natCast]
  rw [← this]
  rfl
theorem enc_conv (w W1 : World) (a b : UInt8) (h : (w.alloc (Obj.cells #[Value.int IntKind.u8 120, Value.int IntKind.u8 (a.toNat : Int), Value.int IntKind.u8 (b.toNat : Int)] 5)).drew = W1) :
    (convert 48 9 (.slice (some ⟨w.heap.size, 0, none⟩) 3 3)).run Try.prog W1 = .ok (.string ⟨#[120, a, b]⟩) W1 := by
  subst h
  refine run_convert_bytes_back (P := Try.prog) _ 48 9 5 ⟨w.heap.size, 0, none⟩ 3 [120, a, b] Try.underlying48 Try.underlying5 Try.underlying9 (fun j hj => ?_)
  match j, hj with
  | 0, _ => simp [Addr.add]
  | 1, _ => simp [Addr.add]
  | 2, _ => simp [Addr.add]
set_option maxRecDepth 100000 in
theorem encode_any (c : UInt8) (w : World) : Calls Try.prog 36 #[.int .u8 (c.toNat : Int)] w fun e w' => e = .returned (.string ⟨(encS c).toArray⟩) ∧ Below w.heap.size w w' := by
  go_enter Try.func36, Try.ntmps36
  go_wp2_with fail
  refine Od.till_region 9 (fun _ : World => True) (fun _ : World => True) 9 (by kernel_rfl) rfl ?_
  simp only [Array.replicate_succ, Array.replicate_zero, List.push_toArray, List.nil_append, List.cons_append]
  refine Od.Till.takeT (i := 0) (d := 3) (v := .int .u8 (c.toNat : Int)) rfl rfl (by kernel_rfl) (by kernel_rfl) (by kernel_rfl) (by kernel_rfl) (fun _ _ _ h => h) (.inl ⟨by rfl, ?_⟩) trivial trivial ?_
  · intro wx hSw
    clear hSw
    go_simp
  simp only [Act.put, List.setIfInBounds_toArray, List.set_cons_zero, List.set_cons_succ]
  refine Od.Till.takeT (i := 1) (d := 4) (v := .int .u8 ((c.toNat / 16 : Nat) : Int)) rfl rfl (by kernel_rfl) (by kernel_rfl) (by kernel_rfl) (by kernel_rfl) (fun _ _ _ h => h) (.inl ⟨by rfl, ?_⟩) trivial trivial ?_
  · intro wx hSw
    clear hSw
    go_simp; exact wrap_div c
  simp only [Act.put, List.setIfInBounds_toArray, List.set_cons_zero, List.set_cons_succ]
  refine Od.Till.takeT (i := 2) (d := 5) (v := .int .u8 ((digC (c.toNat / 16)).toNat : Int)) rfl rfl (by kernel_rfl) (by kernel_rfl) (by kernel_rfl) (by kernel_rfl) (fun _ _ _ h => h) (.inl ⟨by rfl, ?_⟩) trivial trivial ?_
  · intro wx hSw
    clear hSw
    go_simp; exact idx_dig _ (c.toNat / 16) rfl (by have := c.toNat_lt; omega) _ _
  simp only [Act.put, List.setIfInBounds_toArray, List.set_cons_zero, List.set_cons_succ]
  refine Od.Till.takeT (i := 3) (d := 6) (v := .int .u8 (c.toNat : Int)) rfl rfl (by kernel_rfl) (by kernel_rfl) (by kernel_rfl) (by kernel_rfl) (fun _ _ _ h => h) (.inl ⟨by rfl, ?_⟩) trivial trivial ?_
  · intro wx hSw
    clear hSw
    go_simp
  simp only [Act.put, List.setIfInBounds_toArray, List.set_cons_zero, List.set_cons_succ]
  refine Od.Till.takeT (i := 4) (d := 7) (v := .int .u8 ((c.toNat % 16 : Nat) : Int)) rfl rfl (by kernel_rfl) (by kernel_rfl) (by kernel_rfl) (by kernel_rfl) (fun _ _ _ h => h) (.inl ⟨by rfl, ?_⟩) trivial trivial ?_
  · intro wx hSw
    clear hSw
    go_simp; exact Int.tmod_eq_emod_of_nonneg (Int.natCast_nonneg _)
  simp only [Act.put, List.setIfInBounds_toArray, List.set_cons_zero, List.set_cons_succ]
  refine Od.Till.takeT (i := 5) (d := 8) (v := .int .u8 ((digC (c.toNat % 16)).toNat : Int)) rfl rfl (by kernel_rfl) (by kernel_rfl) (by kernel_rfl) (by kernel_rfl) (fun _ _ _ h => h) (.inl ⟨by rfl, ?_⟩) trivial trivial ?_
  · intro wx hSw
    clear hSw
    go_simp; exact idx_dig _ (c.toNat % 16) rfl (Nat.mod_lt _ (by decide)) _ _
  simp only [Act.put, List.setIfInBounds_toArray, List.set_cons_zero, List.set_cons_succ]
  refine Od.Till.one (i := 6) (by kernel_rfl) rfl (fun K hK => ?_)
  rw [if_pos (by kernel_rfl)]
  go_simp
  obtain ⟨W1, hW1⟩ : ∃ W1, (w.alloc (Obj.cells #[Value.int IntKind.u8 120, Value.int IntKind.u8 ((digC (c.toNat / 16)).toNat : Int), Value.int IntKind.u8 ((digC (c.toNat % 16)).toNat : Int)] 5)).drew = W1 := ⟨_, rfl⟩
  have HB : Hid (Below w.heap.size w W1) := Lib.hid (by rw [← hW1]; exact bel_trans (bel_alloc _ _) (bel_drewN _ 1))
  have hcv := enc_conv w W1 (digC (c.toNat / 16)) (digC (c.toNat % 16)) hW1
  rw [hW1]
  clear hW1
  refine hK.out _ _ ⟨fun _ => trivial, trivial⟩ ?_
  clear hK K
  simp only [Act.put, List.setIfInBounds_toArray, List.set_cons_zero, List.set_cons_succ]
  refine Od.Till.one (i := 7) (by kernel_rfl) rfl (fun K hK => ?_)
  rw [if_pos (by kernel_rfl)]
  go_simp
  refine hK.out _ _ ⟨fun _ => trivial, trivial⟩ ?_
  clear hK K
  simp only [Act.put, List.setIfInBounds_toArray, List.set_cons_zero, List.set_cons_succ]
  refine Od.Till.takeT (i := 8) (d := 2) (v := .string ⟨#[120, digC (c.toNat / 16), digC (c.toNat % 16)]⟩) rfl rfl (by kernel_rfl) (by kernel_rfl) (by kernel_rfl) (by kernel_rfl) (fun _ _ _ h => h) (.inl ⟨by rfl, ?_⟩) trivial trivial ?_
  · intro wx hSw
    clear hSw
    go_simp
  simp only [Act.put, List.setIfInBounds_toArray, List.set_cons_zero, List.set_cons_succ]
  refine Od.Till.done (by kernel_rfl) ?_
  go_wp2_with fail
  go_ret
  exact ⟨rfl, HB.out⟩
/- end encode -/
theorem toList_mk (l : Bs) : (⟨l.toArray⟩ : ByteArray).toList = l := by rw [ByteArray.toList_eq]
theorem one_conv (w : World) (a : UInt8) : (convert 48 9 (.slice (some ⟨w.heap.size, 0, none⟩) 1 1)).run Try.prog (w.alloc (Obj.cells #[Value.int IntKind.u8 (a.toNat : Int)] 5)) = .ok (.string ⟨#[a]⟩) (w.alloc (Obj.cells #[Value.int IntKind.u8 (a.toNat : Int)] 5)) := by
  refine run_convert_bytes_back (P := Try.prog) _ 48 9 5 ⟨w.heap.size, 0, none⟩ 1 [a] Try.underlying48 Try.underlying5 Try.underlying9 (fun j hj => ?_)
  match j, hj with
  | 0, _ => simp [Addr.add]
/-- How a character is spelled, behind #\. -/
def spellS (c : UInt8) : Bs := if (nameS c).isEmpty = true then (if printB c = true then [c] else encS c) else nameS c
theorem isEmpty_is (l : Bs) : (l == []) = l.isEmpty := by cases l <;> rfl
set_option maxRecDepth 100000 in
theorem spell_any (c : UInt8) (w : World) : Calls Try.prog 19 #[.int .u8 (c.toNat : Int)] w fun e w' => e = .returned (.string ⟨(spellS c).toArray⟩) ∧ Below w.heap.size w w' := by
  have HN := Lib.hid (name_any c)
  obtain ⟨T, hT⟩ : ∃ T, (⟨(nameS c).toArray⟩ : ByteArray) = T := ⟨_, rfl⟩
  rw [hT] at HN
  have hs : (⟨(spellS c).toArray⟩ : ByteArray) = if (T.toList == []) = true then (if printB c = true then ⟨#[c]⟩ else ⟨(encS c).toArray⟩) else T := by
    unfold spellS
    rw [← hT, toList_mk, isEmpty_is]
    split
    · split <;> rfl
    · rfl
  rw [hs]
  clear hs hT
  cases hb : T.toList == []
  · rw [if_neg (by decide)]
    go_enter Try.func19, Try.ntmps19
    go_wp2_with (go_at_call 34; refine (HN.out _).mono ?_; rintro e w' ⟨rfl, rfl⟩)
    go_ret
    exact ⟨rfl, Below.refl _ _⟩
  · rw [if_pos rfl]
    cases hp : printB c
    · rw [if_neg (by decide)]
      have HP := Lib.hid hp
      clear hp
      go_enter Try.func19, Try.ntmps19
      go_wp2_with (first | (go_at_call 34; refine (HN.out _).mono ?_; rintro e w' ⟨rfl, rfl⟩) | (go_at_call 35; refine (printed_any c _).mono ?_; rintro e w' ⟨rfl, rfl⟩; rw [HP.out]) | (go_at_call 36; refine (encode_any c _).mono ?_; rintro e w' ⟨rfl, hB⟩; have HB := Lib.hid hB; clear hB))
      go_ret
      exact ⟨rfl, HB.out⟩
    · rw [if_pos rfl]
      have HP := Lib.hid hp
      have hcv := one_conv w c
      clear hp
      go_enter Try.func19, Try.ntmps19
      go_wp2_with (first | (go_at_call 34; refine (HN.out _).mono ?_; rintro e w' ⟨rfl, rfl⟩) | (go_at_call 35; refine (printed_any c _).mono ?_; rintro e w' ⟨rfl, rfl⟩; rw [HP.out]))
      go_ret
      exact ⟨rfl, bel_alloc _ _⟩
/-- A character within a string. -/
def qS (c : UInt8) : Bs := if (escapeS c).isEmpty = true then (if printB c = true then [c] else 92 :: encS c) else escapeS c
theorem qS_len (c : UInt8) : (qS c).length ≤ 4 := by
  unfold qS escapeS encS
  repeat' split
  all_goals simp
def quoteR (l : Bs) : Bs := l.flatMap qS
theorem quoteR_len (l : Bs) : (quoteR l).length ≤ 4 * l.length := by
  unfold quoteR
  induction l with
  | nil => simp
  | cons c r ih => rw [List.flatMap_cons, List.length_append, List.length_cons]; have := qS_len c; omega
theorem quoteR_snoc (l : Bs) (c : UInt8) : quoteR (l ++ [c]) = quoteR l ++ qS c := by unfold quoteR; rw [List.flatMap_append]; simp
/-- A string's word. -/
def quoteS (l : Bs) : Bs := 34 :: (quoteR l ++ [34])
theorem strCells_is (l : Bs) : Lib.strCells ⟨l.toArray⟩ = bytesV l := by simp [Lib.strCells, bytesV]
def QuoAt (s : ByteArray) (w : World) (v i : Value) (wr : World) : Prop :=
  ∃ (k : Nat) (out : Bs), k ≤ s.size ∧ i = .int .i64 (k : Int) ∧ out = 34 :: quoteR (s.data.toList.take k) ∧ out.length ≤ 4 * k + 1 ∧ wr.ownsRow w.heap.size 5 1 v out.length (bytesV out) ∧ Below w.heap.size w wr
theorem quo_next {s : ByteArray} {k : Nat} {out : Bs} (h : out = 34 :: quoteR (s.data.toList.take k)) (hk : k < s.size) : out ++ qS s[k] = 34 :: quoteR (s.data.toList.take (k + 1)) := by
  rw [take_at s k hk, quoteR_snoc, h]; rfl
theorem own_one (w : World) (c : UInt8) : (w.alloc (.cells #[.int .u8 (c.toNat : Int)] 5)).ownsRow w.heap.size 5 1 (.slice (some ⟨w.heap.size, 0, none⟩) 1 1) 1 (bytesV [c]) := by
  have := World.ownsRow_lit (base := w.heap.size) (e := 5) (size := 1) w #[.int .u8 (c.toNat : Int)] 1 (Nat.le_refl _) (by decide) (by rfl)
  exact this
theorem own_str {w : World} {B : Nat} {v : Value} {out L : Bs} {T : ByteArray} (h : w.ownsRow B 5 1 v (out.length + T.size) (bytesV out ++ Lib.strCells T)) (hT : T = ⟨L.toArray⟩) : w.ownsRow B 5 1 v (out ++ L).length (bytesV (out ++ L)) := by
  subst hT
  rw [strCells_is] at h
  rw [List.length_append, show bytesV (out ++ L) = bytesV out ++ bytesV L by simp [bytesV]]
  exact h
theorem own_chr {w : World} {B : Nat} {v : Value} {out : Bs} {c : UInt8} (h : w.ownsRow B 5 1 v (out.length + 1) (bytesV out ++ [.int .u8 (c.toNat : Int)])) : w.ownsRow B 5 1 v (out ++ [c]).length (bytesV (out ++ [c])) := by
  rw [List.length_append, bytesV_snoc]
  exact h
theorem append_mk2 (a b : Bs) : (⟨a.toArray⟩ : ByteArray) ++ ⟨b.toArray⟩ = ⟨(a ++ b).toArray⟩ := by
  exact ByteArray.mk_append_mk a b
set_option maxRecDepth 100000 in
set_option maxHeartbeats 4000000 in
theorem quote_any (s : ByteArray) (w : World) (hs : s.size ≤ 1048576) : Calls Try.prog 20 #[.string s] w fun e w' => e = .returned (.string ⟨(quoteS s.data.toList).toArray⟩) ∧ Below w.heap.size w w' := by
  have Hs := Lib.hid hs
  obtain ⟨i0, hi, hz0, hz1, hz2⟩ := info_parts info_u8
  go_enter Try.func20, Try.ntmps20
  go_wp2_with fail
  go_loopw [3, 9] (fun v i wr => QuoAt s w v i wr) (fun _ i _ => s.size - (intOf i).toNat)
  case atStart => exact ⟨0, [34], Nat.zero_le _, rfl, rfl, by decide, own_one w 34, bel_alloc _ _⟩
  case round =>
    obtain ⟨k, out, hk, rfl, ho, hol, hown, hbel⟩ := hrel
    have Ho := Lib.hid ho
    have Hown := Lib.hid hown
    have Hbel := Lib.hid hbel
    have hsz := hbel.size
    clear ho hown hbel
    by_cases hlt : k < s.size
    · have dl : decide ((k : Int) < (s.size : Int)) = true := by simp [hlt]
      have i1 : (k : Int) < s.size := by omega
      have hq := quo_next Ho.out hlt
      have Hq := Lib.hid hq
      clear hq Ho
      have HE := Lib.hid (escape_any s[k])
      obtain ⟨T, hT⟩ : ∃ T, (⟨(escapeS s[k]).toArray⟩ : ByteArray) = T := ⟨_, rfl⟩
      rw [hT] at HE
      have HT := Lib.hid hT
      clear hT
      have hlq := qS_len s[k]
      have hE : (T.toList == []) = (escapeS s[k]).isEmpty := by rw [← HT.out, toList_mk, isEmpty_is]
      obtain ⟨L, hL⟩ : ∃ L, qS s[k] = L := ⟨_, rfl⟩
      rw [hL] at hlq Hq
      have hol2 : (out ++ L).length ≤ 4 * (k + 1) + 1 := by rw [List.length_append]; omega
      cases hb : T.toList == []
      · have hTL : T = ⟨L.toArray⟩ := by rw [← HT.out, ← hL]; unfold qS; rw [if_neg (by rw [← hE, hb]; decide)]
        have hts : T.size = L.length := by rw [hTL]; rfl
        have HTL := Lib.hid hTL
        have HOL := Lib.hid hol2
        clear hTL hL hE hol2
        go_wp2_with (first | (go_at_call 37; refine (HE.out _).mono ?_; rintro e w' ⟨rfl, rfl⟩) | (at_builtin; refine Lib.wpList_append_own_string _ rfl (.tmp 24) (.tmp 26) 48 9 rfl w.heap.size 5 i0 Try.underlying48 Try.underlying9 hi hz0 hz1 hz2 _ out.length (bytesV out) rfl Hown.out T rfl (by simp only [maxLen]; omega) (by omega) hsz ?_; intro v' w3 hown3 hg3 _))
        have HB3 := Lib.hid (Hbel.out.grown hg3 hsz (fun j h => (Hown.out.lt j h).1))
        have HO3 := Lib.hid hown3
        clear hown3 hg3
        go_wp2_with fail
        go_roundw
        case rel => exact ⟨k + 1, out ++ L, by omega, by go_num, Hq.out, HOL.out, own_str HO3.out HTL.out, HB3.out⟩
        case measure => simp [intOf]; omega
      · cases hp : printB s[k]
        · have hLe : L = 92 :: encS s[k] := by rw [← hL]; unfold qS; rw [if_pos (by rw [← hE, hb]), if_neg (by rw [hp]; decide)]
          have HLE := Lib.hid hLe
          have HP := Lib.hid hp
          have HOL := Lib.hid hol2
          have hsz4 : ((⟨#[92]⟩ : ByteArray) ++ ⟨(encS s[k]).toArray⟩).size = 4 := by rw [show (⟨#[92]⟩ : ByteArray) = ⟨([92] : Bs).toArray⟩ from rfl, append_mk2]; rfl
          have HTL : Hid (((⟨#[92]⟩ : ByteArray) ++ ⟨(encS s[k]).toArray⟩) = ⟨L.toArray⟩) := Lib.hid (by rw [hLe, show (⟨#[92]⟩ : ByteArray) = ⟨([92] : Bs).toArray⟩ from rfl, append_mk2]; rfl)
          have HS4 := Lib.hid hsz4
          clear hLe hL hE hp hol2 hsz4
          go_wp2_with (first | (go_at_call 37; refine (HE.out _).mono ?_; rintro e w' ⟨rfl, rfl⟩) | (go_at_call 35; refine (printed_any s[k] _).mono ?_; rintro e w' ⟨rfl, rfl⟩; rw [HP.out]) | (go_at_call 36; refine (encode_any s[k] _).mono ?_; rintro e w2 ⟨rfl, hB2⟩; have HB2 := Lib.hid hB2; clear hB2) | (at_builtin; refine Lib.wpList_append_own_string _ rfl (.tmp 15) (.tmp 18) 48 9 rfl w.heap.size 5 i0 Try.underlying48 Try.underlying9 hi hz0 hz1 hz2 _ out.length (bytesV out) rfl (own_below Hown.out HB2.out) ((⟨#[92]⟩ : ByteArray) ++ ⟨(encS s[k]).toArray⟩) rfl (by rw [HS4.out]; simp only [maxLen]; omega) (by rw [HS4.out]; omega) (Nat.le_trans hsz HB2.out.size) ?_; intro v' w3 hown3 hg3 _))
          have HB3 := Lib.hid ((Hbel.out.trans (HB2.out.mono hsz)).grown hg3 (Nat.le_trans hsz HB2.out.size) (fun j h => (Hown.out.lt j h).1))
          have HO3 := Lib.hid hown3
          clear hown3 hg3
          go_wp2_with fail
          go_roundw
          case rel => exact ⟨k + 1, out ++ L, by omega, by go_num, Hq.out, HOL.out, own_str HO3.out HTL.out, HB3.out⟩
          case measure => simp [intOf]; omega
        · have hLe : L = [s[k]] := by rw [← hL]; unfold qS; rw [if_pos (by rw [← hE, hb]), if_pos hp]
          subst hLe
          have HP := Lib.hid hp
          have HOL := Lib.hid hol2
          clear hL hE hp hol2
          go_wp2_with (first | (go_at_call 37; refine (HE.out _).mono ?_; rintro e w' ⟨rfl, rfl⟩) | (go_at_call 35; refine (printed_any s[k] _).mono ?_; rintro e w' ⟨rfl, rfl⟩; rw [HP.out]) | (at_builtin; refine wpList_append_own _ rfl (.tmp 31) (.tmp 33) 48 rfl w.heap.size 5 i0 (.int .u8 0) 1 1 Try.underlying48 hi hz0 hz1 hz2 rfl (by omega) _ out.length (bytesV out) rfl (Hown.out.alloc _) ⟨wr.heap.size, 0, none⟩ 1 1 [.int .u8 (s[k].toNat : Int)] rfl rfl (cell_one_new _ _ _) (by simp [Value.oneCell']) (by simp only [maxLen]; omega) (by omega) (by simp; omega) ?_; intro v' w3 hown3 hg3 _))
          have HB3 := Lib.hid ((Hbel.out.alloc hsz _).grown hg3 (by simp; omega) (fun j h => (Hown.out.lt j h).1))
          have HO3 := Lib.hid hown3
          clear hown3 hg3
          go_wp2_with fail
          go_roundw
          case rel => exact ⟨k + 1, out ++ [s[k]], by omega, by go_num, Hq.out, HOL.out, own_chr HO3.out, HB3.out⟩
          case measure => simp [intOf]; omega
    · have dl : decide ((k : Int) < (s.size : Int)) = false := by simp [hlt]
      have hfin : out ++ [34] = quoteS s.data.toList := by
        rw [Ho.out, List.take_of_length_le (by rw [len_of]; omega)]; rfl
      have HF := Lib.hid hfin
      clear hfin Ho
      go_wp2_with (at_builtin; refine wpList_append_own _ rfl (.tmp 36) (.tmp 37) 48 rfl w.heap.size 5 i0 (.int .u8 0) 1 1 Try.underlying48 hi hz0 hz1 hz2 rfl (by omega) _ out.length (bytesV out) rfl (Hown.out.alloc _) ⟨wr.heap.size, 0, none⟩ 1 1 [.int .u8 ((34 : UInt8).toNat : Int)] rfl rfl (cell_one_new _ _ _) (by simp [Value.oneCell']) (by simp only [maxLen]; omega) (by omega) (by simp; omega) ?_; intro v' w3 hown3 hg3 _; have hcv := own_conv (own_chr hown3); obtain ⟨va, vc, rfl⟩ := own_slice hown3; have HB3 := Lib.hid ((Hbel.out.alloc hsz _).grown hg3 (by simp; omega) (fun j h => (Hown.out.lt j h).1)); rw [HF.out] at hcv; clear hown3 hg3)
      go_ret
      exact ⟨rfl, HB3.out⟩
end Go.Proofs.Ytpeleifkednmoaa.Lx
end
