/- The words of a text, by definition. -/
import Derived.Lib.AppendStr
import Derived.Test.YtpeleifkednmoaaM10
import Derived.Test.YtpeleifkednmoaaM2
import Derived.IntWalk
import Derived.Test.YtpeleifkednmoaaM12
section
namespace Go.Proofs.Ytpeleifkednmoaa.Lx
open Go.ChangeShapes Go.WideShapes Go.ChangeAt Go.RowKit
set_option linter.unusedVariables false
set_option linter.unusedSimpArgs false

def digL : Bs := [48, 49, 50, 51, 52, 53, 54, 55, 56, 57, 97, 98, 99, 100, 101, 102]
def digC (q : Nat) : UInt8 := digL.getD q 0
/-- A character's code: x and its two digits. -/
def encS (c : UInt8) : Bs := [120, digC (c.toNat / 16), digC (c.toNat % 16)]
theorem wrap_div (c : UInt8) : IntKind.u8.wrap ((c.toNat : Int) / 16) = (c.toNat : Int) / 16 := by
  have := c.toNat_lt
  rw [IntKind.wrap_u8]
  omega
theorem dig_at : ∀ q : Fin 16, ((⟨#[48, 49, 50, 51, 52, 53, 54, 55, 56, 57, 97, 98, 99, 100, 101, 102]⟩ : ByteArray)[q.val]'(q.isLt)) = digC q.val := by decide
theorem idx_dig (x : Int) (q : Nat) (hx : x = (q : Int)) (hq : q < 16) (wx : World) (E : Result Value) :
    ((if h : 0 ≤ x ∧ x < 16 then Result.ok (Value.int IntKind.u8 (((⟨#[48, 49, 50, 51, 52, 53, 54, 55, 56, 57, 97, 98, 99, 100, 101, 102]⟩ : ByteArray)[x.toNat]'(by have := h.1; have := h.2; show x.toNat < 16; omega)).toNat : Int)) wx else E).andThen fun a w' => Result.ok (Next.value a) w') = Result.ok (Next.value (Value.int IntKind.u8 ((digC q).toNat : Int))) wx := by
  subst hx
  rw [dif_pos ⟨by omega, by omega⟩]
  have := dig_at ⟨q, hq⟩
  simp only [Int.toNat_natCast]
  rw [← this]
  rfl
theorem enc_conv (w W1 : World) (a b : UInt8) (h : (w.alloc (Obj.cells #[Value.int IntKind.u8 120, Value.int IntKind.u8 (a.toNat : Int), Value.int IntKind.u8 (b.toNat : Int)] 5)).drew = W1) :
    (convert 48 9 (.slice (some ⟨w.heap.size, 0, none⟩) 3 3)).run Try.prog W1 = .ok (.string ⟨#[120, a, b]⟩) W1 := by
  subst h
  refine run_convert_bytes_back (P := Try.prog) _ 48 9 5 ⟨w.heap.size, 0, none⟩ 3 [120, a, b] Try.underlying48 Try.underlying5 Try.underlying9 (fun j hj => ?_)
  match j, hj with
  | 0, _ => simp [Addr.add]
  | 1, _ => simp [Addr.add]
  | 2, _ => simp [Addr.add]
set_option maxRecDepth 100000 in
theorem encode_any (c : UInt8) (w : World) : Calls Try.prog 36 #[.int .u8 (c.toNat : Int)] w fun e w' => e = .returned (.string ⟨(encS c).toArray⟩) ∧ Below w.heap.size w w' := by
  go_enter Try.func36, Try.ntmps36
  go_wp2_with fail
  refine Od.till_region 9 (fun _ : World => True) (fun _ : World => True) 9 (by kernel_rfl) rfl ?_
  simp only [Array.replicate_succ, Array.replicate_zero, List.push_toArray, List.nil_append, List.cons_append]
  refine Od.Till.takeT (i := 0) (d := 3) (v := .int .u8 (c.toNat : Int)) rfl rfl (by kernel_rfl) (by kernel_rfl) (by kernel_rfl) (by kernel_rfl) (fun _ _ _ h => h) (.inl ⟨by rfl, ?_⟩) trivial trivial ?_
  · intro wx hSw
    clear hSw
    go_simp
  simp only [Act.put, List.setIfInBounds_toArray, List.set_cons_zero, List.set_cons_succ]
  refine Od.Till.takeT (i := 1) (d := 4) (v := .int .u8 ((c.toNat / 16 : Nat) : Int)) rfl rfl (by kernel_rfl) (by kernel_rfl) (by kernel_rfl) (by kernel_rfl) (fun _ _ _ h => h) (.inl ⟨by rfl, ?_⟩) trivial trivial ?_
  · intro wx hSw
    clear hSw
    go_simp; exact wrap_div c
  simp only [Act.put, List.setIfInBounds_toArray, List.set_cons_zero, List.set_cons_succ]
  refine Od.Till.takeT (i := 2) (d := 5) (v := .int .u8 ((digC (c.toNat / 16)).toNat : Int)) rfl rfl (by kernel_rfl) (by kernel_rfl) (by kernel_rfl) (by kernel_rfl) (fun _ _ _ h => h) (.inl ⟨by rfl, ?_⟩) trivial trivial ?_
  · intro wx hSw
    clear hSw
    go_simp; exact idx_dig _ (c.toNat / 16) rfl (by have := c.toNat_lt; omega) _ _
  simp only [Act.put, List.setIfInBounds_toArray, List.set_cons_zero, List.set_cons_succ]
  refine Od.Till.takeT (i := 3) (d := 6) (v := .int .u8 (c.toNat : Int)) rfl rfl (by kernel_rfl) (by kernel_rfl) (by kernel_rfl) (by kernel_rfl) (fun _ _ _ h => h) (.inl ⟨by rfl, ?_⟩) trivial trivial ?_
  · intro wx hSw
    clear hSw
    go_simp
  simp only [Act.put, List.setIfInBounds_toArray, List.set_cons_zero, List.set_cons_succ]
  refine Od.Till.takeT (i := 4) (d := 7) (v := .int .u8 ((c.toNat % 16 : Nat) : Int)) rfl rfl (by kernel_rfl) (by kernel_rfl) (by kernel_rfl) (by kernel_rfl) (fun _ _ _ h => h) (.inl ⟨by rfl, ?_⟩) trivial trivial ?_
  · intro wx hSw
    clear hSw
    go_simp; exact Int.tmod_eq_emod_of_nonneg (Int.natCast_nonneg _)
  simp only [Act.put, List.setIfInBounds_toArray, List.set_cons_zero, List.set_cons_succ]
  refine Od.Till.takeT (i := 5) (d := 8) (v := .int .u8 ((digC (c.toNat % 16)).toNat : Int)) rfl rfl (by kernel_rfl) (by kernel_rfl) (by kernel_rfl) (by kernel_rfl) (fun _ _ _ h => h) (.inl ⟨by rfl, ?_⟩) trivial trivial ?_
  · intro wx hSw
    clear hSw
    go_simp; exact idx_dig _ (c.toNat % 16) rfl (Nat.mod_lt _ (by decide)) _ _
  simp only [Act.put, List.setIfInBounds_toArray, List.set_cons_zero, List.set_cons_succ]
  refine Od.Till.one (i := 6) (by kernel_rfl) rfl (fun K hK => ?_)
  rw [if_pos (by kernel_rfl)]
  go_simp
  obtain ⟨W1, hW1⟩ : ∃ W1, (w.alloc (Obj.cells #[Value.int IntKind.u8 120, Value.int IntKind.u8 ((digC (c.toNat / 16)).toNat : Int), Value.int IntKind.u8 ((digC (c.toNat % 16)).toNat : Int)] 5)).drew = W1 := ⟨_, rfl⟩
  have HB : Hid (Below w.heap.size w W1) := Lib.hid (by rw [← hW1]; exact bel_trans (bel_alloc _ _) (bel_drewN _ 1))
  have hcv := enc_conv w W1 (digC (c.toNat / 16)) (digC (c.toNat % 16)) hW1
  rw [hW1]
  clear hW1
  refine hK.out _ _ ⟨fun _ => trivial, trivial⟩ ?_
  clear hK K
  simp only [Act.put, List.setIfInBounds_toArray, List.set_cons_zero, List.set_cons_succ]
  refine Od.Till.one (i := 7) (by kernel_rfl) rfl (fun K hK => ?_)
  rw [if_pos (by kernel_rfl)]
  go_simp
  refine hK.out _ _ ⟨fun _ => trivial, trivial⟩ ?_
  clear hK K
  simp only [Act.put, List.setIfInBounds_toArray, List.set_cons_zero, List.set_cons_succ]
  refine Od.Till.takeT (i := 8) (d := 2) (v := .string ⟨#[120, digC (c.toNat / 16), digC (c.toNat % 16)]⟩) rfl rfl (by kernel_rfl) (by kernel_rfl) (by kernel_rfl) (by kernel_rfl) (fun _ _ _ h => h) (.inl ⟨by rfl, ?_⟩) trivial trivial ?_
  · intro wx hSw
    clear hSw
    go_simp
  simp only [Act.put, List.setIfInBounds_toArray, List.set_cons_zero, List.set_cons_succ]
  refine Od.Till.done (by kernel_rfl) ?_
  go_wp2_with fail
  go_ret
  exact ⟨rfl, HB.out⟩
/- end encode -/
theorem toList_mk (l : Bs) : (⟨l.toArray⟩ : ByteArray).toList = l := by rw [ByteArray.toList_eq]
theorem one_conv (w : World) (a : UInt8) : (convert 48 9 (.slice (some ⟨w.heap.size, 0, none⟩) 1 1)).run Try.prog (w.alloc (Obj.cells #[Value.int IntKind.u8 (a.toNat : Int)] 5)) = .ok (.string ⟨#[a]⟩) (w.alloc (Obj.cells #[Value.int IntKind.u8 (a.toNat : Int)] 5)) := by
  refine run_convert_bytes_back (P := Try.prog) _ 48 9 5 ⟨w.heap.size, 0, none⟩ 1 [a] Try.underlying48 Try.underlying5 Try.underlying9 (fun j hj => ?_)
  match j, hj with
  | 0, _ => simp [Addr.add]
/-- How a character is spelled, behind #\. -/
def spellS (c : UInt8) : Bs := if (nameS c).isEmpty = true then (if printB c = true then [c] else encS c) else nameS c
theorem isEmpty_is (l : Bs) : (l == []) = l.isEmpty := by cases l <;> rfl
set_option maxRecDepth 100000 in
theorem spell_any (c : UInt8) (w : World) : Calls Try.prog 19 #[.int .u8 (c.toNat : Int)] w fun e w' => e = .returned (.string ⟨(spellS c).toArray⟩) ∧ Below w.heap.size w w' := by
  have HN := Lib.hid (name_any c)
  obtain ⟨T, hT⟩ : ∃ T, (⟨(nameS c).toArray⟩ : ByteArray) = T := ⟨_, rfl⟩
  rw [hT] at HN
  have hs : (⟨(spellS c).toArray⟩ : ByteArray) = if (T.toList == []) = true then (if printB c = true then ⟨#[c]⟩ else ⟨(encS c).toArray⟩) else T := by
    unfold spellS
    rw [← hT, toList_mk, isEmpty_is]
    split
    · split <;> rfl
    · rfl
  rw [hs]
  clear hs hT
  cases hb : T.toList == []
  · rw [if_neg (by decide)]
    go_enter Try.func19, Try.ntmps19
    go_wp2_with (go_at_call 34; refine (HN.out _).mono ?_; rintro e w' ⟨rfl, rfl⟩)
    go_ret
    exact ⟨rfl, Below.refl _ _⟩
  · rw [if_pos rfl]
    cases hp : printB c
    · rw [if_neg (by decide)]
      have HP := Lib.hid hp
      clear hp
      go_enter Try.func19, Try.ntmps19
      go_wp2_with (first | (go_at_call 34; refine (HN.out _).mono ?_; rintro e w' ⟨rfl, rfl⟩) | (go_at_call 35; refine (printed_any c _).mono ?_; rintro e w' ⟨rfl, rfl⟩; rw [HP.out]) | (go_at_call 36; refine (encode_any c _).mono ?_; rintro e w' ⟨rfl, hB⟩; have HB := Lib.hid hB; clear hB))
      go_ret
      exact ⟨rfl, HB.out⟩
    · rw [if_pos rfl]
      have HP := Lib.hid hp
      have hcv := one_conv w c
      clear hp
      go_enter Try.func19, Try.ntmps19
      go_wp2_with (first | (go_at_call 34; refine (HN.out _).mono ?_; rintro e w' ⟨rfl, rfl⟩) | (go_at_call 35; refine (printed_any c _).mono ?_; rintro e w' ⟨rfl, rfl⟩; rw [HP.out]))
      go_ret
      exact ⟨rfl, bel_alloc _ _⟩
/-- A character within a string. -/
def qS (c : UInt8) : Bs := if (escapeS c).isEmpty = true then (if printB c = true then [c] else 92 :: encS c) else escapeS c
theorem qS_len (c : UInt8) : (qS c).length ≤ 4 := by
  unfold qS escapeS encS
  repeat' split
  all_goals simp
def quoteR (l : Bs) : Bs := l.flatMap qS
theorem quoteR_len (l : Bs) : (quoteR l).length ≤ 4 * l.length := by
  unfold quoteR
  induction l with
  | nil => simp
  | cons c r ih => rw [List.flatMap_cons, List.length_append, List.length_cons]; have := qS_len c; omega
theorem quoteR_snoc (l : Bs) (c : UInt8) : quoteR (l ++ [c]) = quoteR l ++ qS c := by unfold quoteR; rw [List.flatMap_append]; simp
/-- A string's word. -/
def quoteS (l : Bs) : Bs := 34 :: (quoteR l ++ [34])
theorem strCells_is (l : Bs) : Lib.strCells ⟨l.toArray⟩ = bytesV l := by simp [Lib.strCells, bytesV]
def QuoAt (s : ByteArray) (w : World) (v i : Value) (wr : World) : Prop :=
  ∃ (k : Nat) (out : Bs), k ≤ s.size ∧ i = .int .i64 (k : Int) ∧ out = 34 :: quoteR (s.data.toList.take k) ∧ out.length ≤ 4 * k + 1 ∧ wr.ownsRow w.heap.size 5 1 v out.length (bytesV out) ∧ Below w.heap.size w wr
theorem quo_next {s : ByteArray} {k : Nat} {out : Bs} (h : out = 34 :: quoteR (s.data.toList.take k)) (hk : k < s.size) : out ++ qS s[k] = 34 :: quoteR (s.data.toList.take (k + 1)) := by
  rw [take_at s k hk, quoteR_snoc, h]; rfl
theorem own_one (w : World) (c : UInt8) : (w.alloc (.cells #[.int .u8 (c.toNat : Int)] 5)).ownsRow w.heap.size 5 1 (.slice (some ⟨w.heap.size, 0, none⟩) 1 1) 1 (bytesV [c]) := by
  have := World.ownsRow_lit (base := w.heap.size) (e := 5) (size := 1) w #[.int .u8 (c.toNat : Int)] 1 (Nat.le_refl _) (by decide) (by rfl)
  exact this
theorem own_str {w : World} {B : Nat} {v : Value} {out L : Bs} {T : ByteArray} (h : w.ownsRow B 5 1 v (out.length + T.size) (bytesV out ++ Lib.strCells T)) (hT : T = ⟨L.toArray⟩) : w.ownsRow B 5 1 v (out ++ L).length (bytesV (out ++ L)) := by
  subst hT
  rw [strCells_is] at h
  rw [List.length_append, show bytesV (out ++ L) = bytesV out ++ bytesV L by simp [bytesV]]
  exact h
theorem own_chr {w : World} {B : Nat} {v : Value} {out : Bs} {c : UInt8} (h : w.ownsRow B 5 1 v (out.length + 1) (bytesV out ++ [.int .u8 (c.toNat : Int)])) : w.ownsRow B 5 1 v (out ++ [c]).length (bytesV (out ++ [c])) := by
  rw [List.length_append, bytesV_snoc]
  exact h
theorem append_mk2 (a b : Bs) : (⟨a.toArray⟩ : ByteArray) ++ ⟨b.toArray⟩ = ⟨(a ++ b).toArray⟩ := by
  exact ByteArray.mk_append_mk a b
set_option maxRecDepth 100000 in
set_option maxHeartbeats 4000000 in
theorem quote_any (s : ByteArray) (w : World) (hs : s.size ≤ 1048576) : Calls Try.prog 20 #[.string s] w fun e w' => e = .returned (.string ⟨(quoteS s.data.toList).toArray⟩) ∧ Below w.heap.size w w' := by
  have Hs := Lib.hid hs
  obtain ⟨i0, hi, hz0, hz1, hz2⟩ := info_parts info_u8
  go_enter Try.func20, Try.ntmps20
  go_wp2_with fail
  go_loopw [3, 9] (fun v i wr => QuoAt s w v i wr) (fun _ i _ => s.size - (intOf i).toNat)
  case atStart => exact ⟨0, [34], Nat.zero_le _, rfl, rfl, by decide, own_one w 34, bel_alloc _ _⟩
  case round =>
    obtain ⟨k, out, hk, rfl, ho, hol, hown, hbel⟩ := hrel
    have Ho := Lib.hid ho
    have Hown := Lib.hid hown
    have Hbel := Lib.hid hbel
    have hsz := hbel.size
    clear ho hown hbel
    by_cases hlt : k < s.size
    · have dl : decide ((k : Int) < (s.size : Int)) = true := by simp [hlt]
      have i1 : (k : Int) < s.size := by omega
      have hq := quo_next Ho.out hlt
      have Hq := Lib.hid hq
      clear hq Ho
      have HE := Lib.hid (escape_any s[k])
      obtain ⟨T, hT⟩ : ∃ T, (⟨(escapeS s[k]).toArray⟩ : ByteArray) = T := ⟨_, rfl⟩
      rw [hT] at HE
      have HT := Lib.hid hT
      clear hT
      have hlq := qS_len s[k]
      have hE : (T.toList == []) = (escapeS s[k]).isEmpty := by rw [← HT.out, toList_mk, isEmpty_is]
      obtain ⟨L, hL⟩ : ∃ L, qS s[k] = L := ⟨_, rfl⟩
      rw [hL] at hlq Hq
      have hol2 : (out ++ L).length ≤ 4 * (k + 1) + 1 := by rw [List.length_append]; omega
      cases hb : T.toList == []
      · have hTL : T = ⟨L.toArray⟩ := by rw [← HT.out, ← hL]; unfold qS; rw [if_neg (by rw [← hE, hb]; decide)]
        have hts : T.size = L.length := by rw [hTL]; rfl
        have HTL := Lib.hid hTL
        have HOL := Lib.hid hol2
        clear hTL hL hE hol2
        go_wp2_with (first | (go_at_call 37; refine (HE.out _).mono ?_; rintro e w' ⟨rfl, rfl⟩) | (at_builtin; refine Lib.wpList_append_own_string _ rfl (.tmp 24) (.tmp 26) 48 9 rfl w.heap.size 5 i0 Try.underlying48 Try.underlying9 hi hz0 hz1 hz2 _ out.length (bytesV out) rfl Hown.out T rfl (by simp only [maxLen]; omega) (by omega) hsz ?_; intro v' w3 hown3 hg3 _))
        have HB3 := Lib.hid (Hbel.out.grown hg3 hsz (fun j h => (Hown.out.lt j h).1))
        have HO3 := Lib.hid hown3
        clear hown3 hg3
        go_wp2_with fail
        go_roundw
        case rel => exact ⟨k + 1, out ++ L, by omega, by go_num, Hq.out, HOL.out, own_str HO3.out HTL.out, HB3.out⟩
        case measure => simp [intOf]; omega
      · cases hp : printB s[k]
        · have hLe : L = 92 :: encS s[k] := by rw [← hL]; unfold qS; rw [if_pos (by rw [← hE, hb]), if_neg (by rw [hp]; decide)]
          have HLE := Lib.hid hLe
          have HP := Lib.hid hp
          have HOL := Lib.hid hol2
          have hsz4 : ((⟨#[92]⟩ : ByteArray) ++ ⟨(encS s[k]).toArray⟩).size = 4 := by rw [show (⟨#[92]⟩ : ByteArray) = ⟨([92] : Bs).toArray⟩ from rfl, append_mk2]; rfl
          have HTL : Hid (((⟨#[92]⟩ : ByteArray) ++ ⟨(encS s[k]).toArray⟩) = ⟨L.toArray⟩) := Lib.hid (by rw [hLe, show (⟨#[92]⟩ : ByteArray) = ⟨([92] : Bs).toArray⟩ from rfl, append_mk2]; rfl)
          have HS4 := Lib.hid hsz4
          clear hLe hL hE hp hol2 hsz4
          go_wp2_with (first | (go_at_call 37; refine (HE.out _).mono ?_; rintro e w' ⟨rfl, rfl⟩) | (go_at_call 35; refine (printed_any s[k] _).mono ?_; rintro e w' ⟨rfl, rfl⟩; rw [HP.out]) | (go_at_call 36; refine (encode_any s[k] _).mono ?_; rintro e w2 ⟨rfl, hB2⟩; have HB2 := Lib.hid hB2; clear hB2) | (at_builtin; refine Lib.wpList_append_own_string _ rfl (.tmp 15) (.tmp 18) 48 9 rfl w.heap.size 5 i0 Try.underlying48 Try.underlying9 hi hz0 hz1 hz2 _ out.length (bytesV out) rfl (own_below Hown.out HB2.out) ((⟨#[92]⟩ : ByteArray) ++ ⟨(encS s[k]).toArray⟩) rfl (by rw [HS4.out]; simp only [maxLen]; omega) (by rw [HS4.out]; omega) (Nat.le_trans hsz HB2.out.size) ?_; intro v' w3 hown3 hg3 _))
          have HB3 := Lib.hid ((Hbel.out.trans (HB2.out.mono hsz)).grown hg3 (Nat.le_trans hsz HB2.out.size) (fun j h => (Hown.out.lt j h).1))
          have HO3 := Lib.hid hown3
          clear hown3 hg3
          go_wp2_with fail
          go_roundw
          case rel => exact ⟨k + 1, out ++ L, by omega, by go_num, Hq.out, HOL.out, own_str HO3.out HTL.out, HB3.out⟩
          case measure => simp [intOf]; omega
        · have hLe : L = [s[k]] := by rw [← hL]; unfold qS; rw [if_pos (by rw [← hE, hb]), if_pos hp]
          subst hLe
          have HP := Lib.hid hp
          have HOL := Lib.hid hol2
          clear hL hE hp hol2
          go_wp2_with (first | (go_at_call 37; refine (HE.out _).mono ?_; rintro e w' ⟨rfl, rfl⟩) | (go_at_call 35; refine (printed_any s[k] _).mono ?_; rintro e w' ⟨rfl, rfl⟩; rw [HP.out]) | (at_builtin; refine wpList_append_own _ rfl (.tmp 31) (.tmp 33) 48 rfl w.heap.size 5 i0 (.int .u8 0) 1 1 Try.underlying48 hi hz0 hz1 hz2 rfl (by omega) _ out.length (bytesV out) rfl (Hown.out.alloc _) ⟨wr.heap.size, 0, none⟩ 1 1 [.int .u8 (s[k].toNat : Int)] rfl rfl (cell_one_new _ _ _) (by simp [Value.oneCell']) (by simp only [maxLen]; omega) (by omega) (by simp; omega) ?_; intro v' w3 hown3 hg3 _))
          have HB3 := Lib.hid ((Hbel.out.alloc hsz _).grown hg3 (by simp; omega) (fun j h => (Hown.out.lt j h).1))
          have HO3 := Lib.hid hown3
          clear hown3 hg3
          go_wp2_with fail
          go_roundw
          case rel => exact ⟨k + 1, out ++ [s[k]], by omega, by go_num, Hq.out, HOL.out, own_chr HO3.out, HB3.out⟩
          case measure => simp [intOf]; omega
    · have dl : decide ((k : Int) < (s.size : Int)) = false := by simp [hlt]
      have hfin : out ++ [34] = quoteS s.data.toList := by
        rw [Ho.out, List.take_of_length_le (by rw [len_of]; omega)]; rfl
      have HF := Lib.hid hfin
      clear hfin Ho
      go_wp2_with (at_builtin; refine wpList_append_own _ rfl (.tmp 36) (.tmp 37) 48 rfl w.heap.size 5 i0 (.int .u8 0) 1 1 Try.underlying48 hi hz0 hz1 hz2 rfl (by omega) _ out.length (bytesV out) rfl (Hown.out.alloc _) ⟨wr.heap.size, 0, none⟩ 1 1 [.int .u8 ((34 : UInt8).toNat : Int)] rfl rfl (cell_one_new _ _ _) (by simp [Value.oneCell']) (by simp only [maxLen]; omega) (by omega) (by simp; omega) ?_; intro v' w3 hown3 hg3 _; have hcv := own_conv (own_chr hown3); obtain ⟨va, vc, rfl⟩ := own_slice hown3; have HB3 := Lib.hid ((Hbel.out.alloc hsz _).grown hg3 (by simp; omega) (fun j h => (Hown.out.lt j h).1)); rw [HF.out] at hcv; clear hown3 hg3)
      go_ret
      exact ⟨rfl, HB3.out⟩
end Go.Proofs.Ytpeleifkednmoaa.Lx
end
section
namespace Go.Proofs.Ytpeleifkednmoaa.Lx
open Go.ChangeShapes Go.WideShapes Go.ChangeAt Go.RowKit
set_option linter.unusedVariables false
set_option linter.unusedSimpArgs false

theorem wrap64_div (c : UInt8) : IntKind.i64.wrap ((c.toNat : Int) / 16) = (c.toNat : Int) / 16 := IntWalk.i64_in _ (by have := c.toNat_lt; omega)
theorem wrap64_q (c : UInt8) : IntKind.i64.wrap ((c.toNat : Int) / 16 + 1) = (c.toNat : Int) / 16 + 1 := IntWalk.i64_in _ (by have := c.toNat_lt; omega)
theorem wrap64_r (c : UInt8) : IntKind.i64.wrap ((c.toNat : Int) % 16 + 1) = (c.toNat : Int) % 16 + 1 := IntWalk.i64_in _ (by have := c.toNat_lt; omega)
theorem sl_at : ∀ q : Fin 16, ((⟨#[48, 49, 50, 51, 52, 53, 54, 55, 56, 57, 97, 98, 99, 100, 101, 102]⟩ : ByteArray).extract q.val (q.val + 1)) = ⟨#[digC q.val]⟩ := by decide
theorem sl_dig (x y : Int) (q : Nat) (hx : x = (q : Int)) (hy : y = (q : Int) + 1) (hq : q < 16) (wx : World) :
    (((Instr.slice 9 (.string ⟨#[48, 49, 50, 51, 52, 53, 54, 55, 56, 57, 97, 98, 99, 100, 101, 102]⟩) (some (.int .i64 x)) (some (.int .i64 y)) none).run Try.prog wx).andThen fun a w' => Result.ok (Next.value a) w') = Result.ok (Next.value (.string ⟨#[digC q]⟩)) wx := by
  subst hx hy
  rw [run_sub _ _ _ (by omega) (by omega) (by show (q : Int) + 1 ≤ 16; omega)]
  have := sl_at ⟨q, hq⟩
  rw [show ((q : Int)).toNat = q from rfl, show ((q : Int) + 1).toNat = q + 1 from rfl, this]
  rfl
set_option maxRecDepth 100000 in
theorem two_any (c : UInt8) (w : World) : Calls Try.prog 41 #[.int .i64 (c.toNat : Int)] w fun e w' => e = .returned (.string ⟨(encS c).toArray⟩) ∧ Below w.heap.size w w' := by
  go_enter Try.func41, Try.ntmps41
  go_wp2_with fail
  refine Od.till_region 15 (fun _ : World => True) (fun _ : World => True) 15 (by kernel_rfl) rfl ?_
  simp only [Array.replicate_succ, Array.replicate_zero, List.push_toArray, List.nil_append, List.cons_append]
  refine Od.Till.takeT (i := 0) (d := 3) (v := .int .i64 (c.toNat : Int)) rfl rfl (by kernel_rfl) (by kernel_rfl) (by kernel_rfl) (by kernel_rfl) (fun _ _ _ h => h) (.inl ⟨by rfl, ?_⟩) trivial trivial ?_
  · intro wx hSw
    clear hSw
    go_simp
  simp only [Act.put, List.setIfInBounds_toArray, List.set_cons_zero, List.set_cons_succ]
  refine Od.Till.takeT (i := 1) (d := 4) (v := .int .i64 ((c.toNat / 16 : Nat) : Int)) rfl rfl (by kernel_rfl) (by kernel_rfl) (by kernel_rfl) (by kernel_rfl) (fun _ _ _ h => h) (.inl ⟨by rfl, ?_⟩) trivial trivial ?_
  · intro wx hSw
    clear hSw
    go_simp; exact wrap64_div c
  simp only [Act.put, List.setIfInBounds_toArray, List.set_cons_zero, List.set_cons_succ]
  refine Od.Till.takeT (i := 2) (d := 5) (v := .int .i64 (c.toNat : Int)) rfl rfl (by kernel_rfl) (by kernel_rfl) (by kernel_rfl) (by kernel_rfl) (fun _ _ _ h => h) (.inl ⟨by rfl, ?_⟩) trivial trivial ?_
  · intro wx hSw
    clear hSw
    go_simp
  simp only [Act.put, List.setIfInBounds_toArray, List.set_cons_zero, List.set_cons_succ]
  refine Od.Till.takeT (i := 3) (d := 6) (v := .int .i64 ((c.toNat / 16 : Nat) : Int)) rfl rfl (by kernel_rfl) (by kernel_rfl) (by kernel_rfl) (by kernel_rfl) (fun _ _ _ h => h) (.inl ⟨by rfl, ?_⟩) trivial trivial ?_
  · intro wx hSw
    clear hSw
    go_simp; exact wrap64_div c
  simp only [Act.put, List.setIfInBounds_toArray, List.set_cons_zero, List.set_cons_succ]
  refine Od.Till.takeT (i := 4) (d := 7) (v := .int .i64 (((c.toNat / 16 : Nat) : Int) + 1)) rfl rfl (by kernel_rfl) (by kernel_rfl) (by kernel_rfl) (by kernel_rfl) (fun _ _ _ h => h) (.inl ⟨by rfl, ?_⟩) trivial trivial ?_
  · intro wx hSw
    clear hSw
    go_simp; exact wrap64_q c
  simp only [Act.put, List.setIfInBounds_toArray, List.set_cons_zero, List.set_cons_succ]
  refine Od.Till.takeT (i := 5) (d := 8) (v := .string ⟨#[digC (c.toNat / 16)]⟩) rfl rfl (by kernel_rfl) (by kernel_rfl) (by kernel_rfl) (by kernel_rfl) (fun _ _ _ h => h) (.inl ⟨by rfl, ?_⟩) trivial trivial ?_
  · intro wx hSw
    clear hSw
    go_simp; exact sl_dig _ _ (c.toNat / 16) rfl rfl (by have := c.toNat_lt; omega) _
  simp only [Act.put, List.setIfInBounds_toArray, List.set_cons_zero, List.set_cons_succ]
  refine Od.Till.takeT (i := 6) (d := 9) (v := .string ⟨#[120, digC (c.toNat / 16)]⟩) rfl rfl (by kernel_rfl) (by kernel_rfl) (by kernel_rfl) (by kernel_rfl) (fun _ _ _ h => h) (.inl ⟨by rfl, ?_⟩) trivial trivial ?_
  · intro wx hSw
    clear hSw
    go_simp; try rfl
  simp only [Act.put, List.setIfInBounds_toArray, List.set_cons_zero, List.set_cons_succ]
  refine Od.Till.takeT (i := 7) (d := 10) (v := .int .i64 (c.toNat : Int)) rfl rfl (by kernel_rfl) (by kernel_rfl) (by kernel_rfl) (by kernel_rfl) (fun _ _ _ h => h) (.inl ⟨by rfl, ?_⟩) trivial trivial ?_
  · intro wx hSw
    clear hSw
    go_simp
  simp only [Act.put, List.setIfInBounds_toArray, List.set_cons_zero, List.set_cons_succ]
  refine Od.Till.takeT (i := 8) (d := 11) (v := .int .i64 ((c.toNat % 16 : Nat) : Int)) rfl rfl (by kernel_rfl) (by kernel_rfl) (by kernel_rfl) (by kernel_rfl) (fun _ _ _ h => h) (.inl ⟨by rfl, ?_⟩) trivial trivial ?_
  · intro wx hSw
    clear hSw
    go_simp; exact Int.tmod_eq_emod_of_nonneg (Int.natCast_nonneg _)
  simp only [Act.put, List.setIfInBounds_toArray, List.set_cons_zero, List.set_cons_succ]
  refine Od.Till.takeT (i := 9) (d := 12) (v := .int .i64 (c.toNat : Int)) rfl rfl (by kernel_rfl) (by kernel_rfl) (by kernel_rfl) (by kernel_rfl) (fun _ _ _ h => h) (.inl ⟨by rfl, ?_⟩) trivial trivial ?_
  · intro wx hSw
    clear hSw
    go_simp
  simp only [Act.put, List.setIfInBounds_toArray, List.set_cons_zero, List.set_cons_succ]
  refine Od.Till.takeT (i := 10) (d := 13) (v := .int .i64 ((c.toNat % 16 : Nat) : Int)) rfl rfl (by kernel_rfl) (by kernel_rfl) (by kernel_rfl) (by kernel_rfl) (fun _ _ _ h => h) (.inl ⟨by rfl, ?_⟩) trivial trivial ?_
  · intro wx hSw
    clear hSw
    go_simp; exact Int.tmod_eq_emod_of_nonneg (Int.natCast_nonneg _)
  simp only [Act.put, List.setIfInBounds_toArray, List.set_cons_zero, List.set_cons_succ]
  refine Od.Till.takeT (i := 11) (d := 14) (v := .int .i64 (((c.toNat % 16 : Nat) : Int) + 1)) rfl rfl (by kernel_rfl) (by kernel_rfl) (by kernel_rfl) (by kernel_rfl) (fun _ _ _ h => h) (.inl ⟨by rfl, ?_⟩) trivial trivial ?_
  · intro wx hSw
    clear hSw
    go_simp; exact wrap64_r c
  simp only [Act.put, List.setIfInBounds_toArray, List.set_cons_zero, List.set_cons_succ]
  refine Od.Till.takeT (i := 12) (d := 15) (v := .string ⟨#[digC (c.toNat % 16)]⟩) rfl rfl (by kernel_rfl) (by kernel_rfl) (by kernel_rfl) (by kernel_rfl) (fun _ _ _ h => h) (.inl ⟨by rfl, ?_⟩) trivial trivial ?_
  · intro wx hSw
    clear hSw
    go_simp; exact sl_dig _ _ (c.toNat % 16) rfl rfl (Nat.mod_lt _ (by decide)) _
  simp only [Act.put, List.setIfInBounds_toArray, List.set_cons_zero, List.set_cons_succ]
  refine Od.Till.takeT (i := 13) (d := 16) (v := .string ⟨#[120, digC (c.toNat / 16), digC (c.toNat % 16)]⟩) rfl rfl (by kernel_rfl) (by kernel_rfl) (by kernel_rfl) (by kernel_rfl) (fun _ _ _ h => h) (.inl ⟨by rfl, ?_⟩) trivial trivial ?_
  · intro wx hSw
    clear hSw
    go_simp; try rfl
  simp only [Act.put, List.setIfInBounds_toArray, List.set_cons_zero, List.set_cons_succ]
  refine Od.Till.takeT (i := 14) (d := 2) (v := .string ⟨#[120, digC (c.toNat / 16), digC (c.toNat % 16)]⟩) rfl rfl (by kernel_rfl) (by kernel_rfl) (by kernel_rfl) (by kernel_rfl) (fun _ _ _ h => h) (.inl ⟨by rfl, ?_⟩) trivial trivial ?_
  · intro wx hSw
    clear hSw
    go_simp
  simp only [Act.put, List.setIfInBounds_toArray, List.set_cons_zero, List.set_cons_succ]
  refine Od.Till.done (by kernel_rfl) ?_
  go_wp2_with fail
  go_ret
  exact ⟨rfl, bel_drewN w 1⟩
theorem str_add (a b : Bs) : (⟨a.toArray⟩ : ByteArray) ++ ⟨b.toArray⟩ = ⟨(a ++ b).toArray⟩ := ByteArray.mk_append_mk a b
theorem name_no {c : UInt8} (h0 : ((c.toNat : Int) == 32) = false) (h1 : ((c.toNat : Int) == 10) = false) (h2 : ((c.toNat : Int) == 9) = false) (h3 : ((c.toNat : Int) == 0) = false) : nameS c = [] := by
  unfold nameS; rw [h0, h1, h2, h3]; rfl
theorem conv_u8 (c : UInt8) : IntKind.u8.wrap (c.toNat : Int) = (c.toNat : Int) := IntWalk.u8_in _ (by have := c.toNat_lt; omega)
set_option maxRecDepth 100000 in
theorem charText_any (c : UInt8) (w : World) (hc : c.toNat < 128) : Calls Try.prog 24 #[.int .i64 (c.toNat : Int)] w fun e w' => e = .returned (.string ⟨(35 :: 92 :: spellS c).toArray⟩) ∧ Below w.heap.size w w' := by
  cases h0 : (c.toNat : Int) == 32
  case true =>
    have hs : spellS c = [115, 112, 97, 99, 101] := by unfold spellS nameS; rw [h0]; rfl
    rw [hs]
    go_enter Try.func24, Try.ntmps24
    go_wp2_with fail
    go_ret
    exact ⟨rfl, Below.refl _ _⟩
  cases h1 : (c.toNat : Int) == 10
  case true =>
    have hs : spellS c = [110, 101, 119, 108, 105, 110, 101] := by unfold spellS nameS; rw [h0, h1]; rfl
    rw [hs]
    go_enter Try.func24, Try.ntmps24
    go_wp2_with fail
    go_ret
    exact ⟨rfl, Below.refl _ _⟩
  cases h2 : (c.toNat : Int) == 9
  case true =>
    have hs : spellS c = [116, 97, 98] := by unfold spellS nameS; rw [h0, h1, h2]; rfl
    rw [hs]
    go_enter Try.func24, Try.ntmps24
    go_wp2_with fail
    go_ret
    exact ⟨rfl, Below.refl _ _⟩
  cases h3 : (c.toNat : Int) == 0
  case true =>
    have hs : spellS c = [110, 117, 108] := by unfold spellS nameS; rw [h0, h1, h2, h3]; rfl
    rw [hs]
    go_enter Try.func24, Try.ntmps24
    go_wp2_with fail
    go_ret
    exact ⟨rfl, Below.refl _ _⟩
  have hn := name_no h0 h1 h2 h3
  by_cases h4 : (c.toNat : Int) < 32
  · have d4 : decide ((c.toNat : Int) < 32) = true := by simpa using h4
    have hs : (⟨(35 :: 92 :: spellS c).toArray⟩ : ByteArray) = ⟨#[35, 92]⟩ ++ ⟨(encS c).toArray⟩ := by
      rw [show (⟨#[35, 92]⟩ : ByteArray) = ⟨([35, 92] : Bs).toArray⟩ from rfl, str_add]
      unfold spellS printB
      rw [hn, show decide (32 ≤ (c.toNat : Int)) = false by simpa using h4]
      rfl
    rw [hs]
    clear hs hn
    go_enter Try.func24, Try.ntmps24
    go_wp2_with (go_at_call 41; refine (two_any c _).mono ?_; rintro e w' ⟨rfl, hB⟩; have HB := Lib.hid hB; clear hB)
    go_ret
    exact ⟨rfl, HB.out⟩
  · have d4 : decide ((c.toNat : Int) < 32) = false := by simpa using h4
    cases h5 : (c.toNat : Int) == 127
    · have hcv := one_conv w c
      have hw := conv_u8 c
      have h5' : (c.toNat : Int) ≠ 127 := by simpa using h5
      have hs : (⟨(35 :: 92 :: spellS c).toArray⟩ : ByteArray) = ⟨#[35, 92]⟩ ++ ⟨#[c]⟩ := by
        rw [show (⟨#[35, 92]⟩ : ByteArray) = ⟨([35, 92] : Bs).toArray⟩ from rfl, show (⟨#[c]⟩ : ByteArray) = ⟨([c] : Bs).toArray⟩ from rfl, str_add]
        unfold spellS printB
        rw [hn, show decide (32 ≤ (c.toNat : Int)) = true by simp; omega, show decide ((c.toNat : Int) ≤ 126) = true by simp; omega]
        rfl
      rw [hs]
      clear hs hn h5'
      go_enter Try.func24, Try.ntmps24
      go_wp2_with fail
      go_ret
      exact ⟨rfl, bel_alloc _ _⟩
    · have hs : (⟨(35 :: 92 :: spellS c).toArray⟩ : ByteArray) = ⟨#[35, 92]⟩ ++ ⟨(encS c).toArray⟩ := by
        rw [show (⟨#[35, 92]⟩ : ByteArray) = ⟨([35, 92] : Bs).toArray⟩ from rfl, str_add]
        have h5' : (c.toNat : Int) = 127 := by simpa using h5
        unfold spellS printB
        rw [hn, h5']
        rfl
      rw [hs]
      clear hs hn
      go_enter Try.func24, Try.ntmps24
      go_wp2_with (go_at_call 41; refine (two_any c _).mono ?_; rintro e w' ⟨rfl, hB⟩; have HB := Lib.hid hB; clear hB)
      go_ret
      exact ⟨rfl, HB.out⟩
/- A string's word. -/
def RQuoAt (s : ByteArray) (w : World) (v i : Value) (wr : World) : Prop :=
  ∃ (k : Nat) (T : ByteArray), k ≤ s.size ∧ i = .int .i64 (k : Int) ∧ v = .string T ∧ T = ⟨(34 :: quoteR (s.data.toList.take k)).toArray⟩ ∧ T.size ≤ 4 * k + 1 ∧ Below w.heap.size w wr
theorem rquo_next {s : ByteArray} {k : Nat} {T : ByteArray} (h : T = ⟨(34 :: quoteR (s.data.toList.take k)).toArray⟩) (hk : k < s.size) (L : Bs) (hL : qS s[k] = L) : T ++ ⟨L.toArray⟩ = ⟨(34 :: quoteR (s.data.toList.take (k + 1))).toArray⟩ := by
  rw [take_at s k hk, quoteR_snoc, h, str_add, hL]; rfl
theorem rsz {T X : ByteArray} {k n : Nat} (h : T.size ≤ 4 * k + 1) (hX : X.size = n) (hn : n ≤ 4 := by decide) : (T ++ X).size ≤ 4 * (k + 1) + 1 := by
  rw [ByteArray.size_append]; omega
theorem enc4 (c : UInt8) : ((⟨#[92]⟩ : ByteArray) ++ ⟨(encS c).toArray⟩).size = 4 := by
  rw [ByteArray.size_append]; rfl
theorem rsz4 {T : ByteArray} {k : Nat} {c : UInt8} (h : T.size ≤ 4 * k + 1) : (T ++ ((⟨#[92]⟩ : ByteArray) ++ ⟨(encS c).toArray⟩)).size ≤ 4 * (k + 1) + 1 := rsz h (enc4 c)
theorem rquo_esc {c : UInt8} (h : (escapeS c).isEmpty = false) : qS c = escapeS c := by unfold qS; rw [if_neg (by rw [h]; decide)]
theorem esc_no {c : UInt8} (h0 : ((c.toNat : Int) == 10) = false) (h1 : ((c.toNat : Int) == 9) = false) (h2 : ((c.toNat : Int) == 92) = false) (h3 : ((c.toNat : Int) == 34) = false) : escapeS c = [] := by
  unfold escapeS; rw [h0, h1, h2, h3]; rfl
set_option maxRecDepth 100000 in
set_option maxHeartbeats 4000000 in
theorem quoted_doc (s : ByteArray) (w : World) (hs : s.size ≤ 1048576) (hlow : ∀ k (hk : k < s.size), s[k].toNat < 128) : Calls Try.prog 25 #[.string s] w fun e w' => e = .returned (.string ⟨(quoteS s.data.toList).toArray⟩) ∧ Below w.heap.size w w' := by
  have Hlow := Lib.hid hlow
  clear hlow
  go_enter Try.func25, Try.ntmps25
  go_wp2_with fail
  go_loopw [3, 4] (fun v i wr => RQuoAt s w v i wr) (fun _ i _ => s.size - (intOf i).toNat)
  case atStart => exact ⟨0, ⟨#[34]⟩, Nat.zero_le _, rfl, rfl, rfl, by decide, Below.refl _ _⟩
  case round =>
    obtain ⟨k, T, hk, rfl, rfl, ho, hzb, hbel⟩ := hrel
    have HZB := Lib.hid hzb
    have z1 : ¬ 9223372036854775807 < T.size + 1 := by omega
    have z2 : ¬ 9223372036854775807 < T.size + 2 := by omega
    have z4 : ¬ 9223372036854775807 < T.size + 4 := by omega
    have Ho := Lib.hid ho
    have Hbel := Lib.hid hbel
    have hsz := hbel.size
    clear ho hbel
    by_cases hlt : k < s.size
    · have dl : decide ((k : Int) < (s.size : Int)) = true := by simp [hlt]
      have i1 : (k : Int) < s.size := by omega
      have hnx := rquo_next Ho.out hlt
      have HN := Lib.hid hnx
      have h128 := Hlow.out k hlt
      clear hnx Ho
      cases e0 : (s[k].toNat : Int) == 10
      case true =>
        have hq : qS s[k] = [92, 110] := by rw [u8_is (n := 10) (by decide) e0]; rfl
        have HQ := Lib.hid (HN.out _ hq)
        clear hq HN
        go_wp2_with fail
        go_roundw
        case rel => exact ⟨k + 1, T ++ ⟨#[92, 110]⟩, by omega, by go_num, rfl, HQ.out, rsz HZB.out (by rfl), Hbel.out⟩
        case measure => simp [intOf]; omega
      cases e1 : (s[k].toNat : Int) == 9
      case true =>
        have hq : qS s[k] = [92, 116] := by rw [u8_is (n := 9) (by decide) e1]; rfl
        have HQ := Lib.hid (HN.out _ hq)
        clear hq HN
        go_wp2_with fail
        go_roundw
        case rel => exact ⟨k + 1, T ++ ⟨#[92, 116]⟩, by omega, by go_num, rfl, HQ.out, rsz HZB.out (by rfl), Hbel.out⟩
        case measure => simp [intOf]; omega
      cases e2 : (s[k].toNat : Int) == 34
      case true =>
        have hq : qS s[k] = [92, 34] := by rw [u8_is (n := 34) (by decide) e2]; rfl
        have HQ := Lib.hid (HN.out _ hq)
        clear hq HN
        go_wp2_with fail
        go_roundw
        case rel => exact ⟨k + 1, T ++ ⟨#[92, 34]⟩, by omega, by go_num, rfl, HQ.out, rsz HZB.out (by rfl), Hbel.out⟩
        case measure => simp [intOf]; omega
      cases e3 : (s[k].toNat : Int) == 92
      case true =>
        have hq : qS s[k] = [92, 92] := by rw [u8_is (n := 92) (by decide) e3]; rfl
        have HQ := Lib.hid (HN.out _ hq)
        clear hq HN
        go_wp2_with fail
        go_roundw
        case rel => exact ⟨k + 1, T ++ ⟨#[92, 92]⟩, by omega, by go_num, rfl, HQ.out, rsz HZB.out (by rfl), Hbel.out⟩
        case measure => simp [intOf]; omega
      have hesc := esc_no e0 e1 e3 e2
      by_cases h4 : (s[k].toNat : Int) < 32
      · have d4 : decide ((s[k].toNat : Int) < 32) = true := by simpa using h4
        have hq : qS s[k] = 92 :: encS s[k] := by
          unfold qS printB
          rw [hesc, show decide (32 ≤ (s[k].toNat : Int)) = false by simpa using h4]; rfl
        have HQ : Hid (T ++ (⟨#[92]⟩ ++ ⟨(encS s[k]).toArray⟩) = ⟨(34 :: quoteR (s.data.toList.take (k + 1))).toArray⟩) := Lib.hid (by rw [show (⟨#[92]⟩ : ByteArray) = ⟨([92] : Bs).toArray⟩ from rfl, str_add]; exact HN.out _ hq)
        clear hq HN hesc
        go_wp2_with (go_at_call 41; refine (two_any s[k] _).mono ?_; rintro e w2 ⟨rfl, hB⟩; have HB := Lib.hid hB; clear hB)
        go_roundw
        case rel => exact ⟨k + 1, T ++ (⟨#[92]⟩ ++ ⟨(encS s[k]).toArray⟩), by omega, by go_num, rfl, HQ.out, rsz4 HZB.out, Hbel.out.trans (HB.out.mono hsz)⟩
        case measure => simp [intOf]; omega
      · have d4 : decide ((s[k].toNat : Int) < 32) = false := by simpa using h4
        cases h5 : (s[k].toNat : Int) == 127
        · have hcv := one_conv wr s[k]
          have h5' : (s[k].toNat : Int) ≠ 127 := by simpa using h5
          have hq : qS s[k] = [s[k]] := by
            unfold qS printB
            rw [hesc, show decide (32 ≤ (s[k].toNat : Int)) = true by simp; omega, show decide ((s[k].toNat : Int) ≤ 126) = true by simp; omega]; rfl
          have HQ := Lib.hid (HN.out _ hq)
          clear hq HN hesc h5'
          go_wp2_with fail
          go_roundw
          case rel => exact ⟨k + 1, T ++ ⟨#[s[k]]⟩, by omega, by go_num, rfl, HQ.out, rsz (n := 1) HZB.out (by rfl), Hbel.out.alloc hsz _⟩
          case measure => simp [intOf]; omega
        · have h5' : (s[k].toNat : Int) = 127 := by simpa using h5
          have hq : qS s[k] = 92 :: encS s[k] := by
            unfold qS printB
            rw [hesc, h5']; rfl
          have HQ : Hid (T ++ (⟨#[92]⟩ ++ ⟨(encS s[k]).toArray⟩) = ⟨(34 :: quoteR (s.data.toList.take (k + 1))).toArray⟩) := Lib.hid (by rw [show (⟨#[92]⟩ : ByteArray) = ⟨([92] : Bs).toArray⟩ from rfl, str_add]; exact HN.out _ hq)
          clear hq HN hesc h5'
          go_wp2_with (go_at_call 41; refine (two_any s[k] _).mono ?_; rintro e w2 ⟨rfl, hB⟩; have HB := Lib.hid hB; clear hB)
          go_roundw
          case rel => exact ⟨k + 1, T ++ (⟨#[92]⟩ ++ ⟨(encS s[k]).toArray⟩), by omega, by go_num, rfl, HQ.out, rsz4 HZB.out, Hbel.out.trans (HB.out.mono hsz)⟩
          case measure => simp [intOf]; omega
    · have dl : decide ((k : Int) < (s.size : Int)) = false := by simp [hlt]
      have hfin : T ++ ⟨#[34]⟩ = ⟨(quoteS s.data.toList).toArray⟩ := by
        rw [Ho.out, List.take_of_length_le (by rw [len_of]; omega), show (⟨#[34]⟩ : ByteArray) = ⟨([34] : Bs).toArray⟩ from rfl, str_add]; rfl
      have HF := Lib.hid hfin
      clear hfin Ho
      go_wp2_with fail
      go_ret
      exact ⟨by rw [← HF.out]; rfl, Hbel.out⟩
end Go.Proofs.Ytpeleifkednmoaa.Lx
end
section
namespace Go.Proofs.Ytpeleifkednmoaa.Lx
open Go.ChangeShapes Go.WideShapes Go.ChangeAt Go.RowKit
set_option linter.unusedVariables false

/-- A word: kind, from, to, number, text. -/
structure Tk where
  (k a z n : Int) (S : Bs)
def Tk.cells (t : Tk) : List Value := [.int .i64 t.k, .int .i64 t.a, .int .i64 t.z, .int .i64 t.n, .string ⟨t.S.toArray⟩]
def cellsV (l : List Tk) : List Value := l.flatMap Tk.cells
theorem cellsV_len (l : List Tk) : (cellsV l).length = l.length * 5 := by
  induction l with
  | nil => rfl
  | cons t r ih => rw [cellsV, List.flatMap_cons, List.length_append, ← cellsV, ih, List.length_cons]; show 5 + _ = _; omega
theorem cellsV_snoc (l : List Tk) (t : Tk) : cellsV (l ++ [t]) = cellsV l ++ t.cells := by simp [cellsV]
def Sc.tk (R : Sc) (a : Nat) : Tk := ⟨R.k, a, ((a + R.z : Nat) : Int), R.n, R.S⟩
/-- Words, or where and what is wrong. -/
structure WR where
  (toks : List Tk) (p e : Int)
def finW (at_ : Nat) (e : Int) (acc : List Tk) : WR := if e = 0 then ⟨acc, 0, 0⟩ else ⟨[], at_, e⟩
def wordsF : Nat → Bs → Nat → Int → List Tk → WR
  | 0, _, at_, e, acc => finW at_ e acc
  | f + 1, l, at_, e, acc =>
    if at_ < l.length ∧ e = 0 then
      if acc.length = 4096 then ⟨[], at_, 3⟩
      else if (scanR (l.drop at_)).e = 0 then
        wordsF f l (at_ + (scanR (l.drop at_)).z + skipN (l.drop (at_ + (scanR (l.drop at_)).z))) (skipE (l.drop (at_ + (scanR (l.drop at_)).z))) (acc ++ [(scanR (l.drop at_)).tk at_])
      else ⟨[], at_, (scanR (l.drop at_)).e⟩
    else finW at_ e acc
def wordsR (l : Bs) : WR :=
  if (16384 : Int) < (l.length : Int) then ⟨[], 0, 3⟩ else if 0 ≤ nightI l then ⟨[], nightI l, 32⟩ else wordsF (l.length + 1) l (skipN l) (skipE l) []
theorem markF_prefix : ∀ (r : List Int) (l : Bs), markF r l ≠ 0 → Lib.hasPrefix l (markS (markF r l)) = true ∧ markF r l ∈ r
  | [], l, h => absurd rfl h
  | k :: r, l, h => by
    rw [markF] at h ⊢
    by_cases hp : Lib.hasPrefix l (markS k) = true
    · rw [if_pos hp]; exact ⟨hp, List.mem_cons_self ..⟩
    · rw [if_neg hp] at h ⊢
      have := markF_prefix r l h
      exact ⟨this.1, List.mem_cons_of_mem _ this.2⟩
theorem mark_len (l : Bs) (h : markF kinds7 l ≠ 0) : 1 ≤ (markS (markF kinds7 l)).length ∧ (markS (markF kinds7 l)).length ≤ l.length := by
  obtain ⟨h1, h2⟩ := markF_prefix _ _ h
  refine ⟨?_, prefix_len _ _ h1⟩
  generalize markF kinds7 l = k at *
  simp only [kinds7, List.mem_cons, List.not_mem_nil, or_false] at h2
  rcases h2 with rfl | rfl | rfl | rfl | rfl | rfl | rfl <;> decide
theorem as_bytes (l : Bs) : ∃ t : ByteArray, t.data.toList = l := ⟨⟨l.toArray⟩, rfl⟩
theorem scanR_z {l : Bs} (h0 : l ≠ []) (h : (scanR l).e = 0) : 1 ≤ (scanR l).z ∧ (scanR l).z ≤ l.length := by
  obtain ⟨t, rfl⟩ := as_bytes l
  have hl : 0 < t.size := by rw [← len_of]; exact List.length_pos_iff.2 h0
  unfold scanR at h ⊢
  by_cases h1 : (markF kinds7 t.data.toList != 0) = true
  · rw [if_pos h1]
    exact mark_len _ (by simpa using h1)
  · rw [if_neg h1] at h ⊢
    by_cases h2 : isQuote t.data.toList = true
    · rw [if_pos h2] at h ⊢
      unfold strSc at h ⊢
      by_cases h3 : quotedN t.data.toList = 0
      · rw [if_pos h3] at h; exact absurd h (by decide)
      · rw [if_neg h3] at h ⊢
        have hq := quotedN_le h3
        unfold strU at h ⊢
        by_cases h4 : unqOk (unqL ((t.data.toList.drop 1).take (quotedN t.data.toList - 2))) = true
        · rw [if_pos h4]; simp only; omega
        · rw [if_neg h4] at h; exact absurd h (by decide)
    · rw [if_neg h2] at h ⊢
      by_cases h3 : (t.data.toList == [35, 92]) = true
      · rw [if_pos h3] at h; exact absurd h (by decide)
      · rw [if_neg h3] at h ⊢
        by_cases h4 : Lib.hasPrefix t.data.toList [35, 92] = true
        · rw [if_pos h4] at h ⊢
          unfold charSc at h ⊢
          have hsz : 2 < t.size := by
            rcases Nat.lt_or_ge 2 t.size with hh | hh
            · exact hh
            · exfalso
              have h2' := prefix_len _ _ h4
              rw [len_of] at h2'
              have hs2 : t.size = 2 := Nat.le_antisymm hh h2'
              obtain ⟨r, hr⟩ := List.isPrefixOf_iff_prefix.1 h4
              have hlen : t.data.toList.length = 2 := by rw [len_of]; exact hs2
              rw [← hr, List.length_append] at hlen
              have hr0 : r = [] := by simpa using hlen
              rw [← hr, hr0] at h3
              exact h3 (by decide)
          have hq := spelledN_le hsz
          by_cases h5 : charB ((t.data.toList.drop 2).take (spelledN t.data.toList - 2)) = true
          · rw [if_pos h5]; simp only; rw [len_of]; omega
          · rw [if_neg h5] at h; exact absurd h (by decide)
        · rw [if_neg h4] at h ⊢
          have hq := runN_le hl
          unfold runSc at h ⊢
          by_cases h5 : (meanR (t.data.toList.take (runN t.data.toList))).e = 0
          · rw [if_pos h5]; simp only; rw [len_of]; exact hq
          · rw [if_neg h5] at h; exact absurd h h5
theorem wordsF_stop {e : Int} (he : e ≠ 0) (f : Nat) (l : Bs) (a : Nat) (acc : List Tk) : wordsF f l a e acc = ⟨[], a, e⟩ := by
  cases f with
  | zero => rw [wordsF, finW, if_neg he]
  | succ f => rw [wordsF, if_neg (fun h => he h.2), finW, if_neg he]
theorem wordsF_end {l : Bs} {a : Nat} (ha : l.length ≤ a) (f : Nat) (acc : List Tk) : wordsF f l a 0 acc = ⟨acc, 0, 0⟩ := by
  cases f with
  | zero => rw [wordsF, finW, if_pos rfl]
  | succ f => rw [wordsF, if_neg (fun h => by omega), finW, if_pos rfl]
theorem drop_ne {l : Bs} {a : Nat} (h : a < l.length) : l.drop a ≠ [] := by
  intro e
  have := congrArg List.length e
  rw [List.length_drop, List.length_nil] at this
  omega
theorem wordsF_more : ∀ (f g : Nat) (l : Bs) (a : Nat) (e : Int) (acc : List Tk), l.length - a < f → l.length - a < g → wordsF f l a e acc = wordsF g l a e acc
  | 0, _, _, _, _, _, h, _ => by omega
  | f + 1, 0, _, _, _, _, _, h => by omega
  | f + 1, g + 1, l, a, e, acc, h1, h2 => by
    rw [wordsF, wordsF]
    by_cases hc : a < l.length ∧ e = 0
    · rw [if_pos hc, if_pos hc]
      by_cases hf : acc.length = 4096
      · rw [if_pos hf, if_pos hf]
      · rw [if_neg hf, if_neg hf]
        by_cases he : (scanR (l.drop a)).e = 0
        · rw [if_pos he, if_pos he]
          have hz := scanR_z (drop_ne hc.1) he
          rw [List.length_drop] at hz
          exact wordsF_more f g l _ _ _ (by omega) (by omega)
        · rw [if_neg he, if_neg he]
    · rw [if_neg hc, if_neg hc]
theorem wordsF_step {l : Bs} {a : Nat} (ha : a < l.length) (acc : List Tk) (hf : acc.length ≠ 4096) (he : (scanR (l.drop a)).e = 0) :
    wordsF (l.length - a + 1) l a 0 acc = wordsF (l.length - (a + (scanR (l.drop a)).z + skipN (l.drop (a + (scanR (l.drop a)).z))) + 1) l (a + (scanR (l.drop a)).z + skipN (l.drop (a + (scanR (l.drop a)).z))) (skipE (l.drop (a + (scanR (l.drop a)).z))) (acc ++ [(scanR (l.drop a)).tk a]) := by
  rw [wordsF, if_pos ⟨ha, rfl⟩, if_neg hf, if_pos he]
  have hz := scanR_z (drop_ne ha) he
  rw [List.length_drop] at hz
  exact wordsF_more _ _ _ _ _ _ (by omega) (by omega)
theorem wordsF_full {l : Bs} {a : Nat} (ha : a < l.length) (acc : List Tk) (hf : acc.length = 4096) (f : Nat) : wordsF (f + 1) l a 0 acc = ⟨[], a, 3⟩ := by
  rw [wordsF, if_pos ⟨ha, rfl⟩, if_pos hf]
theorem wordsF_bad {l : Bs} {a : Nat} (ha : a < l.length) (acc : List Tk) (hf : acc.length ≠ 4096) (he : (scanR (l.drop a)).e ≠ 0) (f : Nat) : wordsF (f + 1) l a 0 acc = ⟨[], a, (scanR (l.drop a)).e⟩ := by
  rw [wordsF, if_pos ⟨ha, rfl⟩, if_neg hf, if_neg he]
end Go.Proofs.Ytpeleifkednmoaa.Lx
end
