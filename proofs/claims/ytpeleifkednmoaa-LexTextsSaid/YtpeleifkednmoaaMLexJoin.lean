/- What the text of several words is (layer 3): the program's Join and the document's. -/
import Derived.Test.YtpeleifkednmoaaMLexJoinMath
import Derived.Test.YtpeleifkednmoaaMLexSame
section
namespace Go.Proofs.Ytpeleifkednmoaa.Lx
open Go.ChangeShapes Go.WideShapes Go.ChangeAt Go.RowKit
set_option linter.unusedVariables false
set_option linter.unusedSimpArgs false

theorem info_str : (Try.prog.info? 9).map (fun i => (i.zero, i.size, i.bytes)) = some (some (.string ⟨#[]⟩), 1, 16) := by kernel_rfl
theorem info_str_parts : ∃ i, Try.prog.info? 9 = some i ∧ i.zero = some (.string ⟨#[]⟩) ∧ i.size = 1 ∧ i.bytes = 16 := by
  have h := info_str
  rcases hi : Try.prog.info? 9 with _ | i
  · rw [hi] at h; cases h
  · rw [hi] at h
    simp only [Option.map_some, Option.some.injEq, Prod.mk.injEq] at h
    exact ⟨i, rfl, h.1, h.2.1, h.2.2⟩
def JoinAt (l : List Tk) (w : World) (i : Value) (wr : World) : Prop :=
  ∃ k : Nat, k ≤ l.length ∧ i = .int .i64 (k : Int) ∧ (∀ t ∈ l.take k, er t = 0) ∧ wr.ownsRow w.heap.size 9 1 (.slice (some ⟨w.heap.size, 0, none⟩) l.length l.length) l.length (rowT l k) ∧ Below w.heap.size w wr
def JoinP (l : List Tk) (w : World) (e : Ending) (w' : World) : Prop := e = .returned (.tuple #[.string ⟨(joinTk l).1.toArray⟩, .int .i64 (joinTk l).2]) ∧ Below w.heap.size w w'
theorem text_at (t : Tk) (w : World) (ht : TkW t) (X : ByteArray) (E : Int) (hX : Hid ((⟨(txt t).toArray⟩ : ByteArray) = X)) (hE : Hid (er t = E)) : Calls Try.prog 7 #[.agg #[.int .i64 t.k, .int .i64 t.a, .int .i64 t.z, .int .i64 t.n, .string ⟨t.S.toArray⟩]] w fun e w' => e = .returned (.tuple #[.string X, .int .i64 E]) ∧ Below w.heap.size w w' := by
  rw [← hX.out, ← hE.out]
  exact text_any t w ht
theorem rtext_at (t : Tk) (w : World) (ht : TkW t) (X : ByteArray) (E : Int) (hX : Hid ((⟨(txt t).toArray⟩ : ByteArray) = X)) (hE : Hid (er t = E)) : Calls Try.prog 8 #[.agg #[.int .i64 t.k, .int .i64 t.a, .int .i64 t.z, .int .i64 t.n, .string ⟨t.S.toArray⟩]] w fun e w' => e = .returned (.tuple #[.string X, .int .i64 E]) ∧ Below w.heap.size w w' := by
  rw [← hX.out, ← hE.out]
  exact text_doc t w ht
def bytesT (t : Tk) : ByteArray := ⟨(txt t).toArray⟩
theorem join_str (l : List Tk) (B : Nat) (w : World) (hB : B < w.heap.size) (hown : w.ownsRow B 9 1 (.slice (some ⟨B, 0, none⟩) l.length l.length) l.length (rowT l l.length)) (hl : l.length ≤ 4096) (ht : ∀ t ∈ l, TkW t) :
    Calls Try.prog 26 #[.slice (some ⟨B, 0, none⟩) l.length l.length, .string ⟨#[32]⟩] w fun e w' => e = .returned (.string ⟨(joinL l).toArray⟩) ∧ Below w.heap.size w w' := by
  have hx : (l.map bytesT).map (·.data.toList) = l.map txt := by rw [List.map_map]; rfl
  have hj := joinL_len ht
  have := Try.strings_Join B 0 l.length (l.map bytesT) ⟨#[32]⟩ w (fun j x hj => by
    rw [rowT_full] at hown
    have hjl : j < l.length := by rw [List.getElem?_map] at hj; rcases Nat.lt_or_ge j l.length with h | h; exact h; rw [List.getElem?_eq_none h] at hj; cases hj
    rw [Nat.zero_add, hown.cellAt j (by omega), List.getElem?_map]
    rw [List.getElem?_map] at hj
    rw [List.getElem?_eq_getElem hjl] at hj ⊢
    simp only [Option.map_some, Option.some.injEq] at hj ⊢
    rw [← hj]; rfl) hB (by rw [List.length_map]; omega) (by rw [List.length_map]; exact Nat.le_refl _) (by rw [hx]; show (joinL l).length ≤ _; omega)
  rw [hx, List.length_map] at this
  exact this
theorem row_at {l : List Tk} {k : Nat} (hk : k < l.length) : (rowT l k)[k]? = some (.string ⟨#[]⟩) := by
  have hl : ((l.take k).map strT).length = k := by rw [List.length_map, List.length_take]; omega
  unfold rowT
  rw [List.getElem?_append_right (by omega), hl, Nat.sub_self, List.getElem?_replicate, if_pos (by omega)]
set_option maxRecDepth 100000 in
set_option maxHeartbeats 8000000 in
theorem join_any (l : List Tk) (a : Option Addr) (c : Nat) (w : World) (ha : TkIs w a l) (ht : ∀ t ∈ l, TkW t) (hl : l.length ≤ 140737488351232) :
    Calls Try.prog 9 #[.slice a l.length c] w (JoinP l w) := by
  unfold JoinP
  by_cases hlong : (l.length : Int) > 4096
  · have d0 : decide ((l.length : Int) > 4096) = true := by simpa using hlong
    rw [joinTk_long (by omega)]
    clear hlong
    go_enter Try.func9, Try.ntmps9
    go_wp2_with fail
    go_ret2
    exact ⟨rfl, Below.refl _ _⟩
  · have d0 : decide ((l.length : Int) > 4096) = false := by simpa using hlong
    have hl4 : l.length ≤ 4096 := by omega
    have HA := Lib.hid ha
    have HT := Lib.hid ht
    clear ha ht hlong
    obtain ⟨i0, hi, hz0, hz1, hz2⟩ := info_str_parts
    go_enter Try.func9, Try.ntmps9
    go_wp2_with (at_make; refine wpList_make_full _ rfl _ _ 49 rfl w.heap.size 9 i0 (.string ⟨#[]⟩) 1 Try.underlying49 hi hz0 hz1 _ _ _ _ l.length rfl rfl rfl rfl ?b2 ?b3 (Nat.le_refl _) ?_)
    case b2 => rw [hz2]; omega
    case b3 => unfold maxLen; omega
    intro w1 hown hgrow
    have hown' : w1.ownsRow w.heap.size 9 1 (.slice (some ⟨w.heap.size, 0, none⟩) l.length l.length) l.length (rowT l 0) := by
      have := hown
      simpa [rowT, toList_madeCells_one, Value.cells] using this
    have hb1 : Below w.heap.size w w1 := (Below.refl _ _).grown hgrow (Nat.le_refl _) (fun k h => by cases h)
    have Hown := Lib.hid hown'
    have Hb1 := Lib.hid hb1
    clear hown hgrow hown' hb1
    go_wp2_with fail
    go_loopw [18] (fun i wr => JoinAt l w i wr) (fun i _ => l.length - (intOf i).toNat)
    case atStart => exact ⟨0, Nat.zero_le _, rfl, by simp, Hown.out, Hb1.out⟩
    case round =>
      obtain ⟨k, hk, rfl, hok, hown, hbel⟩ := hrel
      have Hok := Lib.hid hok
      have Ho := Lib.hid hown
      have Hbel := Lib.hid hbel
      have hsz := hbel.size
      clear hok hown hbel Hown Hb1 hi hz0 hz1 hz2
      by_cases hlt : k < l.length
      · have dl : decide ((k : Int) < (l.length : Int)) = true := by simp [hlt]
        have i1 : (k : Int) < (l.length : Int) := by omega
        have hne : l ≠ [] := fun e => by rw [e] at hlt; exact absurd hlt (by simp)
        rcases (HA.out.bel Hbel.out) with h | ⟨g, o, rfl, hc⟩
        · exact absurd h hne
        obtain ⟨c0, c1, c2, c3, c4⟩ := hc k hlt
        have HTW := Lib.hid (HT.out _ (List.getElem_mem hlt))
        clear hc hne
        obtain ⟨t, htk⟩ : ∃ t, l[k] = t := ⟨_, rfl⟩
        rw [htk] at c0 c1 c2 c3 c4 HTW
        have HTK := Lib.hid htk
        clear htk
        obtain ⟨X, hx⟩ : ∃ X, (⟨(txt t).toArray⟩ : ByteArray) = X := ⟨_, rfl⟩
        have HX := Lib.hid hx
        clear hx
        obtain ⟨E, he⟩ : ∃ E, er t = E := ⟨_, rfl⟩
        have HE := Lib.hid he
        clear he
        by_cases he0 : E = 0
        · subst he0
          go_wp2_with fail
          refine (text_at t _ HTW.out X 0 HX HE).mono ?_
          rintro e w2 ⟨rfl, hb⟩
          have hb2 := bel_trans (bel_alloc wr _) hb
          have ho2 := own_below Ho.out hb2
          have cc : w2.cell? ⟨w.heap.size, k, none⟩ = some (.string ⟨#[]⟩) := by
            rw [ho2.cellAt k (by omega)]; exact row_at hlt
          have cf : w2.frozen? ⟨w.heap.size, k, none⟩ = false := ho2.frozenAt _
          have HO2 := Lib.hid ho2
          have HB2 := Lib.hid hb2
          clear hb hb2 ho2
          go_wp2_with fail
          have HR : Hid ((rowT l k).set k (.string X) = rowT l (k + 1)) := Lib.hid (by rw [← HX.out, ← rowT_set hlt, HTK.out]; rfl)
          have HK := Lib.hid (take_mem hlt Hok.out (by rw [HTK.out]; exact HE.out))
          go_roundw
          case rel => exact ⟨k + 1, hlt, by go_num, HK.out, by rw [← HR.out]; exact (HO2.out.stored _ _).1, (Hbel.out.trans (HB2.out.mono hsz)).setCell (Nat.le_refl _) _⟩
          case measure => simp [intOf]; omega
        · have dn : (E != 0) = true := by simp [he0]
          have hf := firstE_at hlt Hok.out (by rw [HTK.out, HE.out]; exact he0)
          rw [HTK.out, HE.out] at hf
          have HJ := Lib.hid (joinTk_bad (by omega) hf he0)
          clear hf he0
          go_wp2_with (go_at_call 7; refine (text_at t _ HTW.out X E HX HE).mono ?_; rintro e w2 ⟨rfl, hb⟩; have HB2 := Lib.hid (bel_trans (bel_alloc wr _) hb); clear hb)
          go_ret2
          exact ⟨by rw [HJ.out]; rfl, Hbel.out.trans (HB2.out.mono hsz)⟩
      · have dl : decide ((k : Int) < (l.length : Int)) = false := by simp [hlt]
        obtain rfl : k = l.length := by omega
        have hok0 := firstE_no (fun t h => Hok.out t (by rw [List.take_length]; exact h))
        have hwl : w.heap.size < wr.heap.size := ((Ho.out.lt w.heap.size rfl)).2
        have HS := Lib.hid (join_str l w.heap.size wr hwl Ho.out hl4 HT.out)
        obtain ⟨J, hj⟩ : ∃ J, (⟨(joinL l).toArray⟩ : ByteArray) = J := ⟨_, rfl⟩
        have hjs : J.size = (joinL l).length := by rw [← hj]; exact List.size_toArray
        rw [hj] at HS
        by_cases hg : (J.size : Int) > 16384
        · have d3 : decide ((J.size : Int) > 16384) = true := by simpa using hg
          have HJ := Lib.hid (joinTk_great (by omega) hok0 (show 16384 < (joinL l).length by omega))
          clear hj hjs hg hok0 hlt
          go_wp2_with (go_at_call 26; refine HS.out.mono ?_; rintro e w2 ⟨rfl, hb⟩; have HB2 := Lib.hid hb; clear hb)
          go_ret2
          exact ⟨by rw [HJ.out]; rfl, Hbel.out.trans (HB2.out.mono hsz)⟩
        · have d3 : decide ((J.size : Int) > 16384) = false := by simpa using hg
          have HJ := Lib.hid (joinTk_ok (l := l) (by omega) hok0 (show ¬ 16384 < (joinL l).length by omega))
          have HJJ := Lib.hid hj
          clear hj hjs hg hok0 hlt
          go_wp2_with (go_at_call 26; refine HS.out.mono ?_; rintro e w2 ⟨rfl, hb⟩; have HB2 := Lib.hid hb; clear hb)
          go_ret2
          exact ⟨by rw [HJ.out, ← HJJ.out]; rfl, Hbel.out.trans (HB2.out.mono hsz)⟩
def RJoinAt (l : List Tk) (w : World) (v i : Value) (wr : World) : Prop :=
  ∃ (k : Nat) (out : Bs), k ≤ l.length ∧ i = .int .i64 (k : Int) ∧ (∀ t ∈ l.take k, er t = 0) ∧ out = joinL (l.take k) ∧ wr.ownsRow w.heap.size 5 1 v out.length (bytesV out) ∧ Below w.heap.size w wr
theorem take_sub {l : List Tk} {k : Nat} (h : ∀ t ∈ l, TkW t) : ∀ t ∈ l.take k, TkW t := fun t ht => h t (List.mem_of_mem_take ht)
set_option maxRecDepth 100000 in
set_option maxHeartbeats 8000000 in
theorem rjoin_any (l : List Tk) (a : Option Addr) (c : Nat) (w : World) (ha : TkIs w a l) (ht : ∀ t ∈ l, TkW t) (hl : l.length ≤ 140737488351232) :
    Calls Try.prog 10 #[.slice a l.length c] w (JoinP l w) := by
  unfold JoinP
  by_cases hlong : (l.length : Int) > 4096
  · have d0 : decide ((l.length : Int) > 4096) = true := by simpa using hlong
    rw [joinTk_long (by omega)]
    clear hlong
    go_enter Try.func10, Try.ntmps10
    go_wp2_with fail
    go_ret2
    exact ⟨rfl, Below.refl _ _⟩
  · have d0 : decide ((l.length : Int) > 4096) = false := by simpa using hlong
    have hl4 : l.length ≤ 4096 := by omega
    have HA := Lib.hid ha
    have HT := Lib.hid ht
    clear ha ht hlong
    obtain ⟨i0, hi, hz0, hz1, hz2⟩ := info_parts info_u8
    go_enter Try.func10, Try.ntmps10
    go_wp2_with fail
    go_loopw [4, 5] (fun v i wr => RJoinAt l w v i wr) (fun _ i _ => l.length - (intOf i).toNat)
    case atStart => exact ⟨0, [], Nat.zero_le _, rfl, by simp, rfl, World.ownsRow_nil _ _ _ _, Below.refl _ _⟩
    case round =>
      obtain ⟨k, out, hk, rfl, hok, hout, hown, hbel⟩ := hrel
      have hol : out.length ≤ 4194307 * 4096 := by
        rw [hout]
        refine Nat.le_trans (joinL_len (take_sub HT.out)) ?_
        rw [List.length_take]
        exact Nat.mul_le_mul_left _ (by omega)
      have Hok := Lib.hid hok
      have Hout := Lib.hid hout
      have Ho := Lib.hid hown
      have Hbel := Lib.hid hbel
      have hsz := hbel.size
      clear hok hown hbel hout
      by_cases hlt : k < l.length
      · have dl : decide ((k : Int) < (l.length : Int)) = true := by simp [hlt]
        have i1 : (k : Int) < (l.length : Int) := by omega
        have hne : l ≠ [] := fun e => by rw [e] at hlt; exact absurd hlt (by simp)
        rcases (HA.out.bel Hbel.out) with h | ⟨g, o, rfl, hc⟩
        · exact absurd h hne
        obtain ⟨c0, c1, c2, c3, c4⟩ := hc k hlt
        have HTW := Lib.hid (HT.out _ (List.getElem_mem hlt))
        clear hc hne
        obtain ⟨t, htk⟩ : ∃ t, l[k] = t := ⟨_, rfl⟩
        rw [htk] at c0 c1 c2 c3 c4 HTW
        have HTK := Lib.hid htk
        clear htk
        obtain ⟨X, hx⟩ : ∃ X, (⟨(txt t).toArray⟩ : ByteArray) = X := ⟨_, rfl⟩
        have hxs : X.size ≤ 4194306 := by rw [← hx]; show (txt t).toArray.size ≤ _; rw [List.size_toArray]; exact txt_len HTW.out
        have HX := Lib.hid hx
        clear hx
        obtain ⟨E, he⟩ : ∃ E, er t = E := ⟨_, rfl⟩
        have HE := Lib.hid he
        clear he
        by_cases he0 : E = 0
        · subst he0
          have HK := Lib.hid (take_mem hlt Hok.out (by rw [HTK.out]; exact HE.out))
          by_cases hk0 : k = 0
          · have dk : decide (0 < k) = false := by simp; omega
            have ho0 : out = [] := by rw [Hout.out, hk0]; rfl
            have hj1 : joinL (l.take (k + 1)) = out ++ txt t := by rw [take_tk hlt, HTK.out, ho0, hk0]; exact joinL_one t
            have HJ := Lib.hid hj1
            clear ho0 hj1 hk0
            go_wp2_with fail
            refine (rtext_at t _ HTW.out X 0 HX HE).mono ?_
            rintro e w2 ⟨rfl, hb⟩
            have HO2 := Lib.hid (own_below Ho.out hb)
            have HB2 := Lib.hid hb
            have hs2 := hb.size
            clear hb
            go_wp2_with (at_builtin; refine Lib.wpList_append_own_string _ rfl (.tmp 33) (.tmp 34) 48 9 rfl w.heap.size 5 i0 Try.underlying48 Try.underlying9 hi hz0 hz1 hz2 _ out.length (bytesV out) rfl HO2.out X rfl (by simp only [maxLen]; omega) (by omega) (by omega) ?_; intro v' w3 hown3 hg3 _)
            have HB3 := Lib.hid ((Hbel.out.trans (HB2.out.mono hsz)).grown hg3 (Nat.le_trans hsz hs2) (fun j h => (HO2.out.lt j h).1))
            have HO3 := Lib.hid (own_str hown3 HX.out.symm)
            clear hown3 hg3
            go_wp2_with fail
            go_roundw
            case rel => exact ⟨k + 1, out ++ txt t, hlt, by go_num, HK.out, HJ.out.symm, HO3.out, HB3.out⟩
            case measure => simp [intOf]; omega
          · have dk : decide (0 < k) = true := by simp; omega
            have hj1 : joinL (l.take (k + 1)) = (out ++ [32]) ++ txt t := by
              rw [take_tk hlt, HTK.out, joinL_snoc _ _ (fun e => by have h1 := congrArg List.length e; rw [List.length_take, List.length_nil] at h1; omega), Hout.out]
            have HJ := Lib.hid hj1
            have hol2 : (out ++ [32]).length ≤ 4194307 * 4096 + 1 := by rw [List.length_append]; simp only [List.length_cons, List.length_nil]; omega
            obtain ⟨O, hO⟩ : ∃ O, out ++ [32] = O := ⟨_, rfl⟩
            rw [hO] at hol2 HJ
            have HO := Lib.hid hO
            clear hj1 hO
            go_wp2_with fail
            refine (rtext_at t _ HTW.out X 0 HX HE).mono ?_
            rintro e w2 ⟨rfl, hb⟩
            have HO2 := Lib.hid (own_below Ho.out hb)
            have HB2 := Lib.hid hb
            have hs2 := hb.size
            clear hb
            go_wp2_with (first | (at_builtin; refine wpList_append_own _ rfl (.tmp 30) (.tmp 31) 48 rfl w.heap.size 5 i0 (.int .u8 0) 1 1 Try.underlying48 hi hz0 hz1 hz2 rfl (by omega) _ out.length (bytesV out) rfl (HO2.out.alloc _) ⟨w2.heap.size, 0, none⟩ 1 1 [.int .u8 ((32 : UInt8).toNat : Int)] rfl rfl (cell_one_new _ _ _) (by simp [Value.oneCell']) (by simp only [maxLen]; omega) (by omega) (by simp; omega) ?_; intro v' w3 hown3 hg3 _; have HO3 := Lib.hid (HO.out ▸ own_chr hown3); have hb3 := ((Hbel.out.trans (HB2.out.mono hsz)).alloc (Nat.le_trans hsz hs2) _).grown hg3 (by simp; omega) (fun j h => (HO2.out.lt j h).1); have HB3 := Lib.hid hb3; have hs3 := hb3.size; clear hown3 hg3 hb3) | (at_builtin; refine Lib.wpList_append_own_string _ rfl (.tmp 33) (.tmp 34) 48 9 rfl w.heap.size 5 i0 Try.underlying48 Try.underlying9 hi hz0 hz1 hz2 _ O.length (bytesV O) rfl HO3.out X rfl (by simp only [maxLen]; omega) (by omega) hs3 ?_; intro v4 w4 hown4 hg4 _))
            have HB4 := Lib.hid (HB3.out.grown hg4 hs3 (fun j h => (HO3.out.lt j h).1))
            have HO4 := Lib.hid (own_str hown4 HX.out.symm)
            clear hown4 hg4
            go_wp2_with fail
            go_roundw
            case rel => exact ⟨k + 1, O ++ txt t, hlt, by go_num, HK.out, HJ.out.symm, HO4.out, HB4.out⟩
            case measure => simp [intOf]; omega
        · have dn : (E != 0) = true := by simp [he0]
          have hf := firstE_at hlt Hok.out (by rw [HTK.out, HE.out]; exact he0)
          rw [HTK.out, HE.out] at hf
          have HJ := Lib.hid (joinTk_bad (by omega) hf he0)
          clear hf he0
          go_wp2_with fail
          refine (rtext_at t _ HTW.out X E HX HE).mono ?_
          rintro e w2 ⟨rfl, hb⟩
          have HB2 := Lib.hid hb
          clear hb
          go_wp2_with fail
          go_ret2
          exact ⟨by rw [HJ.out]; rfl, Hbel.out.trans (HB2.out.mono hsz)⟩
      · have dl : decide ((k : Int) < (l.length : Int)) = false := by simp [hlt]
        obtain rfl : k = l.length := by omega
        have hok0 := firstE_no (fun t h => Hok.out t (by rw [List.take_length]; exact h))
        have hJ : joinL l = out := by rw [Hout.out, List.take_length]
        by_cases hg : (out.length : Int) > 16384
        · have d3 : decide ((out.length : Int) > 16384) = true := by simpa using hg
          have HJ := Lib.hid (joinTk_great (by omega) hok0 (show 16384 < (joinL l).length by rw [hJ]; omega))
          obtain ⟨va, vc, rfl⟩ := own_slice Ho.out
          clear hJ hg hok0 hlt
          go_wp2_with fail
          go_ret2
          exact ⟨by rw [HJ.out]; rfl, Hbel.out⟩
        · have d3 : decide ((out.length : Int) > 16384) = false := by simpa using hg
          have hjj := joinTk_ok (l := l) (by omega) hok0 (show ¬ 16384 < (joinL l).length by rw [hJ]; omega)
          rw [hJ] at hjj
          have HJ := Lib.hid hjj
          have hcv := own_conv Ho.out
          obtain ⟨va, vc, rfl⟩ := own_slice Ho.out
          clear hJ hg hok0 hlt hjj
          go_wp2_with fail
          go_ret2
          exact ⟨by rw [HJ.out]; rfl, Hbel.out⟩
end Go.Proofs.Ytpeleifkednmoaa.Lx
end
