/- What the inside of a string denotes (layer 3): the program's function. -/
import Derived.OwnWalk
import Derived.Laws.BytesString
import Derived.Laws.BytesArg
import Derived.Maps.AppendAt
import Derived.Test.YtpeleifkednmoaaMLexScan6
section
namespace Go.Proofs.Ytpeleifkednmoaa.Lx
open Go.ChangeShapes Go.WideShapes Go.ChangeAt Go.RowKit
set_option linter.unusedVariables false

theorem info_u8 : (Try.prog.info? 5).map (fun i => (i.zero, i.size, i.bytes)) = some (some (.int .u8 0), 1, 1) := by kernel_rfl
def isEsc : Bs → Bool | 92 :: _ => true | _ => false
/-- The next character, how many bytes denote it, whether they do. -/
def stV (l : Bs) : Int := if isEsc l then unescV l else match l with | c :: _ => (c.toNat : Int) | [] => 0
def stC (l : Bs) : UInt8 := UInt8.ofNat (stV l).toNat
def stN (l : Bs) : Nat := if isEsc l then (match escF escs l with | some _ => 2 | none => min l.length 4) else 1
def stB (l : Bs) : Bool := if isEsc l then unescB l else match l with | c :: _ => decide ((c.toNat : Int) ≥ 32) | [] => false
def unqF : Nat → Bs → Option Bs
  | _, [] => some []
  | 0, _ :: _ => none
  | f + 1, c :: r => if stB (c :: r) then (unqF f ((c :: r).drop (stN (c :: r)))).map (stC (c :: r) :: ·) else none
def unqL (l : Bs) : Option Bs := unqF l.length l
theorem prefix_len : ∀ (p l : Bs), Lib.hasPrefix l p = true → p.length ≤ l.length := fun p l h => (List.isPrefixOf_iff_prefix.1 h).length_le
theorem escF_len {l : Bs} {c : UInt8} (h : escF escs l = some c) : 2 ≤ l.length := by
  have go : ∀ (r : List UInt8), (∀ x ∈ r, x ∈ escs) → escF r l = some c → 2 ≤ l.length := by
    intro r
    induction r with
    | nil => intro _ h; cases h
    | cons x r ih =>
      intro hx h
      rw [escF] at h
      by_cases hp : Lib.hasPrefix l (escapeS x) = true
      · have := prefix_len _ _ hp
        have hx' : x ∈ escs := hx x (List.mem_cons_self ..)
        simp only [escs, List.mem_cons, List.not_mem_nil, or_false] at hx'
        rcases hx' with rfl | rfl | rfl | rfl <;> exact this
      · rw [if_neg hp] at h
        exact ih (fun y hy => hx y (List.mem_cons_of_mem _ hy)) h
  exact go escs (fun _ h => h) h
theorem stN_pos {c : UInt8} {r : Bs} : 1 ≤ stN (c :: r) := by
  unfold stN
  split
  · split
    · omega
    · simp only [List.length_cons]; omega
  · omega
theorem stN_le {c : UInt8} {r : Bs} : stN (c :: r) ≤ (c :: r).length := by
  unfold stN
  split
  · split
    · next h => exact escF_len h
    · omega
  · simp
theorem unqF_more : ∀ (f g : Nat) (l : Bs), l.length ≤ f → l.length ≤ g → unqF f l = unqF g l
  | f, g, [], _, _ => by cases f <;> cases g <;> rfl
  | 0, _, c :: r, h, _ => by simp at h
  | f + 1, 0, c :: r, _, h => by simp at h
  | f + 1, g + 1, c :: r, h1, h2 => by
    have hp := stN_pos (c := c) (r := r)
    have hl : ((c :: r).drop (stN (c :: r))).length ≤ r.length := by rw [List.length_drop, List.length_cons]; omega
    simp only [List.length_cons] at h1 h2
    rw [unqF, unqF, unqF_more f g _ (by omega) (by omega)]
theorem unqL_step {c : UInt8} {r : Bs} (h : stB (c :: r) = true) : unqL (c :: r) = (unqL ((c :: r).drop (stN (c :: r)))).map (stC (c :: r) :: ·) := by
  have hp := stN_pos (c := c) (r := r)
  unfold unqL
  rw [List.length_cons, unqF, if_pos h, unqF_more r.length _ _ _ (Nat.le_refl _)]
  rw [List.length_drop, List.length_cons]; omega
theorem unqL_bad {c : UInt8} {r : Bs} (h : stB (c :: r) = false) : unqL (c :: r) = none := by
  unfold unqL
  rw [List.length_cons, unqF, if_neg (by rw [h]; simp)]
theorem unescV_le (l : Bs) : 0 ≤ unescV l ∧ unescV l ≤ 255 := by
  unfold unescV
  split
  · next c _ => have := c.toNat_lt; omega
  · have := decI_le (codeL l); unfold decV; split <;> omega
theorem stV_le (l : Bs) : 0 ≤ stV l ∧ stV l ≤ 255 := by
  unfold stV
  split
  · exact unescV_le l
  · cases l with
    | nil => exact ⟨Int.le_refl _, by decide⟩
    | cons c r => have := c.toNat_lt; exact ⟨Int.natCast_nonneg _, by show (c.toNat : Int) ≤ 255; omega⟩
theorem stC_nat (l : Bs) : ((stC l).toNat : Int) = stV l := by
  have := stV_le l
  unfold stC
  rw [UInt8.toNat_ofNat']
  omega
def bytesV (l : Bs) : List Value := l.map fun b => .int .u8 (b.toNat : Int)
theorem bytesV_len (l : Bs) : (bytesV l).length = l.length := List.length_map _
theorem bytesV_snoc (l : Bs) (c : UInt8) : bytesV (l ++ [c]) = bytesV l ++ [.int .u8 (c.toNat : Int)] := by simp [bytesV]
theorem own_below {w w' : World} {base : Nat} {e : TypeId} {size : Nat} {v : Value} {n : Nat} {xs : List Value} (h : w.ownsRow base e size v n xs) (hb : Below w.heap.size w w') : w'.ownsRow base e size v n xs := by
  refine ⟨h.1, h.2.imp id ?_⟩
  rintro ⟨g, cap, cur, h1, h2, hg, r⟩
  have hlt : g < w.heap.size := by
    rcases Nat.lt_or_ge g w.heap.size with hl | hl
    · exact hl
    · rw [Array.getElem?_eq_none hl] at hg; cases hg
  exact ⟨g, cap, cur, h1, h2, (hb.block g hlt).trans hg, r⟩
theorem own_drewN {w : World} {base : Nat} {e : TypeId} {size : Nat} {v : Value} {n : Nat} {xs : List Value} (h : w.ownsRow base e size v n xs) (k : Nat) : (w.drewN k).ownsRow base e size v n xs := own_below h (bel_drewN w k)
theorem cell_one_drewN (w : World) (n : Nat) (x : Value) (t : TypeId) : ∀ j u, [x][j]? = some u → ((w.drewN n).alloc (.cells #[x] t)).cell? ((⟨w.heap.size, 0, none⟩ : Addr).add j) = some u := by
  exact cell_one_new (w.drewN n) x t
theorem unq_next {l : Bs} {U : Option Bs} {out : Bs} (hl : l ≠ []) (h : U = (unqL l).map (out ++ ·)) (hb : stB l = true) : U = (unqL (l.drop (stN l))).map ((out ++ [stC l]) ++ ·) := by
  cases l with
  | nil => exact absurd rfl hl
  | cons c r =>
    rw [h, unqL_step hb, Option.map_map]
    congr 1
    funext x
    simp
theorem own_conv {w : World} {B : Nat} {v : Value} {out : Bs} (h : w.ownsRow B 5 1 v out.length (bytesV out)) : (convert 48 9 v).run Try.prog w = .ok (.string ⟨out.toArray⟩) w := by
  have h2 := h.2
  rcases h2 with ⟨rfl, h0⟩ | ⟨g, cap, cur, rfl, _⟩
  · have := List.eq_nil_of_length_eq_zero h0
    subst this
    exact run_convert_bytes_nil (P := Try.prog) w 48 5 Try.underlying48 Try.underlying5 0 0 9 Try.underlying9
  · exact run_convert_bytes_back (P := Try.prog) w 48 9 5 ⟨g, 0, none⟩ cap out Try.underlying48 Try.underlying5 Try.underlying9 (fun j hj => h.cells rfl j _ (by simp [bytesV, hj]))
theorem own_slice {w : World} {B : Nat} {e : TypeId} {sz : Nat} {v : Value} {n : Nat} {xs : List Value} (h : w.ownsRow B e sz v n xs) : ∃ a c, v = .slice a n c := by
  rcases h.2 with ⟨rfl, h0⟩ | ⟨g, cap, cur, rfl, _⟩
  · subst h0; exact ⟨_, _, rfl⟩
  · exact ⟨_, _, rfl⟩
def UnqAt (s : ByteArray) (w : World) (U : Option Bs) (v i : Value) (wr : World) : Prop :=
  ∃ (k : Nat) (out : Bs), k ≤ s.size ∧ out.length ≤ k ∧ i = .int .i64 (k : Int) ∧ wr.ownsRow w.heap.size 5 1 v out.length (bytesV out) ∧ Below w.heap.size w wr ∧ U = (unqL (s.data.toList.drop k)).map (out ++ ·)
set_option maxRecDepth 100000 in
set_option maxHeartbeats 4000000 in
theorem unquote_any (s : ByteArray) (w : World) (hs : s.size ≤ 140737488351232) (S : Bs) (b : Bool) (hS : Hid (S = match unqL s.data.toList with | some l => l | none => [])) (hb : Hid (b = match unqL s.data.toList with | some l => decide ((l.length : Int) ≤ 256) | none => false)) :
    Calls Try.prog 51 #[.string s] w fun e w' => e = .returned (.tuple #[.string ⟨S.toArray⟩, .bool b]) ∧ Below w.heap.size w w' := by
  have Hs := Lib.hid hs
  obtain ⟨U, hU⟩ : ∃ U, unqL s.data.toList = U := ⟨_, rfl⟩
  rw [hU] at hS hb
  have HU := Lib.hid hU
  clear hU
  obtain ⟨i0, hi, hz0, hz1, hz2⟩ := info_parts info_u8
  go_enter Try.func51, Try.ntmps51
  go_wp2_with fail
  go_loopw [4, 5] (fun v i wr => UnqAt s w U v i wr) (fun _ i _ => s.size - (intOf i).toNat)
  case atStart => exact ⟨0, [], Nat.zero_le _, Nat.le_refl _, rfl, World.ownsRow_nil _ _ _ _, Below.refl _ _, by rw [List.drop_zero, HU.out]; cases U <;> rfl⟩
  case round =>
    obtain ⟨k, out, hk, ho, rfl, hown, hbel, ha⟩ := hrel
    have Ha := Lib.hid ha
    have Hown := Lib.hid hown
    have Hbel := Lib.hid hbel
    have hsz := hbel.size
    clear ha hown hbel HU
    by_cases hlt : k < s.size
    · have dl : decide ((k : Int) < (s.size : Int)) = true := by simp [hlt]
      have i1 : (k : Int) < s.size := by omega
      have hd := drop_at s k hlt
      have Hd := Lib.hid hd
      clear hd
      go_wp2_with fail
      go_quiet (fail)
      cases e1 : (s[k].toNat : Int) == 92
      · have hesc : isEsc (s.data.toList.drop k) = false := by
          rw [Hd.out]; have hne := u8_ne (n := 92) (by decide) e1; unfold isEsc; split
          · next h => injection h with a b; exact absurd a hne
          · rfl
        have hV : stV (s.data.toList.drop k) = (s[k].toNat : Int) := by unfold stV; rw [hesc, Hd.out]; rfl
        have hN : stN (s.data.toList.drop k) = 1 := by unfold stN; rw [hesc]; rfl
        have hB : stB (s.data.toList.drop k) = decide ((s[k].toNat : Int) ≥ 32) := by unfold stB; rw [hesc, Hd.out]; rfl
        have hC : ((stC (s.data.toList.drop k)).toNat : Int) = (s[k].toNat : Int) := by rw [stC_nat, hV]
        have hne : s.data.toList.drop k ≠ [] := by rw [Hd.out]; simp
        cases e2 : decide ((s[k].toNat : Int) ≥ 32)
        · rw [e2] at hB
          have hU : U = none := by rw [Ha.out, Hd.out, unqL_bad (by rw [← Hd.out]; exact hB)]; rfl
          subst hU
          obtain rfl : S = [] := hS.out
          obtain rfl : b = false := hb.out
          clear hesc hV hN hB hC hS hb hne
          go_wp2_with fail
          go_ret2
          exact ⟨rfl, bel_trans Hbel.out (bel_drewN _ _)⟩
        · rw [e2] at hB
          have hU := unq_next hne Ha.out hB
          rw [hN, List.drop_drop] at hU
          have HU := Lib.hid hU
          have HC := Lib.hid hC
          clear hesc hV hN hB hC hne hU
          go_wp2_with (at_builtin; refine wpList_append_own _ rfl (.tmp 32) (.tmp 34) 48 rfl w.heap.size 5 i0 (.int .u8 0) 1 1 Try.underlying48 hi hz0 hz1 hz2 rfl (by omega) _ out.length (bytesV out) rfl ((own_drewN Hown.out _).alloc _) ⟨wr.heap.size, 0, none⟩ 1 1 [.int .u8 (s[k].toNat : Int)] rfl rfl (cell_one_drewN _ _ _ _) (by simp [Value.oneCell']) (by simp only [maxLen]; omega) (by omega) (by simp; omega) ?_; intro v' w3 hown3 hg3 _)
          have hb3 : Below w.heap.size w w3 := ((Hbel.out.trans ((bel_drewN wr nq).mono hsz)).alloc hsz _).grown hg3 (by simp; omega) (fun j h => (Hown.out.lt j h).1)
          have HB3 := Lib.hid hb3
          have HO3 := Lib.hid hown3
          clear hb3 hown3 hg3
          go_wp2_with fail
          go_roundw
          case rel =>
            refine ⟨k + 1, out ++ [stC (s.data.toList.drop k)], by omega, by simp; omega, by go_num, ?_, HB3.out, HU.out⟩
            rw [bytesV_snoc, HC.out, List.length_append]
            exact HO3.out
          case measure => simp [intOf]; omega
      · have hesc : isEsc (s.data.toList.drop k) = true := by
          rw [Hd.out, u8_is (n := 92) (by decide) e1]; rfl
        have hr := run_from s k hk
        have hz := ext_size s k hk
        have hl : (s.extract k s.size).data.toList = s.data.toList.drop k := Lib.extract_to_end s k
        generalize s.extract k s.size = t at *
        have hV : stV (s.data.toList.drop k) = unescV t.data.toList := by unfold stV; rw [hesc, hl]; rfl
        have hN : unescN t.data.toList = (stN (s.data.toList.drop k) : Int) := by
          unfold stN unescN; rw [hesc, hl]
          rw [if_pos rfl]
          split <;> rename_i h <;> (try rw [h])
          · rfl
          · (try simp only); omega
        have hB : stB (s.data.toList.drop k) = unescB t.data.toList := by unfold stB; rw [hesc, hl]; rfl
        have hne : s.data.toList.drop k ≠ [] := by rw [Hd.out]; simp
        have hle : stN (s.data.toList.drop k) ≤ s.size - k := by
          rw [Hd.out, ← len_of, ← List.length_drop, Hd.out]; exact stN_le
        have hpos : 1 ≤ stN (s.data.toList.drop k) := by rw [Hd.out]; exact stN_pos
        have hC : ((stC (s.data.toList.drop k)).toNat : Int) = stV (s.data.toList.drop k) := stC_nat _
        obtain ⟨m, hm⟩ : ∃ m, stN (s.data.toList.drop k) = m := ⟨_, rfl⟩
        obtain ⟨V, hVV⟩ : ∃ V, stV (s.data.toList.drop k) = V := ⟨_, rfl⟩
        rw [hVV] at hV hC
        rw [hm] at hN hle hpos
        have HV : Hid (unescV t.data.toList = V) := hV.symm
        have HN : Hid (unescN t.data.toList = (m : Int)) := hN
        have HT : Hid (0 < t.size ∧ t.size ≤ maxLen) := ⟨by omega, by simp only [maxLen]; omega⟩
        cases e2 : unescB t.data.toList
        · rw [e2] at hB
          have hU : U = none := by rw [Ha.out, Hd.out, unqL_bad (by rw [← Hd.out]; exact hB)]; rfl
          subst hU
          obtain rfl : S = [] := hS.out
          obtain rfl : b = false := hb.out
          have HE := Lib.hid e2
          clear hesc hV hN hB hC hS hb hne hVV hm e2
          go_wp2_with (go_at_call 64; refine (unescape_any t _ HT.out.2 HT.out.1 _ _ _ HV HN HE).mono ?_; rintro e w2 ⟨rfl, hB2⟩; have HB2 := Lib.hid hB2; clear hB2)
          go_ret2
          exact ⟨rfl, bel_trans (bel_trans Hbel.out (bel_drewN _ _)) HB2.out⟩
        · rw [e2] at hB
          have hU := unq_next hne Ha.out hB
          rw [hm, List.drop_drop] at hU
          have HU := Lib.hid hU
          have HC := Lib.hid hC
          have HE := Lib.hid e2
          clear hesc hV hN hB hne hU hC hVV hm e2 hl hz
          go_wp2_with (first | (go_at_call 64; refine (unescape_any t _ HT.out.2 HT.out.1 _ _ _ HV HN HE).mono ?_; rintro e w2 ⟨rfl, hB2⟩; have HB2 := Lib.hid hB2; have hs2 := hB2.size; clear hB2; have hs3 : wr.heap.size ≤ w2.heap.size := hs2; clear hs2) | (at_builtin; refine wpList_append_own _ rfl (.tmp 32) (.tmp 34) 48 rfl w.heap.size 5 i0 (.int .u8 0) 1 1 Try.underlying48 hi hz0 hz1 hz2 rfl (by omega) _ out.length (bytesV out) rfl ((own_below (own_drewN Hown.out _) HB2.out).alloc _) ⟨w2.heap.size, 0, none⟩ 1 1 [.int .u8 V] rfl rfl (cell_one_new _ _ _) (by simp [Value.oneCell']) (by simp only [maxLen]; omega) (by omega) (by simp; omega) ?_; intro v' w3 hown3 hg3 _))
          have hb3 : Below w.heap.size w w3 := ((Hbel.out.trans ((bel_trans (bel_drewN wr nq) HB2.out).mono hsz)).alloc (by omega) _).grown hg3 (by simp; omega) (fun j h => (Hown.out.lt j h).1)
          have HB3 := Lib.hid hb3
          have HO3 := Lib.hid hown3
          clear hb3 hown3 hg3
          have hkm : k + m ≤ s.size := by omega
          go_wp2_with fail
          go_roundw
          case rel =>
            refine ⟨k + m, out ++ [stC (s.data.toList.drop k)], hkm, by simp; omega, by go_num, ?_, HB3.out, HU.out⟩
            rw [bytesV_snoc, HC.out, List.length_append]
            exact HO3.out
          case measure => simp [intOf]; omega
    · have dl : decide ((k : Int) < (s.size : Int)) = false := by simp [hlt]
      have hU : U = some out := by
        rw [Ha.out, drop_none s k (by omega)]
        show some (out ++ []) = _
        rw [List.append_nil]
      subst hU
      obtain rfl : S = out := hS.out
      obtain rfl : b = decide ((S.length : Int) ≤ 256) := hb.out
      have hcv := own_conv Hown.out
      obtain ⟨va, vc, rfl⟩ := own_slice Hown.out
      clear hS hb
      go_wp2_with fail
      go_ret2
      exact ⟨rfl, Hbel.out⟩
end Go.Proofs.Ytpeleifkednmoaa.Lx
end
