/- P3.2: any word's text, and any words' text, are the document's, where the words' strings are short: no condition. -/
import Derived.Test.YtpeleifkednmoaaMLexOpen
section
section
namespace Go.Proofs.Ytpeleifkednmoaa.Lx
open Go.ChangeShapes Go.WideShapes Go.ChangeAt Go.RowKit
set_option linter.unusedVariables false
set_option linter.unusedSimpArgs false
theorem box5 {w w5 : World} (t : Tk) (hb : Below (w.alloc (.cells #[.int .i64 t.k, .int .i64 t.a, .int .i64 t.z, .int .i64 t.n, .string ⟨t.S.toArray⟩] 26)).heap.size (w.alloc (.cells #[.int .i64 t.k, .int .i64 t.a, .int .i64 t.z, .int .i64 t.n, .string ⟨t.S.toArray⟩] 26)) w5) :
    w5.cell? ⟨w.heap.size, 0, none⟩ = some (.int .i64 t.k) ∧ w5.cell? ⟨w.heap.size, 1, none⟩ = some (.int .i64 t.a) ∧ w5.cell? ⟨w.heap.size, 2, none⟩ = some (.int .i64 t.z) ∧ w5.cell? ⟨w.heap.size, 3, none⟩ = some (.int .i64 t.n) ∧ w5.cell? ⟨w.heap.size, 4, none⟩ = some (.string ⟨t.S.toArray⟩) := by
  have hlt : w.heap.size < (w.alloc (.cells #[.int .i64 t.k, .int .i64 t.a, .int .i64 t.z, .int .i64 t.n, .string ⟨t.S.toArray⟩] 26)).heap.size := by simp
  exact ⟨(hb.cell (p := ⟨w.heap.size, 0, none⟩) hlt).trans (by simp), (hb.cell (p := ⟨w.heap.size, 1, none⟩) hlt).trans (by simp), (hb.cell (p := ⟨w.heap.size, 2, none⟩) hlt).trans (by simp), (hb.cell (p := ⟨w.heap.size, 3, none⟩) hlt).trans (by simp), (hb.cell (p := ⟨w.heap.size, 4, none⟩) hlt).trans (by simp)⟩
def LawAt (m : Nat) (w : World) (i : Value) (wr : World) : Prop := ∃ k : Nat, k ≤ m ∧ i = .int .i64 (k : Int) ∧ Below w.heap.size w wr
theorem join_at (l : List Tk) (a : Option Addr) (c : Nat) (w : World) (ha : TkIs w a l) (ht : ∀ t ∈ l, TkW t) (hl : l.length ≤ 140737488351232) (X : ByteArray) (E : Int) (hX : Hid ((⟨(joinTk l).1.toArray⟩ : ByteArray) = X)) (hE : Hid ((joinTk l).2 = E)) :
    Calls Try.prog 9 #[.slice a l.length c] w fun e w' => e = .returned (.tuple #[.string X, .int .i64 E]) ∧ Below w.heap.size w w' := by
  rw [← hX.out, ← hE.out]
  exact join_any l a c w ha ht hl
theorem rjoin_at (l : List Tk) (a : Option Addr) (c : Nat) (w : World) (ha : TkIs w a l) (ht : ∀ t ∈ l, TkW t) (hl : l.length ≤ 140737488351232) (X : ByteArray) (E : Int) (hX : Hid ((⟨(joinTk l).1.toArray⟩ : ByteArray) = X)) (hE : Hid ((joinTk l).2 = E)) :
    Calls Try.prog 10 #[.slice a l.length c] w fun e w' => e = .returned (.tuple #[.string X, .int .i64 E]) ∧ Below w.heap.size w w' := by
  rw [← hX.out, ← hE.out]
  exact rjoin_any l a c w ha ht hl
set_option maxRecDepth 100000 in
set_option maxHeartbeats 8000000 in
theorem texts_law (l : List Tk) (a : Option Addr) (c : Nat) (w : World) (ha : TkIs w a l) (hA : ∀ t ∈ l, TkA t) (hc : l.length ≤ c) (hl : l.length ≤ 140737488351232) :
    Calls Try.prog 3 #[.slice a l.length c] w fun e w' => e = .returned (.bool true) ∧ Below w.heap.size w w' := by
  have HA := Lib.hid ha
  have HAA := Lib.hid hA
  clear ha hA
  cases hs : shortB l
  · have HS := Lib.hid hs
    clear hs
    go_enter Try.func3, Try.ntmps3
    go_wp2_with fail
    refine (awake_yes _).mono ?_
    rintro e w1 ⟨rfl, hb⟩
    have HW := Lib.hid hb
    replace HA := Lib.hid (HA.out.bel hb)
    clear hb
    go_wp2_with fail
    refine (short_any l a c _ HA.out hl false HS).mono ?_
    rintro e w2 ⟨rfl, hb⟩
    replace HW := Lib.hid (bel_trans HW.out hb)
    clear hb
    go_wp2_with fail
    refine (awake_yes _).mono ?_
    rintro e w3 ⟨rfl, hb⟩
    replace HW := Lib.hid (bel_trans HW.out hb)
    clear hb
    go_wp2_with fail
    go_ret
    exact ⟨rfl, HW.out⟩
  · have HS := Lib.hid hs
    have HT := Lib.hid (short_w hs HAA.out)
    obtain ⟨m, hm⟩ : ∃ m, min l.length 50 = m := ⟨_, rfl⟩
    have hmn : min (l.length : Int) 50 = (m : Int) := by omega
    have hmc : m ≤ c := by omega
    have hml : m ≤ l.length := by omega
    clear hs hm HAA
    go_enter Try.func3, Try.ntmps3
    go_wp2_with fail
    refine (awake_yes _).mono ?_
    rintro e w1 ⟨rfl, hb⟩
    have HW := Lib.hid hb
    replace HA := Lib.hid (HA.out.bel hb)
    clear hb
    go_wp2_with fail
    refine (short_any l a c _ HA.out hl true HS).mono ?_
    rintro e w2 ⟨rfl, hb⟩
    replace HW := Lib.hid (bel_trans HW.out hb)
    replace HA := Lib.hid (HA.out.bel hb)
    clear hb
    go_wp2_with fail
    go_loopw [27] (fun i wr => LawAt m w2 i wr) (fun i _ => m - (intOf i).toNat)
    case atStart => exact ⟨0, Nat.zero_le _, rfl, Below.refl _ _⟩
    case round =>
      obtain ⟨k, hk, rfl, hbel⟩ := hrel
      have Hbel := Lib.hid hbel
      have hsz := hbel.size
      clear hbel
      by_cases hlt : k < m
      · have dl : decide ((k : Int) < (m : Int)) = true := by simp [hlt]
        have i1 : (k : Int) < (m : Int) := by omega
        have hlt' : k < l.length := by omega
        have hne : l ≠ [] := fun e => by rw [e] at hlt'; exact absurd hlt' (by simp)
        rcases (HA.out.bel Hbel.out) with h | ⟨g, o, rfl, hc⟩
        · exact absurd h hne
        obtain ⟨c0, c1, c2, c3, c4⟩ := hc k hlt'
        have HTW := Lib.hid (HT.out _ (List.getElem_mem hlt'))
        clear hc hne
        generalize l[k] = t at *
        obtain ⟨X, hx⟩ : ∃ X, (⟨(txt t).toArray⟩ : ByteArray) = X := ⟨_, rfl⟩
        have HX := Lib.hid hx
        obtain ⟨E, he⟩ : ∃ E, er t = E := ⟨_, rfl⟩
        have HE := Lib.hid he
        clear hx he
        have e1 : (X.toList == X.toList) = true := by simp
        have e2 : (E != E) = false := by simp
        go_wp2_with fail
        refine (text_at t _ HTW.out X E HX HE).mono ?_
        rintro e w4 ⟨rfl, hb⟩
        obtain ⟨b0, b1, b2, b3, b4⟩ := box5 t hb
        have HB := Lib.hid (bel_trans (bel_alloc wr _) hb)
        clear hb
        go_wp2_with fail
        refine (rtext_at t _ HTW.out X E HX HE).mono ?_
        rintro e w5 ⟨rfl, hb⟩
        replace HB := Lib.hid (bel_trans HB.out hb)
        clear hb
        go_wp2_with fail
        go_roundw
        case rel => exact ⟨k + 1, hlt, by go_num, Hbel.out.trans (HB.out.mono hsz)⟩
        case measure => simp [intOf]; omega
      · have dl : decide ((k : Int) < (m : Int)) = false := by simp [hlt]
        replace HA := Lib.hid (HA.out.bel Hbel.out)
        obtain ⟨X, hx⟩ : ∃ X, (⟨(joinTk l).1.toArray⟩ : ByteArray) = X := ⟨_, rfl⟩
        have HX := Lib.hid hx
        obtain ⟨E, he⟩ : ∃ E, (joinTk l).2 = E := ⟨_, rfl⟩
        have HE := Lib.hid he
        clear hx he
        have e1 : (X.toList == X.toList) = true := by simp
        have e2 : (E == E) = true := by simp
        go_wp2_with fail
        refine (join_at l a c _ HA.out HT.out hl X E HX HE).mono ?_
        rintro e w4 ⟨rfl, hb⟩
        have HB := Lib.hid (hb)
        replace HA := Lib.hid (HA.out.bel hb)
        clear hb
        go_wp2_with fail
        refine (rjoin_at l a c _ HA.out HT.out hl X E HX HE).mono ?_
        rintro e w5 ⟨rfl, hb⟩
        replace HB := Lib.hid (bel_trans HB.out hb)
        clear hb
        go_wp2_with fail
        go_ret
        exact ⟨rfl, bel_trans HW.out (bel_trans Hbel.out HB.out)⟩
end Go.Proofs.Ytpeleifkednmoaa.Lx
end
section
namespace Go.Proofs.Ytpeleifkednmoaa.lexTexts
open Go.ChangeShapes Go.WideShapes Go.ChangeAt Go.RowKit
set_option linter.unusedVariables false

theorem own : ownKnob Try.prog.godebug = none := by kernel_rfl
theorem laidOut : laidOutB Try.prog = true := by kernel_rfl
set_option maxRecDepth 100000 in
theorem lifted (os : Os) (started : os.Started) (H : Type) (enc : TypeId × Value → H) :
    ReturnsInHanded {} Try.checked os 3 .any (Rows.lexTextsSpec.pre6 enc Try.prog Try.f3 Rows.lexTextsRow.domain false) (Rows.lexTextsSpec.post enc Try.prog Try.f3 false true false false) := by
  refine returnsInHanded_of_change_sized (C := Try.checked) own started (by kernel_rfl) Try.func3
    (ChangeSpec.witness6 (enc := enc) (C := Try.checked) false ⟨#[], #[.slice none 0 0], []⟩ 8 (by kernel_rfl) (by kernel_rfl) (by kernel_rfl) (by kernel_rfl)) ?_
  intro W base args ds gs before hval0 hW hcnd hsz0 _
  have hsz : (DataW.weightsEach Try.prog (Try.f3.params.toList ++ Rows.lexTextsSpec.plain.varTypes Try.prog) (ds ++ gs)).all (· ≤ reachBytes) = true := hsz0
  have hval : ∀ (j : Nat) t v, Try.f3.params[j]? = some t → args[j]? = some v → Value.okWide Try.prog W .any base t v := hval0
  have hW' := hW
  obtain ⟨p, q, hA0, hV, rfl, hfz, hnd⟩ := hW
  have hA : DataW.TrodAll enc Try.prog W 0 (fun _ => true) true Try.f3.params.toList args.toList ds p := hA0
  rw [Try.params3] at hA hval hsz
  obtain ⟨v0, vs0, d0, ds0, p0, q0, hargs, rfl, rfl, h0, r0⟩ := trodAll_cons hA
  obtain ⟨rfl, rfl, rfl⟩ := trodAll_nil r0
  obtain rfl : args = #[v0] := by cases args; simp_all
  obtain ⟨rfl, rfl⟩ := trodVars_none hV
  have k0 := h0
  have lt0 : ∀ x ∈ p0, x.block < W.heap.size := by obtain ⟨m, hm⟩ := k0; exact DataW.trod_lt m _ _ _ hm
  have sz0 : (d0.weights Try.prog 22).all (· ≤ reachBytes) = true := List.all_eq_true.2 fun x hx => List.all_eq_true.1 hsz x (DataW.weights_mem_each (j := 0) rfl rfl x hx)
  obtain ⟨a0, len0, cap0, rfl⟩ := okWide_slice Try.underlying22 (hval 0 22 v0 rfl rfl)
  obtain ⟨z0, e0, s0, l0, w0, t0⟩ : ∃ z : List Lx.Tk, len0 = List.length z ∧ z.length ≤ cap0 ∧ z.length ≤ 140737488351232 ∧ Lx.TkIs W a0 z ∧ ∀ t ∈ z, Lx.TkA t := by
    obtain ⟨fuel, hf⟩ := h0
    obtain ⟨a', cap', l, hcs, hs, hl, hi, ht⟩ := Lx.open_toks hf sz0
    simp [Value.cells] at hcs
    obtain ⟨rfl, rfl, rfl⟩ := hcs
    exact ⟨l, rfl, hs, hl, hi, ht⟩
  subst e0
  clear hA0 hval0 hsz0
  refine (Lx.texts_law z0 a0 cap0 W w0 t0 s0 l0).mono fun e W' ⟨he, bel⟩ => ?_
  subst he
  exact ⟨_, rfl, _, _, _, [], _, [], hW', trodAll_mk1 (shut_bool Try.underlying4 _), (trodAll_cons_mk (Below.trod laidOut (by kernel_rfl) (of_decide_eq_true (by kernel_rfl)) k0 bel lt0) trodAll_mk0), rfl, bel.frame _, fun h => by cases h⟩

theorem over : Rows.lexTextsRow.holds Try.pinned (OpenSpec.ofChange Rows.lexTextsSpec) :=
  OpenClaim.holds_of_wide 3 Try.f3 rfl rfl rfl rfl rfl rfl rfl ⟨rfl, rfl, rfl, rfl, rfl⟩ rfl rfl rfl rfl rfl (by kernel_rfl) Try.func3 (by kernel_rfl)
    (of_decide_eq_true (by kernel_rfl)) (by unfold Func.isWrapper; first | (rw [if_pos (by decide +kernel)]; kernel_rfl) | (rw [if_neg (by decide +kernel)]; exact ⟨rfl, rfl⟩))
    (fun os started H enc _ => lifted os started H enc)

theorem proved : Rows.LexTextsSaid := over
#print axioms proved
end Go.Proofs.Ytpeleifkednmoaa.lexTexts
end
end
