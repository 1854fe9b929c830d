/- What the document asks of a datum by itself is what the program asks: whatever the datum. -/
import Derived.Test.YtapnighankepjaaDatAlone2
namespace Go.Proofs.Ytapnighankepjaa.Da
open Go.ChangeShapes Go.WideShapes Go.ChangeAt Go.RowKit

set_option linter.unusedVariables false in
set_option maxRecDepth 100000 in
theorem alone_no (k n : Int) (s : ByteArray) (am : Option Addr) (lm cm : Nat) (al : Option Addr) (ll cl : Nat) (at_ : Option Addr) (lt ct : Nat) (w : World) (h1 : (lm : Int) ≤ 17592186044416) (h3 : (ll : Int) ≤ 17592186044416) (h4 : (lt : Int) ≤ 17592186044416)
    (d1 : (k == 1) = false) (d2 : (k == 2) = false) (d3 : (k == 3) = false) (d4 : (k == 4) = false) (d5 : (k == 5) = false) (d6 : (k == 6) = false) (d7 : (k == 7) = false) (d8 : (k == 8) = false) :
    Calls Try.prog 57 #[.agg #[.int .i64 k, .int .i64 n, .string s, .slice am lm cm, .slice al ll cl, .slice at_ lt ct]] w fun e w' => e = .returned (.bool false) ∧ Below w.heap.size w w' := by
  go_enter Try.func57, Try.ntmps57
  go_wp2_with fail
  go_ret
  exact ⟨rfl, bel_alloc _ _⟩
theorem alone_any (d : Dt) (v : Value) (B : Nat) (w : World) (h : IsDt w (Lo B) d v) (hB : B ≤ w.heap.size) :
    Calls Try.prog 57 #[v] w fun e w' => e = .returned (.bool (properB d)) ∧ Below w.heap.size w w' := by
  obtain ⟨am, cm, al, cl, at_, ct, rfl, _, _, hs, hm, hl, _, ht, hts⟩ := h.open_
  have h1 : (d.M.length : Int) ≤ 17592186044416 := by have a := hm.2.1; have b := hm.2.2.2.1; omega
  have h3 : (d.L.length : Int) ≤ 17592186044416 := by have a := hl.1; have b := hl.2.2.1; omega
  have h4 : (d.T.length : Int) ≤ 17592186044416 := by have a := ht.1; have b := ht.2.2.1; omega
  unfold properB
  by_cases c1 : d.K = 1
  · rw [c1]; exact alone_1 d.N d.S d.M d.L d.T am cm al cl at_ ct B w hs hB hm hl ht hts
  by_cases c2 : d.K = 2
  · rw [c2]; exact alone_2 d.N d.S d.M d.L d.T am cm al cl at_ ct B w hs hB hm hl ht hts
  by_cases c3 : d.K = 3
  · rw [c3]; exact alone_3 d.N d.S d.M d.L d.T am cm al cl at_ ct B w hs hB hm hl ht hts
  by_cases c4 : d.K = 4
  · rw [c4]; exact alone_4 d.N d.S d.M d.L d.T am cm al cl at_ ct B w hs hB hm hl ht hts
  by_cases c5 : d.K = 5
  · rw [c5]; exact alone_5 d.N d.S d.M d.L d.T am cm al cl at_ ct B w hs hB hm hl ht hts
  by_cases c6 : d.K = 6
  · rw [c6]; exact alone_6 d.N d.S d.M d.L d.T am cm al cl at_ ct B w hs hB hm hl ht hts
  by_cases c7 : d.K = 7
  · rw [c7]; exact alone_7 d.N d.S d.M d.L d.T am cm al cl at_ ct B w hs hB hm hl ht hts
  by_cases c8 : d.K = 8
  · rw [c8]; exact alone_8 d.N d.S d.M d.L d.T am cm al cl at_ ct B w hs hB hm hl ht hts
  have he : properOf d.K d.N d.S d.M d.L d.T = false := by unfold properOf; rw [if_neg c1, if_neg c2, if_neg c3, if_neg c4, if_neg c5, if_neg c6, if_neg c7, if_neg c8]
  rw [he]
  exact alone_no d.K d.N d.S am _ cm al _ cl at_ _ ct w h1 h3 h4 (beq_eq_false_iff_ne.2 c1) (beq_eq_false_iff_ne.2 c2) (beq_eq_false_iff_ne.2 c3) (beq_eq_false_iff_ne.2 c4) (beq_eq_false_iff_ne.2 c5) (beq_eq_false_iff_ne.2 c6) (beq_eq_false_iff_ne.2 c7) (beq_eq_false_iff_ne.2 c8)
end Go.Proofs.Ytapnighankepjaa.Da
