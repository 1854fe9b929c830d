/- Are words cut (layer 3)? -/
import Derived.Test.YtpeleifkednmoaaMLexWords
section
namespace Go.Proofs.Ytpeleifkednmoaa.Lx
open Go.ChangeShapes Go.WideShapes Go.ChangeAt Go.RowKit
set_option linter.unusedVariables false

def awakeL : Bs := [40, 97, 32, 46, 32, 34, 98, 92, 110, 34, 41, 32, 45, 53]
def awakeT : List Tk := [⟨1, 0, 1, 0, []⟩, ⟨13, 1, 2, 0, [97]⟩, ⟨8, 3, 4, 0, []⟩, ⟨12, 5, 10, 0, [98, 10]⟩, ⟨2, 10, 11, 0, []⟩, ⟨9, 12, 14, -5, []⟩]
theorem awake_words : wordsR awakeL = ⟨awakeT, 0, 0⟩ := by kernel_rfl
/-- A row of words that is not empty lies in a block. -/
theorem own_some {w : World} {B : Nat} {e : TypeId} {sz : Nat} {a : Option Addr} {n c : Nat} {xs : List Value} (h : w.ownsRow B e sz (.slice a n c) n xs) (hn : 0 < n) : ∃ g, a = some ⟨g, 0, none⟩ ∧ n ≤ c ∧ ∀ j u, xs[j]? = some u → w.cell? ⟨g, j, none⟩ = some u := by
  rcases h.2 with ⟨h1, h0⟩ | ⟨g, cap, cur, h1, h2, h3, h4, _⟩
  · omega
  · injection h1 with e1 e2 e3
    subst e1
    subst e3
    refine ⟨g, rfl, h4, fun j u hu => ?_⟩
    have := h.cells rfl j u hu
    rwa [show (⟨g, 0, none⟩ : Addr).add j = ⟨g, j, none⟩ by unfold Addr.add; split <;> simp_all] at this
set_option maxRecDepth 100000 in
theorem awake_yes (w : World) : Calls Try.prog 5 #[] w fun e w' => e = .returned (.bool true) ∧ Below w.heap.size w w' := by
  have hw : ∀ w, Calls Try.prog 11 #[.string ⟨#[40, 97, 32, 46, 32, 34, 98, 92, 110, 34, 41, 32, 45, 53]⟩] w (WordsP ⟨awakeT, 0, 0⟩ w) := fun w => by
    have h := words_any ⟨awakeL.toArray⟩ w (by decide)
    rw [show wordsR (⟨awakeL.toArray⟩ : ByteArray).data.toList = ⟨awakeT, 0, 0⟩ from awake_words] at h
    exact h
  have HW := Lib.hid hw
  clear hw
  go_enter Try.func5, Try.ntmps5
  go_wp2_with fail
  refine (HW.out _).mono ?_
  rintro e w1 ⟨a, c, rfl, hb, hown⟩
  obtain ⟨g, rfl, hc, hcell⟩ := own_some hown (by decide)
  have c15 := hcell 15 (.int .i64 12) rfl
  have c16 := hcell 16 (.int .i64 5) rfl
  have c17 := hcell 17 (.int .i64 10) rfl
  have c18 := hcell 18 (.int .i64 0) rfl
  have c19 := hcell 19 (.string ⟨#[98, 10]⟩) rfl
  have c28 := hcell 28 (.int .i64 (-5)) rfl
  have HB := Lib.hid hb
  have hlen : awakeT.length = 6 := rfl
  rw [hlen]
  clear hb hown hcell hlen hc
  go_wp2_with fail
  go_ret
  exact ⟨rfl, HB.out⟩
end Go.Proofs.Ytpeleifkednmoaa.Lx
end
