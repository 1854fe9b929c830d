/- One round of copying data in new memory, without a walk. -/
import Derived.Test.YtapnighankepjaaDatEachBase
namespace Go.Proofs.Ytapnighankepjaa.Da
open Go.ChangeShapes Go.WideShapes Go.ChangeAt Go.RowKit

theorem OwnDts.keepAt {w w' : World} : ∀ (l : List Dt) (i lo hi : Nat) (a : Option Addr), (∀ g, a = some ⟨g, 0, none⟩ → ∀ o, o < (i + l.length) * 6 → w'.cell? ⟨g, o, none⟩ = w.cell? ⟨g, o, none⟩) → Eqv w w' (Rg lo hi) → OwnDts w hi a l i lo → OwnDts w' hi a l i lo
  | [], _, _, _, _, _, _, _ => by simp only [OwnDts]
  | d :: r, i, lo, hi, a, hg, hk, h => by
    simp only [OwnDts] at h ⊢
    obtain ⟨mid, g, x0, x1, x2, x3, x4, x5, ha, h0, h1, h2, hs, hd, hr⟩ := h
    have hl : (d :: r).length = r.length + 1 := rfl
    refine ⟨mid, g, x0, x1, x2, x3, x4, x5, ha, h0, h1, h2, ?_, OwnDt.keep d lo mid _ (hk.mono fun b hb => ⟨hb.1, by have := hb.2; omega⟩) hd,
      OwnDts.keepAt r (i + 1) mid hi a (fun g' hg' o ho => hg g' hg' o (by omega)) (hk.mono fun b hb => ⟨by have := hb.1; omega, hb.2⟩) hr⟩
    obtain ⟨s0, s1, s2, s3, s4, s5⟩ := hs
    exact ⟨(hg g ha _ (by omega)).trans s0, (hg g ha _ (by omega)).trans s1, (hg g ha _ (by omega)).trans s2, (hg g ha _ (by omega)).trans s3, (hg g ha _ (by omega)).trans s4, (hg g ha _ (by omega)).trans s5⟩
end Go.Proofs.Ytapnighankepjaa.Da
