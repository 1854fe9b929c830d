/- What is behind the first element of a datum: what the program returns. -/
import Derived.Test.YtapnighankepjaaDatPairs
namespace Go.Proofs.Ytapnighankepjaa.Da
open Go.ChangeShapes Go.WideShapes Go.ChangeAt Go.RowKit

def restD (d : Dt) : Dt := .mk d.K d.N d.S d.M d.L.tail d.T
def cdrD (d : Dt) : Dt := if d.K = 7 ∧ d.L.length = 1 then d.T.headD (.mk 0 0 ⟨#[]⟩ [] [] []) else restD d
theorem shift_dts {w : World} {Q : Nat → Prop} {b off : Nat} : ∀ {l : List Dt} {i : Nat}, IsDts w Q (some ⟨b, off, none⟩) (i + 1) l → IsDts w Q (some ⟨b, off + 6, none⟩) i l
  | [], _, _ => by simp only [IsDts]
  | d :: r, i, h => by
    simp only [IsDts] at h ⊢
    obtain ⟨⟨b', off', x0, x1, x2, x3, x4, x5, ha, hb, hs, hd⟩, hr⟩ := h
    injection ha with ha
    injection ha with h1 h2
    subst h1
    subst h2
    refine ⟨⟨b, off + 6, x0, x1, x2, x3, x4, x5, rfl, hb, ?_, hd⟩, shift_dts hr⟩
    rwa [show off + 6 + i * 6 = off + (i + 1) * 6 by omega]
theorem rest_isDt {w : World} {Q : Nat → Prop} {d : Dt} {am at_ : Option Addr} {cm cl ct b off : Nat} (h : IsDt w Q d (.agg #[.int .i64 d.K, .int .i64 d.N, .string d.S, .slice am d.M.length cm, .slice (some ⟨b, off, none⟩) d.L.length cl, .slice at_ d.T.length ct])) (hpos : 0 < d.L.length) :
    (cl = 1 → IsDt w Q (restD d) (.agg #[.int .i64 d.K, .int .i64 d.N, .string d.S, .slice am d.M.length cm, .slice (some ⟨b, off, none⟩) 0 0, .slice at_ d.T.length ct])) ∧
    (cl ≠ 1 → IsDt w Q (restD d) (.agg #[.int .i64 d.K, .int .i64 d.N, .string d.S, .slice am d.M.length cm, .slice (some ⟨b, off + 6, none⟩) (d.L.length - 1) (cl - 1), .slice at_ d.T.length ct])) := by
  obtain ⟨k, n, s, m, l, t⟩ := d
  obtain _ | ⟨x, r⟩ := l
  · simp [Dt.L] at hpos
  simp only [IsDt, restD, Dt.K, Dt.N, Dt.S, Dt.M, Dt.L, Dt.T, List.tail_cons, List.length_cons, Nat.add_sub_cancel] at h ⊢
  obtain ⟨h1, h2, h3, am', cm', al', cl', at', ct', hv, hm, hl, hls, ht, hts⟩ := h
  injection hv with hv
  simp only [Array.mk.injEq, List.cons.injEq, and_true, true_and, Value.slice.injEq] at hv
  obtain ⟨⟨rfl, rfl⟩, ⟨rfl, rfl⟩, rfl, rfl⟩ := hv
  obtain ⟨l1, l2, l3, _⟩ := hl
  simp only [IsDts] at hls
  refine ⟨fun hc => ?_, fun hc => ⟨h1, h2, h3, am, cm, _, _, at_, ct, rfl, hm, ⟨by omega, by omega, by omega, fun h => by cases h⟩, shift_dts hls.2, ht, hts⟩⟩
  have h0 : r.length = 0 := by omega
  obtain rfl := List.eq_nil_of_length_eq_zero h0
  exact ⟨h1, h2, h3, am, cm, _, _, at_, ct, rfl, hm, ⟨Nat.le_refl _, by simp [maxLen], by simp, fun h => by cases h⟩, by simp only [IsDts], ht, hts⟩
end Go.Proofs.Ytapnighankepjaa.Da
