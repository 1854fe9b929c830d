/- Whether two data are the same: what the program answers. -/
import Derived.Test.YtapnighankepjaaDatAwake
import Derived.Test.YtapnighankepjaaShelf
namespace Go.Proofs.Ytapnighankepjaa.Da
open Go.ChangeShapes Go.WideShapes Go.ChangeAt Go.RowKit

mutual
def eqD : Dt → Dt → Bool
  | .mk k n s m l t, b => k == b.K && (n == b.N && (s.toList == b.S.toList && (m == b.M && (eqL l b.L && eqL t b.T))))
def eqL : List Dt → List Dt → Bool
  | [], [] => true
  | x :: r, y :: q => eqD x y && eqL r q
  | _, _ => false
end
theorem eqD_eq (a b : Dt) : eqD a b = (a.K == b.K && (a.N == b.N && (a.S.toList == b.S.toList && (a.M == b.M && (eqL a.L b.L && eqL a.T b.T))))) := by
  cases a; simp only [eqD, Dt.K, Dt.N, Dt.S, Dt.M, Dt.L, Dt.T]
mutual
theorem eqD_refl : ∀ a : Dt, eqD a a = true
  | .mk k n s m l t => by
    simp only [eqD, Dt.K, Dt.N, Dt.S, Dt.M, Dt.L, Dt.T, eqL_refl l, eqL_refl t, beq_self_eq_true, Bool.and_self]
theorem eqL_refl : ∀ l : List Dt, eqL l l = true
  | [] => by simp only [eqL]
  | x :: r => by simp only [eqL, eqD_refl x, eqL_refl r, Bool.and_self]
end
theorem eqL_len : ∀ {l r : List Dt}, eqL l r = true → l.length = r.length
  | [], [], _ => rfl
  | x :: l, y :: r, h => by
    simp only [eqL, Bool.and_eq_true] at h
    rw [List.length_cons, List.length_cons, eqL_len h.2]
  | [], _ :: _, h => by simp [eqL] at h
  | _ :: _, [], h => by simp [eqL] at h
theorem eqL_all : ∀ {l r : List Dt}, l.length = r.length → (∀ (j : Nat) (x y : Dt), l[j]? = some x → r[j]? = some y → eqD x y = true) → eqL l r = true
  | [], [], _, _ => by simp only [eqL]
  | x :: l, y :: r, h, ha => by
    have h1 : l.length = r.length := by simpa using h
    simp only [eqL, ha 0 x y rfl rfl, eqL_all h1 (fun j x y hx hy => ha (j + 1) x y (by simpa using hx) (by simpa using hy)), Bool.and_self]
theorem eqL_not : ∀ {l r : List Dt} {j : Nat} {x y : Dt}, l[j]? = some x → r[j]? = some y → eqD x y = false → eqL l r = false
  | a :: l, b :: r, 0, x, y, hx, hy, h => by
    obtain rfl : a = x := by simpa using hx
    obtain rfl : b = y := by simpa using hy
    simp only [eqL, h, Bool.false_and]
  | a :: l, b :: r, j + 1, x, y, hx, hy, h => by
    simp only [eqL, eqL_not (l := l) (r := r) (j := j) (by simpa using hx) (by simpa using hy) h, Bool.and_false]
  | [], _, _, _, _, hx, _, _ => by simp at hx
  | _ :: _, [], _, _, _, _, hy, _ => by simp at hy
theorem bel_drewN (w : World) (q : Nat) : Below w.heap.size w (w.drewN q) := ⟨rfl, rfl, rfl, Nat.le_refl _, fun _ _ => rfl⟩
def EqAt (W1 : World) (l r : List Dt) (i : Value) (wr : World) : Prop := ∃ j : Nat, j ≤ l.length ∧ i = .int .i64 (j : Int) ∧ Below W1.heap.size W1 wr ∧ ∀ k x y, k < j → l[k]? = some x → r[k]? = some y → eqD x y = true
theorem rows_below {w w' : World} {B : Nat} {a : Option Addr} {n c : Nat} {zs : List Int} (h : IntRow w (Lo B) a n c zs) (hb : Below B w w') : IntRow w' (Lo B) a n c zs := by
  obtain ⟨h1, h2, h3, h4, h5, h6, h7⟩ := h
  refine ⟨h1, h2, h3, h4, h5, h6, fun k hk => ?_⟩
  obtain ⟨b, off, e, hq, hc⟩ := h7 k hk
  exact ⟨b, off, e, hq, (hb.cell (p := ⟨b, off + k, none⟩) hq).trans hc⟩
end Go.Proofs.Ytapnighankepjaa.Da
