/- What is done at each node of a datum that is measured. -/
import Derived.Test.YtapnighankepjaaDatProper2
namespace Go.Proofs.Ytapnighankepjaa.Da
open Go.ChangeShapes Go.WideShapes Go.ChangeAt Go.RowKit

/-- What is wrong with a node that c nodes stand ahead of. -/
def mErr (c : Nat) (d : Dt) (k : Nat) : Int := if 64 < k then 4 else if c = 4096 then 3 else if properB d = true then 0 else 20
/-- The three boxes: how many nodes, how deep, what is wrong. -/
structure Boxes (w : World) (b : Nat) (c dp : Nat) (e : Int) : Prop where
  lt : b + 2 < w.heap.size
  c0 : w.cell? ⟨b, 0, none⟩ = some (.int .i64 (c : Int))
  c1 : w.cell? ⟨b + 1, 0, none⟩ = some (.int .i64 (dp : Int))
  c2 : w.cell? ⟨b + 2, 0, none⟩ = some (.int .i64 e)
  f0 : w.frozen? ⟨b, 0, none⟩ = false
  f1 : w.frozen? ⟨b + 1, 0, none⟩ = false
  f2 : w.frozen? ⟨b + 2, 0, none⟩ = false
def Box3 (b : Nat) (i : Nat) : Prop := b ≤ i ∧ i ≤ b + 2
def SeePost (b c dp : Nat) (d : Dt) (k : Nat) (w : World) (e : Ending) (w' : World) : Prop :=
  e = .returned (.bool (mErr c d k == 0)) ∧ Fr (Box3 b) w w' ∧ Boxes w' b (c + 1) (max dp k) (mErr c d k)
theorem Boxes.keep {w w' : World} {b c dp : Nat} {e : Int} (h : Boxes w b c dp e) (hb : Below (b + 3) w w') : Boxes w' b c dp e :=
  ⟨Nat.lt_of_lt_of_le h.lt hb.size, (hb.cell (p := ⟨b, 0, none⟩) (by show b < b + 3; omega)).trans h.c0, (hb.cell (p := ⟨b + 1, 0, none⟩) (by show b + 1 < b + 3; omega)).trans h.c1, (hb.cell (p := ⟨b + 2, 0, none⟩) (by show b + 2 < b + 3; omega)).trans h.c2,
    (hb.frozen (p := ⟨b, 0, none⟩) (by show b < b + 3; omega)).trans h.f0, (hb.frozen (p := ⟨b + 1, 0, none⟩) (by show b + 1 < b + 3; omega)).trans h.f1, (hb.frozen (p := ⟨b + 2, 0, none⟩) (by show b + 2 < b + 3; omega)).trans h.f2⟩
theorem cell_set_ne (w : World) (p q : Nat) (u : Value) (h : q ≠ p) : (w.setCell ⟨p, 0, none⟩ u).cell? ⟨q, 0, none⟩ = w.cell? ⟨q, 0, none⟩ :=
  World.cell?_setCell_other w ⟨p, 0, none⟩ ⟨q, 0, none⟩ u (fun e => h (by cases e; rfl))
theorem cell_set_eq (w : World) (p : Nat) (u v : Value) (h : w.cell? ⟨p, 0, none⟩ = some v) : (w.setCell ⟨p, 0, none⟩ u).cell? ⟨p, 0, none⟩ = some u :=
  World.cell?_setCell_same' _ _ _ (by rw [h]; rfl)
theorem Boxes.set0 {w : World} {b c dp : Nat} {e : Int} (h : Boxes w b c dp e) (c' : Nat) : Boxes (w.setCell ⟨b, 0, none⟩ (.int .i64 (c' : Int))) b c' dp e :=
  ⟨by simpa [World.setCell] using h.lt, cell_set_eq _ _ _ _ h.c0, (cell_set_ne _ _ _ _ (by omega)).trans h.c1, (cell_set_ne _ _ _ _ (by omega)).trans h.c2,
    by rw [World.frozen?_setCell]; exact h.f0, by rw [World.frozen?_setCell]; exact h.f1, by rw [World.frozen?_setCell]; exact h.f2⟩
theorem Boxes.set1 {w : World} {b c dp : Nat} {e : Int} (h : Boxes w b c dp e) (dp' : Nat) : Boxes (w.setCell ⟨b + 1, 0, none⟩ (.int .i64 (dp' : Int))) b c dp' e :=
  ⟨by simpa [World.setCell] using h.lt, (cell_set_ne _ _ _ _ (by omega)).trans h.c0, cell_set_eq _ _ _ _ h.c1, (cell_set_ne _ _ _ _ (by omega)).trans h.c2,
    by rw [World.frozen?_setCell]; exact h.f0, by rw [World.frozen?_setCell]; exact h.f1, by rw [World.frozen?_setCell]; exact h.f2⟩
theorem Boxes.set2 {w : World} {b c dp : Nat} {e : Int} (h : Boxes w b c dp e) (e' : Int) : Boxes (w.setCell ⟨b + 2, 0, none⟩ (.int .i64 e')) b c dp e' :=
  ⟨by simpa [World.setCell] using h.lt, (cell_set_ne _ _ _ _ (by omega)).trans h.c0, (cell_set_ne _ _ _ _ (by omega)).trans h.c1, cell_set_eq _ _ _ _ h.c2,
    by rw [World.frozen?_setCell]; exact h.f0, by rw [World.frozen?_setCell]; exact h.f1, by rw [World.frozen?_setCell]; exact h.f2⟩
theorem Boxes.alloc {w : World} {b c dp : Nat} {e : Int} (h : Boxes w b c dp e) (o : Obj) : Boxes (w.alloc o) b c dp e :=
  h.keep ((Below.refl _ _).alloc (by have := h.lt; omega) o)
theorem box3_0 (b : Nat) : Box3 b b := ⟨by omega, by omega⟩
theorem box3_1 (b : Nat) : Box3 b (b + 1) := ⟨by omega, by omega⟩
theorem box3_2 (b : Nat) : Box3 b (b + 2) := ⟨by omega, by omega⟩
theorem max_cast (a b : Nat) : (max (a : Int) (b : Int)) = ((max a b : Nat) : Int) := by omega
/-- Behind a wrong node. -/
theorem see_bad {w w1 : World} {b c dp : Nat} {e : Int} (k : Nat) (h : Boxes w1 b c dp e) (hf : Fr (Box3 b) w w1) :
    Fr (Box3 b) w ((w1.setCell ⟨b, 0, none⟩ (.int .i64 ((c : Int) + 1))).setCell ⟨b + 1, 0, none⟩ (.int .i64 (max (dp : Int) (k : Int)))) ∧
    Boxes ((w1.setCell ⟨b, 0, none⟩ (.int .i64 ((c : Int) + 1))).setCell ⟨b + 1, 0, none⟩ (.int .i64 (max (dp : Int) (k : Int)))) b (c + 1) (max dp k) e := by
  refine ⟨(hf.setCell (.inl (box3_0 b)) _).setCell (.inl (box3_1 b)) _, ?_⟩
  rw [max_cast]
  exact (h.set0 (c + 1)).set1 (max dp k)
theorem see_end {w w1 : World} {b c dp : Nat} {d : Dt} {k : Nat} {e : Int} (he : mErr c d k = e) (h : Boxes w1 b c dp e) (hf : Fr (Box3 b) w w1) (z : Bool) (hz : (e == 0) = z) :
    SeePost b c dp d k w (.returned (.bool z)) ((w1.setCell ⟨b, 0, none⟩ (.int .i64 ((c : Int) + 1))).setCell ⟨b + 1, 0, none⟩ (.int .i64 (max (dp : Int) (k : Int)))) := by
  obtain ⟨h1, h2⟩ := see_bad k h hf
  exact ⟨by rw [he, hz], h1, by rw [he]; exact h2⟩
theorem see_post_alloc {w w1 : World} {b c dp : Nat} {d : Dt} {k : Nat} {e : Ending} (o : Obj) (h : SeePost b c dp d k w e w1) : SeePost b c dp d k w e (w1.alloc o) :=
  ⟨h.1, h.2.1.alloc o, h.2.2.alloc o⟩
set_option maxHeartbeats 1000000 in
theorem see_any (d : Dt) (v : Value) (B b c dp k : Nat) (w : World) (h : IsDt w (Lo B) d v) (hB : B ≤ w.heap.size) (hx : Boxes w b c dp 0) (hc : c ≤ 4096) (hk : k ≤ 1000) :
    Calls Try.prog 55 #[v, .int .i64 (k : Int), .pointer (some ⟨b + 2, 0, none⟩), .pointer (some ⟨b, 0, none⟩), .pointer (some ⟨b + 1, 0, none⟩)] w (SeePost b c dp d k w) := by
  have h' := h
  obtain ⟨am, cm, al, cl, at_, ct, rfl, _⟩ := h'.open_
  have H := Lib.hid h
  have HX := Lib.hid hx
  obtain ⟨hlt, c0, c1, c2, f0, f1, f2⟩ := hx
  clear h
  have hb0 : b < w.heap.size := by omega
  have hb1 : b + 1 < w.heap.size := by omega
  by_cases k1 : 64 < (k : Int)
  · have d1 : decide (64 < (k : Int)) = true := by simp [k1]
    have he : mErr c d k = 4 := by unfold mErr; rw [if_pos (by omega)]
    have He := Lib.hid he
    clear he
    go_enter Try.func55, Try.ntmps55
    go_wp2_with fail
    go_ret
    exact see_post_alloc _ (see_end He.out (HX.out.set2 4) ((Fr.refl _ _).setCell (.inl (box3_2 b)) _) _ rfl)
  · have d1 : decide (64 < (k : Int)) = false := by simp [k1]
    by_cases k2 : c = 4096
    · have d2 : ((c : Int) == 4096) = true := by rw [beq_iff_eq]; omega
      have he : mErr c d k = 3 := by unfold mErr; rw [if_neg (by omega), if_pos k2]
      have He := Lib.hid he
      clear he k2
      go_enter Try.func55, Try.ntmps55
      go_wp2_with fail
      go_ret
      exact see_post_alloc _ (see_end He.out (HX.out.set2 3) ((Fr.refl _ _).setCell (.inl (box3_2 b)) _) _ rfl)
    · have d2 : ((c : Int) == 4096) = false := by rw [beq_eq_false_iff_ne]; omega
      cases hp : properB d
      · have he : mErr c d k = 20 := by unfold mErr; rw [if_neg (by omega), if_neg k2, hp]; rfl
        have He := Lib.hid he
        have HP := Lib.hid hp
        clear he k2 hp
        go_enter Try.func55, Try.ntmps55
        go_wp2_with fail
        refine (proper_any d _ B _ (by exact H.out.below ((Below.refl _ _).alloc hB _)) (by exact Nat.le_trans hB (by simp))).mono ?_
        rintro e w1 ⟨rfl, hb⟩
        rw [HP.out]
        have hX1 := (HX.out.alloc _).keep (hb.mono (by simp; omega))
        have HX1 := Lib.hid hX1
        have HF := Lib.hid (((Fr.refl (Box3 b) w).alloc _).trans (Fr.of_bel hb (Box3 b)))
        obtain ⟨_, c10, c11, c12, f10, f11, f12⟩ := hX1
        clear hb c0 c1 c2 f0 f1 f2
        go_wp2_with fail
        go_ret
        exact see_end He.out (HX1.out.set2 20) (HF.out.setCell (.inl (box3_2 b)) _) _ rfl
      · have he : mErr c d k = 0 := by unfold mErr; rw [if_neg (by omega), if_neg k2, hp]; rfl
        have He := Lib.hid he
        have HP := Lib.hid hp
        clear he k2 hp
        go_enter Try.func55, Try.ntmps55
        go_wp2_with fail
        refine (proper_any d _ B _ (by exact H.out.below ((Below.refl _ _).alloc hB _)) (by exact Nat.le_trans hB (by simp))).mono ?_
        rintro e w1 ⟨rfl, hb⟩
        rw [HP.out]
        have hX1 := (HX.out.alloc _).keep (hb.mono (by simp; omega))
        have HX1 := Lib.hid hX1
        have HF := Lib.hid (((Fr.refl (Box3 b) w).alloc _).trans (Fr.of_bel hb (Box3 b)))
        obtain ⟨_, c10, c11, c12, f10, f11, f12⟩ := hX1
        clear hb c0 c1 c2 f0 f1 f2
        go_wp2_with fail
        go_ret
        exact see_end He.out HX1.out HF.out _ rfl
end Go.Proofs.Ytapnighankepjaa.Da
