/- How many nodes a datum has, how deep it goes, what is wrong with it: what the program returns. -/
import Derived.Test.YtapnighankepjaaDatVisit
import Derived.RegionTactic
import Derived.ChangeAlike
import Derived.BigRegion
import Derived.Laws.EntriesVeiled
namespace Go.Proofs.Ytapnighankepjaa.Da
open Go.ChangeShapes Go.WideShapes Go.ChangeAt Go.RowKit

/-- What is wrong with the first wrong node, c nodes being ahead of all. -/
def errOf : Nat → List (Dt × Nat) → Int
  | _, [] => 0
  | c, x :: r => if mErr c x.1 x.2 = 0 then errOf (c + 1) r else mErr c x.1 x.2
def maxD (l : List (Dt × Nat)) : Nat := l.foldl (fun a x => max a x.2) 0
theorem maxD_snoc (l : List (Dt × Nat)) (d : Dt) (k : Nat) : maxD (l ++ [(d, k)]) = max (maxD l) k := by simp [maxD]
theorem errOf_append (a b : List (Dt × Nat)) : ∀ c, errOf c (a ++ b) = if errOf c a = 0 then errOf (c + a.length) b else errOf c a := by
  induction a with
  | nil => intro c; simp [errOf]
  | cons x r ih =>
    intro c
    by_cases h : mErr c x.1 x.2 = 0
    · simp only [List.cons_append, errOf, h, if_true, List.length_cons]
      rw [ih (c + 1), show c + 1 + r.length = c + (r.length + 1) by omega]
    · simp only [List.cons_append, errOf, h, if_false]
theorem errOf_prefix {q l : List (Dt × Nat)} {c : Nat} (h : q <+: l) (he : errOf c q ≠ 0) : errOf c l = errOf c q := by
  obtain ⟨r, rfl⟩ := h
  rw [errOf_append, if_neg he]
theorem mErr_zero {c : Nat} {d : Dt} {k : Nat} (h : mErr c d k = 0) : k ≤ 64 ∧ c ≠ 4096 ∧ properB d = true := by
  unfold mErr at h
  by_cases h1 : 64 < k
  · rw [if_pos h1] at h; omega
  · by_cases h2 : c = 4096
    · rw [if_neg h1, if_pos h2] at h; omega
    · by_cases h3 : properB d = true
      · exact ⟨by omega, h2, h3⟩
      · rw [if_neg h1, if_neg h2, if_neg h3] at h; omega
def MJ (b : Nat) (pre : List (Dt × Nat)) (w : World) : Prop := Boxes w b pre.length (maxD pre) 0 ∧ errOf 0 pre = 0 ∧ pre.length ≤ 4096
def MJx (b : Nat) (q : List (Dt × Nat)) (w : World) : Prop := ∃ c dp, Boxes w b c dp (errOf 0 q) ∧ errOf 0 q ≠ 0
theorem seeIs_measure (B b bs : Nat) (hB : B ≤ b) (hb : b + 2 < bs) : SeeIs 55 (fun x y => #[x, y, .pointer (some ⟨b + 2, 0, none⟩), .pointer (some ⟨b, 0, none⟩), .pointer (some ⟨b + 1, 0, none⟩)]) (Box3 b) B bs (fun _ => True) (MJ b) (MJx b) where
  s i hi := ⟨by have := hi.1; omega, by have := hi.2; omega⟩
  b := by omega
  j pre w w' h hbel := ⟨h.1.keep (hbel.mono (by have := h.1.lt; omega)), h.2⟩
  jx pre w w' h hbel := by
    obtain ⟨c, dp, h1, h2⟩ := h
    exact ⟨c, dp, h1.keep (hbel.mono (by have := h1.lt; omega)), h2⟩
  step pre d k v w _ hk hj hBw hbw hd := by
    obtain ⟨hx, he, hl⟩ := hj
    refine (see_any d v B b pre.length (maxD pre) k w hd hBw hx hl hk).mono ?_
    rintro e w' ⟨rfl, hf, hbx⟩
    have hs : errOf 0 (pre ++ [(d, k)]) = mErr pre.length d k := by
      rw [errOf_append, if_pos he]
      simp only [errOf, Nat.zero_add]
      by_cases h : mErr pre.length d k = 0
      · rw [if_pos h, h]
      · rw [if_neg h]
    by_cases h : mErr pre.length d k = 0
    · have hz := mErr_zero h
      refine ⟨⟨hf, .inl ⟨by rw [h]; rfl, ?_, by rw [hs, h], ?_⟩⟩, fun _ => hz.1⟩
      · rw [maxD_snoc, List.length_append]
        rw [h] at hbx
        exact hbx
      · rw [List.length_append]
        show pre.length + 1 ≤ 4096
        have := hz.2.1
        omega
    · have hne : (mErr pre.length d k == 0) = false := by rw [beq_eq_false_iff_ne]; exact h
      refine ⟨⟨hf, .inr ⟨by rw [hne], [(d, k)], List.prefix_refl _, _, _, by rw [hs]; exact hbx, by rw [hs]; exact h⟩⟩, fun hh => ?_⟩
      rw [hne] at hh
      cases hh
def WalkPost (b : Nat) (d : Dt) (w : World) (e : Ending) (w' : World) : Prop := (∃ v, e = .returned v) ∧ Fr (Box3 b) w w' ∧ (MJ b (nodes d 1) w' ∨ ∃ q, q <+: nodes d 1 ∧ MJx b q w')
theorem walk_measure (B b : Nat) (d : Dt) (v : Value) (w : World) (hd : IsDt w (Lo B) d v) (hB : B ≤ b) (hx : Boxes w b 0 0 0) :
    Calls Try.prog 54 #[v, .func (.func 55) #[] #[.pointer (some ⟨b + 2, 0, none⟩), .pointer (some ⟨b, 0, none⟩), .pointer (some ⟨b + 1, 0, none⟩)]] w (WalkPost b d w) := by
  have hd' := hd
  obtain ⟨am, cm, al, cl, at_, ct, rfl, _⟩ := hd'.open_
  have hlt := hx.lt
  have HD := Lib.hid hd
  have HX := Lib.hid hx
  clear hd hd' hx
  go_enter Try.func54, Try.ntmps54
  go_wp2_with fail
  have hbel : Below w.heap.size w (((w.alloc (.cells #[.int .i64 d.K, .int .i64 d.N, .string d.S, .slice am d.M.length cm, .slice al d.L.length cl, .slice at_ d.T.length ct] 33)).alloc (.cells #[.func (.func 55) #[] #[.pointer (some ⟨b + 2, 0, none⟩), .pointer (some ⟨b, 0, none⟩), .pointer (some ⟨b + 1, 0, none⟩)]] 110)).alloc
      (.cells #[.func (.func 58) #[] #[.pointer (some ⟨w.heap.size + 1, 0, none⟩), .pointer (some ⟨w.heap.size + 1 + 1, 0, none⟩)]] 110)) := (((Below.refl _ _).alloc (Nat.le_refl _) _).alloc (by simp) _).alloc (by simp; omega) _
  refine (visit_measure b (Box3 b) B (w.heap.size + 1) (fun _ => True) (MJ b) (MJx b) (seeIs_measure B b _ hB (by omega)) d 1 1 _ [] _ rfl (fun _ _ => trivial) (by omega) (by exact ⟨HX.out.keep (hbel.mono (by omega)), rfl, by simp⟩) (by exact HD.out.below (hbel.mono (by omega)))
    (by simp [go_sem]) (by simp [go_sem]) (by simp)).mono ?_
  have HF := Lib.hid (Fr.of_bel hbel (Box3 b))
  rintro e w2 ⟨hf, ⟨rfl, hj⟩ | ⟨rfl, q, hq, hjx⟩⟩
  · have HR := Lib.hid (And.intro (HF.out.trans hf) hj)
    clear hf hj hbel
    go_wp2_with fail
    go_end0
    exact ⟨⟨_, rfl⟩, HR.out.1, .inl HR.out.2⟩
  · have HR := Lib.hid (And.intro (HF.out.trans hf) (And.intro hq hjx))
    clear hf hq hjx hbel
    go_wp2_with fail
    go_end0
    exact ⟨⟨_, rfl⟩, HR.out.1, .inr ⟨q, HR.out.2.1, HR.out.2.2⟩⟩
/-- How many nodes, how deep, what is wrong. -/
def meas (d : Dt) : Int × Int × Int := if errOf 0 (nodes d 1) = 0 then (((nodes d 1).length : Int), (maxD (nodes d 1) : Int), 0) else (0, 0, errOf 0 (nodes d 1))
def MeasPost (r : Int × Int × Int) (w : World) (e : Ending) (w' : World) : Prop := e = .returned (.tuple #[.int .i64 r.1, .int .i64 r.2.1, .int .i64 r.2.2]) ∧ Below w.heap.size w w'
set_option maxHeartbeats 400000 in
theorem measure_any (d : Dt) (v : Value) (B : Nat) (w : World) (hd : IsDt w (Lo B) d v) (hB : B ≤ w.heap.size) :
    Calls Try.prog 52 #[v] w (MeasPost (meas d) w) := by
  have hd' := hd
  obtain ⟨am, cm, al, cl, at_, ct, rfl, _⟩ := hd'.open_
  have HD := Lib.hid hd
  clear hd hd'
  go_enter Try.func52, Try.ntmps52
  go_wp2_with fail
  have hbel : Below w.heap.size w ((((w.alloc (.cells #[.int .i64 d.K, .int .i64 d.N, .string d.S, .slice am d.M.length cm, .slice al d.L.length cl, .slice at_ d.T.length ct] 33)).alloc (.cells #[.int .i64 0] 3)).alloc (.cells #[.int .i64 0] 3)).alloc (.cells #[.int .i64 0] 38)) :=
    ((((Below.refl _ _).alloc (Nat.le_refl _) _).alloc (by simp) _).alloc (by simp; omega) _).alloc (by simp; omega) _
  refine (walk_measure B (w.heap.size + 1) d _ _ (by exact HD.out.below (hbel.mono hB)) (by omega) (by exact ⟨by simp, by simp [go_sem], by simp [go_sem], by simp [go_sem], by simp [go_sem], by simp [go_sem], by simp [go_sem]⟩)).mono ?_
  rintro e w2 ⟨⟨rv, rfl⟩, hf, ⟨hbx, hz, _⟩ | ⟨q, hq, c, dp, hbx, hnz⟩⟩
  · have hm : meas d = (((nodes d 1).length : Int), (maxD (nodes d 1) : Int), 0) := by unfold meas; rw [if_pos hz]
    have HM := Lib.hid hm
    have HF := Lib.hid ((Fr.of_bel hbel _).trans hf)
    obtain ⟨h0, h1, h2, h3, h4, h5, h6⟩ := hbx
    clear hm hz hf hbel
    go_wp2_with fail
    go_region
    go_wp2_with fail
    refine bodyPost_ret (v := .tuple #[.int .i64 ((nodes d 1).length : Int), .int .i64 (maxD (nodes d 1) : Int), .int .i64 0]) ?_ rfl ?_
    · simp [results, Try.results52, go_sem, h1, h2, h3]
    exact ⟨by rw [HM.out], ((((HF.out.setCell (.inl (box3_0 _)) _).setCell (.inl (box3_1 _)) _).setCell (.inl (box3_2 _)) _).drew).bel (fun i hi hs => by have := hs.1; omega)⟩
  · have hm : meas d = (0, 0, errOf 0 q) := by unfold meas; rw [errOf_prefix hq hnz, if_neg hnz]
    have hne : (errOf 0 q != 0) = true := by rw [bne_iff_ne]; exact hnz
    obtain ⟨er, her⟩ : ∃ er, errOf 0 q = er := ⟨_, rfl⟩
    rw [her] at hm hne hbx
    have HM := Lib.hid hm
    have HF := Lib.hid ((Fr.of_bel hbel _).trans hf)
    obtain ⟨h0, h1, h2, h3, h4, h5, h6⟩ := hbx
    clear hm hnz hf hbel hq her
    go_wp2_with fail
    go_region
    go_wp2_with fail
    refine bodyPost_ret (v := .tuple #[.int .i64 0, .int .i64 0, .int .i64 er]) ?_ rfl ?_
    · simp [results, Try.results52, go_sem, h1, h2, h3]
    exact ⟨by rw [HM.out], ((((HF.out.setCell (.inl (box3_0 _)) _).setCell (.inl (box3_1 _)) _).setCell (.inl (box3_2 _)) _).drew).bel (fun i hi hs => by have := hs.1; omega)⟩
end Go.Proofs.Ytapnighankepjaa.Da
