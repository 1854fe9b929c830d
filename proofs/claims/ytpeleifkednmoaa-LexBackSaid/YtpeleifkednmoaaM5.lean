/- Two slices of data put together in new memory: what slices.Concat returns. -/
import Derived.RegionTactic
import Derived.ChangeAlike
import Derived.BigRegion
import Derived.Laws.EntriesVeiled
import Derived.Test.YtpeleifkednmoaaM4
import Derived.Test.YtpeleifkednmoaaM3
import Derived.LoopTactic
import Derived.Deep.RegionHeld3
import Derived.Deep.RegionLaw
import Derived.Deep.RegionWith
import Derived.StillTactics
import Derived.Laws.Pointers
import Derived.Test.YtpeleifkednmoaaM2
import Derived.Laws.MakeOwn
import Derived.Shelf.Spec.SlicesGrow
import Derived.Laws.AppendOwnNone
section
namespace Go.Proofs.Ytpeleifkednmoaa.Da
open Go.ChangeShapes Go.WideShapes Go.ChangeAt Go.RowKit

/-- What is wrong with the first wrong node, c nodes being ahead of all. -/
def errOf : Nat → List (Dt × Nat) → Int
  | _, [] => 0
  | c, x :: r => if mErr c x.1 x.2 = 0 then errOf (c + 1) r else mErr c x.1 x.2
def maxD (l : List (Dt × Nat)) : Nat := l.foldl (fun a x => max a x.2) 0
theorem maxD_snoc (l : List (Dt × Nat)) (d : Dt) (k : Nat) : maxD (l ++ [(d, k)]) = max (maxD l) k := by simp [maxD]
theorem errOf_append (a b : List (Dt × Nat)) : ∀ c, errOf c (a ++ b) = if errOf c a = 0 then errOf (c + a.length) b else errOf c a := by
  induction a with
  | nil => intro c; simp [errOf]
  | cons x r ih =>
    intro c
    by_cases h : mErr c x.1 x.2 = 0
    · simp only [List.cons_append, errOf, h, if_true, List.length_cons]
      rw [ih (c + 1), show c + 1 + r.length = c + (r.length + 1) by omega]
    · simp only [List.cons_append, errOf, h, if_false]
theorem errOf_prefix {q l : List (Dt × Nat)} {c : Nat} (h : q <+: l) (he : errOf c q ≠ 0) : errOf c l = errOf c q := by
  obtain ⟨r, rfl⟩ := h
  rw [errOf_append, if_neg he]
theorem mErr_zero {c : Nat} {d : Dt} {k : Nat} (h : mErr c d k = 0) : k ≤ 64 ∧ c ≠ 4096 ∧ properB d = true := by
  unfold mErr at h
  by_cases h1 : 64 < k
  · rw [if_pos h1] at h; omega
  · by_cases h2 : c = 4096
    · rw [if_neg h1, if_pos h2] at h; omega
    · by_cases h3 : properB d = true
      · exact ⟨by omega, h2, h3⟩
      · rw [if_neg h1, if_neg h2, if_neg h3] at h; omega
def MJ (b : Nat) (pre : List (Dt × Nat)) (w : World) : Prop := Boxes w b pre.length (maxD pre) 0 ∧ errOf 0 pre = 0 ∧ pre.length ≤ 4096
def MJx (b : Nat) (q : List (Dt × Nat)) (w : World) : Prop := ∃ c dp, Boxes w b c dp (errOf 0 q) ∧ errOf 0 q ≠ 0
theorem seeIs_measure (B b bs : Nat) (hB : B ≤ b) (hb : b + 2 < bs) : SeeIs 57 (fun x y => #[x, y, .pointer (some ⟨b + 2, 0, none⟩), .pointer (some ⟨b, 0, none⟩), .pointer (some ⟨b + 1, 0, none⟩)]) (Box3 b) B bs (fun _ => True) (MJ b) (MJx b) where
  s i hi := ⟨by have := hi.1; omega, by have := hi.2; omega⟩
  b := by omega
  j pre w w' h hbel := ⟨h.1.keep (hbel.mono (by have := h.1.lt; omega)), h.2⟩
  jx pre w w' h hbel := by
    obtain ⟨c, dp, h1, h2⟩ := h
    exact ⟨c, dp, h1.keep (hbel.mono (by have := h1.lt; omega)), h2⟩
  step pre d k v w _ hk hj hBw hbw hd := by
    obtain ⟨hx, he, hl⟩ := hj
    refine (see_any d v B b pre.length (maxD pre) k w hd hBw hx hl hk).mono ?_
    rintro e w' ⟨rfl, hf, hbx⟩
    have hs : errOf 0 (pre ++ [(d, k)]) = mErr pre.length d k := by
      rw [errOf_append, if_pos he]
      simp only [errOf, Nat.zero_add]
      by_cases h : mErr pre.length d k = 0
      · rw [if_pos h, h]
      · rw [if_neg h]
    by_cases h : mErr pre.length d k = 0
    · have hz := mErr_zero h
      refine ⟨⟨hf, .inl ⟨by rw [h]; rfl, ?_, by rw [hs, h], ?_⟩⟩, fun _ => hz.1⟩
      · rw [maxD_snoc, List.length_append]
        rw [h] at hbx
        exact hbx
      · rw [List.length_append]
        show pre.length + 1 ≤ 4096
        have := hz.2.1
        omega
    · have hne : (mErr pre.length d k == 0) = false := by rw [beq_eq_false_iff_ne]; exact h
      refine ⟨⟨hf, .inr ⟨by rw [hne], [(d, k)], List.prefix_refl _, _, _, by rw [hs]; exact hbx, by rw [hs]; exact h⟩⟩, fun hh => ?_⟩
      rw [hne] at hh
      cases hh
def WalkPost (b : Nat) (d : Dt) (w : World) (e : Ending) (w' : World) : Prop := (∃ v, e = .returned v) ∧ Fr (Box3 b) w w' ∧ (MJ b (nodes d 1) w' ∨ ∃ q, q <+: nodes d 1 ∧ MJx b q w')
theorem walk_measure (B b : Nat) (d : Dt) (v : Value) (w : World) (hd : IsDt w (Lo B) d v) (hB : B ≤ b) (hx : Boxes w b 0 0 0) :
    Calls Try.prog 56 #[v, .func (.func 57) #[] #[.pointer (some ⟨b + 2, 0, none⟩), .pointer (some ⟨b, 0, none⟩), .pointer (some ⟨b + 1, 0, none⟩)]] w (WalkPost b d w) := by
  have hd' := hd
  obtain ⟨am, cm, al, cl, at_, ct, rfl, _⟩ := hd'.open_
  have hlt := hx.lt
  have HD := Lib.hid hd
  have HX := Lib.hid hx
  clear hd hd' hx
  go_enter Try.func56, Try.ntmps56
  go_wp2_with fail
  have hbel : Below w.heap.size w (((w.alloc (.cells #[.int .i64 d.K, .int .i64 d.N, .string d.S, .slice am d.M.length cm, .slice al d.L.length cl, .slice at_ d.T.length ct] 43)).alloc (.cells #[.func (.func 57) #[] #[.pointer (some ⟨b + 2, 0, none⟩), .pointer (some ⟨b, 0, none⟩), .pointer (some ⟨b + 1, 0, none⟩)]] 84)).alloc
      (.cells #[.func (.func 72) #[] #[.pointer (some ⟨w.heap.size + 1, 0, none⟩), .pointer (some ⟨w.heap.size + 1 + 1, 0, none⟩)]] 84)) := (((Below.refl _ _).alloc (Nat.le_refl _) _).alloc (by simp) _).alloc (by simp; omega) _
  refine (visit_measure b (Box3 b) B (w.heap.size + 1) (fun _ => True) (MJ b) (MJx b) (seeIs_measure B b _ hB (by omega)) d 1 1 _ [] _ rfl (fun _ _ => trivial) (by omega) (by exact ⟨HX.out.keep (hbel.mono (by omega)), rfl, by simp⟩) (by exact HD.out.below (hbel.mono (by omega)))
    (by simp [go_sem]) (by simp [go_sem]) (by simp)).mono ?_
  have HF := Lib.hid (Fr.of_bel hbel (Box3 b))
  rintro e w2 ⟨hf, ⟨rfl, hj⟩ | ⟨rfl, q, hq, hjx⟩⟩
  · have HR := Lib.hid (And.intro (HF.out.trans hf) hj)
    clear hf hj hbel
    go_wp2_with fail
    go_end0
    exact ⟨⟨_, rfl⟩, HR.out.1, .inl HR.out.2⟩
  · have HR := Lib.hid (And.intro (HF.out.trans hf) (And.intro hq hjx))
    clear hf hq hjx hbel
    go_wp2_with fail
    go_end0
    exact ⟨⟨_, rfl⟩, HR.out.1, .inr ⟨q, HR.out.2.1, HR.out.2.2⟩⟩
/-- How many nodes, how deep, what is wrong. -/
def meas (d : Dt) : Int × Int × Int := if errOf 0 (nodes d 1) = 0 then (((nodes d 1).length : Int), (maxD (nodes d 1) : Int), 0) else (0, 0, errOf 0 (nodes d 1))
def MeasPost (r : Int × Int × Int) (w : World) (e : Ending) (w' : World) : Prop := e = .returned (.tuple #[.int .i64 r.1, .int .i64 r.2.1, .int .i64 r.2.2]) ∧ Below w.heap.size w w'
set_option maxHeartbeats 400000 in
theorem measure_any (d : Dt) (v : Value) (B : Nat) (w : World) (hd : IsDt w (Lo B) d v) (hB : B ≤ w.heap.size) :
    Calls Try.prog 30 #[v] w (MeasPost (meas d) w) := by
  have hd' := hd
  obtain ⟨am, cm, al, cl, at_, ct, rfl, _⟩ := hd'.open_
  have HD := Lib.hid hd
  clear hd hd'
  go_enter Try.func30, Try.ntmps30
  go_wp2_with fail
  have hbel : Below w.heap.size w ((((w.alloc (.cells #[.int .i64 d.K, .int .i64 d.N, .string d.S, .slice am d.M.length cm, .slice al d.L.length cl, .slice at_ d.T.length ct] 43)).alloc (.cells #[.int .i64 0] 3)).alloc (.cells #[.int .i64 0] 3)).alloc (.cells #[.int .i64 0] 27)) :=
    ((((Below.refl _ _).alloc (Nat.le_refl _) _).alloc (by simp) _).alloc (by simp; omega) _).alloc (by simp; omega) _
  refine (walk_measure B (w.heap.size + 1) d _ _ (by exact HD.out.below (hbel.mono hB)) (by omega) (by exact ⟨by simp, by simp [go_sem], by simp [go_sem], by simp [go_sem], by simp [go_sem], by simp [go_sem], by simp [go_sem]⟩)).mono ?_
  rintro e w2 ⟨⟨rv, rfl⟩, hf, ⟨hbx, hz, _⟩ | ⟨q, hq, c, dp, hbx, hnz⟩⟩
  · have hm : meas d = (((nodes d 1).length : Int), (maxD (nodes d 1) : Int), 0) := by unfold meas; rw [if_pos hz]
    have HM := Lib.hid hm
    have HF := Lib.hid ((Fr.of_bel hbel _).trans hf)
    obtain ⟨h0, h1, h2, h3, h4, h5, h6⟩ := hbx
    clear hm hz hf hbel
    go_wp2_with fail
    go_region
    go_wp2_with fail
    refine bodyPost_ret (v := .tuple #[.int .i64 ((nodes d 1).length : Int), .int .i64 (maxD (nodes d 1) : Int), .int .i64 0]) ?_ rfl ?_
    · simp [results, Try.results30, go_sem, h1, h2, h3]
    exact ⟨by rw [HM.out], ((((HF.out.setCell (.inl (box3_0 _)) _).setCell (.inl (box3_1 _)) _).setCell (.inl (box3_2 _)) _).drew).bel (fun i hi hs => by have := hs.1; omega)⟩
  · have hm : meas d = (0, 0, errOf 0 q) := by unfold meas; rw [errOf_prefix hq hnz, if_neg hnz]
    have hne : (errOf 0 q != 0) = true := by rw [bne_iff_ne]; exact hnz
    obtain ⟨er, her⟩ : ∃ er, errOf 0 q = er := ⟨_, rfl⟩
    rw [her] at hm hne hbx
    have HM := Lib.hid hm
    have HF := Lib.hid ((Fr.of_bel hbel _).trans hf)
    obtain ⟨h0, h1, h2, h3, h4, h5, h6⟩ := hbx
    clear hm hnz hf hbel hq her
    go_wp2_with fail
    go_region
    go_wp2_with fail
    refine bodyPost_ret (v := .tuple #[.int .i64 0, .int .i64 0, .int .i64 er]) ?_ rfl ?_
    · simp [results, Try.results30, go_sem, h1, h2, h3]
    exact ⟨by rw [HM.out], ((((HF.out.setCell (.inl (box3_0 _)) _).setCell (.inl (box3_1 _)) _).setCell (.inl (box3_2 _)) _).drew).bel (fun i hi hs => by have := hs.1; omega)⟩
end Go.Proofs.Ytpeleifkednmoaa.Da
end
section
namespace Go.Proofs.Ytpeleifkednmoaa.Da
open Go.ChangeShapes Go.WideShapes Go.ChangeAt Go.RowKit

def sizeD (d : Dt) : Int := (meas d).1
def deepD (d : Dt) : Int := (meas d).2.1
def chk (d : Dt) : Int := (meas d).2.2
theorem check_any (d : Dt) (v : Value) (B : Nat) (w : World) (hd : IsDt w (Lo B) d v) (hB : B ≤ w.heap.size) :
    Calls Try.prog 15 #[v] w fun e w' => e = .returned (.int .i64 (chk d)) ∧ Below w.heap.size w w' := by
  have hd' := hd
  obtain ⟨am, cm, al, cl, at_, ct, rfl, _⟩ := hd'.open_
  have HD := Lib.hid hd
  clear hd hd'
  go_enter Try.func15, Try.ntmps15
  go_wp2_with fail
  refine (measure_any d _ B _ (by exact HD.out.below ((Below.refl _ _).alloc hB _)) (by simp; omega)).mono ?_
  rintro e w' ⟨rfl, hb⟩
  have HB := Lib.hid hb
  clear hb
  go_wp2_with fail
  go_ret
  exact ⟨rfl, bel_trans (bel_alloc _ _) HB.out⟩
end Go.Proofs.Ytpeleifkednmoaa.Da
end
section
namespace Go.Proofs.Ytpeleifkednmoaa.Da
open Go.ChangeShapes Go.WideShapes Go.ChangeAt Go.RowKit

def Rg (lo hi : Nat) : Nat → Prop := fun b => lo ≤ b ∧ b < hi
/-- A slice of numbers in a row of its own, or nil. -/
def OwnI (w : World) (lo hi : Nat) (a : Option Addr) (len cap : Nat) (zs : List Int) : Prop :=
  IntRow w (Rg lo hi) a len cap zs ∧ ∀ ad, a = some ad → ∃ g, ad = ⟨g, 0, none⟩ ∧ lo ≤ g ∧ g < hi ∧ ∀ j, w.frozen? ⟨g, j, none⟩ = false
/-- A slice of data in a row of its own, or nil. -/
def OwnSl (w : World) (lo hi : Nat) (a : Option Addr) (len cap : Nat) : Prop :=
  (a = none ∧ len = 0 ∧ cap = 0) ∨ ∃ g, a = some ⟨g, 0, none⟩ ∧ lo ≤ g ∧ g < hi ∧ len ≤ cap ∧ cap ≤ maxLen ∧ len * 104 ≤ 140737488351232 ∧ ∀ j, w.frozen? ⟨g, j, none⟩ = false
def nx : Option Addr → Nat | some a => a.block + 1 | none => 0
mutual
def OwnDt (w : World) : Dt → Nat → Nat → Value → Prop
  | .mk k n s m l t, lo, hi, v => (Lit.int .i64 k).wf = true ∧ (Lit.int .i64 n).wf = true ∧ s.size ≤ maxLen ∧
    ∃ am cm al cl at_ ct h1 h2, v = .agg #[.int .i64 k, .int .i64 n, .string s, .slice am m.length cm, .slice al l.length cl, .slice at_ t.length ct] ∧ lo ≤ h1 ∧ h1 ≤ h2 ∧ h2 ≤ hi ∧
      OwnI w lo h1 am m.length cm m ∧ OwnSl w h1 h2 al l.length cl ∧ OwnDts w h2 al l 0 (nx al) ∧ OwnSl w h2 hi at_ t.length ct ∧ OwnDts w hi at_ t 0 (nx at_)
def OwnDts (w : World) (hi : Nat) (a : Option Addr) : List Dt → Nat → Nat → Prop
  | [], _, _ => True
  | d :: r, i, lo => (∃ mid g x0 x1 x2 x3 x4 x5, a = some ⟨g, 0, none⟩ ∧ g < lo ∧ lo ≤ mid ∧ mid ≤ hi ∧ Six w g (i * 6) x0 x1 x2 x3 x4 x5 ∧ OwnDt w d lo mid (.agg #[x0, x1, x2, x3, x4, x5]) ∧ OwnDts w hi a r (i + 1) mid)
end
/-- Two worlds are one at these blocks. -/
def Eqv (w w' : World) (P : Nat → Prop) : Prop := ∀ b, P b → ∀ o, w'.cell? ⟨b, o, none⟩ = w.cell? ⟨b, o, none⟩ ∧ w'.frozen? ⟨b, o, none⟩ = w.frozen? ⟨b, o, none⟩
theorem Eqv.of_fr {S : Nat → Prop} {w w' : World} (h : Fr S w w') : Eqv w w' (fun b => b < w.heap.size ∧ ¬ S b) :=
  fun b hb o => ⟨h.cell (p := ⟨b, o, none⟩) hb.1 hb.2, h.frozen (p := ⟨b, o, none⟩) hb.1 hb.2⟩
theorem Eqv.mono {w w' : World} {P P' : Nat → Prop} (h : Eqv w w' P) (hp : ∀ b, P' b → P b) : Eqv w w' P' := fun b hb => h b (hp b hb)
theorem OwnI.keep {w w' : World} {lo hi : Nat} {a : Option Addr} {len cap : Nat} {zs : List Int} (h : OwnI w lo hi a len cap zs) (hk : Eqv w w' (Rg lo hi)) : OwnI w' lo hi a len cap zs :=
  ⟨h.1.keep (fun _ h => h) (fun b o hb => (hk b hb o).1), fun ad ha => by
    obtain ⟨g, e, h1, h2, h3⟩ := h.2 ad ha
    exact ⟨g, e, h1, h2, fun j => ((hk g ⟨h1, h2⟩ j).2).trans (h3 j)⟩⟩
theorem OwnI.wide {w : World} {lo hi lo' hi' : Nat} {a : Option Addr} {len cap : Nat} {zs : List Int} (h : OwnI w lo hi a len cap zs) (h1 : lo' ≤ lo) (h2 : hi ≤ hi') : OwnI w lo' hi' a len cap zs :=
  ⟨h.1.keep (fun _ h => ⟨Nat.le_trans h1 h.1, Nat.lt_of_lt_of_le h.2 h2⟩) (fun _ _ _ => rfl), fun ad ha => by
    obtain ⟨g, e, h3, h4, h5⟩ := h.2 ad ha
    exact ⟨g, e, by omega, by omega, h5⟩⟩
theorem OwnSl.keep {w w' : World} {lo hi : Nat} {a : Option Addr} {len cap : Nat} (h : OwnSl w lo hi a len cap) (hk : Eqv w w' (Rg lo hi)) : OwnSl w' lo hi a len cap := by
  rcases h with h | ⟨g, h1, h2, h3, h4, h5, h6, h7⟩
  · exact .inl h
  · exact .inr ⟨g, h1, h2, h3, h4, h5, h6, fun j => ((hk g ⟨h2, h3⟩ j).2).trans (h7 j)⟩
theorem OwnSl.wide {w : World} {lo hi lo' hi' : Nat} {a : Option Addr} {len cap : Nat} (h : OwnSl w lo hi a len cap) (h1 : lo' ≤ lo) (h2 : hi ≤ hi') : OwnSl w lo' hi' a len cap := by
  rcases h with h | ⟨g, e1, e2, e3, r⟩
  · exact .inl h
  · exact .inr ⟨g, e1, by omega, by omega, r⟩
theorem OwnSl.sl {w : World} {lo hi : Nat} {a : Option Addr} {len cap : Nat} (h : OwnSl w lo hi a len cap) : IsSl a len cap := by
  rcases h with ⟨rfl, rfl, rfl⟩ | ⟨g, rfl, _, _, h4, h5, h6, _⟩
  · exact ⟨Nat.le_refl _, by simp [maxLen], by omega, fun _ => rfl⟩
  · exact ⟨h4, h5, h6, fun h => by cases h⟩
mutual
theorem OwnDt.keep {w w' : World} : ∀ (d : Dt) (lo hi : Nat) (v : Value), Eqv w w' (Rg lo hi) → OwnDt w d lo hi v → OwnDt w' d lo hi v
  | .mk k n s m l t, lo, hi, v, hk, h => by
    simp only [OwnDt] at h ⊢
    obtain ⟨h1, h2, h3, am, cm, al, cl, at_, ct, m1, m2, hv, o1, o2, o3, hm, hl, hls, ht, hts⟩ := h
    have k1 : Eqv w w' (Rg lo m1) := hk.mono fun b hb => ⟨hb.1, by have := hb.2; omega⟩
    have k2 : Eqv w w' (Rg m1 m2) := hk.mono fun b hb => ⟨by have := hb.1; omega, by have := hb.2; omega⟩
    have k3 : Eqv w w' (Rg m2 hi) := hk.mono fun b hb => ⟨by have := hb.1; omega, hb.2⟩
    refine ⟨h1, h2, h3, am, cm, al, cl, at_, ct, m1, m2, hv, o1, o2, o3, hm.keep k1, hl.keep k2, ?_, ht.keep k3, ?_⟩
    · rcases hl with ⟨rfl, hz, _⟩ | ⟨g, rfl, g1, g2, _⟩
      · obtain rfl := List.eq_nil_of_length_eq_zero hz
        simp only [OwnDts]
      · exact OwnDts.keep l 0 _ m2 _ (k2.mono fun b hb => by
          rcases hb with hb | ⟨hb1, hb2⟩
          · injection hb with hb; injection hb with hb; subst hb; exact ⟨g1, g2⟩
          · simp only [nx] at hb1; exact ⟨by omega, hb2⟩) hls
    · rcases ht with ⟨rfl, hz, _⟩ | ⟨g, rfl, g1, g2, _⟩
      · obtain rfl := List.eq_nil_of_length_eq_zero hz
        simp only [OwnDts]
      · exact OwnDts.keep t 0 _ hi _ (k3.mono fun b hb => by
          rcases hb with hb | ⟨hb1, hb2⟩
          · injection hb with hb; injection hb with hb; subst hb; exact ⟨g1, g2⟩
          · simp only [nx] at hb1; exact ⟨by omega, hb2⟩) hts
theorem OwnDts.keep {w w' : World} : ∀ (l : List Dt) (i lo hi : Nat) (a : Option Addr), Eqv w w' (fun b => a = some ⟨b, 0, none⟩ ∨ Rg lo hi b) → OwnDts w hi a l i lo → OwnDts w' hi a l i lo
  | [], _, _, _, _, _, _ => by simp only [OwnDts]
  | d :: r, i, lo, hi, a, hk, h => by
    simp only [OwnDts] at h ⊢
    obtain ⟨mid, g, x0, x1, x2, x3, x4, x5, ha, h0, h1, h2, hs, hd, hr⟩ := h
    exact ⟨mid, g, x0, x1, x2, x3, x4, x5, ha, h0, h1, h2, hs.keep (fun o => (hk g (.inl ha) o).1), OwnDt.keep d lo mid _ (hk.mono fun b hb => .inr ⟨hb.1, by have := hb.2; omega⟩) hd,
      OwnDts.keep r (i + 1) mid hi a (hk.mono fun b hb => by
        rcases hb with hb | hb
        · exact .inl hb
        · exact .inr ⟨by have := hb.1; omega, hb.2⟩) hr⟩
end
end Go.Proofs.Ytpeleifkednmoaa.Da
end
section
namespace Go.Proofs.Ytpeleifkednmoaa.Da
open Go.ChangeShapes Go.WideShapes Go.ChangeAt Go.RowKit

theorem OwnDts.hi {w : World} : ∀ (l : List Dt) (i lo hi hi' : Nat) (a : Option Addr), hi ≤ hi' → OwnDts w hi a l i lo → OwnDts w hi' a l i lo
  | [], _, _, _, _, _, _, _ => by simp only [OwnDts]
  | d :: r, i, lo, hi, hi', a, hh, h => by
    simp only [OwnDts] at h ⊢
    obtain ⟨mid, g, x0, x1, x2, x3, x4, x5, ha, h0, h1, h2, hs, hd, hr⟩ := h
    exact ⟨mid, g, x0, x1, x2, x3, x4, x5, ha, h0, h1, by omega, hs, hd, OwnDts.hi r (i + 1) mid hi hi' a hh hr⟩
theorem OwnDt.wide {w : World} (d : Dt) {lo hi lo' hi' : Nat} {v : Value} (h : OwnDt w d lo hi v) (h1 : lo' ≤ lo) (h2 : hi ≤ hi') : OwnDt w d lo' hi' v := by
  cases d with
  | mk k n s m l t =>
    simp only [OwnDt] at h ⊢
    obtain ⟨e1, e2, e3, am, cm, al, cl, at_, ct, m1, m2, hv, o1, o2, o3, hm, hl, hls, ht, hts⟩ := h
    exact ⟨e1, e2, e3, am, cm, al, cl, at_, ct, m1, m2, hv, by omega, o2, by omega, hm.wide h1 (Nat.le_refl _), hl, hls, ht.wide (Nat.le_refl _) h2, OwnDts.hi t 0 _ hi hi' at_ h2 hts⟩
theorem OwnDts.snoc {w : World} {g : Nat} {d : Dt} {x0 x1 x2 x3 x4 x5 : Value} {mid hi : Nat} : ∀ (l : List Dt) (i lo : Nat), OwnDts w mid (some ⟨g, 0, none⟩) l i lo → g < lo → lo ≤ mid → mid ≤ hi →
    Six w g ((i + l.length) * 6) x0 x1 x2 x3 x4 x5 → OwnDt w d mid hi (.agg #[x0, x1, x2, x3, x4, x5]) → OwnDts w hi (some ⟨g, 0, none⟩) (l ++ [d]) i lo
  | [], i, lo, _, hg, h1, h2, hs, hd => by
    simp only [List.nil_append, OwnDts]
    exact ⟨hi, g, x0, x1, x2, x3, x4, x5, rfl, hg, by omega, Nat.le_refl _, by simpa using hs, hd.wide d h1 (Nat.le_refl _), trivial⟩
  | y :: r, i, lo, h, hg, h1, h2, hs, hd => by
    simp only [List.cons_append, OwnDts] at h ⊢
    obtain ⟨mid', g', y0, y1, y2, y3, y4, y5, ha, e0, e1, e2, es, ed, er⟩ := h
    refine ⟨mid', g', y0, y1, y2, y3, y4, y5, ha, e0, e1, by omega, es, ed, OwnDts.snoc r (i + 1) mid' er (by omega) e2 h2 ?_ hd⟩
    rwa [show i + 1 + r.length = i + (y :: r).length by simp; omega]
mutual
theorem OwnDt.isDt {w : World} : ∀ (d : Dt) (lo hi : Nat) (v : Value), OwnDt w d lo hi v → IsDt w (Rg lo hi) d v
  | .mk k n s m l t, lo, hi, v, h => by
    simp only [OwnDt, IsDt] at h ⊢
    obtain ⟨h1, h2, h3, am, cm, al, cl, at_, ct, m1, m2, hv, o1, o2, o3, hm, hl, hls, ht, hts⟩ := h
    refine ⟨h1, h2, h3, am, cm, al, cl, at_, ct, hv, hm.1.keep (fun b hb => ⟨hb.1, by have := hb.2; omega⟩) (fun _ _ _ => rfl), hl.sl, ?_, ht.sl, ?_⟩
    · rcases hl with ⟨rfl, hz, _⟩ | ⟨g, rfl, g1, g2, _⟩
      · obtain rfl := List.eq_nil_of_length_eq_zero hz
        simp only [IsDts]
      · refine OwnDts.isDts l 0 _ m2 _ (Rg lo hi) (fun b hb => ?_) hls
        rcases hb with hb | ⟨hb1, hb2⟩
        · injection hb with hb; injection hb with hb; subst hb; exact ⟨by omega, by omega⟩
        · simp only [nx] at hb1; exact ⟨by omega, by omega⟩
    · rcases ht with ⟨rfl, hz, _⟩ | ⟨g, rfl, g1, g2, _⟩
      · obtain rfl := List.eq_nil_of_length_eq_zero hz
        simp only [IsDts]
      · refine OwnDts.isDts t 0 _ hi _ (Rg lo hi) (fun b hb => ?_) hts
        rcases hb with hb | ⟨hb1, hb2⟩
        · injection hb with hb; injection hb with hb; subst hb; exact ⟨by omega, by omega⟩
        · simp only [nx] at hb1; exact ⟨by omega, by omega⟩
theorem OwnDts.isDts {w : World} : ∀ (l : List Dt) (i lo hi : Nat) (a : Option Addr) (Q : Nat → Prop), (∀ b, (a = some ⟨b, 0, none⟩ ∨ Rg lo hi b) → Q b) → OwnDts w hi a l i lo → IsDts w Q a i l
  | [], _, _, _, _, _, _, _ => by simp only [IsDts]
  | d :: r, i, lo, hi, a, Q, hQ, h => by
    simp only [OwnDts, IsDts] at h ⊢
    obtain ⟨mid, g, x0, x1, x2, x3, x4, x5, ha, h0, h1, h2, hs, hd, hr⟩ := h
    refine ⟨⟨g, 0, x0, x1, x2, x3, x4, x5, ha, hQ g (.inl ha), by simpa using hs, (OwnDt.isDt d lo mid _ hd).more fun b hb => hQ b (.inr ⟨hb.1, by have := hb.2; omega⟩)⟩, OwnDts.isDts r (i + 1) mid hi a Q (fun b hb => hQ b ?_) hr⟩
    rcases hb with hb | hb
    · exact .inl hb
    · exact .inr ⟨by have := hb.1; omega, hb.2⟩
end
/-- A copy of a slice of marks. -/
def CloneI (w : World) (len : Nat) (zs : List Int) (e : Ending) (w' : World) : Prop :=
  ∃ a' c', e = .returned (.slice a' len c') ∧ OwnI w' w.heap.size w'.heap.size a' len c' zs ∧ Below w.heap.size w w'
theorem ownI_of_row {w w' : World} {v : Value} {n : Nat} {zs : List Int} (h : w'.ownsRow w.heap.size 3 1 v n (zs.map (Value.int .i64))) (hv : v ≠ .slice none 0 0) (hl : zs.length = n) (hn : n * 8 ≤ 140737488351232) (hz : ∀ z ∈ zs, (Lit.int .i64 z).wf = true) :
    ∃ a' c', v = .slice a' n c' ∧ OwnI w' w.heap.size w'.heap.size a' n c' zs := by
  obtain ⟨g, cap, rfl, hb, hlt, hnc, hcm⟩ := own_form h hv
  refine ⟨_, cap, rfl, ⟨hl, hnc, hcm, hn, (fun h => by cases h), hz, fun k hk => ⟨g, 0, rfl, ⟨hb, hlt⟩, ?_⟩⟩, fun ad ha => ?_⟩
  · rw [Nat.zero_add, h.cellAt k (by omega)]
    simp [hl, hk]
  · injection ha with ha
    subst ha
    exact ⟨g, rfl, hb, hlt, fun j => h.frozenAt j⟩
end Go.Proofs.Ytpeleifkednmoaa.Da
end
section
namespace Go.Proofs.Ytpeleifkednmoaa.Da
open Go.ChangeShapes Go.WideShapes Go.ChangeAt Go.RowKit

mutual
/-- How many nodes a datum has. -/
def cnt : Dt → Nat
  | .mk _ _ _ _ l t => 1 + (cntL l + cntL t)
def cntL : List Dt → Nat
  | [] => 0
  | d :: r => cnt d + cntL r
end
theorem cnt_eq (d : Dt) : cnt d = 1 + (cntL d.L + cntL d.T) := by cases d; simp only [cnt, Dt.L, Dt.T]
mutual
theorem nodes_len : ∀ (d : Dt) (i : Nat), (nodes d i).length = cnt d
  | .mk k n s m l t, i => by
    simp only [nodes, cnt, List.length_cons, List.length_append, nodesL_len l, nodesL_len t]
    omega
theorem nodesL_len : ∀ (l : List Dt) (i : Nat), (nodesL l i).length = cntL l
  | [], _ => by simp only [nodesL, cntL, List.length_nil]
  | d :: r, i => by simp only [nodesL, cntL, List.length_append, nodes_len d, nodesL_len r]
end
theorem cntL_append (a b : List Dt) : cntL (a ++ b) = cntL a + cntL b := by
  induction a with
  | nil => simp [cntL]
  | cons x r ih => simp only [List.cons_append, cntL, ih]; omega
theorem take_snoc_dt (l : List Dt) (k : Nat) (d : Dt) (h : l[k]? = some d) : l.take (k + 1) = l.take k ++ [d] := by
  rw [List.take_add_one, h]; rfl
theorem cntL_snoc (l : List Dt) (k : Nat) (d : Dt) (h : l[k]? = some d) : cntL (l.take (k + 1)) = cntL (l.take k) + cnt d := by
  rw [take_snoc_dt l k d h, cntL_append]; simp [cntL]
/-- The blocks of Q, and those that are new. -/
def Nw (w0 w' : World) (Q : Nat → Prop) : Nat → Prop := fun b => Q b ∨ (w0.heap.size ≤ b ∧ b < w'.heap.size)
/-- Six stores in a row. -/
def set6 (w : World) (g o : Nat) (x0 x1 x2 x3 x4 x5 : Value) : World :=
  (((((w.setCell ⟨g, o, none⟩ x0).setCell ⟨g, o + 1, none⟩ x1).setCell ⟨g, o + 2, none⟩ x2).setCell ⟨g, o + 3, none⟩ x3).setCell ⟨g, o + 4, none⟩ x4).setCell ⟨g, o + 5, none⟩ x5
theorem set_ne (w : World) (g o g' o' : Nat) (u : Value) (h : g' ≠ g ∨ o' ≠ o) : (w.setCell ⟨g, o, none⟩ u).cell? ⟨g', o', none⟩ = w.cell? ⟨g', o', none⟩ :=
  World.cell?_setCell_other w ⟨g, o, none⟩ ⟨g', o', none⟩ u (fun e => by cases e; simp at h)
theorem set_eq (w : World) (g o : Nat) (u v : Value) (h : w.cell? ⟨g, o, none⟩ = some v) : (w.setCell ⟨g, o, none⟩ u).cell? ⟨g, o, none⟩ = some u :=
  World.cell?_setCell_same' _ _ _ (by rw [h]; rfl)
theorem set6_ne (w : World) (g o g' o' : Nat) (x0 x1 x2 x3 x4 x5 : Value) (h : g' ≠ g ∨ o' < o ∨ o + 6 ≤ o') : (set6 w g o x0 x1 x2 x3 x4 x5).cell? ⟨g', o', none⟩ = w.cell? ⟨g', o', none⟩ := by
  unfold set6
  rw [set_ne _ _ _ _ _ _ (by omega), set_ne _ _ _ _ _ _ (by omega), set_ne _ _ _ _ _ _ (by omega), set_ne _ _ _ _ _ _ (by omega), set_ne _ _ _ _ _ _ (by omega), set_ne _ _ _ _ _ _ (by omega)]
theorem set6_six (w : World) (g o : Nat) (x0 x1 x2 x3 x4 x5 : Value) (h : ∀ r, r < 6 → ∃ u, w.cell? ⟨g, o + r, none⟩ = some u) : Six (set6 w g o x0 x1 x2 x3 x4 x5) g o x0 x1 x2 x3 x4 x5 := by
  obtain ⟨u0, h0⟩ := h 0 (by omega)
  obtain ⟨u1, h1⟩ := h 1 (by omega)
  obtain ⟨u2, h2⟩ := h 2 (by omega)
  obtain ⟨u3, h3⟩ := h 3 (by omega)
  obtain ⟨u4, h4⟩ := h 4 (by omega)
  obtain ⟨u5, h5⟩ := h 5 (by omega)
  rw [Nat.add_zero] at h0
  unfold set6
  refine ⟨?_, ?_, ?_, ?_, ?_, ?_⟩
  · rw [set_ne _ _ _ _ _ _ (by omega), set_ne _ _ _ _ _ _ (by omega), set_ne _ _ _ _ _ _ (by omega), set_ne _ _ _ _ _ _ (by omega), set_ne _ _ _ _ _ _ (by omega)]
    exact set_eq _ _ _ _ _ h0
  · rw [set_ne _ _ _ _ _ _ (by omega), set_ne _ _ _ _ _ _ (by omega), set_ne _ _ _ _ _ _ (by omega), set_ne _ _ _ _ _ _ (by omega)]
    exact set_eq _ _ _ _ u1 (by rw [set_ne _ _ _ _ _ _ (by omega)]; exact h1)
  · rw [set_ne _ _ _ _ _ _ (by omega), set_ne _ _ _ _ _ _ (by omega), set_ne _ _ _ _ _ _ (by omega)]
    exact set_eq _ _ _ _ u2 (by rw [set_ne _ _ _ _ _ _ (by omega), set_ne _ _ _ _ _ _ (by omega)]; exact h2)
  · rw [set_ne _ _ _ _ _ _ (by omega), set_ne _ _ _ _ _ _ (by omega)]
    exact set_eq _ _ _ _ u3 (by rw [set_ne _ _ _ _ _ _ (by omega), set_ne _ _ _ _ _ _ (by omega), set_ne _ _ _ _ _ _ (by omega)]; exact h3)
  · rw [set_ne _ _ _ _ _ _ (by omega)]
    exact set_eq _ _ _ _ u4 (by rw [set_ne _ _ _ _ _ _ (by omega), set_ne _ _ _ _ _ _ (by omega), set_ne _ _ _ _ _ _ (by omega), set_ne _ _ _ _ _ _ (by omega)]; exact h4)
  · exact set_eq _ _ _ _ u5 (by rw [set_ne _ _ _ _ _ _ (by omega), set_ne _ _ _ _ _ _ (by omega), set_ne _ _ _ _ _ _ (by omega), set_ne _ _ _ _ _ _ (by omega), set_ne _ _ _ _ _ _ (by omega)]; exact h5)
theorem set6_frozen (w : World) (g o : Nat) (x0 x1 x2 x3 x4 x5 : Value) (p : Addr) : (set6 w g o x0 x1 x2 x3 x4 x5).frozen? p = w.frozen? p := by
  unfold set6; simp only [World.frozen?_setCell]
theorem set6_fr (w : World) (g o : Nat) (x0 x1 x2 x3 x4 x5 : Value) : Fr (fun i => i = g) w (set6 w g o x0 x1 x2 x3 x4 x5) := by
  have h := Fr.refl (fun i => i = g) w
  unfold set6
  exact (((((h.setCell (p := ⟨g, o, none⟩) (.inl rfl) _).setCell (p := ⟨g, o + 1, none⟩) (.inl rfl) _).setCell (p := ⟨g, o + 2, none⟩) (.inl rfl) _).setCell (p := ⟨g, o + 3, none⟩) (.inl rfl) _).setCell (p := ⟨g, o + 4, none⟩) (.inl rfl) _).setCell (p := ⟨g, o + 5, none⟩) (.inl rfl) _
theorem set6_size (w : World) (g o : Nat) (x0 x1 x2 x3 x4 x5 : Value) : (set6 w g o x0 x1 x2 x3 x4 x5).heap.size = w.heap.size := by
  unfold set6; simp [World.setCell]
end Go.Proofs.Ytpeleifkednmoaa.Da
end
section
namespace Go.Proofs.Ytpeleifkednmoaa.Da
open Go.ChangeShapes Go.WideShapes Go.ChangeAt Go.RowKit

theorem OwnDts.keepAt {w w' : World} : ∀ (l : List Dt) (i lo hi : Nat) (a : Option Addr), (∀ g, a = some ⟨g, 0, none⟩ → ∀ o, o < (i + l.length) * 6 → w'.cell? ⟨g, o, none⟩ = w.cell? ⟨g, o, none⟩) → Eqv w w' (Rg lo hi) → OwnDts w hi a l i lo → OwnDts w' hi a l i lo
  | [], _, _, _, _, _, _, _ => by simp only [OwnDts]
  | d :: r, i, lo, hi, a, hg, hk, h => by
    simp only [OwnDts] at h ⊢
    obtain ⟨mid, g, x0, x1, x2, x3, x4, x5, ha, h0, h1, h2, hs, hd, hr⟩ := h
    have hl : (d :: r).length = r.length + 1 := rfl
    refine ⟨mid, g, x0, x1, x2, x3, x4, x5, ha, h0, h1, h2, ?_, OwnDt.keep d lo mid _ (hk.mono fun b hb => ⟨hb.1, by have := hb.2; omega⟩) hd,
      OwnDts.keepAt r (i + 1) mid hi a (fun g' hg' o ho => hg g' hg' o (by omega)) (hk.mono fun b hb => ⟨by have := hb.1; omega, hb.2⟩) hr⟩
    obtain ⟨s0, s1, s2, s3, s4, s5⟩ := hs
    exact ⟨(hg g ha _ (by omega)).trans s0, (hg g ha _ (by omega)).trans s1, (hg g ha _ (by omega)).trans s2, (hg g ha _ (by omega)).trans s3, (hg g ha _ (by omega)).trans s4, (hg g ha _ (by omega)).trans s5⟩
end Go.Proofs.Ytpeleifkednmoaa.Da
end
section
namespace Go.Proofs.Ytpeleifkednmoaa.Da
open Go.ChangeShapes Go.WideShapes Go.ChangeAt Go.RowKit

theorem src_cells {w : World} {Q : Nat → Prop} {ad : Addr} {l : List Dt} (h : IsDts w Q (some ad) 0 l) : ∀ j, j < l.length * 6 → ∃ u, w.cell? (ad.add j) = some u ∧ u.oneCell' = true := by
  intro j hj
  obtain ⟨b, off, am, cm, al, cl, at_, ct, he, _, ⟨h0, h1, h2, h3, h4, h5⟩, _⟩ := h.at6 (j / 6) (l[j / 6]'(by omega)) (by simp)
  injection he with he
  subst he
  rw [add_plain]
  have e : off + j = off + j / 6 * 6 + j % 6 := by omega
  have hr : j % 6 < 6 := Nat.mod_lt _ (by omega)
  rw [e]
  generalize j % 6 = r at hr
  match r, hr with
  | 0, _ => exact ⟨_, h0, rfl⟩
  | 1, _ => exact ⟨_, h1, rfl⟩
  | 2, _ => exact ⟨_, h2, rfl⟩
  | 3, _ => exact ⟨_, h3, rfl⟩
  | 4, _ => exact ⟨_, h4, rfl⟩
  | 5, _ => exact ⟨_, h5, rfl⟩
end Go.Proofs.Ytpeleifkednmoaa.Da
end
section
namespace Go.Proofs.Ytpeleifkednmoaa.Da
open Go.ChangeShapes Go.WideShapes Go.ChangeAt Go.RowKit

theorem own_keep {w w' : World} {lo hi lo' hi' : Nat} {a : Option Addr} {cap : Nat} {l : List Dt} (h1 : lo' ≤ lo) (h2 : hi ≤ hi') (hk : Eqv w w' (Rg lo hi)) (hs : OwnSl w lo hi a l.length cap) (hd : OwnDts w hi a l 0 (nx a)) :
    OwnSl w' lo' hi' a l.length cap ∧ OwnDts w' hi' a l 0 (nx a) := by
  refine ⟨(hs.keep hk).wide h1 h2, ?_⟩
  rcases hs with ⟨rfl, hz, _⟩ | ⟨g, rfl, g1, g2, _⟩
  · obtain rfl := List.eq_nil_of_length_eq_zero hz
    simp only [OwnDts]
  · refine OwnDts.hi l 0 _ hi hi' _ h2 (OwnDts.keep l 0 _ hi _ (hk.mono fun b hb => ?_) hd)
    rcases hb with hb | ⟨hb1, hb2⟩
    · obtain rfl : g = b := by simpa using hb
      exact ⟨g1, g2⟩
    · simp only [nx] at hb1
      exact ⟨by omega, hb2⟩
end Go.Proofs.Ytpeleifkednmoaa.Da
end
section
namespace Go.Proofs.Ytpeleifkednmoaa.Da
open Go.ChangeShapes Go.WideShapes Go.ChangeAt Go.RowKit

/-- A block that is known whole. -/
def Blk (w : World) (g : Nat) (t : TypeId) (cs : Array Value) : Prop := w.heap[g]? = some (.cells cs t (0, 0))
theorem Blk.cell {w : World} {g : Nat} {t : TypeId} {cs : Array Value} (h : Blk w g t cs) (i : Nat) : w.cell? ⟨g, i, none⟩ = cs[i]? := cell_of_row w g i cs t (0, 0) h
theorem Blk.frozen {w : World} {g : Nat} {t : TypeId} {cs : Array Value} (h : Blk w g t cs) (i : Nat) : w.frozen? ⟨g, i, none⟩ = false := by
  unfold Blk at h
  simp [World.frozen?, h]
theorem Blk.fr {S : Nat → Prop} {w w' : World} {g : Nat} {t : TypeId} {cs : Array Value} (h : Blk w g t cs) (hf : Fr S w w') (hs : ¬ S g) (hg : g < w.heap.size) : Blk w' g t cs := (hf.block g hg hs).trans h
theorem cnt_pos (d : Dt) : 0 < cnt d := by rw [cnt_eq]; omega
theorem bel2' (w : World) (o p : Obj) : Below w.heap.size w ((w.alloc o).alloc p) := ((Below.refl _ _).alloc (Nat.le_refl _) _).alloc (by simp) _
end Go.Proofs.Ytpeleifkednmoaa.Da
end
section
namespace Go.Proofs.Ytpeleifkednmoaa.Da
open Go.ChangeShapes Go.WideShapes Go.ChangeAt Go.RowKit

/-- A copy in new memory. -/
def OwnR (w0 : World) (Q : Nat → Prop) (d : Dt) (e : Ending) (w' : World) : Prop :=
  ∃ v', e = .returned v' ∧ Below w0.heap.size w0 w' ∧ IsDt w' (Nw w0 w' Q) d v' ∧ (cnt d ≤ 4096 → OwnDt w' d w0.heap.size w'.heap.size v')
theorem own_end {w X w2 Wf : World} {B bl : Nat} {d : Dt} {v : Value} (hB : B ≤ w.heap.size) (hbl : bl = w.heap.size + 2) (hX : X.heap.size = w.heap.size + 5) (hb : Below w.heap.size w X) (hf : Fr (fun i => i = bl) X w2)
    (hi : IsDt w2 (Nw X w2 (Lo B)) d v) (ho : cnt d ≤ 4096 → OwnDt w2 d X.heap.size w2.heap.size v) (hw : Fr (fun i => i = w.heap.size + 1) w2 Wf) : OwnR w (Lo B) d (.returned v) Wf := by
  have s2 := hf.size
  have sf := hw.size
  have hb2 : Below w.heap.size w w2 := hb.trans (hf.below (by omega) (fun i hi h => by omega))
  refine ⟨v, rfl, hb2.trans (hw.below hb2.size (fun i hi h => by omega)), ?_, fun hle => ?_⟩
  · refine IsDt.keep (fun b hb => ?_) (fun b o hq => ?_) d v hi
    · rcases hb with hb | hb
      · exact .inl hb
      · exact .inr ⟨by omega, by omega⟩
    · rcases hq with hq | hq
      · have hq' : b < B := hq
        exact hw.cell (p := ⟨b, o, none⟩) (by show b < w2.heap.size; omega) (by show ¬ b = w.heap.size + 1; omega)
      · exact hw.cell (p := ⟨b, o, none⟩) hq.2 (by show ¬ b = w.heap.size + 1; omega)
  · refine (OwnDt.keep d _ _ v (fun b hb o => ?_) (ho hle)).wide d (by omega) sf
    have h1 := hb.1
    have h2 := hb.2
    exact ⟨hw.cell (p := ⟨b, o, none⟩) h2 (by show ¬ b = w.heap.size + 1; omega), hw.frozen (p := ⟨b, o, none⟩) h2 (by show ¬ b = w.heap.size + 1; omega)⟩
theorem own_start (w : World) (xs ys : Array Value) (t1 t2 t3 t4 t5 : TypeId) (e f g : Value) :
    Below w.heap.size w (((((w.alloc (.cells xs t1)).alloc (.cells ys t2)).alloc (.cells #[e] t3)).alloc (.cells #[f] t4)).alloc (.cells #[g] t5)) ∧
    (((((w.alloc (.cells xs t1)).alloc (.cells ys t2)).alloc (.cells #[e] t3)).alloc (.cells #[f] t4)).alloc (.cells #[g] t5)).heap.size = w.heap.size + 5 ∧
    Blk (((((w.alloc (.cells xs t1)).alloc (.cells ys t2)).alloc (.cells #[e] t3)).alloc (.cells #[f] t4)).alloc (.cells #[g] t5)) (w.heap.size + 1) t2 ys ∧
    Blk (((((w.alloc (.cells xs t1)).alloc (.cells ys t2)).alloc (.cells #[e] t3)).alloc (.cells #[f] t4)).alloc (.cells #[g] t5)) (w.heap.size + 2) t3 #[e] ∧
    Blk (((((w.alloc (.cells xs t1)).alloc (.cells ys t2)).alloc (.cells #[e] t3)).alloc (.cells #[f] t4)).alloc (.cells #[g] t5)) (w.heap.size + 3) t4 #[f] ∧
    Blk (((((w.alloc (.cells xs t1)).alloc (.cells ys t2)).alloc (.cells #[e] t3)).alloc (.cells #[f] t4)).alloc (.cells #[g] t5)) (w.heap.size + 4) t5 #[g] := by
  have a1 := heap_alloc_new (w.alloc (.cells xs t1)) (.cells ys t2)
  have a2 := heap_alloc_new ((w.alloc (.cells xs t1)).alloc (.cells ys t2)) (.cells #[e] t3)
  have a3 := heap_alloc_new (((w.alloc (.cells xs t1)).alloc (.cells ys t2)).alloc (.cells #[e] t3)) (.cells #[f] t4)
  have a4 := heap_alloc_new ((((w.alloc (.cells xs t1)).alloc (.cells ys t2)).alloc (.cells #[e] t3)).alloc (.cells #[f] t4)) (.cells #[g] t5)
  simp only [World.size_alloc, Nat.add_assoc, Nat.reduceAdd] at a1 a2 a3 a4
  refine ⟨((((bel_alloc w _).alloc (by simp) _).alloc (by simp; omega) _).alloc (by simp; omega) _).alloc (by simp; omega) _, by simp [Nat.add_assoc], ?_, ?_, ?_, a4⟩
  · unfold Blk; rw [Below.heap_alloc _ _ _ (by simp), Below.heap_alloc _ _ _ (by simp), Below.heap_alloc _ _ _ (by simp)]; exact a1
  · unfold Blk; rw [Below.heap_alloc _ _ _ (by simp), Below.heap_alloc _ _ _ (by simp)]; exact a2
  · unfold Blk; rw [Below.heap_alloc _ _ _ (by simp)]; exact a3
end Go.Proofs.Ytpeleifkednmoaa.Da
end
section
namespace Go.Proofs.Ytpeleifkednmoaa.Da
open Go.ChangeShapes Go.WideShapes Go.ChangeAt Go.RowKit

/-- Whether a datum has halves, and else why not. -/
def pairE (d : Dt) : Int := if chk d ≠ 0 then chk d else if (d.K ≠ 6 ∧ d.K ≠ 7) ∨ d.L = [] then 6 else 0
theorem bcell {W w1 : World} (hb : Below W.heap.size W w1) : (∀ b o, b < W.heap.size → w1.cell? ⟨b, o, none⟩ = W.cell? ⟨b, o, none⟩) ∧ (∀ b o, b < W.heap.size → w1.frozen? ⟨b, o, none⟩ = W.frozen? ⟨b, o, none⟩) :=
  ⟨fun b o h => hb.cell (p := ⟨b, o, none⟩) h, fun b o h => hb.frozen (p := ⟨b, o, none⟩) h⟩
/-- What comes back with an error: the datum, or the zero one. -/
def zeroV : Value := .agg #[.int .i64 0, .int .i64 0, .string ⟨#[]⟩, .slice none 0 0, .slice none 0 0, .slice none 0 0]
def TwoR (w0 : World) (Q : Nat → Prop) (er : Int) (d : Dt) (e : Ending) (w' : World) : Prop :=
  ∃ v', e = .returned (.tuple #[v', .int .i64 er]) ∧ Below w0.heap.size w0 w' ∧ (er ≠ 0 → v' = zeroV) ∧ (er = 0 → IsDt w' (Nw w0 w' Q) d v')
theorem two_end {w X w2 : World} {B b : Nat} {d : Dt} {v : Value} {y0 y1 y2 y3 y4 y5 : Value} (hB : B ≤ w.heap.size) (hb0 : w.heap.size ≤ b) (hb1 : b < X.heap.size) (hX : Below w.heap.size w X) (h2 : Below X.heap.size X w2) (hi : IsDt w2 (Nw X w2 (Lo B)) d v) :
    TwoR w (Lo B) 0 d (.returned (.tuple #[v, .int .i64 0])) (set6 w2 b 0 y0 y1 y2 y3 y4 y5) := by
  have f6 := set6_fr w2 b 0 y0 y1 y2 y3 y4 y5
  have s6 := set6_size w2 b 0 y0 y1 y2 y3 y4 y5
  generalize set6 w2 b 0 y0 y1 y2 y3 y4 y5 = Wf at *
  have s1 := hX.size
  have s2 := h2.size
  have hw2 : Below w.heap.size w w2 := hX.trans (h2.mono hX.size)
  refine ⟨v, rfl, hw2.trans (f6.below hw2.size (fun i hi h => by omega)), fun h => absurd rfl h, fun _ => IsDt.keep (fun c hc => ?_) (fun c o hc => ?_) d v hi⟩
  · rcases hc with hc | hc
    · exact .inl hc
    · exact .inr ⟨by omega, by omega⟩
  · rcases hc with hc | hc
    · have hq' : c < B := hc
      exact f6.cell (p := ⟨c, o, none⟩) (by show c < w2.heap.size; omega) (by show ¬ c = b; omega)
    · exact f6.cell (p := ⟨c, o, none⟩) hc.2 (by show ¬ c = b; omega)
theorem two_bad {w X Wf : World} {Q : Nat → Prop} {d : Dt} {er : Int} {b : Nat} {y0 y1 y2 y3 y4 y5 : Value} (hb : w.heap.size ≤ b) (he : er ≠ 0) (hX : Below w.heap.size w X) (h : set6 X b 0 y0 y1 y2 y3 y4 y5 = Wf) : TwoR w Q er d (.returned (.tuple #[zeroV, .int .i64 er])) Wf := by
  subst h
  exact ⟨_, rfl, hX.trans ((set6_fr X b 0 y0 y1 y2 y3 y4 y5).below hX.size (fun i hi h => by omega)), fun _ => rfl, fun h => absurd h he⟩
def carD (d : Dt) : Dt := d.L.headD (.mk 0 0 ⟨#[]⟩ [] [] [])
theorem pairE_zero {d : Dt} (h : pairE d = 0) : chk d = 0 ∧ (d.K = 6 ∨ d.K = 7) ∧ d.L ≠ [] := by
  unfold pairE at h
  by_cases h1 : chk d = 0
  · rw [if_neg (by simp [h1])] at h
    by_cases h2 : (d.K ≠ 6 ∧ d.K ≠ 7) ∨ d.L = []
    · rw [if_pos h2] at h; omega
    · refine ⟨h1, ?_, fun h3 => h2 (.inr h3)⟩
      by_cases h6 : d.K = 6
      · exact .inl h6
      · by_cases h7 : d.K = 7
        · exact .inr h7
        · exact absurd (.inl ⟨h6, h7⟩) h2
  · rw [if_pos h1] at h
    exact absurd h h1
end Go.Proofs.Ytpeleifkednmoaa.Da
end
section
namespace Go.Proofs.Ytpeleifkednmoaa.Da
open Go.ChangeShapes Go.WideShapes Go.ChangeAt Go.RowKit

def restD (d : Dt) : Dt := .mk d.K d.N d.S d.M d.L.tail d.T
def cdrD (d : Dt) : Dt := if d.K = 7 ∧ d.L.length = 1 then d.T.headD (.mk 0 0 ⟨#[]⟩ [] [] []) else restD d
theorem shift_dts {w : World} {Q : Nat → Prop} {b off : Nat} : ∀ {l : List Dt} {i : Nat}, IsDts w Q (some ⟨b, off, none⟩) (i + 1) l → IsDts w Q (some ⟨b, off + 6, none⟩) i l
  | [], _, _ => by simp only [IsDts]
  | d :: r, i, h => by
    simp only [IsDts] at h ⊢
    obtain ⟨⟨b', off', x0, x1, x2, x3, x4, x5, ha, hb, hs, hd⟩, hr⟩ := h
    injection ha with ha
    injection ha with h1 h2
    subst h1
    subst h2
    refine ⟨⟨b, off + 6, x0, x1, x2, x3, x4, x5, rfl, hb, ?_, hd⟩, shift_dts hr⟩
    rwa [show off + 6 + i * 6 = off + (i + 1) * 6 by omega]
theorem rest_isDt {w : World} {Q : Nat → Prop} {d : Dt} {am at_ : Option Addr} {cm cl ct b off : Nat} (h : IsDt w Q d (.agg #[.int .i64 d.K, .int .i64 d.N, .string d.S, .slice am d.M.length cm, .slice (some ⟨b, off, none⟩) d.L.length cl, .slice at_ d.T.length ct])) (hpos : 0 < d.L.length) :
    (cl = 1 → IsDt w Q (restD d) (.agg #[.int .i64 d.K, .int .i64 d.N, .string d.S, .slice am d.M.length cm, .slice (some ⟨b, off, none⟩) 0 0, .slice at_ d.T.length ct])) ∧
    (cl ≠ 1 → IsDt w Q (restD d) (.agg #[.int .i64 d.K, .int .i64 d.N, .string d.S, .slice am d.M.length cm, .slice (some ⟨b, off + 6, none⟩) (d.L.length - 1) (cl - 1), .slice at_ d.T.length ct])) := by
  obtain ⟨k, n, s, m, l, t⟩ := d
  obtain _ | ⟨x, r⟩ := l
  · simp [Dt.L] at hpos
  simp only [IsDt, restD, Dt.K, Dt.N, Dt.S, Dt.M, Dt.L, Dt.T, List.tail_cons, List.length_cons, Nat.add_sub_cancel] at h ⊢
  obtain ⟨h1, h2, h3, am', cm', al', cl', at', ct', hv, hm, hl, hls, ht, hts⟩ := h
  injection hv with hv
  simp only [Array.mk.injEq, List.cons.injEq, and_true, true_and, Value.slice.injEq] at hv
  obtain ⟨⟨rfl, rfl⟩, ⟨rfl, rfl⟩, rfl, rfl⟩ := hv
  obtain ⟨l1, l2, l3, _⟩ := hl
  simp only [IsDts] at hls
  refine ⟨fun hc => ?_, fun hc => ⟨h1, h2, h3, am, cm, _, _, at_, ct, rfl, hm, ⟨by omega, by omega, by omega, fun h => by cases h⟩, shift_dts hls.2, ht, hts⟩⟩
  have h0 : r.length = 0 := by omega
  obtain rfl := List.eq_nil_of_length_eq_zero h0
  exact ⟨h1, h2, h3, am, cm, _, _, at_, ct, rfl, hm, ⟨Nat.le_refl _, by simp [maxLen], by simp, fun h => by cases h⟩, by simp only [IsDts], ht, hts⟩
end Go.Proofs.Ytpeleifkednmoaa.Da
end
section
namespace Go.Proofs.Ytpeleifkednmoaa.Da
open Go.ChangeShapes Go.WideShapes Go.ChangeAt Go.RowKit

def listD (l : List Dt) : Dt := .mk 6 0 ⟨#[]⟩ [] l []
/-- Between two rounds: k elements are copied into the new row. -/
structure ListIn (W1 : World) (Q : Nat → Prop) (l : List Dt) (g k : Nat) (wr : World) : Prop where
  fr : Fr (fun i => i = g) W1 wr
  fz : ∀ j, wr.frozen? ⟨g, j, none⟩ = false
  there : ∀ j, j < l.length * 6 → ∃ u, wr.cell? ⟨g, j, none⟩ = some u
  done : ∀ j d, j < k → l[j]? = some d → ∃ x0 x1 x2 x3 x4 x5, Six wr g (j * 6) x0 x1 x2 x3 x4 x5 ∧ IsDt wr (fun b => Q b ∨ (g < b ∧ b < wr.heap.size)) d (.agg #[x0, x1, x2, x3, x4, x5])
theorem list_step {W1 wr X w2 : World} {Q : Nat → Prop} {l : List Dt} {g k : Nat} {d : Dt} {y0 y1 y2 y3 y4 y5 : Value} (hQ : ∀ b, Q b → b < g) (hgs : g < W1.heap.size) (hd : l[k]? = some d) (h : ListIn W1 Q l g k wr) (hX : Below wr.heap.size wr X) (hf : Below X.heap.size X w2)
    (hi : IsDt w2 (Nw X w2 Q) d (.agg #[y0, y1, y2, y3, y4, y5])) : ListIn W1 Q l g (k + 1) (set6 w2 g (k * 6) y0 y1 y2 y3 y4 y5) := by
  have hk : k < l.length := (List.getElem?_eq_some_iff.1 hd).1
  have hgr : g < wr.heap.size := Nat.lt_of_lt_of_le hgs h.fr.size
  have q1 : ∀ g' o', (g' ≠ g ∨ o' < k * 6 ∨ k * 6 + 6 ≤ o') → (set6 w2 g (k * 6) y0 y1 y2 y3 y4 y5).cell? ⟨g', o', none⟩ = w2.cell? ⟨g', o', none⟩ := fun g' o' h => set6_ne _ _ _ _ _ _ _ _ _ _ _ h
  have q2 := set6_six w2 g (k * 6) y0 y1 y2 y3 y4 y5
  have q3 := set6_frozen w2 g (k * 6) y0 y1 y2 y3 y4 y5
  have q4 := set6_fr w2 g (k * 6) y0 y1 y2 y3 y4 y5
  have s6 := set6_size w2 g (k * 6) y0 y1 y2 y3 y4 y5
  generalize set6 w2 g (k * 6) y0 y1 y2 y3 y4 y5 = W6 at *
  have hsX := hX.size
  have hs2 := hf.size
  have hw : Below wr.heap.size wr w2 := hX.trans (hf.mono hsX)
  have cg : ∀ j, w2.cell? ⟨g, j, none⟩ = wr.cell? ⟨g, j, none⟩ := fun j => hw.cell (p := ⟨g, j, none⟩) hgr
  have six : Six W6 g (k * 6) y0 y1 y2 y3 y4 y5 := q2 fun r hr => by
    obtain ⟨u, hu⟩ := h.there (k * 6 + r) (by omega)
    exact ⟨u, by rw [cg, hu]⟩
  refine ⟨(h.fr.trans (Fr.of_bel hw _)).trans q4, fun j => by rw [q3, hw.frozen (p := ⟨g, j, none⟩) hgr]; exact h.fz j, fun j hj => ?_, fun j d' hj hd' => ?_⟩
  · by_cases hin : k * 6 ≤ j ∧ j < k * 6 + 6
    · obtain ⟨r, rfl⟩ : ∃ r, j = k * 6 + r := ⟨j - k * 6, by omega⟩
      obtain ⟨c0, c1, c2, c3, c4, c5⟩ := six
      have hr : r < 6 := by omega
      match r, hr with
      | 0, _ => exact ⟨_, c0⟩
      | 1, _ => exact ⟨_, c1⟩
      | 2, _ => exact ⟨_, c2⟩
      | 3, _ => exact ⟨_, c3⟩
      | 4, _ => exact ⟨_, c4⟩
      | 5, _ => exact ⟨_, c5⟩
    · obtain ⟨u, hu⟩ := h.there j hj
      exact ⟨u, by rw [q1 _ _ (by omega), cg, hu]⟩
  · by_cases hjk : j < k
    · obtain ⟨x0, x1, x2, x3, x4, x5, ⟨e0, e1, e2, e3, e4, e5⟩, hdt⟩ := h.done j d' hjk hd'
      refine ⟨x0, x1, x2, x3, x4, x5, ⟨(q1 _ _ (by omega)).trans ((cg _).trans e0), (q1 _ _ (by omega)).trans ((cg _).trans e1), (q1 _ _ (by omega)).trans ((cg _).trans e2), (q1 _ _ (by omega)).trans ((cg _).trans e3), (q1 _ _ (by omega)).trans ((cg _).trans e4), (q1 _ _ (by omega)).trans ((cg _).trans e5)⟩,
        IsDt.keep (fun b hb => ?_) (fun b o' hb => ?_) d' _ hdt⟩
      · rcases hb with hb | ⟨hb1, hb2⟩
        · exact .inl hb
        · exact .inr ⟨hb1, by omega⟩
      · rcases hb with hb | ⟨hb1, hb2⟩
        · have := hQ b hb
          exact (q1 _ _ (.inl (by omega))).trans (hw.cell (p := ⟨b, o', none⟩) (by show b < wr.heap.size; omega))
        · exact (q1 _ _ (.inl (by omega))).trans (hw.cell (p := ⟨b, o', none⟩) hb2)
    · obtain rfl : j = k := by omega
      obtain rfl : d = d' := by rw [hd] at hd'; injection hd'
      refine ⟨y0, y1, y2, y3, y4, y5, six, IsDt.keep (fun b hb => ?_) (fun b o' hb => ?_) d _ hi⟩
      · rcases hb with hb | ⟨hb1, hb2⟩
        · exact .inl hb
        · exact .inr ⟨by omega, by omega⟩
      · refine q1 _ _ (.inl ?_)
        rcases hb with hb | ⟨hb1, hb2⟩
        · have := hQ b hb
          omega
        · omega
theorem start3 (w : World) (xs ys zs : Array Value) (t1 t2 t3 : TypeId) :
    Below w.heap.size w (((w.alloc (.cells xs t1)).alloc (.cells ys t2)).alloc (.cells zs t3)) ∧ (((w.alloc (.cells xs t1)).alloc (.cells ys t2)).alloc (.cells zs t3)).heap.size = w.heap.size + 3 ∧
    Blk (((w.alloc (.cells xs t1)).alloc (.cells ys t2)).alloc (.cells zs t3)) w.heap.size t1 xs ∧ Blk (((w.alloc (.cells xs t1)).alloc (.cells ys t2)).alloc (.cells zs t3)) (w.heap.size + 1) t2 ys ∧
    Blk (((w.alloc (.cells xs t1)).alloc (.cells ys t2)).alloc (.cells zs t3)) (w.heap.size + 2) t3 zs := by
  have a0 := heap_alloc_new w (.cells xs t1)
  have a1 := heap_alloc_new (w.alloc (.cells xs t1)) (.cells ys t2)
  have a2 := heap_alloc_new ((w.alloc (.cells xs t1)).alloc (.cells ys t2)) (.cells zs t3)
  simp only [World.size_alloc, Nat.add_assoc, Nat.reduceAdd] at a1 a2
  refine ⟨((bel_alloc w _).alloc (by simp) _).alloc (by simp; omega) _, by simp [Nat.add_assoc], ?_, ?_, a2⟩
  · unfold Blk; rw [Below.heap_alloc _ _ _ (by simp; omega), Below.heap_alloc _ _ _ (by simp)]; exact a0
  · unfold Blk; rw [Below.heap_alloc _ _ _ (by simp)]; exact a1
theorem alloc6 (w : World) (x0 x1 x2 x3 x4 x5 : Value) (t : TypeId) : Six (w.alloc (.cells #[x0, x1, x2, x3, x4, x5] t)) w.heap.size 0 x0 x1 x2 x3 x4 x5 := by
  have h : Blk (w.alloc (.cells #[x0, x1, x2, x3, x4, x5] t)) w.heap.size t #[x0, x1, x2, x3, x4, x5] := heap_alloc_new w _
  exact ⟨(h.cell 0).trans rfl, (h.cell 1).trans rfl, (h.cell 2).trans rfl, (h.cell 3).trans rfl, (h.cell 4).trans rfl, (h.cell 5).trans rfl⟩
def ListAt (W1 : World) (Q : Nat → Prop) (l : List Dt) (g : Nat) (i : Value) (wr : World) : Prop := ∃ k : Nat, k ≤ l.length ∧ i = .int .i64 (k : Int) ∧ ListIn W1 Q l g k wr
/-- One datum comes back. -/
def OneR (w0 : World) (Q : Nat → Prop) (d : Dt) (e : Ending) (w' : World) : Prop := ∃ v', e = .returned v' ∧ Below w0.heap.size w0 w' ∧ IsDt w' (Nw w0 w' Q) d v'
theorem list_end {w W1 wr Wf : World} {B N : Nat} {l : List Dt} (hB : B ≤ w.heap.size) (hN : w.heap.size = N) (hs : W1.heap.size = N + 3) (hb : Below w.heap.size w W1) (h3 : l.length * 104 ≤ 140737488351232) (h : ListIn W1 (Lo B) l (N + 1) l.length wr) (hw : Fr (fun i => i = N) wr Wf) :
    OneR w (Lo B) (listD l) (.returned (.agg #[.int .i64 6, .int .i64 0, .string ⟨#[]⟩, .slice none 0 0, .slice (some ⟨N + 1, 0, none⟩) l.length l.length, .slice none 0 0])) Wf := by
  have s1 := h.fr.size
  have sf := hw.size
  have hbw : Below w.heap.size w wr := hb.trans (h.fr.below (by omega) (fun i hi e => by omega))
  refine ⟨_, rfl, hbw.trans (hw.below hbw.size (fun i hi e => by omega)), ?_⟩
  unfold listD
  simp only [IsDt]
  refine ⟨rfl, rfl, by show (0 : Nat) ≤ _; exact Nat.zero_le _, none, 0, _, _, none, 0, rfl, ⟨rfl, Nat.le_refl _, by simp [maxLen], by simp, fun _ => rfl, by simp, fun k hk => absurd hk (Nat.not_lt_zero _)⟩, ⟨Nat.le_refl _, by simp only [maxLen]; omega, h3, fun e => by cases e⟩, IsDts.of_at (fun j d hd => ?_), ⟨Nat.le_refl _, by simp [maxLen], by simp, fun _ => rfl⟩, by simp only [IsDts]⟩
  obtain ⟨x0, x1, x2, x3, x4, x5, hx, hi⟩ := h.done j d (List.getElem?_eq_some_iff.1 hd).1 hd
  refine ⟨N + 1, 0, x0, x1, x2, x3, x4, x5, rfl, .inr ⟨by omega, by omega⟩, by simpa using hx.keep (w' := Wf) (fun o => hw.cell (p := ⟨N + 1, o, none⟩) (by show N + 1 < wr.heap.size; omega) (by show ¬ N + 1 = N; omega)), IsDt.keep (fun b hb => ?_) (fun b o hb => ?_) d _ hi⟩
  · rcases hb with hb | ⟨hb1, hb2⟩
    · exact .inl hb
    · exact .inr ⟨by omega, by omega⟩
  · rcases hb with hb | ⟨hb1, hb2⟩
    · have : b < B := hb
      exact hw.cell (p := ⟨b, o, none⟩) (by show b < wr.heap.size; omega) (by show ¬ b = N; omega)
    · exact hw.cell (p := ⟨b, o, none⟩) hb2 (by show ¬ b = N; omega)
end Go.Proofs.Ytpeleifkednmoaa.Da
end
section
namespace Go.Proofs.Ytpeleifkednmoaa.Da
open Go.ChangeShapes Go.WideShapes Go.ChangeAt Go.RowKit

theorem size_zeroCells (z : Array Value) (n : Nat) : (Builtin.zeroCells z n).size = n * z.size := by
  unfold Builtin.zeroCells
  simp
/-- Room for so many. -/
def GrowP (w : World) (e : Ending) (w' : World) : Prop := ∃ cap, e = .returned (.slice (some ⟨w.heap.size, 0, none⟩) 0 cap) ∧ w'.ownsRow w.heap.size 43 6 (.slice (some ⟨w.heap.size, 0, none⟩) 0 cap) 0 [] ∧ Below w.heap.size w w'
theorem block_add (a : Addr) (n : Nat) : (a.add n).block = a.block := by unfold Addr.add; split <;> rfl
theorem own_ge {w : World} {base : Nat} {e : TypeId} {size : Nat} {v : Value} {n : Nat} {xs : List Value} (h : w.ownsRow base e size v n xs) {k : Nat} (hk : v.ownBlock = some k) : base ≤ k := by
  rcases h.2 with ⟨rfl, _⟩ | ⟨g, cap, cur, rfl, hb, _⟩
  · simp [Value.ownBlock] at hk
  · have : g = k := by simpa [Value.ownBlock] using hk
    omega
def CatAt1 (n1 : Nat) (t i : Value) : Prop := (i = .int .i64 0 ∧ t = .int .i64 0) ∨ (i = .int .i64 1 ∧ t = .int .i64 1) ∨ (i = .int .i64 2 ∧ t = .int .i64 (1 + (n1 : Int)))
/-- The two put together in a row of its own. -/
def CatR (w : World) (n1 : Nat) (news0 news1 : List Value) (e : Ending) (w' : World) : Prop :=
  ∃ g cap, e = .returned (.slice (some ⟨g, 0, none⟩) (1 + n1) cap) ∧ w.heap.size ≤ g ∧ g < w'.heap.size ∧ 1 + n1 ≤ cap ∧ cap ≤ maxLen ∧ (∀ j, j < (1 + n1) * 6 → w'.cell? ⟨g, j, none⟩ = (news0 ++ news1)[j]?) ∧ Below w.heap.size w w'
def CatAt2 (w : World) (n1 : Nat) (news0 news1 : List Value) (v i : Value) (wr : World) : Prop :=
  ((i = .int .i64 0 ∧ ∃ g cap, v = .slice (some ⟨g, 0, none⟩) 0 cap ∧ wr.ownsRow w.heap.size 43 6 v 0 []) ∨ (i = .int .i64 1 ∧ ∃ g cap, v = .slice (some ⟨g, 0, none⟩) 1 cap ∧ wr.ownsRow w.heap.size 43 6 v 1 news0) ∨
    (i = .int .i64 2 ∧ ∃ g cap, v = .slice (some ⟨g, 0, none⟩) (1 + n1) cap ∧ wr.ownsRow w.heap.size 43 6 v (1 + n1) (news0 ++ news1))) ∧ Below w.heap.size w wr
end Go.Proofs.Ytpeleifkednmoaa.Da
end
