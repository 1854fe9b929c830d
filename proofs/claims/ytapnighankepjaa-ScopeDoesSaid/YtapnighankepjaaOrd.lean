/- A statement whose order is open, whose last stores hit cells that its loads read: the loads may be taken first, the condition on the world being asked only until the first of those stores. -/
import Derived.OrdersHeld
import Derived.WalkKit
namespace Go.Proofs.Ytapnighankepjaa.Od
open Go Go.RowKit

section
variable {P : Program} {ops : Array Oper} {Q : Exit → Act → World → Prop} {md : Region.Mode} {S T : World → Prop} {s : Nat}

/-- In whatever order the rest is done: the condition holds behind each step, until number s is done. -/
def Till (P : Program) (md : Region.Mode) (ops : Array Oper) (Q : Exit → Act → World → Prop) (S T : World → Prop) (s : Nat) : Nat → Array Bool → Act → World → Prop
  | 0, listed, a, w => Region.ready md ops listed = [] ∧ Q .normal a w
  | n + 1, listed, a, w => (Region.ready md ops listed = [] → Q .normal a w) ∧
      ∀ i ∈ Region.ready md ops listed, wpOp P ops Q i (fun a' w' => (((listed.setIfInBounds i true).getD s false = false → S w') ∧ T w') ∧ Till P md ops Q S T s n (listed.setIfInBounds i true) a' w') a w

theorem Till.any : ∀ (n : Nat) (listed : Array Bool) (a : Act) (w : World), Till P md ops Q S T s n listed a w → wpAny P md ops Q n listed a w
  | 0, _, _, _, h => h
  | n + 1, _, _, _, h => ⟨h.1, fun i hi => wpOp_mono (fun a' w' k => Till.any n _ a' w' k.2) (h.2 i hi)⟩

/-- Number s waits for number i. -/
def waits (md : Region.Mode) (ops : Array Oper) (s i : Nat) : Bool :=
  match ops[s]? with
  | some o => o.after.any fun e => Region.binds md e && e.on == i
  | none => false

theorem not_ready_of_waits {i : Nat} {listed : Array Bool} (hw : waits md ops s i = true) (hi : listed.getD i true = false) : s ∉ Region.ready md ops listed := by
  intro hs
  obtain ⟨_, o, ho, hall⟩ := mem_ready.1 hs
  unfold waits at hw
  rw [ho] at hw
  obtain ⟨e, he, hb⟩ := Array.any_eq_true'.1 hw
  simp only [Bool.and_eq_true, beq_iff_eq] at hb
  have h1 := hall e he hb.1
  rw [hb.2] at h1
  rcases Nat.lt_or_ge i listed.size with h | h
  · simp [h] at hi h1
    rw [hi] at h1
    cases h1
  · simp [Array.getElem?_eq_none h] at hi

theorem getD_keep {listed : Array Bool} {j k : Nat} (d : Bool) (h : j ≠ k) : (listed.setIfInBounds j true).getD k d = listed.getD k d := getD_set_ne d h

/-- A step that yields wherever a condition holds may be taken first, if that condition is known behind each step that may come ahead of it. -/
theorem Till.first {R : World → Prop} {G : Array Bool → Prop} {i : Nat} {oi : Oper} {v : Value} (hi : ops[i]? = some oi) (hsel : ∀ (j : Nat) (o : Oper) cs b, ops[j]? = some o → o.op ≠ .select cs b)
    (hQ : ∀ c a w, Q (.panic c) (a.put oi.dst v) w → Q (.panic c) a w)
    (hG : ∀ listed j w', i ∈ Region.ready md ops listed → j ∈ Region.ready md ops listed → j ≠ i → G listed → ((((listed.setIfInBounds i true).setIfInBounds j true).getD s false = false → S w') ∧ T w') → (((listed.setIfInBounds j true).getD s false = false → S w') ∧ T w') ∧ R w' ∧ G (listed.setIfInBounds j true))
    (hST : ∀ listed w, G listed → i ∈ Region.ready md ops listed → R w → ((listed.setIfInBounds i true).getD s false = false → S w) ∧ T w → R w) :
    ∀ (n : Nat) (listed : Array Bool) (a : Act) (w : World),
      (∀ j oj, ops[j]? = some oj → j ≠ i → listed.getD j true = false → (∀ e ∈ oj.after, Region.binds md e = true → e.on ≠ i) → oi.apart ops oj = true) →
      i ∈ Region.ready md ops listed → G listed → YieldsIf P ops R oi v a → R w → (((listed.setIfInBounds i true).getD s false = false → S w) ∧ T w) →
      Till P md ops Q S T s n (listed.setIfInBounds i true) (a.put oi.dst v) w → Till P md ops Q S T s (n + 1) listed a w := by
  intro n
  induction n with
  | zero =>
    intro listed a w _ hr hg hy hR hw H
    refine ⟨fun h => (by rw [h] at hr; cases hr), fun j hj => ?_⟩
    by_cases hji : j = i
    · subst hji
      exact hy.wpOp hi hR ⟨hw, H⟩
    · have hm := ready_mono hj hji
      rw [H.1] at hm
      cases hm
  | succ n ih =>
    intro listed a w hfree hr hg hy hR hw H
    refine ⟨fun h => (by rw [h] at hr; cases hr), fun j hj => ?_⟩
    by_cases hji : j = i
    · subst hji
      exact hy.wpOp hi hR ⟨hw, H⟩
    · have hun : listed.getD i true = false := (mem_ready.1 hr).1
      obtain ⟨hjun, oj, hoj, hall⟩ := mem_ready.1 hj
      have hnot : ∀ e ∈ oj.after, Region.binds md e = true → e.on ≠ i := fun e he hb heq => by
        have h1 := hall e he hb
        rw [heq] at h1
        rcases Nat.lt_or_ge i listed.size with h' | h'
        · simp [h'] at hun h1
          rw [hun] at h1
          cases h1
        · simp [Array.getElem?_eq_none h'] at hun
      have step := wpOp_putIf hoj (hfree j oj hoj hji hjun hnot) (fun cs b => hsel i oi cs b hi) (fun cs b => hsel j oj cs b hoj) hQ hy (H.2 j (ready_mono hj hji))
      have hfree' : ∀ k ok, ops[k]? = some ok → k ≠ i → (listed.setIfInBounds j true).getD k true = false → (∀ e ∈ ok.after, Region.binds md e = true → e.on ≠ i) → oi.apart ops ok = true := fun k ok hk hki hku hno => by
        refine hfree k ok hk hki ?_ hno
        by_cases hjk : j = k
        · subst hjk
          exact hjun
        · rw [getD_keep true hjk] at hku
          exact hku
      refine wpOp_mono (fun a' w' k => ?_) step
      obtain ⟨h1, h2, h3⟩ := hG listed j w' hr hj hji hg k.2.1
      have hk := k.2.1
      rw [Array.setIfInBounds_comm _ _ (Ne.symm hji)] at hk
      refine ⟨h1, ih (listed.setIfInBounds j true) a' w' hfree' (ready_mono hr (Ne.symm hji)) h3 k.1 h2 hk ?_⟩
      rw [Array.setIfInBounds_comm _ _ hji]
      exact k.2.2

/-- One that reads what a store of the region hits: it is taken first by the condition that holds till that store. -/
theorem Till.take {i : Nat} {oi : Oper} {v : Value} {n : Nat} {listed : Array Bool} {a : Act} {w : World} (d : Tmp) (hi : ops[i]? = some oi) (hd : oi.dst = some d) (hs : Region.noSelect ops = true) (hf : Region.free md ops listed i = true)
    (hr : (Region.ready md ops listed).contains i = true) (hq : (s != i && waits md ops s i && !listed.getD s false) = true) (hQ : ∀ c a w, Q (.panic c) (a.put (some d) v) w → Q (.panic c) a w) (hy : YieldsIf P ops S oi v a) (hS : S w) (hT : T w)
    (h : Till P md ops Q S T s n (listed.setIfInBounds i true) (a.put (some d) v) w) : Till P md ops Q S T s (n + 1) listed a w := by
  rw [← hd] at hQ h
  simp only [Bool.and_eq_true, bne_iff_ne, Bool.not_eq_true'] at hq
  refine Till.first (R := S) (G := fun l => l.getD s false = false) hi (Region.noSelect_spec hs) hQ (fun l j w' hr' hj hji hg hk => ?_) (fun _ _ _ _ h _ => h) n listed a w (Region.free_spec hi hf) (by simpa using hr) hq.2 hy hS ⟨fun _ => hS, hT⟩ h
  have hjs : j ≠ s := fun e => not_ready_of_waits hq.1.2 (mem_ready.1 hr').1 (e ▸ hj)
  have h1 : (l.setIfInBounds j true).getD s false = false := by rw [getD_keep false hjs]; exact hg
  have h2 : ((l.setIfInBounds i true).setIfInBounds j true).getD s false = false := by rw [getD_keep false hjs, getD_keep false (Ne.symm hq.1.1)]; exact hg
  exact ⟨⟨fun _ => hk.1 h2, hk.2⟩, hk.1 h2, h1⟩

/-- One that reads what no store of the region hits. -/
theorem Till.takeT {i : Nat} {oi : Oper} {v : Value} {n : Nat} {listed : Array Bool} {a : Act} {w : World} (d : Tmp) (hi : ops[i]? = some oi) (hd : oi.dst = some d) (hs : Region.noSelect ops = true) (hf : Region.free md ops listed i = true)
    (hr : (Region.ready md ops listed).contains i = true) (hsi : (s != i) = true) (hQ : ∀ c a w, Q (.panic c) (a.put (some d) v) w → Q (.panic c) a w) (hy : YieldsIf P ops T oi v a) (hS : S w) (hT : T w)
    (h : Till P md ops Q S T s n (listed.setIfInBounds i true) (a.put (some d) v) w) : Till P md ops Q S T s (n + 1) listed a w := by
  rw [← hd] at hQ h
  have hne : s ≠ i := by simpa using hsi
  refine Till.first (R := T) (G := fun _ => True) hi (Region.noSelect_spec hs) hQ (fun l j w' hr' hj hji hg hk => ⟨⟨fun h0 => hk.1 ?_, hk.2⟩, hk.2, trivial⟩) (fun _ _ _ _ h _ => h) n listed a w (Region.free_spec hi hf) (by simpa using hr) trivial hy hT ⟨fun _ => hS, hT⟩ h
  by_cases hjs : j = s
  · subst hjs
    by_cases hlt : j < l.size
    · simp [hlt] at h0
    · rw [Array.getD_eq_getD_getElem?, Array.getElem?_eq_none (by simp; omega)]
      rfl
  · rw [getD_keep false hjs, getD_keep false (Ne.symm hne)]
    rwa [getD_keep false hjs] at h0

/-- There is one step that may come up. -/
theorem Till.one {i : Nat} {o : Oper} {n : Nat} {listed : Array Bool} {a : Act} {w : World} (hr : Region.ready md ops listed = [i]) (ho : ops[i]? = some o)
    (h : ∀ K' : Act → World → Prop, Hid (∀ a w, (((listed.setIfInBounds i true).getD s false = false → S w) ∧ T w) → Till P md ops Q S T s n (listed.setIfInBounds i true) a w → K' a w) →
      if Region.wanted o (yielded ops a.tmps) = true then Oper.wp P o a w K' Q else K' (a.put o.dst undef) w) : Till P md ops Q S T s (n + 1) listed a w := by
  refine ⟨fun h0 => (by rw [hr] at h0; cases h0), fun j hj => ?_⟩
  rw [hr] at hj
  obtain rfl : j = i := by simpa using hj
  exact wpOp_step ho (fun K' hK => h K' (fun a w h1 h2 => hK a w ⟨h1, h2⟩))

theorem Till.done {n : Nat} {listed : Array Bool} {a : Act} {w : World} (hr : Region.ready md ops listed = []) (h : Q .normal a w) : Till P md ops Q S T s n listed a w := by
  cases n with
  | zero => exact ⟨hr, h⟩
  | succ n => exact ⟨fun _ => h, by rw [hr]; simp⟩

theorem till_region {id : Nat} {a : Act} {w : World} (s : Nat) (S T : World → Prop) (N : Nat) (hm : P.follows .mixedOrders = true) (hN : ops.size = N) (h : Till P .any ops Q S T s N (Array.replicate N false) a w.drew) : (Code.region id ops true).wp P Q a w :=
  by subst hN; exact wp_region_any hm (Till.any _ _ _ _ h)
end
end Go.Proofs.Ytapnighankepjaa.Od
