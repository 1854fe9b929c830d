/- Loops over an iterator that collect what comes: what a round of such a loop keeps. -/
import Derived.OrdersHeld
import Derived.WalkKit
import Derived.OrdersIn
import Derived.OwnWalkIn
import Derived.RangeFuncNested
import Derived.RangeFuncBound
import Derived.RangeFuncCalls
import Derived.RangeFuncLeaves
import Derived.RangeFuncBox
import Derived.Shelf.Abstract
import Derived.Shelf.RegionOpen
import Derived.TacticsInMore
import Derived.LoopNIn
import Derived.LoopIn
import Derived.Maps.AppendAt
import Derived.Maps.OwnIn
import Derived.Lib.Hide
section
namespace Go.Proofs.Yteolfkkabhileaa.Od
open Go Go.RowKit

section
variable {P : Program} {ops : Array Oper} {Q : Exit → Act → World → Prop} {md : Region.Mode} {S T : World → Prop} {s : Nat}

/-- In whatever order the rest is done: the condition holds behind each step, until number s is done. -/
def Till (P : Program) (md : Region.Mode) (ops : Array Oper) (Q : Exit → Act → World → Prop) (S T : World → Prop) (s : Nat) : Nat → Array Bool → Act → World → Prop
  | 0, listed, a, w => Region.ready md ops listed = [] ∧ Q .normal a w
  | n + 1, listed, a, w => (Region.ready md ops listed = [] → Q .normal a w) ∧
      ∀ i ∈ Region.ready md ops listed, wpOp P ops Q i (fun a' w' => (((listed.setIfInBounds i true).getD s false = false → S w') ∧ T w') ∧ Till P md ops Q S T s n (listed.setIfInBounds i true) a' w') a w

theorem Till.any : ∀ (n : Nat) (listed : Array Bool) (a : Act) (w : World), Till P md ops Q S T s n listed a w → wpAny P md ops Q n listed a w
  | 0, _, _, _, h => h
  | n + 1, _, _, _, h => ⟨h.1, fun i hi => wpOp_mono (fun a' w' k => Till.any n _ a' w' k.2) (h.2 i hi)⟩

/-- Number s waits for number i. -/
def waits (md : Region.Mode) (ops : Array Oper) (s i : Nat) : Bool :=
  match ops[s]? with
  | some o => o.after.any fun e => Region.binds md e && e.on == i
  | none => false

theorem not_ready_of_waits {i : Nat} {listed : Array Bool} (hw : waits md ops s i = true) (hi : listed.getD i true = false) : s ∉ Region.ready md ops listed := by
  intro hs
  obtain ⟨_, o, ho, hall⟩ := mem_ready.1 hs
  unfold waits at hw
  rw [ho] at hw
  obtain ⟨e, he, hb⟩ := Array.any_eq_true'.1 hw
  simp only [Bool.and_eq_true, beq_iff_eq] at hb
  have h1 := hall e he hb.1
  rw [hb.2] at h1
  rcases Nat.lt_or_ge i listed.size with h | h
  · simp [h] at hi h1
    rw [hi] at h1
    cases h1
  · simp [Array.getElem?_eq_none h] at hi

theorem getD_keep {listed : Array Bool} {j k : Nat} (d : Bool) (h : j ≠ k) : (listed.setIfInBounds j true).getD k d = listed.getD k d := getD_set_ne d h

/-- A step that yields wherever a condition holds may be taken first, if that condition is known behind each step that may come ahead of it. -/
theorem Till.first {R : World → Prop} {G : Array Bool → Prop} {i : Nat} {oi : Oper} {v : Value} (hi : ops[i]? = some oi) (hsel : ∀ (j : Nat) (o : Oper) cs b, ops[j]? = some o → o.op ≠ .select cs b)
    (hQ : ∀ c a w, Q (.panic c) (a.put oi.dst v) w → Q (.panic c) a w)
    (hG : ∀ listed j w', i ∈ Region.ready md ops listed → j ∈ Region.ready md ops listed → j ≠ i → G listed → ((((listed.setIfInBounds i true).setIfInBounds j true).getD s false = false → S w') ∧ T w') → (((listed.setIfInBounds j true).getD s false = false → S w') ∧ T w') ∧ R w' ∧ G (listed.setIfInBounds j true))
    (hST : ∀ listed w, G listed → i ∈ Region.ready md ops listed → R w → ((listed.setIfInBounds i true).getD s false = false → S w) ∧ T w → R w) :
    ∀ (n : Nat) (listed : Array Bool) (a : Act) (w : World),
      (∀ j oj, ops[j]? = some oj → j ≠ i → listed.getD j true = false → (∀ e ∈ oj.after, Region.binds md e = true → e.on ≠ i) → oi.apart ops oj = true) →
      i ∈ Region.ready md ops listed → G listed → YieldsIf P ops R oi v a → R w → (((listed.setIfInBounds i true).getD s false = false → S w) ∧ T w) →
      Till P md ops Q S T s n (listed.setIfInBounds i true) (a.put oi.dst v) w → Till P md ops Q S T s (n + 1) listed a w := by
  intro n
  induction n with
  | zero =>
    intro listed a w _ hr hg hy hR hw H
    refine ⟨fun h => (by rw [h] at hr; cases hr), fun j hj => ?_⟩
    by_cases hji : j = i
    · subst hji
      exact hy.wpOp hi hR ⟨hw, H⟩
    · have hm := ready_mono hj hji
      rw [H.1] at hm
      cases hm
  | succ n ih =>
    intro listed a w hfree hr hg hy hR hw H
    refine ⟨fun h => (by rw [h] at hr; cases hr), fun j hj => ?_⟩
    by_cases hji : j = i
    · subst hji
      exact hy.wpOp hi hR ⟨hw, H⟩
    · have hun : listed.getD i true = false := (mem_ready.1 hr).1
      obtain ⟨hjun, oj, hoj, hall⟩ := mem_ready.1 hj
      have hnot : ∀ e ∈ oj.after, Region.binds md e = true → e.on ≠ i := fun e he hb heq => by
        have h1 := hall e he hb
        rw [heq] at h1
        rcases Nat.lt_or_ge i listed.size with h' | h'
        · simp [h'] at hun h1
          rw [hun] at h1
          cases h1
        · simp [Array.getElem?_eq_none h'] at hun
      have step := wpOp_putIf hoj (hfree j oj hoj hji hjun hnot) (fun cs b => hsel i oi cs b hi) (fun cs b => hsel j oj cs b hoj) hQ hy (H.2 j (ready_mono hj hji))
      have hfree' : ∀ k ok, ops[k]? = some ok → k ≠ i → (listed.setIfInBounds j true).getD k true = false → (∀ e ∈ ok.after, Region.binds md e = true → e.on ≠ i) → oi.apart ops ok = true := fun k ok hk hki hku hno => by
        refine hfree k ok hk hki ?_ hno
        by_cases hjk : j = k
        · subst hjk
          exact hjun
        · rw [getD_keep true hjk] at hku
          exact hku
      refine wpOp_mono (fun a' w' k => ?_) step
      obtain ⟨h1, h2, h3⟩ := hG listed j w' hr hj hji hg k.2.1
      have hk := k.2.1
      rw [Array.setIfInBounds_comm _ _ (Ne.symm hji)] at hk
      refine ⟨h1, ih (listed.setIfInBounds j true) a' w' hfree' (ready_mono hr (Ne.symm hji)) h3 k.1 h2 hk ?_⟩
      rw [Array.setIfInBounds_comm _ _ hji]
      exact k.2.2

/-- One that reads what a store of the region hits: it is taken first by the condition that holds till that store. -/
theorem Till.take {i : Nat} {oi : Oper} {v : Value} {n : Nat} {listed : Array Bool} {a : Act} {w : World} (d : Tmp) (hi : ops[i]? = some oi) (hd : oi.dst = some d) (hs : Region.noSelect ops = true) (hf : Region.free md ops listed i = true)
    (hr : (Region.ready md ops listed).contains i = true) (hq : (s != i && waits md ops s i && !listed.getD s false) = true) (hQ : ∀ c a w, Q (.panic c) (a.put (some d) v) w → Q (.panic c) a w) (hy : YieldsIf P ops S oi v a) (hS : S w) (hT : T w)
    (h : Till P md ops Q S T s n (listed.setIfInBounds i true) (a.put (some d) v) w) : Till P md ops Q S T s (n + 1) listed a w := by
  rw [← hd] at hQ h
  simp only [Bool.and_eq_true, bne_iff_ne, Bool.not_eq_true'] at hq
  refine Till.first (R := S) (G := fun l => l.getD s false = false) hi (Region.noSelect_spec hs) hQ (fun l j w' hr' hj hji hg hk => ?_) (fun _ _ _ _ h _ => h) n listed a w (Region.free_spec hi hf) (by simpa using hr) hq.2 hy hS ⟨fun _ => hS, hT⟩ h
  have hjs : j ≠ s := fun e => not_ready_of_waits hq.1.2 (mem_ready.1 hr').1 (e ▸ hj)
  have h1 : (l.setIfInBounds j true).getD s false = false := by rw [getD_keep false hjs]; exact hg
  have h2 : ((l.setIfInBounds i true).setIfInBounds j true).getD s false = false := by rw [getD_keep false hjs, getD_keep false (Ne.symm hq.1.1)]; exact hg
  exact ⟨⟨fun _ => hk.1 h2, hk.2⟩, hk.1 h2, h1⟩

/-- One that reads what no store of the region hits. -/
theorem Till.takeT {i : Nat} {oi : Oper} {v : Value} {n : Nat} {listed : Array Bool} {a : Act} {w : World} (d : Tmp) (hi : ops[i]? = some oi) (hd : oi.dst = some d) (hs : Region.noSelect ops = true) (hf : Region.free md ops listed i = true)
    (hr : (Region.ready md ops listed).contains i = true) (hsi : (s != i) = true) (hQ : ∀ c a w, Q (.panic c) (a.put (some d) v) w → Q (.panic c) a w) (hy : YieldsIf P ops T oi v a) (hS : S w) (hT : T w)
    (h : Till P md ops Q S T s n (listed.setIfInBounds i true) (a.put (some d) v) w) : Till P md ops Q S T s (n + 1) listed a w := by
  rw [← hd] at hQ h
  have hne : s ≠ i := by simpa using hsi
  refine Till.first (R := T) (G := fun _ => True) hi (Region.noSelect_spec hs) hQ (fun l j w' hr' hj hji hg hk => ⟨⟨fun h0 => hk.1 ?_, hk.2⟩, hk.2, trivial⟩) (fun _ _ _ _ h _ => h) n listed a w (Region.free_spec hi hf) (by simpa using hr) trivial hy hT ⟨fun _ => hS, hT⟩ h
  by_cases hjs : j = s
  · subst hjs
    by_cases hlt : j < l.size
    · simp [hlt] at h0
    · rw [Array.getD_eq_getD_getElem?, Array.getElem?_eq_none (by simp; omega)]
      rfl
  · rw [getD_keep false hjs, getD_keep false (Ne.symm hne)]
    rwa [getD_keep false hjs] at h0

/-- There is one step that may come up. -/
theorem Till.one {i : Nat} {o : Oper} {n : Nat} {listed : Array Bool} {a : Act} {w : World} (hr : Region.ready md ops listed = [i]) (ho : ops[i]? = some o)
    (h : ∀ K' : Act → World → Prop, Hid (∀ a w, (((listed.setIfInBounds i true).getD s false = false → S w) ∧ T w) → Till P md ops Q S T s n (listed.setIfInBounds i true) a w → K' a w) →
      if Region.wanted o (yielded ops a.tmps) = true then Oper.wp P o a w K' Q else K' (a.put o.dst undef) w) : Till P md ops Q S T s (n + 1) listed a w := by
  refine ⟨fun h0 => (by rw [hr] at h0; cases h0), fun j hj => ?_⟩
  rw [hr] at hj
  obtain rfl : j = i := by simpa using hj
  exact wpOp_step ho (fun K' hK => h K' (fun a w h1 h2 => hK a w ⟨h1, h2⟩))

theorem Till.done {n : Nat} {listed : Array Bool} {a : Act} {w : World} (hr : Region.ready md ops listed = []) (h : Q .normal a w) : Till P md ops Q S T s n listed a w := by
  cases n with
  | zero => exact ⟨hr, h⟩
  | succ n => exact ⟨fun _ => h, by rw [hr]; simp⟩

theorem till_region {id : Nat} {a : Act} {w : World} (s : Nat) (S T : World → Prop) (N : Nat) (hm : P.follows .mixedOrders = true) (hN : ops.size = N) (h : Till P .any ops Q S T s N (Array.replicate N false) a w.drew) : (Code.region id ops true).wp P Q a w :=
  by subst hN; exact wp_region_any hm (Till.any _ _ _ _ h)
end
end Go.Proofs.Yteolfkkabhileaa.Od
end
section
namespace Go.Proofs.Yteolfkkabhileaa.Oi
open Go Go.RowKit

section
variable {F : Fence} {m : Nat} {P : Program} {ops : Array Oper} {Q : Exit → Act → World → Prop} {md : Region.Mode} {T : World → Prop}

/-- Nothing of the region is a defer or a select. -/
def plain (ops : Array Oper) : Bool := ops.all fun o => match o.op with
  | .defer _ => false
  | .select _ _ => false
  | _ => true
theorem plain_spec (h : plain ops = true) {j : Nat} {o : Oper} (hj : ops[j]? = some o) : (∀ c, o.op ≠ .defer c) ∧ (∀ cs b, o.op ≠ .select cs b) := by
  have hm : o ∈ ops := Array.mem_of_getElem? hj
  have h1 := Array.all_eq_true'.1 h o hm
  constructor
  · intro c e; rw [e] at h1; cases h1
  · intro cs b e; rw [e] at h1; cases h1
theorem sem_plain (h : plain ops = true) {j : Nat} {o : Oper} (hj : ops[j]? = some o) (ro : Option Nat) (ρ : Operand → Value) : o.semAt ro ρ = execOp ρ o := Oper.semAt_eq ro ρ o (plain_spec h hj).1

/-- Wherever T holds the operation yields v and leaves the world alone; it calls nothing. -/
def Yv (P : Program) (ops : Array Oper) (T : World → Prop) (o : Oper) (v : Value) (a : Act) : Prop := YieldsIf P ops T o v a ∧ ∀ w, o.about P w a.eval = none
theorem Yv.of_same {o : Oper} {v : Value} {a a' : Act} (hy : Yv P ops T o v a) (he : execOp a'.eval o = execOp a.eval o)
    (hw : Region.wanted o (yielded ops a'.tmps) = Region.wanted o (yielded ops a.tmps)) (hb : ∀ w, o.about P w a'.eval = o.about P w a.eval) : Yv P ops T o v a' :=
  ⟨hy.1.of_same he hw, fun w => by rw [hb w]; exact hy.2 w⟩
theorem Yv.step {i : Nat} {o : Oper} {v : Value} {a : Act} (hp : plain ops = true) (hi : ops[i]? = some o) (hy : Yv P ops T o v a) {K : Act → World → Prop} {w : World} (hT : T w) (h : K (a.put o.dst v) w) : wpOpIn F m P ops Q i K a w := by
  unfold wpOpIn
  simp only [hi]
  have hab : ∀ f, o.about P w a.eval = some f → F.fn f := fun f hf => by rw [hy.2 w] at hf; cases hf
  rcases hy.1 with ⟨hw, hv⟩ | ⟨hw, rfl⟩
  · simp only [hw, if_true, Oper.wpIn, sem_plain hp hi, hv w hT, Oper.uponIn]; exact ⟨hab, h⟩
  · simp only [hw, Bool.false_eq_true, if_false]; exact ⟨hab, h⟩
theorem step_put {i j : Nat} {oi oj : Oper} {v : Value} (hp : plain ops = true) (hi : ops[i]? = some oi) (hj : ops[j]? = some oj) (hap : oi.apart ops oj = true)
    (hQ : ∀ c a w, Q (.panic c) (a.put oi.dst v) w → Q (.panic c) a w) {K : Act → World → Prop} {a : Act} {w : World} (hy : Yv P ops T oi v a) (h : wpOpIn F m P ops Q j K (a.put oi.dst v) w) :
    wpOpIn F m P ops Q j (fun a' w' => Yv P ops T oi v a' ∧ K (a'.put oi.dst v) w') a w := by
  obtain ⟨h1, h2, h3⟩ := Oper.apart_spec hap
  have keep : ∀ (a : Act), Yv P ops T oi v a → ∀ u, Yv P ops T oi v (a.put oj.dst u) := fun a hy u =>
    hy.of_same (execOp_put oi (plain_spec hp hi).2 a oj.dst u h3) (wanted_put oi a oj.dst u h3) (fun w => about_put oi w a oj.dst u h3)
  unfold wpOpIn at h ⊢
  simp only [hj] at h ⊢
  rw [wanted_put oj a oi.dst v h1, about_put oj w a oi.dst v h1] at h
  by_cases hw : Region.wanted oj (yielded ops a.tmps) = true
  · rw [if_pos hw] at h ⊢
    unfold Oper.wpIn at *
    rw [about_put oj w a oi.dst v h1, sem_plain hp hj, execOp_put oj (plain_spec hp hj).2 a oi.dst v h1] at h
    rw [sem_plain hp hj]
    refine ⟨h.1, ?_⟩
    replace h := h.2
    generalize (execOp a.eval oj).run P w = r at *
    cases r with
    | ok x w' =>
      cases x <;> simp only [Oper.uponIn] at h ⊢
      case value u => exact ⟨keep a hy u, by rw [← Act.put_comm a v u h2]; exact h⟩
      case skip => exact ⟨keep a hy _, by rw [← Act.put_comm a v undef h2]; exact h⟩
      case defer d =>
        refine ⟨keep { a with defers := d :: a.defers } (hy.of_same rfl rfl (fun _ => rfl)) _, ?_⟩
        rw [← Act.put_comm _ v undef h2, ← Act.put_defers]
        exact h
      case enter f args =>
        refine ⟨h.1, CallsIn.mono h.2 fun e w'' he => ?_⟩
        cases e with
        | returned u => exact ⟨keep a hy u, by rw [← Act.put_comm a v u h2]; exact he⟩
        | panicked c => exact hQ _ _ _ he
        | outgrown => exact he
      case row row args => exact ⟨h.1, RowsIn.mono h.2 fun u w'' he => ⟨keep a hy u, by rw [← Act.put_comm a v u h2]; exact he⟩⟩
      case round l f tmps assign body =>
        refine ⟨h.1, RoundIn.mono h.2 fun e w'' he => ?_⟩
        cases e with
        | returned u => exact ⟨keep a hy u, by rw [← Act.put_comm a v u h2]; exact he⟩
        | panicked c => exact hQ _ _ _ he
        | outgrown => exact he
    | halt x w' =>
      cases x <;> simp only [Oper.uponIn] at h ⊢
      case panic u => exact hQ _ _ _ h
  · rw [if_neg hw] at h ⊢
    exact ⟨h.1, keep a hy _, by rw [← Act.put_comm a v undef h2]; exact h.2⟩

/-- In whatever order the rest is done: the condition holds behind each step. -/
def Till (F : Fence) (m : Nat) (P : Program) (md : Region.Mode) (ops : Array Oper) (Q : Exit → Act → World → Prop) (T : World → Prop) : Nat → Array Bool → Act → World → Prop
  | 0, listed, a, w => Region.ready md ops listed = [] ∧ Q .normal a w
  | n + 1, listed, a, w => (Region.ready md ops listed = [] → Q .normal a w) ∧
      ∀ i ∈ Region.ready md ops listed, wpOpIn F m P ops Q i (fun a' w' => T w' ∧ Till F m P md ops Q T n (listed.setIfInBounds i true) a' w') a w
theorem Till.any : ∀ (n : Nat) (listed : Array Bool) (a : Act) (w : World), Till F m P md ops Q T n listed a w → wpAnyIn F m P md ops Q n listed a w
  | 0, _, _, _, h => h
  | n + 1, _, _, _, h => ⟨h.1, fun i hi => wpOpIn_mono (fun a' w' k => Till.any n _ a' w' k.2) (h.2 i hi)⟩
theorem Till.first {i : Nat} {oi : Oper} {v : Value} (hp : plain ops = true) (hi : ops[i]? = some oi) (hQ : ∀ c a w, Q (.panic c) (a.put oi.dst v) w → Q (.panic c) a w) :
    ∀ (n : Nat) (listed : Array Bool) (a : Act) (w : World),
      (∀ j oj, ops[j]? = some oj → j ≠ i → listed.getD j true = false → (∀ e ∈ oj.after, Region.binds md e = true → e.on ≠ i) → oi.apart ops oj = true) →
      i ∈ Region.ready md ops listed → Yv P ops T oi v a → T w →
      Till F m P md ops Q T n (listed.setIfInBounds i true) (a.put oi.dst v) w → Till F m P md ops Q T (n + 1) listed a w := by
  intro n
  induction n with
  | zero =>
    intro listed a w _ hr hy hT H
    refine ⟨fun h => (by rw [h] at hr; cases hr), fun j hj => ?_⟩
    by_cases hji : j = i
    · subst hji
      exact hy.step hp hi hT ⟨hT, H⟩
    · have hm := ready_mono hj hji
      rw [H.1] at hm
      cases hm
  | succ n ih =>
    intro listed a w hfree hr hy hT H
    refine ⟨fun h => (by rw [h] at hr; cases hr), fun j hj => ?_⟩
    by_cases hji : j = i
    · subst hji
      exact hy.step hp hi hT ⟨hT, H⟩
    · have hun : listed.getD i true = false := (mem_ready.1 hr).1
      obtain ⟨hjun, oj, hoj, hall⟩ := mem_ready.1 hj
      have hnot : ∀ e ∈ oj.after, Region.binds md e = true → e.on ≠ i := fun e he hb heq => by
        have h1 := hall e he hb
        rw [heq] at h1
        rcases Nat.lt_or_ge i listed.size with h' | h'
        · simp [h'] at hun h1
          rw [hun] at h1
          cases h1
        · simp [Array.getElem?_eq_none h'] at hun
      have step := step_put hp hi hoj (hfree j oj hoj hji hjun hnot) hQ hy (H.2 j (ready_mono hj hji))
      have hfree' : ∀ k ok, ops[k]? = some ok → k ≠ i → (listed.setIfInBounds j true).getD k true = false → (∀ e ∈ ok.after, Region.binds md e = true → e.on ≠ i) → oi.apart ops ok = true := fun k ok hk hki hku hno => by
        refine hfree k ok hk hki ?_ hno
        by_cases hjk : j = k
        · subst hjk
          exact hjun
        · rw [getD_set_ne true hjk] at hku
          exact hku
      refine wpOpIn_mono (fun a' w' k => ?_) step
      refine ⟨k.2.1, ih (listed.setIfInBounds j true) a' w' hfree' (ready_mono hr (Ne.symm hji)) k.1 k.2.1 ?_⟩
      rw [Array.setIfInBounds_comm _ _ hji]
      exact k.2.2
/-- No panic is let by. -/
def Np (Q : Exit → Act → World → Prop) : Exit → Act → World → Prop := fun e a w => (∀ c, e ≠ .panic c) ∧ Q e a w
theorem Till.take {i : Nat} {oi : Oper} {v : Value} {n : Nat} {listed : Array Bool} {a : Act} {w : World} (d : Tmp) (hi : ops[i]? = some oi) (hd : oi.dst = some d) (hp : plain ops = true) (hf : Region.free md ops listed i = true)
    (hr : (Region.ready md ops listed).contains i = true) (hy : YieldsIf P ops T oi v a) (hab : ∀ w, oi.about P w a.eval = none) (hT : T w)
    (h : Till F m P md ops (Np Q) T n (listed.setIfInBounds i true) (a.put (some d) v) w) : Till F m P md ops (Np Q) T (n + 1) listed a w := by
  rw [← hd] at h
  exact Till.first hp hi (fun _ _ _ h => absurd rfl (h.1 _)) n listed a w (Region.free_spec hi hf) (by simpa using hr) ⟨hy, hab⟩ hT h
theorem Till.one {i : Nat} {o : Oper} {n : Nat} {listed : Array Bool} {a : Act} {w : World} (hr : Region.ready md ops listed = [i]) (ho : ops[i]? = some o)
    (h : ∀ K' : Act → World → Prop, Hid (∀ a w, T w → Till F m P md ops Q T n (listed.setIfInBounds i true) a w → K' a w) →
      if Region.wanted o (yielded ops a.tmps) = true then o.wpIn F m P a w K' Q else (∀ f, o.about P w a.eval = some f → F.fn f) ∧ K' (a.put o.dst undef) w) : Till F m P md ops Q T (n + 1) listed a w := by
  refine ⟨fun h0 => (by rw [hr] at h0; cases h0), fun j hj => ?_⟩
  rw [hr] at hj
  obtain rfl : j = i := by simpa using hj
  unfold wpOpIn
  simp only [ho]
  exact h _ (fun a w h1 h2 => ⟨h1, h2⟩)
theorem Till.done {n : Nat} {listed : Array Bool} {a : Act} {w : World} (hr : Region.ready md ops listed = []) (h : Q .normal a w) : Till F m P md ops (Np Q) T n listed a w := by
  have h' : Np Q .normal a w := ⟨(fun c e => by cases e), h⟩
  cases n with
  | zero => exact ⟨hr, h'⟩
  | succ n => exact ⟨fun _ => h', by rw [hr]; simp⟩
theorem till_region {id : Nat} {a : Act} {w : World} (T : World → Prop) (N : Nat) (hm : P.follows .mixedOrders = true) (hN : ops.size = N) (h : Till F m P .any ops (Np Q) T N (Array.replicate N false) a w.drew) : (Code.region id ops true).wpIn F m P Q a w :=
  by subst hN; exact wpIn_mono (wpIn_region_any hm (Till.any _ _ _ _ h)) (fun _ _ _ h => h.2)
end
end Go.Proofs.Yteolfkkabhileaa.Oi
end
section
namespace Go.Proofs.Yteolfkkabhileaa.Rg
open Go Go.RowKit Go.Shelf

/-- Block k is the box b, or the row of the slice in it. -/
def Own1 (b : Nat) (W : World) (k : Nat) : Prop := k = b ∨ ∃ a n c, W.cell? ⟨b, 0, none⟩ = some (.slice (some a) n c) ∧ a.block = k
/-- What a round keeps: every block of cells but the box and the row of the slice in it. -/
structure Kp (b : Nat) (W W' : World) : Prop where
  size : W.heap.size ≤ W'.heap.size
  same : ∀ k o, W.heap[k]? = some o → o.isCells = true → ¬ Own1 b W k → W'.heap[k]? = some o
  own : ∀ k, Own1 b W' k → Own1 b W k ∨ (W.heap.size ≤ k ∧ k < W'.heap.size)
theorem lt_of_some {W : World} {k : Nat} {o : Obj} (h : W.heap[k]? = some o) : k < W.heap.size := (Array.getElem?_eq_some_iff.1 h).1
theorem Kp.refl (b : Nat) (W : World) : Kp b W W := ⟨Nat.le_refl _, fun _ _ h _ _ => h, fun _ h => .inl h⟩
theorem Kp.trans {b : Nat} {A B C : World} (h : Kp b A B) (k : Kp b B C) : Kp b A C :=
  ⟨Nat.le_trans h.size k.size, fun i o hi hc hn => k.same i o (h.same i o hi hc hn) hc (fun ho => by
      rcases h.own i ho with h1 | ⟨h1, _⟩
      · exact hn h1
      · have := lt_of_some hi; omega),
   fun i ho => by
    rcases k.own i ho with h1 | ⟨h1, h2⟩
    · rcases h.own i h1 with h3 | ⟨h3, h4⟩
      · exact .inl h3
      · exact .inr ⟨h3, Nat.lt_of_lt_of_le h4 k.size⟩
    · exact .inr ⟨Nat.le_trans h.size h1, h2⟩⟩
theorem own1_same {b k : Nat} {W W' : World} (h : W'.heap[b]? = W.heap[b]?) (ho : Own1 b W' k) : Own1 b W k := by
  rcases ho with rfl | ⟨a, n, c, hc, hk⟩
  · exact .inl rfl
  · exact .inr ⟨a, n, c, (World.cell?_of_block (a := ⟨b, 0, none⟩) (w := W) h).symm.trans hc, hk⟩
/-- A turn of a block that is no cells, or none at all. -/
theorem Kp.grown {b : Nat} {W W' : World} {row : Option Nat} (hb : b < W.heap.size) (hg : W.grownBy W' row) (hr : ∀ r, row = some r → r ≠ b ∧ ∀ o, W.heap[r]? = some o → o.isCells = false) : Kp b W W' :=
  ⟨hg.size, fun k o hk hc _ => (hg.block k (lt_of_some hk) (fun e => by
      have := (hr k e.symm).2 o hk
      rw [hc] at this; cases this)).trans hk,
   fun k ho => .inl (own1_same (hg.block b hb (fun e => (hr b e.symm).1 rfl)) ho)⟩
theorem Kp.alloc {b : Nat} (W : World) (hb : b < W.heap.size) (o : Obj) : Kp b W (W.alloc o) := .grown hb (World.grownBy_alloc W o none) (fun r e => by cases e)
theorem Kp.put {b : Nat} {w : World} (hb : b < w.heap.size) : ∀ (W : World) (l : Nat) (o o' : Obj), w.heap.size ≤ l → W.heap[l]? = some o → o.isCells = false → o.isWalk = false → Kp b W (W.putObj l o') := fun W l o o' hl ho hc _ =>
  .grown (Nat.lt_trans (Nat.lt_of_lt_of_le hb hl) (lt_of_some ho)) (grownBy_putObj' W l o') (fun r e => by cases e; exact ⟨by omega, fun o2 h2 => by rw [ho] at h2; cases h2; exact hc⟩)
theorem grown_of_below {W W' : World} (h : Below W.heap.size W W') : W.grownBy W' none := ⟨h.os, h.tape, h.output, h.size, fun k hk _ => h.block k hk⟩
theorem Kp.below {b : Nat} {W W' : World} (hb : b < W.heap.size) (h : Below W.heap.size W W') : Kp b W W' := .grown hb (grown_of_below h) (fun r e => by cases e)
theorem own_block {v : Value} {g : Nat} (h : v.ownBlock = some g) : ∃ a n c, v = .slice (some a) n c ∧ a.block = g := by
  unfold Value.ownBlock at h
  split at h
  · next a n c => exact ⟨a, n, c, rfl, Option.some.inj h⟩
  · cases h
/-- 'l = append(l, ..)'. -/
theorem Kp.app {W w1 : World} {b : Nat} {t : TypeId} {v v' : Value} {tmp : Obj} (hv : Boxed W b t v) (hgrow : (W.alloc tmp).grownBy w1 v.ownBlock) (hat : v'.ownBlock = v.ownBlock ∨ v'.ownBlock = some (W.alloc tmp).heap.size) (hne : some b ≠ v.ownBlock) (hin : ∀ g, v'.ownBlock = some g → g < w1.heap.size) :
    Kp b W (w1.setCell ⟨b, 0, none⟩ v') := by
  have hsz : W.heap.size ≤ w1.heap.size := Nat.le_trans (by simp) hgrow.size
  have hv1 : Boxed w1 b t v := (hv.alloc tmp).kept hgrow hne
  refine ⟨by simpa [World.setCell] using hsz, fun k o hk hc hn => ?_, fun k ho => ?_⟩
  · have hkb : k ≠ b := fun e => hn (.inl e)
    have hkv : some k ≠ v.ownBlock := by
      intro e
      obtain ⟨a, n, c, rfl, h1⟩ := own_block e.symm
      exact hn (.inr ⟨a, n, c, hv.cell, h1⟩)
    have hlt := lt_of_some hk
    rw [Below.heap_setCell _ _ _ _ (by simpa using hkb)]
    exact (hgrow.block k (by simp; omega) hkv).trans ((Below.heap_alloc _ _ _ hlt).trans hk)
  · rcases ho with rfl | ⟨a, n, c, hc, hk⟩
    · exact .inl (.inl rfl)
    · rw [World.cell?_setCell_same' _ _ _ (by rw [hv1.cell]; rfl)] at hc
      obtain rfl := Option.some.inj hc
      rcases hat with h | h
      · obtain ⟨a', n', c', rfl, h1⟩ := own_block (g := a.block) h.symm
        exact .inl (.inr ⟨a', n', c', hv.cell, h1.trans hk⟩)
      · have : a.block = (W.alloc tmp).heap.size := Option.some.inj h
        refine .inr ⟨by rw [← hk, this]; simp, ?_⟩
        rw [← hk]
        simpa [World.setCell] using hin a.block rfl
/-- A block of cells beyond the box, while the box holds nothing. -/
theorem Kp.block {b g : Nat} {W W' : World} {o : Obj} (h : Kp b W W') (hnil : W.cell? ⟨b, 0, none⟩ = some (.slice none 0 0)) (hg : W.heap[g]? = some o) (hc : o.isCells = true) (hne : g ≠ b) : W'.heap[g]? = some o :=
  h.same g o hg hc (fun ho => by
    rcases ho with h1 | ⟨a, n, c, h1, _⟩
    · exact hne h1
    · rw [hnil] at h1; cases h1)
/-- A row that was made since, in a round's world. -/
theorem own_after {w w' : World} {B e sz b : Nat} {a : Option Addr} {n c : Nat} {xs : List Value} (h : w.ownsRow B e sz (.slice a n c) n xs) (hn : 0 < n) (hK : Kp b w w') (hnil : w.cell? ⟨b, 0, none⟩ = some (.slice none 0 0)) (hb : b < B) :
    ∃ g, a = some ⟨g, 0, none⟩ ∧ n ≤ c ∧ ∀ j u, xs[j]? = some u → w'.cell? ⟨g, j, none⟩ = some u := by
  rcases h.2 with ⟨h1, h0⟩ | ⟨g, cap, cur, h1, h2, h3, h4, _⟩
  · omega
  · injection h1 with e1 e2 e3
    subst e1
    subst e3
    refine ⟨g, rfl, h4, fun j u hu => ?_⟩
    have h5 := h.cells rfl j u hu
    rw [show (⟨g, 0, none⟩ : Addr).add j = ⟨g, j, none⟩ by unfold Addr.add; split <;> simp_all] at h5
    have h6 := hK.block hnil h3 rfl (by omega)
    exact (World.cell?_of_block (a := ⟨g, j, none⟩) (w := w) (h6.trans h3.symm)).trans h5
/-- The row of the slice in the box is there. -/
def Wf (b : Nat) (W : World) : Prop := ∀ k, Own1 b W k → k < W.heap.size
/-- A block that rounds leave alone. -/
def Sf (b : Nat) (W : World) (g : Nat) : Prop := g < W.heap.size ∧ ¬ Own1 b W g
theorem Wf.nil {b : Nat} {W : World} (hb : b < W.heap.size) (hnil : W.cell? ⟨b, 0, none⟩ = some (.slice none 0 0)) : Wf b W := by
  rintro k (rfl | ⟨a, n, c, h, _⟩)
  · exact hb
  · rw [hnil] at h; cases h
theorem Sf.nil {b g : Nat} {W : World} (hg : g < W.heap.size) (hne : g ≠ b) (hnil : W.cell? ⟨b, 0, none⟩ = some (.slice none 0 0)) : Sf b W g := by
  refine ⟨hg, ?_⟩
  rintro (rfl | ⟨a, n, c, h, _⟩)
  · exact hne rfl
  · rw [hnil] at h; cases h
theorem Wf.kp {b : Nat} {W W' : World} (h : Wf b W) (hK : Kp b W W') : Wf b W' := fun k ho => by
  rcases hK.own k ho with h1 | h1
  · exact Nat.lt_of_lt_of_le (h k h1) hK.size
  · exact h1.2
theorem Sf.kp {b g : Nat} {W W' : World} (h : Sf b W g) (hK : Kp b W W') : Sf b W' g := ⟨Nat.lt_of_lt_of_le h.1 hK.size, fun ho => by
  rcases hK.own g ho with h1 | h1
  · exact h.2 h1
  · have := h.1; omega⟩
theorem Sf.new {b g : Nat} {W W' : World} (h : Wf b W) (hb : b < W.heap.size) (hB : Below W.heap.size W W') (h1 : W.heap.size ≤ g) (h2 : g < W'.heap.size) : Sf b W' g := ⟨h2, fun ho => by
  have := h g (own1_same (hB.block b hb) ho); omega⟩
theorem cells_of_cell {W : World} {p : Addr} {v : Value} (h : W.cell? p = some v) : ∃ o, W.heap[p.block]? = some o ∧ o.isCells = true := by
  unfold World.cell? at h
  split at h
  · next c t z e => exact ⟨_, e, rfl⟩
  · cases h
theorem Kp.cell {b g o : Nat} {W W' : World} (hK : Kp b W W') (hs : Sf b W g) {v : Value} (h : W.cell? ⟨g, o, none⟩ = some v) : W'.cell? ⟨g, o, none⟩ = some v := by
  obtain ⟨ob, h1, h2⟩ := cells_of_cell h
  exact (World.cell?_of_block (a := ⟨g, o, none⟩) (w := W) ((hK.same g ob h1 h2 hs.2).trans h1.symm)).trans h
theorem Kp.block' {b g : Nat} {W W' : World} (hK : Kp b W W') (hs : Sf b W g) {o : Obj} (h : W.heap[g]? = some o) (hc : o.isCells = true) : W'.heap[g]? = some o := hK.same g o h hc hs.2
end Go.Proofs.Yteolfkkabhileaa.Rg
end
