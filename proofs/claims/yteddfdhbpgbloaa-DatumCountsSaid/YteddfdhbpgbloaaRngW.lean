/- A loop over an iterator where what has come is known of in the world behind it. -/
import Derived.Test.YteddfdhbpgbloaaRng
namespace Go.Proofs.Yteddfdhbpgbloaa.Rg
open Go Go.RowKit Go.Shelf

/-- Where no depth is asked for, any will do. -/
theorem anyDepth {k : Nat} (m : Nat) {P : Program} {l : Nat} {args : Array Value} {W : World} {R : Ending → World → Prop} (h : YieldAt Fence.wide k P l args W R) : YieldAt Fence.wide m P l args W R := by
  obtain ⟨fn, tmps, assign, body, hy, hR⟩ := h
  exact ⟨fn, tmps, assign, body, hy, hR.1, fun c cs _ => hR.2 c cs (fun d h => by cases h)⟩
/-- What an iterator promises: what has come, and what is so of it in the world that it leaves. -/
def Comes {α : Type} (n : Nat) (P : Program) (f : Nat) (caps : Array Value) (encs : α → Array Value) (K : World → World → Prop) (S Sp : List α → World → Prop) (w : World) : Prop :=
  ∀ (l : Nat) (J Jx : List α → World → Prop) (W : World), Below w.heap.size w W → AbidesFrom W.heap.size J → AbidesFrom W.heap.size Jx →
    (∀ pre x W1, J pre W1 → YieldAt Fence.wide (n - 1) P l (encs x) W1 fun e W' => (e = .returned (.bool true) ∧ J (pre ++ [x]) W' ∧ K W1 W') ∨ (e = .returned (.bool false) ∧ Jx (pre ++ [x]) W' ∧ K W1 W')) →
    J [] W → CallsIn Fence.wide n P f (#[.func (.yield l) #[] #[]] ++ caps) W fun e W' => (∃ v, e = .returned v) ∧ ((∃ xs, S xs W' ∧ J xs W') ∨ (∃ pre, Sp pre W' ∧ Jx pre W'))
/-- How a round may end. -/
def RoundEnd {α : Type} (B : Nat) (K : World → World → Prop) (I : List α → World → Prop) (Ix : Code → List α → World → Prop) (xs : List α) (W : World) : Exit → World → Prop
  | .normal, W' => KeepsFrom B W W' ∧ K W W' ∧ I xs W'
  | .exit id, W' => KeepsFrom B W W' ∧ K W W' ∧ Ix (.exit id) xs W'
  | _, _ => False
section
variable {α : Type} {P : Program} {g : Operand} {ps : Array Tmp} {assign body : Code} {Q : Exit → Act → World → Prop} {a : Act} {w : World} {n : Nat}
theorem range_comes (h1 : 1 ≤ n) {f : Nat} {caps : Array Value} (hg : a.eval g = .func (.func f) #[] caps) (eg : ∀ args w, (callFunc f args).run P w = .ok (.enter f args) w)
    {encs : α → Array Value} {K : World → World → Prop} {S Sp : List α → World → Prop} {w0 : World} (hseq : Comes (n - 1) P f caps encs K S Sp w0)
    (hKt : ∀ {A B C : World}, K A B → K B C → K A C) (hKb : ∀ (W : World) (l : Nat) (o o' : Obj), w.heap.size ≤ l → W.heap[l]? = some o → o.isCells = false → o.isWalk = false → K W (W.putObj l o')) (hb0 : Below w0.heap.size w0 w) (hps : ∀ x, (encs x).size = ps.size)
    (hS : OwnFrom w.heap.size S) (hSp : OwnFrom w.heap.size Sp)
    (I : List α → World → Prop) (Ix : Code → List α → World → Prop) (hI : OwnFrom w.heap.size I) (hIx : ∀ c, OwnFrom w.heap.size (Ix c)) (h0 : I [] w) (Ax : α → Act → World → Prop) (hAx : ∀ x a', OwnFrom w.heap.size (fun (_ : Unit) W => Ax x a' W))
    (hassign : ∀ (l : Nat) (pre : List α) (x : α) (W : World) (T : Act → World → Prop), I pre W → (∀ a' W', KeepsFrom w.heap.size W W' → K W W' → I pre W' → Ax x a' W' → T a' W') →
      assign.wpIn (Fence.wide.inRound l) (n - 1 - 1) P (Exit.then T (fun _ _ _ => False)) { tmps := (ps.zip (encs x)).foldl (fun t (p, v) => t.setIfInBounds p v) a.tmps, defers := [] } W)
    (hbody : ∀ (l : Nat) (pre : List α) (x : α) (a' : Act) (W : World), w.heap.size ≤ l → (∃ r, W.heap[l]? = some (.loop r)) → I pre W → Ax x a' W → body.wpIn (Fence.wide.inRound l) (n - 1 - 1) P (fun e _ W' => RoundEnd w.heap.size K I Ix (pre ++ [x]) W e W') a' W)
    (hdone : ∀ (D : Nat) (xs : List α) (W : World), w.heap.size ≤ D → S xs W → I xs W → W.heap[D]? = some (.deferred (some [])) → Q .normal { a with defers := { target := .collected D, args := #[] } :: a.defers } W)
    (hstop : ∀ (D : Nat) (c : Code) (pre : List α) (W : World), w.heap.size ≤ D → Sp pre W → Ix c pre W → W.heap[D]? = some (.deferred (some [])) → c.wpIn Fence.wide n P Q { a with defers := { target := .collected D, args := #[] } :: a.defers } W) :
    (Code.rangeFunc g ps assign body).wpIn Fence.wide n P Q a w := by
  obtain ⟨b, hb⟩ : ∃ b, w.heap.size = b := ⟨_, rfl⟩
  rw [hb] at hS hSp hI hIx hAx hKb hassign hbody hdone hstop
  refine wpIn_rangeFunc fun fn hfn => ?_
  -- the loop's record, in the state st, with a jump that is pending
  obtain ⟨rc, hrc⟩ : ∃ rc : LoopState → Option Code → Loop, rc = fun st j => { state := st, pending := j, fn, tmps := a.tmps, params := ps, assign, body, defers := b } := ⟨_, rfl⟩
  have kD : ∀ o, ((w.alloc (.deferred (some []))).alloc o).heap[b]? = some (.deferred (some [])) := fun o => by
    rw [← hb]; exact (Below.heap_alloc _ _ _ (by simp)).trans (World.alloc_heap_new w _)
  have kL : ∀ o, ((w.alloc (.deferred (some []))).alloc o).heap[b + 1]? = some o := fun o => by
    have := World.alloc_heap_new (w.alloc (.deferred (some []))) o
    rwa [World.size_alloc, hb] at this
  have hstart : Below w0.heap.size w0 ((w.alloc (.deferred (some []))).alloc (.loop (rc .ready none))) :=
    hb0.trans ((((Below.refl _ w).alloc (Nat.le_refl _) _).alloc (by simp) _).mono hb0.size)
  obtain ⟨W1, hW1⟩ : ∃ W1, (w.alloc (.deferred (some []))).alloc (.loop (rc .ready none)) = W1 := ⟨_, rfl⟩
  have kD' := kD (.loop (rc .ready none))
  have kL' := kL (.loop (rc .ready none))
  have h01 : I [] ((w.alloc (.deferred (some []))).alloc (.loop (rc .ready none))) := hI.alloc _ (hI.alloc _ h0)
  have hsz : b ≤ ((w.alloc (.deferred (some []))).alloc (.loop (rc .ready none))).heap.size := by simp; omega
  rw [hW1] at kD' kL' h01 hsz hstart
  refine ⟨b + 1, [{ target := .collected b, args := #[] }], W1, { target := .fn (.func f) caps, args := #[.func (.yield (b + 1)) #[] #[]] }, W1, f, #[.func (.yield (b + 1)) #[] #[]] ++ caps, W1,
    by rw [← hW1, hrc, ← hb]; exact run_enterLoop_outer _ _ _ _ _, by simp only [resolve, hg]; simp [go_sem], fun f' _ => trivial, by simp [invoke, go_sem, eg], fun _ => h1, ?_⟩
  have turn : ∀ {A : World} {row : Option Nat} {s : Nat}, b ≤ s → (∀ r, row = some r → s ≤ r ∧ ∃ o : Obj, A.heap[r]? = some o ∧ o.isWalk = true) → ∀ r, row = some r → b ≤ r ∧ ∃ o : Obj, A.heap[r]? = some o ∧ o.isCells = false :=
    fun hs hr r e => by obtain ⟨h1, o, h2, h3⟩ := hr r e; exact ⟨Nat.le_trans hs h1, o, h2, Obj.not_cells_of_walk h3⟩
  have start := hseq (b + 1)
    (fun pre W => I pre W ∧ W.heap[b]? = some (.deferred (some [])) ∧ W.heap[b + 1]? = some (.loop (rc .ready none)))
    (fun pre W => ∃ c, Ix c pre W ∧ W.heap[b]? = some (.deferred (some [])) ∧ W.heap[b + 1]? = some (.loop (rc .done (some c))))
    W1 hstart
    (fun s A B row ⟨h1, h2, h3⟩ hg hr => ⟨hI s A B row h1 hg (turn hsz hr), (grownBy_keeps hg (fun r e => (hr r e).2) h2 rfl).trans h2, (grownBy_keeps hg (fun r e => (hr r e).2) h3 rfl).trans h3⟩)
    (fun s A B row ⟨c, h1, h2, h3⟩ hg hr => ⟨c, hIx c s A B row h1 hg (turn hsz hr), (grownBy_keeps hg (fun r e => (hr r e).2) h2 rfl).trans h2, (grownBy_keeps hg (fun r e => (hr r e).2) h3 rfl).trans h3⟩)
    ?round ⟨h01, kD', kL'⟩
  · rw [hrc] at start
    refine start.mono ?_
    rintro e W2 ⟨⟨v, rfl⟩, ⟨xs, hs, hi, h2, h3⟩ | ⟨pre, hs, c, hi, h2, h3⟩⟩
    · refine ⟨none, _, run_endLoop h3 (by simp), hdone b xs _ (Nat.le_refl _) (hS.putObj _ hs (by omega) h3 rfl) (hI.putObj _ hi (by omega) h3 rfl) ((World.putObj_heap_other (by omega)).trans h2)⟩
    · refine ⟨some c, _, run_endLoop h3 (by simp), hstop b c pre _ (Nat.le_refl _) (hSp.putObj _ hs (by omega) h3 rfl) ((hIx c).putObj _ hi (by omega) h3 rfl) ((World.putObj_heap_other (by omega)).trans h2)⟩
  case round =>
    intro pre x W hJ
    obtain ⟨hi, h2, h3⟩ := hJ
    have hy := run_yield (P := P) (args := encs x) h3 (by rw [hrc]; exact hps x)
    rw [hrc] at hy
    refine ⟨fn, _, assign, body, hy, roundIn_of_wpIn hfn (hassign _ pre x W _ hi fun a' V hf hk hia hax => ?_)⟩
    have h2' := hf.same _ _ (Nat.le_refl _) h2 rfl
    have h3' := hf.same _ _ (by omega) h3 rfl
    have hlt := (Array.getElem?_eq_some_iff.1 h3').1
    refine ⟨_, run_beginRound h3' (by rw [hrc]), ?_⟩
    obtain ⟨V1, hV1⟩ : ∃ V1, V.putObj (b + 1) (.loop { rc .ready none with state := .busy }) = V1 := ⟨_, rfl⟩
    have g3 : V1.heap[b + 1]? = some (.loop { rc .ready none with state := .busy }) := by rw [← hV1]; exact World.putObj_heap_same hlt
    have g2 : V1.heap[b]? = some (.deferred (some [])) := by rw [← hV1]; exact (World.putObj_heap_other (by omega)).trans h2'
    have gk : K W V1 := by rw [← hV1]; exact hKt hk (hKb _ _ _ _ (by omega) h3' rfl rfl)
    have gi : I pre V1 := by rw [← hV1]; exact hI.putObj _ hia (by omega) h3' rfl
    have ga : Ax x a' V1 := by rw [← hV1]; exact (hAx x a').putObj (s := ()) _ hax (by omega) h3' rfl
    rw [hV1]
    refine wpIn_mono (hbody _ pre x a' V1 (by omega) ⟨_, g3⟩ gi ga) fun e a3 V2 he => ?_
    have fin : ∀ (j : Option Code), KeepsFrom b V1 V2 → ∃ V3, (Instr.endRound (b + 1) j).run P V2 = .ok (.bool j.isNone) V3 ∧ V3 = V2.putObj (b + 1) (.loop (rc (if j.isNone then .ready else .done) j)) ∧
        V2.heap[b + 1]? = some (.loop { rc .ready none with state := .busy }) ∧ V3.heap[b]? = some (.deferred (some [])) ∧ V3.heap[b + 1]? = some (.loop (rc (if j.isNone then .ready else .done) j)) := fun j hk2 => by
      have q3 := hk2.same _ _ (by omega) g3 rfl
      have q2 := hk2.same _ _ (Nat.le_refl _) g2 rfl
      have hr := run_endRound (P := P) j q3
      refine ⟨_, hr, by rw [hrc], q3, (World.putObj_heap_other (by omega)).trans q2, ?_⟩
      rw [World.putObj_heap_same (Array.getElem?_eq_some_iff.1 q3).1, hrc]
    cases e with
    | normal =>
      obtain ⟨hk2, hkk, hin⟩ := he
      obtain ⟨V3, r1, r2, r3, r4, r5⟩ := fin none hk2
      refine ⟨_, _, r1, .inl ⟨rfl, ⟨?_, r4, r5⟩, ?_⟩⟩
      · rw [r2]; exact hI.putObj _ hin (by omega) r3 rfl
      · rw [r2]; exact hKt gk (hKt hkk (hKb _ _ _ _ (by omega) r3 rfl rfl))
    | exit id =>
      obtain ⟨hk2, hkk, hin⟩ := he
      obtain ⟨V3, r1, r2, r3, r4, r5⟩ := fin (some (.exit id)) hk2
      refine ⟨_, _, r1, .inr ⟨rfl, ⟨.exit id, ?_, r4, r5⟩, ?_⟩⟩
      · rw [r2]; exact (hIx _).putObj _ hin (by omega) r3 rfl
      · rw [r2]; exact hKt gk (hKt hkk (hKb _ _ _ _ (by omega) r3 rfl rfl))
    | ret => exact he.elim
    | goto t => exact he.elim
    | panic ch => exact he.elim
    | outgrown => exact he.elim
end
end Go.Proofs.Yteddfdhbpgbloaa.Rg
