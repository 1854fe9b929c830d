/- A word's text is read as the word (layer 3): the mathematics. -/
import Derived.Test.YtpeleifkednmoaaMLexJoinMath
import Derived.Test.YtpeleifkednmoaaMLexAppMath
import Derived.Test.YtpeleifkednmoaaM1
section
namespace Go.Proofs.Ytpeleifkednmoaa.Lx
open Go.ChangeShapes Go.WideShapes Go.ChangeAt Go.RowKit
set_option linter.unusedVariables false
set_option linter.unusedSimpArgs false

/-- Bytes that are one word, of this kind, number and text. -/
structure Good (x : Bs) (k n : Int) (S : Bs) : Prop where
  ne : x ≠ []
  ok : x.all okC = true
  gap : gapN x = 0
  com : isCom x = false
  scan : scanR x = ⟨k, n, S, x.length, 0⟩
theorem good_mark {k : Int} (h : k ∈ [1, 2, 3, 4, 5, 6, 7, 8]) : Good (markS k) k 0 [] := by
  simp only [List.mem_cons, List.not_mem_nil, or_false] at h
  rcases h with rfl | rfl | rfl | rfl | rfl | rfl | rfl | rfl
  all_goals exact ⟨by decide, by kernel_rfl, by kernel_rfl, by kernel_rfl, by kernel_rfl⟩
theorem good_true : Good [35, 116] 10 1 [] := ⟨by decide, by kernel_rfl, by kernel_rfl, by kernel_rfl, by kernel_rfl⟩
theorem good_false : Good [35, 102] 10 0 [] := ⟨by decide, by kernel_rfl, by kernel_rfl, by kernel_rfl, by kernel_rfl⟩
/- Characters. -/
instance : DecidableEq Sc := fun a b => by
  rcases a with ⟨k, n, S, z, e⟩
  rcases b with ⟨k', n', S', z', e'⟩
  exact decidable_of_iff (k = k' ∧ n = n' ∧ S = S' ∧ z = z' ∧ e = e') ⟨fun ⟨h1, h2, h3, h4, h5⟩ => by subst h1 h2 h3 h4 h5; rfl, fun h => by injection h with h1 h2 h3 h4 h5; exact ⟨h1, h2, h3, h4, h5⟩⟩
def chrX (n : Nat) : Bs := 35 :: 92 :: spellS (UInt8.ofNat n)
theorem chr_all : ∀ n : Fin 128, (chrX n.val).all okC = true ∧ gapN (chrX n.val) = 0 ∧ isCom (chrX n.val) = false ∧ scanR (chrX n.val) = ⟨11, (n.val : Int), [], (chrX n.val).length, 0⟩ := by decide +kernel
theorem good_chr {n : Int} (h : 0 ≤ n ∧ n < 128) : Good (35 :: 92 :: spellS (chrC n)) 11 n [] := by
  obtain ⟨m, rfl⟩ := Int.eq_ofNat_of_zero_le h.1
  have hm : m < 128 := by omega
  obtain ⟨h1, h2, h3, h4⟩ := chr_all ⟨m, hm⟩
  have e : 35 :: 92 :: spellS (chrC (m : Int)) = chrX m := by unfold chrC chrX; rw [Int.toNat_natCast]
  rw [e]
  exact ⟨by unfold chrX; simp, h1, h2, h3, h4⟩
/- Runs. -/
theorem takeWhile_all {p : UInt8 → Bool} : ∀ (l : Bs), (∀ c ∈ l, p c = true) → l.takeWhile p = l
  | [], _ => rfl
  | c :: r, h => by rw [List.takeWhile_cons, if_pos (h c (List.mem_cons_self ..)), takeWhile_all r (fun x hx => h x (List.mem_cons_of_mem _ hx))]
theorem good_run {c : UInt8} {r : Bs} {k n : Int} {S : Bs} (hd : ∀ x ∈ c :: r, delimB x = false) (hok : (c :: r).all okC = true) (hc : c ≠ 35 ∧ c ≠ 39 ∧ c ≠ 96 ∧ c ≠ 44) (hm : meanR (c :: r) = ⟨k, n, S, 0⟩) : Good (c :: r) k n S := by
  have hdc := hd c (List.mem_cons_self ..)
  unfold delimB at hdc
  simp only [Bool.or_eq_false_iff] at hdc
  obtain ⟨⟨⟨⟨hb, h40⟩, h41⟩, h34⟩, h59⟩ := hdc
  have n40 : c ≠ 40 := u8_ne (n := 40) (by decide) h40
  have n41 : c ≠ 41 := u8_ne (n := 41) (by decide) h41
  have n34 : c ≠ 34 := u8_ne (n := 34) (by decide) h34
  have n59 : c ≠ 59 := u8_ne (n := 59) (by decide) h59
  obtain ⟨n35, n39, n96, n44⟩ := hc
  have hcom : isCom (c :: r) = false := by
    unfold isCom
    split
    · next h => injection h with a b; exact absurd a n35
    · rfl
  have hgap : gapN (c :: r) = 0 := by
    show (if blankB c = true then 1 else if (c == 59) = true then lineN (c :: r) else if isCom (c :: r) = true then comN (c :: r) else 0) = 0
    rw [if_neg (by rw [hb]; decide), if_neg (by simpa using n59), if_neg (by rw [hcom]; decide)]
  have hpre : ∀ (p : Bs) (d : UInt8), c ≠ d → Lib.hasPrefix (c :: r) (d :: p) = false := fun p d hne => by
    rcases hp : Lib.hasPrefix (c :: r) (d :: p) with _ | _
    · rfl
    · obtain ⟨q, hq⟩ := (hasPrefix_iff _ _).1 hp
      injection hq with a b
      exact absurd a hne
  have hmk : markF kinds7 (c :: r) = 0 := by
    unfold kinds7
    simp only [markF]
    rw [if_neg (by rw [show markS 1 = [40] from rfl, hpre _ _ n40]; decide), if_neg (by rw [show markS 2 = [41] from rfl, hpre _ _ n41]; decide), if_neg (by rw [show markS 3 = [35, 40] from rfl, hpre _ _ n35]; decide), if_neg (by rw [show markS 4 = [39] from rfl, hpre _ _ n39]; decide), if_neg (by rw [show markS 5 = [96] from rfl, hpre _ _ n96]; decide), if_neg (by rw [show markS 7 = [44, 64] from rfl, hpre _ _ n44]; decide), if_neg (by rw [show markS 6 = [44] from rfl, hpre _ _ n44]; decide)]
  have hq : isQuote (c :: r) = false := by
    unfold isQuote
    split
    · next h => injection h with a b; exact absurd a n34
    · rfl
  have hrn : runN (c :: r) = (c :: r).length := by
    show 1 + (r.takeWhile (fun x => !delimB x)).length = _
    rw [takeWhile_all r (fun x hx => by rw [hd x (List.mem_cons_of_mem _ hx)]; rfl), List.length_cons]
    omega
  refine ⟨by simp, hok, hgap, hcom, ?_⟩
  unfold scanR
  rw [hmk, if_neg (by decide), hq, if_neg (by decide), if_neg (by intro h; have := beq_iff_eq.1 h; injection this with a b; exact n35 a), hpre _ _ n35, if_neg (by decide)]
  unfold runSc
  rw [hrn, List.take_length, hm]
  rfl
theorem bytes_dig : ∀ n : Fin 256, Fx.dig (UInt8.ofNat n.val) = true → delimB (UInt8.ofNat n.val) = false ∧ okC (UInt8.ofNat n.val) = true ∧ digitB (UInt8.ofNat n.val) = true ∧ UInt8.ofNat n.val ≠ 35 ∧ UInt8.ofNat n.val ≠ 39 ∧ UInt8.ofNat n.val ≠ 96 ∧ UInt8.ofNat n.val ≠ 44 ∧ UInt8.ofNat n.val ≠ 46 ∧ UInt8.ofNat n.val ≠ 45 ∧ UInt8.ofNat n.val ≠ 43 := by decide +kernel
theorem of_byte (c : UInt8) : UInt8.ofNat c.toNat = c := by simp
theorem dig_facts {c : UInt8} (h : Fx.dig c = true) : delimB c = false ∧ okC c = true ∧ digitB c = true ∧ c ≠ 35 ∧ c ≠ 39 ∧ c ≠ 96 ∧ c ≠ 44 ∧ c ≠ 46 ∧ c ≠ 45 ∧ c ≠ 43 := by
  have := bytes_dig ⟨c.toNat, c.toNat_lt⟩
  simp only [of_byte] at this
  exact this h
theorem mean_fix {c : UInt8} {r : Bs} {n : Int} (h46 : c ≠ 46) (h35 : c ≠ 35) (hn : numB (c :: r) = true) (hv : Fx.parV (c :: r) = n) (he : Fx.parE (c :: r) = 0) : meanR (c :: r) = ⟨9, n, [], 0⟩ := by
  unfold meanR
  rw [if_neg (by intro h; have := beq_iff_eq.1 h; injection this with a b; exact h46 a), if_neg (by intro h; have := beq_iff_eq.1 h; injection this with a b; exact h35 a), if_neg (by intro h; have := beq_iff_eq.1 h; injection this with a b; exact h35 a), if_pos hn, he, hv]
  rfl
theorem good_fix {n : Int} (h : Fx.inB n = true) : Good (Fx.textL n) 9 n [] := by
  obtain ⟨hv, he⟩ := Fx.par_text h
  have hall := Fx.decL_all n.natAbs
  by_cases hneg : n < 0
  · rw [Fx.text_neg hneg] at hv he ⊢
    obtain ⟨d, r, hd⟩ : ∃ d r, Fx.decL n.natAbs = d :: r := by
      cases hx : Fx.decL n.natAbs with
      | nil => exact absurd hx (Fx.decL_ne _)
      | cons d r => exact ⟨d, r, rfl⟩
    rw [hd] at hall hv he ⊢
    have hdg := fun x hx => dig_facts (List.all_eq_true.1 hall x hx)
    refine good_run (fun x hx => ?_) ?_ (by decide) (mean_fix (by decide) (by decide) ?_ hv he)
    · rcases List.mem_cons.1 hx with rfl | hx
      · decide
      · exact (hdg x hx).1
    · rw [List.all_cons, Bool.and_eq_true]
      exact ⟨by decide, List.all_eq_true.2 (fun x hx => (hdg x hx).2.1)⟩
    · show (if (((45 : UInt8).toNat : Int) == 45 || ((45 : UInt8).toNat : Int) == 43) = true then digitB d else digitB 45) = true
      rw [if_pos (by decide)]
      exact (hdg d (List.mem_cons_self ..)).2.2.1
  · rw [Fx.text_pos hneg] at hv he ⊢
    obtain ⟨d, r, hd⟩ : ∃ d r, Fx.decL n.natAbs = d :: r := by
      cases hx : Fx.decL n.natAbs with
      | nil => exact absurd hx (Fx.decL_ne _)
      | cons d r => exact ⟨d, r, rfl⟩
    rw [hd] at hall hv he ⊢
    have hdg := fun x hx => dig_facts (List.all_eq_true.1 hall x hx)
    obtain ⟨f1, f2, f3, f4, f5, f6, f7, f8, f9, f10⟩ := hdg d (List.mem_cons_self ..)
    refine good_run (fun x hx => (hdg x hx).1) (List.all_eq_true.2 (fun x hx => (hdg x hx).2.1)) ⟨f4, f5, f6, f7⟩ (mean_fix f8 f4 ?_ hv he)
    cases r with
    | nil => exact f3
    | cons e q =>
      show (if _ then _ else digitB d) = true
      rw [if_neg ?_]
      · exact f3
      · intro h
        simp only [Bool.or_eq_true] at h
        rcases h with h | h
        · exact f9 (u8_is (n := 45) (by decide) h)
        · exact f10 (u8_is (n := 43) (by decide) h)
/- Symbols. -/
theorem bytes_cont : ∀ n : Fin 256, Da.contB (UInt8.ofNat n.val) = true → delimB (UInt8.ofNat n.val) = false ∧ okC (UInt8.ofNat n.val) = true := by decide +kernel
theorem bytes_beg : ∀ n : Fin 256, Da.begB (UInt8.ofNat n.val) = true → digitB (UInt8.ofNat n.val) = false ∧ UInt8.ofNat n.val ≠ 35 ∧ UInt8.ofNat n.val ≠ 39 ∧ UInt8.ofNat n.val ≠ 96 ∧ UInt8.ofNat n.val ≠ 44 ∧ UInt8.ofNat n.val ≠ 46 ∧ UInt8.ofNat n.val ≠ 45 ∧ UInt8.ofNat n.val ≠ 43 := by decide +kernel
theorem cont_facts {c : UInt8} (h : Da.contB c = true) : delimB c = false ∧ okC c = true := by
  have := bytes_cont ⟨c.toNat, c.toNat_lt⟩
  simp only [of_byte] at this
  exact this h
theorem beg_facts {c : UInt8} (h : Da.begB c = true) : digitB c = false ∧ c ≠ 35 ∧ c ≠ 39 ∧ c ≠ 96 ∧ c ≠ 44 ∧ c ≠ 46 ∧ c ≠ 45 ∧ c ≠ 43 := by
  have := bytes_beg ⟨c.toNat, c.toNat_lt⟩
  simp only [of_byte] at this
  exact this h
theorem good_sym {x : Bs} (h : symL x = true) : Good x 13 0 x := by
  have hs := h
  unfold symL at h
  simp only [Bool.or_eq_true, beq_iff_eq, Bool.and_eq_true] at h
  rcases h with ((rfl | rfl) | rfl) | ⟨⟨⟨h1, h2⟩, h3⟩, h4⟩
  · exact ⟨by decide, by kernel_rfl, by kernel_rfl, by kernel_rfl, by kernel_rfl⟩
  · exact ⟨by decide, by kernel_rfl, by kernel_rfl, by kernel_rfl, by kernel_rfl⟩
  · exact ⟨by decide, by kernel_rfl, by kernel_rfl, by kernel_rfl, by kernel_rfl⟩
  · cases x with
    | nil => exact absurd h1 (by decide)
    | cons c r =>
      obtain ⟨f1, f2, f3, f4, f5, f6, f7, f8⟩ := beg_facts (show Da.begB c = true from h3)
      have hcf := fun x hx => cont_facts (List.all_eq_true.1 h4 x hx)
      refine good_run (fun x hx => (hcf x hx).1) (List.all_eq_true.2 (fun x hx => (hcf x hx).2)) ⟨f2, f3, f4, f5⟩ ?_
      have hnum : numB (c :: r) = false := by
        cases r with
        | nil => exact f1
        | cons e q =>
          show (if _ then _ else digitB c) = false
          rw [if_neg ?_]
          · exact f1
          · intro h
            simp only [Bool.or_eq_true] at h
            rcases h with h | h
            · exact f7 (u8_is (n := 45) (by decide) h)
            · exact f8 (u8_is (n := 43) (by decide) h)
      unfold meanR
      rw [if_neg (by intro h; have := beq_iff_eq.1 h; injection this with a b; exact f6 a), if_neg (by intro h; have := beq_iff_eq.1 h; injection this with a b; exact f2 a), if_neg (by intro h; have := beq_iff_eq.1 h; injection this with a b; exact f2 a), hnum, if_neg (by decide), hs, if_pos rfl]
/- Strings. -/
def qX (n : Nat) : Bs := qS (UInt8.ofNat n)
/-- What a character within a string looks like. -/
def isOne (n : Nat) : Bool := (qX n == [UInt8.ofNat n]) && UInt8.ofNat n != 34 && UInt8.ofNat n != 92 && decide ((n : Int) ≥ 32)
def isTwo (n : Nat) : Bool := match qX n with | [92, e] => escF escs [92, e] == some (UInt8.ofNat n) | _ => false
def isFour (n : Nat) : Bool := match qX n with | [92, 120, a, b] => decI [120, a, b] == (n : Int) && a != 34 && a != 92 && b != 34 && b != 92 | _ => false
theorem chars_are : ∀ n : Fin 128, (isOne n.val || isTwo n.val || isFour n.val) = true ∧ (qX n.val).all okC = true := by decide +kernel
inductive QForm (c : UInt8) : Bs → Prop
  | one (h1 : c ≠ 34) (h2 : c ≠ 92) (h3 : (c.toNat : Int) ≥ 32) : QForm c [c]
  | two (e : UInt8) (h : escF escs [92, e] = some c) : QForm c [92, e]
  | four (a b : UInt8) (h : decI [120, a, b] = (c.toNat : Int)) (ha : a ≠ 34 ∧ a ≠ 92) (hb : b ≠ 34 ∧ b ≠ 92) : QForm c [92, 120, a, b]
theorem q_form {c : UInt8} (h : c.toNat < 128) : QForm c (qS c) ∧ (qS c).all okC = true := by
  obtain ⟨h1, h2⟩ := chars_are ⟨c.toNat, h⟩
  have e : qX c.toNat = qS c := by unfold qX; rw [of_byte]
  simp only at h1 h2
  rw [e] at h2
  refine ⟨?_, h2⟩
  simp only [Bool.or_eq_true] at h1
  rcases h1 with (h1 | h1) | h1
  · unfold isOne at h1
    rw [e, of_byte] at h1
    simp only [Bool.and_eq_true, beq_iff_eq, bne_iff_ne, decide_eq_true_eq] at h1
    rw [h1.1.1.1]
    exact .one h1.1.1.2 h1.1.2 h1.2
  · unfold isTwo at h1
    rw [e] at h1
    split at h1
    · next e' heq => rw [heq]; exact .two e' (by rw [of_byte] at h1; exact beq_iff_eq.1 h1)
    · cases h1
  · unfold isFour at h1
    rw [e] at h1
    split at h1
    · next a b heq =>
      simp only [Bool.and_eq_true, beq_iff_eq, bne_iff_ne] at h1
      rw [heq]
      exact .four a b h1.1.1.1.1 ⟨h1.1.1.1.2, h1.1.1.2⟩ ⟨h1.1.2, h1.2⟩
    · cases h1
theorem qEnd_form {c : UInt8} {q : Bs} (h : QForm c q) (r : Bs) : qEnd (q ++ r) = (qEnd r).map (· + q.length) := by
  cases h with
  | one h1 h2 h3 => exact qEnd_one c r h1 h2
  | two e he => exact qEnd_esc (e :: r)
  | four a b hd ha hb =>
    show qEnd (92 :: 120 :: a :: b :: r) = _
    rw [qEnd_esc]
    show (qEnd (a :: b :: r)).map _ = _
    rw [qEnd_one a _ ha.1 ha.2, qEnd_one b _ hb.1 hb.2, Option.map_map, Option.map_map]
    rfl
theorem escF_two (e : UInt8) (r : Bs) : escF escs (92 :: e :: r) = escF escs [92, e] := by
  unfold escs
  simp only [escF]
  have hp : ∀ x : UInt8, Lib.hasPrefix (92 :: e :: r) [92, x] = Lib.hasPrefix [92, e] [92, x] := fun x => by
    unfold Lib.hasPrefix
    simp [List.isPrefixOf]
  rw [show escapeS 10 = [92, 110] from rfl, show escapeS 9 = [92, 116] from rfl, show escapeS 92 = [92, 92] from rfl, show escapeS 34 = [92, 34] from rfl, hp, hp, hp, hp]
theorem unq_form {c : UInt8} {q : Bs} (h : QForm c q) (r : Bs) : unqL (q ++ r) = (unqL r).map (c :: ·) := by
  cases h with
  | one h1 h2 h3 =>
    have he : isEsc (c :: r) = false := by
      unfold isEsc
      split
      · next h => injection h with a b; exact absurd a h2
      · rfl
    have hb : stB (c :: r) = true := by unfold stB; rw [he]; simpa using h3
    have hn : stN (c :: r) = 1 := by unfold stN; rw [he]; rfl
    have hv : stC (c :: r) = c := by unfold stC stV; rw [he]; show UInt8.ofNat ((c.toNat : Int)).toNat = c; simp
    rw [List.singleton_append, unqL_step hb, hn, hv]
    rfl
  | two e hx =>
    show unqL (92 :: e :: r) = _
    have hf : escF escs (92 :: e :: r) = some c := by rw [escF_two, hx]
    have hb : stB (92 :: e :: r) = true := by
      show unescB (92 :: e :: r) = true
      unfold unescB; rw [hf]
    have hn : stN (92 :: e :: r) = 2 := by
      show (match escF escs (92 :: e :: r) with | some _ => 2 | none => _) = 2
      rw [hf]
    have hv : stC (92 :: e :: r) = c := by
      unfold stC
      show UInt8.ofNat (unescV (92 :: e :: r)).toNat = c
      unfold unescV; rw [hf]
      simp
    rw [unqL_step hb, hn, hv]
    rfl
  | four a b hd ha hb' =>
    show unqL (92 :: 120 :: a :: b :: r) = _
    have hf : escF escs (92 :: 120 :: a :: b :: r) = none := by rw [escF_two]; rfl
    have hcode : codeL (92 :: 120 :: a :: b :: r) = [120, a, b] := rfl
    have hb : stB (92 :: 120 :: a :: b :: r) = true := by
      show unescB (92 :: 120 :: a :: b :: r) = true
      unfold unescB; rw [hf, hcode, hd]; simp
    have hn : stN (92 :: 120 :: a :: b :: r) = 4 := by
      show (match escF escs (92 :: 120 :: a :: b :: r) with | some _ => 2 | none => min (92 :: 120 :: a :: b :: r).length 4) = 4
      rw [hf]
      simp only [List.length_cons]
      omega
    have hv : stC (92 :: 120 :: a :: b :: r) = c := by
      unfold stC
      show UInt8.ofNat (unescV (92 :: 120 :: a :: b :: r)).toNat = c
      unfold unescV; rw [hf, hcode]
      show UInt8.ofNat (decV [120, a, b]).toNat = c
      unfold decV
      rw [hd, if_pos (Int.natCast_nonneg _)]
      simp
    rw [unqL_step hb, hn, hv]
    rfl
theorem qEnd_quoteR (m : Bs) : ∀ (S : Bs), (∀ c ∈ S, c.toNat < 128) → qEnd (quoteR S ++ 34 :: m) = some (quoteR S).length
  | [], _ => rfl
  | c :: r, h => by
    have e : quoteR (c :: r) = qS c ++ quoteR r := by unfold quoteR; rw [List.flatMap_cons]
    rw [e, List.append_assoc, qEnd_form (q_form (h c (List.mem_cons_self ..))).1, qEnd_quoteR m r (fun x hx => h x (List.mem_cons_of_mem _ hx)), List.length_append]
    show some ((quoteR r).length + (qS c).length) = _
    rw [Nat.add_comm]
theorem unq_quote : ∀ (S : Bs), (∀ c ∈ S, c.toNat < 128) → unqL (quoteR S) = some S
  | [], _ => rfl
  | c :: r, h => by
    have e : quoteR (c :: r) = qS c ++ quoteR r := by unfold quoteR; rw [List.flatMap_cons]
    rw [e, unq_form (q_form (h c (List.mem_cons_self ..))).1, unq_quote r (fun x hx => h x (List.mem_cons_of_mem _ hx))]
    rfl
theorem quote_ok {S : Bs} (h : ∀ c ∈ S, c.toNat < 128) : (quoteR S).all okC = true := by
  refine List.all_eq_true.2 (fun x hx => ?_)
  unfold quoteR at hx
  obtain ⟨c, hc, hxc⟩ := List.mem_flatMap.1 hx
  exact List.all_eq_true.1 (q_form (h c hc)).2 x hxc
theorem good_str {S : Bs} (hl : S.length ≤ 256) (h : ∀ c ∈ S, c.toNat < 128) : Good (quoteS S) 12 0 S := by
  have hq : quotedN (quoteS S) = (quoteS S).length := by
    show (match qEnd (quoteR S ++ [34]) with | some n => n + 2 | none => 0) = _
    rw [qEnd_quoteR [] S h]
    unfold quoteS
    rw [List.length_cons, List.length_append]
    rfl
  have hin : ((quoteS S).drop 1).take ((quoteS S).length - 2) = quoteR S := by
    show (quoteR S ++ [34]).take (((34 :: (quoteR S ++ [34])) : Bs).length - 2) = _
    rw [List.length_cons, List.length_append, List.take_append_of_le_length (by simp), List.take_of_length_le (by simp)]
  refine ⟨by unfold quoteS; simp, ?_, ?_, rfl, ?_⟩
  · unfold quoteS
    rw [List.all_cons, List.all_append, quote_ok h]
    rfl
  · show (if blankB 34 = true then 1 else if ((34 : UInt8) == 59) = true then _ else if isCom (quoteS S) = true then _ else 0) = 0
    rw [if_neg (by decide), if_neg (by decide), if_neg (by rw [show isCom (quoteS S) = false from rfl]; decide)]
  · have hmk : markF kinds7 (quoteS S) = 0 := by
      rcases hm : markF kinds7 (quoteS S) == 0 with _ | _
      · exfalso
        obtain ⟨h1, h2⟩ := markF_prefix kinds7 (quoteS S) (by simpa using hm)
        generalize markF kinds7 (quoteS S) = k at *
        obtain ⟨r, hr⟩ := (hasPrefix_iff _ _).1 h1
        simp only [kinds7, List.mem_cons, List.not_mem_nil, or_false] at h2
        unfold quoteS at hr
        rcases h2 with rfl | rfl | rfl | rfl | rfl | rfl | rfl <;> (injection hr with a b; exact absurd a (by decide))
      · simpa using hm
    unfold scanR
    rw [hmk, if_neg (by decide), if_pos (by rfl)]
    unfold strSc
    rw [hq, if_neg (by unfold quoteS; simp), hin, unq_quote S h]
    unfold strU unqOk unqS
    rw [if_pos (by simp; omega)]
end Go.Proofs.Ytpeleifkednmoaa.Lx
end
