/- The document's Cons: it answers what the program's answers. -/
import Derived.Test.YtjmchodddobleaaDatRPairs
namespace Go.Proofs.Ytjmchodddobleaa.Da
open Go.ChangeShapes Go.WideShapes Go.ChangeAt Go.RowKit
set_option maxRecDepth 100000

/-- append of data to a row of one datum that was just made. -/
theorem append_dats {w : World} {Q : Nat → Prop} {al : Option Addr} {cl g0 : Nat} {l : List Dt} {x0 x1 x2 x3 x4 x5 : Value} (ty : TypeId) (hb : Blk w g0 25 #[x0, x1, x2, x3, x4, x5]) (hs : IsSl al l.length cl) (hl : IsDts w Q al 0 l) (hn : l.length ≤ 4096) :
    ∃ g cap w' news, (Builtin.append_ #[23, 23] ty #[.slice (some ⟨g0, 0, none⟩) 1 1, .slice al l.length cl]).run Try.prog w = .ok (.slice (some ⟨g, 0, none⟩) (1 + l.length) cap) w' ∧ w.grownBy w' (some g0) ∧ (g = g0 ∨ w.heap.size ≤ g) ∧ 1 + l.length ≤ cap ∧ cap ≤ maxLen ∧ g < w'.heap.size ∧
      (∀ ad, al = some ad → ∀ j, j < l.length * 6 → ∃ u, news[j]? = some u ∧ w.cell? (ad.add j) = some u) ∧ (∀ j, j < (1 + l.length) * 6 → w'.cell? ⟨g, j, none⟩ = ([x0, x1, x2, x3, x4, x5] ++ news)[j]?) := by
  obtain ⟨i0, hi, hz0, hz1, hz2⟩ := info_parts datum_info
  have hown : w.ownsRow g0 25 6 (.slice (some ⟨g0, 0, none⟩) 1 1) 1 [x0, x1, x2, x3, x4, x5] := ⟨rfl, .inr ⟨g0, 1, _, rfl, Nat.le_refl _, hb, Nat.le_refl _, by simp [maxLen], rfl, rfl⟩⟩
  have hlt := hb.lt
  cases al with
  | none =>
    have h0 := hs.2.2.2 rfl
    have hl0 : l.length = 0 := by have := hs.1; omega
    subst h0
    obtain rfl := List.eq_nil_of_length_eq_zero hl0
    exact ⟨g0, 1, w, [], run_append_owned_none (P := Try.prog) (w := w) g0 23 ty 25 i0 6 Try.underlying23 hi _ 1 _ hown, ⟨rfl, rfl, rfl, Nat.le_refl _, fun _ _ _ => rfl⟩, .inl rfl, Nat.le_refl _, by simp [maxLen], hlt, (fun ad h => by cases h), fun j hj => by rw [hown.cellAt j (by simpa using hj)]; rfl⟩
  | some ad =>
    obtain ⟨news, hnl, hnews, hone⟩ := dts_cells hl
    obtain ⟨v', w', hr, ho, hg, hiff⟩ := run_append_own (P := Try.prog) w g0 23 ty 25 i0 _ 6 104 Try.underlying23 hi hz0 hz1 hz2 rfl (by omega) (.slice (some ⟨g0, 0, none⟩) 1 1) 1 _ hown ad l.length cl news hnl hnews hone (by simp only [maxLen]; omega) (by omega) (by omega)
    obtain ⟨g, cap, rfl, _, hgl, hnc, hcm⟩ := own_form ho (fun h => by have := (hiff.1 h).1; cases this)
    have hat : g = g0 ∨ w.heap.size ≤ g := by
      obtain ⟨v2, w2, hr2, _, _, _, h5⟩ := run_append_own_at (P := Try.prog) w g0 23 ty 25 i0 _ 6 104 Try.underlying23 hi hz0 hz1 hz2 rfl (by omega) (.slice (some ⟨g0, 0, none⟩) 1 1) 1 _ hown ad l.length cl news hnl hnews hone (by simp only [maxLen]; omega) (by omega) (by omega)
      rw [hr] at hr2
      injection hr2 with e1 e2
      subst e1
      rcases h5 with h5 | h5
      · exact .inl (by simpa [Value.ownBlock] using h5)
      · exact .inr (by have : g = w.heap.size := by simpa [Value.ownBlock] using h5
                       omega)
    refine ⟨g, cap, w', news, hr, hg, hat, hnc, hcm, hgl, fun ad' had j hj => ?_, fun j hj => ho.cellAt j hj⟩
    injection had with had
    subst had
    have hj2 : j < news.length := by omega
    exact ⟨news[j], by simp [hj2], hnews j _ (by simp [hj2])⟩
theorem dts_addr {w : World} {Q : Nat → Prop} {al : Option Addr} {l : List Dt} {ad : Addr} (h : IsDts w Q al 0 l) (ha : al = some ad) (hl : 0 < l.length) : ∃ b o, ad = ⟨b, o, none⟩ ∧ Q b := by
  obtain ⟨b, off, _, _, _, _, _, _, he, hb, _⟩ := h.at_ 0 l[0] (by simp [hl])
  rw [ha] at he
  injection he with he
  exact ⟨b, off, he, hb⟩
theorem wp_append_run {P : Program} {w w' : World} {o : Oper} {a : Act} {K : Act → World → Prop} {Q : Exit → Act → World → Prop} (s x : Operand) (t : TypeId)
    (ho : o.op = .call { callee := .builtin .append, args := #[s, x], argTypes := #[t, t] }) (v u r : Value) (hs : a.eval s = v) (hx : a.eval x = u) (hrun : (Builtin.append_ #[t, t] o.type #[v, u]).run P w = .ok r w') (h : K (a.put o.dst r) w') : o.wp P a w K Q := by
  unfold Oper.wp
  simp [execOp, ho, resolve, invoke, builtin, hs, hx, hrun, Result.andThen]
  exact h
set_option maxHeartbeats 8000000 in
theorem rcons_any (a d : Dt) (va vd : Value) (B : Nat) (w : World) (ha : IsDt w (Lo B) a va) (hd : IsDt w (Lo B) d vd) (hB : B ≤ w.heap.size) :
    Calls Try.prog 31 #[va, vd] w (TwoR w (Lo B) (consE a d) (consD a d)) := by
  have ha' := ha
  have hd' := hd
  obtain ⟨am, acm, al, acl, at_, act, rfl, _⟩ := ha'.open_
  obtain ⟨dm, dcm, dl, dcl, dt, dct, rfl, dk, dn, dsz, dmm, hsl, hls, hst, hts⟩ := hd'.open_
  have TA := Lib.hid (ha.more (Q' := Lo w.heap.size) (fun b hb => Nat.lt_of_lt_of_le hb hB))
  have TD := Lib.hid (hd.more (Q' := Lo w.heap.size) (fun b hb => Nat.lt_of_lt_of_le hb hB))
  have Hls := Lib.hid (And.intro hsl (And.intro (hls.more (Q' := Lo w.heap.size) (fun b hb => Nat.lt_of_lt_of_le hb hB)) (hts.more (Q' := Lo w.heap.size) (fun b hb => Nat.lt_of_lt_of_le hb hB))))
  have TA0 := TA
  have HST := Lib.hid hst
  clear ha hd ha' hd' hsl hls hst hts dmm
  obtain ⟨ca, hca⟩ : ∃ c, chk a = c := ⟨_, rfl⟩
  obtain ⟨cd, hcd⟩ : ∃ c, chk d = c := ⟨_, rfl⟩
  obtain ⟨od, hod⟩ : ∃ c, consD a d = c := ⟨_, rfl⟩
  obtain ⟨co, hco⟩ : ∃ c, chk od = c := ⟨_, rfl⟩
  have hE : consE a d = if ca ≠ 0 then ca else if cd ≠ 0 then cd else co := by unfold consE; rw [hca, hcd, hod, hco]
  rw [hE, hod]
  have Ca := Lib.hid hca
  have Cd := Lib.hid hcd
  have Co := Lib.hid hco
  have Od_ := Lib.hid hod
  clear hE hca hcd hco hod
  by_cases h0 : ca ≠ 0
  · rw [if_pos h0]
    have dn1 : (ca != 0) = true := by simp [h0]
    have H0 := Lib.hid h0
    clear h0
    have HW := Lib.hid (bel_refl w)
    go_enter Try.func31, Try.ntmps31
    go_wp2_with fail
    obtain ⟨hbX, hsX, hkX⟩ := start_allocs [(#[.int .i64 a.K, .int .i64 a.N, .string a.S, .slice am a.M.length acm, .slice al a.L.length acl, .slice at_ a.T.length act], 25), (#[.int .i64 d.K, .int .i64 d.N, .string d.S, .slice dm d.M.length dcm, .slice dl d.L.length dcl, .slice dt d.T.length dct], 25), (#[.int .i64 0, .int .i64 0, .string ⟨#[]⟩, .slice none 0 0, .slice none 0 0, .slice none 0 0], 25)] w
    have g0 := hkX 0 _ rfl
    have g1 := hkX 1 _ rfl
    have g2 := hkX 2 _ rfl
    set_option linter.unusedSimpArgs false in
    simp only [allocs, List.foldl_cons, List.foldl_nil, Nat.add_zero, List.length_cons, List.length_nil, Nat.zero_add, Nat.reduceAdd] at hbX hsX g0 g1 g2
    clear hkX
    generalize ((w.alloc (.cells #[.int .i64 a.K, .int .i64 a.N, .string a.S, .slice am a.M.length acm, .slice al a.L.length acl, .slice at_ a.T.length act] 25)).alloc (.cells #[.int .i64 d.K, .int .i64 d.N, .string d.S, .slice dm d.M.length dcm, .slice dl d.L.length dcl, .slice dt d.T.length dct] 25)).alloc (.cells #[.int .i64 0, .int .i64 0, .string ⟨#[]⟩, .slice none 0 0, .slice none 0 0, .slice none 0 0] 25) = X0 at *
    have x0 : X0.cell? ⟨w.heap.size, 0, none⟩ = some (.int .i64 a.K) := (g0.cell 0).trans rfl
    have x1 : X0.cell? ⟨w.heap.size, 1, none⟩ = some (.int .i64 a.N) := (g0.cell 1).trans rfl
    have x2 : X0.cell? ⟨w.heap.size, 2, none⟩ = some (.string a.S) := (g0.cell 2).trans rfl
    have x3 : X0.cell? ⟨w.heap.size, 3, none⟩ = some (.slice am a.M.length acm) := (g0.cell 3).trans rfl
    have x4 : X0.cell? ⟨w.heap.size, 4, none⟩ = some (.slice al a.L.length acl) := (g0.cell 4).trans rfl
    have x5 : X0.cell? ⟨w.heap.size, 5, none⟩ = some (.slice at_ a.T.length act) := (g0.cell 5).trans rfl
    have lt_x : w.heap.size < X0.heap.size := by omega
    have y0 : X0.cell? ⟨w.heap.size + 1, 0, none⟩ = some (.int .i64 d.K) := (g1.cell 0).trans rfl
    have y1 : X0.cell? ⟨w.heap.size + 1, 1, none⟩ = some (.int .i64 d.N) := (g1.cell 1).trans rfl
    have y2 : X0.cell? ⟨w.heap.size + 1, 2, none⟩ = some (.string d.S) := (g1.cell 2).trans rfl
    have y3 : X0.cell? ⟨w.heap.size + 1, 3, none⟩ = some (.slice dm d.M.length dcm) := (g1.cell 3).trans rfl
    have y4 : X0.cell? ⟨w.heap.size + 1, 4, none⟩ = some (.slice dl d.L.length dcl) := (g1.cell 4).trans rfl
    have y5 : X0.cell? ⟨w.heap.size + 1, 5, none⟩ = some (.slice dt d.T.length dct) := (g1.cell 5).trans rfl
    have lt_y : w.heap.size + 1 < X0.heap.size := by omega
    have z0 : X0.cell? ⟨w.heap.size + 2, 0, none⟩ = some (.int .i64 0) := (g2.cell 0).trans rfl
    have z1 : X0.cell? ⟨w.heap.size + 2, 1, none⟩ = some (.int .i64 0) := (g2.cell 1).trans rfl
    have z2 : X0.cell? ⟨w.heap.size + 2, 2, none⟩ = some (.string ⟨#[]⟩) := (g2.cell 2).trans rfl
    have z3 : X0.cell? ⟨w.heap.size + 2, 3, none⟩ = some (.slice none 0 0) := (g2.cell 3).trans rfl
    have z4 : X0.cell? ⟨w.heap.size + 2, 4, none⟩ = some (.slice none 0 0) := (g2.cell 4).trans rfl
    have z5 : X0.cell? ⟨w.heap.size + 2, 5, none⟩ = some (.slice none 0 0) := (g2.cell 5).trans rfl
    have fzz0 := g2.frozen 0
    have fzz1 := g2.frozen 1
    have fzz2 := g2.frozen 2
    have fzz3 := g2.frozen 3
    have fzz4 := g2.frozen 4
    have fzz5 := g2.frozen 5
    have lt_z : w.heap.size + 2 < X0.heap.size := by omega
    clear g0 g1 g2 hsX
    replace TA := Lib.hid (TA.out.up hbX)
    replace TD := Lib.hid (TD.out.up hbX)
    replace HW := Lib.hid (HW.out.trans (hbX.mono HW.out.size))
    clear hbX
    refine (rcheck_any a _ _ X0 (by exact TA.out) (Nat.le_refl _)).mono ?_
    rintro e w0 ⟨rfl, hb⟩
    rw [Ca.out]
    replace x0 := (hb.cell (p := ⟨w.heap.size, 0, none⟩) lt_x).trans x0
    replace x1 := (hb.cell (p := ⟨w.heap.size, 1, none⟩) lt_x).trans x1
    replace x2 := (hb.cell (p := ⟨w.heap.size, 2, none⟩) lt_x).trans x2
    replace x3 := (hb.cell (p := ⟨w.heap.size, 3, none⟩) lt_x).trans x3
    replace x4 := (hb.cell (p := ⟨w.heap.size, 4, none⟩) lt_x).trans x4
    replace x5 := (hb.cell (p := ⟨w.heap.size, 5, none⟩) lt_x).trans x5
    replace lt_x : w.heap.size < w0.heap.size := Nat.lt_of_lt_of_le lt_x hb.size
    replace y0 := (hb.cell (p := ⟨w.heap.size + 1, 0, none⟩) lt_y).trans y0
    replace y1 := (hb.cell (p := ⟨w.heap.size + 1, 1, none⟩) lt_y).trans y1
    replace y2 := (hb.cell (p := ⟨w.heap.size + 1, 2, none⟩) lt_y).trans y2
    replace y3 := (hb.cell (p := ⟨w.heap.size + 1, 3, none⟩) lt_y).trans y3
    replace y4 := (hb.cell (p := ⟨w.heap.size + 1, 4, none⟩) lt_y).trans y4
    replace y5 := (hb.cell (p := ⟨w.heap.size + 1, 5, none⟩) lt_y).trans y5
    replace lt_y : w.heap.size + 1 < w0.heap.size := Nat.lt_of_lt_of_le lt_y hb.size
    replace fzz0 := (hb.frozen (p := ⟨w.heap.size + 2, 0, none⟩) lt_z).trans fzz0
    replace fzz1 := (hb.frozen (p := ⟨w.heap.size + 2, 1, none⟩) lt_z).trans fzz1
    replace fzz2 := (hb.frozen (p := ⟨w.heap.size + 2, 2, none⟩) lt_z).trans fzz2
    replace fzz3 := (hb.frozen (p := ⟨w.heap.size + 2, 3, none⟩) lt_z).trans fzz3
    replace fzz4 := (hb.frozen (p := ⟨w.heap.size + 2, 4, none⟩) lt_z).trans fzz4
    replace fzz5 := (hb.frozen (p := ⟨w.heap.size + 2, 5, none⟩) lt_z).trans fzz5
    replace z0 := (hb.cell (p := ⟨w.heap.size + 2, 0, none⟩) lt_z).trans z0
    replace z1 := (hb.cell (p := ⟨w.heap.size + 2, 1, none⟩) lt_z).trans z1
    replace z2 := (hb.cell (p := ⟨w.heap.size + 2, 2, none⟩) lt_z).trans z2
    replace z3 := (hb.cell (p := ⟨w.heap.size + 2, 3, none⟩) lt_z).trans z3
    replace z4 := (hb.cell (p := ⟨w.heap.size + 2, 4, none⟩) lt_z).trans z4
    replace z5 := (hb.cell (p := ⟨w.heap.size + 2, 5, none⟩) lt_z).trans z5
    replace lt_z : w.heap.size + 2 < w0.heap.size := Nat.lt_of_lt_of_le lt_z hb.size
    replace TA := Lib.hid (TA.out.up hb)
    replace TD := Lib.hid (TD.out.up hb)
    replace HW := Lib.hid (HW.out.trans (hb.mono HW.out.size))
    clear hb
    go_wp2_with fail
    refine bodyPost_ret (v := .tuple #[zeroV, .int .i64 ca]) ?_ rfl ?_
    · simp [results, Try.results31, go_sem, zeroV, lt_z, z0, z1, z2, z3, z4, z5]
    · exact two_bad (b := w.heap.size + 2) (by omega) H0.out HW.out rfl
  rw [if_neg h0]
  obtain rfl : ca = 0 := by simpa using h0
  clear h0
  by_cases h0 : cd ≠ 0
  · rw [if_pos h0]
    have dn1 : (cd != 0) = true := by simp [h0]
    have H0 := Lib.hid h0
    clear h0
    have HW := Lib.hid (bel_refl w)
    go_enter Try.func31, Try.ntmps31
    go_wp2_with fail
    obtain ⟨hbX, hsX, hkX⟩ := start_allocs [(#[.int .i64 a.K, .int .i64 a.N, .string a.S, .slice am a.M.length acm, .slice al a.L.length acl, .slice at_ a.T.length act], 25), (#[.int .i64 d.K, .int .i64 d.N, .string d.S, .slice dm d.M.length dcm, .slice dl d.L.length dcl, .slice dt d.T.length dct], 25), (#[.int .i64 0, .int .i64 0, .string ⟨#[]⟩, .slice none 0 0, .slice none 0 0, .slice none 0 0], 25)] w
    have g0 := hkX 0 _ rfl
    have g1 := hkX 1 _ rfl
    have g2 := hkX 2 _ rfl
    set_option linter.unusedSimpArgs false in
    simp only [allocs, List.foldl_cons, List.foldl_nil, Nat.add_zero, List.length_cons, List.length_nil, Nat.zero_add, Nat.reduceAdd] at hbX hsX g0 g1 g2
    clear hkX
    generalize ((w.alloc (.cells #[.int .i64 a.K, .int .i64 a.N, .string a.S, .slice am a.M.length acm, .slice al a.L.length acl, .slice at_ a.T.length act] 25)).alloc (.cells #[.int .i64 d.K, .int .i64 d.N, .string d.S, .slice dm d.M.length dcm, .slice dl d.L.length dcl, .slice dt d.T.length dct] 25)).alloc (.cells #[.int .i64 0, .int .i64 0, .string ⟨#[]⟩, .slice none 0 0, .slice none 0 0, .slice none 0 0] 25) = X0 at *
    have x0 : X0.cell? ⟨w.heap.size, 0, none⟩ = some (.int .i64 a.K) := (g0.cell 0).trans rfl
    have x1 : X0.cell? ⟨w.heap.size, 1, none⟩ = some (.int .i64 a.N) := (g0.cell 1).trans rfl
    have x2 : X0.cell? ⟨w.heap.size, 2, none⟩ = some (.string a.S) := (g0.cell 2).trans rfl
    have x3 : X0.cell? ⟨w.heap.size, 3, none⟩ = some (.slice am a.M.length acm) := (g0.cell 3).trans rfl
    have x4 : X0.cell? ⟨w.heap.size, 4, none⟩ = some (.slice al a.L.length acl) := (g0.cell 4).trans rfl
    have x5 : X0.cell? ⟨w.heap.size, 5, none⟩ = some (.slice at_ a.T.length act) := (g0.cell 5).trans rfl
    have lt_x : w.heap.size < X0.heap.size := by omega
    have y0 : X0.cell? ⟨w.heap.size + 1, 0, none⟩ = some (.int .i64 d.K) := (g1.cell 0).trans rfl
    have y1 : X0.cell? ⟨w.heap.size + 1, 1, none⟩ = some (.int .i64 d.N) := (g1.cell 1).trans rfl
    have y2 : X0.cell? ⟨w.heap.size + 1, 2, none⟩ = some (.string d.S) := (g1.cell 2).trans rfl
    have y3 : X0.cell? ⟨w.heap.size + 1, 3, none⟩ = some (.slice dm d.M.length dcm) := (g1.cell 3).trans rfl
    have y4 : X0.cell? ⟨w.heap.size + 1, 4, none⟩ = some (.slice dl d.L.length dcl) := (g1.cell 4).trans rfl
    have y5 : X0.cell? ⟨w.heap.size + 1, 5, none⟩ = some (.slice dt d.T.length dct) := (g1.cell 5).trans rfl
    have lt_y : w.heap.size + 1 < X0.heap.size := by omega
    have z0 : X0.cell? ⟨w.heap.size + 2, 0, none⟩ = some (.int .i64 0) := (g2.cell 0).trans rfl
    have z1 : X0.cell? ⟨w.heap.size + 2, 1, none⟩ = some (.int .i64 0) := (g2.cell 1).trans rfl
    have z2 : X0.cell? ⟨w.heap.size + 2, 2, none⟩ = some (.string ⟨#[]⟩) := (g2.cell 2).trans rfl
    have z3 : X0.cell? ⟨w.heap.size + 2, 3, none⟩ = some (.slice none 0 0) := (g2.cell 3).trans rfl
    have z4 : X0.cell? ⟨w.heap.size + 2, 4, none⟩ = some (.slice none 0 0) := (g2.cell 4).trans rfl
    have z5 : X0.cell? ⟨w.heap.size + 2, 5, none⟩ = some (.slice none 0 0) := (g2.cell 5).trans rfl
    have fzz0 := g2.frozen 0
    have fzz1 := g2.frozen 1
    have fzz2 := g2.frozen 2
    have fzz3 := g2.frozen 3
    have fzz4 := g2.frozen 4
    have fzz5 := g2.frozen 5
    have lt_z : w.heap.size + 2 < X0.heap.size := by omega
    clear g0 g1 g2 hsX
    replace TA := Lib.hid (TA.out.up hbX)
    replace TD := Lib.hid (TD.out.up hbX)
    replace HW := Lib.hid (HW.out.trans (hbX.mono HW.out.size))
    clear hbX
    refine (rcheck_any a _ _ X0 (by exact TA.out) (Nat.le_refl _)).mono ?_
    rintro e w0 ⟨rfl, hb⟩
    rw [Ca.out]
    replace x0 := (hb.cell (p := ⟨w.heap.size, 0, none⟩) lt_x).trans x0
    replace x1 := (hb.cell (p := ⟨w.heap.size, 1, none⟩) lt_x).trans x1
    replace x2 := (hb.cell (p := ⟨w.heap.size, 2, none⟩) lt_x).trans x2
    replace x3 := (hb.cell (p := ⟨w.heap.size, 3, none⟩) lt_x).trans x3
    replace x4 := (hb.cell (p := ⟨w.heap.size, 4, none⟩) lt_x).trans x4
    replace x5 := (hb.cell (p := ⟨w.heap.size, 5, none⟩) lt_x).trans x5
    replace lt_x : w.heap.size < w0.heap.size := Nat.lt_of_lt_of_le lt_x hb.size
    replace y0 := (hb.cell (p := ⟨w.heap.size + 1, 0, none⟩) lt_y).trans y0
    replace y1 := (hb.cell (p := ⟨w.heap.size + 1, 1, none⟩) lt_y).trans y1
    replace y2 := (hb.cell (p := ⟨w.heap.size + 1, 2, none⟩) lt_y).trans y2
    replace y3 := (hb.cell (p := ⟨w.heap.size + 1, 3, none⟩) lt_y).trans y3
    replace y4 := (hb.cell (p := ⟨w.heap.size + 1, 4, none⟩) lt_y).trans y4
    replace y5 := (hb.cell (p := ⟨w.heap.size + 1, 5, none⟩) lt_y).trans y5
    replace lt_y : w.heap.size + 1 < w0.heap.size := Nat.lt_of_lt_of_le lt_y hb.size
    replace fzz0 := (hb.frozen (p := ⟨w.heap.size + 2, 0, none⟩) lt_z).trans fzz0
    replace fzz1 := (hb.frozen (p := ⟨w.heap.size + 2, 1, none⟩) lt_z).trans fzz1
    replace fzz2 := (hb.frozen (p := ⟨w.heap.size + 2, 2, none⟩) lt_z).trans fzz2
    replace fzz3 := (hb.frozen (p := ⟨w.heap.size + 2, 3, none⟩) lt_z).trans fzz3
    replace fzz4 := (hb.frozen (p := ⟨w.heap.size + 2, 4, none⟩) lt_z).trans fzz4
    replace fzz5 := (hb.frozen (p := ⟨w.heap.size + 2, 5, none⟩) lt_z).trans fzz5
    replace z0 := (hb.cell (p := ⟨w.heap.size + 2, 0, none⟩) lt_z).trans z0
    replace z1 := (hb.cell (p := ⟨w.heap.size + 2, 1, none⟩) lt_z).trans z1
    replace z2 := (hb.cell (p := ⟨w.heap.size + 2, 2, none⟩) lt_z).trans z2
    replace z3 := (hb.cell (p := ⟨w.heap.size + 2, 3, none⟩) lt_z).trans z3
    replace z4 := (hb.cell (p := ⟨w.heap.size + 2, 4, none⟩) lt_z).trans z4
    replace z5 := (hb.cell (p := ⟨w.heap.size + 2, 5, none⟩) lt_z).trans z5
    replace lt_z : w.heap.size + 2 < w0.heap.size := Nat.lt_of_lt_of_le lt_z hb.size
    replace TA := Lib.hid (TA.out.up hb)
    replace TD := Lib.hid (TD.out.up hb)
    replace HW := Lib.hid (HW.out.trans (hb.mono HW.out.size))
    clear hb
    go_wp2_with fail
    refine (rcheck_any d _ _ w0 (by exact TD.out) (Nat.le_refl _)).mono ?_
    rintro e w1 ⟨rfl, hb⟩
    rw [Cd.out]
    replace x0 := (hb.cell (p := ⟨w.heap.size, 0, none⟩) lt_x).trans x0
    replace x1 := (hb.cell (p := ⟨w.heap.size, 1, none⟩) lt_x).trans x1
    replace x2 := (hb.cell (p := ⟨w.heap.size, 2, none⟩) lt_x).trans x2
    replace x3 := (hb.cell (p := ⟨w.heap.size, 3, none⟩) lt_x).trans x3
    replace x4 := (hb.cell (p := ⟨w.heap.size, 4, none⟩) lt_x).trans x4
    replace x5 := (hb.cell (p := ⟨w.heap.size, 5, none⟩) lt_x).trans x5
    replace lt_x : w.heap.size < w1.heap.size := Nat.lt_of_lt_of_le lt_x hb.size
    replace y0 := (hb.cell (p := ⟨w.heap.size + 1, 0, none⟩) lt_y).trans y0
    replace y1 := (hb.cell (p := ⟨w.heap.size + 1, 1, none⟩) lt_y).trans y1
    replace y2 := (hb.cell (p := ⟨w.heap.size + 1, 2, none⟩) lt_y).trans y2
    replace y3 := (hb.cell (p := ⟨w.heap.size + 1, 3, none⟩) lt_y).trans y3
    replace y4 := (hb.cell (p := ⟨w.heap.size + 1, 4, none⟩) lt_y).trans y4
    replace y5 := (hb.cell (p := ⟨w.heap.size + 1, 5, none⟩) lt_y).trans y5
    replace lt_y : w.heap.size + 1 < w1.heap.size := Nat.lt_of_lt_of_le lt_y hb.size
    replace fzz0 := (hb.frozen (p := ⟨w.heap.size + 2, 0, none⟩) lt_z).trans fzz0
    replace fzz1 := (hb.frozen (p := ⟨w.heap.size + 2, 1, none⟩) lt_z).trans fzz1
    replace fzz2 := (hb.frozen (p := ⟨w.heap.size + 2, 2, none⟩) lt_z).trans fzz2
    replace fzz3 := (hb.frozen (p := ⟨w.heap.size + 2, 3, none⟩) lt_z).trans fzz3
    replace fzz4 := (hb.frozen (p := ⟨w.heap.size + 2, 4, none⟩) lt_z).trans fzz4
    replace fzz5 := (hb.frozen (p := ⟨w.heap.size + 2, 5, none⟩) lt_z).trans fzz5
    replace z0 := (hb.cell (p := ⟨w.heap.size + 2, 0, none⟩) lt_z).trans z0
    replace z1 := (hb.cell (p := ⟨w.heap.size + 2, 1, none⟩) lt_z).trans z1
    replace z2 := (hb.cell (p := ⟨w.heap.size + 2, 2, none⟩) lt_z).trans z2
    replace z3 := (hb.cell (p := ⟨w.heap.size + 2, 3, none⟩) lt_z).trans z3
    replace z4 := (hb.cell (p := ⟨w.heap.size + 2, 4, none⟩) lt_z).trans z4
    replace z5 := (hb.cell (p := ⟨w.heap.size + 2, 5, none⟩) lt_z).trans z5
    replace lt_z : w.heap.size + 2 < w1.heap.size := Nat.lt_of_lt_of_le lt_z hb.size
    replace TA := Lib.hid (TA.out.up hb)
    replace TD := Lib.hid (TD.out.up hb)
    replace HW := Lib.hid (HW.out.trans (hb.mono HW.out.size))
    clear hb
    go_wp2_with fail
    refine bodyPost_ret (v := .tuple #[zeroV, .int .i64 cd]) ?_ rfl ?_
    · simp [results, Try.results31, go_sem, zeroV, lt_z, z0, z1, z2, z3, z4, z5]
    · exact two_bad (b := w.heap.size + 2) (by omega) H0.out HW.out rfl
  rw [if_neg h0]
  obtain rfl : cd = 0 := by simpa using h0
  clear h0
  by_cases hk : d.K = 6 ∨ d.K = 7
  · have hlen := len_le Cd.out
    have hbr := pair_bare (chk_self Cd.out) hk
    have hod : od = .mk d.K 0 ⟨#[]⟩ [] (a :: d.L) d.T := by rw [← Od_.out]; unfold consD; rw [if_pos hk, hbr.1, hbr.2.1, hbr.2.2]
    have HOD := Lib.hid hod
    have HK := Lib.hid hk
    clear hbr hod
    by_cases h6 : d.K = 6
    all_goals
      first | (have d6 : (d.K == 6) = true := by simp [h6]) | (have d6 : (d.K == 6) = false := by simp [h6])
      first | (have d7 : (d.K == 7) = true := by rw [beq_iff_eq]; exact HK.out.resolve_left h6) | (have d7 : True := trivial)
      clear h6 hk
      have HW := Lib.hid (bel_refl w)
      go_enter Try.func31, Try.ntmps31
      go_wp2_with fail
      obtain ⟨hbX, hsX, hkX⟩ := start_allocs [(#[.int .i64 a.K, .int .i64 a.N, .string a.S, .slice am a.M.length acm, .slice al a.L.length acl, .slice at_ a.T.length act], 25), (#[.int .i64 d.K, .int .i64 d.N, .string d.S, .slice dm d.M.length dcm, .slice dl d.L.length dcl, .slice dt d.T.length dct], 25), (#[.int .i64 0, .int .i64 0, .string ⟨#[]⟩, .slice none 0 0, .slice none 0 0, .slice none 0 0], 25)] w
      have g0 := hkX 0 _ rfl
      have g1 := hkX 1 _ rfl
      have g2 := hkX 2 _ rfl
      set_option linter.unusedSimpArgs false in
      simp only [allocs, List.foldl_cons, List.foldl_nil, Nat.add_zero, List.length_cons, List.length_nil, Nat.zero_add, Nat.reduceAdd] at hbX hsX g0 g1 g2
      clear hkX
      generalize ((w.alloc (.cells #[.int .i64 a.K, .int .i64 a.N, .string a.S, .slice am a.M.length acm, .slice al a.L.length acl, .slice at_ a.T.length act] 25)).alloc (.cells #[.int .i64 d.K, .int .i64 d.N, .string d.S, .slice dm d.M.length dcm, .slice dl d.L.length dcl, .slice dt d.T.length dct] 25)).alloc (.cells #[.int .i64 0, .int .i64 0, .string ⟨#[]⟩, .slice none 0 0, .slice none 0 0, .slice none 0 0] 25) = X0 at *
      have x0 : X0.cell? ⟨w.heap.size, 0, none⟩ = some (.int .i64 a.K) := (g0.cell 0).trans rfl
      have x1 : X0.cell? ⟨w.heap.size, 1, none⟩ = some (.int .i64 a.N) := (g0.cell 1).trans rfl
      have x2 : X0.cell? ⟨w.heap.size, 2, none⟩ = some (.string a.S) := (g0.cell 2).trans rfl
      have x3 : X0.cell? ⟨w.heap.size, 3, none⟩ = some (.slice am a.M.length acm) := (g0.cell 3).trans rfl
      have x4 : X0.cell? ⟨w.heap.size, 4, none⟩ = some (.slice al a.L.length acl) := (g0.cell 4).trans rfl
      have x5 : X0.cell? ⟨w.heap.size, 5, none⟩ = some (.slice at_ a.T.length act) := (g0.cell 5).trans rfl
      have lt_x : w.heap.size < X0.heap.size := by omega
      have y0 : X0.cell? ⟨w.heap.size + 1, 0, none⟩ = some (.int .i64 d.K) := (g1.cell 0).trans rfl
      have y1 : X0.cell? ⟨w.heap.size + 1, 1, none⟩ = some (.int .i64 d.N) := (g1.cell 1).trans rfl
      have y2 : X0.cell? ⟨w.heap.size + 1, 2, none⟩ = some (.string d.S) := (g1.cell 2).trans rfl
      have y3 : X0.cell? ⟨w.heap.size + 1, 3, none⟩ = some (.slice dm d.M.length dcm) := (g1.cell 3).trans rfl
      have y4 : X0.cell? ⟨w.heap.size + 1, 4, none⟩ = some (.slice dl d.L.length dcl) := (g1.cell 4).trans rfl
      have y5 : X0.cell? ⟨w.heap.size + 1, 5, none⟩ = some (.slice dt d.T.length dct) := (g1.cell 5).trans rfl
      have lt_y : w.heap.size + 1 < X0.heap.size := by omega
      have z0 : X0.cell? ⟨w.heap.size + 2, 0, none⟩ = some (.int .i64 0) := (g2.cell 0).trans rfl
      have z1 : X0.cell? ⟨w.heap.size + 2, 1, none⟩ = some (.int .i64 0) := (g2.cell 1).trans rfl
      have z2 : X0.cell? ⟨w.heap.size + 2, 2, none⟩ = some (.string ⟨#[]⟩) := (g2.cell 2).trans rfl
      have z3 : X0.cell? ⟨w.heap.size + 2, 3, none⟩ = some (.slice none 0 0) := (g2.cell 3).trans rfl
      have z4 : X0.cell? ⟨w.heap.size + 2, 4, none⟩ = some (.slice none 0 0) := (g2.cell 4).trans rfl
      have z5 : X0.cell? ⟨w.heap.size + 2, 5, none⟩ = some (.slice none 0 0) := (g2.cell 5).trans rfl
      have fzz0 := g2.frozen 0
      have fzz1 := g2.frozen 1
      have fzz2 := g2.frozen 2
      have fzz3 := g2.frozen 3
      have fzz4 := g2.frozen 4
      have fzz5 := g2.frozen 5
      have lt_z : w.heap.size + 2 < X0.heap.size := by omega
      clear g0 g1 g2 hsX
      replace TA := Lib.hid (TA.out.up hbX)
      replace TD := Lib.hid (TD.out.up hbX)
      replace HW := Lib.hid (HW.out.trans (hbX.mono HW.out.size))
      clear hbX
      refine (rcheck_any a _ _ X0 (by exact TA.out) (Nat.le_refl _)).mono ?_
      rintro e w0 ⟨rfl, hb⟩
      rw [Ca.out]
      replace x0 := (hb.cell (p := ⟨w.heap.size, 0, none⟩) lt_x).trans x0
      replace x1 := (hb.cell (p := ⟨w.heap.size, 1, none⟩) lt_x).trans x1
      replace x2 := (hb.cell (p := ⟨w.heap.size, 2, none⟩) lt_x).trans x2
      replace x3 := (hb.cell (p := ⟨w.heap.size, 3, none⟩) lt_x).trans x3
      replace x4 := (hb.cell (p := ⟨w.heap.size, 4, none⟩) lt_x).trans x4
      replace x5 := (hb.cell (p := ⟨w.heap.size, 5, none⟩) lt_x).trans x5
      replace lt_x : w.heap.size < w0.heap.size := Nat.lt_of_lt_of_le lt_x hb.size
      replace y0 := (hb.cell (p := ⟨w.heap.size + 1, 0, none⟩) lt_y).trans y0
      replace y1 := (hb.cell (p := ⟨w.heap.size + 1, 1, none⟩) lt_y).trans y1
      replace y2 := (hb.cell (p := ⟨w.heap.size + 1, 2, none⟩) lt_y).trans y2
      replace y3 := (hb.cell (p := ⟨w.heap.size + 1, 3, none⟩) lt_y).trans y3
      replace y4 := (hb.cell (p := ⟨w.heap.size + 1, 4, none⟩) lt_y).trans y4
      replace y5 := (hb.cell (p := ⟨w.heap.size + 1, 5, none⟩) lt_y).trans y5
      replace lt_y : w.heap.size + 1 < w0.heap.size := Nat.lt_of_lt_of_le lt_y hb.size
      replace fzz0 := (hb.frozen (p := ⟨w.heap.size + 2, 0, none⟩) lt_z).trans fzz0
      replace fzz1 := (hb.frozen (p := ⟨w.heap.size + 2, 1, none⟩) lt_z).trans fzz1
      replace fzz2 := (hb.frozen (p := ⟨w.heap.size + 2, 2, none⟩) lt_z).trans fzz2
      replace fzz3 := (hb.frozen (p := ⟨w.heap.size + 2, 3, none⟩) lt_z).trans fzz3
      replace fzz4 := (hb.frozen (p := ⟨w.heap.size + 2, 4, none⟩) lt_z).trans fzz4
      replace fzz5 := (hb.frozen (p := ⟨w.heap.size + 2, 5, none⟩) lt_z).trans fzz5
      replace z0 := (hb.cell (p := ⟨w.heap.size + 2, 0, none⟩) lt_z).trans z0
      replace z1 := (hb.cell (p := ⟨w.heap.size + 2, 1, none⟩) lt_z).trans z1
      replace z2 := (hb.cell (p := ⟨w.heap.size + 2, 2, none⟩) lt_z).trans z2
      replace z3 := (hb.cell (p := ⟨w.heap.size + 2, 3, none⟩) lt_z).trans z3
      replace z4 := (hb.cell (p := ⟨w.heap.size + 2, 4, none⟩) lt_z).trans z4
      replace z5 := (hb.cell (p := ⟨w.heap.size + 2, 5, none⟩) lt_z).trans z5
      replace lt_z : w.heap.size + 2 < w0.heap.size := Nat.lt_of_lt_of_le lt_z hb.size
      replace TA := Lib.hid (TA.out.up hb)
      replace TD := Lib.hid (TD.out.up hb)
      replace HW := Lib.hid (HW.out.trans (hb.mono HW.out.size))
      clear hb
      go_wp2_with fail
      refine (rcheck_any d _ _ w0 (by exact TD.out) (Nat.le_refl _)).mono ?_
      rintro e w1 ⟨rfl, hb⟩
      rw [Cd.out]
      replace x0 := (hb.cell (p := ⟨w.heap.size, 0, none⟩) lt_x).trans x0
      replace x1 := (hb.cell (p := ⟨w.heap.size, 1, none⟩) lt_x).trans x1
      replace x2 := (hb.cell (p := ⟨w.heap.size, 2, none⟩) lt_x).trans x2
      replace x3 := (hb.cell (p := ⟨w.heap.size, 3, none⟩) lt_x).trans x3
      replace x4 := (hb.cell (p := ⟨w.heap.size, 4, none⟩) lt_x).trans x4
      replace x5 := (hb.cell (p := ⟨w.heap.size, 5, none⟩) lt_x).trans x5
      replace lt_x : w.heap.size < w1.heap.size := Nat.lt_of_lt_of_le lt_x hb.size
      replace y0 := (hb.cell (p := ⟨w.heap.size + 1, 0, none⟩) lt_y).trans y0
      replace y1 := (hb.cell (p := ⟨w.heap.size + 1, 1, none⟩) lt_y).trans y1
      replace y2 := (hb.cell (p := ⟨w.heap.size + 1, 2, none⟩) lt_y).trans y2
      replace y3 := (hb.cell (p := ⟨w.heap.size + 1, 3, none⟩) lt_y).trans y3
      replace y4 := (hb.cell (p := ⟨w.heap.size + 1, 4, none⟩) lt_y).trans y4
      replace y5 := (hb.cell (p := ⟨w.heap.size + 1, 5, none⟩) lt_y).trans y5
      replace lt_y : w.heap.size + 1 < w1.heap.size := Nat.lt_of_lt_of_le lt_y hb.size
      replace fzz0 := (hb.frozen (p := ⟨w.heap.size + 2, 0, none⟩) lt_z).trans fzz0
      replace fzz1 := (hb.frozen (p := ⟨w.heap.size + 2, 1, none⟩) lt_z).trans fzz1
      replace fzz2 := (hb.frozen (p := ⟨w.heap.size + 2, 2, none⟩) lt_z).trans fzz2
      replace fzz3 := (hb.frozen (p := ⟨w.heap.size + 2, 3, none⟩) lt_z).trans fzz3
      replace fzz4 := (hb.frozen (p := ⟨w.heap.size + 2, 4, none⟩) lt_z).trans fzz4
      replace fzz5 := (hb.frozen (p := ⟨w.heap.size + 2, 5, none⟩) lt_z).trans fzz5
      replace z0 := (hb.cell (p := ⟨w.heap.size + 2, 0, none⟩) lt_z).trans z0
      replace z1 := (hb.cell (p := ⟨w.heap.size + 2, 1, none⟩) lt_z).trans z1
      replace z2 := (hb.cell (p := ⟨w.heap.size + 2, 2, none⟩) lt_z).trans z2
      replace z3 := (hb.cell (p := ⟨w.heap.size + 2, 3, none⟩) lt_z).trans z3
      replace z4 := (hb.cell (p := ⟨w.heap.size + 2, 4, none⟩) lt_z).trans z4
      replace z5 := (hb.cell (p := ⟨w.heap.size + 2, 5, none⟩) lt_z).trans z5
      replace lt_z : w.heap.size + 2 < w1.heap.size := Nat.lt_of_lt_of_le lt_z hb.size
      replace TA := Lib.hid (TA.out.up hb)
      replace TD := Lib.hid (TD.out.up hb)
      replace HW := Lib.hid (HW.out.trans (hb.mono HW.out.size))
      clear hb
      go_wp2_with fail
      have hq0 : w.heap.size + 2 < w1.heap.size := lt_z
      obtain ⟨hbX, hsX, hkX⟩ := start_allocs [(#[.int .i64 a.K, .int .i64 a.N, .string a.S, .slice am a.M.length acm, .slice al a.L.length acl, .slice at_ a.T.length act], 25), (#[.int .i64 d.K, .int .i64 d.N, .string d.S, .slice dm d.M.length dcm, .slice dl d.L.length dcl, .slice dt d.T.length dct], 25), (#[.int .i64 7, .int .i64 0, .string ⟨#[]⟩, .slice none 0 0, .slice (some ⟨w1.heap.size, 0, none⟩) 1 1, .slice (some ⟨w1.heap.size + 1, 0, none⟩) 1 1], 25)] w1
      have g0 := hkX 0 _ rfl
      have g1 := hkX 1 _ rfl
      have g2 := hkX 2 _ rfl
      set_option linter.unusedSimpArgs false in
      simp only [allocs, List.foldl_cons, List.foldl_nil, Nat.add_zero, List.length_cons, List.length_nil, Nat.zero_add, Nat.reduceAdd] at hbX hsX g0 g1 g2
      clear hkX
      generalize ((w1.alloc (.cells #[.int .i64 a.K, .int .i64 a.N, .string a.S, .slice am a.M.length acm, .slice al a.L.length acl, .slice at_ a.T.length act] 25)).alloc (.cells #[.int .i64 d.K, .int .i64 d.N, .string d.S, .slice dm d.M.length dcm, .slice dl d.L.length dcl, .slice dt d.T.length dct] 25)).alloc (.cells #[.int .i64 7, .int .i64 0, .string ⟨#[]⟩, .slice none 0 0, .slice (some ⟨w1.heap.size, 0, none⟩) 1 1, .slice (some ⟨w1.heap.size + 1, 0, none⟩) 1 1] 25) = X1 at *
      have p0 : X1.cell? ⟨w1.heap.size, 0, none⟩ = some (.int .i64 a.K) := (g0.cell 0).trans rfl
      have p1 : X1.cell? ⟨w1.heap.size, 1, none⟩ = some (.int .i64 a.N) := (g0.cell 1).trans rfl
      have p2 : X1.cell? ⟨w1.heap.size, 2, none⟩ = some (.string a.S) := (g0.cell 2).trans rfl
      have p3 : X1.cell? ⟨w1.heap.size, 3, none⟩ = some (.slice am a.M.length acm) := (g0.cell 3).trans rfl
      have p4 : X1.cell? ⟨w1.heap.size, 4, none⟩ = some (.slice al a.L.length acl) := (g0.cell 4).trans rfl
      have p5 : X1.cell? ⟨w1.heap.size, 5, none⟩ = some (.slice at_ a.T.length act) := (g0.cell 5).trans rfl
      have lt_p : w1.heap.size < X1.heap.size := by omega
      have q0 : X1.cell? ⟨w1.heap.size + 1, 0, none⟩ = some (.int .i64 d.K) := (g1.cell 0).trans rfl
      have q1 : X1.cell? ⟨w1.heap.size + 1, 1, none⟩ = some (.int .i64 d.N) := (g1.cell 1).trans rfl
      have q2 : X1.cell? ⟨w1.heap.size + 1, 2, none⟩ = some (.string d.S) := (g1.cell 2).trans rfl
      have q3 : X1.cell? ⟨w1.heap.size + 1, 3, none⟩ = some (.slice dm d.M.length dcm) := (g1.cell 3).trans rfl
      have q4 : X1.cell? ⟨w1.heap.size + 1, 4, none⟩ = some (.slice dl d.L.length dcl) := (g1.cell 4).trans rfl
      have q5 : X1.cell? ⟨w1.heap.size + 1, 5, none⟩ = some (.slice dt d.T.length dct) := (g1.cell 5).trans rfl
      have lt_q : w1.heap.size + 1 < X1.heap.size := by omega
      have u0 : X1.cell? ⟨w1.heap.size + 2, 0, none⟩ = some (.int .i64 7) := (g2.cell 0).trans rfl
      have u1 : X1.cell? ⟨w1.heap.size + 2, 1, none⟩ = some (.int .i64 0) := (g2.cell 1).trans rfl
      have u2 : X1.cell? ⟨w1.heap.size + 2, 2, none⟩ = some (.string ⟨#[]⟩) := (g2.cell 2).trans rfl
      have u3 : X1.cell? ⟨w1.heap.size + 2, 3, none⟩ = some (.slice none 0 0) := (g2.cell 3).trans rfl
      have u4 : X1.cell? ⟨w1.heap.size + 2, 4, none⟩ = some (.slice (some ⟨w1.heap.size, 0, none⟩) 1 1) := (g2.cell 4).trans rfl
      have u5 : X1.cell? ⟨w1.heap.size + 2, 5, none⟩ = some (.slice (some ⟨w1.heap.size + 1, 0, none⟩) 1 1) := (g2.cell 5).trans rfl
      have fzu0 := g2.frozen 0
      have fzu1 := g2.frozen 1
      have fzu2 := g2.frozen 2
      have fzu3 := g2.frozen 3
      have fzu4 := g2.frozen 4
      have fzu5 := g2.frozen 5
      have lt_u : w1.heap.size + 2 < X1.heap.size := by omega
      clear g0 g1 g2 hsX
      replace x0 := (hbX.cell (p := ⟨w.heap.size, 0, none⟩) lt_x).trans x0
      replace x1 := (hbX.cell (p := ⟨w.heap.size, 1, none⟩) lt_x).trans x1
      replace x2 := (hbX.cell (p := ⟨w.heap.size, 2, none⟩) lt_x).trans x2
      replace x3 := (hbX.cell (p := ⟨w.heap.size, 3, none⟩) lt_x).trans x3
      replace x4 := (hbX.cell (p := ⟨w.heap.size, 4, none⟩) lt_x).trans x4
      replace x5 := (hbX.cell (p := ⟨w.heap.size, 5, none⟩) lt_x).trans x5
      replace lt_x : w.heap.size < X1.heap.size := Nat.lt_of_lt_of_le lt_x hbX.size
      replace y0 := (hbX.cell (p := ⟨w.heap.size + 1, 0, none⟩) lt_y).trans y0
      replace y1 := (hbX.cell (p := ⟨w.heap.size + 1, 1, none⟩) lt_y).trans y1
      replace y2 := (hbX.cell (p := ⟨w.heap.size + 1, 2, none⟩) lt_y).trans y2
      replace y3 := (hbX.cell (p := ⟨w.heap.size + 1, 3, none⟩) lt_y).trans y3
      replace y4 := (hbX.cell (p := ⟨w.heap.size + 1, 4, none⟩) lt_y).trans y4
      replace y5 := (hbX.cell (p := ⟨w.heap.size + 1, 5, none⟩) lt_y).trans y5
      replace lt_y : w.heap.size + 1 < X1.heap.size := Nat.lt_of_lt_of_le lt_y hbX.size
      replace fzz0 := (hbX.frozen (p := ⟨w.heap.size + 2, 0, none⟩) lt_z).trans fzz0
      replace fzz1 := (hbX.frozen (p := ⟨w.heap.size + 2, 1, none⟩) lt_z).trans fzz1
      replace fzz2 := (hbX.frozen (p := ⟨w.heap.size + 2, 2, none⟩) lt_z).trans fzz2
      replace fzz3 := (hbX.frozen (p := ⟨w.heap.size + 2, 3, none⟩) lt_z).trans fzz3
      replace fzz4 := (hbX.frozen (p := ⟨w.heap.size + 2, 4, none⟩) lt_z).trans fzz4
      replace fzz5 := (hbX.frozen (p := ⟨w.heap.size + 2, 5, none⟩) lt_z).trans fzz5
      replace z0 := (hbX.cell (p := ⟨w.heap.size + 2, 0, none⟩) lt_z).trans z0
      replace z1 := (hbX.cell (p := ⟨w.heap.size + 2, 1, none⟩) lt_z).trans z1
      replace z2 := (hbX.cell (p := ⟨w.heap.size + 2, 2, none⟩) lt_z).trans z2
      replace z3 := (hbX.cell (p := ⟨w.heap.size + 2, 3, none⟩) lt_z).trans z3
      replace z4 := (hbX.cell (p := ⟨w.heap.size + 2, 4, none⟩) lt_z).trans z4
      replace z5 := (hbX.cell (p := ⟨w.heap.size + 2, 5, none⟩) lt_z).trans z5
      replace lt_z : w.heap.size + 2 < X1.heap.size := Nat.lt_of_lt_of_le lt_z hbX.size
      replace TA := Lib.hid (TA.out.up hbX)
      replace TD := Lib.hid (TD.out.up hbX)
      replace HW := Lib.hid (HW.out.trans (hbX.mono HW.out.size))
      clear hbX
      clear p0 p1 p2 p3 p4 p5 q0 q1 q2 q3 q4 q5 lt_p lt_q
      have Hls2 := Lib.hid (And.intro Hls.out.1 (And.intro (IsDts.keep (w := w) (w' := X1) (Q' := Lo X1.heap.size) (fun b hb => by have h1 : b < w.heap.size := hb; have := HW.out.size; show b < X1.heap.size; omega) (fun b o hb => HW.out.cell (p := ⟨b, o, none⟩) hb) _ _ _ Hls.out.2.1) (IsDts.keep (w := w) (w' := X1) (Q' := Lo X1.heap.size) (fun b hb => by have h1 : b < w.heap.size := hb; have := HW.out.size; show b < X1.heap.size; omega) (fun b o hb => HW.out.cell (p := ⟨b, o, none⟩) hb) _ _ _ Hls.out.2.2)))
      go_wp2_with fail
      refine Od.till_region 10 (fun _ : World => True) (fun w' : World => w'.cell? ⟨w.heap.size, 0, none⟩ = some (.int .i64 a.K) ∧ w'.cell? ⟨w.heap.size, 1, none⟩ = some (.int .i64 a.N) ∧ w'.cell? ⟨w.heap.size, 2, none⟩ = some (.string a.S) ∧ w'.cell? ⟨w.heap.size, 3, none⟩ = some (.slice am a.M.length acm) ∧ w'.cell? ⟨w.heap.size, 4, none⟩ = some (.slice al a.L.length acl) ∧ w'.cell? ⟨w.heap.size, 5, none⟩ = some (.slice at_ a.T.length act) ∧ w'.cell? ⟨w.heap.size + 1, 0, none⟩ = some (.int .i64 d.K) ∧ w'.cell? ⟨w.heap.size + 1, 4, none⟩ = some (.slice dl d.L.length dcl) ∧ w'.cell? ⟨w.heap.size + 1, 5, none⟩ = some (.slice dt d.T.length dct)) 11 (by kernel_rfl) rfl ?_
      simp only [Array.replicate_succ, Array.replicate_zero, List.push_toArray, List.nil_append, List.cons_append]
      have hT0 : (fun w' : World => w'.cell? ⟨w.heap.size, 0, none⟩ = some (.int .i64 a.K) ∧ w'.cell? ⟨w.heap.size, 1, none⟩ = some (.int .i64 a.N) ∧ w'.cell? ⟨w.heap.size, 2, none⟩ = some (.string a.S) ∧ w'.cell? ⟨w.heap.size, 3, none⟩ = some (.slice am a.M.length acm) ∧ w'.cell? ⟨w.heap.size, 4, none⟩ = some (.slice al a.L.length acl) ∧ w'.cell? ⟨w.heap.size, 5, none⟩ = some (.slice at_ a.T.length act) ∧ w'.cell? ⟨w.heap.size + 1, 0, none⟩ = some (.int .i64 d.K) ∧ w'.cell? ⟨w.heap.size + 1, 4, none⟩ = some (.slice dl d.L.length dcl) ∧ w'.cell? ⟨w.heap.size + 1, 5, none⟩ = some (.slice dt d.T.length dct)) X1.drew := ⟨x0, x1, x2, x3, x4, x5, y0, y4, y5⟩
      refine Od.Till.takeT (i := 0) (d := 35) (v := .pointer (some ⟨w.heap.size + 1, 0, none⟩)) rfl rfl (by kernel_rfl) (by kernel_rfl) (by kernel_rfl) (by kernel_rfl) (fun _ _ _ h => h) (.inl ⟨by rfl, ?_⟩) trivial hT0 ?_
      · intro wx hSw
        obtain ⟨j0, j1, j2, j3, j4, j5, j6, j7, j8⟩ := hSw
        go_simp
      simp only [Act.put, List.setIfInBounds_toArray, List.set_cons_zero, List.set_cons_succ]
      refine Od.Till.takeT (i := 1) (d := 36) (v := .int .i64 d.K) rfl rfl (by kernel_rfl) (by kernel_rfl) (by kernel_rfl) (by kernel_rfl) (fun _ _ _ h => h) (.inl ⟨by rfl, ?_⟩) trivial hT0 ?_
      · intro wx hSw
        obtain ⟨j0, j1, j2, j3, j4, j5, j6, j7, j8⟩ := hSw
        go_simp
      simp only [Act.put, List.setIfInBounds_toArray, List.set_cons_zero, List.set_cons_succ]
      refine Od.Till.takeT (i := 2) (d := 37) (v := .agg #[.int .i64 a.K, .int .i64 a.N, .string a.S, .slice am a.M.length acm, .slice al a.L.length acl, .slice at_ a.T.length act]) rfl rfl (by kernel_rfl) (by kernel_rfl) (by kernel_rfl) (by kernel_rfl) (fun _ _ _ h => h) (.inl ⟨by rfl, ?_⟩) trivial hT0 ?_
      · intro wx hSw
        obtain ⟨j0, j1, j2, j3, j4, j5, j6, j7, j8⟩ := hSw
        go_simp
      simp only [Act.put, List.setIfInBounds_toArray, List.set_cons_zero, List.set_cons_succ]
      refine Od.Till.takeT (i := 4) (d := 39) (v := .pointer (some ⟨w.heap.size + 1, 4, none⟩)) rfl rfl (by kernel_rfl) (by kernel_rfl) (by kernel_rfl) (by kernel_rfl) (fun _ _ _ h => h) (.inl ⟨by rfl, ?_⟩) trivial hT0 ?_
      · intro wx hSw
        obtain ⟨j0, j1, j2, j3, j4, j5, j6, j7, j8⟩ := hSw
        go_simp
      simp only [Act.put, List.setIfInBounds_toArray, List.set_cons_zero, List.set_cons_succ]
      refine Od.Till.takeT (i := 5) (d := 40) (v := .slice dl d.L.length dcl) rfl rfl (by kernel_rfl) (by kernel_rfl) (by kernel_rfl) (by kernel_rfl) (fun _ _ _ h => h) (.inl ⟨by rfl, ?_⟩) trivial hT0 ?_
      · intro wx hSw
        obtain ⟨j0, j1, j2, j3, j4, j5, j6, j7, j8⟩ := hSw
        go_simp
      simp only [Act.put, List.setIfInBounds_toArray, List.set_cons_zero, List.set_cons_succ]
      refine Od.Till.takeT (i := 7) (d := 42) (v := .pointer (some ⟨w.heap.size + 1, 5, none⟩)) rfl rfl (by kernel_rfl) (by kernel_rfl) (by kernel_rfl) (by kernel_rfl) (fun _ _ _ h => h) (.inl ⟨by rfl, ?_⟩) trivial hT0 ?_
      · intro wx hSw
        obtain ⟨j0, j1, j2, j3, j4, j5, j6, j7, j8⟩ := hSw
        go_simp
      simp only [Act.put, List.setIfInBounds_toArray, List.set_cons_zero, List.set_cons_succ]
      refine Od.Till.takeT (i := 8) (d := 43) (v := .slice dt d.T.length dct) rfl rfl (by kernel_rfl) (by kernel_rfl) (by kernel_rfl) (by kernel_rfl) (fun _ _ _ h => h) (.inl ⟨by rfl, ?_⟩) trivial hT0 ?_
      · intro wx hSw
        obtain ⟨j0, j1, j2, j3, j4, j5, j6, j7, j8⟩ := hSw
        go_simp
      simp only [Act.put, List.setIfInBounds_toArray, List.set_cons_zero, List.set_cons_succ]
      refine Od.Till.one (i := 3) (by kernel_rfl) rfl (fun K hK => ?_)
      go_simp
      have hX : Below X1.heap.size X1 ((X1.alloc (.cells #[.int .i64 a.K, .int .i64 a.N, .string a.S, .slice am a.M.length acm, .slice al a.L.length acl, .slice at_ a.T.length act] 25)).drew) := ((Fr.refl (fun _ => False) X1).alloc _).drew.bel (fun _ _ h => h)
      have gX : Blk ((X1.alloc (.cells #[.int .i64 a.K, .int .i64 a.N, .string a.S, .slice am a.M.length acm, .slice al a.L.length acl, .slice at_ a.T.length act] 25)).drew) X1.heap.size 25 #[.int .i64 a.K, .int .i64 a.N, .string a.S, .slice am a.M.length acm, .slice al a.L.length acl, .slice at_ a.T.length act] := heap_alloc_new X1 _
      have sX : ((X1.alloc (.cells #[.int .i64 a.K, .int .i64 a.N, .string a.S, .slice am a.M.length acm, .slice al a.L.length acl, .slice at_ a.T.length act] 25)).drew).heap.size = X1.heap.size + 1 := by simp
      generalize (X1.alloc (.cells #[.int .i64 a.K, .int .i64 a.N, .string a.S, .slice am a.M.length acm, .slice al a.L.length acl, .slice at_ a.T.length act] 25)).drew = Y at *
      have hTX : (fun w' : World => w'.cell? ⟨w.heap.size, 0, none⟩ = some (.int .i64 a.K) ∧ w'.cell? ⟨w.heap.size, 1, none⟩ = some (.int .i64 a.N) ∧ w'.cell? ⟨w.heap.size, 2, none⟩ = some (.string a.S) ∧ w'.cell? ⟨w.heap.size, 3, none⟩ = some (.slice am a.M.length acm) ∧ w'.cell? ⟨w.heap.size, 4, none⟩ = some (.slice al a.L.length acl) ∧ w'.cell? ⟨w.heap.size, 5, none⟩ = some (.slice at_ a.T.length act) ∧ w'.cell? ⟨w.heap.size + 1, 0, none⟩ = some (.int .i64 d.K) ∧ w'.cell? ⟨w.heap.size + 1, 4, none⟩ = some (.slice dl d.L.length dcl) ∧ w'.cell? ⟨w.heap.size + 1, 5, none⟩ = some (.slice dt d.T.length dct)) Y := ⟨(hX.cell (p := ⟨w.heap.size, 0, none⟩) lt_x).trans x0, (hX.cell (p := ⟨w.heap.size, 1, none⟩) lt_x).trans x1, (hX.cell (p := ⟨w.heap.size, 2, none⟩) lt_x).trans x2, (hX.cell (p := ⟨w.heap.size, 3, none⟩) lt_x).trans x3, (hX.cell (p := ⟨w.heap.size, 4, none⟩) lt_x).trans x4, (hX.cell (p := ⟨w.heap.size, 5, none⟩) lt_x).trans x5, (hX.cell (p := ⟨w.heap.size + 1, 0, none⟩) lt_y).trans y0, (hX.cell (p := ⟨w.heap.size + 1, 4, none⟩) lt_y).trans y4, (hX.cell (p := ⟨w.heap.size + 1, 5, none⟩) lt_y).trans y5⟩
      refine hK.out _ _ ⟨fun _ => trivial, hTX⟩ ?_
      clear hK K
      obtain ⟨g', cap2, w4, news, hrun, hg1, hat, hcap, hcm, hgl, hnews, hcells⟩ := append_dats 23 gX Hls2.out.1 (IsDts.keep (w := X1) (w' := Y) (fun _ h => h) (fun b o hb => hX.cell (p := ⟨b, o, none⟩) hb) _ _ _ Hls2.out.2.1) hlen
      refine Od.Till.one (i := 6) (by kernel_rfl) rfl (fun K hK => ?_)
      rw [if_pos (by kernel_rfl)]
      refine wp_append_run (.tmp 38) (.tmp 40) 23 (by rfl) _ _ _ (by rfl) (by rfl) hrun ?_
      have h4 : Below X1.heap.size X1 w4 := hX.trans ⟨hg1.os, hg1.tape, hg1.output, hg1.size, fun k hk => hg1.block k (by omega) (fun e => by cases e; omega)⟩
      have hT4 : (fun w' : World => w'.cell? ⟨w.heap.size, 0, none⟩ = some (.int .i64 a.K) ∧ w'.cell? ⟨w.heap.size, 1, none⟩ = some (.int .i64 a.N) ∧ w'.cell? ⟨w.heap.size, 2, none⟩ = some (.string a.S) ∧ w'.cell? ⟨w.heap.size, 3, none⟩ = some (.slice am a.M.length acm) ∧ w'.cell? ⟨w.heap.size, 4, none⟩ = some (.slice al a.L.length acl) ∧ w'.cell? ⟨w.heap.size, 5, none⟩ = some (.slice at_ a.T.length act) ∧ w'.cell? ⟨w.heap.size + 1, 0, none⟩ = some (.int .i64 d.K) ∧ w'.cell? ⟨w.heap.size + 1, 4, none⟩ = some (.slice dl d.L.length dcl) ∧ w'.cell? ⟨w.heap.size + 1, 5, none⟩ = some (.slice dt d.T.length dct)) w4 := ⟨(h4.cell (p := ⟨w.heap.size, 0, none⟩) lt_x).trans x0, (h4.cell (p := ⟨w.heap.size, 1, none⟩) lt_x).trans x1, (h4.cell (p := ⟨w.heap.size, 2, none⟩) lt_x).trans x2, (h4.cell (p := ⟨w.heap.size, 3, none⟩) lt_x).trans x3, (h4.cell (p := ⟨w.heap.size, 4, none⟩) lt_x).trans x4, (h4.cell (p := ⟨w.heap.size, 5, none⟩) lt_x).trans x5, (h4.cell (p := ⟨w.heap.size + 1, 0, none⟩) lt_y).trans y0, (h4.cell (p := ⟨w.heap.size + 1, 4, none⟩) lt_y).trans y4, (h4.cell (p := ⟨w.heap.size + 1, 5, none⟩) lt_y).trans y5⟩
      refine hK.out _ _ ⟨fun _ => trivial, hT4⟩ ?_
      clear hK K
      simp only [Act.put, List.setIfInBounds_toArray, List.set_cons_zero, List.set_cons_succ]
      refine Od.Till.takeT (i := 9) (d := 44) (v := .agg #[.int .i64 d.K, .int .i64 0, .string ⟨#[]⟩, .slice none 0 0, .slice (some ⟨g', 0, none⟩) (1 + d.L.length) cap2, .slice dt d.T.length dct]) rfl rfl (by kernel_rfl) (by kernel_rfl) (by kernel_rfl) (by kernel_rfl) (fun _ _ _ h => h) (.inl ⟨by rfl, ?_⟩) trivial hT4 ?_
      · intro wx hSw
        obtain ⟨j0, j1, j2, j3, j4, j5, j6, j7, j8⟩ := hSw
        go_simp
      simp only [Act.put, List.setIfInBounds_toArray, List.set_cons_zero, List.set_cons_succ]
      have k0 := (h4.cell (p := ⟨w1.heap.size + 2, 0, none⟩) lt_u).trans u0
      have kf0 := (h4.frozen (p := ⟨w1.heap.size + 2, 0, none⟩) lt_u).trans fzu0
      have k1 := (h4.cell (p := ⟨w1.heap.size + 2, 1, none⟩) lt_u).trans u1
      have kf1 := (h4.frozen (p := ⟨w1.heap.size + 2, 1, none⟩) lt_u).trans fzu1
      have k2 := (h4.cell (p := ⟨w1.heap.size + 2, 2, none⟩) lt_u).trans u2
      have kf2 := (h4.frozen (p := ⟨w1.heap.size + 2, 2, none⟩) lt_u).trans fzu2
      have k3 := (h4.cell (p := ⟨w1.heap.size + 2, 3, none⟩) lt_u).trans u3
      have kf3 := (h4.frozen (p := ⟨w1.heap.size + 2, 3, none⟩) lt_u).trans fzu3
      have k4 := (h4.cell (p := ⟨w1.heap.size + 2, 4, none⟩) lt_u).trans u4
      have kf4 := (h4.frozen (p := ⟨w1.heap.size + 2, 4, none⟩) lt_u).trans fzu4
      have k5 := (h4.cell (p := ⟨w1.heap.size + 2, 5, none⟩) lt_u).trans u5
      have kf5 := (h4.frozen (p := ⟨w1.heap.size + 2, 5, none⟩) lt_u).trans fzu5
      refine Od.Till.one (i := 10) (by kernel_rfl) rfl (fun K hK => ?_)
      rw [if_pos (by kernel_rfl)]
      go_simp
      have hf6 := set6_fr w4 (w1.heap.size + 2) 0 (.int .i64 d.K) (.int .i64 0) (.string ⟨#[]⟩) (.slice none 0 0) (.slice (some ⟨g', 0, none⟩) (1 + d.L.length) cap2) (.slice dt d.T.length dct)
      have hs6 := set6_six w4 (w1.heap.size + 2) 0 (.int .i64 d.K) (.int .i64 0) (.string ⟨#[]⟩) (.slice none 0 0) (.slice (some ⟨g', 0, none⟩) (1 + d.L.length) cap2) (.slice dt d.T.length dct) (fun r hr => by match r, hr with | 0, _ => exact ⟨_, k0⟩ | 1, _ => exact ⟨_, k1⟩ | 2, _ => exact ⟨_, k2⟩ | 3, _ => exact ⟨_, k3⟩ | 4, _ => exact ⟨_, k4⟩ | 5, _ => exact ⟨_, k5⟩)
      have hz6 := set6_frozen w4 (w1.heap.size + 2) 0 (.int .i64 d.K) (.int .i64 0) (.string ⟨#[]⟩) (.slice none 0 0) (.slice (some ⟨g', 0, none⟩) (1 + d.L.length) cap2) (.slice dt d.T.length dct)
      have hsz6 := set6_size w4 (w1.heap.size + 2) 0 (.int .i64 d.K) (.int .i64 0) (.string ⟨#[]⟩) (.slice none 0 0) (.slice (some ⟨g', 0, none⟩) (1 + d.L.length) cap2) (.slice dt d.T.length dct)
      refine hK.out _ _ ⟨fun _ => trivial, (set6_ne w4 (w1.heap.size + 2) 0 (w.heap.size) 0 _ _ _ _ _ _ (.inl (by omega))).trans hT4.1, (set6_ne w4 (w1.heap.size + 2) 0 (w.heap.size) 1 _ _ _ _ _ _ (.inl (by omega))).trans hT4.2.1, (set6_ne w4 (w1.heap.size + 2) 0 (w.heap.size) 2 _ _ _ _ _ _ (.inl (by omega))).trans hT4.2.2.1, (set6_ne w4 (w1.heap.size + 2) 0 (w.heap.size) 3 _ _ _ _ _ _ (.inl (by omega))).trans hT4.2.2.2.1, (set6_ne w4 (w1.heap.size + 2) 0 (w.heap.size) 4 _ _ _ _ _ _ (.inl (by omega))).trans hT4.2.2.2.2.1, (set6_ne w4 (w1.heap.size + 2) 0 (w.heap.size) 5 _ _ _ _ _ _ (.inl (by omega))).trans hT4.2.2.2.2.2.1, (set6_ne w4 (w1.heap.size + 2) 0 (w.heap.size + 1) 0 _ _ _ _ _ _ (.inl (by omega))).trans hT4.2.2.2.2.2.2.1, (set6_ne w4 (w1.heap.size + 2) 0 (w.heap.size + 1) 4 _ _ _ _ _ _ (.inl (by omega))).trans hT4.2.2.2.2.2.2.2.1, (set6_ne w4 (w1.heap.size + 2) 0 (w.heap.size + 1) 5 _ _ _ _ _ _ (.inl (by omega))).trans hT4.2.2.2.2.2.2.2.2⟩ (Od.Till.done (by kernel_rfl) ?_)
      clear hK K
      obtain ⟨Wf, hWf⟩ : ∃ Wf : World, set6 w4 (w1.heap.size + 2) 0 (.int .i64 d.K) (.int .i64 0) (.string ⟨#[]⟩) (.slice none 0 0) (.slice (some ⟨g', 0, none⟩) (1 + d.L.length) cap2) (.slice dt d.T.length dct) = Wf := ⟨_, rfl⟩
      rw [hWf] at hf6 hs6 hz6 hsz6
      unfold set6 at hWf
      simp only [Nat.zero_add] at hWf hs6
      rw [hWf]
      have s4 := h4.size
      have hCf : Fr (fun i => i = w1.heap.size + 2) X1 Wf := (Fr.of_bel h4 _).trans hf6
      have hgu : g' ≠ w1.heap.size + 2 := by rcases hat with h | h <;> omega
      have hbY : ∀ b o, b < X1.heap.size → b ≠ w1.heap.size + 2 → Wf.cell? ⟨b, o, none⟩ = X1.cell? ⟨b, o, none⟩ := fun b o hb hne => hCf.cell (p := ⟨b, o, none⟩) hb hne
      have hgc : ∀ j, j < (1 + d.L.length) * 6 → Wf.cell? ⟨g', j, none⟩ = _ := fun j hj => (hf6.cell (p := ⟨g', j, none⟩) hgl (by show ¬ g' = _; exact hgu)).trans (hcells j hj)
      have haw : IsDt Wf (Lo w.heap.size) a _ := IsDt.keep (w := w) (fun _ h => h) (fun b o hb => (hbY b o (Nat.lt_of_lt_of_le hb HW.out.size) (by have h1 : b < w.heap.size := hb; have := HW.out.size; omega)).trans (HW.out.cell (p := ⟨b, o, none⟩) hb)) _ _ TA0.out
      have hlw : IsDts Wf (Lo w.heap.size) dl 0 d.L := IsDts.keep (w := w) (fun _ h => h) (fun b o hb => (hbY b o (Nat.lt_of_lt_of_le hb HW.out.size) (by have h1 : b < w.heap.size := hb; have := HW.out.size; omega)).trans (HW.out.cell (p := ⟨b, o, none⟩) hb)) _ _ _ Hls.out.2.1
      have htw : IsDts Wf (Lo w.heap.size) dt 0 d.T := IsDts.keep (w := w) (fun _ h => h) (fun b o hb => (hbY b o (Nat.lt_of_lt_of_le hb HW.out.size) (by have h1 : b < w.heap.size := hb; have := HW.out.size; omega)).trans (HW.out.cell (p := ⟨b, o, none⟩) hb)) _ _ _ Hls.out.2.2
      have hwf : w.heap.size ≤ Wf.heap.size := by rw [hsz6]; have := HW.out.size; omega
      have hbd : IsDt Wf (Lo Wf.heap.size) (.mk d.K 0 ⟨#[]⟩ [] d.L d.T) (.agg #[.int .i64 d.K, .int .i64 0, .string ⟨#[]⟩, .slice none 0 0, .slice dl d.L.length dcl, .slice dt d.T.length dct]) := by
        simp only [IsDt]
        exact ⟨dk, rfl, by show (0 : Nat) ≤ _; exact Nat.zero_le _, none, 0, dl, dcl, dt, dct, rfl, ⟨rfl, Nat.le_refl _, by simp [maxLen], by simp, fun _ => rfl, by simp, fun k hk => absurd hk (Nat.not_lt_zero _)⟩, Hls.out.1, hlw.more (fun b hb => Nat.lt_of_lt_of_le hb hwf), HST.out, htw.more (fun b hb => Nat.lt_of_lt_of_le hb hwf)⟩
      have hcd : IsDts Wf (Lo Wf.heap.size) (some ⟨g', 0, none⟩) 0 (a :: d.L) := cat_dts (a1 := dl) (news1 := news) (by show g' < Wf.heap.size; omega) (haw.more (fun b hb => Nat.lt_of_lt_of_le hb hwf)) (hlw.more (fun b hb => Nat.lt_of_lt_of_le hb hwf)) (fun ad had j hj => by
        obtain ⟨u, hu1, hu2⟩ := hnews ad had j hj
        refine ⟨u, hu1, ?_⟩
        obtain ⟨b5, o5, hb5⟩ := dts_addr Hls.out.2.1 had (by omega)
        rw [hb5.1, add_plain] at hu2 ⊢
        have h1 : b5 < w.heap.size := hb5.2
        have h2 := HW.out.size
        rw [hbY b5 _ (by omega) (by omega), ← hX.cell (p := ⟨b5, _, none⟩) (by show b5 < _; omega)]
        exact hu2) hgc
      have TO := Lib.hid (show IsDt Wf (Lo Wf.heap.size) od _ by rw [HOD.out]; exact more_isDt hbd hlen hcap hcm hcd)
      replace z0 := (hbY _ 0 lt_z (by omega)).trans z0
      replace z1 := (hbY _ 1 lt_z (by omega)).trans z1
      replace z2 := (hbY _ 2 lt_z (by omega)).trans z2
      replace z3 := (hbY _ 3 lt_z (by omega)).trans z3
      replace z4 := (hbY _ 4 lt_z (by omega)).trans z4
      replace z5 := (hbY _ 5 lt_z (by omega)).trans z5
      replace fzz0 := (hCf.frozen (p := ⟨w.heap.size + 2, 0, none⟩) lt_z (by show ¬ w.heap.size + 2 = _; omega)).trans fzz0
      replace fzz1 := (hCf.frozen (p := ⟨w.heap.size + 2, 1, none⟩) lt_z (by show ¬ w.heap.size + 2 = _; omega)).trans fzz1
      replace fzz2 := (hCf.frozen (p := ⟨w.heap.size + 2, 2, none⟩) lt_z (by show ¬ w.heap.size + 2 = _; omega)).trans fzz2
      replace fzz3 := (hCf.frozen (p := ⟨w.heap.size + 2, 3, none⟩) lt_z (by show ¬ w.heap.size + 2 = _; omega)).trans fzz3
      replace fzz4 := (hCf.frozen (p := ⟨w.heap.size + 2, 4, none⟩) lt_z (by show ¬ w.heap.size + 2 = _; omega)).trans fzz4
      replace fzz5 := (hCf.frozen (p := ⟨w.heap.size + 2, 5, none⟩) lt_z (by show ¬ w.heap.size + 2 = _; omega)).trans fzz5
      replace lt_z : w.heap.size + 2 < Wf.heap.size := by omega
      obtain ⟨v0, v1, v2, v3, v4, v5⟩ := hs6
      have fzv0 := (hz6 ⟨w1.heap.size + 2, 0, none⟩).trans kf0
      have fzv1 := (hz6 ⟨w1.heap.size + 2, 1, none⟩).trans kf1
      have fzv2 := (hz6 ⟨w1.heap.size + 2, 2, none⟩).trans kf2
      have fzv3 := (hz6 ⟨w1.heap.size + 2, 3, none⟩).trans kf3
      have fzv4 := (hz6 ⟨w1.heap.size + 2, 4, none⟩).trans kf4
      have fzv5 := (hz6 ⟨w1.heap.size + 2, 5, none⟩).trans kf5
      have lt_v : w1.heap.size + 2 < Wf.heap.size := by omega
      replace HW := Lib.hid (HW.out.trans (hCf.below HW.out.size (fun i hi h => by have := HW.out.size; omega)))
      clear hWf hf6 hz6 hsz6 hCf hbY hgc haw hlw htw hbd hcd hT0 hTX hT4 hX gX hrun hg1 hnews hcells h4 TA TD x0 x1 x2 x3 x4 x5 y0 y1 y2 y3 y4 y5 u0 u1 u2 u3 u4 u5 k0 k1 k2 k3 k4 k5 kf0 kf1 kf2 kf3 kf4 kf5 fzu0 fzu1 fzu2 fzu3 fzu4 fzu5 lt_x lt_y lt_u
      go_wp2_with fail
      by_cases h0 : co = 0
      · subst h0
        refine (rcheck_any od _ _ Wf (by exact TO.out) (Nat.le_refl _)).mono ?_
        rintro e w2 ⟨rfl, hb⟩
        rw [Co.out]
        replace fzz0 := (hb.frozen (p := ⟨w.heap.size + 2, 0, none⟩) lt_z).trans fzz0
        replace fzz1 := (hb.frozen (p := ⟨w.heap.size + 2, 1, none⟩) lt_z).trans fzz1
        replace fzz2 := (hb.frozen (p := ⟨w.heap.size + 2, 2, none⟩) lt_z).trans fzz2
        replace fzz3 := (hb.frozen (p := ⟨w.heap.size + 2, 3, none⟩) lt_z).trans fzz3
        replace fzz4 := (hb.frozen (p := ⟨w.heap.size + 2, 4, none⟩) lt_z).trans fzz4
        replace fzz5 := (hb.frozen (p := ⟨w.heap.size + 2, 5, none⟩) lt_z).trans fzz5
        replace z0 := (hb.cell (p := ⟨w.heap.size + 2, 0, none⟩) lt_z).trans z0
        replace z1 := (hb.cell (p := ⟨w.heap.size + 2, 1, none⟩) lt_z).trans z1
        replace z2 := (hb.cell (p := ⟨w.heap.size + 2, 2, none⟩) lt_z).trans z2
        replace z3 := (hb.cell (p := ⟨w.heap.size + 2, 3, none⟩) lt_z).trans z3
        replace z4 := (hb.cell (p := ⟨w.heap.size + 2, 4, none⟩) lt_z).trans z4
        replace z5 := (hb.cell (p := ⟨w.heap.size + 2, 5, none⟩) lt_z).trans z5
        replace lt_z : w.heap.size + 2 < w2.heap.size := Nat.lt_of_lt_of_le lt_z hb.size
        replace fzv0 := (hb.frozen (p := ⟨w1.heap.size + 2, 0, none⟩) lt_v).trans fzv0
        replace fzv1 := (hb.frozen (p := ⟨w1.heap.size + 2, 1, none⟩) lt_v).trans fzv1
        replace fzv2 := (hb.frozen (p := ⟨w1.heap.size + 2, 2, none⟩) lt_v).trans fzv2
        replace fzv3 := (hb.frozen (p := ⟨w1.heap.size + 2, 3, none⟩) lt_v).trans fzv3
        replace fzv4 := (hb.frozen (p := ⟨w1.heap.size + 2, 4, none⟩) lt_v).trans fzv4
        replace fzv5 := (hb.frozen (p := ⟨w1.heap.size + 2, 5, none⟩) lt_v).trans fzv5
        replace v0 := (hb.cell (p := ⟨w1.heap.size + 2, 0, none⟩) lt_v).trans v0
        replace v1 := (hb.cell (p := ⟨w1.heap.size + 2, 1, none⟩) lt_v).trans v1
        replace v2 := (hb.cell (p := ⟨w1.heap.size + 2, 2, none⟩) lt_v).trans v2
        replace v3 := (hb.cell (p := ⟨w1.heap.size + 2, 3, none⟩) lt_v).trans v3
        replace v4 := (hb.cell (p := ⟨w1.heap.size + 2, 4, none⟩) lt_v).trans v4
        replace v5 := (hb.cell (p := ⟨w1.heap.size + 2, 5, none⟩) lt_v).trans v5
        replace lt_v : w1.heap.size + 2 < w2.heap.size := Nat.lt_of_lt_of_le lt_v hb.size
        replace TO := Lib.hid (TO.out.up hb)
        replace HW := Lib.hid (HW.out.trans (hb.mono HW.out.size))
        clear hb
        go_wp2_with fail
        refine (rclone_any od _ _ w2 (by exact TO.out) (Nat.le_refl _)).mono ?_
        rintro e w9 ⟨v', rfl, hb, hi⟩
        rw [clone_of Co.out] at hi
        have hi' := hi
        obtain ⟨qm, qcm, ql, qcl, qt, qct, rfl, _⟩ := hi'.open_
        obtain ⟨hc9, hz9⟩ := bcell hb
        have s9 := hb.size
        have HBM := Lib.hid hb
        have HI := Lib.hid hi
        have zz0 : w9.cell? ⟨w.heap.size + 2, 0, none⟩ = some (.int .i64 0) := (hc9 _ 0 lt_z).trans z0
        have zz1 : w9.cell? ⟨w.heap.size + 2, 1, none⟩ = some (.int .i64 0) := (hc9 _ 1 lt_z).trans z1
        have zz2 : w9.cell? ⟨w.heap.size + 2, 2, none⟩ = some (.string ⟨#[]⟩) := (hc9 _ 2 lt_z).trans z2
        have zz3 : w9.cell? ⟨w.heap.size + 2, 3, none⟩ = some (.slice none 0 0) := (hc9 _ 3 lt_z).trans z3
        have zz4 : w9.cell? ⟨w.heap.size + 2, 4, none⟩ = some (.slice none 0 0) := (hc9 _ 4 lt_z).trans z4
        have zz5 : w9.cell? ⟨w.heap.size + 2, 5, none⟩ = some (.slice none 0 0) := (hc9 _ 5 lt_z).trans z5
        have hlz : w.heap.size + 2 < w9.heap.size := by omega
        clear hb hi hi'
        go_wp2_with fail
        refine bodyPost_ret (v := .tuple #[.agg #[.int .i64 od.K, .int .i64 od.N, .string od.S, .slice qm od.M.length qcm, .slice ql od.L.length qcl, .slice qt od.T.length qct], .int .i64 0]) ?_ rfl ?_
        · simp [results, Try.results31, go_sem, hlz, zz0, zz1, zz2, zz3, zz4, zz5]
        · exact two_end hB (b := w.heap.size + 2) (by omega) lt_z HW.out HBM.out (HI.out.more (fun b hb => .inr hb))
      · have dn1 : (co != 0) = true := by simp [h0]
        have H0 := Lib.hid h0
        clear h0
        refine (rcheck_any od _ _ Wf (by exact TO.out) (Nat.le_refl _)).mono ?_
        rintro e w2 ⟨rfl, hb⟩
        rw [Co.out]
        replace fzz0 := (hb.frozen (p := ⟨w.heap.size + 2, 0, none⟩) lt_z).trans fzz0
        replace fzz1 := (hb.frozen (p := ⟨w.heap.size + 2, 1, none⟩) lt_z).trans fzz1
        replace fzz2 := (hb.frozen (p := ⟨w.heap.size + 2, 2, none⟩) lt_z).trans fzz2
        replace fzz3 := (hb.frozen (p := ⟨w.heap.size + 2, 3, none⟩) lt_z).trans fzz3
        replace fzz4 := (hb.frozen (p := ⟨w.heap.size + 2, 4, none⟩) lt_z).trans fzz4
        replace fzz5 := (hb.frozen (p := ⟨w.heap.size + 2, 5, none⟩) lt_z).trans fzz5
        replace z0 := (hb.cell (p := ⟨w.heap.size + 2, 0, none⟩) lt_z).trans z0
        replace z1 := (hb.cell (p := ⟨w.heap.size + 2, 1, none⟩) lt_z).trans z1
        replace z2 := (hb.cell (p := ⟨w.heap.size + 2, 2, none⟩) lt_z).trans z2
        replace z3 := (hb.cell (p := ⟨w.heap.size + 2, 3, none⟩) lt_z).trans z3
        replace z4 := (hb.cell (p := ⟨w.heap.size + 2, 4, none⟩) lt_z).trans z4
        replace z5 := (hb.cell (p := ⟨w.heap.size + 2, 5, none⟩) lt_z).trans z5
        replace lt_z : w.heap.size + 2 < w2.heap.size := Nat.lt_of_lt_of_le lt_z hb.size
        replace fzv0 := (hb.frozen (p := ⟨w1.heap.size + 2, 0, none⟩) lt_v).trans fzv0
        replace fzv1 := (hb.frozen (p := ⟨w1.heap.size + 2, 1, none⟩) lt_v).trans fzv1
        replace fzv2 := (hb.frozen (p := ⟨w1.heap.size + 2, 2, none⟩) lt_v).trans fzv2
        replace fzv3 := (hb.frozen (p := ⟨w1.heap.size + 2, 3, none⟩) lt_v).trans fzv3
        replace fzv4 := (hb.frozen (p := ⟨w1.heap.size + 2, 4, none⟩) lt_v).trans fzv4
        replace fzv5 := (hb.frozen (p := ⟨w1.heap.size + 2, 5, none⟩) lt_v).trans fzv5
        replace v0 := (hb.cell (p := ⟨w1.heap.size + 2, 0, none⟩) lt_v).trans v0
        replace v1 := (hb.cell (p := ⟨w1.heap.size + 2, 1, none⟩) lt_v).trans v1
        replace v2 := (hb.cell (p := ⟨w1.heap.size + 2, 2, none⟩) lt_v).trans v2
        replace v3 := (hb.cell (p := ⟨w1.heap.size + 2, 3, none⟩) lt_v).trans v3
        replace v4 := (hb.cell (p := ⟨w1.heap.size + 2, 4, none⟩) lt_v).trans v4
        replace v5 := (hb.cell (p := ⟨w1.heap.size + 2, 5, none⟩) lt_v).trans v5
        replace lt_v : w1.heap.size + 2 < w2.heap.size := Nat.lt_of_lt_of_le lt_v hb.size
        replace TO := Lib.hid (TO.out.up hb)
        replace HW := Lib.hid (HW.out.trans (hb.mono HW.out.size))
        clear hb
        go_wp2_with fail
        refine bodyPost_ret (v := .tuple #[zeroV, .int .i64 co]) ?_ rfl ?_
        · simp [results, Try.results31, go_sem, zeroV, lt_z, z0, z1, z2, z3, z4, z5]
        · exact two_bad (b := w.heap.size + 2) (by omega) H0.out HW.out rfl
  · have hod : od = .mk 7 0 ⟨#[]⟩ [] [a] [d] := by rw [← Od_.out]; unfold consD; rw [if_neg hk]
    have HOD := Lib.hid hod
    have d6 : (d.K == 6) = false := by rw [beq_eq_false_iff_ne]; exact fun h => hk (.inl h)
    have d7 : (d.K == 7) = false := by rw [beq_eq_false_iff_ne]; exact fun h => hk (.inr h)
    clear hod hk
    have HW := Lib.hid (bel_refl w)
    go_enter Try.func31, Try.ntmps31
    go_wp2_with fail
    obtain ⟨hbX, hsX, hkX⟩ := start_allocs [(#[.int .i64 a.K, .int .i64 a.N, .string a.S, .slice am a.M.length acm, .slice al a.L.length acl, .slice at_ a.T.length act], 25), (#[.int .i64 d.K, .int .i64 d.N, .string d.S, .slice dm d.M.length dcm, .slice dl d.L.length dcl, .slice dt d.T.length dct], 25), (#[.int .i64 0, .int .i64 0, .string ⟨#[]⟩, .slice none 0 0, .slice none 0 0, .slice none 0 0], 25)] w
    have g0 := hkX 0 _ rfl
    have g1 := hkX 1 _ rfl
    have g2 := hkX 2 _ rfl
    set_option linter.unusedSimpArgs false in
    simp only [allocs, List.foldl_cons, List.foldl_nil, Nat.add_zero, List.length_cons, List.length_nil, Nat.zero_add, Nat.reduceAdd] at hbX hsX g0 g1 g2
    clear hkX
    generalize ((w.alloc (.cells #[.int .i64 a.K, .int .i64 a.N, .string a.S, .slice am a.M.length acm, .slice al a.L.length acl, .slice at_ a.T.length act] 25)).alloc (.cells #[.int .i64 d.K, .int .i64 d.N, .string d.S, .slice dm d.M.length dcm, .slice dl d.L.length dcl, .slice dt d.T.length dct] 25)).alloc (.cells #[.int .i64 0, .int .i64 0, .string ⟨#[]⟩, .slice none 0 0, .slice none 0 0, .slice none 0 0] 25) = X0 at *
    have x0 : X0.cell? ⟨w.heap.size, 0, none⟩ = some (.int .i64 a.K) := (g0.cell 0).trans rfl
    have x1 : X0.cell? ⟨w.heap.size, 1, none⟩ = some (.int .i64 a.N) := (g0.cell 1).trans rfl
    have x2 : X0.cell? ⟨w.heap.size, 2, none⟩ = some (.string a.S) := (g0.cell 2).trans rfl
    have x3 : X0.cell? ⟨w.heap.size, 3, none⟩ = some (.slice am a.M.length acm) := (g0.cell 3).trans rfl
    have x4 : X0.cell? ⟨w.heap.size, 4, none⟩ = some (.slice al a.L.length acl) := (g0.cell 4).trans rfl
    have x5 : X0.cell? ⟨w.heap.size, 5, none⟩ = some (.slice at_ a.T.length act) := (g0.cell 5).trans rfl
    have lt_x : w.heap.size < X0.heap.size := by omega
    have y0 : X0.cell? ⟨w.heap.size + 1, 0, none⟩ = some (.int .i64 d.K) := (g1.cell 0).trans rfl
    have y1 : X0.cell? ⟨w.heap.size + 1, 1, none⟩ = some (.int .i64 d.N) := (g1.cell 1).trans rfl
    have y2 : X0.cell? ⟨w.heap.size + 1, 2, none⟩ = some (.string d.S) := (g1.cell 2).trans rfl
    have y3 : X0.cell? ⟨w.heap.size + 1, 3, none⟩ = some (.slice dm d.M.length dcm) := (g1.cell 3).trans rfl
    have y4 : X0.cell? ⟨w.heap.size + 1, 4, none⟩ = some (.slice dl d.L.length dcl) := (g1.cell 4).trans rfl
    have y5 : X0.cell? ⟨w.heap.size + 1, 5, none⟩ = some (.slice dt d.T.length dct) := (g1.cell 5).trans rfl
    have lt_y : w.heap.size + 1 < X0.heap.size := by omega
    have z0 : X0.cell? ⟨w.heap.size + 2, 0, none⟩ = some (.int .i64 0) := (g2.cell 0).trans rfl
    have z1 : X0.cell? ⟨w.heap.size + 2, 1, none⟩ = some (.int .i64 0) := (g2.cell 1).trans rfl
    have z2 : X0.cell? ⟨w.heap.size + 2, 2, none⟩ = some (.string ⟨#[]⟩) := (g2.cell 2).trans rfl
    have z3 : X0.cell? ⟨w.heap.size + 2, 3, none⟩ = some (.slice none 0 0) := (g2.cell 3).trans rfl
    have z4 : X0.cell? ⟨w.heap.size + 2, 4, none⟩ = some (.slice none 0 0) := (g2.cell 4).trans rfl
    have z5 : X0.cell? ⟨w.heap.size + 2, 5, none⟩ = some (.slice none 0 0) := (g2.cell 5).trans rfl
    have fzz0 := g2.frozen 0
    have fzz1 := g2.frozen 1
    have fzz2 := g2.frozen 2
    have fzz3 := g2.frozen 3
    have fzz4 := g2.frozen 4
    have fzz5 := g2.frozen 5
    have lt_z : w.heap.size + 2 < X0.heap.size := by omega
    clear g0 g1 g2 hsX
    replace TA := Lib.hid (TA.out.up hbX)
    replace TD := Lib.hid (TD.out.up hbX)
    replace HW := Lib.hid (HW.out.trans (hbX.mono HW.out.size))
    clear hbX
    refine (rcheck_any a _ _ X0 (by exact TA.out) (Nat.le_refl _)).mono ?_
    rintro e w0 ⟨rfl, hb⟩
    rw [Ca.out]
    replace x0 := (hb.cell (p := ⟨w.heap.size, 0, none⟩) lt_x).trans x0
    replace x1 := (hb.cell (p := ⟨w.heap.size, 1, none⟩) lt_x).trans x1
    replace x2 := (hb.cell (p := ⟨w.heap.size, 2, none⟩) lt_x).trans x2
    replace x3 := (hb.cell (p := ⟨w.heap.size, 3, none⟩) lt_x).trans x3
    replace x4 := (hb.cell (p := ⟨w.heap.size, 4, none⟩) lt_x).trans x4
    replace x5 := (hb.cell (p := ⟨w.heap.size, 5, none⟩) lt_x).trans x5
    replace lt_x : w.heap.size < w0.heap.size := Nat.lt_of_lt_of_le lt_x hb.size
    replace y0 := (hb.cell (p := ⟨w.heap.size + 1, 0, none⟩) lt_y).trans y0
    replace y1 := (hb.cell (p := ⟨w.heap.size + 1, 1, none⟩) lt_y).trans y1
    replace y2 := (hb.cell (p := ⟨w.heap.size + 1, 2, none⟩) lt_y).trans y2
    replace y3 := (hb.cell (p := ⟨w.heap.size + 1, 3, none⟩) lt_y).trans y3
    replace y4 := (hb.cell (p := ⟨w.heap.size + 1, 4, none⟩) lt_y).trans y4
    replace y5 := (hb.cell (p := ⟨w.heap.size + 1, 5, none⟩) lt_y).trans y5
    replace lt_y : w.heap.size + 1 < w0.heap.size := Nat.lt_of_lt_of_le lt_y hb.size
    replace fzz0 := (hb.frozen (p := ⟨w.heap.size + 2, 0, none⟩) lt_z).trans fzz0
    replace fzz1 := (hb.frozen (p := ⟨w.heap.size + 2, 1, none⟩) lt_z).trans fzz1
    replace fzz2 := (hb.frozen (p := ⟨w.heap.size + 2, 2, none⟩) lt_z).trans fzz2
    replace fzz3 := (hb.frozen (p := ⟨w.heap.size + 2, 3, none⟩) lt_z).trans fzz3
    replace fzz4 := (hb.frozen (p := ⟨w.heap.size + 2, 4, none⟩) lt_z).trans fzz4
    replace fzz5 := (hb.frozen (p := ⟨w.heap.size + 2, 5, none⟩) lt_z).trans fzz5
    replace z0 := (hb.cell (p := ⟨w.heap.size + 2, 0, none⟩) lt_z).trans z0
    replace z1 := (hb.cell (p := ⟨w.heap.size + 2, 1, none⟩) lt_z).trans z1
    replace z2 := (hb.cell (p := ⟨w.heap.size + 2, 2, none⟩) lt_z).trans z2
    replace z3 := (hb.cell (p := ⟨w.heap.size + 2, 3, none⟩) lt_z).trans z3
    replace z4 := (hb.cell (p := ⟨w.heap.size + 2, 4, none⟩) lt_z).trans z4
    replace z5 := (hb.cell (p := ⟨w.heap.size + 2, 5, none⟩) lt_z).trans z5
    replace lt_z : w.heap.size + 2 < w0.heap.size := Nat.lt_of_lt_of_le lt_z hb.size
    replace TA := Lib.hid (TA.out.up hb)
    replace TD := Lib.hid (TD.out.up hb)
    replace HW := Lib.hid (HW.out.trans (hb.mono HW.out.size))
    clear hb
    go_wp2_with fail
    refine (rcheck_any d _ _ w0 (by exact TD.out) (Nat.le_refl _)).mono ?_
    rintro e w1 ⟨rfl, hb⟩
    rw [Cd.out]
    replace x0 := (hb.cell (p := ⟨w.heap.size, 0, none⟩) lt_x).trans x0
    replace x1 := (hb.cell (p := ⟨w.heap.size, 1, none⟩) lt_x).trans x1
    replace x2 := (hb.cell (p := ⟨w.heap.size, 2, none⟩) lt_x).trans x2
    replace x3 := (hb.cell (p := ⟨w.heap.size, 3, none⟩) lt_x).trans x3
    replace x4 := (hb.cell (p := ⟨w.heap.size, 4, none⟩) lt_x).trans x4
    replace x5 := (hb.cell (p := ⟨w.heap.size, 5, none⟩) lt_x).trans x5
    replace lt_x : w.heap.size < w1.heap.size := Nat.lt_of_lt_of_le lt_x hb.size
    replace y0 := (hb.cell (p := ⟨w.heap.size + 1, 0, none⟩) lt_y).trans y0
    replace y1 := (hb.cell (p := ⟨w.heap.size + 1, 1, none⟩) lt_y).trans y1
    replace y2 := (hb.cell (p := ⟨w.heap.size + 1, 2, none⟩) lt_y).trans y2
    replace y3 := (hb.cell (p := ⟨w.heap.size + 1, 3, none⟩) lt_y).trans y3
    replace y4 := (hb.cell (p := ⟨w.heap.size + 1, 4, none⟩) lt_y).trans y4
    replace y5 := (hb.cell (p := ⟨w.heap.size + 1, 5, none⟩) lt_y).trans y5
    replace lt_y : w.heap.size + 1 < w1.heap.size := Nat.lt_of_lt_of_le lt_y hb.size
    replace fzz0 := (hb.frozen (p := ⟨w.heap.size + 2, 0, none⟩) lt_z).trans fzz0
    replace fzz1 := (hb.frozen (p := ⟨w.heap.size + 2, 1, none⟩) lt_z).trans fzz1
    replace fzz2 := (hb.frozen (p := ⟨w.heap.size + 2, 2, none⟩) lt_z).trans fzz2
    replace fzz3 := (hb.frozen (p := ⟨w.heap.size + 2, 3, none⟩) lt_z).trans fzz3
    replace fzz4 := (hb.frozen (p := ⟨w.heap.size + 2, 4, none⟩) lt_z).trans fzz4
    replace fzz5 := (hb.frozen (p := ⟨w.heap.size + 2, 5, none⟩) lt_z).trans fzz5
    replace z0 := (hb.cell (p := ⟨w.heap.size + 2, 0, none⟩) lt_z).trans z0
    replace z1 := (hb.cell (p := ⟨w.heap.size + 2, 1, none⟩) lt_z).trans z1
    replace z2 := (hb.cell (p := ⟨w.heap.size + 2, 2, none⟩) lt_z).trans z2
    replace z3 := (hb.cell (p := ⟨w.heap.size + 2, 3, none⟩) lt_z).trans z3
    replace z4 := (hb.cell (p := ⟨w.heap.size + 2, 4, none⟩) lt_z).trans z4
    replace z5 := (hb.cell (p := ⟨w.heap.size + 2, 5, none⟩) lt_z).trans z5
    replace lt_z : w.heap.size + 2 < w1.heap.size := Nat.lt_of_lt_of_le lt_z hb.size
    replace TA := Lib.hid (TA.out.up hb)
    replace TD := Lib.hid (TD.out.up hb)
    replace HW := Lib.hid (HW.out.trans (hb.mono HW.out.size))
    clear hb
    go_wp2_with fail
    obtain ⟨hbX, hsX, hkX⟩ := start_allocs [(#[.int .i64 a.K, .int .i64 a.N, .string a.S, .slice am a.M.length acm, .slice al a.L.length acl, .slice at_ a.T.length act], 25), (#[.int .i64 d.K, .int .i64 d.N, .string d.S, .slice dm d.M.length dcm, .slice dl d.L.length dcl, .slice dt d.T.length dct], 25), (#[.int .i64 7, .int .i64 0, .string ⟨#[]⟩, .slice none 0 0, .slice (some ⟨w1.heap.size, 0, none⟩) 1 1, .slice (some ⟨w1.heap.size + 1, 0, none⟩) 1 1], 25)] w1
    have g0 := hkX 0 _ rfl
    have g1 := hkX 1 _ rfl
    have g2 := hkX 2 _ rfl
    set_option linter.unusedSimpArgs false in
    simp only [allocs, List.foldl_cons, List.foldl_nil, Nat.add_zero, List.length_cons, List.length_nil, Nat.zero_add, Nat.reduceAdd] at hbX hsX g0 g1 g2
    clear hkX
    generalize ((w1.alloc (.cells #[.int .i64 a.K, .int .i64 a.N, .string a.S, .slice am a.M.length acm, .slice al a.L.length acl, .slice at_ a.T.length act] 25)).alloc (.cells #[.int .i64 d.K, .int .i64 d.N, .string d.S, .slice dm d.M.length dcm, .slice dl d.L.length dcl, .slice dt d.T.length dct] 25)).alloc (.cells #[.int .i64 7, .int .i64 0, .string ⟨#[]⟩, .slice none 0 0, .slice (some ⟨w1.heap.size, 0, none⟩) 1 1, .slice (some ⟨w1.heap.size + 1, 0, none⟩) 1 1] 25) = X1 at *
    have p0 : X1.cell? ⟨w1.heap.size, 0, none⟩ = some (.int .i64 a.K) := (g0.cell 0).trans rfl
    have p1 : X1.cell? ⟨w1.heap.size, 1, none⟩ = some (.int .i64 a.N) := (g0.cell 1).trans rfl
    have p2 : X1.cell? ⟨w1.heap.size, 2, none⟩ = some (.string a.S) := (g0.cell 2).trans rfl
    have p3 : X1.cell? ⟨w1.heap.size, 3, none⟩ = some (.slice am a.M.length acm) := (g0.cell 3).trans rfl
    have p4 : X1.cell? ⟨w1.heap.size, 4, none⟩ = some (.slice al a.L.length acl) := (g0.cell 4).trans rfl
    have p5 : X1.cell? ⟨w1.heap.size, 5, none⟩ = some (.slice at_ a.T.length act) := (g0.cell 5).trans rfl
    have lt_p : w1.heap.size < X1.heap.size := by omega
    have q0 : X1.cell? ⟨w1.heap.size + 1, 0, none⟩ = some (.int .i64 d.K) := (g1.cell 0).trans rfl
    have q1 : X1.cell? ⟨w1.heap.size + 1, 1, none⟩ = some (.int .i64 d.N) := (g1.cell 1).trans rfl
    have q2 : X1.cell? ⟨w1.heap.size + 1, 2, none⟩ = some (.string d.S) := (g1.cell 2).trans rfl
    have q3 : X1.cell? ⟨w1.heap.size + 1, 3, none⟩ = some (.slice dm d.M.length dcm) := (g1.cell 3).trans rfl
    have q4 : X1.cell? ⟨w1.heap.size + 1, 4, none⟩ = some (.slice dl d.L.length dcl) := (g1.cell 4).trans rfl
    have q5 : X1.cell? ⟨w1.heap.size + 1, 5, none⟩ = some (.slice dt d.T.length dct) := (g1.cell 5).trans rfl
    have lt_q : w1.heap.size + 1 < X1.heap.size := by omega
    have u0 : X1.cell? ⟨w1.heap.size + 2, 0, none⟩ = some (.int .i64 7) := (g2.cell 0).trans rfl
    have u1 : X1.cell? ⟨w1.heap.size + 2, 1, none⟩ = some (.int .i64 0) := (g2.cell 1).trans rfl
    have u2 : X1.cell? ⟨w1.heap.size + 2, 2, none⟩ = some (.string ⟨#[]⟩) := (g2.cell 2).trans rfl
    have u3 : X1.cell? ⟨w1.heap.size + 2, 3, none⟩ = some (.slice none 0 0) := (g2.cell 3).trans rfl
    have u4 : X1.cell? ⟨w1.heap.size + 2, 4, none⟩ = some (.slice (some ⟨w1.heap.size, 0, none⟩) 1 1) := (g2.cell 4).trans rfl
    have u5 : X1.cell? ⟨w1.heap.size + 2, 5, none⟩ = some (.slice (some ⟨w1.heap.size + 1, 0, none⟩) 1 1) := (g2.cell 5).trans rfl
    have lt_u : w1.heap.size + 2 < X1.heap.size := by omega
    clear g0 g1 g2 hsX
    replace x0 := (hbX.cell (p := ⟨w.heap.size, 0, none⟩) lt_x).trans x0
    replace x1 := (hbX.cell (p := ⟨w.heap.size, 1, none⟩) lt_x).trans x1
    replace x2 := (hbX.cell (p := ⟨w.heap.size, 2, none⟩) lt_x).trans x2
    replace x3 := (hbX.cell (p := ⟨w.heap.size, 3, none⟩) lt_x).trans x3
    replace x4 := (hbX.cell (p := ⟨w.heap.size, 4, none⟩) lt_x).trans x4
    replace x5 := (hbX.cell (p := ⟨w.heap.size, 5, none⟩) lt_x).trans x5
    replace lt_x : w.heap.size < X1.heap.size := Nat.lt_of_lt_of_le lt_x hbX.size
    replace y0 := (hbX.cell (p := ⟨w.heap.size + 1, 0, none⟩) lt_y).trans y0
    replace y1 := (hbX.cell (p := ⟨w.heap.size + 1, 1, none⟩) lt_y).trans y1
    replace y2 := (hbX.cell (p := ⟨w.heap.size + 1, 2, none⟩) lt_y).trans y2
    replace y3 := (hbX.cell (p := ⟨w.heap.size + 1, 3, none⟩) lt_y).trans y3
    replace y4 := (hbX.cell (p := ⟨w.heap.size + 1, 4, none⟩) lt_y).trans y4
    replace y5 := (hbX.cell (p := ⟨w.heap.size + 1, 5, none⟩) lt_y).trans y5
    replace lt_y : w.heap.size + 1 < X1.heap.size := Nat.lt_of_lt_of_le lt_y hbX.size
    replace fzz0 := (hbX.frozen (p := ⟨w.heap.size + 2, 0, none⟩) lt_z).trans fzz0
    replace fzz1 := (hbX.frozen (p := ⟨w.heap.size + 2, 1, none⟩) lt_z).trans fzz1
    replace fzz2 := (hbX.frozen (p := ⟨w.heap.size + 2, 2, none⟩) lt_z).trans fzz2
    replace fzz3 := (hbX.frozen (p := ⟨w.heap.size + 2, 3, none⟩) lt_z).trans fzz3
    replace fzz4 := (hbX.frozen (p := ⟨w.heap.size + 2, 4, none⟩) lt_z).trans fzz4
    replace fzz5 := (hbX.frozen (p := ⟨w.heap.size + 2, 5, none⟩) lt_z).trans fzz5
    replace z0 := (hbX.cell (p := ⟨w.heap.size + 2, 0, none⟩) lt_z).trans z0
    replace z1 := (hbX.cell (p := ⟨w.heap.size + 2, 1, none⟩) lt_z).trans z1
    replace z2 := (hbX.cell (p := ⟨w.heap.size + 2, 2, none⟩) lt_z).trans z2
    replace z3 := (hbX.cell (p := ⟨w.heap.size + 2, 3, none⟩) lt_z).trans z3
    replace z4 := (hbX.cell (p := ⟨w.heap.size + 2, 4, none⟩) lt_z).trans z4
    replace z5 := (hbX.cell (p := ⟨w.heap.size + 2, 5, none⟩) lt_z).trans z5
    replace lt_z : w.heap.size + 2 < X1.heap.size := Nat.lt_of_lt_of_le lt_z hbX.size
    replace TA := Lib.hid (TA.out.up hbX)
    replace TD := Lib.hid (TD.out.up hbX)
    replace HW := Lib.hid (HW.out.trans (hbX.mono HW.out.size))
    clear hbX
    have pa : IsDts X1 (Lo X1.heap.size) (some ⟨w1.heap.size, 0, none⟩) 0 [a] := by simp only [IsDts]; exact ⟨⟨w1.heap.size, 0, _, _, _, _, _, _, rfl, by show w1.heap.size < X1.heap.size; omega, ⟨p0, p1, p2, p3, p4, p5⟩, TA.out⟩, trivial⟩
    have pd : IsDts X1 (Lo X1.heap.size) (some ⟨w1.heap.size + 1, 0, none⟩) 0 [d] := by simp only [IsDts]; exact ⟨⟨w1.heap.size + 1, 0, _, _, _, _, _, _, rfl, by show w1.heap.size + 1 < X1.heap.size; omega, ⟨q0, q1, q2, q3, q4, q5⟩, TD.out⟩, trivial⟩
    have TO := Lib.hid (show IsDt X1 (Lo X1.heap.size) od _ by rw [HOD.out]; exact dot_isDt pa pd)
    clear pa pd p0 p1 p2 p3 p4 p5 q0 q1 q2 q3 q4 q5
    by_cases h0 : co = 0
    · subst h0
      refine (rcheck_any od _ _ X1 (by exact TO.out) (Nat.le_refl _)).mono ?_
      rintro e w2 ⟨rfl, hb⟩
      rw [Co.out]
      replace x0 := (hb.cell (p := ⟨w.heap.size, 0, none⟩) lt_x).trans x0
      replace x1 := (hb.cell (p := ⟨w.heap.size, 1, none⟩) lt_x).trans x1
      replace x2 := (hb.cell (p := ⟨w.heap.size, 2, none⟩) lt_x).trans x2
      replace x3 := (hb.cell (p := ⟨w.heap.size, 3, none⟩) lt_x).trans x3
      replace x4 := (hb.cell (p := ⟨w.heap.size, 4, none⟩) lt_x).trans x4
      replace x5 := (hb.cell (p := ⟨w.heap.size, 5, none⟩) lt_x).trans x5
      replace lt_x : w.heap.size < w2.heap.size := Nat.lt_of_lt_of_le lt_x hb.size
      replace y0 := (hb.cell (p := ⟨w.heap.size + 1, 0, none⟩) lt_y).trans y0
      replace y1 := (hb.cell (p := ⟨w.heap.size + 1, 1, none⟩) lt_y).trans y1
      replace y2 := (hb.cell (p := ⟨w.heap.size + 1, 2, none⟩) lt_y).trans y2
      replace y3 := (hb.cell (p := ⟨w.heap.size + 1, 3, none⟩) lt_y).trans y3
      replace y4 := (hb.cell (p := ⟨w.heap.size + 1, 4, none⟩) lt_y).trans y4
      replace y5 := (hb.cell (p := ⟨w.heap.size + 1, 5, none⟩) lt_y).trans y5
      replace lt_y : w.heap.size + 1 < w2.heap.size := Nat.lt_of_lt_of_le lt_y hb.size
      replace fzz0 := (hb.frozen (p := ⟨w.heap.size + 2, 0, none⟩) lt_z).trans fzz0
      replace fzz1 := (hb.frozen (p := ⟨w.heap.size + 2, 1, none⟩) lt_z).trans fzz1
      replace fzz2 := (hb.frozen (p := ⟨w.heap.size + 2, 2, none⟩) lt_z).trans fzz2
      replace fzz3 := (hb.frozen (p := ⟨w.heap.size + 2, 3, none⟩) lt_z).trans fzz3
      replace fzz4 := (hb.frozen (p := ⟨w.heap.size + 2, 4, none⟩) lt_z).trans fzz4
      replace fzz5 := (hb.frozen (p := ⟨w.heap.size + 2, 5, none⟩) lt_z).trans fzz5
      replace z0 := (hb.cell (p := ⟨w.heap.size + 2, 0, none⟩) lt_z).trans z0
      replace z1 := (hb.cell (p := ⟨w.heap.size + 2, 1, none⟩) lt_z).trans z1
      replace z2 := (hb.cell (p := ⟨w.heap.size + 2, 2, none⟩) lt_z).trans z2
      replace z3 := (hb.cell (p := ⟨w.heap.size + 2, 3, none⟩) lt_z).trans z3
      replace z4 := (hb.cell (p := ⟨w.heap.size + 2, 4, none⟩) lt_z).trans z4
      replace z5 := (hb.cell (p := ⟨w.heap.size + 2, 5, none⟩) lt_z).trans z5
      replace lt_z : w.heap.size + 2 < w2.heap.size := Nat.lt_of_lt_of_le lt_z hb.size
      replace u0 := (hb.cell (p := ⟨w1.heap.size + 2, 0, none⟩) lt_u).trans u0
      replace u1 := (hb.cell (p := ⟨w1.heap.size + 2, 1, none⟩) lt_u).trans u1
      replace u2 := (hb.cell (p := ⟨w1.heap.size + 2, 2, none⟩) lt_u).trans u2
      replace u3 := (hb.cell (p := ⟨w1.heap.size + 2, 3, none⟩) lt_u).trans u3
      replace u4 := (hb.cell (p := ⟨w1.heap.size + 2, 4, none⟩) lt_u).trans u4
      replace u5 := (hb.cell (p := ⟨w1.heap.size + 2, 5, none⟩) lt_u).trans u5
      replace lt_u : w1.heap.size + 2 < w2.heap.size := Nat.lt_of_lt_of_le lt_u hb.size
      replace TA := Lib.hid (TA.out.up hb)
      replace TD := Lib.hid (TD.out.up hb)
      replace TO := Lib.hid (TO.out.up hb)
      replace HW := Lib.hid (HW.out.trans (hb.mono HW.out.size))
      clear hb
      go_wp2_with fail
      refine (rclone_any od _ _ w2 (by exact TO.out) (Nat.le_refl _)).mono ?_
      rintro e w9 ⟨v', rfl, hb, hi⟩
      rw [clone_of Co.out] at hi
      have hi' := hi
      obtain ⟨qm, qcm, ql, qcl, qt, qct, rfl, _⟩ := hi'.open_
      obtain ⟨hc9, hz9⟩ := bcell hb
      have s9 := hb.size
      have HBM := Lib.hid hb
      have HI := Lib.hid hi
      have zz0 : w9.cell? ⟨w.heap.size + 2, 0, none⟩ = some (.int .i64 0) := (hc9 _ 0 lt_z).trans z0
      have zz1 : w9.cell? ⟨w.heap.size + 2, 1, none⟩ = some (.int .i64 0) := (hc9 _ 1 lt_z).trans z1
      have zz2 : w9.cell? ⟨w.heap.size + 2, 2, none⟩ = some (.string ⟨#[]⟩) := (hc9 _ 2 lt_z).trans z2
      have zz3 : w9.cell? ⟨w.heap.size + 2, 3, none⟩ = some (.slice none 0 0) := (hc9 _ 3 lt_z).trans z3
      have zz4 : w9.cell? ⟨w.heap.size + 2, 4, none⟩ = some (.slice none 0 0) := (hc9 _ 4 lt_z).trans z4
      have zz5 : w9.cell? ⟨w.heap.size + 2, 5, none⟩ = some (.slice none 0 0) := (hc9 _ 5 lt_z).trans z5
      have hlz : w.heap.size + 2 < w9.heap.size := by omega
      clear hb hi hi'
      go_wp2_with fail
      refine bodyPost_ret (v := .tuple #[.agg #[.int .i64 od.K, .int .i64 od.N, .string od.S, .slice qm od.M.length qcm, .slice ql od.L.length qcl, .slice qt od.T.length qct], .int .i64 0]) ?_ rfl ?_
      · simp [results, Try.results31, go_sem, hlz, zz0, zz1, zz2, zz3, zz4, zz5]
      · exact two_end hB (b := w.heap.size + 2) (by omega) lt_z HW.out HBM.out (HI.out.more (fun b hb => .inr hb))
    · have dn1 : (co != 0) = true := by simp [h0]
      have H0 := Lib.hid h0
      clear h0
      refine (rcheck_any od _ _ X1 (by exact TO.out) (Nat.le_refl _)).mono ?_
      rintro e w2 ⟨rfl, hb⟩
      rw [Co.out]
      replace x0 := (hb.cell (p := ⟨w.heap.size, 0, none⟩) lt_x).trans x0
      replace x1 := (hb.cell (p := ⟨w.heap.size, 1, none⟩) lt_x).trans x1
      replace x2 := (hb.cell (p := ⟨w.heap.size, 2, none⟩) lt_x).trans x2
      replace x3 := (hb.cell (p := ⟨w.heap.size, 3, none⟩) lt_x).trans x3
      replace x4 := (hb.cell (p := ⟨w.heap.size, 4, none⟩) lt_x).trans x4
      replace x5 := (hb.cell (p := ⟨w.heap.size, 5, none⟩) lt_x).trans x5
      replace lt_x : w.heap.size < w2.heap.size := Nat.lt_of_lt_of_le lt_x hb.size
      replace y0 := (hb.cell (p := ⟨w.heap.size + 1, 0, none⟩) lt_y).trans y0
      replace y1 := (hb.cell (p := ⟨w.heap.size + 1, 1, none⟩) lt_y).trans y1
      replace y2 := (hb.cell (p := ⟨w.heap.size + 1, 2, none⟩) lt_y).trans y2
      replace y3 := (hb.cell (p := ⟨w.heap.size + 1, 3, none⟩) lt_y).trans y3
      replace y4 := (hb.cell (p := ⟨w.heap.size + 1, 4, none⟩) lt_y).trans y4
      replace y5 := (hb.cell (p := ⟨w.heap.size + 1, 5, none⟩) lt_y).trans y5
      replace lt_y : w.heap.size + 1 < w2.heap.size := Nat.lt_of_lt_of_le lt_y hb.size
      replace fzz0 := (hb.frozen (p := ⟨w.heap.size + 2, 0, none⟩) lt_z).trans fzz0
      replace fzz1 := (hb.frozen (p := ⟨w.heap.size + 2, 1, none⟩) lt_z).trans fzz1
      replace fzz2 := (hb.frozen (p := ⟨w.heap.size + 2, 2, none⟩) lt_z).trans fzz2
      replace fzz3 := (hb.frozen (p := ⟨w.heap.size + 2, 3, none⟩) lt_z).trans fzz3
      replace fzz4 := (hb.frozen (p := ⟨w.heap.size + 2, 4, none⟩) lt_z).trans fzz4
      replace fzz5 := (hb.frozen (p := ⟨w.heap.size + 2, 5, none⟩) lt_z).trans fzz5
      replace z0 := (hb.cell (p := ⟨w.heap.size + 2, 0, none⟩) lt_z).trans z0
      replace z1 := (hb.cell (p := ⟨w.heap.size + 2, 1, none⟩) lt_z).trans z1
      replace z2 := (hb.cell (p := ⟨w.heap.size + 2, 2, none⟩) lt_z).trans z2
      replace z3 := (hb.cell (p := ⟨w.heap.size + 2, 3, none⟩) lt_z).trans z3
      replace z4 := (hb.cell (p := ⟨w.heap.size + 2, 4, none⟩) lt_z).trans z4
      replace z5 := (hb.cell (p := ⟨w.heap.size + 2, 5, none⟩) lt_z).trans z5
      replace lt_z : w.heap.size + 2 < w2.heap.size := Nat.lt_of_lt_of_le lt_z hb.size
      replace u0 := (hb.cell (p := ⟨w1.heap.size + 2, 0, none⟩) lt_u).trans u0
      replace u1 := (hb.cell (p := ⟨w1.heap.size + 2, 1, none⟩) lt_u).trans u1
      replace u2 := (hb.cell (p := ⟨w1.heap.size + 2, 2, none⟩) lt_u).trans u2
      replace u3 := (hb.cell (p := ⟨w1.heap.size + 2, 3, none⟩) lt_u).trans u3
      replace u4 := (hb.cell (p := ⟨w1.heap.size + 2, 4, none⟩) lt_u).trans u4
      replace u5 := (hb.cell (p := ⟨w1.heap.size + 2, 5, none⟩) lt_u).trans u5
      replace lt_u : w1.heap.size + 2 < w2.heap.size := Nat.lt_of_lt_of_le lt_u hb.size
      replace TA := Lib.hid (TA.out.up hb)
      replace TD := Lib.hid (TD.out.up hb)
      replace TO := Lib.hid (TO.out.up hb)
      replace HW := Lib.hid (HW.out.trans (hb.mono HW.out.size))
      clear hb
      go_wp2_with fail
      refine bodyPost_ret (v := .tuple #[zeroV, .int .i64 co]) ?_ rfl ?_
      · simp [results, Try.results31, go_sem, zeroV, lt_z, z0, z1, z2, z3, z4, z5]
      · exact two_bad (b := w.heap.size + 2) (by omega) H0.out HW.out rfl
end Go.Proofs.Ytjmchodddobleaa.Da
