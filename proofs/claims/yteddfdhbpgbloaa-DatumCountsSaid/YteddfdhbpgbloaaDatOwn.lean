/- A datum copied in new memory: what the program returns. -/
import Derived.Test.YteddfdhbpgbloaaDatEach
import Derived.Test.YteddfdhbpgbloaaOrd
import Derived.Test.YteddfdhbpgbloaaDatOwnEnd
import Derived.Deep.RegionHeld3
import Derived.Deep.RegionLaw
import Derived.Deep.RegionWith
import Derived.StillTactics
import Derived.Laws.Pointers
namespace Go.Proofs.Yteddfdhbpgbloaa.Da
open Go.ChangeShapes Go.WideShapes Go.ChangeAt Go.RowKit

/-- A block that is known whole. -/
def Blk (w : World) (g : Nat) (t : TypeId) (cs : Array Value) : Prop := w.heap[g]? = some (.cells cs t (0, 0))
theorem Blk.cell {w : World} {g : Nat} {t : TypeId} {cs : Array Value} (h : Blk w g t cs) (i : Nat) : w.cell? ⟨g, i, none⟩ = cs[i]? := cell_of_row w g i cs t (0, 0) h
theorem Blk.frozen {w : World} {g : Nat} {t : TypeId} {cs : Array Value} (h : Blk w g t cs) (i : Nat) : w.frozen? ⟨g, i, none⟩ = false := by
  unfold Blk at h
  simp [World.frozen?, h]
theorem Blk.fr {S : Nat → Prop} {w w' : World} {g : Nat} {t : TypeId} {cs : Array Value} (h : Blk w g t cs) (hf : Fr S w w') (hs : ¬ S g) (hg : g < w.heap.size) : Blk w' g t cs := (hf.block g hg hs).trans h
/-- What lies there when a node has been counted. -/
theorem start_own {w : World} {bl c : Nat} (h : LBox w bl c) (hc : c ≠ 0) (xs ys : Array Value) (t u : TypeId) :
    Fr (fun i => i = bl) w (((w.setCell ⟨bl, 0, none⟩ (.int .i64 ((c : Int) - 1))).alloc (.cells xs t)).alloc (.cells ys u)) ∧ LBox (((w.setCell ⟨bl, 0, none⟩ (.int .i64 ((c : Int) - 1))).alloc (.cells xs t)).alloc (.cells ys u)) bl (c - 1) ∧
      (((w.setCell ⟨bl, 0, none⟩ (.int .i64 ((c : Int) - 1))).alloc (.cells xs t)).alloc (.cells ys u)).heap.size = w.heap.size + 2 ∧
      Blk (((w.setCell ⟨bl, 0, none⟩ (.int .i64 ((c : Int) - 1))).alloc (.cells xs t)).alloc (.cells ys u)) w.heap.size t xs ∧ Blk (((w.setCell ⟨bl, 0, none⟩ (.int .i64 ((c : Int) - 1))).alloc (.cells xs t)).alloc (.cells ys u)) (w.heap.size + 1) u ys := by
  have h1 : LBox (w.setCell ⟨bl, 0, none⟩ (.int .i64 ((c : Int) - 1))) bl (c - 1) := by
    rw [show ((c : Int) - 1) = ((c - 1 : Nat) : Int) by omega]
    exact ⟨by simpa [World.setCell] using h.lt, cell_set_eq _ _ _ _ h.c0, by rw [World.frozen?_setCell]; exact h.f0, (cell_set_ne _ _ _ _ (by omega)).trans h.c1, (cell_set_ne _ _ _ _ (by omega)).trans h.c2⟩
  have hf : Fr (fun i => i = bl) w (w.setCell ⟨bl, 0, none⟩ (.int .i64 ((c : Int) - 1))) := (Fr.refl (fun i => i = bl) w).setCell (p := ⟨bl, 0, none⟩) (.inl rfl) _
  have hs : (w.setCell ⟨bl, 0, none⟩ (.int .i64 ((c : Int) - 1))).heap.size = w.heap.size := by simp [World.setCell]
  generalize w.setCell ⟨bl, 0, none⟩ (.int .i64 ((c : Int) - 1)) = X at *
  refine ⟨(hf.alloc _).alloc _, (h1.bel (bel_alloc _ _)).bel (bel_alloc _ _), by simp [hs], ?_, ?_⟩
  · unfold Blk
    rw [Below.heap_alloc _ _ _ (by simp [hs]), ← hs]
    exact heap_alloc_new X _
  · unfold Blk
    have := heap_alloc_new (X.alloc (.cells xs t)) (.cells ys u)
    rw [show (X.alloc (.cells xs t)).heap.size = w.heap.size + 1 by simp [hs]] at this
    exact this
theorem cnt_pos (d : Dt) : 0 < cnt d := by rw [cnt_eq]; omega
theorem bel2' (w : World) (o p : Obj) : Below w.heap.size w ((w.alloc o).alloc p) := ((Below.refl _ _).alloc (Nat.le_refl _) _).alloc (by simp) _
theorem vis_zero {w : World} {Q : Nat → Prop} {bl : Nat} {d : Dt} {v : Value} (hb : LBox w bl 0) (hQ : ∀ b, Q b → b < bl) (hd : IsDt w Q d v) : ∀ w', Below w.heap.size w w' → VisR w Q 0 d bl (.returned v) w' := fun w' h => by
  refine ⟨v, rfl, Fr.of_bel h _, by rw [Nat.zero_sub]; exact hb.bel h, IsDt.keep (fun b hb => .inl hb) (fun b o hq => h.cell (p := ⟨b, o, none⟩) (by show b < _; have := hQ b hq; have := hb.lt; omega)) d v hd, fun hle => ?_⟩
  have := cnt_pos d
  omega
set_option linter.unusedSimpArgs false in
set_option maxRecDepth 100000 in
set_option maxHeartbeats 3200000 in
theorem vis_any (Q : Nat → Prop) (bl : Nat) (hQ : ∀ b, Q b → b < bl) (d : Dt) : OwnVis Q bl d := by
  induction d using Dt.ind with | h kk n s m l t ihl iht =>
  intro c v w hc hd hb
  have hd' := hd
  obtain ⟨am, cm, al, cl, at_, ct, rfl, hwk, hwn, hws, hm, hl, hls, ht, hts⟩ := hd'.open_
  have HWF := Lib.hid (And.intro hwk (And.intro hwn hws))
  clear hwk hwn hws
  obtain ⟨dd, hdd⟩ : ∃ dd, Dt.mk kk n s m l t = dd := ⟨_, rfl⟩
  have hL : dd.L = l := by rw [← hdd]; rfl
  have hT : dd.T = t := by rw [← hdd]; rfl
  rw [hdd] at hd hm hl hls ht hts ⊢
  rw [hL] at hl hls hd ⊢
  rw [hT] at ht hts hd ⊢
  by_cases hc0 : c = 0
  · subst hc0
    have hcell := hb.c0
    have hl0 : bl < w.heap.size := by have := hb.lt; omega
    have hend := vis_zero hb hQ hd
    have Hend := Lib.hid hend
    clear hend hb hQ hd hd' ihl iht hm hl hls ht hts hL hT hdd
    go_enter Try.func74, Try.ntmps74
    go_wp2_with fail
    refine bodyPost_ret (v := .agg #[.int .i64 dd.K, .int .i64 dd.N, .string dd.S, .slice am dd.M.length cm, .slice al l.length cl, .slice at_ t.length ct]) ?_ rfl ?_
    · simp [results, Try.results74, go_sem]
    · exact Hend.out _ (bel2' _ _ _)
  · have hne : ((c : Int) == 0) = false := by rw [beq_eq_false_iff_ne]; omega
    have hcell := hb.c0
    have hfz := hb.f0
    have hec := hb.c2
    have hlt := hb.lt
    have hl0 : bl < w.heap.size := by omega
    have HLT := Lib.hid (And.intro hL hT)
    have HQ := Lib.hid hQ
    have HB := Lib.hid hb
    have HD := Lib.hid hd
    have Ihl := Lib.hid ihl
    have Iht := Lib.hid iht
    have Hm := Lib.hid hm
    have Hl := Lib.hid hl
    have Hls := Lib.hid hls
    have Ht := Lib.hid ht
    have Hts := Lib.hid hts
    have Hc0 := Lib.hid hc0
    have Hdd := Lib.hid hdd
    clear hQ hb hd hd' ihl iht hm hl hls ht hts hL hT hdd hc0
    go_enter Try.func74, Try.ntmps74
    go_wp2_with fail
    have ec : ((c : Int) - 1) = ((c - 1 : Nat) : Int) := by have := Hc0.out; omega
    obtain ⟨hf0, hb0, hs0, hn0, hr0⟩ := start_own HB.out Hc0.out #[.int .i64 dd.K, .int .i64 dd.N, .string dd.S, .slice am dd.M.length cm, .slice al l.length cl, .slice at_ t.length ct] #[.int .i64 0, .int .i64 0, .string ⟨#[]⟩, .slice none 0 0, .slice none 0 0, .slice none 0 0] 25 25
    generalize (((w.setCell ⟨bl, 0, none⟩ (.int .i64 ((c : Int) - 1))).alloc (.cells #[.int .i64 dd.K, .int .i64 dd.N, .string dd.S, .slice am dd.M.length cm, .slice al l.length cl, .slice at_ t.length ct] 25)).alloc (.cells #[.int .i64 0, .int .i64 0, .string ⟨#[]⟩, .slice none 0 0, .slice none 0 0, .slice none 0 0] 25)) = W at *
    have k3 : W.cell? ⟨w.heap.size, 3, none⟩ = some (.slice am dd.M.length cm) := (hn0.cell 3).trans rfl
    have k4 : W.cell? ⟨w.heap.size, 4, none⟩ = some (.slice al l.length cl) := (hn0.cell 4).trans rfl
    have k5 : W.cell? ⟨w.heap.size, 5, none⟩ = some (.slice at_ t.length ct) := (hn0.cell 5).trans rfl
    have ke := hb0.c2
    have hbelQ : ∀ b, Q b → ∀ o, W.cell? ⟨b, o, none⟩ = w.cell? ⟨b, o, none⟩ := fun b hb o => hf0.cell (p := ⟨b, o, none⟩) (by show b < _; have := HQ.out b hb; omega) (by show ¬ b = bl; have := HQ.out b hb; omega)
    obtain ⟨nb, hnb⟩ : ∃ nb, w.heap.size = nb := ⟨_, rfl⟩
    have hblw : bl + 2 < nb := by omega
    rw [hnb] at hs0 hn0 hr0 k3 k4 k5 ⊢
    have Hf0 := Lib.hid hf0
    have Hb0 := Lib.hid hb0
    have Hs0 := Lib.hid hs0
    have Hn0 := Lib.hid hn0
    have Hr0 := Lib.hid hr0
    have Hnb := Lib.hid hnb
    have Hec := Lib.hid ec
    have HmW := Lib.hid (IntRow.keep Hm.out (fun _ h => h) (fun b o hb => hbelQ b hb o))
    have HlsW := Lib.hid (IsDts.keep (fun _ h => h) (fun b o hb => hbelQ b hb o) al l 0 Hls.out)
    have HtsW := Lib.hid (IsDts.keep (fun _ h => h) (fun b o hb => hbelQ b hb o) at_ t 0 Hts.out)
    have hW2 : nb + 1 < W.heap.size := by omega
    clear hf0 hb0 hs0 hn0 hr0 hbelQ ec hcell hfz hec hnb
    refine Od.till_region 12 (fun w' => w'.cell? ⟨nb, 3, none⟩ = some (.slice am dd.M.length cm) ∧ w'.cell? ⟨nb, 4, none⟩ = some (.slice al l.length cl) ∧ w'.cell? ⟨nb, 5, none⟩ = some (.slice at_ t.length ct)) (fun w' => w'.cell? ⟨bl + 2, 0, none⟩ = some (.func (.func 72) #[] #[.pointer (some ⟨bl + 1, 0, none⟩)])) 17 (by kernel_rfl) rfl ?_
    simp only [Array.replicate_succ, Array.replicate_zero, List.push_toArray, List.append_toArray, List.nil_append, List.cons_append]
    have hS0 : (fun w' => w'.cell? ⟨nb, 3, none⟩ = some (.slice am dd.M.length cm) ∧ w'.cell? ⟨nb, 4, none⟩ = some (.slice al l.length cl) ∧ w'.cell? ⟨nb, 5, none⟩ = some (.slice at_ t.length ct)) W.drew := ⟨k3, k4, k5⟩
    have hT0 : (fun w' => w'.cell? ⟨bl + 2, 0, none⟩ = some (.func (.func 72) #[] #[.pointer (some ⟨bl + 1, 0, none⟩)])) W.drew := ke
    refine Od.Till.take (i := 0) (d := 10) (v := .pointer (some ⟨nb, 3, none⟩)) rfl rfl (by kernel_rfl) (by kernel_rfl) (by kernel_rfl) (by kernel_rfl) (fun _ _ _ h => h) (.inl ⟨by rfl, ?_⟩) hS0 hT0 ?_
    · intro wx hSw
      obtain ⟨j3, j4, j5⟩ := hSw
      go_simp
    simp only [Act.put, List.setIfInBounds_toArray, List.set_cons_zero, List.set_cons_succ]
    refine Od.Till.take (i := 1) (d := 11) (v := .slice am dd.M.length cm) rfl rfl (by kernel_rfl) (by kernel_rfl) (by kernel_rfl) (by kernel_rfl) (fun _ _ _ h => h) (.inl ⟨by rfl, ?_⟩) hS0 hT0 ?_
    · intro wx hSw
      obtain ⟨j3, j4, j5⟩ := hSw
      go_simp
    simp only [Act.put, List.setIfInBounds_toArray, List.set_cons_zero, List.set_cons_succ]
    refine Od.Till.takeT (i := 3) (d := 13) (v := .func (.func 72) #[] #[.pointer (some ⟨bl + 1, 0, none⟩)]) rfl rfl (by kernel_rfl) (by kernel_rfl) (by kernel_rfl) (by kernel_rfl) (fun _ _ _ h => h) (.inl ⟨by rfl, ?_⟩) hS0 hT0 ?_
    · intro wx hSw
      have je := hSw
      go_simp
    simp only [Act.put, List.setIfInBounds_toArray, List.set_cons_zero, List.set_cons_succ]
    refine Od.Till.take (i := 4) (d := 14) (v := .pointer (some ⟨nb, 4, none⟩)) rfl rfl (by kernel_rfl) (by kernel_rfl) (by kernel_rfl) (by kernel_rfl) (fun _ _ _ h => h) (.inl ⟨by rfl, ?_⟩) hS0 hT0 ?_
    · intro wx hSw
      obtain ⟨j3, j4, j5⟩ := hSw
      go_simp
    simp only [Act.put, List.setIfInBounds_toArray, List.set_cons_zero, List.set_cons_succ]
    refine Od.Till.take (i := 5) (d := 15) (v := .slice al l.length cl) rfl rfl (by kernel_rfl) (by kernel_rfl) (by kernel_rfl) (by kernel_rfl) (fun _ _ _ h => h) (.inl ⟨by rfl, ?_⟩) hS0 hT0 ?_
    · intro wx hSw
      obtain ⟨j3, j4, j5⟩ := hSw
      go_simp
    simp only [Act.put, List.setIfInBounds_toArray, List.set_cons_zero, List.set_cons_succ]
    refine Od.Till.takeT (i := 7) (d := 17) (v := .func (.func 72) #[] #[.pointer (some ⟨bl + 1, 0, none⟩)]) rfl rfl (by kernel_rfl) (by kernel_rfl) (by kernel_rfl) (by kernel_rfl) (fun _ _ _ h => h) (.inl ⟨by rfl, ?_⟩) hS0 hT0 ?_
    · intro wx hSw
      have je := hSw
      go_simp
    simp only [Act.put, List.setIfInBounds_toArray, List.set_cons_zero, List.set_cons_succ]
    refine Od.Till.take (i := 8) (d := 18) (v := .pointer (some ⟨nb, 5, none⟩)) rfl rfl (by kernel_rfl) (by kernel_rfl) (by kernel_rfl) (by kernel_rfl) (fun _ _ _ h => h) (.inl ⟨by rfl, ?_⟩) hS0 hT0 ?_
    · intro wx hSw
      obtain ⟨j3, j4, j5⟩ := hSw
      go_simp
    simp only [Act.put, List.setIfInBounds_toArray, List.set_cons_zero, List.set_cons_succ]
    refine Od.Till.take (i := 9) (d := 19) (v := .slice at_ t.length ct) rfl rfl (by kernel_rfl) (by kernel_rfl) (by kernel_rfl) (by kernel_rfl) (fun _ _ _ h => h) (.inl ⟨by rfl, ?_⟩) hS0 hT0 ?_
    · intro wx hSw
      obtain ⟨j3, j4, j5⟩ := hSw
      go_simp
    simp only [Act.put, List.setIfInBounds_toArray, List.set_cons_zero, List.set_cons_succ]
    refine Od.Till.one (i := 2) (by kernel_rfl) rfl (fun K hK => ?_)
    go_simp
    refine (clone_int Q am dd.M.length cm dd.M _ (by exact HmW.out)).mono ?_
    rintro e w3 ⟨a3, c3, rfl, ho3, hb3⟩
    have q3 := (hb3.cell (p := ⟨nb, 3, none⟩) (by show nb < W.heap.size; omega)).trans k3
    have q4 := (hb3.cell (p := ⟨nb, 4, none⟩) (by show nb < W.heap.size; omega)).trans k4
    have q5 := (hb3.cell (p := ⟨nb, 5, none⟩) (by show nb < W.heap.size; omega)).trans k5
    have qe := (hb3.cell (p := ⟨bl + 2, 0, none⟩) (by show bl + 2 < W.heap.size; omega)).trans ke
    have hbW : Below W.heap.size W w3 := ⟨hb3.os, hb3.tape, hb3.output, hb3.size, hb3.block⟩
    have Hb3 := Lib.hid hbW
    have Ho3 := Lib.hid ho3
    have Hs3 := Lib.hid (show W.heap.size ≤ w3.heap.size from hb3.size)
    go_wp2_with fail
    refine hK.out _ _ ⟨fun _ => ⟨q3, q4, q5⟩, qe⟩ ?_
    clear hK K
    clear hb3 ho3 hbW
    refine Od.Till.take (i := 11) (d := 21) (v := .pointer (some ⟨nb, 3, none⟩)) rfl rfl (by kernel_rfl) (by kernel_rfl) (by kernel_rfl) (by kernel_rfl) (fun _ _ _ h => h) (.inl ⟨by rfl, ?_⟩) ⟨q3, q4, q5⟩ qe ?_
    · intro wx hSw
      go_simp
    simp only [Act.put, List.setIfInBounds_toArray, List.set_cons_zero, List.set_cons_succ]
    refine Od.Till.one (i := 6) (by kernel_rfl) rfl (fun K hK => ?_)
    go_simp
    refine (each_any Q bl HQ.out l Ihl.out (c - 1) al cl _ (by omega) Hl.out (by exact IsDts.keep (w := W) (fun _ h => h) (fun b o hb => Hb3.out.cell (p := ⟨b, o, none⟩) (by show b < W.heap.size; have := HQ.out b hb; omega)) al l 0 HlsW.out) (by exact LBox.keep Hb0.out (Hb3.out.mono (by show bl + 3 ≤ W.heap.size; omega)))).mono ?_
    rintro e w4 ⟨a4, c4, rfl, hf4, hb4, hsl4, hds4, how4⟩
    have r3 := (hf4.cell (p := ⟨nb, 3, none⟩) (by show nb < w3.heap.size; have := Hs3.out; omega) (by show ¬ nb = bl; omega)).trans q3
    have r4 := (hf4.cell (p := ⟨nb, 4, none⟩) (by show nb < w3.heap.size; have := Hs3.out; omega) (by show ¬ nb = bl; omega)).trans q4
    have r5 := (hf4.cell (p := ⟨nb, 5, none⟩) (by show nb < w3.heap.size; have := Hs3.out; omega) (by show ¬ nb = bl; omega)).trans q5
    have re := hb4.c2
    have Hf4 := Lib.hid hf4
    have Hb4 := Lib.hid hb4
    have H4 := Lib.hid (And.intro hsl4 (And.intro hds4 how4))
    have Hs4 := Lib.hid (show w3.heap.size ≤ w4.heap.size from hf4.size)
    go_wp2_with fail
    refine hK.out _ _ ⟨fun _ => ⟨r3, r4, r5⟩, re⟩ ?_
    clear hK K
    clear hf4 hb4 hsl4 hds4 how4 q3 q4 q5 qe
    refine Od.Till.one (i := 10) (by kernel_rfl) rfl (fun K hK => ?_)
    go_simp
    refine (each_any Q bl HQ.out t Iht.out (c - 1 - cntL l) at_ ct _ (by omega) Ht.out (by exact IsDts.keep (w := W) (fun _ h => h) (fun b o hb => (Hf4.out.cell (p := ⟨b, o, none⟩) (by show b < w3.heap.size; have := HQ.out b hb; have := Hs3.out; omega) (by show ¬ b = bl; have := HQ.out b hb; omega)).trans (Hb3.out.cell (p := ⟨b, o, none⟩) (by show b < W.heap.size; have := HQ.out b hb; omega))) at_ t 0 HtsW.out) (by exact Hb4.out)).mono ?_
    rintro e w5 ⟨a5, c5, rfl, hf5, hb5, hsl5, hds5, how5⟩
    have t3 := (hf5.cell (p := ⟨nb, 3, none⟩) (by show nb < w4.heap.size; have := Hs3.out; have := Hs4.out; omega) (by show ¬ nb = bl; omega)).trans r3
    have t4 := (hf5.cell (p := ⟨nb, 4, none⟩) (by show nb < w4.heap.size; have := Hs3.out; have := Hs4.out; omega) (by show ¬ nb = bl; omega)).trans r4
    have t5 := (hf5.cell (p := ⟨nb, 5, none⟩) (by show nb < w4.heap.size; have := Hs3.out; have := Hs4.out; omega) (by show ¬ nb = bl; omega)).trans r5
    have te := hb5.c2
    have Hf5 := Lib.hid hf5
    have Hb5 := Lib.hid hb5
    have H5 := Lib.hid (And.intro hsl5 (And.intro hds5 how5))
    have Hs5 := Lib.hid (show w4.heap.size ≤ w5.heap.size from hf5.size)
    have hn5 := ((Hn0.out.fr (Fr.of_bel Hb3.out (fun i => i = bl)) (by show ¬ nb = bl; omega) (by omega)).fr Hf4.out (by show ¬ nb = bl; omega) (by have := Hs3.out; omega)).fr hf5 (by show ¬ nb = bl; omega) (by show nb < w4.heap.size; have := Hs3.out; have := Hs4.out; omega)
    have hr5 := ((Hr0.out.fr (Fr.of_bel Hb3.out (fun i => i = bl)) (by show ¬ nb + 1 = bl; omega) (by omega)).fr Hf4.out (by show ¬ nb + 1 = bl; omega) (by have := Hs3.out; omega)).fr hf5 (by show ¬ nb + 1 = bl; omega) (by show nb + 1 < w4.heap.size; have := Hs3.out; have := Hs4.out; omega)
    have z3 := hn5.frozen 3
    have z4 := hn5.frozen 4
    have z5 := hn5.frozen 5
    have Hn5 := Lib.hid hn5
    have Hr5 := Lib.hid hr5
    go_wp2_with fail
    refine hK.out _ _ ⟨fun _ => ⟨t3, t4, t5⟩, te⟩ ?_
    clear hK K
    clear hf5 hb5 hsl5 hds5 how5 r3 r4 r5 re hn5 hr5
    have u1 := (set_ne w5 nb 3 (bl + 2) 0 (.slice a3 dd.M.length c3) (.inl (by omega))).trans te
    have u2 := (set_ne (w5.setCell ⟨nb, 3, none⟩ (.slice a3 dd.M.length c3)) nb 4 (bl + 2) 0 (.slice a4 l.length c4) (.inl (by omega))).trans u1
    have u3 := (set_ne ((w5.setCell ⟨nb, 3, none⟩ (.slice a3 dd.M.length c3)).setCell ⟨nb, 4, none⟩ (.slice a4 l.length c4)) nb 5 (bl + 2) 0 (.slice a5 t.length c5) (.inl (by omega))).trans u2
    have U := Lib.hid (And.intro u1 (And.intro u2 u3))
    clear u1 u2 u3
    refine Od.Till.one (i := 12) (by kernel_rfl) rfl (fun K hK => ?_)
    go_simp
    refine hK.out _ _ ⟨fun h => (by cases h), U.out.1⟩ ?_
    clear hK K
    refine Od.Till.one (i := 13) (by kernel_rfl) rfl (fun K hK => ?_)
    go_simp
    refine hK.out _ _ ⟨fun h => (by cases h), U.out.1⟩ ?_
    clear hK K
    refine Od.Till.one (i := 14) (by kernel_rfl) rfl (fun K hK => ?_)
    go_simp
    refine hK.out _ _ ⟨fun h => (by cases h), U.out.2.1⟩ ?_
    clear hK K
    refine Od.Till.one (i := 15) (by kernel_rfl) rfl (fun K hK => ?_)
    go_simp
    refine hK.out _ _ ⟨fun h => (by cases h), U.out.2.1⟩ ?_
    clear hK K
    refine Od.Till.one (i := 16) (by kernel_rfl) rfl (fun K hK => ?_)
    go_simp
    refine hK.out _ _ ⟨fun h => (by cases h), U.out.2.2⟩ ?_
    clear hK K
    refine Od.Till.done (by kernel_rfl) ?_
    have n0 : w5.cell? ⟨nb, 0, none⟩ = some (.int .i64 dd.K) := (Hn5.out.cell 0).trans rfl
    have n1 : w5.cell? ⟨nb, 1, none⟩ = some (.int .i64 dd.N) := (Hn5.out.cell 1).trans rfl
    have n2 : w5.cell? ⟨nb, 2, none⟩ = some (.string dd.S) := (Hn5.out.cell 2).trans rfl
    have y0 : w5.cell? ⟨nb + 1, 0, none⟩ = some (.int .i64 0) := (Hr5.out.cell 0).trans rfl
    have y1 : w5.cell? ⟨nb + 1, 1, none⟩ = some (.int .i64 0) := (Hr5.out.cell 1).trans rfl
    have y2 : w5.cell? ⟨nb + 1, 2, none⟩ = some (.string ⟨#[]⟩) := (Hr5.out.cell 2).trans rfl
    have y3 : w5.cell? ⟨nb + 1, 3, none⟩ = some (.slice none 0 0) := (Hr5.out.cell 3).trans rfl
    have y4 : w5.cell? ⟨nb + 1, 4, none⟩ = some (.slice none 0 0) := (Hr5.out.cell 4).trans rfl
    have y5 : w5.cell? ⟨nb + 1, 5, none⟩ = some (.slice none 0 0) := (Hr5.out.cell 5).trans rfl
    have v0 := Hr5.out.frozen 0
    have v1 := Hr5.out.frozen 1
    have v2 := Hr5.out.frozen 2
    have v3 := Hr5.out.frozen 3
    have v4 := Hr5.out.frozen 4
    have v5 := Hr5.out.frozen 5
    go_wp2_with fail
    refine bodyPost_ret (v := .agg #[.int .i64 dd.K, .int .i64 dd.N, .string dd.S, .slice a3 dd.M.length c3, .slice a4 l.length c4, .slice a5 t.length c5]) ?_ rfl ?_
    · simp [results, Try.results74, go_sem, y0, y1, y2, y3, y4, y5]
    · have hdd := Hdd.out
      have hfr : Fr (fun i => i = nb ∨ i = nb + 1) w5 _ := (((((((((Fr.refl (fun i => i = nb ∨ i = nb + 1) w5).setCell (p := ⟨nb, 3, none⟩) (.inl (.inl rfl)) (.slice a3 dd.M.length c3)).setCell (p := ⟨nb, 4, none⟩) (.inl (.inl rfl)) (.slice a4 l.length c4)).setCell (p := ⟨nb, 5, none⟩) (.inl (.inl rfl)) (.slice a5 t.length c5)).setCell (p := ⟨nb + 1, 0, none⟩) (.inl (.inr rfl)) (.int .i64 dd.K)).setCell (p := ⟨nb + 1, 1, none⟩) (.inl (.inr rfl)) (.int .i64 dd.N)).setCell (p := ⟨nb + 1, 2, none⟩) (.inl (.inr rfl)) (.string dd.S)).setCell (p := ⟨nb + 1, 3, none⟩) (.inl (.inr rfl)) (.slice a3 dd.M.length c3)).setCell (p := ⟨nb + 1, 4, none⟩) (.inl (.inr rfl)) (.slice a4 l.length c4)).setCell (p := ⟨nb + 1, 5, none⟩) (.inl (.inr rfl)) (.slice a5 t.length c5)
      clear Hdd
      subst hdd
      exact vis_end HWF.out.1 HWF.out.2.1 HWF.out.2.2 HQ.out Hnb.out hblw Hs0.out Hf0.out Hb3.out Ho3.out Hf4.out H4.out Hf5.out H5.out Hb5.out hfr
end Go.Proofs.Yteddfdhbpgbloaa.Da
