/- Identifiers of layer 5: what identify returns of a symbol. -/
import Derived.Test.YtapnighankepjaaScIdent3
namespace Go.Proofs.Ytapnighankepjaa.Sc
open Go.ChangeShapes Go.WideShapes Go.ChangeAt Go.RowKit
set_option linter.unusedVariables false
set_option linter.unusedSimpArgs false

theorem sym_facts {d : Da.Dt} (h5 : d.K = 5) (hc : Da.chk d = 0) : (idn d).Ok ∧ d.N = 0 := by
  have hp : Da.properB d = true := by
    unfold Da.chk Da.meas at hc
    have he : Da.errOf 0 (Da.nodes d 1) = 0 := by
      by_cases h : Da.errOf 0 (Da.nodes d 1) = 0
      · exact h
      · rw [if_neg h] at hc; exact absurd hc h
    have hn : ∃ r, Da.nodes d 1 = (d, 1) :: r := by
      cases d; exact ⟨_, rfl⟩
    obtain ⟨r, hr⟩ := hn
    rw [hr, Da.errOf] at he
    by_cases h : Da.mErr 0 (d, 1).1 (d, 1).2 = 0
    · unfold Da.mErr at h
      rw [if_neg (show ¬ 64 < 1 by decide), if_neg (show ¬ 0 = 4096 by decide)] at h
      by_cases hq : Da.properB d = true
      · exact hq
      · rw [if_neg hq] at h; exact absurd h (by decide)
    · rw [if_neg h] at he; exact absurd he h
  unfold Da.properB Da.properOf at hp
  rw [h5] at hp
  simp only [show ¬ (5 : Int) = 1 by decide, show ¬ (5 : Int) = 2 by decide, show ¬ (5 : Int) = 3 by decide, show ¬ (5 : Int) = 4 by decide, if_true, if_false, Bool.and_eq_true, beq_iff_eq] at hp
  obtain ⟨⟨⟨hs, hm⟩, hn⟩, _⟩ := hp
  refine ⟨⟨?_, ?_, ?_⟩, hn⟩
  · show d.S.data.toList.length ≤ 32
    unfold Da.symB at hs
    simp only [Bool.or_eq_true, beq_iff_eq, Bool.and_eq_true, Bool.not_eq_true', decide_eq_false_iff_not] at hs
    rw [ByteArray.toList_eq] at hs
    have hsz : d.S.data.toList.length = d.S.size := by rw [Array.length_toList]; rfl
    rcases hs with ((h | h) | h) | h
    · rw [h]; decide
    · rw [h]; decide
    · rw [h]; decide
    · rw [hsz]; have := h.1.1.2; omega
  · show d.M.length ≤ 16
    unfold Da.marksB at hm
    simp only [Bool.and_eq_true, Bool.not_eq_true', decide_eq_false_iff_not] at hm
    omega
  · intro k hk
    unfold Da.marksB Da.allI at hm
    simp only [Bool.and_eq_true, List.all_eq_true] at hm
    have := hm.2 k hk
    unfold Da.markB at this
    simp only [Bool.not_eq_true', Bool.or_eq_false_iff, decide_eq_false_iff_not] at this
    omega
def IdAt (d : Da.Dt) (w : World) (b : Nat) (i : Value) (wr : World) : Prop :=
  ∃ k : Nat, k ≤ d.M.length ∧ i = .int .i64 (k : Int) ∧ Bk wr b d.S.data.toList (fun j => if j < k then pad d.M j else 0) ∧ Bk wr (w.heap.size + 1) [] (fun _ => 0) ∧ Below w.heap.size w wr
set_option maxRecDepth 100000 in
set_option maxHeartbeats 8000000 in
theorem identify_good (d : Da.Dt) (v : Value) (B : Nat) (w : World) (hd : Da.IsDt w (Da.Lo B) d v) (hB : B ≤ w.heap.size) (h5 : d.K = 5) (hc : Da.chk d = 0) :
    Calls Try.prog 32 #[v] w fun e w' => e = .returned (.tuple #[(idn d).V, .bool true]) ∧ Below w.heap.size w w' := by
  have hd' := hd
  obtain ⟨am, cm, al, cl, at_, ct, rfl, hrest⟩ := hd'.open_
  have HD := Lib.hid hd
  have HF := Lib.hid (sym_facts h5 hc)
  have HR := Lib.hid hrest
  have HC := Lib.hid hc
  clear hd hd' hrest hc
  have dk : (d.K != 5) = false := by simp [h5]
  clear h5
  go_enter Try.func32, Try.ntmps32
  go_wp2_with fail
  refine (Da.check_any d _ B _ (by exact HD.out.below ((bel_two w _ _).mono hB)) (by simp; omega)).mono ?_
  rintro e w2 ⟨rfl, hb⟩
  rw [HC.out]
  obtain ⟨n1, n2⟩ := two_new w (six d am cm al cl at_ ct) (A17 [] (fun _ => 0)) 33 75
  have B1 : Da.Blk w2 w.heap.size 33 (six d am cm al cl at_ ct) := (hb.block _ (Array.getElem?_eq_some_iff.1 n1).1).trans n1
  have B2 : Bk w2 (w.heap.size + 1) [] (fun _ => 0) := (hb.block _ (Array.getElem?_eq_some_iff.1 n2).1).trans n2
  have HB := Lib.hid ((bel_two w _ _).trans (hb.mono (bel_two w _ _).size))
  have c2 : w2.cell? ⟨w.heap.size, 2, none⟩ = some (.string d.S) := (B1.cell 2).trans rfl
  have c3 : w2.cell? ⟨w.heap.size, 3, none⟩ = some (.slice am d.M.length cm) := (B1.cell 3).trans rfl
  have HB2 := Lib.hid B2
  have hlt : w.heap.size < w2.heap.size := (Array.getElem?_eq_some_iff.1 B1).1
  have hlt2 : w.heap.size + 1 < w2.heap.size := (Array.getElem?_eq_some_iff.1 B2).1
  clear n1 n2 hb B1 B2
  go_wp2_with fail
  have hS : (⟨d.S.data.toList.toArray⟩ : ByteArray) = d.S := by rw [Array.toArray_toList]
  have h17 : (#[.string d.S, .int .i32 0, .int .i32 0, .int .i32 0, .int .i32 0, .int .i32 0, .int .i32 0, .int .i32 0, .int .i32 0, .int .i32 0, .int .i32 0, .int .i32 0, .int .i32 0, .int .i32 0, .int .i32 0, .int .i32 0, .int .i32 0] : Array Value) = A17 d.S.data.toList (fun j => if j < 0 then pad d.M j else 0) := by
    unfold A17; rw [hS]; rfl
  have HS := Lib.hid hS
  have H17 := Lib.hid h17
  clear hS h17
  go_loopw [22] (fun i wr => IdAt d w w2.heap.size i wr) (fun i _ => d.M.length - (intOf i).toNat)
  case atStart =>
    refine ⟨0, Nat.zero_le _, rfl, ?_, ?_, HB.out.alloc (by omega) _⟩
    · rw [H17.out]; exact heap_alloc_new w2 _
    · show _[_]? = _
      rw [Below.heap_alloc _ _ _ hlt2]; exact HB2.out
  case round =>
    obtain ⟨k, hk, rfl, hbk, hb2, hbel⟩ := hrel
    have HBK := Lib.hid hbk
    have HBR := Lib.hid hb2
    have Hbel := Lib.hid hbel
    clear hbk hb2 hbel HB HB2 H17
    by_cases hlk : k < d.M.length
    · have dl : decide ((k : Int) < (d.M.length : Int)) = true := by simp [hlk]
      have i1 : (k : Int) < (d.M.length : Int) := by omega
      have hk16 : k < 16 := by have := HF.out.1.m; have : d.M.length ≤ 16 := this; omega
      have i2 : (k : Int) < 16 := by omega
      obtain ⟨g, off, rfl, hg, hcell⟩ := HR.out.2.2.2.1.2.2.2.2.2.2 k hlk
      have hpk := pad_in HF.out.1 (k := k) hlk
      have hw := IntWalk.i32_in (pad d.M k) (by have : 1 ≤ pad d.M k ∧ pad d.M k ≤ 1048576 := hpk; omega)
      have cm_ : wr.cell? ⟨g, off + k, none⟩ = some (.int .i64 (pad d.M k)) := by
        rw [Hbel.out.cell (p := ⟨g, off + k, none⟩) (Nat.lt_of_lt_of_le hg hB)]; exact hcell
      have ck : wr.cell? ⟨w2.heap.size, 1 + k, none⟩ = some (.int .i32 0) := by
        rw [HBK.out.cell, A17_at _ _ k hk16]; simp
      have cf : wr.frozen? ⟨w2.heap.size, 1 + k, none⟩ = false := HBK.out.frozen _
      have hnx : Hid (Bk (wr.setCell ⟨w2.heap.size, 1 + k, none⟩ (.int .i32 (pad d.M k))) w2.heap.size d.S.data.toList (fun j => if j < k + 1 then pad d.M j else 0)) := Lib.hid ((HBK.out.set k hk16 (pad d.M k)).to (fun i _ => by
        by_cases hik : i = k
        · subst hik; simp
        · rw [if_neg hik]
          by_cases h2 : i < k
          · rw [if_pos h2, if_pos (by omega)]
          · rw [if_neg h2, if_neg (by omega)]))
      have hnr : Hid (Bk (wr.setCell ⟨w2.heap.size, 1 + k, none⟩ (.int .i32 (pad d.M k))) (w.heap.size + 1) [] (fun _ => 0)) := Lib.hid (by show _[_]? = _; rw [Below.heap_setCell _ _ _ _ (by show _ ≠ _; simp only; omega)]; exact HBR.out)
      clear hpk hcell
      generalize pad d.M k = m at *
      go_wp2_with fail
      go_roundw
      case rel => exact ⟨k + 1, hlk, by go_num, hnx.out, hnr.out, Hbel.out.setCell (p := ⟨w2.heap.size, 1 + k, none⟩) (by show w.heap.size ≤ w2.heap.size; omega) _⟩
      case measure => simp [intOf]; omega
    · have dl : decide ((k : Int) < (d.M.length : Int)) = false := by simp [hlk]
      have hfull : Hid (Bk wr w2.heap.size d.S.data.toList (pad d.M)) := Lib.hid (HBK.out.to (fun i _ => by
        by_cases h2 : i < k
        · rw [if_pos h2]
        · rw [if_neg h2]; exact (pad_out (x := idn d) (show (idn d).m.length ≤ i by show d.M.length ≤ i; omega)).symm))
      clear HBK
      have HC2 := hfull.out
      have e0 : wr.cell? ⟨w2.heap.size, 0, none⟩ = some (.string ⟨d.S.data.toList.toArray⟩) := (HC2.cell 0).trans rfl
      have e1 : wr.cell? ⟨w2.heap.size, 1, none⟩ = some (.int .i32 ((pad d.M) 0)) := (HC2.cell 1).trans rfl
      have e2 : wr.cell? ⟨w2.heap.size, 2, none⟩ = some (.int .i32 ((pad d.M) 1)) := (HC2.cell 2).trans rfl
      have e3 : wr.cell? ⟨w2.heap.size, 3, none⟩ = some (.int .i32 ((pad d.M) 2)) := (HC2.cell 3).trans rfl
      have e4 : wr.cell? ⟨w2.heap.size, 4, none⟩ = some (.int .i32 ((pad d.M) 3)) := (HC2.cell 4).trans rfl
      have e5 : wr.cell? ⟨w2.heap.size, 5, none⟩ = some (.int .i32 ((pad d.M) 4)) := (HC2.cell 5).trans rfl
      have e6 : wr.cell? ⟨w2.heap.size, 6, none⟩ = some (.int .i32 ((pad d.M) 5)) := (HC2.cell 6).trans rfl
      have e7 : wr.cell? ⟨w2.heap.size, 7, none⟩ = some (.int .i32 ((pad d.M) 6)) := (HC2.cell 7).trans rfl
      have e8 : wr.cell? ⟨w2.heap.size, 8, none⟩ = some (.int .i32 ((pad d.M) 7)) := (HC2.cell 8).trans rfl
      have e9 : wr.cell? ⟨w2.heap.size, 9, none⟩ = some (.int .i32 ((pad d.M) 8)) := (HC2.cell 9).trans rfl
      have e10 : wr.cell? ⟨w2.heap.size, 10, none⟩ = some (.int .i32 ((pad d.M) 9)) := (HC2.cell 10).trans rfl
      have e11 : wr.cell? ⟨w2.heap.size, 11, none⟩ = some (.int .i32 ((pad d.M) 10)) := (HC2.cell 11).trans rfl
      have e12 : wr.cell? ⟨w2.heap.size, 12, none⟩ = some (.int .i32 ((pad d.M) 11)) := (HC2.cell 12).trans rfl
      have e13 : wr.cell? ⟨w2.heap.size, 13, none⟩ = some (.int .i32 ((pad d.M) 12)) := (HC2.cell 13).trans rfl
      have e14 : wr.cell? ⟨w2.heap.size, 14, none⟩ = some (.int .i32 ((pad d.M) 13)) := (HC2.cell 14).trans rfl
      have e15 : wr.cell? ⟨w2.heap.size, 15, none⟩ = some (.int .i32 ((pad d.M) 14)) := (HC2.cell 15).trans rfl
      have e16 : wr.cell? ⟨w2.heap.size, 16, none⟩ = some (.int .i32 ((pad d.M) 15)) := (HC2.cell 16).trans rfl
      clear HC2
      go_wp2_with (refine wpList_store_row rfl 75 (.tmp 2) (.tmp 33) rfl (w.heap.size + 1) (A17 d.S.data.toList (pad d.M)) rfl rfl 75 (A17 [] (fun _ => 0)) HBR.out info_id rfl (A17_one _ _) ?_)
      have B5 : Bk (wr.setRow (w.heap.size + 1) (A17 d.S.data.toList (pad d.M))) (w.heap.size + 1) d.S.data.toList (pad d.M) := HBR.out.row
      have HB5 := Lib.hid (bel_row Hbel.out (w.heap.size + 1) (A17 d.S.data.toList (pad d.M)) (by omega))
      exact identify_fin w _ (w.heap.size + 1) _ d.S.data.toList (pad d.M) true rfl rfl rfl B5 HB5.out
end Go.Proofs.Ytapnighankepjaa.Sc
