/- The sums and products of lists of layer 1, and the document's: for every list. -/
import Derived.Test.YtlaajhdffgjamaaFixAwake
namespace Go.Proofs.Ytlaajhdffgjamaa.Fx
open Go.ChangeShapes Go.WideShapes Go.ChangeAt Go.RowKit

/-- From left to right, up to the first error. -/
def foldP (op : Int → Int → Int) : Int → List Int → Int × Int
  | s, [] => (s, 0)
  | s, x :: l => if twoE s x (op s x) = 0 then foldP op (twoV s x (op s x)) l else (0, twoE s x (op s x))
theorem foldP_ok {op : Int → Int → Int} {s x : Int} {l : List Int} (h : twoE s x (op s x) = 0) : foldP op s (x :: l) = foldP op (twoV s x (op s x)) l := by rw [foldP, if_pos h]
theorem foldP_err {op : Int → Int → Int} {s x : Int} {l : List Int} (h : twoE s x (op s x) ≠ 0) : foldP op s (x :: l) = (0, twoE s x (op s x)) := by rw [foldP, if_neg h]
theorem twoV_in (a b n : Int) : inB (twoV a b n) = true := by
  unfold twoV; split
  · exact gotV_in n
  · rfl
theorem drop_cons (l : List Int) (k : Nat) (h : k < l.length) : l.drop k = l.getD k 0 :: l.drop (k + 1) := by
  rw [List.drop_eq_getElem_cons h]; simp [h]
/-- A list of numbers as it lies in memory. -/
def RowI (w : World) (a : Option Addr) (len : Nat) (zs : List Int) : Prop :=
  len ≤ maxLen ∧ zs.length = len ∧ ∀ k, k < len → ∃ b off, a = some ⟨b, off, none⟩ ∧ w.cell? ⟨b, off + k, none⟩ = some (.int .i64 (zs.getD k 0))
def FoldAt (op : Int → Int → Int) (R : Int × Int) (len : Nat) (zs : List Int) (t i : Value) : Prop :=
  ∃ (k : Nat) (x : Int), k ≤ len ∧ i = .int .i64 (k : Int) ∧ t = .int .i64 x ∧ foldP op x (zs.drop k) = R
set_option maxHeartbeats 400000 in
theorem sum_ref (a : Option Addr) (len cap : Nat) (zs : List Int) (R : Int × Int) (w : World) (hrow : RowI w a len zs) (HR : Hid (foldP (fun a b => a + b) 0 zs = R)) :
    Calls Try.prog 38 #[.slice a len cap] w fun e w' => e = .returned (.tuple #[.int .i64 R.1, .int .i64 R.2]) ∧ w = w' := by
  obtain ⟨hm, hl, hc⟩ := hrow
  unfold maxLen at hm
  have Hc := Lib.hid hc
  have Hl := Lib.hid hl
  clear hc hl
  go_enter Try.func38, Try.ntmps38
  go_wp2
  go_loop [4, 5] (fun t i => FoldAt (fun a b => a + b) R len zs t i) (fun _ i => len - (intOf i).toNat)
  case atStart => exact ⟨0, 0, Nat.zero_le _, rfl, rfl, HR.out⟩
  case round =>
    obtain ⟨k, x, hk, rfl, rfl, hx⟩ := hrel
    have Hx := Lib.hid hx
    clear hx
    by_cases hlt : k < len
    · obtain ⟨b, off, rfl, hcell⟩ := Hc.out k hlt
      have dl : decide ((k : Int) < (len : Int)) = true := by simp [hlt]
      have hcons := drop_cons zs k (by rw [Hl.out]; exact hlt)
      obtain ⟨y, hy⟩ : ∃ y, zs.getD k 0 = y := ⟨_, rfl⟩
      rw [hy] at hcell hcons
      have hx2 := Hx.out
      rw [hcons] at hx2
      clear hcons hy
      by_cases he : twoE x y (x + y) = 0
      · rw [foldP_ok he] at hx2
        have Hx2 := Lib.hid hx2
        have He := Lib.hid he
        clear hx2 he
        go_wp2_with fail
        refine (add_ref x y _).mono ?_
        rintro e w' ⟨rfl, rfl⟩
        rw [He.out]
        go_wp2_with fail
        go_round
        case rel => exact ⟨k + 1, twoV x y (x + y), by omega, by go_num, rfl, Hx2.out⟩
        case measure => simp [intOf]; omega
      · rw [foldP_err he] at hx2
        subst hx2
        have ne : (twoE x y (x + y) != 0) = true := by rw [bne_iff_ne]; exact he
        clear he
        go_wp2_with fail
        refine (add_ref x y _).mono ?_
        rintro e w' ⟨rfl, rfl⟩
        go_wp2_with fail
        go_ret2
        exact ⟨rfl, rfl⟩
    · obtain rfl : k = len := by omega
      have dl : decide ((k : Int) < (k : Int)) = false := by simp
      have hx2 := Hx.out
      rw [List.drop_of_length_le (by rw [Hl.out]; exact Nat.le_refl _)] at hx2
      subst hx2
      go_wp2
      go_ret2
      exact ⟨rfl, rfl⟩
set_option maxHeartbeats 400000 in
theorem prod_ref (a : Option Addr) (len cap : Nat) (zs : List Int) (R : Int × Int) (w : World) (hrow : RowI w a len zs) (HR : Hid (foldP (fun a b => a * b) 1 zs = R)) :
    Calls Try.prog 40 #[.slice a len cap] w fun e w' => e = .returned (.tuple #[.int .i64 R.1, .int .i64 R.2]) ∧ w = w' := by
  obtain ⟨hm, hl, hc⟩ := hrow
  unfold maxLen at hm
  have Hc := Lib.hid hc
  have Hl := Lib.hid hl
  clear hc hl
  go_enter Try.func40, Try.ntmps40
  go_wp2
  go_loop [4, 5] (fun t i => FoldAt (fun a b => a * b) R len zs t i) (fun _ i => len - (intOf i).toNat)
  case atStart => exact ⟨0, 1, Nat.zero_le _, rfl, rfl, HR.out⟩
  case round =>
    obtain ⟨k, x, hk, rfl, rfl, hx⟩ := hrel
    have Hx := Lib.hid hx
    clear hx
    by_cases hlt : k < len
    · obtain ⟨b, off, rfl, hcell⟩ := Hc.out k hlt
      have dl : decide ((k : Int) < (len : Int)) = true := by simp [hlt]
      have hcons := drop_cons zs k (by rw [Hl.out]; exact hlt)
      obtain ⟨y, hy⟩ : ∃ y, zs.getD k 0 = y := ⟨_, rfl⟩
      rw [hy] at hcell hcons
      have hx2 := Hx.out
      rw [hcons] at hx2
      clear hcons hy
      by_cases he : twoE x y (x * y) = 0
      · rw [foldP_ok he] at hx2
        have Hx2 := Lib.hid hx2
        have He := Lib.hid he
        clear hx2 he
        go_wp2_with fail
        refine (mul_ref x y _).mono ?_
        rintro e w' ⟨rfl, rfl⟩
        rw [He.out]
        go_wp2_with fail
        go_round
        case rel => exact ⟨k + 1, twoV x y (x * y), by omega, by go_num, rfl, Hx2.out⟩
        case measure => simp [intOf]; omega
      · rw [foldP_err he] at hx2
        subst hx2
        have ne : (twoE x y (x * y) != 0) = true := by rw [bne_iff_ne]; exact he
        clear he
        go_wp2_with fail
        refine (mul_ref x y _).mono ?_
        rintro e w' ⟨rfl, rfl⟩
        go_wp2_with fail
        go_ret2
        exact ⟨rfl, rfl⟩
    · obtain rfl : k = len := by omega
      have dl : decide ((k : Int) < (k : Int)) = false := by simp
      have hx2 := Hx.out
      rw [List.drop_of_length_le (by rw [Hl.out]; exact Nat.le_refl _)] at hx2
      subst hx2
      go_wp2
      go_ret2
      exact ⟨rfl, rfl⟩
set_option maxHeartbeats 400000 in
theorem fold_add (a : Option Addr) (len cap : Nat) (zs : List Int) (R : Int × Int) (w : World) (hrow : RowI w a len zs) (HR : Hid (foldP (fun a b => a + b) 0 zs = R)) :
    Calls Try.prog 52 #[.func (.func 13) #[] #[], .int .i64 0, .slice a len cap] w fun e w' => e = .returned (.tuple #[.int .i64 R.1, .int .i64 R.2]) ∧ w = w' := by
  obtain ⟨hm, hl, hc⟩ := hrow
  unfold maxLen at hm
  have Hc := Lib.hid hc
  have Hl := Lib.hid hl
  clear hc hl
  go_enter Try.func52, Try.ntmps52
  go_wp2
  go_loop [8, 16] (fun t i => FoldAt (fun a b => a + b) R len zs t i) (fun _ i => len - (intOf i).toNat)
  case atStart => exact ⟨0, 0, Nat.zero_le _, rfl, rfl, HR.out⟩
  case round =>
    obtain ⟨k, x, hk, rfl, rfl, hx⟩ := hrel
    have Hx := Lib.hid hx
    clear hx
    by_cases hlt : k < len
    · obtain ⟨b, off, rfl, hcell⟩ := Hc.out k hlt
      have dl : decide ((k : Int) < (len : Int)) = true := by simp [hlt]
      have hcons := drop_cons zs k (by rw [Hl.out]; exact hlt)
      obtain ⟨y, hy⟩ : ∃ y, zs.getD k 0 = y := ⟨_, rfl⟩
      rw [hy] at hcell hcons
      have hx2 := Hx.out
      rw [hcons] at hx2
      clear hcons hy
      by_cases he : twoE x y (x + y) = 0
      · rw [foldP_ok he] at hx2
        have Hx2 := Lib.hid hx2
        have He := Lib.hid he
        clear hx2 he
        go_wp2_with fail
        refine (add_fix x y _).mono ?_
        rintro e w' ⟨rfl, rfl⟩
        rw [He.out]
        go_wp2_with fail
        go_round
        case rel => exact ⟨k + 1, twoV x y (x + y), by omega, by go_num, rfl, Hx2.out⟩
        case measure => simp [intOf]; omega
      · rw [foldP_err he] at hx2
        subst hx2
        have ne : (twoE x y (x + y) != 0) = true := by rw [bne_iff_ne]; exact he
        clear he
        go_wp2_with fail
        refine (add_fix x y _).mono ?_
        rintro e w' ⟨rfl, rfl⟩
        go_wp2_with fail
        go_ret2
        exact ⟨rfl, rfl⟩
    · obtain rfl : k = len := by omega
      have dl : decide ((k : Int) < (k : Int)) = false := by simp
      have hx2 := Hx.out
      rw [List.drop_of_length_le (by rw [Hl.out]; exact Nat.le_refl _)] at hx2
      subst hx2
      go_wp2
      go_ret2
      exact ⟨rfl, rfl⟩
set_option maxHeartbeats 400000 in
theorem fold_mul (a : Option Addr) (len cap : Nat) (zs : List Int) (R : Int × Int) (w : World) (hrow : RowI w a len zs) (HR : Hid (foldP (fun a b => a * b) 1 zs = R)) :
    Calls Try.prog 52 #[.func (.func 23) #[] #[], .int .i64 1, .slice a len cap] w fun e w' => e = .returned (.tuple #[.int .i64 R.1, .int .i64 R.2]) ∧ w = w' := by
  obtain ⟨hm, hl, hc⟩ := hrow
  unfold maxLen at hm
  have Hc := Lib.hid hc
  have Hl := Lib.hid hl
  clear hc hl
  go_enter Try.func52, Try.ntmps52
  go_wp2
  go_loop [8, 16] (fun t i => FoldAt (fun a b => a * b) R len zs t i) (fun _ i => len - (intOf i).toNat)
  case atStart => exact ⟨0, 1, Nat.zero_le _, rfl, rfl, HR.out⟩
  case round =>
    obtain ⟨k, x, hk, rfl, rfl, hx⟩ := hrel
    have Hx := Lib.hid hx
    clear hx
    by_cases hlt : k < len
    · obtain ⟨b, off, rfl, hcell⟩ := Hc.out k hlt
      have dl : decide ((k : Int) < (len : Int)) = true := by simp [hlt]
      have hcons := drop_cons zs k (by rw [Hl.out]; exact hlt)
      obtain ⟨y, hy⟩ : ∃ y, zs.getD k 0 = y := ⟨_, rfl⟩
      rw [hy] at hcell hcons
      have hx2 := Hx.out
      rw [hcons] at hx2
      clear hcons hy
      by_cases he : twoE x y (x * y) = 0
      · rw [foldP_ok he] at hx2
        have Hx2 := Lib.hid hx2
        have He := Lib.hid he
        clear hx2 he
        go_wp2_with fail
        refine (mul_fix x y _).mono ?_
        rintro e w' ⟨rfl, rfl⟩
        rw [He.out]
        go_wp2_with fail
        go_round
        case rel => exact ⟨k + 1, twoV x y (x * y), by omega, by go_num, rfl, Hx2.out⟩
        case measure => simp [intOf]; omega
      · rw [foldP_err he] at hx2
        subst hx2
        have ne : (twoE x y (x * y) != 0) = true := by rw [bne_iff_ne]; exact he
        clear he
        go_wp2_with fail
        refine (mul_fix x y _).mono ?_
        rintro e w' ⟨rfl, rfl⟩
        go_wp2_with fail
        go_ret2
        exact ⟨rfl, rfl⟩
    · obtain rfl : k = len := by omega
      have dl : decide ((k : Int) < (k : Int)) = false := by simp
      have hx2 := Hx.out
      rw [List.drop_of_length_le (by rw [Hl.out]; exact Nat.le_refl _)] at hx2
      subst hx2
      go_wp2
      go_ret2
      exact ⟨rfl, rfl⟩
end Go.Proofs.Ytlaajhdffgjamaa.Fx
