/- The sums, differences and products of layer 1 by name. -/
import Derived.Test.YtlaajhdffgjamaaFixAwake
namespace Go.Proofs.Ytlaajhdffgjamaa.Fx
open Go.ChangeShapes Go.WideShapes Go.ChangeAt Go.RowKit
theorem add_is (a b v e : Int) (w : World) (hv : twoV a b (a + b) = v) (he : twoE a b (a + b) = e) :
    Calls Try.prog 13 #[.int .i64 a, .int .i64 b] w fun x w' => x = .returned (.tuple #[.int .i64 v, .int .i64 e]) ∧ w = w' := by
  subst hv he
  exact add_fix a b w
theorem sub_is (a b v e : Int) (w : World) (hv : twoV a b (a - b) = v) (he : twoE a b (a - b) = e) :
    Calls Try.prog 15 #[.int .i64 a, .int .i64 b] w fun x w' => x = .returned (.tuple #[.int .i64 v, .int .i64 e]) ∧ w = w' := by
  subst hv he
  exact sub_fix a b w
theorem mul_is (a b v e : Int) (w : World) (hv : twoV a b (a * b) = v) (he : twoE a b (a * b) = e) :
    Calls Try.prog 23 #[.int .i64 a, .int .i64 b] w fun x w' => x = .returned (.tuple #[.int .i64 v, .int .i64 e]) ∧ w = w' := by
  subst hv he
  exact mul_fix a b w
theorem two_comm (a b n : Int) : twoV b a n = twoV a b n ∧ twoE b a n = twoE a b n := by
  unfold twoV twoE; rw [Bool.and_comm]; exact ⟨rfl, rfl⟩
theorem two_ok {a b n : Int} (ha : inB a = true) (hb : inB b = true) (hn : inB n = true) : twoV a b n = n ∧ twoE a b n = 0 := by
  rw [(two_in ha hb).1, (two_in ha hb).2]; exact got_in hn
theorem ring_sum {a b c : Int} (h1 : twoE (a + b) c ((a + b) * c) = 0) (h2 : twoE a c (a * c) = 0) (h3 : twoE b c (b * c) = 0) :
    twoV (a * c) (b * c) (a * c + b * c) = (a + b) * c ∧ twoE (a * c) (b * c) (a * c + b * c) = 0 := by
  rw [← Int.add_mul]
  exact two_ok (twoE_ok h2).2.2.1 (twoE_ok h3).2.2.1 (twoE_ok h1).2.2.1
theorem ring_back {a b : Int} (ha : inB a = true) (hb : inB b = true) (hn : inB (a + b) = true) : twoV (a + b) b (a + b - b) = a ∧ twoE (a + b) b (a + b - b) = 0 := by
  rw [Int.add_sub_cancel]
  exact two_ok hn hb ha
end Go.Proofs.Ytlaajhdffgjamaa.Fx
