/- Size, Deep and Check: what the program returns. -/
import Derived.Test.YtapnighankepjaaDatMeasure
namespace Go.Proofs.Ytapnighankepjaa.Da
open Go.ChangeShapes Go.WideShapes Go.ChangeAt Go.RowKit

def sizeD (d : Dt) : Int := (meas d).1
def deepD (d : Dt) : Int := (meas d).2.1
def chk (d : Dt) : Int := (meas d).2.2
theorem check_any (d : Dt) (v : Value) (B : Nat) (w : World) (hd : IsDt w (Lo B) d v) (hB : B ≤ w.heap.size) :
    Calls Try.prog 44 #[v] w fun e w' => e = .returned (.int .i64 (chk d)) ∧ Below w.heap.size w w' := by
  have hd' := hd
  obtain ⟨am, cm, al, cl, at_, ct, rfl, _⟩ := hd'.open_
  have HD := Lib.hid hd
  clear hd hd'
  go_enter Try.func44, Try.ntmps44
  go_wp2_with fail
  refine (measure_any d _ B _ (by exact HD.out.below ((Below.refl _ _).alloc hB _)) (by simp; omega)).mono ?_
  rintro e w' ⟨rfl, hb⟩
  have HB := Lib.hid hb
  clear hb
  go_wp2_with fail
  go_ret
  exact ⟨rfl, bel_trans (bel_alloc _ _) HB.out⟩
end Go.Proofs.Ytapnighankepjaa.Da
