/- PointOk, both sides, and the law. -/
import Derived.Test.YtialmfolgendlabFits2
import Derived.Test.YtialmfolgendlabSpecOkA
import Derived.Test.YtialmfolgendlabSpecOkB
import Derived.Test.YtialmfolgendlabSpecOkC
import Derived.Test.YtialmfolgendlabToPoint
import Derived.Deep.RegionLaw
import Derived.Deep.RegionWith
import Derived.Deep.DeepMust
namespace Go.Proofs.Ytialmfolgendlab
open Go.RowKit
theorem kinds5 (k : Int) : k = 0 ∨ k = 1 ∨ k = 2 ∨ k = 3 ∨ (k ≠ 0 ∧ k ≠ 1 ∧ k ≠ 2 ∧ k ≠ 3) := by omega
theorem implPointOk_any (k o d p s c g : Int) (t : Bool) (w : World) :
    Calls Try.prog 15 #[ptv k o d p s c g t] w fun e w' => e = .returned (.bool (ptOk k o d p s c g t)) ∧ Below w.heap.size w w' := by
  rcases kinds5 k with rfl | rfl | rfl | rfl | hk
  · refine (implPointOk_noP o d p s c g t w).mono fun e w' ⟨h1, h2⟩ => ⟨h1.trans (ret_bool ?_), h2⟩
    cases t <;> (rw [Bool.eq_iff_iff]; simp [ptOk, eqP, fitsOf, restOf]; try omega)
  · refine (implPointOk_str o d p s c g t w).mono fun e w' ⟨h1, h2⟩ => ⟨h1.trans (ret_bool ?_), h2⟩
    cases t <;> (rw [Bool.eq_iff_iff]; simp [ptOk, eqP, fitsOf, restOf]; try omega)
  · refine (implPointOk_lis o d p s c g t w).mono fun e w' ⟨h1, h2⟩ => ⟨h1.trans (ret_bool ?_), h2⟩
    cases t <;> (rw [Bool.eq_iff_iff]; simp [ptOk, eqP, fitsOf, restOf]; try omega)
  · refine (implPointOk_far o d p s c g t w).mono fun e w' ⟨h1, h2⟩ => ⟨h1.trans (ret_bool ?_), h2⟩
    cases t <;> (rw [Bool.eq_iff_iff]; simp [ptOk, eqP, fitsOf, restOf]; try omega)
  · refine (implPointOk_bad k o d p s c g t hk w).mono fun e w' ⟨h1, h2⟩ => ⟨h1.trans (ret_bool ?_), h2⟩
    cases t <;> (rw [Bool.eq_iff_iff]; simp [ptOk, eqP, fitsOf, restOf, hk])
theorem specPointOk_any (k o d p s c g : Int) (t : Bool) (w : World) :
    Calls Try.prog 16 #[ptv k o d p s c g t] w fun e w' => e = .returned (.bool (ptOk k o d p s c g t)) ∧ Below w.heap.size w w' := by
  rcases kinds5 k with rfl | rfl | rfl | rfl | hk
  · refine (specPointOk_non o d p s c g t w).mono fun e w' ⟨h1, h2⟩ => ⟨h1.trans (ret_bool ?_), h2⟩
    cases t <;> (rw [Bool.eq_iff_iff]; simp [ptOk, fitsOf, restOf]; try omega)
  · refine (specPointOk_str o d p s c g t w).mono fun e w' ⟨h1, h2⟩ => ⟨h1.trans (ret_bool ?_), h2⟩
    cases t <;> (rw [Bool.eq_iff_iff]; simp [ptOk, fitsOf, restOf, inB, withB, zer3]; try omega)
  · refine (specPointOk_lis o d p s c g t w).mono fun e w' ⟨h1, h2⟩ => ⟨h1.trans (ret_bool ?_), h2⟩
    cases t <;> (rw [Bool.eq_iff_iff]; simp [ptOk, fitsOf, restOf, inB, withB]; try omega)
  · refine (specPointOk_far o d p s c g t w).mono fun e w' ⟨h1, h2⟩ => ⟨h1.trans (ret_bool ?_), h2⟩
    cases t <;> (rw [Bool.eq_iff_iff]; simp [ptOk, fitsOf, restOf, inB, withB]; try omega)
  · refine (specPointOk_bad k o d p s c g t hk w).mono fun e w' ⟨h1, h2⟩ => ⟨h1.trans (ret_bool ?_), h2⟩
    simp [ptOk, fitsOf, hk]
end Go.Proofs.Ytialmfolgendlab
