/- laws.eqPoint of two that are the same. -/
import Derived.Test.YtialmfolgendlabFits
import Derived.Deep.RegionLaw
import Derived.Deep.RegionWith
import Derived.Deep.DeepMust
namespace Go.Proofs.Ytialmfolgendlab
open Go.RowKit
set_option maxHeartbeats 2000000 in
set_option maxRecDepth 100000 in
theorem eqPoint_same (k o d p s c g : Int) (t : Bool) (w : World) :
    Calls Try.prog 28 #[ptv k o d p s c g t, ptv k o d p s c g t] w fun e w' => e = .returned (.bool true) ∧ Below w.heap.size w w' := by
  have h0 : (k == k) = true := by simp
  have h1 : (o == o) = true := by simp
  have h2 : (d == d) = true := by simp
  have h3 : (p == p) = true := by simp
  have h4 : (s == s) = true := by simp
  have h5 : (c == c) = true := by simp
  have h6 : (g == g) = true := by simp
  have h7 : (t == t) = true := by simp
  unfold ptv
  go_enter Try.func28, Try.ntmps28
  go_wp2
  go_ret
  exact ⟨rfl, by repeat (first | exact Below.refl _ _ | refine Below.alloc ?_ (by simp; try omega) _)⟩
end Go.Proofs.Ytialmfolgendlab
