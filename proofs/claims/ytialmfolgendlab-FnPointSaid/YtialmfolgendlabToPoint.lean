/- laws.toPoint. -/
import Derived.Test.YtialmfolgendlabFits
import Derived.Deep.RegionLaw
import Derived.Deep.RegionWith
import Derived.Deep.DeepMust
namespace Go.Proofs.Ytialmfolgendlab
open Go.RowKit
set_option maxHeartbeats 2000000 in
set_option maxRecDepth 100000 in
theorem toPoint_any (k o d p s c g : Int) (t : Bool) (w : World) :
    Calls Try.prog 27 #[ptv k o d p s c g t] w fun e w' => e = .returned (ptv k o d p s c g t) ∧ Below w.heap.size w w' := by
  unfold ptv
  go_enter Try.func27, Try.ntmps27
  go_wp2
  exact bodyPost_ret (v := .agg #[.int .i64 k, .int .i64 o, .int .i64 d, .int .i64 p, .int .i64 s, .int .i64 c, .int .i64 g, .bool t]) (by simp [results, Try.results27, go_sem]) rfl ⟨rfl, by repeat (first | exact Below.refl _ _ | refine Below.alloc ?_ (by simp; try omega) _)⟩
end Go.Proofs.Ytialmfolgendlab
