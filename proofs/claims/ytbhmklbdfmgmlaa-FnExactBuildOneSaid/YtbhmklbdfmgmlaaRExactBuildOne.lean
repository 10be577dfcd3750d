/- The law FnExactBuildOne answers true at every argument, and every argument reads afterwards as it read before. No condition. -/
import Derived.Test.YtbhmklbdfmgmlaaRows
import Derived.Test.YtbhmklbdfmgmlaaMExactBuildOne00
import Derived.Test.YtbhmklbdfmgmlaaMExactBuildOne01
import Derived.Test.YtbhmklbdfmgmlaaMExactBuildOne02
import Derived.Test.YtbhmklbdfmgmlaaMExactBuildOne03
import Derived.Test.YtbhmklbdfmgmlaaMExactBuildOne04
import Derived.Test.YtbhmklbdfmgmlaaMExactBuildOne05
import Derived.Test.YtbhmklbdfmgmlaaMExactBuildOne06
import Derived.Test.YtbhmklbdfmgmlaaMExactBuildOne07
import Derived.Test.YtbhmklbdfmgmlaaMExactBuildOne08
import Derived.Test.YtbhmklbdfmgmlaaMExactBuildOne09
import Derived.Test.YtbhmklbdfmgmlaaMExactBuildOne10
import Derived.Test.YtbhmklbdfmgmlaaMExactBuildOne11
import Derived.Test.YtbhmklbdfmgmlaaMExactBuildOne12
import Derived.Test.YtbhmklbdfmgmlaaMExactBuildOne13
import Derived.Test.YtbhmklbdfmgmlaaMExactBuildOne14
import Derived.Test.YtbhmklbdfmgmlaaMExactBuildOne15
import Derived.Test.YtbhmklbdfmgmlaaMExactBuildOne16
import Derived.Test.YtbhmklbdfmgmlaaMExactBuildOne17
import Derived.Test.YtbhmklbdfmgmlaaMExactBuildOne18
import Derived.Test.YtbhmklbdfmgmlaaMExactBuildOne19
import Derived.Test.YtbhmklbdfmgmlaaMExactBuildOne20
import Derived.Test.YtbhmklbdfmgmlaaMExactBuildOne21
import Derived.Test.YtbhmklbdfmgmlaaMExactBuildOne22
import Derived.Test.YtbhmklbdfmgmlaaMExactBuildOne23
import Derived.Test.YtbhmklbdfmgmlaaMExactBuildOne24
import Derived.Test.YtbhmklbdfmgmlaaMExactBuildOne25
import Derived.Test.YtbhmklbdfmgmlaaMExactBuildOne26
import Derived.Test.YtbhmklbdfmgmlaaMExactBuildOne27
import Derived.Test.YtbhmklbdfmgmlaaMExactBuildOne28
import Derived.Test.YtbhmklbdfmgmlaaMExactBuildOne29
import Derived.Test.YtbhmklbdfmgmlaaMExactBuildOne30
import Derived.WalkKit
import Derived.ProofKit
import Derived.OpenShut
import Derived.ShutString
namespace Go.Proofs.Ytbhmklbdfmgmlaa.fnExactBuildOne
open Go.ChangeShapes Go.WideShapes Go.ChangeAt Go.RowKit
open Go.ChangeMaps (open_string shut_string)
theorem own : ownKnob Try.prog.godebug = none := by kernel_rfl
theorem laidOut : laidOutB Try.prog = true := by kernel_rfl
set_option maxRecDepth 100000 in
theorem lifted (os : Os) (started : os.Started) (H : Type) (enc : TypeId × Value → H) :
    ReturnsInHanded {} Try.checked os 4 .any (Rows.fnExactBuildOneSpec.pre6 enc Try.prog Try.f4 Rows.fnExactBuildOneRow.domain false) (Rows.fnExactBuildOneSpec.post enc Try.prog Try.f4 false true false false) := by
  refine returnsInHanded_of_change (C := Try.checked) own started (by kernel_rfl) Try.func4
    (ChangeSpec.witness6 (enc := enc) (C := Try.checked) false ⟨#[], #[.agg #[.int .i64 0, .string ByteArray.empty, .slice none 0 0, .int .i64 0, .int .i64 0, .slice none 0 0]], []⟩ 8 (by kernel_rfl) (by kernel_rfl) (by kernel_rfl) (by kernel_rfl)) ?_
  intro W base args ds gs before hval0 hW hcnd _
  have hval : ∀ (j : Nat) t v, Try.f4.params[j]? = some t → args[j]? = some v → Value.okWide Try.prog W .any base t v := hval0
  have hW' := hW
  obtain ⟨p, q, hA0, hV, rfl, hfz, hnd⟩ := hW
  have hA : DataW.TrodAll enc Try.prog W 0 (fun _ => true) true Try.f4.params.toList args.toList ds p := hA0
  rw [Try.params4] at hA hval
  obtain ⟨v0, vs0, d0, ds0, p0, q0, hargs, rfl, rfl, h0, r0⟩ := trodAll_cons hA
  obtain ⟨rfl, rfl, rfl⟩ := trodAll_nil r0
  obtain rfl : args = #[v0] := by cases args; simp_all
  obtain ⟨rfl, rfl⟩ := trodVars_none hV
  have k0 := h0
  have lt0 : ∀ x ∈ p0, x.block < W.heap.size := by obtain ⟨m, hm⟩ := k0; exact DataW.trod_lt m _ _ _ hm
  obtain ⟨m0, n0, q0, rfl, w0⟩ := nd_open (hval 0 24 v0 rfl rfl) h0
  clear hA0 hval0
  refine (walkExactBuildOne W m0 n0 q0 w0).mono fun e W' ⟨he, bel⟩ => ?_
  subst he
  exact ⟨_, rfl, _, _, _, [], _, [], hW', trodAll_mk1 (shut_bool Try.underlying4 _), (trodAll_cons_mk (Below.trod laidOut (by kernel_rfl) (of_decide_eq_true (by kernel_rfl)) k0 bel lt0) trodAll_mk0), rfl, bel.frame _, fun h => by cases h⟩
theorem over : Rows.fnExactBuildOneRow.holds Try.pinned (OpenSpec.ofChange Rows.fnExactBuildOneSpec) :=
  OpenClaim.holds_of_wide 4 Try.f4 rfl rfl rfl rfl rfl rfl rfl ⟨rfl, rfl, rfl, rfl, rfl⟩ rfl rfl rfl rfl rfl (by kernel_rfl) Try.func4 (by kernel_rfl)
    (of_decide_eq_true (by kernel_rfl)) (by unfold Func.isWrapper; first | (rw [if_pos (by decide +kernel)]; kernel_rfl) | (rw [if_neg (by decide +kernel)]; exact ⟨rfl, rfl⟩))
    (fun os started H enc _ => lifted os started H enc)
theorem proved : Rows.FnExactBuildOneSaid := over
end Go.Proofs.Ytbhmklbdfmgmlaa.fnExactBuildOne
