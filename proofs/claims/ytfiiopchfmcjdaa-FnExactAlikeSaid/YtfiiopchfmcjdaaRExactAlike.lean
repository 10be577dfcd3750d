/- The law FnExactAlike answers true at every argument, and every argument reads afterwards as it read before. No condition. -/
import Derived.Test.YtfiiopchfmcjdaaRows
import Derived.Test.YtfiiopchfmcjdaaMExactAlike00
import Derived.Test.YtfiiopchfmcjdaaMExactAlike01
import Derived.Test.YtfiiopchfmcjdaaMExactAlike02
import Derived.Test.YtfiiopchfmcjdaaMExactAlike03
import Derived.Test.YtfiiopchfmcjdaaMExactAlike04
import Derived.Test.YtfiiopchfmcjdaaMExactAlike05
import Derived.Test.YtfiiopchfmcjdaaMExactAlike06
import Derived.Test.YtfiiopchfmcjdaaMExactAlike07
import Derived.Test.YtfiiopchfmcjdaaMExactAlike08
import Derived.Test.YtfiiopchfmcjdaaMExactAlike09
import Derived.Test.YtfiiopchfmcjdaaMExactAlike10
import Derived.Test.YtfiiopchfmcjdaaMExactAlike11
import Derived.Test.YtfiiopchfmcjdaaMExactAlike12
import Derived.Test.YtfiiopchfmcjdaaMExactAlike13
import Derived.Test.YtfiiopchfmcjdaaMExactAlike14
import Derived.Test.YtfiiopchfmcjdaaMExactAlike15
import Derived.Test.YtfiiopchfmcjdaaMExactAlike16
import Derived.Test.YtfiiopchfmcjdaaMExactAlike17
import Derived.Test.YtfiiopchfmcjdaaMExactAlike18
import Derived.Test.YtfiiopchfmcjdaaMExactAlike19
import Derived.Test.YtfiiopchfmcjdaaMExactAlike20
import Derived.Test.YtfiiopchfmcjdaaMExactAlike21
import Derived.Test.YtfiiopchfmcjdaaMExactAlike22
import Derived.Test.YtfiiopchfmcjdaaMExactAlike23
import Derived.Test.YtfiiopchfmcjdaaMExactAlike24
import Derived.WalkKit
import Derived.ProofKit
import Derived.OpenShut
import Derived.ShutString
namespace Go.Proofs.Ytfiiopchfmcjdaa.fnExactAlike
open Go.ChangeShapes Go.WideShapes Go.ChangeAt Go.RowKit
open Go.ChangeMaps (open_string shut_string)
theorem own : ownKnob Try.prog.godebug = none := by kernel_rfl
theorem laidOut : laidOutB Try.prog = true := by kernel_rfl
set_option maxRecDepth 100000 in
theorem lifted (os : Os) (started : os.Started) (H : Type) (enc : TypeId × Value → H) :
    ReturnsInHanded {} Try.checked os 5 .any (Rows.fnExactAlikeSpec.pre6 enc Try.prog Try.f5 Rows.fnExactAlikeRow.domain false) (Rows.fnExactAlikeSpec.post enc Try.prog Try.f5 false true false false) := by
  refine returnsInHanded_of_change (C := Try.checked) own started (by kernel_rfl) Try.func5
    (ChangeSpec.witness6 (enc := enc) (C := Try.checked) false ⟨#[], #[.agg #[.int .i64 0, .string ByteArray.empty, .slice none 0 0, .int .i64 0, .int .i64 0, .slice none 0 0], .agg #[.int .i64 0, .string ByteArray.empty, .slice none 0 0, .int .i64 0, .int .i64 0, .slice none 0 0]], []⟩ 8 (by kernel_rfl) (by kernel_rfl) (by kernel_rfl) (by kernel_rfl)) ?_
  intro W base args ds gs before hval0 hW hcnd _
  have hval : ∀ (j : Nat) t v, Try.f5.params[j]? = some t → args[j]? = some v → Value.okWide Try.prog W .any base t v := hval0
  have hW' := hW
  obtain ⟨p, q, hA0, hV, rfl, hfz, hnd⟩ := hW
  have hA : DataW.TrodAll enc Try.prog W 0 (fun _ => true) true Try.f5.params.toList args.toList ds p := hA0
  rw [Try.params5] at hA hval
  obtain ⟨v0, vs0, d0, ds0, p0, q0, hargs, rfl, rfl, h0, r0⟩ := trodAll_cons hA
  obtain ⟨v1, vs1, d1, ds1, p1, q1, rfl, rfl, rfl, h1, r1⟩ := trodAll_cons r0
  obtain ⟨rfl, rfl, rfl⟩ := trodAll_nil r1
  obtain rfl : args = #[v0, v1] := by cases args; simp_all
  obtain ⟨rfl, rfl⟩ := trodVars_none hV
  have k0 := h0
  have lt0 : ∀ x ∈ p0, x.block < W.heap.size := by obtain ⟨m, hm⟩ := k0; exact DataW.trod_lt m _ _ _ hm
  obtain ⟨m0, n0, q0, rfl, w0⟩ := nd_open (hval 0 35 v0 rfl rfl) h0
  have k1 := h1
  have lt1 : ∀ x ∈ p1, x.block < W.heap.size := by obtain ⟨m, hm⟩ := k1; exact DataW.trod_lt m _ _ _ hm
  obtain ⟨m1, n1, q1, rfl, w1⟩ := nd_open (hval 1 35 v1 rfl rfl) h1
  clear hA0 hval0
  refine (walkExactAlike W m0 n0 q0 w0 m1 n1 q1 w1).mono fun e W' ⟨he, bel⟩ => ?_
  subst he
  exact ⟨_, rfl, _, _, _, [], _, [], hW', trodAll_mk1 (shut_bool Try.underlying4 _), (trodAll_cons_mk (Below.trod laidOut (by kernel_rfl) (of_decide_eq_true (by kernel_rfl)) k0 bel lt0) (trodAll_cons_mk (Below.trod laidOut (by kernel_rfl) (of_decide_eq_true (by kernel_rfl)) k1 bel lt1) trodAll_mk0)), rfl, bel.frame _, fun h => by cases h⟩
theorem over : Rows.fnExactAlikeRow.holds Try.pinned (OpenSpec.ofChange Rows.fnExactAlikeSpec) :=
  OpenClaim.holds_of_wide 5 Try.f5 rfl rfl rfl rfl rfl rfl rfl ⟨rfl, rfl, rfl, rfl, rfl⟩ rfl rfl rfl rfl rfl (by kernel_rfl) Try.func5 (by kernel_rfl)
    (of_decide_eq_true (by kernel_rfl)) (by unfold Func.isWrapper; first | (rw [if_pos (by decide +kernel)]; kernel_rfl) | (rw [if_neg (by decide +kernel)]; exact ⟨rfl, rfl⟩))
    (fun os started H enc _ => lifted os started H enc)
theorem proved : Rows.FnExactAlikeSaid := over
end Go.Proofs.Ytfiiopchfmcjdaa.fnExactAlike
