/- The law FnExactCanonPut answers true at every argument, and every argument reads afterwards as it read before. No condition. -/
import Derived.Test.YtbijfkpilncclaaGreatRows
import Derived.Test.YtbijfkpilncclaaGreatMExactCanonPut00
import Derived.Test.YtbijfkpilncclaaGreatMExactCanonPut01
import Derived.Test.YtbijfkpilncclaaGreatMExactCanonPut02
import Derived.Test.YtbijfkpilncclaaGreatMExactCanonPut03
import Derived.Test.YtbijfkpilncclaaGreatMExactCanonPut04
import Derived.Test.YtbijfkpilncclaaGreatMExactCanonPut05
import Derived.Test.YtbijfkpilncclaaGreatMExactCanonPut06
import Derived.Test.YtbijfkpilncclaaGreatMExactCanonPut07
import Derived.Test.YtbijfkpilncclaaGreatMExactCanonPut08
import Derived.Test.YtbijfkpilncclaaGreatMExactCanonPut09
import Derived.Test.YtbijfkpilncclaaGreatMExactCanonPut10
import Derived.Test.YtbijfkpilncclaaGreatMExactCanonPut11
import Derived.Test.YtbijfkpilncclaaGreatMExactCanonPut12
import Derived.Test.YtbijfkpilncclaaGreatMExactCanonPut13
import Derived.Test.YtbijfkpilncclaaGreatMExactCanonPut14
import Derived.Test.YtbijfkpilncclaaGreatMExactCanonPut15
import Derived.Test.YtbijfkpilncclaaGreatMExactCanonPut16
import Derived.Test.YtbijfkpilncclaaGreatMExactCanonPut17
import Derived.Test.YtbijfkpilncclaaGreatMExactCanonPut18
import Derived.Test.YtbijfkpilncclaaGreatMExactCanonPut19
import Derived.Test.YtbijfkpilncclaaGreatMExactCanonPut20
import Derived.Test.YtbijfkpilncclaaGreatMExactCanonPut21
import Derived.Test.YtbijfkpilncclaaGreatMExactCanonPut22
import Derived.Test.YtbijfkpilncclaaGreatMExactCanonPut23
import Derived.Test.YtbijfkpilncclaaGreatMExactCanonPut24
import Derived.Test.YtbijfkpilncclaaGreatMExactCanonPut25
import Derived.Test.YtbijfkpilncclaaGreatMExactCanonPut26
import Derived.Test.YtbijfkpilncclaaGreatMExactCanonPut27
import Derived.Test.YtbijfkpilncclaaGreatMExactCanonPut28
import Derived.Test.YtbijfkpilncclaaGreatMExactCanonPut29
import Derived.Test.YtbijfkpilncclaaGreatMExactCanonPut30
import Derived.Test.YtbijfkpilncclaaGreatMExactCanonPut31
import Derived.Test.YtbijfkpilncclaaGreatMExactCanonPut32
import Derived.Test.YtbijfkpilncclaaGreatMExactCanonPut33
import Derived.Test.YtbijfkpilncclaaGreatMExactCanonPut34
import Derived.Test.YtbijfkpilncclaaGreatMExactCanonPut35
import Derived.Test.YtbijfkpilncclaaGreatMExactCanonPut36
import Derived.Test.YtbijfkpilncclaaGreatMExactCanonPut37
import Derived.WalkKit
import Derived.ProofKit
import Derived.OpenShut
import Derived.ShutString
namespace Go.Proofs.YtbijfkpilncclaaGreat.fnExactCanonPut
open Go.ChangeShapes Go.WideShapes Go.ChangeAt Go.RowKit
open Go.ChangeMaps (open_string shut_string)
theorem own : ownKnob Tryz.prog.godebug = none := by kernel_rfl
theorem laidOut : laidOutB Tryz.prog = true := by kernel_rfl
set_option maxRecDepth 100000 in
theorem lifted (os : Os) (started : os.Started) (H : Type) (enc : TypeId × Value → H) :
    ReturnsInHanded {} Tryz.checked os 4 .any (Rows.fnExactCanonPutSpec.pre6 enc Tryz.prog Tryz.f4 Rows.fnExactCanonPutRow.domain false) (Rows.fnExactCanonPutSpec.post enc Tryz.prog Tryz.f4 false true false false) := by
  refine returnsInHanded_of_change (C := Tryz.checked) own started (by kernel_rfl) Tryz.func4
    (ChangeSpec.witness6 (enc := enc) (C := Tryz.checked) false ⟨#[], #[.agg #[.int .i64 0, .string ByteArray.empty, .slice none 0 0, .int .i64 0, .int .i64 0, .slice none 0 0]], []⟩ 8 (by kernel_rfl) (by kernel_rfl) (by kernel_rfl) (by kernel_rfl)) ?_
  intro W base args ds gs before hval0 hW hcnd _
  have hval : ∀ (j : Nat) t v, Tryz.f4.params[j]? = some t → args[j]? = some v → Value.okWide Tryz.prog W .any base t v := hval0
  have hW' := hW
  obtain ⟨p, q, hA0, hV, rfl, hfz, hnd⟩ := hW
  have hA : DataW.TrodAll enc Tryz.prog W 0 (fun _ => true) true Tryz.f4.params.toList args.toList ds p := hA0
  rw [Tryz.params4] at hA hval
  obtain ⟨v0, vs0, d0, ds0, p0, q0, hargs, rfl, rfl, h0, r0⟩ := trodAll_cons hA
  obtain ⟨rfl, rfl, rfl⟩ := trodAll_nil r0
  obtain rfl : args = #[v0] := by cases args; simp_all
  obtain ⟨rfl, rfl⟩ := trodVars_none hV
  have k0 := h0
  have lt0 : ∀ x ∈ p0, x.block < W.heap.size := by obtain ⟨m, hm⟩ := k0; exact DataW.trod_lt m _ _ _ hm
  obtain ⟨m0, n0, q0, rfl, w0⟩ := nd_open (hval 0 24 v0 rfl rfl) h0
  clear hA0 hval0
  refine (walkExactCanonPut W m0 n0 q0 w0).mono fun e W' ⟨he, bel⟩ => ?_
  subst he
  exact ⟨_, rfl, _, _, _, [], _, [], hW', trodAll_mk1 (shut_bool Tryz.underlying4 _), (trodAll_cons_mk (Below.trod laidOut (by kernel_rfl) (of_decide_eq_true (by kernel_rfl)) k0 bel lt0) trodAll_mk0), rfl, bel.frame _, fun h => by cases h⟩
theorem over : Rows.fnExactCanonPutRow.holds Tryz.pinned (OpenSpec.ofChange Rows.fnExactCanonPutSpec) :=
  OpenClaim.holds_of_wide 4 Tryz.f4 rfl rfl rfl rfl rfl rfl rfl ⟨rfl, rfl, rfl, rfl, rfl⟩ rfl rfl rfl rfl rfl (by kernel_rfl) Tryz.func4 (by kernel_rfl)
    (of_decide_eq_true (by kernel_rfl)) (by unfold Func.isWrapper; first | (rw [if_pos (by decide +kernel)]; kernel_rfl) | (rw [if_neg (by decide +kernel)]; exact ⟨rfl, rfl⟩))
    (fun os started H enc _ => lifted os started H enc)
theorem proved : Rows.FnExactCanonPutSaid := over
end Go.Proofs.YtbijfkpilncclaaGreat.fnExactCanonPut
