/- The law FnBuildSegs answers true at every argument, and every argument reads afterwards as it read before. No condition. -/
import Derived.Test.YtbhmklbdfmgmlaaRows
import Derived.Test.YtbhmklbdfmgmlaaMBuildSegs00
import Derived.Test.YtbhmklbdfmgmlaaMBuildSegs01
import Derived.Test.YtbhmklbdfmgmlaaMBuildSegs02
import Derived.Test.YtbhmklbdfmgmlaaMBuildSegs03
import Derived.Test.YtbhmklbdfmgmlaaMBuildSegs04
import Derived.Test.YtbhmklbdfmgmlaaMBuildSegs05
import Derived.Test.YtbhmklbdfmgmlaaMBuildSegs06
import Derived.Test.YtbhmklbdfmgmlaaMBuildSegs07
import Derived.Test.YtbhmklbdfmgmlaaMBuildSegs08
import Derived.Test.YtbhmklbdfmgmlaaMBuildSegs09
import Derived.Test.YtbhmklbdfmgmlaaMBuildSegs10
import Derived.Test.YtbhmklbdfmgmlaaMBuildSegs11
import Derived.Test.YtbhmklbdfmgmlaaMBuildSegs12
import Derived.Test.YtbhmklbdfmgmlaaMBuildSegs13
import Derived.Test.YtbhmklbdfmgmlaaMBuildSegs14
import Derived.Test.YtbhmklbdfmgmlaaMBuildSegs15
import Derived.Test.YtbhmklbdfmgmlaaMBuildSegs16
import Derived.Test.YtbhmklbdfmgmlaaMBuildSegs17
import Derived.Test.YtbhmklbdfmgmlaaMBuildSegs18
import Derived.Test.YtbhmklbdfmgmlaaMBuildSegs19
import Derived.Test.YtbhmklbdfmgmlaaMBuildSegs20
import Derived.Test.YtbhmklbdfmgmlaaMBuildSegs21
import Derived.Test.YtbhmklbdfmgmlaaMBuildSegs22
import Derived.Test.YtbhmklbdfmgmlaaMBuildSegs23
import Derived.Test.YtbhmklbdfmgmlaaMBuildSegs24
import Derived.Test.YtbhmklbdfmgmlaaMBuildSegs25
import Derived.Test.YtbhmklbdfmgmlaaMBuildSegs26
import Derived.Test.YtbhmklbdfmgmlaaMBuildSegs27
import Derived.Test.YtbhmklbdfmgmlaaMBuildSegs28
import Derived.Test.YtbhmklbdfmgmlaaMBuildSegs29
import Derived.Test.YtbhmklbdfmgmlaaMBuildSegs30
import Derived.Test.YtbhmklbdfmgmlaaMBuildSegs31
import Derived.Test.YtbhmklbdfmgmlaaMBuildSegs32
import Derived.Test.YtbhmklbdfmgmlaaMBuildSegs33
import Derived.Test.YtbhmklbdfmgmlaaMBuildSegs34
import Derived.WalkKit
import Derived.ProofKit
import Derived.OpenShut
import Derived.ShutString
namespace Go.Proofs.Ytbhmklbdfmgmlaa.fnBuildSegs
open Go.ChangeShapes Go.WideShapes Go.ChangeAt Go.RowKit
open Go.ChangeMaps (open_string shut_string)
theorem own : ownKnob Try.prog.godebug = none := by kernel_rfl
theorem laidOut : laidOutB Try.prog = true := by kernel_rfl
set_option maxRecDepth 100000 in
theorem lifted (os : Os) (started : os.Started) (H : Type) (enc : TypeId × Value → H) :
    ReturnsInHanded {} Try.checked os 6 .any (Rows.fnBuildSegsSpec.pre6 enc Try.prog Try.f6 Rows.fnBuildSegsRow.domain false) (Rows.fnBuildSegsSpec.post enc Try.prog Try.f6 false true false false) := by
  refine returnsInHanded_of_change (C := Try.checked) own started (by kernel_rfl) Try.func6
    (ChangeSpec.witness6 (enc := enc) (C := Try.checked) false ⟨#[], #[.slice none 0 0], []⟩ 8 (by kernel_rfl) (by kernel_rfl) (by kernel_rfl) (by kernel_rfl)) ?_
  intro W base args ds gs before hval0 hW hcnd _
  have hval : ∀ (j : Nat) t v, Try.f6.params[j]? = some t → args[j]? = some v → Value.okWide Try.prog W .any base t v := hval0
  have hW' := hW
  obtain ⟨p, q, hA0, hV, rfl, hfz, hnd⟩ := hW
  have hA : DataW.TrodAll enc Try.prog W 0 (fun _ => true) true Try.f6.params.toList args.toList ds p := hA0
  rw [Try.params6] at hA hval
  obtain ⟨v0, vs0, d0, ds0, p0, q0, hargs, rfl, rfl, h0, r0⟩ := trodAll_cons hA
  obtain ⟨rfl, rfl, rfl⟩ := trodAll_nil r0
  obtain rfl : args = #[v0] := by cases args; simp_all
  obtain ⟨rfl, rfl⟩ := trodVars_none hV
  have k0 := h0
  have lt0 : ∀ x ∈ p0, x.block < W.heap.size := by obtain ⟨m, hm⟩ := k0; exact DataW.trod_lt m _ _ _ hm
  obtain ⟨a0, len0, cap0, rfl⟩ := okWide_slice Try.underlying41 (hval 0 41 v0 rfl rfl)
  have w0 : Arg W a0 len0 cap0 := by
    obtain ⟨fuel, hf⟩ := h0
    rcases open_ints Try.underlying41 Try.underlying5 (by kernel_rfl) hf with ⟨hcs, _⟩ | ⟨x, l, c, zs, hcs, _, hl, hm, hz, _, hcell, hwz⟩
    · simp [Value.cells] at hcs
      obtain ⟨rfl, rfl, rfl⟩ := hcs
      exact arg_nil W
    · simp [Value.cells] at hcs
      obtain ⟨rfl, rfl, rfl⟩ := hcs
      exact arg_row hl hm (by simpa using hz) hcell hwz
  clear hA0 hval0
  refine (walkBuildSegs W a0 len0 cap0 w0).mono fun e W' ⟨he, bel⟩ => ?_
  subst he
  exact ⟨_, rfl, _, _, _, [], _, [], hW', trodAll_mk1 (shut_bool Try.underlying4 _), (trodAll_cons_mk (Below.trod laidOut (by kernel_rfl) (of_decide_eq_true (by kernel_rfl)) k0 bel lt0) trodAll_mk0), rfl, bel.frame _, fun h => by cases h⟩
theorem over : Rows.fnBuildSegsRow.holds Try.pinned (OpenSpec.ofChange Rows.fnBuildSegsSpec) :=
  OpenClaim.holds_of_wide 6 Try.f6 rfl rfl rfl rfl rfl rfl rfl ⟨rfl, rfl, rfl, rfl, rfl⟩ rfl rfl rfl rfl rfl (by kernel_rfl) Try.func6 (by kernel_rfl)
    (of_decide_eq_true (by kernel_rfl)) (by unfold Func.isWrapper; first | (rw [if_pos (by decide +kernel)]; kernel_rfl) | (rw [if_neg (by decide +kernel)]; exact ⟨rfl, rfl⟩))
    (fun os started H enc _ => lifted os started H enc)
theorem proved : Rows.FnBuildSegsSaid := over
end Go.Proofs.Ytbhmklbdfmgmlaa.fnBuildSegs
