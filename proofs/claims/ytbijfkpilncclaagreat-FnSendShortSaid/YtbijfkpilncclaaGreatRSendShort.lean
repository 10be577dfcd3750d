/- The law FnSendShort answers true at every argument, and every argument reads afterwards as it read before. No condition. -/
import Derived.Test.YtbijfkpilncclaaGreatRows
import Derived.Test.YtbijfkpilncclaaGreatMSendShort00
import Derived.Test.YtbijfkpilncclaaGreatMSendShort01
import Derived.Test.YtbijfkpilncclaaGreatMSendShort02
import Derived.Test.YtbijfkpilncclaaGreatMSendShort03
import Derived.Test.YtbijfkpilncclaaGreatMSendShort04
import Derived.Test.YtbijfkpilncclaaGreatMSendShort05
import Derived.Test.YtbijfkpilncclaaGreatMSendShort06
import Derived.Test.YtbijfkpilncclaaGreatMSendShort07
import Derived.Test.YtbijfkpilncclaaGreatMSendShort08
import Derived.Test.YtbijfkpilncclaaGreatMSendShort09
import Derived.Test.YtbijfkpilncclaaGreatMSendShort10
import Derived.Test.YtbijfkpilncclaaGreatMSendShort11
import Derived.Test.YtbijfkpilncclaaGreatMSendShort12
import Derived.Test.YtbijfkpilncclaaGreatMSendShort13
import Derived.Test.YtbijfkpilncclaaGreatMSendShort14
import Derived.Test.YtbijfkpilncclaaGreatMSendShort15
import Derived.Test.YtbijfkpilncclaaGreatMSendShort16
import Derived.Test.YtbijfkpilncclaaGreatMSendShort17
import Derived.Test.YtbijfkpilncclaaGreatMSendShort18
import Derived.Test.YtbijfkpilncclaaGreatMSendShort19
import Derived.Test.YtbijfkpilncclaaGreatMSendShort20
import Derived.Test.YtbijfkpilncclaaGreatMSendShort21
import Derived.Test.YtbijfkpilncclaaGreatMSendShort22
import Derived.Test.YtbijfkpilncclaaGreatMSendShort23
import Derived.Test.YtbijfkpilncclaaGreatMSendShort24
import Derived.Test.YtbijfkpilncclaaGreatMSendShort25
import Derived.Test.YtbijfkpilncclaaGreatMSendShort26
import Derived.Test.YtbijfkpilncclaaGreatMSendShort27
import Derived.Test.YtbijfkpilncclaaGreatMSendShort28
import Derived.Test.YtbijfkpilncclaaGreatMSendShort29
import Derived.Test.YtbijfkpilncclaaGreatMSendShort30
import Derived.Test.YtbijfkpilncclaaGreatMSendShort31
import Derived.Test.YtbijfkpilncclaaGreatMSendShort32
import Derived.Test.YtbijfkpilncclaaGreatMSendShort33
import Derived.Test.YtbijfkpilncclaaGreatMSendShort34
import Derived.WalkKit
import Derived.ProofKit
import Derived.OpenShut
import Derived.ShutString
namespace Go.Proofs.YtbijfkpilncclaaGreat.fnSendShort
open Go.ChangeShapes Go.WideShapes Go.ChangeAt Go.RowKit
open Go.ChangeMaps (open_string shut_string)
theorem own : ownKnob Tryz.prog.godebug = none := by kernel_rfl
theorem laidOut : laidOutB Tryz.prog = true := by kernel_rfl
set_option maxRecDepth 100000 in
theorem lifted (os : Os) (started : os.Started) (H : Type) (enc : TypeId × Value → H) :
    ReturnsInHanded {} Tryz.checked os 5 .any (Rows.fnSendShortSpec.pre6 enc Tryz.prog Tryz.f5 Rows.fnSendShortRow.domain false) (Rows.fnSendShortSpec.post enc Tryz.prog Tryz.f5 false true false false) := by
  refine returnsInHanded_of_change (C := Tryz.checked) own started (by kernel_rfl) Tryz.func5
    (ChangeSpec.witness6 (enc := enc) (C := Tryz.checked) false ⟨#[], #[.slice none 0 0], []⟩ 8 (by kernel_rfl) (by kernel_rfl) (by kernel_rfl) (by kernel_rfl)) ?_
  intro W base args ds gs before hval0 hW hcnd _
  have hval : ∀ (j : Nat) t v, Tryz.f5.params[j]? = some t → args[j]? = some v → Value.okWide Tryz.prog W .any base t v := hval0
  have hW' := hW
  obtain ⟨p, q, hA0, hV, rfl, hfz, hnd⟩ := hW
  have hA : DataW.TrodAll enc Tryz.prog W 0 (fun _ => true) true Tryz.f5.params.toList args.toList ds p := hA0
  rw [Tryz.params5] at hA hval
  obtain ⟨v0, vs0, d0, ds0, p0, q0, hargs, rfl, rfl, h0, r0⟩ := trodAll_cons hA
  obtain ⟨rfl, rfl, rfl⟩ := trodAll_nil r0
  obtain rfl : args = #[v0] := by cases args; simp_all
  obtain ⟨rfl, rfl⟩ := trodVars_none hV
  have k0 := h0
  have lt0 : ∀ x ∈ p0, x.block < W.heap.size := by obtain ⟨m, hm⟩ := k0; exact DataW.trod_lt m _ _ _ hm
  obtain ⟨a0, len0, cap0, rfl⟩ := okWide_slice Tryz.underlying36 (hval 0 36 v0 rfl rfl)
  have w0 : Arg W a0 len0 cap0 := by
    obtain ⟨fuel, hf⟩ := h0
    rcases open_ints Tryz.underlying36 Tryz.underlying5 (by kernel_rfl) hf with ⟨hcs, _⟩ | ⟨x, l, c, zs, hcs, _, hl, hm, hz, _, hcell, hwz⟩
    · simp [Value.cells] at hcs
      obtain ⟨rfl, rfl, rfl⟩ := hcs
      exact arg_nil W
    · simp [Value.cells] at hcs
      obtain ⟨rfl, rfl, rfl⟩ := hcs
      exact arg_row hl hm (by simpa using hz) hcell hwz
  clear hA0 hval0
  refine (walkSendShort W a0 len0 cap0 w0).mono fun e W' ⟨he, bel⟩ => ?_
  subst he
  exact ⟨_, rfl, _, _, _, [], _, [], hW', trodAll_mk1 (shut_bool Tryz.underlying4 _), (trodAll_cons_mk (Below.trod laidOut (by kernel_rfl) (of_decide_eq_true (by kernel_rfl)) k0 bel lt0) trodAll_mk0), rfl, bel.frame _, fun h => by cases h⟩
theorem over : Rows.fnSendShortRow.holds Tryz.pinned (OpenSpec.ofChange Rows.fnSendShortSpec) :=
  OpenClaim.holds_of_wide 5 Tryz.f5 rfl rfl rfl rfl rfl rfl rfl ⟨rfl, rfl, rfl, rfl, rfl⟩ rfl rfl rfl rfl rfl (by kernel_rfl) Tryz.func5 (by kernel_rfl)
    (of_decide_eq_true (by kernel_rfl)) (by unfold Func.isWrapper; first | (rw [if_pos (by decide +kernel)]; kernel_rfl) | (rw [if_neg (by decide +kernel)]; exact ⟨rfl, rfl⟩))
    (fun os started H enc _ => lifted os started H enc)
theorem proved : Rows.FnSendShortSaid := over
end Go.Proofs.YtbijfkpilncclaaGreat.fnSendShort
