/- The law FnExactRecordChoice answers true at every argument, and every argument reads afterwards as it read before. No condition. -/
import Derived.Test.YtfiiopchfmcjdabDoorRows
import Derived.Test.YtfiiopchfmcjdabDoorMExactRecordChoice00
import Derived.Test.YtfiiopchfmcjdabDoorMExactRecordChoice01
import Derived.Test.YtfiiopchfmcjdabDoorMExactRecordChoice02
import Derived.Test.YtfiiopchfmcjdabDoorMExactRecordChoice03
import Derived.Test.YtfiiopchfmcjdabDoorMExactRecordChoice04
import Derived.Test.YtfiiopchfmcjdabDoorMExactRecordChoice05
import Derived.Test.YtfiiopchfmcjdabDoorMExactRecordChoice06
import Derived.Test.YtfiiopchfmcjdabDoorMExactRecordChoice07
import Derived.Test.YtfiiopchfmcjdabDoorMExactRecordChoice08
import Derived.Test.YtfiiopchfmcjdabDoorMExactRecordChoice09
import Derived.Test.YtfiiopchfmcjdabDoorMExactRecordChoice10
import Derived.Test.YtfiiopchfmcjdabDoorMExactRecordChoice11
import Derived.Test.YtfiiopchfmcjdabDoorMExactRecordChoice12
import Derived.Test.YtfiiopchfmcjdabDoorMExactRecordChoice13
import Derived.Test.YtfiiopchfmcjdabDoorMExactRecordChoice14
import Derived.Test.YtfiiopchfmcjdabDoorMExactRecordChoice15
import Derived.Test.YtfiiopchfmcjdabDoorMExactRecordChoice16
import Derived.Test.YtfiiopchfmcjdabDoorMExactRecordChoice17
import Derived.Test.YtfiiopchfmcjdabDoorMExactRecordChoice18
import Derived.WalkKit
import Derived.ProofKit
import Derived.OpenShut
import Derived.ShutString
import Derived.Test.YtfiiopchfmcjdabDoorTie
import Derived.Test.YtfiiopchfmcjdabDoorCards
import Derived.LaidMore
import Derived.Lay
import Derived.SevenTiedAt
import Derived.Stop.Joined
namespace Go.Proofs.YtfiiopchfmcjdabDoor.fnExactRecordChoice
open Go.ChangeShapes Go.WideShapes Go.ChangeAt Go.RowKit
open Go.ChangeMaps (open_string shut_string)
theorem own : ownKnob Tryd.prog.godebug = none := by kernel_rfl
theorem laidOut : laidOutB Tryd.prog = true := by kernel_rfl
set_option maxRecDepth 100000 in
theorem lifted (os : Os) (started : os.Started) (H : Type) (enc : TypeId × Value → H) :
    ReturnsInHanded {} Tryd.checked os 6 .any (fun w args => (Rows.fnExactRecordChoiceSpec.pre enc Tryd.prog Tryd.f6 Rows.fnExactRecordChoiceRow.domain false w args ∧ laidMetH Tryd.prog Rows.fnExactRecordChoiceRow.laid w) ∧ sizedMet enc Tryd.prog Tryd.f6 (OpenSpec.ofChange Rows.fnExactRecordChoiceSpec) false w args)
      (Rows.fnExactRecordChoiceSpec.post enc Tryd.prog Tryd.f6 false true false false) := by
  refine returnsInHanded_of_change_and (C := Tryd.checked) (X := fun w _ => laidMetH Tryd.prog Rows.fnExactRecordChoiceRow.laid w) (fun _ _ _ hh h => h.of_heap hh) own started (by kernel_rfl) Tryd.func6
    (ChangeSpec.witness_shaped (enc := enc) (C := Tryd.checked) (os := os) (X := fun w _ => laidMetH Tryd.prog Rows.fnExactRecordChoiceRow.laid w) false (World.laidAll Tryd.prog os Rows.fnExactRecordChoiceRow.laid) #[.slice none 0 0, .agg #[.int .i64 0, .string ByteArray.empty, .slice none 0 0, .int .i64 0, .int .i64 0, .slice none 0 0]] 8 (World.laidAll_os _ _ _)
      (World.shaped_of_ZipB (by kernel_rfl) (by kernel_rfl)) (by kernel_rfl) (by kernel_rfl) (by kernel_rfl)
      (by rw [MakeChecks.laidMetH_plain _ _ _ (by kernel_rfl)]; exact laidMet_laidAll _ (by kernel_rfl) (by kernel_rfl))) ?_
  intro W base args ds gs before hval0 hW hcnd _ hL _
  have hval : ∀ (j : Nat) t v, Tryd.f6.params[j]? = some t → args[j]? = some v → Value.okWide Tryd.prog W .any base t v := hval0
  have hW' := hW
  obtain ⟨p, q, hA0, hV, rfl, hfz, hnd⟩ := hW
  have hA : DataW.TrodAll enc Tryd.prog W 0 (fun _ => true) true Tryd.f6.params.toList args.toList ds p := hA0
  rw [Tryd.params6] at hA hval
  obtain ⟨v0, vs0, d0, ds0, p0, q0, hargs, rfl, rfl, h0, r0⟩ := trodAll_cons hA
  obtain ⟨v1, vs1, d1, ds1, p1, q1, rfl, rfl, rfl, h1, r1⟩ := trodAll_cons r0
  obtain ⟨rfl, rfl, rfl⟩ := trodAll_nil r1
  obtain rfl : args = #[v0, v1] := by cases args; simp_all
  obtain ⟨rfl, rfl⟩ := trodVars_none hV
  have k0 := h0
  have lt0 : ∀ x ∈ p0, x.block < W.heap.size := by obtain ⟨m, hm⟩ := k0; exact DataW.trod_lt m _ _ _ hm
  obtain ⟨a0, len0, cap0, rfl⟩ := okWide_slice Tryd.underlying44 (hval 0 44 v0 rfl rfl)
  obtain ⟨z0, l0, w0, m0⟩ : ∃ zs : List Fld, zs.length = len0 ∧ Flds W a0 zs ∧ len0 ≤ maxLen := by
    obtain ⟨fuel, hf⟩ := h0
    have := argF hf
    simpa [Value.cells] using this
  have k1 := h1
  have lt1 : ∀ x ∈ p1, x.block < W.heap.size := by obtain ⟨m, hm⟩ := k1; exact DataW.trod_lt m _ _ _ hm
  obtain ⟨m1, n1, q1, rfl, w1⟩ := nd_open (hval 1 47 v1 rfl rfl) h1
  clear hA0 hval0
  refine (walkExactRecordChoice W a0 len0 cap0 z0 l0 w0 m0 m1 n1 q1 w1 (tab_of hL)).mono fun e W' ⟨he, bel⟩ => ?_
  subst he
  exact ⟨_, rfl, _, _, _, [], _, [], hW', trodAll_mk1 (shut_bool Tryd.underlying4 _), (trodAll_cons_mk (Below.trod laidOut (by kernel_rfl) (of_decide_eq_true (by kernel_rfl)) k0 bel lt0) (trodAll_cons_mk (Below.trod laidOut (by kernel_rfl) (of_decide_eq_true (by kernel_rfl)) k1 bel lt1) trodAll_mk0)), rfl, bel.frame _, fun h => by cases h⟩
theorem over : Rows.fnExactRecordChoiceRow.holds Tryd.pinned (OpenSpec.ofChange Rows.fnExactRecordChoiceSpec) :=
  OpenClaim.holds_of_wide 6 Tryd.f6 rfl rfl rfl rfl rfl rfl rfl ⟨rfl, rfl, rfl, rfl, rfl⟩ rfl rfl rfl rfl rfl (by kernel_rfl) Tryd.func6 (by kernel_rfl)
    (of_decide_eq_true (by kernel_rfl)) (by unfold Func.isWrapper; first | (rw [if_pos (by decide +kernel)]; kernel_rfl) | (rw [if_neg (by decide +kernel)]; exact ⟨rfl, rfl⟩))
    (fun os started H enc _ => lifted os started H enc)
theorem proved : Rows.FnExactRecordChoiceCardSaid :=
  Claim7.holds_tied_plain_at .later [] [.data, .data] true Rows.fnExactRecordChoiceCard.stood.harness false over (fun _ h => by cases h) (by kernel_rfl) (fun _ h => by cases h) fnExactRecordChoice_row_tie rfl ⟨rfl, rfl⟩ (by kernel_rfl) rfl
    (fun f fn hf hfn => by
      obtain rfl : f = 6 := Option.some.inj ((show Tryd.prog.funcNamed "loop.example/quoin/laws.FnExactRecordChoice" = some 6 by kernel_rfl).symm.trans hf) |>.symm
      obtain rfl : fn = Tryd.f6 := (Option.some.inj (Tryd.func6.symm.trans hfn)).symm
      exact ⟨by kernel_rfl, fun j t ht => by
        rw [Tryd.params6] at ht
        have hm : t ∈ [44, 47] := by simpa using Array.mem_of_getElem? ht
        have hall : ([44, 47].all fun u => !Tryd.prog.wantsStandIn u) = true := by kernel_rfl
        exact (show Tryd.prog.wantsStandIn t = false by simpa using List.all_eq_true.1 hall t hm)⟩)
    (by kernel_rfl)
end Go.Proofs.YtfiiopchfmcjdabDoor.fnExactRecordChoice
