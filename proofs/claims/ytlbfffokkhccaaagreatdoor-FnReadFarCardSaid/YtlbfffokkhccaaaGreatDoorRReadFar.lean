/- The law FnReadFar answers true at every argument, and every argument reads afterwards as it read before. No condition. -/
import Derived.Test.YtlbfffokkhccaaaGreatDoorRows
import Derived.Test.YtlbfffokkhccaaaGreatDoorMReadFar00
import Derived.Test.YtlbfffokkhccaaaGreatDoorMReadFar01
import Derived.Test.YtlbfffokkhccaaaGreatDoorMReadFar02
import Derived.Test.YtlbfffokkhccaaaGreatDoorMReadFar03
import Derived.Test.YtlbfffokkhccaaaGreatDoorMReadFar04
import Derived.Test.YtlbfffokkhccaaaGreatDoorMReadFar05
import Derived.Test.YtlbfffokkhccaaaGreatDoorMReadFar06
import Derived.Test.YtlbfffokkhccaaaGreatDoorMReadFar07
import Derived.Test.YtlbfffokkhccaaaGreatDoorMReadFar08
import Derived.Test.YtlbfffokkhccaaaGreatDoorMReadFar09
import Derived.Test.YtlbfffokkhccaaaGreatDoorMReadFar10
import Derived.Test.YtlbfffokkhccaaaGreatDoorMReadFar11
import Derived.Test.YtlbfffokkhccaaaGreatDoorMReadFar12
import Derived.Test.YtlbfffokkhccaaaGreatDoorMReadFar13
import Derived.Test.YtlbfffokkhccaaaGreatDoorMReadFar14
import Derived.Test.YtlbfffokkhccaaaGreatDoorMReadFar15
import Derived.Test.YtlbfffokkhccaaaGreatDoorMReadFar16
import Derived.Test.YtlbfffokkhccaaaGreatDoorMReadFar17
import Derived.Test.YtlbfffokkhccaaaGreatDoorMReadFar18
import Derived.Test.YtlbfffokkhccaaaGreatDoorMReadFar19
import Derived.Test.YtlbfffokkhccaaaGreatDoorMReadFar20
import Derived.Test.YtlbfffokkhccaaaGreatDoorMReadFar21
import Derived.Test.YtlbfffokkhccaaaGreatDoorMReadFar22
import Derived.Test.YtlbfffokkhccaaaGreatDoorMReadFar23
import Derived.Test.YtlbfffokkhccaaaGreatDoorMReadFar24
import Derived.Test.YtlbfffokkhccaaaGreatDoorMReadFar25
import Derived.Test.YtlbfffokkhccaaaGreatDoorMReadFar26
import Derived.Test.YtlbfffokkhccaaaGreatDoorMReadFar27
import Derived.Test.YtlbfffokkhccaaaGreatDoorMReadFar28
import Derived.Test.YtlbfffokkhccaaaGreatDoorMReadFar29
import Derived.Test.YtlbfffokkhccaaaGreatDoorMReadFar30
import Derived.Test.YtlbfffokkhccaaaGreatDoorMReadFar31
import Derived.Test.YtlbfffokkhccaaaGreatDoorMReadFar32
import Derived.Test.YtlbfffokkhccaaaGreatDoorMReadFar33
import Derived.Test.YtlbfffokkhccaaaGreatDoorMReadFar34
import Derived.Test.YtlbfffokkhccaaaGreatDoorMReadFar35
import Derived.Test.YtlbfffokkhccaaaGreatDoorMReadFar36
import Derived.Test.YtlbfffokkhccaaaGreatDoorMReadFar37
import Derived.WalkKit
import Derived.ProofKit
import Derived.OpenShut
import Derived.ShutString
import Derived.Test.YtlbfffokkhccaaaGreatDoorTie
import Derived.Test.YtlbfffokkhccaaaGreatDoorCards
import Derived.LaidMore
import Derived.Lay
import Derived.SevenTiedAt
import Derived.Stop.Joined
import Derived.LaidHandle
import Derived.JoinedOf
namespace Go.Proofs.YtlbfffokkhccaaaGreatDoor.fnReadFar
open Go.ChangeShapes Go.WideShapes Go.ChangeAt Go.RowKit
open Go.ChangeMaps (open_string shut_string)
theorem own : ownKnob Tryz.prog.godebug = none := by kernel_rfl
theorem laidOut : laidOutB Tryz.prog = true := by kernel_rfl
noncomputable def laidWorld (os : Os) : World :=
  let w0 := World.holding Tryz.prog os ⟨#[], #[], []⟩
  { w0 with heap := w0.heap.modify 0 fun
      | .cells _ t frozen => .cells #[.iface 197 (.agg #[typeHandle Tryz.prog 69])] t frozen
      | o => o }
theorem laidWorld_met (os : Os) (args : Array Value) : laidMetH Tryz.prog Rows.fnReadFarRow.laid ((laidWorld os).forCall (fun _ _ => 0) ⟨#[], args, []⟩).memory :=
  laidMetH_of_parts (laidMet_nil _ _) (by kernel_rfl)
set_option maxRecDepth 100000 in
theorem lifted (os : Os) (started : os.Started) (H : Type) (enc : TypeId × Value → H) :
    ReturnsInHanded {} Tryz.checked os 6 .any (fun w args => (Rows.fnReadFarSpec.pre enc Tryz.prog Tryz.f6 Rows.fnReadFarRow.domain false w args ∧ laidMetH Tryz.prog Rows.fnReadFarRow.laid w) ∧ sizedMet enc Tryz.prog Tryz.f6 (OpenSpec.ofChange Rows.fnReadFarSpec) false w args)
      (Rows.fnReadFarSpec.post enc Tryz.prog Tryz.f6 false true false false) := by
  refine returnsInHanded_of_change_and (C := Tryz.checked) (X := fun w _ => laidMetH Tryz.prog Rows.fnReadFarRow.laid w) (fun _ _ _ hh h => h.of_heap hh) own started (by kernel_rfl) Tryz.func6
    (ChangeSpec.witness_at (enc := enc) (C := Tryz.checked) (os := os) (X := fun w _ => laidMetH Tryz.prog Rows.fnReadFarRow.laid w) false (laidWorld os) #[.slice none 0 0] 8 rfl (by kernel_rfl) (by kernel_rfl) (by kernel_rfl) (by kernel_rfl) (by kernel_rfl) (laidWorld_met os _)) ?_
  intro W base args ds gs before hval0 hW hcnd _ _ _
  have hval : ∀ (j : Nat) t v, Tryz.f6.params[j]? = some t → args[j]? = some v → Value.okWide Tryz.prog W .any base t v := hval0
  have hW' := hW
  obtain ⟨p, q, hA0, hV, rfl, hfz, hnd⟩ := hW
  have hA : DataW.TrodAll enc Tryz.prog W 0 (fun _ => true) true Tryz.f6.params.toList args.toList ds p := hA0
  rw [Tryz.params6] at hA hval
  obtain ⟨v0, vs0, d0, ds0, p0, q0, hargs, rfl, rfl, h0, r0⟩ := trodAll_cons hA
  obtain ⟨rfl, rfl, rfl⟩ := trodAll_nil r0
  obtain rfl : args = #[v0] := by cases args; simp_all
  obtain ⟨rfl, rfl⟩ := trodVars_none hV
  have k0 := h0
  have lt0 : ∀ x ∈ p0, x.block < W.heap.size := by obtain ⟨m, hm⟩ := k0; exact DataW.trod_lt m _ _ _ hm
  obtain ⟨a0, len0, cap0, rfl⟩ := okWide_slice Tryz.underlying22 (hval 0 22 v0 rfl rfl)
  have w0 : Arg W a0 len0 cap0 := by
    obtain ⟨fuel, hf⟩ := h0
    rcases open_ints Tryz.underlying22 Tryz.underlying5 (by kernel_rfl) hf with ⟨hcs, _⟩ | ⟨x, l, c, zs, hcs, _, hl, hm, hz, _, hcell, hwz⟩
    · simp [Value.cells] at hcs
      obtain ⟨rfl, rfl, rfl⟩ := hcs
      exact arg_nil W
    · simp [Value.cells] at hcs
      obtain ⟨rfl, rfl, rfl⟩ := hcs
      exact arg_row hl hm (by simpa using hz) hcell hwz
  clear hA0 hval0
  refine (walkReadFar W a0 len0 cap0 w0).mono fun e W' ⟨he, bel⟩ => ?_
  subst he
  exact ⟨_, rfl, _, _, _, [], _, [], hW', trodAll_mk1 (shut_bool Tryz.underlying4 _), (trodAll_cons_mk (Below.trod laidOut (by kernel_rfl) (of_decide_eq_true (by kernel_rfl)) k0 bel lt0) trodAll_mk0), rfl, bel.frame _, fun h => by cases h⟩
theorem over : Rows.fnReadFarRow.holds Tryz.pinned (OpenSpec.ofChange Rows.fnReadFarSpec) :=
  OpenClaim.holds_of_wide 6 Tryz.f6 rfl rfl rfl rfl rfl rfl rfl ⟨rfl, rfl, rfl, rfl, rfl⟩ rfl rfl rfl rfl rfl (by kernel_rfl) Tryz.func6 (by kernel_rfl)
    (of_decide_eq_true (by kernel_rfl)) (by unfold Func.isWrapper; first | (rw [if_pos (by decide +kernel)]; kernel_rfl) | (rw [if_neg (by decide +kernel)]; exact ⟨rfl, rfl⟩))
    (fun os started H enc _ => lifted os started H enc)
theorem proved : Rows.FnReadFarCardSaid :=
  Claim7.holds_tied_plain_at .later [] [.handle] true Rows.fnReadFarCard.stood.harness true over (fun _ h => by cases h) (by kernel_rfl) (fun _ h => by cases h) fnReadFar_row_tie rfl ⟨rfl, rfl⟩ (by kernel_rfl) rfl
    (fun f fn hf hfn => by
      obtain rfl : f = 6 := Option.some.inj ((show Tryz.prog.funcNamed "loop.example/quoin/laws.FnReadFar" = some 6 by kernel_rfl).symm.trans hf) |>.symm
      obtain rfl : fn = Tryz.f6 := (Option.some.inj (Tryz.func6.symm.trans hfn)).symm
      exact ⟨by kernel_rfl, fun j t ht => by
        rw [Tryz.params6] at ht
        have hm : t ∈ [22] := by simpa using Array.mem_of_getElem? ht
        have hall : ([22].all fun u => !Tryz.prog.wantsStandIn u) = true := by kernel_rfl
        exact (show Tryz.prog.wantsStandIn t = false by simpa using List.all_eq_true.1 hall t hm)⟩)
    (by kernel_rfl)
end Go.Proofs.YtlbfffokkhccaaaGreatDoor.fnReadFar
