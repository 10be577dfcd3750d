/- An argument of bytes, as it was opened. -/
import Derived.Test.YtialmfolgendlaaDraw3
import Derived.OpenShut
namespace Go.Proofs.Ytialmfolgendlaa
open Go.RowKit
theorem arg_nil (w : World) : Arg w none 0 0 := ⟨⟨by decide, .inl rfl⟩, Nat.le_refl _, fun _ => rfl⟩
theorem wf_u8 {n : Int} (h : (Lit.int .u8 n).wf = true) : ∃ b : UInt8, n = (b.toNat : Int) := by
  simp [Lit.wf, IntKind.min, IntKind.max, IntKind.bits, IntKind.signed] at h
  refine ⟨UInt8.ofNat n.toNat, ?_⟩
  rw [UInt8.toNat_ofNat']
  omega
theorem arg_row {w : World} {x : Addr} {l c : Nat} {zs : List Int} (hl : l ≤ c) (hm : c ≤ maxLen) (hz : zs.length = c) (hcell : ∀ i, i < zs.length → w.cell? (x.add i) = some (.int .u8 (zs.getD i 0))) (hwz : ∀ n ∈ zs, (Lit.int .u8 n).wf = true) :
    Arg w (some x) l c := by
  refine ⟨⟨Nat.le_trans hl hm, ?_⟩, hl, fun h => by cases h⟩
  by_cases h0 : l = 0
  · exact .inl h0
  · refine .inr ⟨x, rfl, ?_, fun i hi => ?_⟩
    · have h := World.block_lt_of_cell? w _ (hcell 0 (by omega))
      rwa [addr_block] at h
    · have hi' : i < zs.length := by omega
      obtain ⟨b, hb⟩ := wf_u8 (hwz zs[i] (List.getElem_mem hi'))
      refine ⟨b, ?_⟩
      rw [hcell i hi', List.getD, List.getElem?_eq_getElem hi', ← hb]
      rfl
end Go.Proofs.Ytialmfolgendlaa
