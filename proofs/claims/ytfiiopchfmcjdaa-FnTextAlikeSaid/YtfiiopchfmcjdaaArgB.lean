/- An argument of bytes. -/
import Derived.Test.YtfiiopchfmcjdaaDrawO
import Derived.OpenShut
namespace Go.Proofs.Ytfiiopchfmcjdaa
open Go.RowKit
/-- an argument of bytes. -/
def Arg (w : World) (a : Option Addr) (len cap : Nat) : Prop := Code w w.heap.size a len ∧ len ≤ cap ∧ (a = none → len = 0)
theorem Arg.below {w w' : World} {a : Option Addr} {len cap : Nat} (h : Arg w a len cap) (hb : Below w.heap.size w w') : Arg w' a len cap :=
  ⟨(h.1.keeps (R := w.heap.size) (Keeps.of_below hb) (Nat.le_refl _) (Nat.le_refl _)).mono hb.size, h.2⟩
theorem opened_below {w w1 w2 : World} {R n : Nat} (hR : w.heap.size ≤ R) (hb : Below w.heap.size w w1) (hp : Picked w1 R n w2) : Below w.heap.size w w2 :=
  hb.trans (hp.2.below hb.size hR)
theorem arg_nil (w : World) : Arg w none 0 0 := ⟨⟨by decide, .inl rfl⟩, Nat.le_refl _, fun _ => rfl⟩
theorem wf_u8 {n : Int} (h : (Lit.int .u8 n).wf = true) : ∃ b : UInt8, n = (b.toNat : Int) := by
  simp [Lit.wf, IntKind.min, IntKind.max, IntKind.bits, IntKind.signed] at h
  refine ⟨UInt8.ofNat n.toNat, ?_⟩
  rw [UInt8.toNat_ofNat']
  omega
theorem arg_row {w : World} {x : Addr} {l c : Nat} {zs : List Int} (hl : l ≤ c) (hm : c ≤ maxLen) (hz : zs.length = c) (hcell : ∀ i, i < zs.length → w.cell? (x.add i) = some (.int .u8 (zs.getD i 0))) (hwz : ∀ n ∈ zs, (Lit.int .u8 n).wf = true) :
    Arg w (some x) l c := by
  refine ⟨⟨Nat.le_trans hl hm, ?_⟩, hl, fun h => by cases h⟩
  by_cases h0 : l = 0
  · exact .inl h0
  · refine .inr ⟨x, rfl, ?_, fun i hi => ?_⟩
    · have h := World.block_lt_of_cell? w _ (hcell 0 (by omega))
      rwa [addr_block] at h
    · have hi' : i < zs.length := by omega
      obtain ⟨b, hb⟩ := wf_u8 (hwz zs[i] (List.getElem_mem hi'))
      refine ⟨b, ?_⟩
      rw [hcell i hi', List.getD, List.getElem?_eq_getElem hi', ← hb]
      rfl
end Go.Proofs.Ytfiiopchfmcjdaa
