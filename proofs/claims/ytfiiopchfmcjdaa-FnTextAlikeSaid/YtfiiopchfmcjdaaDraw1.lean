/- The specification's drawer: of. -/
import Derived.Test.YtfiiopchfmcjdaaDrawO
namespace Go.Proofs.Ytfiiopchfmcjdaa
open Go.RowKit
set_option maxHeartbeats 1000000 in
theorem of_any (R n g len cap : Nat) (S : ByteArray → Prop) (vs : List Value) (w : World) (h : Rd w R n) (hn : n ≤ 1000000) (hl : Lits w g vs) (hS : ∀ v ∈ vs, ∃ x, v = .string x ∧ S x) (hg : g ≠ R) (hlen : vs.length = len) (hp : 0 < len) (h1 : len ≤ 1000) :
    Calls Try.prog 40 #[.pointer (some ⟨R, 0, none⟩), .slice (some ⟨g, 0, none⟩) len cap] w (StrP S R (n + 1) w) := by
  have HL := Lib.hid hlen
  have HS := Lib.hid hS
  clear hlen hS
  go_enter Try.func40, Try.ntmps40
  go_wp2_with fail
  refine (pick_any R n _ _ h hn).mono ?_
  rintro e w1 ⟨v, ⟨hv0, hv1⟩, rfl, hpk⟩
  have hv : v < len := by omega
  obtain ⟨k, rfl⟩ := Int.eq_ofNat_of_zero_le hv0
  have hk : k < vs.length := by rw [HL.out]; omega
  obtain ⟨x, hx, hm⟩ := HS.out vs[k] (List.getElem_mem hk)
  have hc : w1.cell? ⟨g, k, none⟩ = some (.string x) := (hl.keeps hpk.2 hg).2 k _ (by rw [List.getElem?_eq_getElem hk, hx])
  clear hk hv1 hx
  go_wp2
  go_ret
  exact ⟨x, hm, rfl, hpk⟩
end Go.Proofs.Ytfiiopchfmcjdaa
