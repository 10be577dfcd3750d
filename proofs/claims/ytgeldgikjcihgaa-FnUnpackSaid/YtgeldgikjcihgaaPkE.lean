/- impl's packer: the run of its states. -/
import Derived.Test.YtgeldgikjcihgaaPkD
import Derived.Test.YtgeldgikjcihgaaUnpack
namespace Go.Proofs.Ytgeldgikjcihgaa
open Go.RowKit
theorem PJ.ended {R : List UInt8} {B b k : Nat} {w : World} (h : PJ R B b k .nilFunc w) : ∃ v ws, PS B b R v ws w := by
  obtain ⟨out, v, ws, hp, _, h | h | h | h⟩ := h
  · cases h.1
  · cases h.1
  · cases h.1
  · exact ⟨v, ws, h.2 ▸ hp⟩
set_option maxHeartbeats 2000000 in
theorem prun_any (R : List UInt8) (B b k : Nat) (v : Value) (w : World) (h : PJ R B b k v w) (hBw : B ≤ w.heap.size) (hRl : R.length ≤ 100000) :
    Calls Try.prog 39 #[v] w fun e w' => e = .returned (.tuple #[]) ∧ (∃ k', PJ R B b k' .nilFunc w') ∧ Keeps B b w w' := by
  have H := Lib.hid h
  clear h
  go_enter Try.func39, Try.ntmps39
  go_wp2_with fail
  go_loopg [0] k (fun k s wr => Hid (PJ R B b k s wr) ∧ Hid (Keeps B b w wr))
  case atStart => exact ⟨H, Keeps.refl _ _ _⟩
  case round =>
    obtain ⟨HJ, HK⟩ := hrel
    have hB := Nat.le_trans hBw HK.out.size
    obtain ⟨out, v0, ws, hp, hl, ⟨rfl, hR, hk⟩ | ⟨rfl, hR, hk⟩ | ⟨rfl, hR, hk⟩ | ⟨rfl, hR⟩⟩ := HJ.out
    · have HN := Lib.hid (ptag_next R B b gk out v0 ws wr hp hl hR hk hRl hB)
      clear hp hR hk HJ
      unfold pTag
      have hneq := neq_fn
      go_wp2_with fail
      refine HN.out.mono ?_
      rintro e w4 ⟨v, k', hk', rfl, hj4, hk4⟩
      have HJ4 := Lib.hid hj4
      have HK4 := Lib.hid (HK.out.trans hk4)
      clear hj4 hk4
      go_wp2
      go_roundg k'
      case measure => exact hk'
      case rel => exact ⟨HJ4, HK4⟩
    · have HN := Lib.hid (pnou_next R B b gk out v0 ws wr hp hl hR hk hRl hB)
      clear hp hR hk HJ
      unfold pNou
      have hneq := neq_fn
      go_wp2_with fail
      refine HN.out.mono ?_
      rintro e w4 ⟨v, k', hk', rfl, hj4, hk4⟩
      have HJ4 := Lib.hid hj4
      have HK4 := Lib.hid (HK.out.trans hk4)
      clear hj4 hk4
      go_wp2
      go_roundg k'
      case measure => exact hk'
      case rel => exact ⟨HJ4, HK4⟩
    · have HN := Lib.hid (ppla_next R B b gk out v0 ws wr hp hl hR hk hRl hB)
      clear hp hR hk HJ
      unfold pPla
      have hneq := neq_fn
      go_wp2_with fail
      refine HN.out.mono ?_
      rintro e w4 ⟨v, k', hk', rfl, hj4, hk4⟩
      have HJ4 := Lib.hid hj4
      have HK4 := Lib.hid (HK.out.trans hk4)
      clear hj4 hk4
      go_wp2
      go_roundg k'
      case measure => exact hk'
      case rel => exact ⟨HJ4, HK4⟩
    · clear hp hR
      have hneq := neq_nil
      go_wp2
      go_end0
      exact ⟨rfl, ⟨gk, HJ.out⟩, HK.out⟩
end Go.Proofs.Ytgeldgikjcihgaa
