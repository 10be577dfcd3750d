/- The walks of the laws FnFramePart and FnFrameTwo: true at every code. -/
import Derived.Test.YtliiffpegfkpbabDoorDrawSeg
import Derived.Test.YtliiffpegfkpbabDoorFramePutS
import Derived.Test.YtliiffpegfkpbabDoorFrameGetI
import Derived.Test.YtliiffpegfkpbabDoorFrameGetS
import Derived.Test.YtliiffpegfkpbabDoorFgFrame
namespace Go.Proofs.YtliiffpegfkpbabDoor
open Go.RowKit
set_option maxHeartbeats 400000 in
theorem qnTexts_same (A B : Option Addr) (c d : Nat) (ss : List ByteArray) (w : World) (h : Strs w A ss) (k : Strs w B ss) (hn : ss.length ≤ 1048576) :
    Calls Tryd.prog 14 #[.slice A ss.length c, .slice B ss.length d] w fun e w' => e = .returned (.bool true) ∧ Below w.heap.size w w' := by
  have H := Lib.hid h
  have K := Lib.hid k
  clear h k
  go_enter Tryd.func14, Tryd.ntmps14
  go_wp2
  go_loopw [5] (fun i wr => ∃ k : Nat, k ≤ ss.length ∧ i = .int .i64 k ∧ Hid (Below w.heap.size w wr)) (fun i _ => ss.length - (intOf i).toNat)
  case atStart => exact ⟨0, by omega, rfl, Below.refl _ _⟩
  case round =>
    obtain ⟨k, hk, rfl, HB⟩ := hrel
    by_cases hk1 : k < ss.length
    · obtain ⟨a, rfl, _, hc⟩ := (H.out.below HB.out).2.resolve_left (by intro h; rw [h] at hk1; simp at hk1)
      obtain ⟨b, rfl, _, hd⟩ := (K.out.below HB.out).2.resolve_left (by intro h; rw [h] at hk1; simp at hk1)
      have hck := hc k hk1
      have hdk := hd k hk1
      clear hc hd
      have i0 : (0 : Int) ≤ k := by omega
      have i1 : (k : Int) < ss.length := by omega
      go_wp2
      go_quiet (fail)
      go_wp2
      go_roundw
      case rel => exact ⟨k + 1, by omega, by go_num, below_drawn HB.out _⟩
      case measure => simp [intOf]; omega
    · go_wp2
      go_ret
      exact ⟨rfl, HB.out⟩
end Go.Proofs.YtliiffpegfkpbabDoor
