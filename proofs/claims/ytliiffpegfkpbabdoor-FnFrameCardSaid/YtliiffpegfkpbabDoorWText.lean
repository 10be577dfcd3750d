/- impl's word.text: the bytes of a word. -/
import Derived.Test.YtliiffpegfkpbabDoorMath2
import Derived.Test.YtliiffpegfkpbabDoorWd
namespace Go.Proofs.YtliiffpegfkpbabDoor
open Go.RowKit

set_option maxHeartbeats 400000 in
theorem text_any (l : List UInt8) (w : World) (hl : l.length = 8) :
    Calls Tryd.prog 53 #[.agg (wd l)] w fun e w' => e = .returned (.string ⟨l.toArray⟩) ∧ Below w.heap.size w w' := by
  have hrow := heap_alloc_new w (.cells (wd l) 78)
  have hcv : (convert 22 9 (.slice (some ⟨w.heap.size, 0, none⟩) 8 8)).run Tryd.prog (w.alloc (.cells (wd l) 78)) = .ok (.string ⟨l.toArray⟩) (w.alloc (.cells (wd l) 78)) := by
    exact convert_wd _ _ _ _ _ _ 8 l hl Tryd.underlying22 Tryd.underlying5 Tryd.underlying9 hrow (by rw [List.take_of_length_le (by simp [wd, Lib.byteCells_length, hl])]; simp [wd])
  have HL := Lib.hid hl
  clear hl hrow
  go_enter Tryd.func53, Tryd.ntmps53
  go_wp2
  go_ret
  exact ⟨rfl, (Below.refl _ _).alloc (Nat.le_refl _) _⟩
theorem text_lit (b0 b1 b2 b3 b4 b5 b6 b7 : UInt8) (w : World) :
    Calls Tryd.prog 53 #[.agg #[.int .u8 b0.toNat, .int .u8 b1.toNat, .int .u8 b2.toNat, .int .u8 b3.toNat, .int .u8 b4.toNat, .int .u8 b5.toNat, .int .u8 b6.toNat, .int .u8 b7.toNat]] w fun e w' =>
      e = .returned (.string ⟨#[b0, b1, b2, b3, b4, b5, b6, b7]⟩) ∧ Below w.heap.size w w' := text_any [b0, b1, b2, b3, b4, b5, b6, b7] w rfl
end Go.Proofs.YtliiffpegfkpbabDoor
