/- impl's wordAt: a word of words (for a seat without the small tests). -/
import Derived.Test.YtliiffpegfkpbaaIsWords
import Derived.Test.YtliiffpegfkpbaaWd
import Derived.Test.YtliiffpegfkpbaaMath1
import Derived.WalkKit
import Derived.WalkSpells
import Derived.WalkLawsBesides
import Derived.Deep.QuietTactic
import Derived.BigQuiet
import Derived.Lib.Hide
import Derived.Deep.RegionLaw
namespace Go.Proofs.Ytliiffpegfkpbaa
open Go.RowKit

set_option maxHeartbeats 400000 in
theorem wordAt_any (s : ByteArray) (i : Int) (w : World) (hs : s.size ≤ maxLen) (h0 : 0 ≤ i) (hi : 8 * i + 8 ≤ s.size) :
    Calls Try.prog 33 #[.string s, .int .i64 i] w fun e w' => e = .returned (.agg (wd ((s.data.toList.drop (8 * i.toNat)).take 8))) ∧ Below w.heap.size w w' := by
  obtain ⟨i, rfl⟩ := Int.eq_ofNat_of_zero_le h0
  unfold maxLen at hs
  have ewd : (s.extract (i * 8) s.size).data.toList.take 8 = (s.data.toList.drop (8 * (i : Int).toNat)).take 8 := by
    rw [Lib.extract_data, Nat.mul_comm]
    congr 2
    simp [List.take_of_length_le]
  have hsz : 8 ≤ (s.extract (i * 8) s.size).size := by simp; omega
  have hlen : ((s.extract (i * 8) s.size).data.toList.take 8).length = 8 := by simp; omega
  generalize hl : (s.extract (i * 8) s.size).data.toList.take 8 = l at ewd hlen
  rw [← ewd]
  have HL := Lib.hid hl
  clear ewd hl
  go_enter Try.func33, Try.ntmps33
  go_wp2
  have e1 : IntKind.i64.wrap ((i : Int) * 8) = (i : Int) * 8 := by rw [IntKind.wrap_i64]; omega
  have e2 : (0 : Int) ≤ (i : Int) * 8 := by omega
  have e3 : (i : Int) * 8 ≤ (s.size : Int) := by omega
  have e4 : ((i : Int) * 8).toNat = i * 8 := by omega
  go_region_law (refine step_copy_string_ge rfl (.tmp 6) (.tmp 10) 22 9 rfl 5 Try.underlying22 size5 (w.heap.size + 1) 8 8 (s.extract (i * 8) s.size) _ 48 rfl (by simp [Act.eval, Act.put]) (by simp [Act.eval, Act.put]) (heap_alloc2_new w _ _) hsz ?_; intro w4 hg4 hb4)
  clear e1 e2 e3 e4
  have hA : Hid (w4.heap[w.heap.size]? = some (.cells #[.int .u8 0, .int .u8 0, .int .u8 0, .int .u8 0, .int .u8 0, .int .u8 0, .int .u8 0, .int .u8 0] 48 (0, 0))) :=
    (hb4.out.block w.heap.size (by simp; omega) (by simp)).trans (heap_alloc2_old w _ _)
  have hB : Hid (Below w.heap.size w w4) := ((Below.refl _ _).alloc (Nat.le_refl _) _ |>.alloc (by simp) _ |>.drew).grown hb4.out (by simp; omega) (fun k e => by cases e; simp)
  clear hb4
  have hG : Hid (w4.heap[w.heap.size + 1]? = some (.cells (wd l) 48 (0, 0))) := by rw [← HL.out]; exact hg4.out
  have hlen := Lib.hid hlen
  clear hg4 HL
  go_wp2_with (first | (refine wpList_load_wd rfl 48 (.tmp 5) rfl (w.heap.size + 1) rfl 48 l _ hG.out Try.underlying48 rfl (by rw [hlen.out]; exact size46) ?_) | (refine wpList_store_wd rfl 48 (.tmp 4) (.tmp 12) rfl w.heap.size l rfl rfl 48 _ hA.out (by rw [hlen.out]; exact size46) (by rw [hlen.out]; rfl) ?_; intro w5 hg5 hb5))
  refine bodyPost_ret (v := .agg (wd l)) ?_ rfl ⟨rfl, hB.out.grown hb5.out (by have := hB.out.size; omega) (fun k e => by cases e; simp)⟩
  exact results_cell_row rfl _ _ w.heap.size 48 _ (0, 0) _ rfl hg5.out Try.underlying48 rfl (by rw [wd_size, hlen.out]; exact size46)

end Go.Proofs.Ytliiffpegfkpbaa
