/- impl's word.number. -/
import Derived.Test.YtliiffpegfkpbabDoorWd
namespace Go.Proofs.YtliiffpegfkpbabDoor
open Go.RowKit

set_option maxHeartbeats 400000 in
theorem number_any (l : List UInt8) (at_ size : Int) (w : World) (hl : l.length = 8) (h0 : 0 ≤ at_) (h1 : 0 ≤ size) (h2 : at_ + size ≤ 8) :
    Calls Tryd.prog 55 #[.agg (wd l), .int .i64 at_, .int .i64 size] w fun e w' => e = .returned (.int .u64 (leN l at_.toNat size.toNat : Nat)) ∧ Below w.heap.size w w' := by
  obtain ⟨a, rfl⟩ := Int.eq_ofNat_of_zero_le h0
  obtain ⟨z, rfl⟩ := Int.eq_ofNat_of_zero_le h1
  have hc := fun i (h : i < 8) => wd_cell w l 78 i (by omega)
  have HC := Lib.hid hc
  have HL := Lib.hid hl
  clear hc hl
  go_enter Tryd.func55, Tryd.ntmps55
  go_wp2
  go_loop [7, 8] (fun n i => ∃ k : Nat, k ≤ z ∧ i = .int .i64 ((a : Int) + z - 1 - k) ∧ n = .int .u64 (leN l (a + z - k) k : Nat)) (fun _ i => (intOf i + 1 - a).toNat)
  case atStart => exact ⟨0, by omega, by simp, by simp [leN]⟩
  case round =>
    obtain ⟨k, hk, rfl, rfl⟩ := hrel
    by_cases hlt : k < z
    · have hcell := HC.out (a + z - 1 - k) (by omega)
      go_wp2
      go_round
      case rel => exact ⟨k + 1, by omega, by go_num, by rw [number_step l a z k hlt (by omega)]⟩
      case measure => simp [intOf]; omega
    · go_wp2
      go_ret
      refine ⟨ret_int ?_, (Below.refl _ _).alloc (Nat.le_refl _) _⟩
      obtain rfl : k = z := by omega
      simp

end Go.Proofs.YtliiffpegfkpbabDoor
