/- the specification's l1Ok, l1Size, l1Get and Get: what they answer. -/
import Derived.Test.YtliiffpegfkpbabDoorWd
namespace Go.Proofs.YtliiffpegfkpbabDoor
open Go.RowKit

set_option maxHeartbeats 400000 in
theorem l1Get_any (s : ByteArray) (at_ size : Int) (w : World) (hs : s.size ≤ maxLen) (h0 : 0 ≤ at_) (ha : at_ ≤ 1152921504606846976) (h1 : 0 ≤ size) (h2 : size ≤ 8) :
    Calls Tryd.prog 42 #[.string s, .int .i64 at_, .int .i64 size] w fun e w' => e = .returned (.int .i64 (wrap64 (leN s.data.toList at_.toNat size.toNat : Nat))) ∧ w = w' := by
  unfold maxLen at hs
  obtain ⟨a, rfl⟩ := Int.eq_ofNat_of_zero_le h0
  obtain ⟨z, rfl⟩ := Int.eq_ofNat_of_zero_le h1
  go_enter Tryd.func42, Tryd.ntmps42
  go_wp2
  go_loop [7, 8, 9] (fun n i _ => ∃ k : Nat, k ≤ z ∧ i = .int .i64 ((z : Int) - 1 - k) ∧ n = .int .i64 (wrap64 (leN s.data.toList (a + z - k) k : Nat))) (fun _ i _ => (intOf i + 1).toNat)
  case atStart => exact ⟨0, by omega, by simp, by simp [leN, wrap64]⟩
  case round =>
    obtain ⟨k, hk, rfl, rfl⟩ := hrel
    by_cases hlt : k < z
    · by_cases hin : a + z - 1 - k < s.size
      · go_wp2
        go_round
        case rel => exact ⟨k + 1, by omega, by go_num, by rw [get_round s a z k hlt (by omega) (by omega)]⟩
        case measure => simp [intOf]; omega
      · go_wp2
        go_round
        case rel => exact ⟨k + 1, by omega, by go_num, by rw [get_round_out s a z k hlt (by omega) hin]⟩
        case measure => simp [intOf]; omega
    · go_wp2
      go_ret
      refine ⟨ret_int ?_, rfl⟩
      obtain rfl : k = z := by omega
      simp
end Go.Proofs.YtliiffpegfkpbabDoor
