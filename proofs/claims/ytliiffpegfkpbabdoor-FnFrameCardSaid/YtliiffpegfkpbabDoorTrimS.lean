/- the specification's l1Zero. -/
import Derived.Test.YtliiffpegfkpbabDoorIn
import Derived.Test.YtliiffpegfkpbabDoorMath1
import Derived.Deep.QuietTactic
import Derived.BigQuiet
namespace Go.Proofs.YtliiffpegfkpbabDoor
open Go.RowKit
def zerB (l : List UInt8) : Bool := l.all (· == 0)
set_option maxHeartbeats 400000 in
theorem l1Zero_any (s : ByteArray) (w : World) (hs : s.size ≤ maxLen) :
    Calls Tryd.prog 43 #[.string s] w fun e w' => e = .returned (.bool (zerB s.data.toList)) ∧ w = w' := by
  unfold maxLen at hs
  have hl : s.data.toList.length = s.size := by simp
  have HL := Lib.hid hl
  clear hl
  go_enter Tryd.func43, Tryd.ntmps43
  go_wp2
  go_loop [3] (fun i => ∃ k : Nat, k ≤ s.size ∧ i = .int .i64 (k : Int) ∧ ∀ j, j < k → s.data.toList[j]?.getD 0 = 0) (fun i => (s.size - intOf i).toNat)
  case atStart => exact ⟨0, by omega, by simp, fun j hj => by omega⟩
  case round =>
    obtain ⟨k, hk, rfl, hz⟩ := hrel
    have HZ := Lib.hid hz
    clear hz
    by_cases hlt : k < s.size
    · have hg := bytes_get s k hlt
      have HG := Lib.hid hg
      clear hg
      by_cases hb : s[k] = 0
      · have hb' : (((s[k]).toNat : Int) == 0) = true := by simp [hb]
        have HB := Lib.hid hb
        clear hb
        go_wp2
        go_round
        case rel =>
          refine ⟨k + 1, by omega, by go_num, fun j hj => ?_⟩
          by_cases hjk : j < k
          · exact HZ.out j hjk
          · obtain rfl : j = k := by omega
            rw [HG.out, HB.out]
        case measure => simp [intOf]; omega
      · have hb' : (((s[k]).toNat : Int) == 0) = false := by
          rw [beq_eq_false_iff_ne]
          intro h
          exact hb (UInt8.toNat_inj.1 (by simpa using h))
        have HB := Lib.hid hb
        clear hb
        go_wp2
        go_ret
        refine ⟨ret_bool ?_, rfl⟩
        rw [eq_comm, zerB, List.all_eq_false]
        refine ⟨s[k], ?_, by simpa using HB.out⟩
        rw [← HG.out, List.getElem?_eq_getElem (by rw [HL.out]; exact hlt)]
        exact List.getElem_mem _
    · go_wp2
      go_ret
      refine ⟨ret_bool ?_, rfl⟩
      rw [eq_comm, zerB, List.all_eq_true]
      intro x hx
      obtain ⟨j, hj, rfl⟩ := List.mem_iff_getElem.1 hx
      have := HZ.out j (by rw [HL.out] at hj; omega)
      rw [List.getElem?_eq_getElem hj] at this
      simpa using this
/-- how many of the first k words are left when words of noughts are taken from their end. -/
def trimN (l : List UInt8) : Nat → Nat
  | 0 => 0
  | k + 1 => if zerB ((l.drop (8 * k)).take 8) then trimN l k else k + 1
theorem trimN_le (l : List UInt8) : ∀ k, trimN l k ≤ k
  | 0 => Nat.le_refl _
  | k + 1 => by
    unfold trimN
    split
    · have := trimN_le l k; omega
    · omega
end Go.Proofs.YtliiffpegfkpbabDoor
