/- the specification's l3Tag, l3Few. -/
import Derived.Test.YtgeldgikjcihgaaTrimS
import Derived.Test.YtgeldgikjcihgaaPkA
namespace Go.Proofs.Ytgeldgikjcihgaa
open Go.RowKit
theorem or_bit_i64 (m k : Nat) (hm : m < 2 ^ k) (hk : k < 8) : bits .or .i64 (m : Int) ((2 ^ k : Nat) : Int) = ((m + 2 ^ k : Nat) : Int) := by
  have h2 : 2 ^ k ≤ 2 ^ 7 := Nat.pow_le_pow_right (by decide) (by omega)
  have e7 : (2 : Nat) ^ 7 = 128 := rfl
  have hor : m ||| 2 ^ k = m + 2 ^ k := by
    have := Nat.two_pow_add_eq_or_of_lt hm 1
    rw [Nat.mul_one] at this
    rw [Nat.or_comm, ← this]
    omega
  show IntKind.i64.wrap ((BitVec.ofInt 64 (m : Int) ||| BitVec.ofInt 64 ((2 ^ k : Nat) : Int)).toNat : Int) = _
  rw [BitVec.toNat_or, BitVec.ofInt_natCast, BitVec.ofInt_natCast, BitVec.toNat_ofNat, BitVec.toNat_ofNat, Nat.mod_eq_of_lt (by omega), Nat.mod_eq_of_lt (by omega), hor]
  rw [IntKind.wrap_i64]
  omega
theorem shl64 (k : Nat) (hk : k < 8) : IntKind.i64.wrap ((2 : Int) ^ k) = ((2 ^ k : Nat) : Int) := by
  have h : k = 0 ∨ k = 1 ∨ k = 2 ∨ k = 3 ∨ k = 4 ∨ k = 5 ∨ k = 6 ∨ k = 7 := by omega
  rcases h with rfl | rfl | rfl | rfl | rfl | rfl | rfl | rfl <;> rfl
set_option maxRecDepth 100000 in
set_option maxHeartbeats 2000000 in
theorem l3Tag_any (s : ByteArray) (w : World) (hs : s.size = 8) :
    Calls Try.prog 64 #[.string s] w fun e w' => e = .returned (.int .i64 (maskN s.data.toList : Nat)) ∧ w = w' := by
  have hl : s.data.toList.length = 8 := by simp [hs]
  have HL := Lib.hid hl
  clear hl
  go_enter Try.func64, Try.ntmps64
  go_wp2
  go_loop [3, 4] (fun m i => ∃ k : Nat, k ≤ 8 ∧ i = .int .i64 k ∧ m = .int .i64 (maskN (s.data.toList.take k) : Nat)) (fun _ i => 8 - (intOf i).toNat)
  case atStart => exact ⟨0, by omega, rfl, rfl⟩
  case round =>
    obtain ⟨k, hk, rfl, rfl⟩ := hrel
    have hm1 := maskN_lt (s.data.toList.take k)
    have hml : (s.data.toList.take k).length = k := by rw [List.length_take, HL.out]; omega
    rw [hml] at hm1
    by_cases hk1 : k < 8
    · have hst := maskN_take s.data.toList k (by rw [HL.out]; exact hk1)
      have hlt : k < s.size := by omega
      rw [bytes_get s k hlt] at hst
      have hor := or_bit_i64 (maskN (s.data.toList.take k)) k hm1 hk1
      have hsh := shl64 k hk1
      have HST := Lib.hid hst
      generalize maskN (s.data.toList.take k) = M at hor HST ⊢
      clear hst hm1 hml
      by_cases hz : s[k] = 0
      · have hz1 : (((s[k]).toNat : Int) == 0) = true := by rw [hz]; rfl
        have hz2 : (((s[k]).toNat : Int) != 0) = false := by rw [hz]; rfl
        have HZ := Lib.hid hz
        clear hz hor hsh
        go_wp2
        go_round
        case rel => exact ⟨k + 1, by omega, by go_num, by rw [HST.out, if_pos HZ.out]; rfl⟩
        case measure => simp [intOf]; omega
      · have hz1 : (((s[k]).toNat : Int) == 0) = false := by
          rw [beq_eq_false_iff_ne]; intro h; exact hz (UInt8.toNat_inj.1 (show (s[k]).toNat = 0 by omega))
        have hz2 : (((s[k]).toNat : Int) != 0) = true := by simp [bne, hz1]
        have HZ := Lib.hid hz
        clear hz
        go_wp2
        go_round
        case rel => exact ⟨k + 1, by omega, by go_num, by rw [HST.out, if_neg HZ.out, ← hor]; simp [hsh]⟩
        case measure => simp [intOf]; omega
    · obtain rfl : k = 8 := by omega
      have hall : s.data.toList.take 8 = s.data.toList := List.take_of_length_le (by rw [HL.out]; exact Nat.le_refl _)
      rw [hall]
      clear hm1 hml hall
      go_wp2
      go_ret
      exact ⟨rfl, rfl⟩
theorem few_take (l : List UInt8) (k : Nat) (h : k < l.length) : ((l.take (k + 1)).filter (· == 0)).length = ((l.take k).filter (· == 0)).length + (if l[k]?.getD 0 = 0 then 1 else 0) := by
  rw [List.take_succ_eq_append_getElem h, List.filter_append, List.length_append, List.getElem?_eq_getElem h, Option.getD_some]
  by_cases hz : l[k] = 0 <;> simp [hz]
set_option maxRecDepth 100000 in
set_option maxHeartbeats 2000000 in
theorem l3Few_any (s : ByteArray) (w : World) (hs : s.size = 8) :
    Calls Try.prog 66 #[.string s] w fun e w' => e = .returned (.bool (!(fewL s.data.toList))) ∧ w = w' := by
  have hl : s.data.toList.length = 8 := by simp [hs]
  have HL := Lib.hid hl
  clear hl
  go_enter Try.func66, Try.ntmps66
  go_wp2
  go_loop [3, 4] (fun m i => ∃ k : Nat, k ≤ 8 ∧ i = .int .i64 k ∧ m = .int .i64 (((s.data.toList.take k).filter (· == 0)).length : Nat)) (fun _ i => 8 - (intOf i).toNat)
  case atStart => exact ⟨0, by omega, rfl, rfl⟩
  case round =>
    obtain ⟨k, hk, rfl, rfl⟩ := hrel
    by_cases hk1 : k < 8
    · have hst := few_take s.data.toList k (by rw [HL.out]; exact hk1)
      have hlt : k < s.size := by omega
      rw [bytes_get s k hlt] at hst
      have hle : ((s.data.toList.take k).filter (· == 0)).length ≤ 8 := Nat.le_trans (List.length_filter_le _ _) (by rw [List.length_take]; omega)
      have HST := Lib.hid hst
      generalize ((s.data.toList.take k).filter (· == 0)).length = M at hle HST ⊢
      clear hst
      by_cases hz : s[k] = 0
      · have hz1 : (((s[k]).toNat : Int) == 0) = true := by rw [hz]; rfl
        have HZ := Lib.hid hz
        clear hz
        go_wp2
        go_round
        case rel => exact ⟨k + 1, by omega, by go_num, by rw [HST.out, if_pos HZ.out]; go_num⟩
        case measure => simp [intOf]; omega
      · have hz1 : (((s[k]).toNat : Int) == 0) = false := by
          rw [beq_eq_false_iff_ne]; intro h; exact hz (UInt8.toNat_inj.1 (show (s[k]).toNat = 0 by omega))
        have HZ := Lib.hid hz
        clear hz
        go_wp2
        go_round
        case rel => exact ⟨k + 1, by omega, by go_num, by rw [HST.out, if_neg HZ.out]; rfl⟩
        case measure => simp [intOf]; omega
    · obtain rfl : k = 8 := by omega
      have hall : s.data.toList.take 8 = s.data.toList := List.take_of_length_le (by rw [HL.out]; exact Nat.le_refl _)
      rw [hall]
      clear hall
      go_wp2
      go_ret
      refine ⟨ret_bool ?_, rfl⟩
      rw [fewL]
      generalize (s.data.toList.filter (· == 0)).length = M
      by_cases h : M ≤ 1
      · rw [decide_eq_true h]; simp; omega
      · rw [decide_eq_false h]; simp; omega
end Go.Proofs.Ytgeldgikjcihgaa
