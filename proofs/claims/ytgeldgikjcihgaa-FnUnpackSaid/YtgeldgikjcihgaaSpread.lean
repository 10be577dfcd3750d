/- impl.spread: the word that has some bytes where a mask tells so. -/
import Derived.Test.YtgeldgikjcihgaaMathPack
import Derived.Test.YtgeldgikjcihgaaWText
namespace Go.Proofs.Ytgeldgikjcihgaa
open Go.RowKit
theorem popN_succ : ∀ (k t : Nat), popN (k + 1) t = popN k t + t / 2 ^ k % 2
  | 0, t => by simp [popN]
  | k + 1, t => by
    rw [popN, popN_succ k (t / 2), popN, Nat.div_div_eq_div_mul, Nat.pow_succ, Nat.mul_comm (2 ^ k) 2]
    omega
theorem spreadN_succ : ∀ (k t : Nat) (bs : List UInt8), spreadN (k + 1) t bs = spreadN k t bs ++ [if t / 2 ^ k % 2 = 0 then 0 else (bs.drop (popN k t)).headD 0]
  | 0, t, bs => by
    rw [spreadN]
    simp only [spreadN, popN, List.drop_zero, Nat.pow_zero, Nat.div_one, List.nil_append]
    split <;> rfl
  | k + 1, t, bs => by
    have e : t / 2 ^ (k + 1) % 2 = t / 2 / 2 ^ k % 2 := by rw [Nat.div_div_eq_div_mul, Nat.pow_succ, Nat.mul_comm (2 ^ k) 2]
    have hL : spreadN (k + 1 + 1) t bs = if t % 2 = 0 then 0 :: spreadN (k + 1) (t / 2) bs else bs.headD 0 :: spreadN (k + 1) (t / 2) bs.tail := rfl
    have hR : spreadN (k + 1) t bs = if t % 2 = 0 then 0 :: spreadN k (t / 2) bs else bs.headD 0 :: spreadN k (t / 2) bs.tail := rfl
    rw [hL, hR, e, popN]
    by_cases h0 : t % 2 = 0
    · rw [if_pos h0, if_pos h0, spreadN_succ k (t / 2) bs, List.cons_append, h0, Nat.zero_add]
    · have h1 : t % 2 = 1 := by omega
      rw [if_neg h0, if_neg h0, spreadN_succ k (t / 2) bs.tail, List.cons_append, h1]
      have e2 : bs.tail.drop (popN k (t / 2)) = bs.drop (1 + popN k (t / 2)) := by rw [← List.drop_one, List.drop_drop]
      rw [e2]
theorem popN_mono (t : Nat) (k : Nat) : ∀ m, k ≤ m → popN k t ≤ popN m t := by
  intro m hm
  induction m with
  | zero => obtain rfl : k = 0 := by omega
            exact Nat.le_refl _
  | succ m ih =>
    by_cases hk : k = m + 1
    · rw [hk]; exact Nat.le_refl _
    · have := ih (by omega)
      rw [popN_succ]; omega
/-- a word under way: the first k bytes stand, the others are 0. -/
def spUp (k t : Nat) (bs : List UInt8) : List UInt8 := spreadN k t bs ++ List.replicate (8 - k) 0
theorem spUp_len (k t : Nat) (bs : List UInt8) (h : k ≤ 8) : (spUp k t bs).length = 8 := by simp [spUp, spreadN_length]; omega
theorem spUp_0 (t : Nat) (bs : List UInt8) : spUp 0 t bs = [0, 0, 0, 0, 0, 0, 0, 0] := rfl
theorem spUp_8 (t : Nat) (bs : List UInt8) : spUp 8 t bs = spreadN 8 t bs := by simp [spUp]
theorem spUp_step (k t : Nat) (bs : List UInt8) (h : k < 8) : spUp (k + 1) t bs = if t / 2 ^ k % 2 = 0 then spUp k t bs else (spUp k t bs).set k ((bs.drop (popN k t)).headD 0) := by
  have e : List.replicate (8 - k) (0 : UInt8) = 0 :: List.replicate (8 - (k + 1)) 0 := by
    rw [show 8 - k = (8 - (k + 1)) + 1 by omega]; rfl
  have hl := spreadN_length k t bs
  rw [spUp, spUp, spreadN_succ, e]
  split
  · simp
  · rw [List.set_append_right _ _ (by omega), hl, Nat.sub_self]
    simp
theorem and1_u8 (t k : Nat) (ht : t < 256) : bits .and .u8 ((t : Int) / 2 ^ k) 1 = ((t / 2 ^ k % 2 : Nat) : Int) := by
  have h := Nat.div_le_self t (2 ^ k)
  rw [div_cast, show (1 : Int) = ((1 : Nat) : Int) from rfl, u8_and_nat _ _ (by omega) (by omega), nat_mask1]
set_option maxHeartbeats 1000000 in
theorem spread_any (t : Nat) (s : ByteArray) (w : World) (ht : t < 256) (hs : s.size = popN 8 t) :
    Calls Try.prog 73 #[.int .u8 t, .string s] w fun e w' => e = .returned (.string ⟨(spreadN 8 t s.data.toList).toArray⟩) ∧ Below w.heap.size w w' := by
  have hsl : s.data.toList.length = s.size := rfl
  have HSL := Lib.hid hsl
  have hs8 : s.size ≤ 8 := by
    have h := fun k => Nat.mod_lt (t / 2 ^ k) (show 0 < 2 by decide)
    rw [hs, popN_succ, popN_succ, popN_succ, popN_succ, popN_succ, popN_succ, popN_succ, popN_succ, popN]
    have := h 0; have := h 1; have := h 2; have := h 3; have := h 4; have := h 5; have := h 6; have := h 7
    omega
  have HS := Lib.hid hs
  clear hs hsl
  go_enter Try.func73, Try.ntmps73
  go_wp2_with fail
  have h0 := heap_alloc_new w (.cells #[.int .u8 0, .int .u8 0, .int .u8 0, .int .u8 0, .int .u8 0, .int .u8 0, .int .u8 0, .int .u8 0] 50)
  go_loopw [1, 7] (fun o i wr => ∃ (k : Nat) (u : ByteArray), k ≤ 8 ∧ i = .int .i64 k ∧ o = .string u ∧ Hid (u.data.toList = s.data.toList.drop (popN k t)) ∧ Hid (wr.heap[w.heap.size]? = some (.cells (wd (spUp k t s.data.toList)) 50 (0, 0))) ∧ Hid (Below w.heap.size w wr)) (fun _ i _ => 8 - (intOf i).toNat)
  case atStart => exact ⟨0, s, by omega, rfl, rfl, by simp [Hid, popN], h0, (Below.refl _ _).alloc (Nat.le_refl _) _⟩
  case round =>
    obtain ⟨k, u, hk, rfl, rfl, HU, HR, HB⟩ := hrel
    clear h0
    have hstep := fun h => spUp_step k t s.data.toList h
    have hand := and1_u8 t k ht
    have hpm := popN_mono t (k + 1) 8
    have hps := popN_succ k t
    have hul := congrArg List.length HU.out
    rw [List.length_drop, HSL.out, HS.out] at hul
    have hul2 : u.data.toList.length = u.size := rfl
    by_cases hk1 : k < 8
    · have hfz := frozen_row HR.out k
      have hcl := wd_cell_row HR.out k (by rw [spUp_len _ _ _ hk]; exact hk1)
      have HP := Lib.hid (hstep hk1)
      have hpm2 := hpm (by omega)
      clear hstep hpm
      by_cases hb : t / 2 ^ k % 2 = 0
      · rw [hb] at hand
        have HN : Hid (spUp (k + 1) t s.data.toList = spUp k t s.data.toList) := Lib.hid (by rw [HP.out, if_pos hb])
        have HPop : Hid (popN (k + 1) t = popN k t) := Lib.hid (by rw [hps, hb]; rfl)
        have hand2 : bits .and .u8 ((t : Int) / 2 ^ k) 1 = 0 := hand
        clear hand hb hps hpm2 hul hul2 hcl hfz
        go_wp2
        go_roundw
        case rel => exact ⟨k + 1, u, by omega, by go_num, rfl, by rw [HPop.out]; exact HU, by rw [HN.out]; exact HR, HB⟩
        case measure => simp [intOf]; omega
      · have hb1 : t / 2 ^ k % 2 = 1 := by omega
        rw [hb1] at hand
        have hand2 : bits .and .u8 ((t : Int) / 2 ^ k) 1 = 1 := hand
        have hu0 : 0 < u.size := by omega
        have hg : ((s.data.toList.drop (popN k t)).headD 0) = u[0] := by
          rw [← HU.out, ← bytes_get u 0 hu0]
          cases u.data.toList <;> rfl
        have HN : Hid (spUp (k + 1) t s.data.toList = (spUp k t s.data.toList).set k u[0]) := Lib.hid (by rw [HP.out, if_neg (by omega), hg])
        have HPop : Hid (popN (k + 1) t = popN k t + 1) := Lib.hid (by rw [hps, hb1])
        have HU2 : Hid ((u.extract 1 u.size).data.toList = s.data.toList.drop (popN (k + 1) t)) := Lib.hid (by
          rw [Lib.extract_data, HPop.out, ← List.drop_drop, ← HU.out, List.take_of_length_le (by simp)])
        have HR2 : Hid ((wr.setCell ⟨w.heap.size, k, none⟩ (.int .u8 ((u[0]).toNat : Int))).heap[w.heap.size]? = some (.cells (wd ((spUp k t s.data.toList).set k u[0])) 50 (0, 0))) := Lib.hid (by rw [heap_set _ HR.out, wd_set])
        have HB2 := Lib.hid (HB.out.setCell (p := ⟨w.heap.size, k, none⟩) (Nat.le_refl _) (.int .u8 ((u[0]).toNat : Int)))
        have hu1 : 1 ≤ u.size := hu0
        clear hand hb hb1 hps hpm2 hul hul2 hg
        go_wp2
        go_roundw
        case rel => exact ⟨k + 1, _, by omega, by go_num, rfl, HU2, by rw [HN.out]; exact HR2, HB2⟩
        case measure => simp [intOf]; omega
    · obtain rfl : k = 8 := by omega
      have hR := HR.out
      have hl8 := spreadN_length 8 t s.data.toList
      rw [spUp_8] at hR
      have HR8 := Lib.hid hR
      have HL8 := Lib.hid hl8
      clear hstep hand hpm hps hul hul2 hR hl8
      obtain ⟨l, hle⟩ : ∃ l, spreadN 8 t s.data.toList = l := ⟨_, rfl⟩
      rw [hle] at HR8 HL8
      have HLE := Lib.hid hle
      clear hle
      go_wp2_with (refine wpList_load_wd rfl 50 (.tmp 5) rfl w.heap.size rfl 50 l _ HR8.out Try.underlying50 rfl (by rw [HL8.out]; exact size46) ?_)
      refine (text_any l _ HL8.out).mono ?_
      rintro e w2 ⟨rfl, hb2⟩
      have HB2 := Lib.hid (HB.out.trans (hb2.mono HB.out.size))
      go_wp2
      go_ret
      exact ⟨by rw [HLE.out]; rfl, HB2.out⟩
end Go.Proofs.Ytgeldgikjcihgaa
