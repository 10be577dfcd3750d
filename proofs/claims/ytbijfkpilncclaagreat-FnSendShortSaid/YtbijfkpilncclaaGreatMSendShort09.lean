/- Texts of the proof of the law FnSendShort, side by side: part 9. -/
import Derived.Laws.BitsAllLaws
import Derived.Deep.RegionLaw
import Derived.Deep.RegionWith
import Derived.Deep.DeepMust
import Derived.Deep.QuietTactic
import Derived.BigQuiet
import Derived.RegionTactic
import Derived.BigRegion
import Derived.StillTailTactics
import Derived.Test.YtbijfkpilncclaaGreatMSendShort00
import Derived.Test.YtbijfkpilncclaaGreatMSendShort01
import Derived.Test.YtbijfkpilncclaaGreatMSendShort02
import Derived.Test.YtbijfkpilncclaaGreatMSendShort03
import Derived.Test.YtbijfkpilncclaaGreatMSendShort04
import Derived.Test.YtbijfkpilncclaaGreatMSendShort05
import Derived.Test.YtbijfkpilncclaaGreatMSendShort06
import Derived.Test.YtbijfkpilncclaaGreatMSendShort07
import Derived.Test.YtbijfkpilncclaaGreatMSendShort08
namespace Go.Proofs.YtbijfkpilncclaaGreat
open Go.RowKit
theorem cells8B {w : World} {b : Nat} {a0 a1 a2 a3 a4 a5 a6 a7 : Value} {T : TypeId} (h : w.heap[b]? = some (.cells #[a0, a1, a2, a3, a4, a5, a6, a7] T (0, 0))) :
    w.cell? ⟨b, 0, none⟩ = some a0 ∧ w.cell? ⟨b, 1, none⟩ = some a1 ∧ w.cell? ⟨b, 2, none⟩ = some a2 ∧ w.cell? ⟨b, 3, none⟩ = some a3 ∧ w.cell? ⟨b, 4, none⟩ = some a4 ∧ w.cell? ⟨b, 5, none⟩ = some a5 ∧ w.cell? ⟨b, 6, none⟩ = some a6 ∧ w.cell? ⟨b, 7, none⟩ = some a7 := by
  simp [World.cell?, h]
theorem kept8B {w w' : World} {b : Nat} {o : Obj} (h : w.heap[b]? = some o) (hb : Below w.heap.size w w') : w'.heap[b]? = some o := by
  have hlt : b < w.heap.size := by
    rcases Nat.lt_or_ge b w.heap.size with hlt | hge
    · exact hlt
    · rw [Array.getElem?_eq_none hge] at h; cases h
  exact (hb.block b hlt).trans h
def ptvB (k o d p s c g : Int) (t : Bool) : Value := .agg #[.int .i64 k, .int .i64 o, .int .i64 d, .int .i64 p, .int .i64 s, .int .i64 c, .int .i64 g, .bool t]
theorem and_offB (o : Int) (_h0 : -536870912 ≤ o) (_h1 : o ≤ 536870911) : bits .and .i64 (o * 4) 4294967295 = offN o := by
  obtain ⟨n, hn⟩ : ∃ n : Nat, offN o = (n : Int) := ⟨(offN o).toNat, by have := offN_bd o; omega⟩
  have hm : (BitVec.ofInt 64 (o * 4)).toNat % 4294967296 = n := by
    rw [BitVec.toNat_ofInt]
    have : (o * 4) % 4294967296 = (n : Int) := by rw [← hn]; unfold offN; omega
    omega
  show IntKind.i64.wrap ((BitVec.ofInt 64 (o * 4) &&& BitVec.ofInt 64 4294967295).toNat : Int) = _
  have hk : (BitVec.ofInt 64 4294967295).toNat = 2 ^ 32 - 1 := by decide
  rw [BitVec.toNat_and, hk, Nat.and_two_pow_sub_one_eq_mod, show (2 : Nat) ^ 32 = 4294967296 from rfl, hm, hn, IntKind.wrap_i64]
  have := offN_bd o
  omega
theorem or_i64B (a b : Nat) (ha : a < 9223372036854775808) (hb : b < 9223372036854775808) : bits .or .i64 (a : Int) (b : Int) = ((a ||| b : Nat) : Int) := by
  have hx : a ||| b < 2 ^ 63 := Nat.or_lt_two_pow (by omega) (by omega)
  show IntKind.i64.wrap ((BitVec.ofInt 64 (a : Int) ||| BitVec.ofInt 64 (b : Int)).toNat : Int) = _
  rw [BitVec.toNat_or, ofInt_i64' a ha, ofInt_i64' b hb, IntKind.wrap_i64]
  omega
theorem or_joinB (k : Nat) (x b : Int) (hx0 : 0 ≤ x) (hx1 : x < 1152921504606846976) (hk : k ≤ 3) (hb0 : 0 ≤ b) (hb : b < 2 ^ k) (hm : x % 2 ^ k = 0) : bits .or .i64 x b = x + b := by
  obtain ⟨x, rfl⟩ := Int.eq_ofNat_of_zero_le hx0
  obtain ⟨b, rfl⟩ := Int.eq_ofNat_of_zero_le hb0
  have hkk : k = 0 ∨ k = 1 ∨ k = 2 ∨ k = 3 := by omega
  rcases hkk with rfl | rfl | rfl | rfl
  all_goals
    simp only [Int.reducePow] at hb hm
    rw [or_i64B x b (by omega) (by omega)]
  · obtain rfl : b = 0 := by omega
    simp
  · rw [nat_join 1 x b (by omega) (by omega)]; omega
  · rw [nat_join 2 x b (by omega) (by omega)]; omega
  · rw [nat_join 3 x b (by omega) (by omega)]; omega
theorem ret_str2B {a b : ByteArray} (h : a.data.toList = b.data.toList) : Ending.returned (.string a) = .returned (.string b) := by rw [ext_ba h]
theorem kept_dB {w w' : World} {b : Nat} {o : Obj} (h : w.heap[b]? = some o) (hb : Below w.drew.heap.size w.drew w') : w'.heap[b]? = some o := kept8B (w := w.drew) h hb
theorem then_dB {a w w1 : World} (h : Below a.heap.size a w) (hb : Below w.drew.heap.size w.drew w1) : Below a.heap.size a w1 := h.drew.trans (hb.mono h.size)
theorem then_nB {a w w1 : World} (h : Below a.heap.size a w) (hb : Below w.heap.size w w1) : Below a.heap.size a w1 := h.trans (hb.mono h.size)
set_option maxHeartbeats 1000000 in
set_option maxRecDepth 100000 in
theorem l2Put_strB (o d p : Int) (w : World) (h0 : -536870912 ≤ o) (h1 : o ≤ 536870911) (hd0 : 0 ≤ d) (hd1 : d < 65536) (_hp0 : 0 ≤ p) (_hp1 : p < 65536) :
    Calls Tryz.prog 123 #[ptvB 1 o d p 0 0 0 false] w fun e w' => e = .returned (.string ⟨(leB (offN o) 4 ++ leB (d + 65536 * p) 4).toArray⟩) ∧ Below w.heap.size w w' := by
  have ho := and_offB o h0 h1
  have e1 : IntKind.i64.wrap (o * 4) = o * 4 := by rw [IntKind.wrap_i64]; omega
  have f1 : ¬ 9223372036854775807 < (leB (offN o) 4).length + (leB d 2).length := by rw [leB_length, leB_length]; omega
  have f2 : ¬ 9223372036854775807 < (leB (offN o) 4).length + (leB d 2).length + (leB p 2).length := by rw [leB_length, leB_length, leB_length]; omega
  have hfin := leB_four d p hd0 hd1
  have HF := Lib.hid hfin
  clear hfin
  unfold ptvB
  go_enter Tryz.func123, Tryz.ntmps123
  go_wp2_with fail
  have hblk := heap_alloc_new w (.cells #[.int .i64 1, .int .i64 o, .int .i64 d, .int .i64 p, .int .i64 0, .int .i64 0, .int .i64 0, .bool false] 166)
  obtain ⟨c0, c1, c2, c3, c4, c5, c6, c7⟩ := cells8B hblk
  have HK := Lib.hid hblk
  have hbb := (Below.refl w.heap.size w).alloc (Nat.le_refl _) (.cells #[.int .i64 1, .int .i64 o, .int .i64 d, .int .i64 p, .int .i64 0, .int .i64 0, .int .i64 0, .bool false] 166)
  clear hblk
  go_region_law (go_simp; go_at_call 60; go_must (refine (l1Bytes_any _ _ _ (by decide) (by decide)).mono ?_); rintro e w2 ⟨rfl, hb2⟩; replace hbb : Below w.heap.size w w2 := (by first | exact then_nB hbb hb2 | exact then_dB hbb hb2); replace HK : Hid (w2.heap[w.heap.size]? = some (.cells #[.int .i64 1, .int .i64 o, .int .i64 d, .int .i64 p, .int .i64 0, .int .i64 0, .int .i64 0, .bool false] 166 (0, 0))) := (by first | exact kept8B HK.out hb2 | exact kept_dB HK.out hb2); clear c0 c1 c2 c3 c4 c5 c6 c7; obtain ⟨c0, c1, c2, c3, c4, c5, c6, c7⟩ := cells8B HK.out; clear hb2)
  all_goals
    go_wp2
    go_ret
    refine ⟨ret_str2B ?_, hbb⟩
    rw [HF.out, ByteArray.data_append, ByteArray.data_append]
    simp
set_option maxHeartbeats 1000000 in
set_option maxRecDepth 100000 in
theorem l2Put_lisB (o z c : Int) (w : World) (h0 : -536870912 ≤ o) (h1 : o ≤ 536870911) (hz0 : 0 ≤ z) (hz1 : z < 8) (hc0 : 0 ≤ c) (hc1 : c < 536870912) :
    Calls Tryz.prog 123 #[.agg #[.int .i64 2, .int .i64 o, .int .i64 0, .int .i64 0, .int .i64 z, .int .i64 c, .int .i64 0, .bool false]] w fun e w' => e = .returned (.string ⟨(leB (offN o + 1) 4 ++ leB (c * 8 + z) 4).toArray⟩) ∧ Below w.heap.size w w' := by
  have ho := and_offB o h0 h1
  have hob := offN_bd o
  have e1 : IntKind.i64.wrap (o * 4) = o * 4 := by rw [IntKind.wrap_i64]; omega
  have e2 : IntKind.i64.wrap (c * 8) = c * 8 := by rw [IntKind.wrap_i64]; omega
  have q1 : bits .or .i64 (offN o) 1 = offN o + 1 := or_joinB 2 _ 1 (by omega) (by omega) (by omega) (by omega) (by decide) (by unfold offN; omega)
  have q2 : bits .or .i64 (c * 8) z = c * 8 + z := or_joinB 3 _ z (by omega) (by omega) (by omega) (by omega) (by simpa using hz1) (by omega)
  have f1 : ¬ 9223372036854775807 < (leB (offN o + 1) 4).length + (leB (c * 8 + z) 4).length := by rw [leB_length, leB_length]; omega
  clear hob
  go_enter Tryz.func123, Tryz.ntmps123
  go_wp2_with fail
  have hblk := heap_alloc_new w (.cells #[.int .i64 2, .int .i64 o, .int .i64 0, .int .i64 0, .int .i64 z, .int .i64 c, .int .i64 0, .bool false] 166)
  obtain ⟨c0, c1, c2, c3, c4, c5, c6, c7⟩ := cells8B hblk
  have HK := Lib.hid hblk
  have hbb := (Below.refl w.heap.size w).alloc (Nat.le_refl _) (.cells #[.int .i64 2, .int .i64 o, .int .i64 0, .int .i64 0, .int .i64 z, .int .i64 c, .int .i64 0, .bool false] 166)
  clear hblk
  go_region_law (go_simp; go_at_call 60; go_must (refine (l1Bytes_any _ _ _ (by decide) (by decide)).mono ?_); rintro e w2 ⟨rfl, hb2⟩; replace hbb : Below w.heap.size w w2 := (by first | exact then_nB hbb hb2 | exact then_dB hbb hb2); replace HK : Hid (w2.heap[w.heap.size]? = some (.cells #[.int .i64 2, .int .i64 o, .int .i64 0, .int .i64 0, .int .i64 z, .int .i64 c, .int .i64 0, .bool false] 166 (0, 0))) := (by first | exact kept8B HK.out hb2 | exact kept_dB HK.out hb2); clear c0 c1 c2 c3 c4 c5 c6 c7; obtain ⟨c0, c1, c2, c3, c4, c5, c6, c7⟩ := cells8B HK.out; clear hb2)
  all_goals
    go_wp2
    go_ret
    refine ⟨ret_str2B ?_, hbb⟩
    rw [ByteArray.data_append]
    simp
set_option maxHeartbeats 1000000 in
set_option maxRecDepth 100000 in
theorem l2Put_far0B (o g : Int) (w : World) (h0 : 0 ≤ o) (h1 : o ≤ 536870911) :
    Calls Tryz.prog 123 #[.agg #[.int .i64 3, .int .i64 o, .int .i64 0, .int .i64 0, .int .i64 0, .int .i64 0, .int .i64 g, .bool false]] w fun e w' => e = .returned (.string ⟨(leB (o * 8 + 2) 4 ++ leB g 4).toArray⟩) ∧ Below w.heap.size w w' := by
  have e1 : IntKind.i64.wrap (o * 8) = o * 8 := by rw [IntKind.wrap_i64]; omega
  have q1 : bits .or .i64 (o * 8) 0 = o * 8 := by rw [or_joinB 0 _ 0 (by omega) (by omega) (by omega) (by omega) (by decide) (by simp)]; omega
  have q2 : bits .or .i64 (o * 8) 2 = o * 8 + 2 := or_joinB 2 _ 2 (by omega) (by omega) (by omega) (by omega) (by decide) (by simp only [Int.reducePow]; omega)
  have f1 : ¬ 9223372036854775807 < (leB (o * 8 + 2) 4).length + (leB g 4).length := by rw [leB_length, leB_length]; omega
  go_enter Tryz.func123, Tryz.ntmps123
  go_wp2_with fail
  have hblk := heap_alloc_new w (.cells #[.int .i64 3, .int .i64 o, .int .i64 0, .int .i64 0, .int .i64 0, .int .i64 0, .int .i64 g, .bool false] 166)
  obtain ⟨c0, c1, c2, c3, c4, c5, c6, c7⟩ := cells8B hblk
  have HK := Lib.hid hblk
  have hbb := (Below.refl w.heap.size w).alloc (Nat.le_refl _) (.cells #[.int .i64 3, .int .i64 o, .int .i64 0, .int .i64 0, .int .i64 0, .int .i64 0, .int .i64 g, .bool false] 166)
  clear hblk
  go_region_law (go_simp; go_at_call 60; go_must (refine (l1Bytes_any _ _ _ (by decide) (by decide)).mono ?_); rintro e w2 ⟨rfl, hb2⟩; replace hbb : Below w.heap.size w w2 := (by first | exact then_nB hbb hb2 | exact then_dB hbb hb2); replace HK : Hid (w2.heap[w.heap.size]? = some (.cells #[.int .i64 3, .int .i64 o, .int .i64 0, .int .i64 0, .int .i64 0, .int .i64 0, .int .i64 g, .bool false] 166 (0, 0))) := (by first | exact kept8B HK.out hb2 | exact kept_dB HK.out hb2); clear c0 c1 c2 c3 c4 c5 c6 c7; obtain ⟨c0, c1, c2, c3, c4, c5, c6, c7⟩ := cells8B HK.out; clear hb2)
  all_goals
    go_wp2
    go_ret
    refine ⟨ret_str2B ?_, hbb⟩
    rw [ByteArray.data_append]
    simp
theorem or_u64B (k : Nat) (x b : Int) (hx0 : 0 ≤ x) (hx1 : x < 18446744073709551616) (hb0 : 0 ≤ b) (hb1 : b < 18446744073709551616) (hx : x < 2 ^ k) (hm : b % 2 ^ k = 0) : bits .or .u64 x b = x + b := by
  obtain ⟨x, rfl⟩ := Int.eq_ofNat_of_zero_le hx0
  obtain ⟨b, rfl⟩ := Int.eq_ofNat_of_zero_le hb0
  have e : ((2 : Int) ^ k) = ((2 ^ k : Nat) : Int) := by rw [Int.natCast_pow]; rfl
  rw [e] at hx hm
  rw [u64_or_nat x b (by omega) (by omega), Nat.or_comm, nat_join k b x (by omega) (by omega)]
  omega
set_option maxHeartbeats 400000 in
theorem offBits_anyB (o : Int) (w : World) (_h0 : -536870912 ≤ o) (_h1 : o ≤ 536870911) :
    Calls Tryz.prog 173 #[.int .i64 o] w fun e w' => e = .returned (.int .u64 (offN o)) ∧ w = w' := by
  go_enter Tryz.func173, Tryz.ntmps173
  go_wp2
  go_ret
  exact ⟨ret_int (by unfold offN; omega), rfl⟩
theorem below_dNB {B : Nat} {a w : World} (h : Below B a w) (n : Nat) : Below B a (w.drewN n) := ⟨h.os, h.tape, h.output, h.size, h.block⟩
theorem offBits_qB (o : Int) (w : World) (h0 : -536870912 ≤ o) (h1 : o ≤ 536870911) :
    Calls Tryz.prog 173 #[.int .i64 o] w fun e w' => e = .returned (.int .u64 (offN o)) ∧ w' = w := (offBits_anyB o w h0 h1).mono fun _ _ h => ⟨h.1, h.2.symm⟩
set_option maxHeartbeats 1000000 in
theorem bits_strB (o d p : Int) (w : World) (h0 : -536870912 ≤ o) (h1 : o ≤ 536870911) (hd0 : 0 ≤ d) (hd1 : d < 65536) (hp0 : 0 ≤ p) (hp1 : p < 65536) :
    Calls Tryz.prog 171 #[.agg #[.int .i64 o, .int .i64 d, .int .i64 p]] w fun e w' => e = .returned (.int .u64 (offN o + 4294967296 * (d + 65536 * p))) ∧ Below w.heap.size w w' := by
  have hb := offN_bd o
  have e1 : IntKind.u64.wrap d = d := by rw [IntKind.wrap_u64]; omega
  have e2 : IntKind.u64.wrap p = p := by rw [IntKind.wrap_u64]; omega
  have e3 : IntKind.u64.wrap (d * 4294967296) = d * 4294967296 := by rw [IntKind.wrap_u64]; omega
  have e4 : IntKind.u64.wrap (p * 281474976710656) = p * 281474976710656 := by rw [IntKind.wrap_u64]; omega
  have q1 : bits .or .u64 (offN o) (d * 4294967296) = offN o + d * 4294967296 := or_u64B 32 _ _ (by omega) (by omega) (by omega) (by omega) (by simp only [Int.reducePow]; omega) (by simp only [Int.reducePow]; omega)
  have q2 : bits .or .u64 (offN o + d * 4294967296) (p * 281474976710656) = offN o + d * 4294967296 + p * 281474976710656 := or_u64B 48 _ _ (by omega) (by omega) (by omega) (by omega) (by simp only [Int.reducePow]; omega) (by simp only [Int.reducePow]; omega)
  go_enter Tryz.func171, Tryz.ntmps171
  go_wp2_with fail
  go_quiet ((go_at_call 173; exact Calls.quiet_of_same (offBits_qB o _ h0 h1)))
  go_wp2
  go_ret
  exact ⟨ret_int (by omega), below_dNB ((Below.refl _ _).alloc (Nat.le_refl _) _) _⟩
set_option maxHeartbeats 1000000 in
theorem bits_lisB (o z c : Int) (w : World) (h0 : -536870912 ≤ o) (h1 : o ≤ 536870911) (hz0 : 0 ≤ z) (hz1 : z < 8) (hc0 : 0 ≤ c) (hc1 : c < 536870912) :
    Calls Tryz.prog 176 #[.agg #[.int .i64 o, .int .i64 z, .int .i64 c]] w fun e w' => e = .returned (.int .u64 (offN o + 1 + 4294967296 * (c * 8 + z))) ∧ Below w.heap.size w w' := by
  have hb := offN_bd o
  have e1 : IntKind.u64.wrap z = z := by rw [IntKind.wrap_u64]; omega
  have e2 : IntKind.u64.wrap c = c := by rw [IntKind.wrap_u64]; omega
  have e3 : IntKind.u64.wrap (z * 4294967296) = z * 4294967296 := by rw [IntKind.wrap_u64]; omega
  have e4 : IntKind.u64.wrap (c * 34359738368) = c * 34359738368 := by rw [IntKind.wrap_u64]; omega
  have q0 : bits .or .u64 1 (offN o) = 1 + offN o := or_u64B 2 _ _ (by omega) (by omega) (by omega) (by omega) (by simp only [Int.reducePow]; omega) (by simp only [Int.reducePow]; unfold offN; omega)
  have q1 : bits .or .u64 (1 + offN o) (z * 4294967296) = 1 + offN o + z * 4294967296 := or_u64B 32 _ _ (by omega) (by omega) (by omega) (by omega) (by simp only [Int.reducePow]; unfold offN; omega) (by simp only [Int.reducePow]; omega)
  have q2 : bits .or .u64 (1 + offN o + z * 4294967296) (c * 34359738368) = 1 + offN o + z * 4294967296 + c * 34359738368 := or_u64B 35 _ _ (by omega) (by omega) (by omega) (by omega) (by simp only [Int.reducePow]; unfold offN; omega) (by simp only [Int.reducePow]; omega)
  go_enter Tryz.func176, Tryz.ntmps176
  go_wp2_with fail
  go_quiet ((go_at_call 173; exact Calls.quiet_of_same (offBits_qB o _ h0 h1)))
  go_wp2
  go_ret
  exact ⟨ret_int (by omega), below_dNB ((Below.refl _ _).alloc (Nat.le_refl _) _) _⟩
set_option maxHeartbeats 1000000 in
theorem bits_far0B (o g : Int) (w : World) (h0 : 0 ≤ o) (h1 : o ≤ 536870911) (hg0 : 0 ≤ g) (hg1 : g < 4294967296) :
    Calls Tryz.prog 174 #[.agg #[.int .i64 o, .int .i64 g, .bool false]] w fun e w' => e = .returned (.int .u64 (o * 8 + 2 + 4294967296 * g)) ∧ Below w.heap.size w w' := by
  have e1 : IntKind.u64.wrap o = o := by rw [IntKind.wrap_u64]; omega
  have e2 : IntKind.u64.wrap g = g := by rw [IntKind.wrap_u64]; omega
  have e3 : IntKind.u64.wrap (o * 8) = o * 8 := by rw [IntKind.wrap_u64]; omega
  have e4 : IntKind.u64.wrap (g * 4294967296) = g * 4294967296 := by rw [IntKind.wrap_u64]; omega
  have q0 : bits .or .u64 2 (o * 8) = 2 + o * 8 := or_u64B 3 _ _ (by omega) (by omega) (by omega) (by omega) (by simp only [Int.reducePow]; omega) (by simp only [Int.reducePow]; omega)
  have q1 : bits .or .u64 (2 + o * 8) (g * 4294967296) = 2 + o * 8 + g * 4294967296 := or_u64B 32 _ _ (by omega) (by omega) (by omega) (by omega) (by simp only [Int.reducePow]; omega) (by simp only [Int.reducePow]; omega)
  go_enter Tryz.func174, Tryz.ntmps174
  go_wp2
  go_ret
  exact ⟨ret_int (by omega), (Below.refl _ _).alloc (Nat.le_refl _) _⟩
end Go.Proofs.YtbijfkpilncclaaGreat

namespace Go.Proofs.YtbijfkpilncclaaGreat
open Go.RowKit Go.Deep
def PutQ (base b size : Nat) (ss : Segs) (i a : Nat) (t : List UInt8) (P : Nat → Prop) (w : World) (e : Ending) (w' : World) : Prop :=
  e = .returned (.tuple #[]) ∧ KP P w w' ∧ Sb w' base b size (putS ss i a t) false P
theorem spl_ba (s t : List UInt8) (p : Nat) (h : p + t.length ≤ s.length) : ((⟨s.toArray⟩ : ByteArray).extract 0 p ++ (⟨t.toArray⟩ : ByteArray)) ++ (⟨s.toArray⟩ : ByteArray).extract (p + t.length) s.length = ⟨(spl s p t).toArray⟩ := by
  apply ext_ba
  rw [ByteArray.data_append, ByteArray.data_append, Array.toList_append, Array.toList_append, Lib.extract_data, Lib.extract_data]
  unfold spl
  simp
  rw [List.take_of_length_le (by rw [List.length_drop]; exact Nat.le_refl _)]
set_option maxHeartbeats 2000000 in
set_option maxRecDepth 100000 in
theorem sput_any (base b size : Nat) (ss : Segs) (P : Nat → Prop) (w : World) (h : Sb w base b size ss false P) (i a : Nat) (t : List UInt8) (hi : i < ss.length) (ha : 8 * a + t.length ≤ (sgS ss i).length) (hl : (sgS ss i).length ≤ 100000) :
    Calls Tryz.prog 122 #[.pointer (some ⟨b, 0, none⟩), .int .i64 (i : Int), .int .i64 (a : Int), .string ⟨t.toArray⟩] w (PutQ base b size ss i a t P w) := by
  obtain ⟨r, cap, hb, ⟨hPr, hrl, hrb⟩, hc, hst⟩ := h.open_ (by omega)
  obtain ⟨c0, c1, c2⟩ := cells3 hb
  obtain ⟨hci, hfi⟩ := hc i hi
  have hfin := hst i (spl (sgS ss i) (8 * a) t) hi
  have hba := spl_ba (sgS ss i) t (8 * a) ha
  have hts : (⟨t.toArray⟩ : ByteArray).size = t.length := by simp [ByteArray.size]
  have hss : (⟨(sgS ss i).toArray⟩ : ByteArray).size = (sgS ss i).length := by simp [ByteArray.size]
  have hlt : (i : Int) < (ss.length : Int) := by omega
  have HF := Lib.hid hfin
  have HPR := Lib.hid hPr
  obtain ⟨s, hs⟩ : ∃ s, sgS ss i = s := ⟨_, rfl⟩
  rw [hs] at hci hfin hba hss ha hl HF
  have HS := Lib.hid hs
  obtain ⟨S, hS⟩ : ∃ S : ByteArray, S = ⟨s.toArray⟩ := ⟨_, rfl⟩
  obtain ⟨T, hT⟩ : ∃ T : ByteArray, T = ⟨t.toArray⟩ := ⟨_, rfl⟩
  unfold strS at hci
  rw [← hS] at hci hss hba
  rw [← hT] at hts hba ⊢
  have hx1 : (0 : Int) ≤ 8 * (a : Int) := by omega
  have hx2 : 8 * (a : Int) ≤ (S.size : Int) := by rw [hss]; omega
  have hx3 : (0 : Int) ≤ 8 * (a : Int) + (T.size : Int) := by omega
  have hx4 : 8 * (a : Int) + (T.size : Int) ≤ (S.size : Int) := by rw [hss, hts]; omega
  have hN1 : (8 * (a : Int)).toNat = 8 * a := by omega
  have hN2 : (8 * (a : Int) + (T.size : Int)).toNat = 8 * a + T.size := by omega
  have hT5 : T.size ≤ 100000 := by omega
  have hS5 : S.size ≤ 100000 := by omega
  have hsz1 : (S.extract 0 (8 * a)).size ≤ 100000 := by rw [ByteArray.size_extract]; omega
  have HFIN : Hid (∀ W : World, W = w.setCell ⟨r, i, none⟩ (.string ((S.extract 0 (8 * a) ++ T) ++ S.extract (8 * a + T.size) S.size)) → KP P w W ∧ Sb W base b size (putS ss i a t) false P) := Lib.hid (fun W hW => by
    subst hW
    rw [hts, hss, hba]
    refine ⟨KP.set HPR.out _ _ _, ?_⟩
    have := HF.out
    unfold putS
    rw [HS.out]
    exact this)
  have HSS := Lib.hid hss
  have HTS := Lib.hid hts
  clear hfin hba hs hS hT hss hts hc hst ha
  go_enter Tryz.func122, Tryz.ntmps122
  go_wp2_with fail
  go_region
  obtain ⟨k1, k2⟩ := HFIN.out _ rfl
  go_end0
  exact ⟨rfl, k1.drew, k2.drew⟩
def RoomSQ (base b size : Nat) (ss : Segs) (i k : Nat) (P : Nat → Prop) (w : World) (e : Ending) (w' : World) : Prop :=
  e = .returned (.int .i64 (wn (sgS ss i) : Nat)) ∧ KP P w w' ∧ Sb w' base b size (growB ss i k) false P
set_option maxHeartbeats 2000000 in
set_option maxRecDepth 100000 in
theorem sroom_any (base b size : Nat) (ss : Segs) (P : Nat → Prop) (w : World) (h : Sb w base b size ss false P) (i k : Nat) (hi : i < ss.length) (hk : k ≤ 10000) (hl : (sgS ss i).length ≤ 100000) :
    Calls Tryz.prog 125 #[.pointer (some ⟨b, 0, none⟩), .int .i64 (i : Int), .int .i64 (k : Int)] w (RoomSQ base b size ss i k P w) := by
  obtain ⟨r, cap, hb, ⟨hPr, hrl, hrb⟩, hc, hst⟩ := h.open_ (by omega)
  obtain ⟨c0, c1, c2⟩ := cells3 hb
  obtain ⟨hci, hfi⟩ := hc i hi
  have hss : (⟨(sgS ss i).toArray⟩ : ByteArray).size = (sgS ss i).length := by simp [ByteArray.size]
  have hlt : (i : Int) < (ss.length : Int) := by omega
  have HH := Lib.hid h
  have HB := Lib.hid hb
  have HC := Lib.hid hci
  have HPR := Lib.hid hPr
  obtain ⟨s, hs⟩ : ∃ s, sgS ss i = s := ⟨_, rfl⟩
  rw [hs] at hci hss hl HC
  have HS := Lib.hid hs
  obtain ⟨S, hS⟩ : ∃ S : ByteArray, S = ⟨s.toArray⟩ := ⟨_, rfl⟩
  unfold strS at hci HC
  rw [← hS] at hci hss HC
  have HSV := Lib.hid hS
  have hn8 : (8 * (k : Int)).toNat = 8 * k := by omega
  have HM := Lib.hid (fun W => l1Many_any ⟨#[0]⟩ (8 * (k : Int)) W (by omega) (by omega) (by decide) (by show 1 * _ ≤ _; omega))
  obtain ⟨Z, hZ⟩ : ∃ Z : ByteArray, Z = ⟨(zer k).toArray⟩ := ⟨_, rfl⟩
  have hzz : (⟨(repL (⟨#[0]⟩ : ByteArray).data.toList (8 * (k : Int)).toNat).toArray⟩ : ByteArray) = Z := by
    rw [hZ, hn8]
    congr 2
    unfold zer
    generalize 8 * k = q
    induction q with
    | zero => rfl
    | succ q ih => rw [List.replicate_succ, ← ih]; rfl
  have hzs : Z.size = 8 * k := by rw [hZ]; simp [ByteArray.size, zer_length]
  have HZV := Lib.hid hZ
  have hS5 : S.size ≤ 100000 := by omega
  have hZ5 : Z.size ≤ 100000 := by omega
  have hcc : ¬ 9223372036854775807 < S.size + Z.size := by omega
  have HE : Hid (((S.size : Int) / 8) = ((wn (sgS ss i) : Nat) : Int)) := Lib.hid (by rw [HS.out]; unfold wn; rw [hss]; omega)
  have hHM : ∀ W, Calls Tryz.prog 54 #[.string ⟨#[0]⟩, .int .i64 (8 * (k : Int))] W fun e w' => e = .returned (.string Z) ∧ W = w' := fun W => by
    have := HM.out W
    rw [hzz] at this
    exact this
  have HHM := Lib.hid hHM
  have HFIN : Hid (∀ W : World, W = w.setCell ⟨r, i, none⟩ (.string (S ++ Z)) → KP P w W.drew ∧ Sb W.drew base b size (growB ss i k) false P) := Lib.hid (fun W hW => by
    subst hW
    have h1 := hst i (s ++ zer k) hi
    have e : (⟨(s ++ zer k).toArray⟩ : ByteArray) = S ++ Z := by
      rw [hS, hZ]; apply ext_ba; rw [ByteArray.data_append]; simp
    unfold strS at h1
    rw [e] at h1
    refine ⟨(KP.set HPR.out _ _ _).drew, ?_⟩
    unfold growB
    rw [HS.out]
    exact h1.drew)
  have hw8k : IntKind.i64.wrap (8 * (k : Int)) = 8 * (k : Int) := by rw [IntKind.wrap_i64]; omega
  clear hHM hzz hzs hS hZ hn8 hs h hb hc hst HM hss
  go_enter Tryz.func125, Tryz.ntmps125
  go_wp2_with fail
  refine wp_region_still_tail 17 (by kernel_rfl) (by kernel_rfl) ?_
  simp only [List.take_succ_cons, List.take_zero, List.drop_succ_cons, List.drop_zero]
  repeat still_step
  refine wpStill_step (fun K hK => ?_)
  go_simp
  refine ⟨_, (HHM.out _).mono (fun e w' h => ⟨h.1, h.2.symm⟩), hK _ ?_⟩
  clear hK K
  repeat still_step
  refine wpStill_nil ?_
  change wpList _ _ _ _ _ w.drew
  have q0 : w.drew.cell? ⟨b, 0, none⟩ = some (.slice (some ⟨r, 0, none⟩) ss.length cap) := c0
  have q1 : w.drew.cell? ⟨r, i, none⟩ = some (.string S) := hci
  have q2 : w.drew.frozen? ⟨r, i, none⟩ = false := hfi
  have HFIN2 : Hid (∀ W : World, W = w.drew.setCell ⟨r, i, none⟩ (.string (S ++ Z)) → KP P w W ∧ Sb W base b size (growB ss i k) false P) := Lib.hid (fun W hW => by subst hW; exact HFIN.out _ rfl)
  clear c0 c1 c2 hci hfi HFIN
  generalize w.drew = w2 at *
  go_wp2
  obtain ⟨k1, k2⟩ := HFIN2.out _ rfl
  go_ret
  exact ⟨ret_int HE.out, k1, k2⟩
end Go.Proofs.YtbijfkpilncclaaGreat

namespace Go.Proofs.YtbijfkpilncclaaGreat
open Go.RowKit
theorem in_wi (c : Int) : inB c 0 12800 = wiB c 12801 := by unfold inB wiB; rw [Bool.eq_iff_iff]; simp; omega
set_option maxHeartbeats 4000000 in
set_option maxRecDepth 100000 in
theorem l4List_0 (m : Nat) (s c : Int) (d : ByteArray) (A B : Option Addr) (lp cp ci : Nat) (is : List Nd) (w : World) (S : Nat → Prop) (_hn : NdsAt w S m B is) (hdm : d.size ≤ maxLen) (_hlm : is.length ≤ 2000000) (_hpm : lp ≤ 2000000) (hs0 : 0 ≤ s) (hs5 : s ≤ 5) (hw : wiB c 12801 = true) :
    Calls Tryz.prog 106 #[.agg #[.int .i64 2, .string d, .slice A lp cp, .int .i64 s, .int .i64 c, .slice B is.length ci]] w fun e w' => e = .returned (.bool (listB 2 s c d lp is.length (itemsB is))) ∧ Below w.heap.size w w' := by
  obtain ⟨hc0, hc1⟩ := wi_out hw
  have HLN : Hid (listB 2 s c d lp is.length (itemsB is) = (bitsB d (c * bz s) && (decide (lp = 0) && decide (is.length = 0)))) := Lib.hid (by unfold listB; rw [hw, if_pos ⟨hs0, hs5⟩]; simp)
  have HS7 : Hid (inB s 0 7 = true) := Lib.hid (by simp [inB]; omega)
  have HW : Hid (inB c 0 12800 = true) := Lib.hid (by rw [in_wi]; exact hw)
  have HPL := Lib.hid (fun W => l4Plain_a 2 s c d A B lp cp is.length ci W hs0 hs5 hc0 (by omega) hdm)
  have z6 : (s == 6) = false := by simp; omega
  have z7 : (s == 7) = false := by simp; omega
  clear _hn hw hdm _hlm _hpm hs0 hs5 hc0 hc1
  generalize bitsB d (c * bz s) = bb at *
  by_cases hp : lp = 0
  · have hpb : ((lp : Int) == 0) = true := by rw [hp]; rfl
    by_cases hi : is.length = 0
    · have hib : ((is.length : Int) == 0) = true := by rw [hi]; rfl
      have HX : Hid (listB 2 s c d lp is.length (itemsB is) = bb) := Lib.hid (by rw [HLN.out, hp, hi]; simp)
      clear hp hi
      go_enter Tryz.func106, Tryz.ntmps106
      go_wp2_with (first | (go_at_call 57; go_must (refine (l1In_any _ _ _ _).mono ?_); rintro e w1 ⟨rfl, rfl⟩; first | rw [HS7.out] | rw [HW.out]) | (go_at_call 130; go_must (with_reducible refine (HPL.out _).mono ?_); rintro e w2 ⟨rfl, hb2⟩))
      go_ret
      exact ⟨by rw [HX.out]; rfl, ((Below.refl _ _).alloc (Nat.le_refl _) _).trans (hb2.mono (by simp))⟩
    · have hib : ((is.length : Int) == 0) = false := by rw [beq_eq_false_iff_ne]; omega
      have HX : Hid (listB 2 s c d lp is.length (itemsB is) = false) := Lib.hid (by rw [HLN.out]; simp [hi])
      clear hp hi
      go_enter Tryz.func106, Tryz.ntmps106
      go_wp2_with (go_at_call 57; go_must (refine (l1In_any _ _ _ _).mono ?_); rintro e w1 ⟨rfl, rfl⟩; first | rw [HS7.out] | rw [HW.out])
      go_ret
      exact ⟨by rw [HX.out]; rfl, (Below.refl _ _).alloc (Nat.le_refl _) _⟩
  · have hpb : ((lp : Int) == 0) = false := by rw [beq_eq_false_iff_ne]; omega
    have HX : Hid (listB 2 s c d lp is.length (itemsB is) = false) := Lib.hid (by rw [HLN.out]; simp [hp])
    clear hp
    go_enter Tryz.func106, Tryz.ntmps106
    go_wp2_with (go_at_call 57; go_must (refine (l1In_any _ _ _ _).mono ?_); rintro e w1 ⟨rfl, rfl⟩; first | rw [HS7.out] | rw [HW.out])
    go_ret
    exact ⟨by rw [HX.out]; rfl, (Below.refl _ _).alloc (Nat.le_refl _) _⟩
set_option maxHeartbeats 4000000 in
set_option maxRecDepth 100000 in
theorem l4List_6 (m : Nat) (c : Int) (d : ByteArray) (A B : Option Addr) (lp cp ci : Nat) (is : List Nd) (w : World) (S : Nat → Prop) (_hn : NdsAt w S m B is) (_hdm : d.size ≤ maxLen) (_hlm : is.length ≤ 2000000) (_hpm : lp ≤ 2000000) (hw : wiB c 12801 = true) :
    Calls Tryz.prog 106 #[.agg #[.int .i64 2, .string d, .slice A lp cp, .int .i64 6, .int .i64 c, .slice B is.length ci]] w fun e w' => e = .returned (.bool (listB 2 6 c d lp is.length (itemsB is))) ∧ Below w.heap.size w w' := by
  have HLN : Hid (listB 2 6 c d lp is.length (itemsB is) = decide (d.size = 0 ∧ (lp : Int) = c ∧ is.length = 0)) := Lib.hid (by unfold listB; rw [hw, Bool.eq_iff_iff]; simp)
  have hse := toList_isEmpty d
  have HS7 : Hid (inB 6 0 7 = true) := Lib.hid (by decide)
  have HW : Hid (inB c 0 12800 = true) := Lib.hid (by rw [in_wi]; exact hw)
  clear hw _hn
  go_enter Tryz.func106, Tryz.ntmps106
  go_wp2_with (go_at_call 57; go_must (refine (l1In_any _ _ _ _).mono ?_); rintro e w1 ⟨rfl, rfl⟩; first | rw [HS7.out] | rw [HW.out])
  all_goals go_ret
  all_goals refine ⟨ret_bool ?_, (Below.refl _ _).alloc (Nat.le_refl _) _⟩
  all_goals (rw [HLN.out, Bool.eq_iff_iff]; simp_all)
set_option maxHeartbeats 4000000 in
set_option maxRecDepth 100000 in
theorem l4List_7 (m : Nat) (c : Int) (d : ByteArray) (A B : Option Addr) (lp cp ci : Nat) (is : List Nd) (w : World) (S : Nat → Prop) (hn : NdsAt w S m B is) (_hdm : d.size ≤ maxLen) (hlm : is.length ≤ 2000000) (_hpm : lp ≤ 2000000) (hw : wiB c 12801 = true) :
    Calls Tryz.prog 106 #[.agg #[.int .i64 2, .string d, .slice A lp cp, .int .i64 7, .int .i64 c, .slice B is.length ci]] w fun e w' => e = .returned (.bool (listB 2 7 c d lp is.length (itemsB is))) ∧ Below w.heap.size w w' := by
  have HLN : Hid (listB 2 7 c d lp is.length (itemsB is) = (decide (d.size = 0 ∧ lp = 0 ∧ (is.length : Int) = c) && itemsB is)) := Lib.hid (by unfold listB; rw [hw, Bool.eq_iff_iff]; simp [and_assoc])
  have HFALSE : Hid (itemsB is = false → listB 2 7 c d lp is.length (itemsB is) = false) := Lib.hid (fun h => by rw [HLN.out, h, Bool.and_false])
  have hse := toList_isEmpty d
  have HS7 : Hid (inB 7 0 7 = true) := Lib.hid (by decide)
  have HW : Hid (inB c 0 12800 = true) := Lib.hid (by rw [in_wi]; exact hw)
  have hba := (Below.refl w.heap.size w).alloc (Nat.le_refl _) (.cells #[.int .i64 2, .string d, .slice A lp cp, .int .i64 7, .int .i64 c, .slice B is.length ci] nodeT)
  have HF := Lib.hid (NdsAt.succ _ _ _ (hn.below hba))
  have HBW := Lib.hid hba
  have HR := Lib.hid (heap_alloc_new w (.cells #[.int .i64 2, .string d, .slice A lp cp, .int .i64 7, .int .i64 c, .slice B is.length ci] nodeT))
  have hsz : w.heap.size < (w.alloc (.cells #[.int .i64 2, .string d, .slice A lp cp, .int .i64 7, .int .i64 c, .slice B is.length ci] nodeT)).heap.size := by simp
  clear hw hn hba
  go_enter Tryz.func106, Tryz.ntmps106
  go_wp2_with (go_at_call 57; go_must (refine (l1In_any _ _ _ _).mono ?_); rintro e w1 ⟨rfl, rfl⟩; first | rw [HS7.out] | rw [HW.out])
  generalize w.alloc (.cells #[.int .i64 2, .string d, .slice A lp cp, .int .i64 7, .int .i64 c, .slice B is.length ci] nodeT) = W at *
  go_loopw [3] (fun i wr => ∃ k : Nat, i = .int .i64 k ∧ k ≤ is.length ∧ Hid ((is.take k).all (fun n => itemB n (is.headD default)) = true) ∧ Hid (Below W.heap.size W wr)) (fun i _ => is.length - (intOf i).toNat)
  case atStart => exact ⟨0, rfl, by omega, Lib.hid rfl, Lib.hid (Below.refl _ _)⟩
  case round =>
    obtain ⟨k, rfl, hk, HA, HB⟩ := hrel
    have hrw := (HB.out.block _ hsz).trans HR.out
    obtain ⟨e0, e1, e2, e3, e4, e5⟩ := cells6 hrw
    by_cases hlt : k < is.length
    · clear e0 e1 e2 e3 e4
      obtain ⟨x, hd, rfl, hc, hn⟩ := (HF.out.below HB.out).at_ hlt
      obtain ⟨x', hd0, hxx, hc0, hn0⟩ := (HF.out.below HB.out).at_ (k := 0) (by omega)
      obtain rfl : x = x' := Option.some.inj hxx
      rw [addr_zero] at hc0
      have HFL := Lib.hid (fun h => itemsB_false hlt h)
      have HTR := Lib.hid (fun h => itemsB_take hlt HA.out h)
      have h0l : 0 < is.length := by omega
      rw [head_at h0l] at hc0
      generalize is.headD default = hdn at hc0 HFL HTR
      generalize is[k] = n at hc HFL HTR
      obtain ⟨c0, c1, c2, c3, c4, c5⟩ := hc
      obtain ⟨-, d1, d2, -, -, -⟩ := hc0
      have HI := Lib.hid (fun W => l4Struct_any n.kind n.size n.count n.data hd.A hd.B n.ptrs.length hd.a n.items.length hd.b W)
      clear hn hn0 hrw
      go_wp2_with fail
      have q0 := cell_regrown c0
      have q1 := cell_regrown c1
      have q2 := cell_regrown c2
      have q3 := cell_regrown c3
      have q4 := cell_regrown c4
      have q5 := cell_regrown c5
      have e5' := cell_regrown e5
      have p1 := cell_regrown d1
      have p2 := cell_regrown d2
      cases hst : structB n.kind n.data n.size n.count n.items.length
      · have HX := Lib.hid (HFALSE.out (HFL.out (by simp [itemB, hst])))
        rw [hst] at HI
        refine wp_region_quiet_below (by kernel_rfl) (by kernel_rfl) ?_
        repeat (first | go_big_quiet_step ((go_at_call 105; with_reducible exact Calls.regrown_of (HI.out _))) | quiet_step ((go_at_call 105; with_reducible exact Calls.regrown_of (HI.out _))))
        refine wpQuiet_nil ?_
        intro _ hw'
        obtain ⟨⟨dq, osq⟩, hw''⟩ := hw'
        subst hw''
        have HB2 := Lib.hid (HB.out.trans ((below_regrown wr dq osq).mono HB.out.size))
        clear q0 q1 q2 q3 q4 q5 e5 e5' p1 p2 d1 d2 c0 c1 c2 c3 c4 c5
        generalize «Sort».grow (redrawn wr dq) osq = W2 at *
        go_wp2
        go_ret
        exact ⟨by rw [HX.out]; rfl, HBW.out.trans (HB2.out.mono HBW.out.size)⟩
      · rw [hst] at HI
        by_cases hz : n.data.size = hdn.data.size
        · have HZ := Lib.hid hz
          have hzb : ((n.data.size : Int) == (hdn.data.size : Int)) = true := by rw [hz]; simp
          have hzn : ((n.data.size : Int) != (hdn.data.size : Int)) = false := by rw [hz]; simp
          clear hz
          by_cases hp : n.ptrs.length = hdn.ptrs.length
          · have HX := Lib.hid (HTR.out (by simp [itemB, hst, HZ.out, hp]))
            have hpn : ((n.ptrs.length : Int) != (hdn.ptrs.length : Int)) = false := by rw [hp]; simp
            clear hp
            refine wp_region_quiet_below (by kernel_rfl) (by kernel_rfl) ?_
            repeat (first | go_big_quiet_step ((go_at_call 105; with_reducible exact Calls.regrown_of (HI.out _))) | quiet_step ((go_at_call 105; with_reducible exact Calls.regrown_of (HI.out _))))
            refine wpQuiet_nil ?_
            intro _ hw'
            obtain ⟨⟨dq, osq⟩, hw''⟩ := hw'
            subst hw''
            have HB2 := Lib.hid (HB.out.trans ((below_regrown wr dq osq).mono HB.out.size))
            clear q0 q1 q2 q3 q4 q5 e5 e5' p1 p2 d1 d2 c0 c1 c2 c3 c4 c5
            generalize «Sort».grow (redrawn wr dq) osq = W2 at *
            go_wp2
            go_roundw
            case rel => exact ⟨k + 1, by go_num, by omega, HX, HB2⟩
            case measure => simp [intOf]; omega
          · have HX := Lib.hid (HFALSE.out (HFL.out (by simp [itemB, hst, HZ.out, hp])))
            have hpn : ((n.ptrs.length : Int) != (hdn.ptrs.length : Int)) = true := by simp; omega
            clear hp
            refine wp_region_quiet_below (by kernel_rfl) (by kernel_rfl) ?_
            repeat (first | go_big_quiet_step ((go_at_call 105; with_reducible exact Calls.regrown_of (HI.out _))) | quiet_step ((go_at_call 105; with_reducible exact Calls.regrown_of (HI.out _))))
            refine wpQuiet_nil ?_
            intro _ hw'
            obtain ⟨⟨dq, osq⟩, hw''⟩ := hw'
            subst hw''
            have HB2 := Lib.hid (HB.out.trans ((below_regrown wr dq osq).mono HB.out.size))
            clear q0 q1 q2 q3 q4 q5 e5 e5' p1 p2 d1 d2 c0 c1 c2 c3 c4 c5
            generalize «Sort».grow (redrawn wr dq) osq = W2 at *
            go_wp2
            go_ret
            exact ⟨by rw [HX.out]; rfl, HBW.out.trans (HB2.out.mono HBW.out.size)⟩
        · have HX := Lib.hid (HFALSE.out (HFL.out (by simp [itemB, hst, hz])))
          have hzb : ((n.data.size : Int) == (hdn.data.size : Int)) = false := by simp; omega
          have hzn : ((n.data.size : Int) != (hdn.data.size : Int)) = true := by simp; omega
          refine wp_region_quiet_below (by kernel_rfl) (by kernel_rfl) ?_
          repeat (first | go_big_quiet_step ((go_at_call 105; with_reducible exact Calls.regrown_of (HI.out _))) | quiet_step ((go_at_call 105; with_reducible exact Calls.regrown_of (HI.out _))))
          refine wpQuiet_nil ?_
          intro _ hw'
          obtain ⟨⟨dq, osq⟩, hw''⟩ := hw'
          subst hw''
          have HB2 := Lib.hid (HB.out.trans ((below_regrown wr dq osq).mono HB.out.size))
          clear q0 q1 q2 q3 q4 q5 e5 e5' p1 p2 d1 d2 c0 c1 c2 c3 c4 c5
          generalize «Sort».grow (redrawn wr dq) osq = W2 at *
          go_wp2
          go_ret
          exact ⟨by rw [HX.out]; rfl, HBW.out.trans (HB2.out.mono HBW.out.size)⟩
    · obtain rfl : k = is.length := by omega
      rw [List.take_of_length_le (Nat.le_refl _)] at HA
      have HIB : Hid (itemsB is = true) := Lib.hid HA.out
      have HX : Hid (listB 2 7 c d lp is.length (itemsB is) = decide (d.size = 0 ∧ lp = 0 ∧ (is.length : Int) = c)) := Lib.hid (by rw [HLN.out, HIB.out, Bool.and_true])
      have HBE := Lib.hid (HBW.out.trans (HB.out.mono HBW.out.size))
      go_wp2
      all_goals go_ret
      all_goals refine ⟨?_, HBE.out⟩
      all_goals rw [HX.out]
      all_goals exact ret_bool (by rw [Bool.eq_iff_iff]; simp_all)
set_option maxHeartbeats 4000000 in
set_option maxRecDepth 100000 in
theorem l4List_a (m : Nat) (k s c : Int) (d : ByteArray) (A B : Option Addr) (lp cp ci : Nat) (is : List Nd) (w : World) (S : Nat → Prop) (hn : NdsAt w S m B is) (hdm : d.size ≤ maxLen) (hlm : is.length ≤ 2000000) (hpm : lp ≤ 2000000) :
    Calls Tryz.prog 106 #[.agg #[.int .i64 k, .string d, .slice A lp cp, .int .i64 s, .int .i64 c, .slice B is.length ci]] w fun e w' => e = .returned (.bool (listB k s c d lp is.length (itemsB is))) ∧ Below w.heap.size w w' := by
  by_cases hk : k = 2
  · subst hk
    by_cases hs : 0 ≤ s ∧ s ≤ 7
    · cases hw : wiB c 12801
      · have HX : Hid (listB 2 s c d lp is.length (itemsB is) = false) := Lib.hid (by unfold listB; rw [hw]; simp)
        have HS7 : Hid (inB s 0 7 = true) := Lib.hid (by simp [inB]; omega)
        have HW : Hid (inB c 0 12800 = false) := Lib.hid (by rw [in_wi]; exact hw)
        clear hw hn hs
        go_enter Tryz.func106, Tryz.ntmps106
        go_wp2_with (go_at_call 57; go_must (refine (l1In_any _ _ _ _).mono ?_); rintro e w1 ⟨rfl, rfl⟩; first | rw [HS7.out] | rw [HW.out])
        go_ret
        exact ⟨by rw [HX.out]; rfl, (Below.refl _ _).alloc (Nat.le_refl _) _⟩
      · by_cases h5 : s ≤ 5
        · exact l4List_0 m s c d A B lp cp ci is w S hn hdm hlm hpm hs.1 h5 hw
        · have h67 : s = 6 ∨ s = 7 := by omega
          rcases h67 with rfl | rfl
          · exact l4List_6 m c d A B lp cp ci is w S hn hdm hlm hpm hw
          · exact l4List_7 m c d A B lp cp ci is w S hn hdm hlm hpm hw
    · have HX : Hid (listB 2 s c d lp is.length (itemsB is) = false) := Lib.hid (by unfold listB; rw [if_neg (by omega), if_neg (by omega), if_neg (by omega)]; simp)
      have HS7 : Hid (inB s 0 7 = false) := Lib.hid (by simp [inB]; omega)
      have HW := HS7
      clear hn hs
      go_enter Tryz.func106, Tryz.ntmps106
      go_wp2_with (go_at_call 57; go_must (refine (l1In_any _ _ _ _).mono ?_); rintro e w1 ⟨rfl, rfl⟩; first | rw [HS7.out] | rw [HW.out])
      go_ret
      exact ⟨by rw [HX.out]; rfl, (Below.refl _ _).alloc (Nat.le_refl _) _⟩
  · have HX : Hid (listB k s c d lp is.length (itemsB is) = false) := Lib.hid (by unfold listB; simp [hk])
    clear hn
    go_enter Tryz.func106, Tryz.ntmps106
    go_wp2
    go_ret
    exact ⟨by rw [HX.out]; rfl, (Below.refl _ _).alloc (Nat.le_refl _) _⟩
end Go.Proofs.YtbijfkpilncclaaGreat
