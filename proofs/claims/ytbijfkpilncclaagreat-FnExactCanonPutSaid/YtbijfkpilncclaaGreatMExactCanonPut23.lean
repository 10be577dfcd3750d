/- Texts of the proof of the law FnExactCanonPut, side by side: part 23. -/
import Derived.Laws.BitsAllLaws
import Derived.Deep.RegionLaw
import Derived.Deep.RegionWith
import Derived.Deep.DeepMust
import Derived.Deep.QuietTactic
import Derived.BigQuiet
import Derived.RegionTactic
import Derived.BigRegion
import Derived.StillTailTactics
import Derived.Deep.RegionHeld3
import Derived.Test.YtbijfkpilncclaaGreatMExactCanonPut00
import Derived.Test.YtbijfkpilncclaaGreatMExactCanonPut01
import Derived.Test.YtbijfkpilncclaaGreatMExactCanonPut02
import Derived.Test.YtbijfkpilncclaaGreatMExactCanonPut03
import Derived.Test.YtbijfkpilncclaaGreatMExactCanonPut04
import Derived.Test.YtbijfkpilncclaaGreatMExactCanonPut05
import Derived.Test.YtbijfkpilncclaaGreatMExactCanonPut06
import Derived.Test.YtbijfkpilncclaaGreatMExactCanonPut07
import Derived.Test.YtbijfkpilncclaaGreatMExactCanonPut08
import Derived.Test.YtbijfkpilncclaaGreatMExactCanonPut09
import Derived.Test.YtbijfkpilncclaaGreatMExactCanonPut10
import Derived.Test.YtbijfkpilncclaaGreatMExactCanonPut11
import Derived.Test.YtbijfkpilncclaaGreatMExactCanonPut12
import Derived.Test.YtbijfkpilncclaaGreatMExactCanonPut13
import Derived.Test.YtbijfkpilncclaaGreatMExactCanonPut14
import Derived.Test.YtbijfkpilncclaaGreatMExactCanonPut15
import Derived.Test.YtbijfkpilncclaaGreatMExactCanonPut16
import Derived.Test.YtbijfkpilncclaaGreatMExactCanonPut17
import Derived.Test.YtbijfkpilncclaaGreatMExactCanonPut18
import Derived.Test.YtbijfkpilncclaaGreatMExactCanonPut19
import Derived.Test.YtbijfkpilncclaaGreatMExactCanonPut20
import Derived.Test.YtbijfkpilncclaaGreatMExactCanonPut21
import Derived.Test.YtbijfkpilncclaaGreatMExactCanonPut22
/- The words of pointers: of both programs, where pointers are not read. -/
namespace Go.Proofs.YtbijfkpilncclaaGreat
open Go.RowKit
theorem cells8B {w : World} {b : Nat} {a0 a1 a2 a3 a4 a5 a6 a7 : Value} {T : TypeId} (h : w.heap[b]? = some (.cells #[a0, a1, a2, a3, a4, a5, a6, a7] T (0, 0))) :
    w.cell? ⟨b, 0, none⟩ = some a0 ∧ w.cell? ⟨b, 1, none⟩ = some a1 ∧ w.cell? ⟨b, 2, none⟩ = some a2 ∧ w.cell? ⟨b, 3, none⟩ = some a3 ∧ w.cell? ⟨b, 4, none⟩ = some a4 ∧ w.cell? ⟨b, 5, none⟩ = some a5 ∧ w.cell? ⟨b, 6, none⟩ = some a6 ∧ w.cell? ⟨b, 7, none⟩ = some a7 := by
  simp [World.cell?, h]
theorem kept8B {w w' : World} {b : Nat} {o : Obj} (h : w.heap[b]? = some o) (hb : Below w.heap.size w w') : w'.heap[b]? = some o := by
  have hlt : b < w.heap.size := by
    rcases Nat.lt_or_ge b w.heap.size with hlt | hge
    · exact hlt
    · rw [Array.getElem?_eq_none hge] at h; cases h
  exact (hb.block b hlt).trans h
/-- a Point as a value. -/
def ptvB (k o d p s c g : Int) (t : Bool) : Value := .agg #[.int .i64 k, .int .i64 o, .int .i64 d, .int .i64 p, .int .i64 s, .int .i64 c, .int .i64 g, .bool t]
theorem and_offB (o : Int) (_h0 : -536870912 ≤ o) (_h1 : o ≤ 536870911) : bits .and .i64 (o * 4) 4294967295 = offN o := by
  obtain ⟨n, hn⟩ : ∃ n : Nat, offN o = (n : Int) := ⟨(offN o).toNat, by have := offN_bd o; omega⟩
  have hm : (BitVec.ofInt 64 (o * 4)).toNat % 4294967296 = n := by
    rw [BitVec.toNat_ofInt]
    have : (o * 4) % 4294967296 = (n : Int) := by rw [← hn]; unfold offN; omega
    omega
  show IntKind.i64.wrap ((BitVec.ofInt 64 (o * 4) &&& BitVec.ofInt 64 4294967295).toNat : Int) = _
  have hk : (BitVec.ofInt 64 4294967295).toNat = 2 ^ 32 - 1 := by decide
  rw [BitVec.toNat_and, hk, Nat.and_two_pow_sub_one_eq_mod, show (2 : Nat) ^ 32 = 4294967296 from rfl, hm, hn, IntKind.wrap_i64]
  have := offN_bd o
  omega
theorem or_i64B (a b : Nat) (ha : a < 9223372036854775808) (hb : b < 9223372036854775808) : bits .or .i64 (a : Int) (b : Int) = ((a ||| b : Nat) : Int) := by
  have hx : a ||| b < 2 ^ 63 := Nat.or_lt_two_pow (by omega) (by omega)
  show IntKind.i64.wrap ((BitVec.ofInt 64 (a : Int) ||| BitVec.ofInt 64 (b : Int)).toNat : Int) = _
  rw [BitVec.toNat_or, ofInt_i64' a ha, ofInt_i64' b hb, IntKind.wrap_i64]
  omega
theorem or_joinB (k : Nat) (x b : Int) (hx0 : 0 ≤ x) (hx1 : x < 1152921504606846976) (hk : k ≤ 3) (hb0 : 0 ≤ b) (hb : b < 2 ^ k) (hm : x % 2 ^ k = 0) : bits .or .i64 x b = x + b := by
  obtain ⟨x, rfl⟩ := Int.eq_ofNat_of_zero_le hx0
  obtain ⟨b, rfl⟩ := Int.eq_ofNat_of_zero_le hb0
  have hkk : k = 0 ∨ k = 1 ∨ k = 2 ∨ k = 3 := by omega
  rcases hkk with rfl | rfl | rfl | rfl
  all_goals
    simp only [Int.reducePow] at hb hm
    rw [or_i64B x b (by omega) (by omega)]
  · obtain rfl : b = 0 := by omega
    simp
  · rw [nat_join 1 x b (by omega) (by omega)]; omega
  · rw [nat_join 2 x b (by omega) (by omega)]; omega
  · rw [nat_join 3 x b (by omega) (by omega)]; omega
theorem str_addB (a b : List UInt8) : (⟨a.toArray⟩ : ByteArray) ++ ⟨b.toArray⟩ = ⟨(a ++ b).toArray⟩ := by
  apply ext_ba; rw [ByteArray.data_append]; simp
theorem ret_str2B {a b : ByteArray} (h : a.data.toList = b.data.toList) : Ending.returned (.string a) = .returned (.string b) := by rw [ext_ba h]
theorem kept_dB {w w' : World} {b : Nat} {o : Obj} (h : w.heap[b]? = some o) (hb : Below w.drew.heap.size w.drew w') : w'.heap[b]? = some o := kept8B (w := w.drew) h hb
theorem then_dB {a w w1 : World} (h : Below a.heap.size a w) (hb : Below w.drew.heap.size w.drew w1) : Below a.heap.size a w1 := h.drew.trans (hb.mono h.size)
theorem then_nB {a w w1 : World} (h : Below a.heap.size a w) (hb : Below w.heap.size w w1) : Below a.heap.size a w1 := h.trans (hb.mono h.size)
set_option maxHeartbeats 1000000 in
set_option maxRecDepth 100000 in
theorem l2Put_strB (o d p : Int) (w : World) (h0 : -536870912 ≤ o) (h1 : o ≤ 536870911) (hd0 : 0 ≤ d) (hd1 : d < 65536) (_hp0 : 0 ≤ p) (_hp1 : p < 65536) :
    Calls Tryz.prog 123 #[ptvB 1 o d p 0 0 0 false] w fun e w' => e = .returned (.string ⟨(leB (offN o) 4 ++ leB (d + 65536 * p) 4).toArray⟩) ∧ Below w.heap.size w w' := by
  have ho := and_offB o h0 h1
  have e1 : IntKind.i64.wrap (o * 4) = o * 4 := by rw [IntKind.wrap_i64]; omega
  have f1 : ¬ 9223372036854775807 < (leB (offN o) 4).length + (leB d 2).length := by rw [leB_length, leB_length]; omega
  have f2 : ¬ 9223372036854775807 < (leB (offN o) 4).length + (leB d 2).length + (leB p 2).length := by rw [leB_length, leB_length, leB_length]; omega
  have hfin := leB_four d p hd0 hd1
  have HF := Lib.hid hfin
  clear hfin
  unfold ptvB
  go_enter Tryz.func123, Tryz.ntmps123
  go_wp2_with fail
  have hblk := heap_alloc_new w (.cells #[.int .i64 1, .int .i64 o, .int .i64 d, .int .i64 p, .int .i64 0, .int .i64 0, .int .i64 0, .bool false] 166)
  obtain ⟨c0, c1, c2, c3, c4, c5, c6, c7⟩ := cells8B hblk
  have HK := Lib.hid hblk
  have hbb := (Below.refl w.heap.size w).alloc (Nat.le_refl _) (.cells #[.int .i64 1, .int .i64 o, .int .i64 d, .int .i64 p, .int .i64 0, .int .i64 0, .int .i64 0, .bool false] 166)
  clear hblk
  go_region_law (go_simp; go_at_call 60; go_must (refine (l1Bytes_any _ _ _ (by decide) (by decide)).mono ?_); rintro e w2 ⟨rfl, hb2⟩; replace hbb : Below w.heap.size w w2 := (by first | exact then_nB hbb hb2 | exact then_dB hbb hb2); replace HK : Hid (w2.heap[w.heap.size]? = some (.cells #[.int .i64 1, .int .i64 o, .int .i64 d, .int .i64 p, .int .i64 0, .int .i64 0, .int .i64 0, .bool false] 166 (0, 0))) := (by first | exact kept8B HK.out hb2 | exact kept_dB HK.out hb2); clear c0 c1 c2 c3 c4 c5 c6 c7; obtain ⟨c0, c1, c2, c3, c4, c5, c6, c7⟩ := cells8B HK.out; clear hb2)
  all_goals
    go_wp2
    go_ret
    refine ⟨ret_str2B ?_, hbb⟩
    rw [HF.out, ByteArray.data_append, ByteArray.data_append]
    simp
set_option maxHeartbeats 1000000 in
set_option maxRecDepth 100000 in
theorem l2Put_lisB (o z c : Int) (w : World) (h0 : -536870912 ≤ o) (h1 : o ≤ 536870911) (hz0 : 0 ≤ z) (hz1 : z < 8) (hc0 : 0 ≤ c) (hc1 : c < 536870912) :
    Calls Tryz.prog 123 #[.agg #[.int .i64 2, .int .i64 o, .int .i64 0, .int .i64 0, .int .i64 z, .int .i64 c, .int .i64 0, .bool false]] w fun e w' => e = .returned (.string ⟨(leB (offN o + 1) 4 ++ leB (c * 8 + z) 4).toArray⟩) ∧ Below w.heap.size w w' := by
  have ho := and_offB o h0 h1
  have hob := offN_bd o
  have e1 : IntKind.i64.wrap (o * 4) = o * 4 := by rw [IntKind.wrap_i64]; omega
  have e2 : IntKind.i64.wrap (c * 8) = c * 8 := by rw [IntKind.wrap_i64]; omega
  have q1 : bits .or .i64 (offN o) 1 = offN o + 1 := or_joinB 2 _ 1 (by omega) (by omega) (by omega) (by omega) (by decide) (by unfold offN; omega)
  have q2 : bits .or .i64 (c * 8) z = c * 8 + z := or_joinB 3 _ z (by omega) (by omega) (by omega) (by omega) (by simpa using hz1) (by omega)
  have f1 : ¬ 9223372036854775807 < (leB (offN o + 1) 4).length + (leB (c * 8 + z) 4).length := by rw [leB_length, leB_length]; omega
  clear hob
  go_enter Tryz.func123, Tryz.ntmps123
  go_wp2_with fail
  have hblk := heap_alloc_new w (.cells #[.int .i64 2, .int .i64 o, .int .i64 0, .int .i64 0, .int .i64 z, .int .i64 c, .int .i64 0, .bool false] 166)
  obtain ⟨c0, c1, c2, c3, c4, c5, c6, c7⟩ := cells8B hblk
  have HK := Lib.hid hblk
  have hbb := (Below.refl w.heap.size w).alloc (Nat.le_refl _) (.cells #[.int .i64 2, .int .i64 o, .int .i64 0, .int .i64 0, .int .i64 z, .int .i64 c, .int .i64 0, .bool false] 166)
  clear hblk
  go_region_law (go_simp; go_at_call 60; go_must (refine (l1Bytes_any _ _ _ (by decide) (by decide)).mono ?_); rintro e w2 ⟨rfl, hb2⟩; replace hbb : Below w.heap.size w w2 := (by first | exact then_nB hbb hb2 | exact then_dB hbb hb2); replace HK : Hid (w2.heap[w.heap.size]? = some (.cells #[.int .i64 2, .int .i64 o, .int .i64 0, .int .i64 0, .int .i64 z, .int .i64 c, .int .i64 0, .bool false] 166 (0, 0))) := (by first | exact kept8B HK.out hb2 | exact kept_dB HK.out hb2); clear c0 c1 c2 c3 c4 c5 c6 c7; obtain ⟨c0, c1, c2, c3, c4, c5, c6, c7⟩ := cells8B HK.out; clear hb2)
  all_goals
    go_wp2
    go_ret
    refine ⟨ret_str2B ?_, hbb⟩
    rw [ByteArray.data_append]
    simp
set_option maxHeartbeats 1000000 in
set_option maxRecDepth 100000 in
theorem l2Put_far0B (o g : Int) (w : World) (h0 : 0 ≤ o) (h1 : o ≤ 536870911) :
    Calls Tryz.prog 123 #[.agg #[.int .i64 3, .int .i64 o, .int .i64 0, .int .i64 0, .int .i64 0, .int .i64 0, .int .i64 g, .bool false]] w fun e w' => e = .returned (.string ⟨(leB (o * 8 + 2) 4 ++ leB g 4).toArray⟩) ∧ Below w.heap.size w w' := by
  have e1 : IntKind.i64.wrap (o * 8) = o * 8 := by rw [IntKind.wrap_i64]; omega
  have q1 : bits .or .i64 (o * 8) 0 = o * 8 := by rw [or_joinB 0 _ 0 (by omega) (by omega) (by omega) (by omega) (by decide) (by simp)]; omega
  have q2 : bits .or .i64 (o * 8) 2 = o * 8 + 2 := or_joinB 2 _ 2 (by omega) (by omega) (by omega) (by omega) (by decide) (by simp only [Int.reducePow]; omega)
  have f1 : ¬ 9223372036854775807 < (leB (o * 8 + 2) 4).length + (leB g 4).length := by rw [leB_length, leB_length]; omega
  go_enter Tryz.func123, Tryz.ntmps123
  go_wp2_with fail
  have hblk := heap_alloc_new w (.cells #[.int .i64 3, .int .i64 o, .int .i64 0, .int .i64 0, .int .i64 0, .int .i64 0, .int .i64 g, .bool false] 166)
  obtain ⟨c0, c1, c2, c3, c4, c5, c6, c7⟩ := cells8B hblk
  have HK := Lib.hid hblk
  have hbb := (Below.refl w.heap.size w).alloc (Nat.le_refl _) (.cells #[.int .i64 3, .int .i64 o, .int .i64 0, .int .i64 0, .int .i64 0, .int .i64 0, .int .i64 g, .bool false] 166)
  clear hblk
  go_region_law (go_simp; go_at_call 60; go_must (refine (l1Bytes_any _ _ _ (by decide) (by decide)).mono ?_); rintro e w2 ⟨rfl, hb2⟩; replace hbb : Below w.heap.size w w2 := (by first | exact then_nB hbb hb2 | exact then_dB hbb hb2); replace HK : Hid (w2.heap[w.heap.size]? = some (.cells #[.int .i64 3, .int .i64 o, .int .i64 0, .int .i64 0, .int .i64 0, .int .i64 0, .int .i64 g, .bool false] 166 (0, 0))) := (by first | exact kept8B HK.out hb2 | exact kept_dB HK.out hb2); clear c0 c1 c2 c3 c4 c5 c6 c7; obtain ⟨c0, c1, c2, c3, c4, c5, c6, c7⟩ := cells8B HK.out; clear hb2)
  all_goals
    go_wp2
    go_ret
    refine ⟨ret_str2B ?_, hbb⟩
    rw [ByteArray.data_append]
    simp
theorem or_u64B (k : Nat) (x b : Int) (hx0 : 0 ≤ x) (hx1 : x < 18446744073709551616) (hb0 : 0 ≤ b) (hb1 : b < 18446744073709551616) (hx : x < 2 ^ k) (hm : b % 2 ^ k = 0) : bits .or .u64 x b = x + b := by
  obtain ⟨x, rfl⟩ := Int.eq_ofNat_of_zero_le hx0
  obtain ⟨b, rfl⟩ := Int.eq_ofNat_of_zero_le hb0
  have e : ((2 : Int) ^ k) = ((2 ^ k : Nat) : Int) := by rw [Int.natCast_pow]; rfl
  rw [e] at hx hm
  rw [u64_or_nat x b (by omega) (by omega), Nat.or_comm, nat_join k b x (by omega) (by omega)]
  omega
set_option maxHeartbeats 400000 in
theorem offBits_anyB (o : Int) (w : World) (_h0 : -536870912 ≤ o) (_h1 : o ≤ 536870911) :
    Calls Tryz.prog 173 #[.int .i64 o] w fun e w' => e = .returned (.int .u64 (offN o)) ∧ w = w' := by
  go_enter Tryz.func173, Tryz.ntmps173
  go_wp2
  go_ret
  exact ⟨ret_int (by unfold offN; omega), rfl⟩
theorem below_dNB {B : Nat} {a w : World} (h : Below B a w) (n : Nat) : Below B a (w.drewN n) := ⟨h.os, h.tape, h.output, h.size, h.block⟩
theorem offBits_qB (o : Int) (w : World) (h0 : -536870912 ≤ o) (h1 : o ≤ 536870911) :
    Calls Tryz.prog 173 #[.int .i64 o] w fun e w' => e = .returned (.int .u64 (offN o)) ∧ w' = w := (offBits_anyB o w h0 h1).mono fun _ _ h => ⟨h.1, h.2.symm⟩
set_option maxHeartbeats 1000000 in
theorem bits_strB (o d p : Int) (w : World) (h0 : -536870912 ≤ o) (h1 : o ≤ 536870911) (hd0 : 0 ≤ d) (hd1 : d < 65536) (hp0 : 0 ≤ p) (hp1 : p < 65536) :
    Calls Tryz.prog 171 #[.agg #[.int .i64 o, .int .i64 d, .int .i64 p]] w fun e w' => e = .returned (.int .u64 (offN o + 4294967296 * (d + 65536 * p))) ∧ Below w.heap.size w w' := by
  have hb := offN_bd o
  have e1 : IntKind.u64.wrap d = d := by rw [IntKind.wrap_u64]; omega
  have e2 : IntKind.u64.wrap p = p := by rw [IntKind.wrap_u64]; omega
  have e3 : IntKind.u64.wrap (d * 4294967296) = d * 4294967296 := by rw [IntKind.wrap_u64]; omega
  have e4 : IntKind.u64.wrap (p * 281474976710656) = p * 281474976710656 := by rw [IntKind.wrap_u64]; omega
  have q1 : bits .or .u64 (offN o) (d * 4294967296) = offN o + d * 4294967296 := or_u64B 32 _ _ (by omega) (by omega) (by omega) (by omega) (by simp only [Int.reducePow]; omega) (by simp only [Int.reducePow]; omega)
  have q2 : bits .or .u64 (offN o + d * 4294967296) (p * 281474976710656) = offN o + d * 4294967296 + p * 281474976710656 := or_u64B 48 _ _ (by omega) (by omega) (by omega) (by omega) (by simp only [Int.reducePow]; omega) (by simp only [Int.reducePow]; omega)
  go_enter Tryz.func171, Tryz.ntmps171
  go_wp2_with fail
  go_quiet ((go_at_call 173; exact Calls.quiet_of_same (offBits_qB o _ h0 h1)))
  go_wp2
  go_ret
  exact ⟨ret_int (by omega), below_dNB ((Below.refl _ _).alloc (Nat.le_refl _) _) _⟩
set_option maxHeartbeats 1000000 in
theorem bits_lisB (o z c : Int) (w : World) (h0 : -536870912 ≤ o) (h1 : o ≤ 536870911) (hz0 : 0 ≤ z) (hz1 : z < 8) (hc0 : 0 ≤ c) (hc1 : c < 536870912) :
    Calls Tryz.prog 176 #[.agg #[.int .i64 o, .int .i64 z, .int .i64 c]] w fun e w' => e = .returned (.int .u64 (offN o + 1 + 4294967296 * (c * 8 + z))) ∧ Below w.heap.size w w' := by
  have hb := offN_bd o
  have e1 : IntKind.u64.wrap z = z := by rw [IntKind.wrap_u64]; omega
  have e2 : IntKind.u64.wrap c = c := by rw [IntKind.wrap_u64]; omega
  have e3 : IntKind.u64.wrap (z * 4294967296) = z * 4294967296 := by rw [IntKind.wrap_u64]; omega
  have e4 : IntKind.u64.wrap (c * 34359738368) = c * 34359738368 := by rw [IntKind.wrap_u64]; omega
  have q0 : bits .or .u64 1 (offN o) = 1 + offN o := or_u64B 2 _ _ (by omega) (by omega) (by omega) (by omega) (by simp only [Int.reducePow]; omega) (by simp only [Int.reducePow]; unfold offN; omega)
  have q1 : bits .or .u64 (1 + offN o) (z * 4294967296) = 1 + offN o + z * 4294967296 := or_u64B 32 _ _ (by omega) (by omega) (by omega) (by omega) (by simp only [Int.reducePow]; unfold offN; omega) (by simp only [Int.reducePow]; omega)
  have q2 : bits .or .u64 (1 + offN o + z * 4294967296) (c * 34359738368) = 1 + offN o + z * 4294967296 + c * 34359738368 := or_u64B 35 _ _ (by omega) (by omega) (by omega) (by omega) (by simp only [Int.reducePow]; unfold offN; omega) (by simp only [Int.reducePow]; omega)
  go_enter Tryz.func176, Tryz.ntmps176
  go_wp2_with fail
  go_quiet ((go_at_call 173; exact Calls.quiet_of_same (offBits_qB o _ h0 h1)))
  go_wp2
  go_ret
  exact ⟨ret_int (by omega), below_dNB ((Below.refl _ _).alloc (Nat.le_refl _) _) _⟩
theorem or_fourB (a : Int) (h0 : 0 ≤ a) (h1 : a < 18446744073709551610) (hm : a % 8 = 0) : bits .or .u64 (a + 2) 4 = a + 6 := by
  obtain ⟨n, rfl⟩ := Int.eq_ofNat_of_zero_le h0
  have e1 : (n : Int) + 2 = ((n ||| 2 : Nat) : Int) := by rw [nat_join 3 n 2 (by omega) (by omega)]; omega
  have e2 : (n ||| 2) ||| 4 = n + 6 := by rw [Nat.or_assoc, show (2 ||| 4 : Nat) = 6 from rfl, nat_join 3 n 6 (by omega) (by omega)]
  rw [e1, show (4 : Int) = ((4 : Nat) : Int) from rfl, u64_or_nat _ 4 (by rw [nat_join 3 n 2 (by omega) (by omega)]; omega) (by omega), e2]
  omega
set_option maxHeartbeats 1000000 in
theorem bits_far0B (o g : Int) (w : World) (h0 : 0 ≤ o) (h1 : o ≤ 536870911) (hg0 : 0 ≤ g) (hg1 : g < 4294967296) :
    Calls Tryz.prog 174 #[.agg #[.int .i64 o, .int .i64 g, .bool false]] w fun e w' => e = .returned (.int .u64 (o * 8 + 2 + 4294967296 * g)) ∧ Below w.heap.size w w' := by
  have e1 : IntKind.u64.wrap o = o := by rw [IntKind.wrap_u64]; omega
  have e2 : IntKind.u64.wrap g = g := by rw [IntKind.wrap_u64]; omega
  have e3 : IntKind.u64.wrap (o * 8) = o * 8 := by rw [IntKind.wrap_u64]; omega
  have e4 : IntKind.u64.wrap (g * 4294967296) = g * 4294967296 := by rw [IntKind.wrap_u64]; omega
  have q0 : bits .or .u64 2 (o * 8) = 2 + o * 8 := or_u64B 3 _ _ (by omega) (by omega) (by omega) (by omega) (by simp only [Int.reducePow]; omega) (by simp only [Int.reducePow]; omega)
  have q1 : bits .or .u64 (2 + o * 8) (g * 4294967296) = 2 + o * 8 + g * 4294967296 := or_u64B 32 _ _ (by omega) (by omega) (by omega) (by omega) (by simp only [Int.reducePow]; omega) (by simp only [Int.reducePow]; omega)
  go_enter Tryz.func174, Tryz.ntmps174
  go_wp2
  go_ret
  exact ⟨ret_int (by omega), (Below.refl _ _).alloc (Nat.le_refl _) _⟩
end Go.Proofs.YtbijfkpilncclaaGreat

/- The specification's writer: bytes are put; words more. -/
namespace Go.Proofs.YtbijfkpilncclaaGreat
open Go.RowKit Go.Deep
def PutQ (base b size : Nat) (ss : Segs) (i a : Nat) (t : List UInt8) (P : Nat → Prop) (w : World) (e : Ending) (w' : World) : Prop :=
  e = .returned (.tuple #[]) ∧ KP P w w' ∧ Sb w' base b size (putS ss i a t) false P
theorem spl_ba (s t : List UInt8) (p : Nat) (h : p + t.length ≤ s.length) : ((⟨s.toArray⟩ : ByteArray).extract 0 p ++ (⟨t.toArray⟩ : ByteArray)) ++ (⟨s.toArray⟩ : ByteArray).extract (p + t.length) s.length = ⟨(spl s p t).toArray⟩ := by
  apply ext_ba
  rw [ByteArray.data_append, ByteArray.data_append, Array.toList_append, Array.toList_append, Lib.extract_data, Lib.extract_data]
  unfold spl
  simp
  rw [List.take_of_length_le (by rw [List.length_drop]; exact Nat.le_refl _)]
set_option maxHeartbeats 2000000 in
set_option maxRecDepth 100000 in
theorem sput_any (base b size : Nat) (ss : Segs) (P : Nat → Prop) (w : World) (h : Sb w base b size ss false P) (i a : Nat) (t : List UInt8) (hi : i < ss.length) (ha : 8 * a + t.length ≤ (sgS ss i).length) (hl : (sgS ss i).length ≤ 100000) :
    Calls Tryz.prog 122 #[.pointer (some ⟨b, 0, none⟩), .int .i64 (i : Int), .int .i64 (a : Int), .string ⟨t.toArray⟩] w (PutQ base b size ss i a t P w) := by
  obtain ⟨r, cap, hb, ⟨hPr, hrl, hrb⟩, hc, hst⟩ := h.open_ (by omega)
  obtain ⟨c0, c1, c2⟩ := cells3 hb
  obtain ⟨hci, hfi⟩ := hc i hi
  have hfin := hst i (spl (sgS ss i) (8 * a) t) hi
  have hba := spl_ba (sgS ss i) t (8 * a) ha
  have hts : (⟨t.toArray⟩ : ByteArray).size = t.length := by simp [ByteArray.size]
  have hss : (⟨(sgS ss i).toArray⟩ : ByteArray).size = (sgS ss i).length := by simp [ByteArray.size]
  have hlt : (i : Int) < (ss.length : Int) := by omega
  have HF := Lib.hid hfin
  have HPR := Lib.hid hPr
  obtain ⟨s, hs⟩ : ∃ s, sgS ss i = s := ⟨_, rfl⟩
  rw [hs] at hci hfin hba hss ha hl HF
  have HS := Lib.hid hs
  obtain ⟨S, hS⟩ : ∃ S : ByteArray, S = ⟨s.toArray⟩ := ⟨_, rfl⟩
  obtain ⟨T, hT⟩ : ∃ T : ByteArray, T = ⟨t.toArray⟩ := ⟨_, rfl⟩
  unfold strS at hci
  rw [← hS] at hci hss hba
  rw [← hT] at hts hba ⊢
  have hx1 : (0 : Int) ≤ 8 * (a : Int) := by omega
  have hx2 : 8 * (a : Int) ≤ (S.size : Int) := by rw [hss]; omega
  have hx3 : (0 : Int) ≤ 8 * (a : Int) + (T.size : Int) := by omega
  have hx4 : 8 * (a : Int) + (T.size : Int) ≤ (S.size : Int) := by rw [hss, hts]; omega
  have hN1 : (8 * (a : Int)).toNat = 8 * a := by omega
  have hN2 : (8 * (a : Int) + (T.size : Int)).toNat = 8 * a + T.size := by omega
  have hT5 : T.size ≤ 100000 := by omega
  have hS5 : S.size ≤ 100000 := by omega
  have hsz1 : (S.extract 0 (8 * a)).size ≤ 100000 := by rw [ByteArray.size_extract]; omega
  have HFIN : Hid (∀ W : World, W = w.setCell ⟨r, i, none⟩ (.string ((S.extract 0 (8 * a) ++ T) ++ S.extract (8 * a + T.size) S.size)) → KP P w W ∧ Sb W base b size (putS ss i a t) false P) := Lib.hid (fun W hW => by
    subst hW
    rw [hts, hss, hba]
    refine ⟨KP.set HPR.out _ _ _, ?_⟩
    have := HF.out
    unfold putS
    rw [HS.out]
    exact this)
  have HSS := Lib.hid hss
  have HTS := Lib.hid hts
  clear hfin hba hs hS hT hss hts hc hst ha
  go_enter Tryz.func122, Tryz.ntmps122
  go_wp2_with fail
  go_region
  obtain ⟨k1, k2⟩ := HFIN.out _ rfl
  go_end0
  exact ⟨rfl, k1.drew, k2.drew⟩
def RoomSQ (base b size : Nat) (ss : Segs) (i k : Nat) (P : Nat → Prop) (w : World) (e : Ending) (w' : World) : Prop :=
  e = .returned (.int .i64 (wn (sgS ss i) : Nat)) ∧ KP P w w' ∧ Sb w' base b size (growB ss i k) false P
set_option maxHeartbeats 2000000 in
set_option maxRecDepth 100000 in
theorem sroom_any (base b size : Nat) (ss : Segs) (P : Nat → Prop) (w : World) (h : Sb w base b size ss false P) (i k : Nat) (hi : i < ss.length) (hk : k ≤ 10000) (hl : (sgS ss i).length ≤ 100000) :
    Calls Tryz.prog 125 #[.pointer (some ⟨b, 0, none⟩), .int .i64 (i : Int), .int .i64 (k : Int)] w (RoomSQ base b size ss i k P w) := by
  obtain ⟨r, cap, hb, ⟨hPr, hrl, hrb⟩, hc, hst⟩ := h.open_ (by omega)
  obtain ⟨c0, c1, c2⟩ := cells3 hb
  obtain ⟨hci, hfi⟩ := hc i hi
  have hss : (⟨(sgS ss i).toArray⟩ : ByteArray).size = (sgS ss i).length := by simp [ByteArray.size]
  have hlt : (i : Int) < (ss.length : Int) := by omega
  have HH := Lib.hid h
  have HB := Lib.hid hb
  have HC := Lib.hid hci
  have HPR := Lib.hid hPr
  obtain ⟨s, hs⟩ : ∃ s, sgS ss i = s := ⟨_, rfl⟩
  rw [hs] at hci hss hl HC
  have HS := Lib.hid hs
  obtain ⟨S, hS⟩ : ∃ S : ByteArray, S = ⟨s.toArray⟩ := ⟨_, rfl⟩
  unfold strS at hci HC
  rw [← hS] at hci hss HC
  have HSV := Lib.hid hS
  have hn8 : (8 * (k : Int)).toNat = 8 * k := by omega
  have HM := Lib.hid (fun W => l1Many_any ⟨#[0]⟩ (8 * (k : Int)) W (by omega) (by omega) (by decide) (by show 1 * _ ≤ _; omega))
  obtain ⟨Z, hZ⟩ : ∃ Z : ByteArray, Z = ⟨(zer k).toArray⟩ := ⟨_, rfl⟩
  have hzz : (⟨(repL (⟨#[0]⟩ : ByteArray).data.toList (8 * (k : Int)).toNat).toArray⟩ : ByteArray) = Z := by
    rw [hZ, hn8]
    congr 2
    unfold zer
    generalize 8 * k = q
    induction q with
    | zero => rfl
    | succ q ih => rw [List.replicate_succ, ← ih]; rfl
  have hzs : Z.size = 8 * k := by rw [hZ]; simp [ByteArray.size, zer_length]
  have HZV := Lib.hid hZ
  have hS5 : S.size ≤ 100000 := by omega
  have hZ5 : Z.size ≤ 100000 := by omega
  have hcc : ¬ 9223372036854775807 < S.size + Z.size := by omega
  have HE : Hid (((S.size : Int) / 8) = ((wn (sgS ss i) : Nat) : Int)) := Lib.hid (by rw [HS.out]; unfold wn; rw [hss]; omega)
  have hHM : ∀ W, Calls Tryz.prog 54 #[.string ⟨#[0]⟩, .int .i64 (8 * (k : Int))] W fun e w' => e = .returned (.string Z) ∧ W = w' := fun W => by
    have := HM.out W
    rw [hzz] at this
    exact this
  have HHM := Lib.hid hHM
  have HFIN : Hid (∀ W : World, W = w.setCell ⟨r, i, none⟩ (.string (S ++ Z)) → KP P w W.drew ∧ Sb W.drew base b size (growB ss i k) false P) := Lib.hid (fun W hW => by
    subst hW
    have h1 := hst i (s ++ zer k) hi
    have e : (⟨(s ++ zer k).toArray⟩ : ByteArray) = S ++ Z := by
      rw [hS, hZ]; apply ext_ba; rw [ByteArray.data_append]; simp
    unfold strS at h1
    rw [e] at h1
    refine ⟨(KP.set HPR.out _ _ _).drew, ?_⟩
    unfold growB
    rw [HS.out]
    exact h1.drew)
  have hw8k : IntKind.i64.wrap (8 * (k : Int)) = 8 * (k : Int) := by rw [IntKind.wrap_i64]; omega
  clear hHM hzz hzs hS hZ hn8 hs h hb hc hst HM hss
  go_enter Tryz.func125, Tryz.ntmps125
  go_wp2_with fail
  refine wp_region_still_tail 17 (by kernel_rfl) (by kernel_rfl) ?_
  simp only [List.take_succ_cons, List.take_zero, List.drop_succ_cons, List.drop_zero]
  repeat still_step
  refine wpStill_step (fun K hK => ?_)
  go_simp
  refine ⟨_, (HHM.out _).mono (fun e w' h => ⟨h.1, h.2.symm⟩), hK _ ?_⟩
  clear hK K
  repeat still_step
  refine wpStill_nil ?_
  change wpList _ _ _ _ _ w.drew
  have q0 : w.drew.cell? ⟨b, 0, none⟩ = some (.slice (some ⟨r, 0, none⟩) ss.length cap) := c0
  have q1 : w.drew.cell? ⟨r, i, none⟩ = some (.string S) := hci
  have q2 : w.drew.frozen? ⟨r, i, none⟩ = false := hfi
  have HFIN2 : Hid (∀ W : World, W = w.drew.setCell ⟨r, i, none⟩ (.string (S ++ Z)) → KP P w W ∧ Sb W base b size (growB ss i k) false P) := Lib.hid (fun W hW => by subst hW; exact HFIN.out _ rfl)
  clear c0 c1 c2 hci hfi HFIN
  generalize w.drew = w2 at *
  go_wp2
  obtain ⟨k1, k2⟩ := HFIN2.out _ rfl
  go_ret
  exact ⟨ret_int HE.out, k1, k2⟩
end Go.Proofs.YtbijfkpilncclaaGreat

/- The specification's l5Point; a struct's words and pointers. -/
namespace Go.Proofs.YtbijfkpilncclaaGreat
open Go.RowKit Go.Deep
theorem nd_baseS {w w' : World} {base m : Nat} {n : Nd} {h : Hd} (hn : NdAt w (fun k => k < base) m n h) (hb : Below base w w') : NdAt w' (fun k => k < base) m n h := hn.map (fun _ h => h) (fun _ _ _ hs hc => hc.block (hb.block _ hs))
theorem KP.rowS {P : Nat → Prop} {w w' : World} (h : KP P w w') {k : Nat} {o : Obj} (hk : w.heap[k]? = some o) (hn : ¬ P k) : w'.heap[k]? = some o := (h.block k (row_lt hk) hn).trans hk
theorem kcS {V V' : World} {a : Addr} {v : Value} (hb : Below V.heap.size V V') (h : V.cell? a = some v) : V'.cell? a = some v := (hb.cell (World.block_lt_of_cell? V a h)).trans h
theorem kpS {P : Nat → Prop} {w w' : World} {q : Addr} {u : Value} (h : KP P w w') (hq : w.cell? q = some u) (hn : ¬ P q.block) : w'.cell? q = some u := (World.cell?_of_block (h.block q.block (World.block_lt_of_cell? w q hq) hn)).trans hq
theorem form_smallS {n : Nd} (hf : formN n = true) (ho : ownN n ≤ 300) : n.data.size ≤ 2400 ∧ n.ptrs.length ≤ 300 ∧ n.items.length ≤ 20000 ∧ (n.kind ≠ 0 → n.kind = 1 ∨ n.kind = 2) ∧ (n.kind = 2 → 0 ≤ n.size ∧ n.size ≤ 7 ∧ 0 ≤ n.count ∧ n.count < 12801) ∧ (n.kind = 2 → n.size = 7 → 1 ≤ ownN n ∧ (n.items.length : Int) = n.count ∧ n.data.size = 0 ∧ n.ptrs.length = 0) ∧ (n.kind = 1 → n.data.size % 8 = 0) := by
  have hb : ownB n ≤ ownN n := by unfold ownN; omega
  have hd : n.data.size ≤ 2400 := by unfold ownB at hb; omega
  have hp : n.ptrs.length ≤ 300 := by unfold ownB at hb; omega
  rcases form_cases hf with h | h | ⟨h1, h2, h | h | h⟩
  · exact ⟨hd, hp, by omega, fun e => by omega, fun e => by omega, fun e => by omega, fun e => by omega⟩
  · exact ⟨hd, hp, by omega, fun _ => .inl h.1, fun e => by omega, fun e => by omega, fun _ => by omega⟩
  · exact ⟨hd, hp, by omega, fun _ => .inr h1, fun _ => by omega, fun _ e => by omega, fun e => by omega⟩
  · exact ⟨hd, hp, by omega, fun _ => .inr h1, fun _ => by omega, fun _ e => by omega, fun e => by omega⟩
  · refine ⟨hd, hp, by omega, fun _ => .inr h1, fun _ => by omega, fun _ _ => ⟨?_, by omega, by omega, by omega⟩, fun e => by omega⟩
    unfold ownN
    rw [if_pos ⟨h1, h.1⟩]
    omega
theorem fin8B {w w1 : World} {b : Nat} {T : TypeId} {a0 a1 a2 a3 a4 a5 a6 a7 : Value} (h : w1.heap[b]? = some (.cells #[a0, a1, a2, a3, a4, a5, a6, a7] T (0, 0))) (hp : Below w.heap.size w w1) (hb : w.heap.size ≤ b) (v0 v1 v2 v3 v4 v5 v6 v7 : Value) :
    ∃ wf, ((((((((w1.setCell ⟨b, 0, none⟩ v0).setCell ⟨b, 1, none⟩ v1).setCell ⟨b, 2, none⟩ v2).setCell ⟨b, 3, none⟩ v3).setCell ⟨b, 4, none⟩ v4).setCell ⟨b, 5, none⟩ v5).setCell ⟨b, 6, none⟩ v6).setCell ⟨b, 7, none⟩ v7) = wf ∧ wf.heap[b]? = some (.cells #[v0, v1, v2, v3, v4, v5, v6, v7] T (0, 0)) ∧ Below w.heap.size w wf := by
  have hk : ∀ (W : World) (i : Nat) (v : Value), Below w.heap.size w W → Below w.heap.size w (W.setCell ⟨b, i, none⟩ v) := fun W i v hW => hW.setCell (p := ⟨b, i, none⟩) hb v
  have h0 := row_setN h 0 v0
  rw [show (#[a0, a1, a2, a3, a4, a5, a6, a7] : Array Value).setIfInBounds 0 v0 = #[v0, a1, a2, a3, a4, a5, a6, a7] from rfl] at h0
  have h1 := row_setN h0 1 v1
  rw [show (#[v0, a1, a2, a3, a4, a5, a6, a7] : Array Value).setIfInBounds 1 v1 = #[v0, v1, a2, a3, a4, a5, a6, a7] from rfl] at h1
  have h2 := row_setN h1 2 v2
  rw [show (#[v0, v1, a2, a3, a4, a5, a6, a7] : Array Value).setIfInBounds 2 v2 = #[v0, v1, v2, a3, a4, a5, a6, a7] from rfl] at h2
  have h3 := row_setN h2 3 v3
  rw [show (#[v0, v1, v2, a3, a4, a5, a6, a7] : Array Value).setIfInBounds 3 v3 = #[v0, v1, v2, v3, a4, a5, a6, a7] from rfl] at h3
  have h4 := row_setN h3 4 v4
  rw [show (#[v0, v1, v2, v3, a4, a5, a6, a7] : Array Value).setIfInBounds 4 v4 = #[v0, v1, v2, v3, v4, a5, a6, a7] from rfl] at h4
  have h5 := row_setN h4 5 v5
  rw [show (#[v0, v1, v2, v3, v4, a5, a6, a7] : Array Value).setIfInBounds 5 v5 = #[v0, v1, v2, v3, v4, v5, a6, a7] from rfl] at h5
  have h6 := row_setN h5 6 v6
  rw [show (#[v0, v1, v2, v3, v4, v5, a6, a7] : Array Value).setIfInBounds 6 v6 = #[v0, v1, v2, v3, v4, v5, v6, a7] from rfl] at h6
  have h7 := row_setN h6 7 v7
  rw [show (#[v0, v1, v2, v3, v4, v5, v6, a7] : Array Value).setIfInBounds 7 v7 = #[v0, v1, v2, v3, v4, v5, v6, v7] from rfl] at h7
  exact ⟨_, rfl, h7, hk _ _ _ (hk _ _ _ (hk _ _ _ (hk _ _ _ (hk _ _ _ (hk _ _ _ (hk _ _ _ (hk _ _ _ hp)))))))⟩
def ptN (n : Nd) (off : Int) : Value :=
  if n.kind = 1 then .agg #[.int .i64 1, .int .i64 off, .int .i64 (n.data.size / 8 : Nat), .int .i64 (n.ptrs.length : Nat), .int .i64 0, .int .i64 0, .int .i64 0, .bool false]
  else .agg #[.int .i64 2, .int .i64 off, .int .i64 0, .int .i64 0, .int .i64 n.size, .int .i64 (if n.size = 7 then (ownN n : Int) - 1 else n.count), .int .i64 0, .bool false]
theorem l2PutN (n : Nd) (off : Int) (w : World) (hf : formN n = true) (ho : ownN n ≤ 300) (hk : n.kind ≠ 0) (h0 : -100000 ≤ off) (h1 : off ≤ 100000) :
    Calls Tryz.prog 123 #[ptN n off] w fun e w' => e = .returned (.string ⟨(ptrW n off).toArray⟩) ∧ Below w.heap.size w w' := by
  obtain ⟨hd, hp, _, hkk, hs, h7, h8⟩ := form_smallS hf ho
  unfold ptN ptrW
  split
  · exact l2Put_strB off _ _ w (by omega) (by omega) (by omega) (by omega) (by omega) (by omega)
  · have k2 : n.kind = 2 := by rcases hkk hk with e | e <;> omega
    have := hs k2
    split
    · rename_i e7
      have := h7 k2 e7
      have h := l2Put_lisB off n.size ((ownN n : Int) - 1) w (by omega) (by omega) (by omega) (by omega) (by omega) (by omega)
      rw [e7] at h ⊢
      exact h
    · exact l2Put_lisB off n.size n.count w (by omega) (by omega) (by omega) (by omega) (by omega) (by omega)
set_option maxHeartbeats 2000000 in
set_option maxRecDepth 100000 in
theorem l5Point_any (m : Nat) (n : Nd) (h : Hd) (off : Int) (w : World) (S : Nat → Prop) (hn : NdAt w S m n h) (hf : formN n = true) (ht : totN m n ≤ 2000000) (ho : ownN n ≤ 300) (hk : n.kind ≠ 0) :
    Calls Tryz.prog 124 #[.agg #[.int .i64 n.kind, .string n.data, .slice h.A n.ptrs.length h.a, .int .i64 n.size, .int .i64 n.count, .slice h.B n.items.length h.b], .int .i64 off] w fun e w' => e = .returned (ptN n off) ∧ Below w.heap.size w w' := by
  obtain ⟨qA, qa, qB, qb⟩ := h
  obtain ⟨hd, hp, _, hkk, hs, h7, h8⟩ := form_smallS hf ho
  have hb0 : Below w.heap.size w ((w.alloc (.cells #[.int .i64 n.kind, .string n.data, .slice qA n.ptrs.length qa, .int .i64 n.size, .int .i64 n.count, .slice qB n.items.length qb] nodeT)).alloc (.cells #[.int .i64 0, .int .i64 0, .int .i64 0, .int .i64 0, .int .i64 0, .int .i64 0, .int .i64 0, .bool false] 166)) := ((Below.refl _ w).alloc (Nat.le_refl _) _).alloc (by simp) _
  have HB0 := Lib.hid hb0
  dsimp only
  rcases hkk hk with k1 | k2
  · have hkb : (n.kind == 1) = true := by rw [k1]; rfl
    have HE : Hid (ptN n off = .agg #[.int .i64 1, .int .i64 off, .int .i64 (n.data.size / 8 : Nat), .int .i64 (n.ptrs.length : Nat), .int .i64 0, .int .i64 0, .int .i64 0, .bool false]) := Lib.hid (by unfold ptN; rw [if_pos k1])
    rw [HE.out]
    have e8 : (n.data.size : Int) / 8 = ((n.data.size / 8 : Nat) : Int) := by omega
    rw [← e8]
    clear hn hf hkk hs h7 h8 hk k1 hb0 e8
    go_enter Tryz.func124, Tryz.ntmps124
    go_wp2
    refine bodyPost_ret (v := .agg #[.int .i64 1, .int .i64 off, .int .i64 ((n.data.size : Int) / 8), .int .i64 (n.ptrs.length : Nat), .int .i64 0, .int .i64 0, .int .i64 0, .bool false]) (by simp [results, Tryz.results124, go_sem]) rfl ⟨rfl, ?_⟩
    exact ((Below.refl _ w).alloc (Nat.le_refl _) _).alloc (by simp) _
  · have hkb : (n.kind == 1) = false := by rw [k2]; rfl
    have k1 : ¬ n.kind = 1 := by omega
    have HOW := Lib.hid (l4Own_a m n ⟨qA, qa, qB, qb⟩ _ S (hn.below hb0) hf ht)
    dsimp only at HOW
    have r1 := heap_alloc_new (w.alloc (.cells #[.int .i64 n.kind, .string n.data, .slice qA n.ptrs.length qa, .int .i64 n.size, .int .i64 n.count, .slice qB n.items.length qb] nodeT)) (.cells #[.int .i64 0, .int .i64 0, .int .i64 0, .int .i64 0, .int .i64 0, .int .i64 0, .int .i64 0, .bool false] 166)
    rw [show (w.alloc (.cells #[.int .i64 n.kind, .string n.data, .slice qA n.ptrs.length qa, .int .i64 n.size, .int .i64 n.count, .slice qB n.items.length qb] nodeT)).heap.size = w.heap.size + 1 by simp] at r1
    have r0 := heap_alloc_keep (heap_alloc_new w (.cells #[.int .i64 n.kind, .string n.data, .slice qA n.ptrs.length qa, .int .i64 n.size, .int .i64 n.count, .slice qB n.items.length qb] nodeT)) (.cells #[.int .i64 0, .int .i64 0, .int .i64 0, .int .i64 0, .int .i64 0, .int .i64 0, .int .i64 0, .bool false] 166)
    have R1 := Lib.hid r1
    have R0 := Lib.hid r0
    by_cases e7 : n.size = 7
    · have hsb : (n.size == 7) = true := by rw [e7]; rfl
      have HE : Hid (ptN n off = .agg #[.int .i64 2, .int .i64 off, .int .i64 0, .int .i64 0, .int .i64 n.size, .int .i64 ((ownN n : Int) - 1), .int .i64 0, .bool false]) := Lib.hid (by unfold ptN; rw [if_neg k1, if_pos e7])
      rw [HE.out]
      have h1 := (h7 k2 e7).1
      generalize ownN n = on at *
      clear hn hf hkk hs h7 h8 hk k1 k2 hb0 e7 r0 r1
      go_enter Tryz.func124, Tryz.ntmps124
      go_wp2_with fail
      refine HOW.out.mono ?_
      rintro e w1 ⟨rfl, hb1⟩
      have HB1 := Lib.hid (HB0.out.trans (hb1.mono HB0.out.size))
      have hx := (hb1.block _ (row_lt R1.out)).trans R1.out
      have HX := Lib.hid hx
      obtain ⟨a0, a1, a2, a3, a4, a5⟩ := cells6 ((hb1.block _ (row_lt R0.out)).trans R0.out)
      clear hb1 hx
      have X8 := HX.out
      obtain ⟨b0, b1, b2, b3, b4, b5, b6, b7⟩ := cells8B HX.out
      have f0 := row_free X8 0
      have f1 := row_free X8 1
      have f2 := row_free X8 2
      have f3 := row_free X8 3
      have f4 := row_free X8 4
      have f5 := row_free X8 5
      have f6 := row_free X8 6
      have f7 := row_free X8 7
      clear X8
      go_wp2_with fail
      obtain ⟨wf, hwf, hrw, hbf⟩ := fin8B HX.out HB1.out (show w.heap.size ≤ w.heap.size + 1 by omega) (.int .i64 2) (.int .i64 off) (.int .i64 0) (.int .i64 0) (.int .i64 n.size) (.int .i64 ((on : Int) - 1)) (.int .i64 0) (.bool false)
      rw [hwf]
      obtain ⟨g0, g1, g2, g3, g4, g5, g6, g7⟩ := cells8B hrw
      exact bodyPost_ret (v := .agg #[.int .i64 2, .int .i64 off, .int .i64 0, .int .i64 0, .int .i64 n.size, .int .i64 ((on : Int) - 1), .int .i64 0, .bool false]) (by simp [results, Tryz.results124, go_sem, g0, g1, g2, g3, g4, g5, g6, g7]) rfl ⟨rfl, hbf⟩
    · have hsb : (n.size == 7) = false := by simpa using e7
      have HE : Hid (ptN n off = .agg #[.int .i64 2, .int .i64 off, .int .i64 0, .int .i64 0, .int .i64 n.size, .int .i64 n.count, .int .i64 0, .bool false]) := Lib.hid (by unfold ptN; rw [if_neg k1, if_neg e7])
      rw [HE.out]
      clear hn hf hkk hs h7 h8 hk k1 k2 hb0 e7 r0 r1 HOW
      go_enter Tryz.func124, Tryz.ntmps124
      go_wp2
      refine bodyPost_ret (v := .agg #[.int .i64 2, .int .i64 off, .int .i64 0, .int .i64 0, .int .i64 n.size, .int .i64 n.count, .int .i64 0, .bool false]) (by simp [results, Tryz.results124, go_sem]) rfl ⟨rfl, ?_⟩
      exact ((Below.refl _ w).alloc (Nat.le_refl _) _).alloc (by simp) _
end Go.Proofs.YtbijfkpilncclaaGreat
