/- The specification's l2Put: the word of a pointer that is ok. -/
import Derived.Test.YtialmfolgendlabPutW
import Derived.Test.YtialmfolgendlabFits
import Derived.Test.YtialmfolgendlabPtMath
namespace Go.Proofs.Ytialmfolgendlab
open Go.RowKit
theorem and_off (o : Int) (_h0 : -536870912 ≤ o) (_h1 : o ≤ 536870911) : bits .and .i64 (o * 4) 4294967295 = offN o := by
  obtain ⟨n, hn⟩ : ∃ n : Nat, offN o = (n : Int) := ⟨(offN o).toNat, by have := offN_bd o; omega⟩
  have hm : (BitVec.ofInt 64 (o * 4)).toNat % 4294967296 = n := by
    rw [BitVec.toNat_ofInt]
    have : (o * 4) % 4294967296 = (n : Int) := by rw [← hn]; unfold offN; omega
    omega
  show IntKind.i64.wrap ((BitVec.ofInt 64 (o * 4) &&& BitVec.ofInt 64 4294967295).toNat : Int) = _
  have hk : (BitVec.ofInt 64 4294967295).toNat = 2 ^ 32 - 1 := by decide
  rw [BitVec.toNat_and, hk, Nat.and_two_pow_sub_one_eq_mod, show (2 : Nat) ^ 32 = 4294967296 from rfl, hm, hn, IntKind.wrap_i64]
  have := offN_bd o
  omega
theorem or_i64 (a b : Nat) (ha : a < 9223372036854775808) (hb : b < 9223372036854775808) : bits .or .i64 (a : Int) (b : Int) = ((a ||| b : Nat) : Int) := by
  have hx : a ||| b < 2 ^ 63 := Nat.or_lt_two_pow (by omega) (by omega)
  show IntKind.i64.wrap ((BitVec.ofInt 64 (a : Int) ||| BitVec.ofInt 64 (b : Int)).toNat : Int) = _
  rw [BitVec.toNat_or, ofInt_i64' a ha, ofInt_i64' b hb, IntKind.wrap_i64]
  omega
theorem or_join (k : Nat) (x b : Int) (hx0 : 0 ≤ x) (hx1 : x < 1152921504606846976) (hk : k ≤ 3) (hb0 : 0 ≤ b) (hb : b < 2 ^ k) (hm : x % 2 ^ k = 0) : bits .or .i64 x b = x + b := by
  obtain ⟨x, rfl⟩ := Int.eq_ofNat_of_zero_le hx0
  obtain ⟨b, rfl⟩ := Int.eq_ofNat_of_zero_le hb0
  have hkk : k = 0 ∨ k = 1 ∨ k = 2 ∨ k = 3 := by omega
  rcases hkk with rfl | rfl | rfl | rfl
  all_goals
    simp only [Int.reducePow] at hb hm
    rw [or_i64 x b (by omega) (by omega)]
  · obtain rfl : b = 0 := by omega
    simp
  · rw [nat_join 1 x b (by omega) (by omega)]; omega
  · rw [nat_join 2 x b (by omega) (by omega)]; omega
  · rw [nat_join 3 x b (by omega) (by omega)]; omega
theorem str_add (a b : List UInt8) : (⟨a.toArray⟩ : ByteArray) ++ ⟨b.toArray⟩ = ⟨(a ++ b).toArray⟩ := by
  apply ext_ba; rw [ByteArray.data_append]; simp
theorem ret_str2 {a b : ByteArray} (h : a.data.toList = b.data.toList) : Ending.returned (.string a) = .returned (.string b) := by rw [ext_ba h]
theorem kept_d {w w' : World} {b : Nat} {o : Obj} (h : w.heap[b]? = some o) (hb : Below w.drew.heap.size w.drew w') : w'.heap[b]? = some o := kept8 (w := w.drew) h hb
theorem then_d {a w w1 : World} (h : Below a.heap.size a w) (hb : Below w.drew.heap.size w.drew w1) : Below a.heap.size a w1 := h.drew.trans (hb.mono h.size)
theorem then_n {a w w1 : World} (h : Below a.heap.size a w) (hb : Below w.heap.size w w1) : Below a.heap.size a w1 := h.trans (hb.mono h.size)
set_option maxHeartbeats 1000000 in
set_option maxRecDepth 100000 in
theorem l2Put_str (o d p : Int) (w : World) (h0 : -536870912 ≤ o) (h1 : o ≤ 536870911) (hd0 : 0 ≤ d) (hd1 : d < 65536) (_hp0 : 0 ≤ p) (_hp1 : p < 65536) :
    Calls Try.prog 39 #[ptv 1 o d p 0 0 0 false] w fun e w' => e = .returned (.string ⟨(leB (offN o) 4 ++ leB (d + 65536 * p) 4).toArray⟩) ∧ Below w.heap.size w w' := by
  have ho := and_off o h0 h1
  have e1 : IntKind.i64.wrap (o * 4) = o * 4 := by rw [IntKind.wrap_i64]; omega
  have f1 : ¬ 9223372036854775807 < (leB (offN o) 4).length + (leB d 2).length := by rw [leB_length, leB_length]; omega
  have f2 : ¬ 9223372036854775807 < (leB (offN o) 4).length + (leB d 2).length + (leB p 2).length := by rw [leB_length, leB_length, leB_length]; omega
  have hfin := leB_four d p hd0 hd1
  have HF := Lib.hid hfin
  clear hfin
  unfold ptv
  go_enter Try.func39, Try.ntmps39
  go_wp2_with fail
  have hblk := heap_alloc_new w (.cells #[.int .i64 1, .int .i64 o, .int .i64 d, .int .i64 p, .int .i64 0, .int .i64 0, .int .i64 0, .bool false] 24)
  obtain ⟨c0, c1, c2, c3, c4, c5, c6, c7⟩ := cells8 hblk
  have HK := Lib.hid hblk
  have hbb := (Below.refl w.heap.size w).alloc (Nat.le_refl _) (.cells #[.int .i64 1, .int .i64 o, .int .i64 d, .int .i64 p, .int .i64 0, .int .i64 0, .int .i64 0, .bool false] 24)
  clear hblk
  go_region_law (go_simp; go_at_call 59; go_must (refine (l1Bytes_any _ _ _ (by decide) (by decide)).mono ?_); rintro e w2 ⟨rfl, hb2⟩; replace hbb : Below w.heap.size w w2 := (by first | exact then_n hbb hb2 | exact then_d hbb hb2); replace HK : Hid (w2.heap[w.heap.size]? = some (.cells #[.int .i64 1, .int .i64 o, .int .i64 d, .int .i64 p, .int .i64 0, .int .i64 0, .int .i64 0, .bool false] 24 (0, 0))) := (by first | exact kept8 HK.out hb2 | exact kept_d HK.out hb2); clear c0 c1 c2 c3 c4 c5 c6 c7; obtain ⟨c0, c1, c2, c3, c4, c5, c6, c7⟩ := cells8 HK.out; clear hb2)
  all_goals
    go_wp2
    go_ret
    refine ⟨ret_str2 ?_, hbb⟩
    rw [HF.out, ByteArray.data_append, ByteArray.data_append]
    simp
set_option maxHeartbeats 1000000 in
set_option maxRecDepth 100000 in
theorem l2Put_lis (o z c : Int) (w : World) (h0 : -536870912 ≤ o) (h1 : o ≤ 536870911) (hz0 : 0 ≤ z) (hz1 : z < 8) (hc0 : 0 ≤ c) (hc1 : c < 536870912) :
    Calls Try.prog 39 #[.agg #[.int .i64 2, .int .i64 o, .int .i64 0, .int .i64 0, .int .i64 z, .int .i64 c, .int .i64 0, .bool false]] w fun e w' => e = .returned (.string ⟨(leB (offN o + 1) 4 ++ leB (c * 8 + z) 4).toArray⟩) ∧ Below w.heap.size w w' := by
  have ho := and_off o h0 h1
  have hob := offN_bd o
  have e1 : IntKind.i64.wrap (o * 4) = o * 4 := by rw [IntKind.wrap_i64]; omega
  have e2 : IntKind.i64.wrap (c * 8) = c * 8 := by rw [IntKind.wrap_i64]; omega
  have q1 : bits .or .i64 (offN o) 1 = offN o + 1 := or_join 2 _ 1 (by omega) (by omega) (by omega) (by omega) (by decide) (by unfold offN; omega)
  have q2 : bits .or .i64 (c * 8) z = c * 8 + z := or_join 3 _ z (by omega) (by omega) (by omega) (by omega) (by simpa using hz1) (by omega)
  have f1 : ¬ 9223372036854775807 < (leB (offN o + 1) 4).length + (leB (c * 8 + z) 4).length := by rw [leB_length, leB_length]; omega
  clear hob
  go_enter Try.func39, Try.ntmps39
  go_wp2_with fail
  have hblk := heap_alloc_new w (.cells #[.int .i64 2, .int .i64 o, .int .i64 0, .int .i64 0, .int .i64 z, .int .i64 c, .int .i64 0, .bool false] 24)
  obtain ⟨c0, c1, c2, c3, c4, c5, c6, c7⟩ := cells8 hblk
  have HK := Lib.hid hblk
  have hbb := (Below.refl w.heap.size w).alloc (Nat.le_refl _) (.cells #[.int .i64 2, .int .i64 o, .int .i64 0, .int .i64 0, .int .i64 z, .int .i64 c, .int .i64 0, .bool false] 24)
  clear hblk
  go_region_law (go_simp; go_at_call 59; go_must (refine (l1Bytes_any _ _ _ (by decide) (by decide)).mono ?_); rintro e w2 ⟨rfl, hb2⟩; replace hbb : Below w.heap.size w w2 := (by first | exact then_n hbb hb2 | exact then_d hbb hb2); replace HK : Hid (w2.heap[w.heap.size]? = some (.cells #[.int .i64 2, .int .i64 o, .int .i64 0, .int .i64 0, .int .i64 z, .int .i64 c, .int .i64 0, .bool false] 24 (0, 0))) := (by first | exact kept8 HK.out hb2 | exact kept_d HK.out hb2); clear c0 c1 c2 c3 c4 c5 c6 c7; obtain ⟨c0, c1, c2, c3, c4, c5, c6, c7⟩ := cells8 HK.out; clear hb2)
  all_goals
    go_wp2
    go_ret
    refine ⟨ret_str2 ?_, hbb⟩
    rw [ByteArray.data_append]
    simp
set_option maxHeartbeats 1000000 in
set_option maxRecDepth 100000 in
theorem l2Put_far0 (o g : Int) (w : World) (h0 : 0 ≤ o) (h1 : o ≤ 536870911) :
    Calls Try.prog 39 #[.agg #[.int .i64 3, .int .i64 o, .int .i64 0, .int .i64 0, .int .i64 0, .int .i64 0, .int .i64 g, .bool false]] w fun e w' => e = .returned (.string ⟨(leB (o * 8 + 2) 4 ++ leB g 4).toArray⟩) ∧ Below w.heap.size w w' := by
  have e1 : IntKind.i64.wrap (o * 8) = o * 8 := by rw [IntKind.wrap_i64]; omega
  have q1 : bits .or .i64 (o * 8) 0 = o * 8 := by rw [or_join 0 _ 0 (by omega) (by omega) (by omega) (by omega) (by decide) (by simp)]; omega
  have q2 : bits .or .i64 (o * 8) 2 = o * 8 + 2 := or_join 2 _ 2 (by omega) (by omega) (by omega) (by omega) (by decide) (by simp only [Int.reducePow]; omega)
  have f1 : ¬ 9223372036854775807 < (leB (o * 8 + 2) 4).length + (leB g 4).length := by rw [leB_length, leB_length]; omega
  go_enter Try.func39, Try.ntmps39
  go_wp2_with fail
  have hblk := heap_alloc_new w (.cells #[.int .i64 3, .int .i64 o, .int .i64 0, .int .i64 0, .int .i64 0, .int .i64 0, .int .i64 g, .bool false] 24)
  obtain ⟨c0, c1, c2, c3, c4, c5, c6, c7⟩ := cells8 hblk
  have HK := Lib.hid hblk
  have hbb := (Below.refl w.heap.size w).alloc (Nat.le_refl _) (.cells #[.int .i64 3, .int .i64 o, .int .i64 0, .int .i64 0, .int .i64 0, .int .i64 0, .int .i64 g, .bool false] 24)
  clear hblk
  go_region_law (go_simp; go_at_call 59; go_must (refine (l1Bytes_any _ _ _ (by decide) (by decide)).mono ?_); rintro e w2 ⟨rfl, hb2⟩; replace hbb : Below w.heap.size w w2 := (by first | exact then_n hbb hb2 | exact then_d hbb hb2); replace HK : Hid (w2.heap[w.heap.size]? = some (.cells #[.int .i64 3, .int .i64 o, .int .i64 0, .int .i64 0, .int .i64 0, .int .i64 0, .int .i64 g, .bool false] 24 (0, 0))) := (by first | exact kept8 HK.out hb2 | exact kept_d HK.out hb2); clear c0 c1 c2 c3 c4 c5 c6 c7; obtain ⟨c0, c1, c2, c3, c4, c5, c6, c7⟩ := cells8 HK.out; clear hb2)
  all_goals
    go_wp2
    go_ret
    refine ⟨ret_str2 ?_, hbb⟩
    rw [ByteArray.data_append]
    simp
set_option maxHeartbeats 1000000 in
set_option maxRecDepth 100000 in
theorem l2Put_far1 (o g : Int) (w : World) (h0 : 0 ≤ o) (h1 : o ≤ 536870911) :
    Calls Try.prog 39 #[.agg #[.int .i64 3, .int .i64 o, .int .i64 0, .int .i64 0, .int .i64 0, .int .i64 0, .int .i64 g, .bool true]] w fun e w' => e = .returned (.string ⟨(leB (o * 8 + 6) 4 ++ leB g 4).toArray⟩) ∧ Below w.heap.size w w' := by
  have e1 : IntKind.i64.wrap (o * 8) = o * 8 := by rw [IntKind.wrap_i64]; omega
  have q1 : bits .or .i64 (o * 8) 4 = o * 8 + 4 := or_join 3 _ 4 (by omega) (by omega) (by omega) (by omega) (by decide) (by simp only [Int.reducePow]; omega)
  have q2 : bits .or .i64 (o * 8 + 4) 2 = o * 8 + 6 := by rw [or_join 2 _ 2 (by omega) (by omega) (by omega) (by omega) (by decide) (by simp only [Int.reducePow]; omega)]; omega
  have f1 : ¬ 9223372036854775807 < (leB (o * 8 + 6) 4).length + (leB g 4).length := by rw [leB_length, leB_length]; omega
  go_enter Try.func39, Try.ntmps39
  go_wp2_with fail
  have hblk := heap_alloc_new w (.cells #[.int .i64 3, .int .i64 o, .int .i64 0, .int .i64 0, .int .i64 0, .int .i64 0, .int .i64 g, .bool true] 24)
  obtain ⟨c0, c1, c2, c3, c4, c5, c6, c7⟩ := cells8 hblk
  have HK := Lib.hid hblk
  have hbb := (Below.refl w.heap.size w).alloc (Nat.le_refl _) (.cells #[.int .i64 3, .int .i64 o, .int .i64 0, .int .i64 0, .int .i64 0, .int .i64 0, .int .i64 g, .bool true] 24)
  clear hblk
  go_region_law (go_simp; go_at_call 59; go_must (refine (l1Bytes_any _ _ _ (by decide) (by decide)).mono ?_); rintro e w2 ⟨rfl, hb2⟩; replace hbb : Below w.heap.size w w2 := (by first | exact then_n hbb hb2 | exact then_d hbb hb2); replace HK : Hid (w2.heap[w.heap.size]? = some (.cells #[.int .i64 3, .int .i64 o, .int .i64 0, .int .i64 0, .int .i64 0, .int .i64 0, .int .i64 g, .bool true] 24 (0, 0))) := (by first | exact kept8 HK.out hb2 | exact kept_d HK.out hb2); clear c0 c1 c2 c3 c4 c5 c6 c7; obtain ⟨c0, c1, c2, c3, c4, c5, c6, c7⟩ := cells8 HK.out; clear hb2)
  all_goals
    go_wp2
    go_ret
    refine ⟨ret_str2 ?_, hbb⟩
    rw [ByteArray.data_append]
    simp
set_option maxHeartbeats 1000000 in
set_option maxRecDepth 100000 in
theorem l2Put_non (w : World) :
    Calls Try.prog 39 #[.agg #[.int .i64 0, .int .i64 0, .int .i64 0, .int .i64 0, .int .i64 0, .int .i64 0, .int .i64 0, .bool false]] w fun e w' => e = .returned (.string ⟨(leB 0 8).toArray⟩) ∧ Below w.heap.size w w' := by
  go_enter Try.func39, Try.ntmps39
  go_wp2_with (go_at_call 59; go_must (refine (l1Bytes_any _ _ _ (by decide) (by decide)).mono ?_); rintro e w2 ⟨rfl, hb2⟩)
  go_ret
  exact ⟨rfl, ((Below.refl w.heap.size w).alloc (Nat.le_refl _) _).trans (hb2.mono (by simp))⟩
end Go.Proofs.Ytialmfolgendlab
