/- Texts of the proof of the law FnReadTwo, side by side: part 11. -/
import Derived.Test.YtlbfffokkhccaaaGreatDoorMReadTwo10
namespace Go.Proofs.YtlbfffokkhccaaaGreatDoor
open Go.RowKit
theorem cells8B {w : World} {b : Nat} {a0 a1 a2 a3 a4 a5 a6 a7 : Value} {T : TypeId} (h : w.heap[b]? = some (.cells #[a0, a1, a2, a3, a4, a5, a6, a7] T (0, 0))) :
 w.cell? ⟨b, 0, none⟩ = some a0 ∧ w.cell? ⟨b, 1, none⟩ = some a1 ∧ w.cell? ⟨b, 2, none⟩ = some a2 ∧ w.cell? ⟨b, 3, none⟩ = some a3 ∧ w.cell? ⟨b, 4, none⟩ = some a4 ∧ w.cell? ⟨b, 5, none⟩ = some a5 ∧ w.cell? ⟨b, 6, none⟩ = some a6 ∧ w.cell? ⟨b, 7, none⟩ = some a7 := by
 simp [World.cell?, h]
theorem kept8B {w w' : World} {b : Nat} {o : Obj} (h : w.heap[b]? = some o) (hb : Below w.heap.size w w') : w'.heap[b]? = some o := by
 have hlt : b < w.heap.size := by
  rcases Nat.lt_or_ge b w.heap.size with hlt | hge
  · exact hlt
  · rw [Array.getElem?_eq_none hge] at h; cases h
 exact (hb.block b hlt).trans h
def ptvB (k o d p s c g : Int) (t : Bool) : Value := .agg #[.int .i64 k, .int .i64 o, .int .i64 d, .int .i64 p, .int .i64 s, .int .i64 c, .int .i64 g, .bool t]
theorem and_offB (o : Int) (_h0 : -536870912 ≤ o) (_h1 : o ≤ 536870911) : bits .and .i64 (o * 4) 4294967295 = offN o := by
 obtain ⟨n, hn⟩ : ∃ n : Nat, offN o = (n : Int) := ⟨(offN o).toNat, by have := offN_bd o; omega⟩
 have hm : (BitVec.ofInt 64 (o * 4)).toNat % 4294967296 = n := by
  rw [BitVec.toNat_ofInt]
  have : (o * 4) % 4294967296 = (n : Int) := by rw [← hn]; unfold offN; omega
  omega
 show IntKind.i64.wrap ((BitVec.ofInt 64 (o * 4) &&& BitVec.ofInt 64 4294967295).toNat : Int) = _
 have hk : (BitVec.ofInt 64 4294967295).toNat = 2 ^ 32 - 1 := by decide
 rw [BitVec.toNat_and, hk, Nat.and_two_pow_sub_one_eq_mod, show (2 : Nat) ^ 32 = 4294967296 from rfl, hm, hn, IntKind.wrap_i64]
 have := offN_bd o
 omega
theorem or_i64B (a b : Nat) (ha : a < 9223372036854775808) (hb : b < 9223372036854775808) : bits .or .i64 (a : Int) (b : Int) = ((a ||| b : Nat) : Int) := by
 have hx : a ||| b < 2 ^ 63 := Nat.or_lt_two_pow (by omega) (by omega)
 show IntKind.i64.wrap ((BitVec.ofInt 64 (a : Int) ||| BitVec.ofInt 64 (b : Int)).toNat : Int) = _
 rw [BitVec.toNat_or, ofInt_i64' a ha, ofInt_i64' b hb, IntKind.wrap_i64]
 omega
theorem or_joinB (k : Nat) (x b : Int) (hx0 : 0 ≤ x) (hx1 : x < 1152921504606846976) (hk : k ≤ 3) (hb0 : 0 ≤ b) (hb : b < 2 ^ k) (hm : x % 2 ^ k = 0) : bits .or .i64 x b = x + b := by
 obtain ⟨x, rfl⟩ := Int.eq_ofNat_of_zero_le hx0
 obtain ⟨b, rfl⟩ := Int.eq_ofNat_of_zero_le hb0
 have hkk : k = 0 ∨ k = 1 ∨ k = 2 ∨ k = 3 := by omega
 rcases hkk with rfl | rfl | rfl | rfl
 all_goals
  simp only [Int.reducePow] at hb hm
  rw [or_i64B x b (by omega) (by omega)]
 · obtain rfl : b = 0 := by omega
   simp
 · rw [nat_join 1 x b (by omega) (by omega)]; omega
 · rw [nat_join 2 x b (by omega) (by omega)]; omega
 · rw [nat_join 3 x b (by omega) (by omega)]; omega
theorem ret_str2B {a b : ByteArray} (h : a.data.toList = b.data.toList) : Ending.returned (.string a) = .returned (.string b) := by rw [ext_ba h]
theorem kept_dB {w w' : World} {b : Nat} {o : Obj} (h : w.heap[b]? = some o) (hb : Below w.drew.heap.size w.drew w') : w'.heap[b]? = some o := kept8B (w := w.drew) h hb
theorem then_dB {a w w1 : World} (h : Below a.heap.size a w) (hb : Below w.drew.heap.size w.drew w1) : Below a.heap.size a w1 := h.drew.trans (hb.mono h.size)
theorem then_nB {a w w1 : World} (h : Below a.heap.size a w) (hb : Below w.heap.size w w1) : Below a.heap.size a w1 := h.trans (hb.mono h.size)
set_option maxHeartbeats 1000000 in
set_option maxRecDepth 100000 in
theorem l2Put_strB (o d p : Int) (w : World) (h0 : -536870912 ≤ o) (h1 : o ≤ 536870911) (hd0 : 0 ≤ d) (hd1 : d < 65536) (_hp0 : 0 ≤ p) (_hp1 : p < 65536) :
 Calls Tryz.prog 125 #[ptvB 1 o d p 0 0 0 false] w fun e w' => e = .returned (.string ⟨(leB (offN o) 4 ++ leB (d + 65536 * p) 4).toArray⟩) ∧ Below w.heap.size w w' := by
 have ho := and_offB o h0 h1
 have e1 : IntKind.i64.wrap (o * 4) = o * 4 := by rw [IntKind.wrap_i64]; omega
 have f1 : ¬ 9223372036854775807 < (leB (offN o) 4).length + (leB d 2).length := by rw [leB_length, leB_length]; omega
 have f2 : ¬ 9223372036854775807 < (leB (offN o) 4).length + (leB d 2).length + (leB p 2).length := by rw [leB_length, leB_length, leB_length]; omega
 have hfin := leB_four d p hd0 hd1
 have HF := Lib.hid hfin
 clear hfin
 unfold ptvB
 go_enter Tryz.func125, Tryz.ntmps125
 go_wp2_with fail
 have hblk := heap_alloc_new w (.cells #[.int .i64 1, .int .i64 o, .int .i64 d, .int .i64 p, .int .i64 0, .int .i64 0, .int .i64 0, .bool false] 44)
 obtain ⟨c0, c1, c2, c3, c4, c5, c6, c7⟩ := cells8B hblk
 have HK := Lib.hid hblk
 have hbb := (Below.refl w.heap.size w).alloc (Nat.le_refl _) (.cells #[.int .i64 1, .int .i64 o, .int .i64 d, .int .i64 p, .int .i64 0, .int .i64 0, .int .i64 0, .bool false] 44)
 clear hblk
 go_region_law (go_simp; go_at_call 99; go_must (refine (l1Bytes_any _ _ _ (by decide) (by decide)).mono ?_); rintro e w2 ⟨rfl, hb2⟩; replace hbb : Below w.heap.size w w2 := (by first | exact then_nB hbb hb2 | exact then_dB hbb hb2); replace HK : Hid (w2.heap[w.heap.size]? = some (.cells #[.int .i64 1, .int .i64 o, .int .i64 d, .int .i64 p, .int .i64 0, .int .i64 0, .int .i64 0, .bool false] 44 (0, 0))) := (by first | exact kept8B HK.out hb2 | exact kept_dB HK.out hb2); clear c0 c1 c2 c3 c4 c5 c6 c7; obtain ⟨c0, c1, c2, c3, c4, c5, c6, c7⟩ := cells8B HK.out; clear hb2)
 all_goals
  go_wp2
  go_ret
  refine ⟨ret_str2B ?_, hbb⟩
  rw [HF.out, ByteArray.data_append, ByteArray.data_append]
  simp
set_option maxHeartbeats 1000000 in
set_option maxRecDepth 100000 in
theorem l2Put_lisB (o z c : Int) (w : World) (h0 : -536870912 ≤ o) (h1 : o ≤ 536870911) (hz0 : 0 ≤ z) (hz1 : z < 8) (hc0 : 0 ≤ c) (hc1 : c < 536870912) :
 Calls Tryz.prog 125 #[.agg #[.int .i64 2, .int .i64 o, .int .i64 0, .int .i64 0, .int .i64 z, .int .i64 c, .int .i64 0, .bool false]] w fun e w' => e = .returned (.string ⟨(leB (offN o + 1) 4 ++ leB (c * 8 + z) 4).toArray⟩) ∧ Below w.heap.size w w' := by
 have ho := and_offB o h0 h1
 have hob := offN_bd o
 have e1 : IntKind.i64.wrap (o * 4) = o * 4 := by rw [IntKind.wrap_i64]; omega
 have e2 : IntKind.i64.wrap (c * 8) = c * 8 := by rw [IntKind.wrap_i64]; omega
 have q1 : bits .or .i64 (offN o) 1 = offN o + 1 := or_joinB 2 _ 1 (by omega) (by omega) (by omega) (by omega) (by decide) (by unfold offN; omega)
 have q2 : bits .or .i64 (c * 8) z = c * 8 + z := or_joinB 3 _ z (by omega) (by omega) (by omega) (by omega) (by simpa using hz1) (by omega)
 have f1 : ¬ 9223372036854775807 < (leB (offN o + 1) 4).length + (leB (c * 8 + z) 4).length := by rw [leB_length, leB_length]; omega
 clear hob
 go_enter Tryz.func125, Tryz.ntmps125
 go_wp2_with fail
 have hblk := heap_alloc_new w (.cells #[.int .i64 2, .int .i64 o, .int .i64 0, .int .i64 0, .int .i64 z, .int .i64 c, .int .i64 0, .bool false] 44)
 obtain ⟨c0, c1, c2, c3, c4, c5, c6, c7⟩ := cells8B hblk
 have HK := Lib.hid hblk
 have hbb := (Below.refl w.heap.size w).alloc (Nat.le_refl _) (.cells #[.int .i64 2, .int .i64 o, .int .i64 0, .int .i64 0, .int .i64 z, .int .i64 c, .int .i64 0, .bool false] 44)
 clear hblk
 go_region_law (go_simp; go_at_call 99; go_must (refine (l1Bytes_any _ _ _ (by decide) (by decide)).mono ?_); rintro e w2 ⟨rfl, hb2⟩; replace hbb : Below w.heap.size w w2 := (by first | exact then_nB hbb hb2 | exact then_dB hbb hb2); replace HK : Hid (w2.heap[w.heap.size]? = some (.cells #[.int .i64 2, .int .i64 o, .int .i64 0, .int .i64 0, .int .i64 z, .int .i64 c, .int .i64 0, .bool false] 44 (0, 0))) := (by first | exact kept8B HK.out hb2 | exact kept_dB HK.out hb2); clear c0 c1 c2 c3 c4 c5 c6 c7; obtain ⟨c0, c1, c2, c3, c4, c5, c6, c7⟩ := cells8B HK.out; clear hb2)
 all_goals
  go_wp2
  go_ret
  refine ⟨ret_str2B ?_, hbb⟩
  rw [ByteArray.data_append]
  simp
set_option maxHeartbeats 1000000 in
set_option maxRecDepth 100000 in
theorem l2Put_far0B (o g : Int) (w : World) (h0 : 0 ≤ o) (h1 : o ≤ 536870911) :
 Calls Tryz.prog 125 #[.agg #[.int .i64 3, .int .i64 o, .int .i64 0, .int .i64 0, .int .i64 0, .int .i64 0, .int .i64 g, .bool false]] w fun e w' => e = .returned (.string ⟨(leB (o * 8 + 2) 4 ++ leB g 4).toArray⟩) ∧ Below w.heap.size w w' := by
 have e1 : IntKind.i64.wrap (o * 8) = o * 8 := by rw [IntKind.wrap_i64]; omega
 have q1 : bits .or .i64 (o * 8) 0 = o * 8 := by rw [or_joinB 0 _ 0 (by omega) (by omega) (by omega) (by omega) (by decide) (by simp)]; omega
 have q2 : bits .or .i64 (o * 8) 2 = o * 8 + 2 := or_joinB 2 _ 2 (by omega) (by omega) (by omega) (by omega) (by decide) (by simp only [Int.reducePow]; omega)
 have f1 : ¬ 9223372036854775807 < (leB (o * 8 + 2) 4).length + (leB g 4).length := by rw [leB_length, leB_length]; omega
 go_enter Tryz.func125, Tryz.ntmps125
 go_wp2_with fail
 have hblk := heap_alloc_new w (.cells #[.int .i64 3, .int .i64 o, .int .i64 0, .int .i64 0, .int .i64 0, .int .i64 0, .int .i64 g, .bool false] 44)
 obtain ⟨c0, c1, c2, c3, c4, c5, c6, c7⟩ := cells8B hblk
 have HK := Lib.hid hblk
 have hbb := (Below.refl w.heap.size w).alloc (Nat.le_refl _) (.cells #[.int .i64 3, .int .i64 o, .int .i64 0, .int .i64 0, .int .i64 0, .int .i64 0, .int .i64 g, .bool false] 44)
 clear hblk
 go_region_law (go_simp; go_at_call 99; go_must (refine (l1Bytes_any _ _ _ (by decide) (by decide)).mono ?_); rintro e w2 ⟨rfl, hb2⟩; replace hbb : Below w.heap.size w w2 := (by first | exact then_nB hbb hb2 | exact then_dB hbb hb2); replace HK : Hid (w2.heap[w.heap.size]? = some (.cells #[.int .i64 3, .int .i64 o, .int .i64 0, .int .i64 0, .int .i64 0, .int .i64 0, .int .i64 g, .bool false] 44 (0, 0))) := (by first | exact kept8B HK.out hb2 | exact kept_dB HK.out hb2); clear c0 c1 c2 c3 c4 c5 c6 c7; obtain ⟨c0, c1, c2, c3, c4, c5, c6, c7⟩ := cells8B HK.out; clear hb2)
 all_goals
  go_wp2
  go_ret
  refine ⟨ret_str2B ?_, hbb⟩
  rw [ByteArray.data_append]
  simp
theorem or_u64B (k : Nat) (x b : Int) (hx0 : 0 ≤ x) (hx1 : x < 18446744073709551616) (hb0 : 0 ≤ b) (hb1 : b < 18446744073709551616) (hx : x < 2 ^ k) (hm : b % 2 ^ k = 0) : bits .or .u64 x b = x + b := by
 obtain ⟨x, rfl⟩ := Int.eq_ofNat_of_zero_le hx0
 obtain ⟨b, rfl⟩ := Int.eq_ofNat_of_zero_le hb0
 have e : ((2 : Int) ^ k) = ((2 ^ k : Nat) : Int) := by rw [Int.natCast_pow]; rfl
 rw [e] at hx hm
 rw [u64_or_nat x b (by omega) (by omega), Nat.or_comm, nat_join k b x (by omega) (by omega)]
 omega
set_option maxHeartbeats 400000 in
theorem offBits_anyB (o : Int) (w : World) (_h0 : -536870912 ≤ o) (_h1 : o ≤ 536870911) :
 Calls Tryz.prog 236 #[.int .i64 o] w fun e w' => e = .returned (.int .u64 (offN o)) ∧ w = w' := by
 go_enter Tryz.func236, Tryz.ntmps236
 go_wp2
 go_ret
 exact ⟨ret_int (by unfold offN; omega), rfl⟩
theorem below_dNB {B : Nat} {a w : World} (h : Below B a w) (n : Nat) : Below B a (w.drewN n) := ⟨h.os, h.tape, h.output, h.size, h.block⟩
theorem offBits_qB (o : Int) (w : World) (h0 : -536870912 ≤ o) (h1 : o ≤ 536870911) :
 Calls Tryz.prog 236 #[.int .i64 o] w fun e w' => e = .returned (.int .u64 (offN o)) ∧ w' = w := (offBits_anyB o w h0 h1).mono fun _ _ h => ⟨h.1, h.2.symm⟩
set_option maxHeartbeats 1000000 in
theorem bits_strB (o d p : Int) (w : World) (h0 : -536870912 ≤ o) (h1 : o ≤ 536870911) (hd0 : 0 ≤ d) (hd1 : d < 65536) (hp0 : 0 ≤ p) (hp1 : p < 65536) :
 Calls Tryz.prog 234 #[.agg #[.int .i64 o, .int .i64 d, .int .i64 p]] w fun e w' => e = .returned (.int .u64 (offN o + 4294967296 * (d + 65536 * p))) ∧ Below w.heap.size w w' := by
 have hb := offN_bd o
 have e1 : IntKind.u64.wrap d = d := by rw [IntKind.wrap_u64]; omega
 have e2 : IntKind.u64.wrap p = p := by rw [IntKind.wrap_u64]; omega
 have e3 : IntKind.u64.wrap (d * 4294967296) = d * 4294967296 := by rw [IntKind.wrap_u64]; omega
 have e4 : IntKind.u64.wrap (p * 281474976710656) = p * 281474976710656 := by rw [IntKind.wrap_u64]; omega
 have q1 : bits .or .u64 (offN o) (d * 4294967296) = offN o + d * 4294967296 := or_u64B 32 _ _ (by omega) (by omega) (by omega) (by omega) (by simp only [Int.reducePow]; omega) (by simp only [Int.reducePow]; omega)
 have q2 : bits .or .u64 (offN o + d * 4294967296) (p * 281474976710656) = offN o + d * 4294967296 + p * 281474976710656 := or_u64B 48 _ _ (by omega) (by omega) (by omega) (by omega) (by simp only [Int.reducePow]; omega) (by simp only [Int.reducePow]; omega)
 go_enter Tryz.func234, Tryz.ntmps234
 go_wp2_with fail
 go_quiet ((go_at_call 236; exact Calls.quiet_of_same (offBits_qB o _ h0 h1)))
 go_wp2
 go_ret
 exact ⟨ret_int (by omega), below_dNB ((Below.refl _ _).alloc (Nat.le_refl _) _) _⟩
set_option maxHeartbeats 1000000 in
theorem bits_lisB (o z c : Int) (w : World) (h0 : -536870912 ≤ o) (h1 : o ≤ 536870911) (hz0 : 0 ≤ z) (hz1 : z < 8) (hc0 : 0 ≤ c) (hc1 : c < 536870912) :
 Calls Tryz.prog 238 #[.agg #[.int .i64 o, .int .i64 z, .int .i64 c]] w fun e w' => e = .returned (.int .u64 (offN o + 1 + 4294967296 * (c * 8 + z))) ∧ Below w.heap.size w w' := by
 have hb := offN_bd o
 have e1 : IntKind.u64.wrap z = z := by rw [IntKind.wrap_u64]; omega
 have e2 : IntKind.u64.wrap c = c := by rw [IntKind.wrap_u64]; omega
 have e3 : IntKind.u64.wrap (z * 4294967296) = z * 4294967296 := by rw [IntKind.wrap_u64]; omega
 have e4 : IntKind.u64.wrap (c * 34359738368) = c * 34359738368 := by rw [IntKind.wrap_u64]; omega
 have q0 : bits .or .u64 1 (offN o) = 1 + offN o := or_u64B 2 _ _ (by omega) (by omega) (by omega) (by omega) (by simp only [Int.reducePow]; omega) (by simp only [Int.reducePow]; unfold offN; omega)
 have q1 : bits .or .u64 (1 + offN o) (z * 4294967296) = 1 + offN o + z * 4294967296 := or_u64B 32 _ _ (by omega) (by omega) (by omega) (by omega) (by simp only [Int.reducePow]; unfold offN; omega) (by simp only [Int.reducePow]; omega)
 have q2 : bits .or .u64 (1 + offN o + z * 4294967296) (c * 34359738368) = 1 + offN o + z * 4294967296 + c * 34359738368 := or_u64B 35 _ _ (by omega) (by omega) (by omega) (by omega) (by simp only [Int.reducePow]; unfold offN; omega) (by simp only [Int.reducePow]; omega)
 go_enter Tryz.func238, Tryz.ntmps238
 go_wp2_with fail
 go_quiet ((go_at_call 236; exact Calls.quiet_of_same (offBits_qB o _ h0 h1)))
 go_wp2
 go_ret
 exact ⟨ret_int (by omega), below_dNB ((Below.refl _ _).alloc (Nat.le_refl _) _) _⟩
set_option maxHeartbeats 1000000 in
theorem bits_far0B (o g : Int) (w : World) (h0 : 0 ≤ o) (h1 : o ≤ 536870911) (hg0 : 0 ≤ g) (hg1 : g < 4294967296) :
 Calls Tryz.prog 240 #[.agg #[.int .i64 o, .int .i64 g, .bool false]] w fun e w' => e = .returned (.int .u64 (o * 8 + 2 + 4294967296 * g)) ∧ Below w.heap.size w w' := by
 have e1 : IntKind.u64.wrap o = o := by rw [IntKind.wrap_u64]; omega
 have e2 : IntKind.u64.wrap g = g := by rw [IntKind.wrap_u64]; omega
 have e3 : IntKind.u64.wrap (o * 8) = o * 8 := by rw [IntKind.wrap_u64]; omega
 have e4 : IntKind.u64.wrap (g * 4294967296) = g * 4294967296 := by rw [IntKind.wrap_u64]; omega
 have q0 : bits .or .u64 2 (o * 8) = 2 + o * 8 := or_u64B 3 _ _ (by omega) (by omega) (by omega) (by omega) (by simp only [Int.reducePow]; omega) (by simp only [Int.reducePow]; omega)
 have q1 : bits .or .u64 (2 + o * 8) (g * 4294967296) = 2 + o * 8 + g * 4294967296 := or_u64B 32 _ _ (by omega) (by omega) (by omega) (by omega) (by simp only [Int.reducePow]; omega) (by simp only [Int.reducePow]; omega)
 go_enter Tryz.func240, Tryz.ntmps240
 go_wp2
 go_ret
 exact ⟨ret_int (by omega), (Below.refl _ _).alloc (Nat.le_refl _) _⟩
end Go.Proofs.YtlbfffokkhccaaaGreatDoor