/- impl's word.mask, isFull, and the test for noughts. -/
import Derived.Test.YtgeldgikjcihgaaMathPack2
import Derived.Test.YtgeldgikjcihgaaShelf
import Derived.Test.YtgeldgikjcihgaaWd
import Derived.Test.YtgeldgikjcihgaaMath2
import Derived.Stop.BytesEq
import Derived.Deep.DeepMust
namespace Go.Proofs.Ytgeldgikjcihgaa
open Go.RowKit
theorem maskN_take (l : List UInt8) : ∀ k, k < l.length → maskN (l.take (k + 1)) = maskN (l.take k) + (if l[k]?.getD 0 = 0 then 0 else 2 ^ k) := by
  induction l with
  | nil => intro k h; simp at h
  | cons b r ih =>
    intro k h
    cases k with
    | zero => simp [maskN]
    | succ k =>
      rw [List.take_succ_cons, List.take_succ_cons, maskN, maskN, ih k (by simpa using h), List.getElem?_cons_succ, Nat.pow_succ]
      by_cases hz : r[k]?.getD 0 = 0
      · rw [if_pos hz, if_pos hz]; omega
      · rw [if_neg hz, if_neg hz]; omega
theorem or_bit_u8 (m k : Nat) (hm : m < 2 ^ k) (hk : k < 8) : bits .or .u8 (m : Int) ((2 ^ k : Nat) : Int) = ((m + 2 ^ k : Nat) : Int) := by
  have h2 : 2 ^ k ≤ 2 ^ 7 := Nat.pow_le_pow_right (by decide) (by omega)
  have e7 : (2 : Nat) ^ 7 = 128 := rfl
  have hor : m ||| 2 ^ k = m + 2 ^ k := by
    have := Nat.two_pow_add_eq_or_of_lt hm 1
    rw [Nat.mul_one] at this
    rw [Nat.or_comm, ← this]
    omega
  show IntKind.u8.wrap ((BitVec.ofInt 8 (m : Int) ||| BitVec.ofInt 8 ((2 ^ k : Nat) : Int)).toNat : Int) = _
  rw [BitVec.toNat_or, BitVec.ofInt_natCast, BitVec.ofInt_natCast, BitVec.toNat_ofNat, BitVec.toNat_ofNat, Nat.mod_eq_of_lt (by omega), Nat.mod_eq_of_lt (by omega), hor, IntKind.wrap_u8]
  omega
theorem shl_bit_u8 (k : Nat) (hk : k < 8) : IntKind.u8.wrap ((2 ^ k : Nat) : Int) = ((2 ^ k : Nat) : Int) := by
  have h : k = 0 ∨ k = 1 ∨ k = 2 ∨ k = 3 ∨ k = 4 ∨ k = 5 ∨ k = 6 ∨ k = 7 := by omega
  rcases h with rfl | rfl | rfl | rfl | rfl | rfl | rfl | rfl <;> rfl
theorem shl2 (k : Nat) (hk : k < 8) : (2 : Int) ^ k % 256 = ((2 ^ k : Nat) : Int) := by
  have h : k = 0 ∨ k = 1 ∨ k = 2 ∨ k = 3 ∨ k = 4 ∨ k = 5 ∨ k = 6 ∨ k = 7 := by omega
  rcases h with rfl | rfl | rfl | rfl | rfl | rfl | rfl | rfl <;> rfl
theorem index_wd (l : List UInt8) (k : Nat) (c : UInt8) (hl : l.length = 8) (hk : k < 8) (hc : l[k]?.getD 0 = c) (W : World) :
    (Instr.index 50 (.agg (wd l)) (.int .i64 (k : Int))).run Try.prog W = .ok (.int .u8 (c.toNat : Int)) W := by
  have hkl : k < l.length := by omega
  have hidx : (wd l)[k]? = some (.int .u8 (c.toNat : Int)) := by rw [← hc]; simp [wd, Lib.byteCells, hkl]
  obtain ⟨j, hj, hjs⟩ := Option.map_eq_some_iff.1 size5
  have hs := wd_size l
  have hk2 : k < (wd l).size := by omega
  have hget : (wd l)[k] = .int .u8 (c.toNat : Int) := by rw [Array.getElem?_eq_getElem hk2] at hidx; exact Option.some.inj hidx
  have hag := Try.isAgg5
  simp [Instr.index, part, hag, asIntOf, run_underlying Try.underlying50, sizeOf, typeInfo, hj, hjs, hk, hidx, hget]
set_option maxRecDepth 100000 in
set_option maxHeartbeats 2000000 in
theorem mask_any (l : List UInt8) (w : World) (hl : l.length = 8) :
    Calls Try.prog 60 #[.agg (wd l)] w fun e w' => e = .returned (.int .u8 (maskN l : Nat)) ∧ Below w.heap.size w w' := by
  have HL := Lib.hid hl
  have h0 := heap_alloc_new w (.cells (wd l) 50)
  have HW := Lib.hid h0
  clear hl h0
  go_enter Try.func60, Try.ntmps60
  go_wp2_with (refine wpList_load_wd rfl 50 (.tmp 1) rfl w.heap.size rfl 50 l _ HW.out Try.underlying50 rfl (by rw [HL.out]; exact size46) ?_)
  go_loop [3, 7] (fun m i => ∃ k : Nat, k ≤ 8 ∧ i = .int .i64 k ∧ m = .int .u8 (maskN (l.take k) : Nat)) (fun _ i => 8 - (intOf i).toNat)
  case atStart => exact ⟨0, by omega, rfl, rfl⟩
  case round =>
    obtain ⟨k, hk, rfl, rfl⟩ := hrel
    have hm1 := maskN_lt (l.take k)
    have hml : (l.take k).length = k := by rw [List.length_take, HL.out]; omega
    rw [hml] at hm1
    by_cases hk1 : k < 8
    · have hst := maskN_take l k (by rw [HL.out]; exact hk1)
      have hidx := fun c hc W => index_wd l k c HL.out hk1 hc W
      have hor := or_bit_u8 (maskN (l.take k)) k hm1 hk1
      have hsh := shl_bit_u8 k hk1
      have HST := Lib.hid hst
      generalize maskN (l.take k) = M at hor HST ⊢
      have hidx2 := hidx _ rfl
      clear hidx
      generalize l[k]?.getD 0 = c at HST hidx2
      clear hst hm1 hml
      by_cases hz : c = 0
      · have hz1 : ((c.toNat : Int) == 0) = true := by rw [hz]; rfl
        have hz2 : ((c.toNat : Int) != 0) = false := by rw [hz]; rfl
        have HZ := Lib.hid hz
        clear hz hor hsh
        go_wp2
        go_round
        case rel => exact ⟨k + 1, by omega, by go_num, by rw [HST.out, if_pos HZ.out]; rfl⟩
        case measure => simp [intOf]; omega
      · have hz1 : ((c.toNat : Int) == 0) = false := by
          rw [beq_eq_false_iff_ne]; intro h; exact hz (UInt8.toNat_inj.1 (show c.toNat = 0 by omega))
        have hz2 : ((c.toNat : Int) != 0) = true := by simp [bne, hz1]
        have HZ := Lib.hid hz
        clear hz
        go_wp2
        go_round
        case rel => exact ⟨k + 1, by omega, by go_num, by rw [HST.out, if_neg HZ.out, shl2 k hk1, hor]⟩
        case measure => simp [intOf]; omega
    · obtain rfl : k = 8 := by omega
      have hall : l.take 8 = l := List.take_of_length_le (by rw [HL.out]; exact Nat.le_refl _)
      rw [hall]
      clear hm1 hml hall
      go_wp2
      go_ret
      exact ⟨rfl, (Below.refl _ _).alloc (Nat.le_refl _) _⟩
theorem few_pop {l : List UInt8} (hl : l.length = 8) : decide (7 ≤ popN 8 (maskN l)) = fewL l := by
  have h1 := popN_mask l
  rw [hl] at h1
  have h3 := filt_len (· == 0) l
  have h2 : nzL l = l.filter (fun x => !(x == 0)) := rfl
  rw [h1, fewL, h2, decide_eq_decide]
  omega
theorem ones_popA : ((List.range 256).all fun x => Lib.onesCount x == popN 8 x) = true := by decide +kernel
theorem ones_popA' (t : Nat) (h : t < 256) : Lib.onesCount t = popN 8 t := by
  have := List.all_eq_true.1 ones_popA t (List.mem_range.2 h)
  simpa using this
set_option maxHeartbeats 1000000 in
theorem isFull_any (l : List UInt8) (w : World) (hl : l.length = 8) :
    Calls Try.prog 92 #[.agg (wd l)] w fun e w' => e = .returned (.bool (fewL l)) ∧ Below w.heap.size w w' := by
  have HL := Lib.hid hl
  have h0 := heap_alloc_new w (.cells (wd l) 50)
  have HW := Lib.hid h0
  have hfp := few_pop hl
  have hml := maskN_lt l
  rw [hl] at hml
  have hm256 : maskN l < 256 := hml
  have hones := fun w => Try.bits_OnesCount8 (maskN l : Int) w (by omega) (by omega)
  rw [Int.toNat_natCast, ones_popA' (maskN l) hm256] at hones
  have hfp2 : decide ((7 : Int) ≤ ((popN 8 (maskN l) : Nat) : Int)) = fewL l := by rw [← hfp, decide_eq_decide]; omega
  have HM := Lib.hid (fun w => mask_any l w hl)
  obtain ⟨M, hM⟩ : ∃ M, maskN l = M := ⟨_, rfl⟩
  rw [hM] at HM hones hfp2
  have hpl : popN 8 M ≤ 8 := by rw [← hM, ← hl, popN_mask]; exact List.length_filter_le _ _
  obtain ⟨p, hp⟩ : ∃ p, popN 8 M = p := ⟨_, rfl⟩
  rw [hp] at hones hfp2 hpl
  have HON := Lib.hid hones
  have HF := Lib.hid hfp2
  clear hl h0 hfp hml hm256 hones hM hp hfp2
  go_enter Try.func92, Try.ntmps92
  go_wp2_with (refine wpList_load_wd rfl 50 (.tmp 1) rfl w.heap.size rfl 50 l _ HW.out Try.underlying50 rfl (by rw [HL.out]; exact size46) ?_)
  with_reducible (refine (HM.out _).mono ?_)
  rintro e w1 ⟨rfl, hb1⟩
  have HB1 := Lib.hid (((Below.refl _ w).alloc (Nat.le_refl _) (.cells (wd l) 50)).trans (hb1.mono (by simp)))
  clear hb1
  go_wp2_with fail
  with_reducible (refine (HON.out _).mono ?_)
  rintro e w2 ⟨rfl, rfl⟩
  go_wp2
  go_ret
  exact ⟨ret_bool HF.out, HB1.out⟩
theorem zer8_eq (a b c d e f g i : UInt8) : zerL [a, b, c, d, e, f, g, i] = ([a, b, c, d, e, f, g, i] == [0, 0, 0, 0, 0, 0, 0, 0]) := by
  rw [Bool.eq_iff_iff]; simp [zerL]
theorem eql_word (a b c d e f g i : UInt8) (w : World) :
    (binOp .eql 50 (.agg #[.int .u8 a.toNat, .int .u8 b.toNat, .int .u8 c.toNat, .int .u8 d.toNat, .int .u8 e.toNat, .int .u8 f.toNat, .int .u8 g.toNat, .int .u8 i.toNat]) (.agg #[.int .u8 0, .int .u8 0, .int .u8 0, .int .u8 0, .int .u8 0, .int .u8 0, .int .u8 0, .int .u8 0])).run Try.prog w = .ok (.bool (zerL [a, b, c, d, e, f, g, i])) w := by
  rw [zer8_eq]
  have h2 : ((Op.equalIn 10000 50 (.agg #[.int .u8 a.toNat, .int .u8 b.toNat, .int .u8 c.toNat, .int .u8 d.toNat, .int .u8 e.toNat, .int .u8 f.toNat, .int .u8 g.toNat, .int .u8 i.toNat]) (.agg #[.int .u8 0, .int .u8 0, .int .u8 0, .int .u8 0, .int .u8 0, .int .u8 0, .int .u8 0, .int .u8 0])).run Try.prog w) = .ok ([a, b, c, d, e, f, g, i] == [0, 0, 0, 0, 0, 0, 0, 0]) w := run_equalIn_bytes w 9998 50 5 8 Try.underlying50 Try.underlying5 (fun w => by kernel_rfl) [a, b, c, d, e, f, g, i] [0, 0, 0, 0, 0, 0, 0, 0] rfl rfl
  rw [run_eql_struct, h2]
  rfl
theorem guard_wordA (op : BinOp) (x y : Operand) (xs ys : Array Value) (w : World) : (eqGuard op 50 x y (.agg xs) (.agg ys)).run Try.prog w = .ok () w := run_eqGuard_agg w _ _ _ _ _ _ (by kernel_rfl)
set_option maxHeartbeats 1000000 in
theorem noughts1_any (l : List UInt8) (w : World) (hl : l.length = 8) :
    Calls Try.prog 91 #[.agg (wd l)] w fun e w' => e = .returned (.bool (zerL l)) ∧ Below w.heap.size w w' := by
  obtain ⟨a, b, c, d, e, f, g, i, rfl⟩ := len8 hl
  have heq := eql_word a b c d e f g i
  have hgd := fun x y => guard_wordA .eql x y
  have h0 := heap_alloc_new w (.cells (wd [a, b, c, d, e, f, g, i]) 50)
  rw [wd8] at h0 ⊢
  generalize zerL [a, b, c, d, e, f, g, i] = z at heq
  go_enter Try.func91, Try.ntmps91
  go_wp2
  go_ret
  exact ⟨rfl, (Below.refl _ _).alloc (Nat.le_refl _) _⟩
end Go.Proofs.Ytgeldgikjcihgaa
