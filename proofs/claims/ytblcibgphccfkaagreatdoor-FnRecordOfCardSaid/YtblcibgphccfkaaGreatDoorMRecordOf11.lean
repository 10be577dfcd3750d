/- Texts of the proof of the law FnRecordOf, side by side: part 11. -/
import Derived.Test.YtblcibgphccfkaaGreatDoorMRecordOf10
set_option maxHeartbeats 8000000
set_option maxRecDepth 100000
namespace Go.Proofs.YtblcibgphccfkaaGreatDoor
open Go.RowKit
theorem put_any (l : List UInt8) (at_ size n : Int) (w : World) (hl : l.length = 8) (h0 : 0 ≤ at_) (h1 : 0 ≤ size) (h2 : at_ + size ≤ 8) (hn0 : 0 ≤ n) (hn1 : n < 18446744073709551616) :
 Calls Tryz.prog 155 #[.agg (wd l), .int .i64 at_, .int .i64 size, .int .u64 n] w fun e w' => e = .returned (.agg (wd (putL l at_.toNat (leB n size.toNat)))) ∧ Below w.heap.size w w' := by
 obtain ⟨a, rfl⟩ := Int.eq_ofNat_of_zero_le h0
 obtain ⟨z, rfl⟩ := Int.eq_ofNat_of_zero_le h1
 have HL := Lib.hid hl
 clear hl
 go_enter Tryz.func155, Tryz.ntmps155
 go_wp2
 go_loopw [3, 9] (fun m i wr => ∃ k : Nat, k ≤ z ∧ i = .int .i64 ((a : Int) + k) ∧ m = .int .u64 (shr8 n k) ∧ Hid (wr.heap[w.heap.size]? = some (.cells (wd (putL l a (leB n k))) 180 (0, 0))) ∧ Hid (wr.heap[w.heap.size + 1]? = some (.cells #[.int .u8 0, .int .u8 0, .int .u8 0, .int .u8 0, .int .u8 0, .int .u8 0, .int .u8 0, .int .u8 0] 180 (0, 0))) ∧ Hid (Below w.heap.size w wr)) (fun _ i _ => (a + z - intOf i).toNat)
 case atStart =>
  refine ⟨0, by omega, by simp, rfl, ?_, ?_, ?_⟩
  · rw [leB, putL_nil]; exact heap_alloc2_old w _ _
  · exact heap_alloc2_new w _ _
  · exact ((Below.refl _ _).alloc (Nat.le_refl _) _).alloc (by simp) _
 case round =>
  obtain ⟨k, hk, rfl, rfl, HW, HZ, HB⟩ := hrel
  have hbd := shr8_bd n k hn0 hn1
  obtain ⟨hb0, hb1⟩ := hbd
  by_cases hlt : k < z
  · have hcell := wd_cell_row HW.out (a + k) (by rw [putL_length _ _ _ (by rw [leB_length, HL.out]; omega), HL.out]; omega)
    have hfr := frozen_row HW.out (a + k)
    go_wp2
    go_roundw
    case rel =>
     exact ⟨k + 1, by omega, by go_num, rfl, put_step l a n k (by rw [HL.out]; omega) HW.out, heap_set_far _ (by omega) HZ.out, HB.out.setCell (Nat.le_refl _) _⟩
    case measure => simp [intOf]; omega
  · obtain rfl : k = z := by omega
    have hpl : (putL l a (leB n k)).length = 8 := by rw [putL_length _ _ _ (by rw [leB_length, HL.out]; omega), HL.out]
    have HP := Lib.hid hpl
    clear hpl
    go_wp2_with (first | (refine wpList_load_wd rfl 180 (.tmp 4) rfl w.heap.size rfl 180 _ _ HW.out Tryz.underlying180 rfl (by rw [HP.out]; exact size46) ?_) | (refine wpList_store_wd rfl 180 (.tmp 8) (.tmp 24) rfl (w.heap.size + 1) _ rfl rfl 180 _ HZ.out (by rw [HP.out]; exact size46) (by rw [HP.out]; rfl) ?_; intro w5 hg5 hb5))
    refine bodyPost_ret (v := .agg (wd (putL l a (leB n k)))) ?_ rfl ⟨by simp, HB.out.grown hb5.out (by have := HB.out.size; omega) (fun k e => by cases e; simp)⟩
    exact results_cell_row rfl _ _ (w.heap.size + 1) 180 _ (0, 0) _ rfl hg5.out Tryz.underlying180 rfl (by rw [wd_size, HP.out]; exact size46)
theorem text_any (l : List UInt8) (w : World) (hl : l.length = 8) :
 Calls Tryz.prog 161 #[.agg (wd l)] w fun e w' => e = .returned (.string ⟨l.toArray⟩) ∧ Below w.heap.size w w' := by
 have hrow := heap_alloc_new w (.cells (wd l) 180)
 have hcv : (convert 22 9 (.slice (some ⟨w.heap.size, 0, none⟩) 8 8)).run Tryz.prog (w.alloc (.cells (wd l) 180)) = .ok (.string ⟨l.toArray⟩) (w.alloc (.cells (wd l) 180)) := by
  exact convert_wd _ _ _ _ _ _ 8 l hl Tryz.underlying22 Tryz.underlying5 Tryz.underlying9 hrow (by rw [List.take_of_length_le (by simp [wd, Lib.byteCells_length, hl])]; simp [wd])
 have HL := Lib.hid hl
 clear hl hrow
 go_enter Tryz.func161, Tryz.ntmps161
 go_wp2
 go_ret
 exact ⟨rfl, (Below.refl _ _).alloc (Nat.le_refl _) _⟩
theorem text_lit (b0 b1 b2 b3 b4 b5 b6 b7 : UInt8) (w : World) :
 Calls Tryz.prog 161 #[.agg #[.int .u8 b0.toNat, .int .u8 b1.toNat, .int .u8 b2.toNat, .int .u8 b3.toNat, .int .u8 b4.toNat, .int .u8 b5.toNat, .int .u8 b6.toNat, .int .u8 b7.toNat]] w fun e w' =>
  e = .returned (.string ⟨#[b0, b1, b2, b3, b4, b5, b6, b7]⟩) ∧ Below w.heap.size w w' := text_any [b0, b1, b2, b3, b4, b5, b6, b7] w rfl
theorem ba_append (a b : ByteArray) : (a ++ b).data.toList = a.data.toList ++ b.data.toList := by simp
theorem put_string (s : ByteArray) (a : Nat) (l : List UInt8) (n : Nat) (hn : l.length = n) (h : a + n ≤ s.size) :
 s.extract 0 a ++ ⟨l.toArray⟩ ++ s.extract (a + n) s.size = ⟨(putL s.data.toList a l).toArray⟩ := by
 subst hn
 apply ext_ba
 rw [ba_append, ba_append, Lib.extract_data, Lib.extract_data]
 simp [putL, List.take_of_length_le]
theorem withWord_any (s : ByteArray) (i : Int) (l : List UInt8) (w : World) (hs : s.size ≤ maxLen) (h0 : 0 ≤ i) (hi : 8 * i + 8 ≤ s.size) (hl : l.length = 8) :
 Calls Tryz.prog 151 #[.string s, .int .i64 i, .agg (wd l)] w fun e w' => e = .returned (.string ⟨(putL s.data.toList (8 * i.toNat) l).toArray⟩) ∧ Below w.heap.size w w' := by
 obtain ⟨i, rfl⟩ := Int.eq_ofNat_of_zero_le h0
 unfold maxLen at hs
 obtain ⟨b0, b1, b2, b3, b4, b5, b6, b7, rfl⟩ := len8 hl
 have hfin := put_string s (8 * (i : Int).toNat) [b0, b1, b2, b3, b4, b5, b6, b7] 8 rfl (by omega)
 rw [← hfin, wd8, show 8 * (i : Int).toNat = i * 8 by omega]
 clear hfin hl
 have e1 : IntKind.i64.wrap ((i : Int) * 8) = (i : Int) * 8 := by rw [IntKind.wrap_i64]; omega
 have e2 : (0 : Int) ≤ (i : Int) * 8 := by omega
 have e3 : (i : Int) * 8 ≤ (s.size : Int) := by omega
 have e4 : ((i : Int) * 8).toNat = i * 8 := by omega
 have e5 : IntKind.i64.wrap ((i : Int) * 8 + 8) = (i : Int) * 8 + 8 := by rw [IntKind.wrap_i64]; omega
 have e6 : (0 : Int) ≤ (i : Int) * 8 + 8 := by omega
 have e7 : (i : Int) * 8 + 8 ≤ (s.size : Int) := by omega
 have e8 : ((i : Int) * 8 + 8).toNat = i * 8 + 8 := by omega
 have em : min (i * 8) s.size = i * 8 := by omega
 have f1 : ¬ 9223372036854775807 < i * 8 + 8 := by omega
 have f2 : ¬ 9223372036854775807 < i * 8 + 8 + (s.size - (i * 8 + 8)) := by omega
 go_enter Tryz.func151, Tryz.ntmps151
 go_wp2
 go_region_law (first | (go_simp; go_at_call 161; refine (text_lit _ _ _ _ _ _ _ _ _).mono ?_; rintro e w5 ⟨rfl, hb5⟩))
 all_goals
  clear e1 e2 e3 e4 e5 e6 e7 e8 em f1 f2
  have hB : Hid (Below w.heap.size w w5) := ((Below.refl w.heap.size w).alloc (Nat.le_refl _) _).drew.trans (hb5.mono (by simp))
  clear hb5
  go_wp2
  go_ret
  exact ⟨rfl, hB.out⟩
theorem leB_mod (n m : Int) : ∀ (k : Nat) (c : Int), n = m + c * 256 ^ k → leB n k = leB m k
 | 0, _, _ => rfl
 | k + 1, c, h => by
   have e : n = m + 256 * (c * 256 ^ k) := by rw [h, Int.pow_succ, Int.mul_comm (256 ^ k) 256, ← Int.mul_assoc, Int.mul_comm c 256, Int.mul_assoc]
   rw [leB, leB, leB_mod (n / 256) (m / 256) k c (by omega), show n % 256 = m % 256 by omega]
theorem leB_u64 (n : Int) (k : Nat) (hk : k ≤ 8) : leB (IntKind.u64.wrap n) k = leB n k := by
 rw [IntKind.wrap_u64]
 obtain ⟨j, hj⟩ : ∃ j, 8 = k + j := ⟨8 - k, by omega⟩
 refine (leB_mod n _ k (n / 18446744073709551616 * 256 ^ j) ?_).symm
 have h8 : (18446744073709551616 : Int) = 256 ^ j * 256 ^ k := by
  rw [← Int.pow_add, show j + k = 8 by omega]; rfl
 rw [Int.mul_assoc, ← h8]
 omega
theorem putL_word (l : List UInt8) (q r : Nat) (xs : List UInt8) (h1 : r + xs.length ≤ 8) (h2 : 8 * q + 8 ≤ l.length) :
 putL l (8 * q) (putL ((l.drop (8 * q)).take 8) r xs) = putL l (8 * q + r) xs := by
 have hl : ((l.drop (8 * q)).take 8).length = 8 := by simp; omega
 have hp : (putL ((l.drop (8 * q)).take 8) r xs).length = 8 := by rw [putL_length _ _ _ (by omega), hl]
 rw [putL, hp, putL, putL]
 have e1 : l.take (8 * q) ++ ((l.drop (8 * q)).take 8).take r = l.take (8 * q + r) := by
  rw [List.take_take, Nat.min_eq_left (by omega), ← List.take_add]
 have e2 : ((l.drop (8 * q)).take 8).drop (r + xs.length) ++ l.drop (8 * q + 8) = l.drop (8 * q + r + xs.length) := by
  have h := List.take_append_drop (8 - (r + xs.length)) (l.drop (8 * q + r + xs.length))
  rw [List.drop_drop, show 8 * q + r + xs.length + (8 - (r + xs.length)) = 8 * q + 8 by omega] at h
  rw [List.drop_take, List.drop_drop, show 8 * q + (r + xs.length) = 8 * q + r + xs.length by omega]
  exact h
 simp only [← List.append_assoc]
 rw [e1]
 simp only [List.append_assoc]
 rw [e2]
def putOk (l : List UInt8) (at_ size n : Int) : Bool := placeB at_ size && (decide (at_ < l.length) && fitsB n size)
def putT (l : List UInt8) (at_ size n : Int) : List UInt8 := if wordsB l.length = true then (if putOk l at_ size n = true then putL l at_.toNat (leB n size.toNat) else l) else []
def putB (l : List UInt8) (at_ size n : Int) : Bool := wordsB l.length && putOk l at_ size n
theorem ba_eta (s : ByteArray) : (⟨s.data.toList.toArray⟩ : ByteArray) = s := by cases s; simp
theorem implPut_any (s : ByteArray) (at_ size n : Int) (w : World) (hs : s.size ≤ maxLen) (hn : -9223372036854775808 ≤ n ∧ n ≤ 9223372036854775807) :
 Calls Tryz.prog 130 #[.string s, .int .i64 at_, .int .i64 size, .int .i64 n] w fun e w' =>
  e = .returned (.tuple #[.string ⟨(putT s.data.toList at_ size n).toArray⟩, .bool (putB s.data.toList at_ size n)]) ∧ Below w.heap.size w w' := by
 have hsl : s.data.toList.length = s.size := by simp
 cases hw : wordsB s.size
 · have hT : putT s.data.toList at_ size n = [] := by rw [putT, hsl, hw, if_neg (by simp)]
   have hB : putB s.data.toList at_ size n = false := by rw [putB, hsl, hw, Bool.false_and]
   rw [hT, hB]
   clear hT hB hsl
   go_enter Tryz.func130, Tryz.ntmps130
   go_wp2_with (first | (go_at_call 142; refine (isWords_any _ _ hs).mono ?_; rintro e w' ⟨rfl, rfl⟩))
   go_ret2
   exact ⟨rfl, Below.refl _ _⟩
 have hno : putOk s.data.toList at_ size n = false → putT s.data.toList at_ size n = s.data.toList ∧ putB s.data.toList at_ size n = false := fun h => by
  rw [putT, putB, hsl, hw, h, if_pos rfl, if_neg (by simp)]; exact ⟨rfl, rfl⟩
 cases hp : placeB at_ size
 · obtain ⟨hT, hB⟩ := hno (by rw [putOk, hp, Bool.false_and])
   rw [hT, hB, ba_eta]
   clear hT hB hno hsl
   go_enter Tryz.func130, Tryz.ntmps130
   go_wp2_with (first | (go_at_call 142; refine (isWords_any _ _ hs).mono ?_; rintro e w' ⟨rfl, rfl⟩) | (go_at_call 152; refine (isPlace_any _ _ _).mono ?_; rintro e w' ⟨rfl, rfl⟩))
   go_ret2
   exact ⟨rfl, Below.refl _ _⟩
 have hp' : 0 ≤ at_ ∧ at_ ≤ 1600 ∧ ((size = 1 ∨ size = 2 ∨ size = 4 ∨ size = 8) ∧ at_ % size = 0) := by simpa [placeB] using hp
 obtain ⟨ha0, ha1, hz, hm⟩ := hp'
 have hw8 : s.size % 8 = 0 ∧ s.size ≤ 1600 := by simpa [wordsB] using hw
 obtain ⟨hw1, hw2⟩ := hw8
 obtain ⟨a, rfl⟩ := Int.eq_ofNat_of_zero_le ha0
 by_cases hin : a < s.size
 · cases hf : fitsB n size
   · obtain ⟨hT, hB⟩ := hno (by rw [putOk, hf, Bool.and_false, Bool.and_false])
     rw [hT, hB, ba_eta]
     clear hT hB hno hsl hm
     go_enter Tryz.func130, Tryz.ntmps130
     go_wp2_with (first | (go_at_call 142; refine (isWords_any _ _ hs).mono ?_; rintro e w' ⟨rfl, rfl⟩) | (go_at_call 152; refine (isPlace_any _ _ _).mono ?_; rintro e w' ⟨rfl, rfl⟩) | (go_at_call 154; refine (fitsBytes_any _ _ _ hz hn).mono ?_; rintro e w' ⟨rfl, rfl⟩))
     go_ret2
     exact ⟨rfl, Below.refl _ _⟩
   · have hok : putOk s.data.toList a size n = true := by rw [putOk, hp, hf, hsl]; simpa using hin
     have hT : putT s.data.toList a size n = putL s.data.toList a (leB n size.toNat) := by rw [putT, hsl, hw, hok, if_pos rfl, if_pos rfl]; rfl
     have hB : putB s.data.toList a size n = true := by rw [putB, hsl, hw, hok]; rfl
     have hlen : ((s.data.toList.drop (8 * (a / 8))).take 8).length = 8 := by simp; omega
     have hsum : (a % 8 : Nat) + size ≤ 8 := by rcases hz with rfl | rfl | rfl | rfl <;> omega
     have hz0 : 0 ≤ size := by omega
     have hN := putL_word s.data.toList (a / 8) (a % 8) (leB n size.toNat) (by rw [leB_length]; omega) (by rw [hsl]; omega)
     rw [show 8 * (a / 8) + a % 8 = a by omega, ← leB_u64 n size.toNat (by omega)] at hN
     rw [hT, hB, ← leB_u64 n size.toNat (by omega), ← hN]
     have hpl : (putL ((s.data.toList.drop (8 * (a / 8))).take 8) (a % 8) (leB (IntKind.u64.wrap n) size.toNat)).length = 8 := by rw [putL_length _ _ _ (by rw [leB_length]; omega), hlen]
     have HL := Lib.hid hlen
     have HP := Lib.hid hpl
     have HM := Lib.hid hm
     have hm0 : 0 ≤ IntKind.u64.wrap n := wrap_u64_nonneg n
     have hm1 : IntKind.u64.wrap n < 18446744073709551616 := by rw [IntKind.wrap_u64]; omega
     clear hN hT hB hlen hsl hm hok hno hpl
     go_enter Tryz.func130, Tryz.ntmps130
     go_wp2_with (first | (go_at_call 142; refine (isWords_any _ _ hs).mono ?_; rintro e w' ⟨rfl, rfl⟩) | (go_at_call 152; refine (isPlace_any _ _ _).mono ?_; rintro e w' ⟨rfl, rfl⟩) | (go_at_call 154; refine (fitsBytes_any _ _ _ hz hn).mono ?_; rintro e w' ⟨rfl, rfl⟩) | (go_at_call 148; go_must (refine (wordAt_any s _ _ hs (by omega) (by omega)).mono ?_); rintro e w1 ⟨rfl, hb1⟩) | (go_at_call 155; go_must (refine (put_any _ _ _ _ _ (by exact HL.out) (by omega) (by omega) (by omega) (by omega) (by omega)).mono ?_); rintro e w2 ⟨rfl, hb2⟩) | (refine wpList_store_wd rfl 180 (.tmp 10) (.tmp 40) rfl w2.heap.size (putL ((s.data.toList.drop (8 * (a / 8))).take 8) (a % 8) (leB (IntKind.u64.wrap n) size.toNat)) rfl rfl 180 _ (heap_alloc_new w2 _) (by rw [HP.out]; exact size46) (by rw [HP.out]; rfl) ?_; intro w3 hg3 hb3) | (refine wpList_load_wd rfl 180 (.tmp 10) rfl w2.heap.size rfl 180 _ _ hg3.out Tryz.underlying180 rfl (by rw [HP.out]; exact size46) ?_) | (go_at_call 151; go_must (refine (withWord_any s _ _ _ hs (by omega) (by omega) HP.out).mono ?_); rintro e w4 ⟨rfl, hb4⟩))
     go_ret2
     refine ⟨rfl, ?_⟩
     have hB2 : Below w.heap.size w w2 := hb1.trans (hb2.mono hb1.size)
     exact ((hB2.alloc hB2.size _).grown hb3.out (by have := hB2.size; simp; omega) (fun k e => by cases e; exact hB2.size)).trans (hb4.mono (by have := hB2.size; have := hb3.out.size; simp at this; omega))
 · obtain ⟨hT, hB⟩ := hno (by rw [putOk, hsl]; simp; intros; omega)
   rw [hT, hB, ba_eta]
   clear hT hB hno hsl hm
   go_enter Tryz.func130, Tryz.ntmps130
   go_wp2_with (first | (go_at_call 142; refine (isWords_any _ _ hs).mono ?_; rintro e w' ⟨rfl, rfl⟩) | (go_at_call 152; refine (isPlace_any _ _ _).mono ?_; rintro e w' ⟨rfl, rfl⟩))
   go_ret2
   exact ⟨rfl, Below.refl _ _⟩
theorem leN_congr (l m : List UInt8) : ∀ (k a b : Nat), (∀ i, i < k → l[a + i]? = m[b + i]?) → leN l a k = leN m b k
 | 0, _, _, _ => rfl
 | k + 1, a, b, h => by
   have h0 := h 0 (by omega)
   simp only [Nat.add_zero] at h0
   have h1 := leN_congr l m k (a + 1) (b + 1) (fun i hi => by
    have := h (i + 1) (by omega)
    rwa [show a + (i + 1) = a + 1 + i by omega, show b + (i + 1) = b + 1 + i by omega] at this)
   rw [leN, leN, h0, h1]
theorem putL_in (l : List UInt8) (a : Nat) (xs : List UInt8) (h : a + xs.length ≤ l.length) (i : Nat) (hi : i < xs.length) : (putL l a xs)[a + i]? = xs[i]? := by
 have e1 : (l.take a).length = a := by simp; omega
 rw [putL, List.getElem?_append_right (by omega), e1, Nat.add_sub_cancel_left, List.getElem?_append_left hi]
theorem putL_out (l : List UInt8) (a : Nat) (xs : List UInt8) (h : a + xs.length ≤ l.length) (j : Nat) (hj : j < a ∨ a + xs.length ≤ j) : (putL l a xs)[j]? = l[j]? := by
 have e1 : (l.take a).length = a := by simp; omega
 rcases hj with hj | hj
 · rw [putL, List.getElem?_append_left (by omega), List.getElem?_take_of_lt hj]
 · rw [putL, List.getElem?_append_right (by omega), e1, List.getElem?_append_right (by omega), List.getElem?_drop]
   congr 1; omega
theorem emod_256 (n m : Int) : n % (256 * m) = n % 256 + 256 * (n / 256 % m) := by
 rw [Int.emod_def n (256 * m), Int.emod_def (n / 256) m, ← Int.ediv_ediv_of_nonneg (by decide), Int.mul_assoc]
 omega
theorem leN_leB : ∀ (k : Nat) (n : Int), ((leN (leB n k) 0 k : Nat) : Int) = n % 256 ^ k
 | 0, n => by simp [leN, Int.emod_one]
 | k + 1, n => by
   have ih := leN_leB k (n / 256)
   have e : leN (leB n (k + 1)) 1 k = leN (leB (n / 256) k) 0 k := leN_congr _ _ k 1 0 (fun i _ => by rw [leB, Nat.add_comm, List.getElem?_cons_succ, Nat.zero_add])
   rw [leN, Nat.zero_add, e, leB, List.getElem?_cons_zero]
   simp only [Option.getD_some]
   rw [Int.natCast_add, Int.natCast_mul, ih, ofNat_toNat_u8, Int.pow_succ, Int.mul_comm (256 ^ k) 256, emod_256]
   rfl
theorem leN_putL (l : List UInt8) (a : Nat) (n : Int) (k : Nat) (h : a + k ≤ l.length) : ((leN (putL l a (leB n k)) a k : Nat) : Int) = n % 256 ^ k := by
 rw [← leN_leB k n, leN_congr (putL l a (leB n k)) (leB n k) k a 0 (fun i hi => ?_)]
 rw [putL_in l a _ (by rw [leB_length]; exact h) i (by rw [leB_length]; exact hi), Nat.zero_add]
theorem putB_parts {l : List UInt8} {a z n : Int} (h : putB l a z n = true) :
 (l.length % 8 = 0 ∧ l.length ≤ 1600) ∧ placeB a z = true ∧ fitsB n z = true ∧ 0 ≤ a ∧ a.toNat + z.toNat ≤ l.length ∧ (z = 1 ∨ z = 2 ∨ z = 4 ∨ z = 8) := by
 simp only [putB, putOk, Bool.and_eq_true, decide_eq_true_eq] at h
 obtain ⟨hw, hp, hin, hf⟩ := h
 have hw8 : l.length % 8 = 0 ∧ l.length ≤ 1600 := by simpa [wordsB] using hw
 have hp' : 0 ≤ a ∧ a ≤ 1600 ∧ ((z = 1 ∨ z = 2 ∨ z = 4 ∨ z = 8) ∧ a % z = 0) := by simpa [placeB] using hp
 obtain ⟨ha0, ha1, hz, hm⟩ := hp'
 refine ⟨hw8, hp, hf, ha0, ?_, hz⟩
 rcases hz with rfl | rfl | rfl | rfl <;> omega
theorem putT_eq {l : List UInt8} {a z n : Int} (h : putB l a z n = true) : putT l a z n = putL l a.toNat (leB n z.toNat) := by
 simp only [putB, Bool.and_eq_true] at h
 rw [putT, if_pos h.1, if_pos h.2]
theorem putT_length {l : List UInt8} {a z n : Int} (h : putB l a z n = true) : (putT l a z n).length = l.length := by
 obtain ⟨_, _, _, _, hin, _⟩ := putB_parts h
 rw [putT_eq h, putL_length _ _ _ (by rw [leB_length]; exact hin)]
theorem getI_eq {l : List UInt8} {a z : Int} (hw : l.length % 8 = 0 ∧ l.length ≤ 1600) (hp : placeB a z = true) : getI l a z = wrap64 (leN l a.toNat z.toNat : Nat) := by
 rw [getI, if_pos ⟨by simpa [wordsB] using hw, hp⟩]
theorem put_got {l : List UInt8} {a z n : Int} (h : putB l a z n = true) (hn : -9223372036854775808 ≤ n ∧ n ≤ 9223372036854775807) : getI (putT l a z n) a z = n := by
 have hl := putT_length h
 obtain ⟨hw, hp, hf, ha, hin, hz⟩ := putB_parts h
 rw [getI_eq (by rw [hl]; exact hw) hp, putT_eq h, leN_putL _ _ _ _ hin]
 have hf' : z = 8 ∨ (0 ≤ n ∧ n < 256 ^ z.toNat) := by simpa [fitsB] using hf
 obtain ⟨hn0, hn1⟩ := hn
 rcases hz with rfl | rfl | rfl | rfl
 · have e : (256 : Int) ^ (1 : Int).toNat = 256 := rfl
   rw [e] at hf' ⊢
   unfold wrap64; omega
 · have e : (256 : Int) ^ (2 : Int).toNat = 65536 := rfl
   rw [e] at hf' ⊢
   unfold wrap64; omega
 · have e : (256 : Int) ^ (4 : Int).toNat = 4294967296 := rfl
   rw [e] at hf' ⊢
   unfold wrap64; omega
 · have e : (256 : Int) ^ (8 : Int).toNat = 18446744073709551616 := rfl
   rw [e]
   unfold wrap64; omega
def choN (l : List Fld) (n : Nd) : Int := if recB l n then (if tagL l < 0 then -1 else wrap64 (leN n.data.data.toList (2 * tagL l).toNat 2 : Nat)) else -1
theorem rec_data {l : List Fld} {n : Nd} (h : recB l n = true) : n.data.size % 8 = 0 ∧ n.data.size ≤ 1592 ∧ fldsOk l = true := by
 unfold recB isRec at h
 simp only [Bool.and_eq_true, decide_eq_true_eq] at h
 obtain ⟨h0, hk, ho⟩ := h
 obtain ⟨h8, hw⟩ := (by unfold nodeOk at ho; rw [Bool.and_eq_true, decide_eq_true_eq] at ho; exact ho : okN 8 n = true ∧ wordsN 8 n ≤ 199)
 have hf : formN n = true := by
  cases hf : formN n with
  | true => rfl
  | false => rw [ok_form hf] at h8; cases h8
 have ho8 : ownN n ≤ wordsN 8 n := own_le_words
 have hd : (n.data.size + 7) / 8 ≤ ownN n := by unfold ownN ownB; omega
 rcases form_cases hf with hc | hc | hc
 · exact ⟨by omega, by omega, h0⟩
 · exact ⟨by omega, by omega, h0⟩
 · exact absurd hc.1 hk
theorem cho_get {l : List Fld} {n : Nd} (h : recB l n = true) (ht : ¬ tagL l < 0) : getI n.data.data.toList (tagL l * 2) 2 = choN l n := by
 obtain ⟨h8, hw, hok⟩ := rec_data h
 have hb := tagL_bd hok
 have hp : placeB (tagL l * 2) 2 = true := by simp only [placeB, decide_eq_true_eq]; exact ⟨by omega, by omega, .inr (.inl trivial), by omega⟩
 have hl : n.data.data.toList.length = n.data.size := by simp
 rw [getI_eq (by rw [hl]; omega) hp]
 unfold choN
 rw [if_pos h, if_neg ht, Int.mul_comm]
 rfl
theorem implRecordChoice_a (A : Option Addr) (c : Nat) (l : List Fld) (m : Nat) (n : Nd) (h : Hd) (w : World) (S : Nat → Prop) (ht : Tab w) (h1w : 1 < w.heap.size) (hl : Flds w A l) (hll : l.length ≤ 10000000) (hn : NdAt w S m n h) (htn : totN m n ≤ 2000000) :
 Calls Tryz.prog 18 #[.slice A l.length c, .agg #[.int .i64 n.kind, .string n.data, .slice h.A n.ptrs.length h.a, .int .i64 n.size, .int .i64 n.count, .slice h.B n.items.length h.b]] w fun e w' => e = .returned (.int .i64 (choN l n)) ∧ Below w.heap.size w w' := by
 have hbx := (Below.refl w.heap.size w).alloc (Nat.le_refl _) (.cells #[.int .i64 n.kind, .string n.data, .slice h.A n.ptrs.length h.a, .int .i64 n.size, .int .i64 n.count, .slice h.B n.items.length h.b] nodeT)
 have HC := Lib.hid (recordBy_a A c l m n h _ S (ht.below hbx h1w) (by simp; omega) (hl.below hbx) hll (hn.below hbx) htn)
 have hd := hn.1
 have HBX := Lib.hid hbx
 clear hn ht hl hbx
 go_enter Tryz.func18, Tryz.ntmps18
 go_wp2_with fail
 refine HC.out.mono ?_
 intro e w1 hrec
 rcases hrec with ⟨hok, v1, rfl, hown, hb1⟩ | ⟨hok, rfl, hb1⟩
 · obtain ⟨A1, cp1, rfl⟩ := own_slice2 hown
   have hb2 := (Below.refl w1.heap.size w1).alloc (Nat.le_refl _) (.cells #[.slice A l.length c, .int .i64 ((layF l ps0).2.ls.words : Int), .int .i64 ((layF l ps0).2.ptrs : Int), (.slice A1 l.length cp1), .int .i64 (tagL l), .int .i64 n.kind, .string n.data, .slice h.A n.ptrs.length h.a, .int .i64 n.size, .int .i64 n.count, .slice h.B n.items.length h.b] recT)
   have hr : RecAt (w1.alloc (.cells #[.slice A l.length c, .int .i64 ((layF l ps0).2.ls.words : Int), .int .i64 ((layF l ps0).2.ptrs : Int), (.slice A1 l.length cp1), .int .i64 (tagL l), .int .i64 n.kind, .string n.data, .slice h.A n.ptrs.length h.a, .int .i64 n.size, .int .i64 n.count, .slice h.B n.items.length h.b] recT)) w1.heap.size A l.length c l (.slice A1 l.length cp1) n h := heap_alloc_new w1 _
   obtain ⟨c0, c1, c2, c3, c4, c5, c6, c7, c8, c9, c10⟩ := cells11 hr
   have HR := Lib.hid hr
   have HB2 := Lib.hid ((HBX.out.trans (hb1.mono HBX.out.size)).trans (hb2.mono (HBX.out.trans (hb1.mono HBX.out.size)).size))
   have HOK := Lib.hid hok
   clear hb1 hb2 hown hr hok
   unfold recV
   by_cases htg : tagL l < 0
   · have HX : Hid (choN l n = -1) := Lib.hid (by unfold choN; rw [if_pos HOK.out, if_pos htg])
     go_wp2_with fail
     go_ret
     exact ⟨by rw [HX.out]; rfl, HB2.out⟩
   · have HX := Lib.hid (cho_get HOK.out htg)
     have hb := tagL_bd (rec_data HOK.out).2.2
     have h0 : 0 ≤ tagL l := by omega
     have HT := Lib.hid (told_a _ A l.length c l _ n h _ HR.out hd h0 (by omega))
     rw [HX.out] at HT
     go_wp2_with fail
     refine HT.out.mono ?_
     rintro e w3 ⟨rfl, hb3⟩
     have HB3 := Lib.hid (HB2.out.trans (hb3.mono HB2.out.size))
     clear hb3
     go_wp2
     go_ret
     exact ⟨rfl, HB3.out⟩
 · have HX : Hid (choN l n = -1) := Lib.hid (by unfold choN; rw [hok]; rfl)
   have hb2 := (Below.refl w1.heap.size w1).alloc (Nat.le_refl _) (.cells #[.slice none 0 0, .int .i64 0, .int .i64 0, .slice none 0 0, .int .i64 0, .int .i64 0, .string { data := #[] }, .slice none 0 0, .int .i64 0, .int .i64 0, .slice none 0 0] recT)
   have HB2 := Lib.hid ((HBX.out.trans (hb1.mono HBX.out.size)).trans (hb2.mono (HBX.out.trans (hb1.mono HBX.out.size)).size))
   clear hb1 hb2 hok
   unfold zero11
   go_wp2_with fail
   go_ret
   exact ⟨by rw [HX.out]; rfl, HB2.out⟩
end Go.Proofs.YtblcibgphccfkaaGreatDoor
namespace Go.Proofs.YtblcibgphccfkaaGreatDoor
def inS (k a b : Nat) : Prop := a * 2 ^ (6 - k) ≤ b ∧ b < (a + 1) * 2 ^ (6 - k)
def FreeB (s : LS) (b : Nat) : Prop := ∃ k, 1 ≤ k ∧ k ≤ 6 ∧ s.hole k ≠ 0 ∧ inS k (s.hole k) b
structure LInv (s : LS) : Prop where
 apart : ∀ k k', 1 ≤ k → k ≤ 6 → 1 ≤ k' → k' ≤ 6 → k ≠ k' → s.hole k ≠ 0 → s.hole k' ≠ 0 → ∀ b, inS k (s.hole k) b → ¬ inS k' (s.hole k') b
 within : ∀ b, FreeB s b → b < 64 * s.words
theorem two_pow6 {k : Nat} (hk : k + 1 ≤ 6) : 2 ^ (6 - k) = 2 * 2 ^ (6 - (k + 1)) := by
 rw [show 6 - k = (6 - (k + 1)) + 1 by omega, Nat.pow_succ, Nat.mul_comm]
theorem halves {k h b : Nat} (hk : k + 1 ≤ 6) : inS k h b ↔ inS (k + 1) (2 * h) b ∨ inS (k + 1) (2 * h + 1) b := by
 unfold inS
 rw [two_pow6 hk]
 generalize 2 ^ (6 - (k + 1)) = p
 have e1 : h * (2 * p) = 2 * h * p := by rw [← Nat.mul_assoc, Nat.mul_comm h 2]
 have e2 : (h + 1) * (2 * p) = (2 * h + 1 + 1) * p := by rw [← Nat.mul_assoc]; congr 1; omega
 rw [e1, e2]
 have e3 : 2 * h * p ≤ (2 * h + 1) * p := Nat.mul_le_mul_right _ (by omega)
 have e4 : (2 * h + 1) * p ≤ (2 * h + 1 + 1) * p := Nat.mul_le_mul_right _ (by omega)
 omega
theorem halves_apart {k h b : Nat} (h1 : inS k (2 * h) b) (h2 : inS k (2 * h + 1) b) : False := by
 unfold inS at h1 h2
 omega
theorem room_inv : ∀ (k : Nat) (s : LS), k ≤ 6 → LInv s → LInv (roomF k s).2 ∧ s.words ≤ (roomF k s).2.words ∧ (∀ b, (FreeB (roomF k s).2 b ∨ inS k (roomF k s).1 b) ↔ (FreeB s b ∨ (64 * s.words ≤ b ∧ b < 64 * (roomF k s).2.words))) ∧ (∀ b, FreeB (roomF k s).2 b → ¬ inS k (roomF k s).1 b)
 | 0, s, _, h => by
   have hi : ∀ b, inS 0 s.words b ↔ (64 * s.words ≤ b ∧ b < 64 * (s.words + 1)) := fun b => by unfold inS; simp only [Nat.sub_zero, show (2 : Nat) ^ 6 = 64 from rfl]; omega
   have hf : ∀ b, FreeB (roomF 0 s).2 b ↔ FreeB s b := fun b => Iff.rfl
   refine ⟨⟨h.apart, fun b hb => ?_⟩, Nat.le_succ _, fun b => ?_, fun b hb => ?_⟩
   · have := h.within b hb; show b < 64 * (s.words + 1); omega
   · show (FreeB s b ∨ inS 0 s.words b) ↔ (FreeB s b ∨ (64 * s.words ≤ b ∧ b < 64 * (s.words + 1)))
     rw [hi]
   · intro hin
     have h1 := h.within b hb
     have h2 := (hi b).1 hin
     omega
 | k + 1, s, hk, h => by
   by_cases h0 : s.hole (k + 1) = 0
   · obtain ⟨i1, i2, i3, i4⟩ := room_inv k s (by omega) h
     have ha : (roomF k s).2.hole (k + 1) = 0 := by rw [room_above s (k + 1) k (Nat.lt_succ_self k)]; exact h0
     rw [room_miss k s h0]
     generalize roomF k s = r at *
     obtain ⟨a, t⟩ := r
     simp only at *
     have hup : ∀ i, i ≠ k + 1 → (LS.mk t.words (upd t.hole (k + 1) (2 * a + 1))).hole i = t.hole i := fun i hi => upd_other _ _ _ _ hi
     have hus : (LS.mk t.words (upd t.hole (k + 1) (2 * a + 1))).hole (k + 1) = 2 * a + 1 := upd_same _ _ _
     have hfree : ∀ b, FreeB ⟨t.words, upd t.hole (k + 1) (2 * a + 1)⟩ b ↔ (FreeB t b ∨ inS (k + 1) (2 * a + 1) b) := by
      intro b
      constructor
      · rintro ⟨i, hi1, hi6, hne, hin⟩
        by_cases e : i = k + 1
        · subst e; right; rw [hus] at hin; exact hin
        · left; rw [hup i e] at hne hin; exact ⟨i, hi1, hi6, hne, hin⟩
      · rintro (⟨i, hi1, hi6, hne, hin⟩ | hin)
        · have e : i ≠ k + 1 := fun e => hne (by rw [e]; exact ha)
          exact ⟨i, hi1, hi6, by rw [hup i e]; exact hne, by rw [hup i e]; exact hin⟩
        · exact ⟨k + 1, by omega, hk, by rw [hus]; omega, by rw [hus]; exact hin⟩
     refine ⟨⟨?_, ?_⟩, i2, ?_, ?_⟩
     · intro i j hi1 hi6 hj1 hj6 hij hni hnj b hbi hbj
       by_cases ei : i = k + 1
       · subst ei
         have ej : j ≠ k + 1 := fun e => hij e.symm
         rw [hus] at hbi
         rw [hup j ej] at hnj hbj
         exact i4 b ⟨j, hj1, hj6, hnj, hbj⟩ ((halves hk).2 (.inr hbi))
       · by_cases ej : j = k + 1
         · subst ej
           rw [hus] at hbj
           rw [hup i ei] at hni hbi
           exact i4 b ⟨i, hi1, hi6, hni, hbi⟩ ((halves hk).2 (.inr hbj))
         · rw [hup i ei] at hni hbi
           rw [hup j ej] at hnj hbj
           exact i1.apart i j hi1 hi6 hj1 hj6 hij hni hnj b hbi hbj
     · intro b hb
       rcases (hfree b).1 hb with hb | hb
       · exact i1.within b hb
       · rcases (i3 b).1 (.inr ((halves hk).2 (.inr hb))) with hs | hs
         · have := h.within b hs; show b < 64 * t.words; omega
         · exact hs.2
     · intro b
       rw [hfree b, ← i3 b, halves hk]
       constructor
       · rintro ((hb | hb) | hb)
         · exact .inl hb
         · exact .inr (.inr hb)
         · exact .inr (.inl hb)
       · rintro (hb | hb | hb)
         · exact .inl (.inl hb)
         · exact .inr hb
         · exact .inl (.inr hb)
     · intro b hb hin
       rcases (hfree b).1 hb with hb | hb
       · exact i4 b hb ((halves hk).2 (.inl hin))
       · exact halves_apart hin hb
   · rw [room_hit k s h0]
     have hup : ∀ i, i ≠ k + 1 → (LS.mk s.words (upd s.hole (k + 1) 0)).hole i = s.hole i := fun i hi => upd_other _ _ _ _ hi
     have hus : (LS.mk s.words (upd s.hole (k + 1) 0)).hole (k + 1) = 0 := upd_same _ _ _
     have hfree : ∀ b, FreeB ⟨s.words, upd s.hole (k + 1) 0⟩ b → ∃ i, 1 ≤ i ∧ i ≤ 6 ∧ i ≠ k + 1 ∧ s.hole i ≠ 0 ∧ inS i (s.hole i) b := by
      rintro b ⟨i, hi1, hi6, hne, hin⟩
      have e : i ≠ k + 1 := fun e => hne (by rw [e]; exact hus)
      exact ⟨i, hi1, hi6, e, by rw [hup i e] at hne; exact hne, by rw [hup i e] at hin; exact hin⟩
     refine ⟨⟨?_, ?_⟩, Nat.le_refl _, ?_, ?_⟩
     · intro i j hi1 hi6 hj1 hj6 hij hni hnj b hbi hbj
       have ei : i ≠ k + 1 := fun e => hni (by rw [e]; exact hus)
       have ej : j ≠ k + 1 := fun e => hnj (by rw [e]; exact hus)
       rw [hup i ei] at hni hbi
       rw [hup j ej] at hnj hbj
       exact h.apart i j hi1 hi6 hj1 hj6 hij hni hnj b hbi hbj
     · intro b hb
       obtain ⟨i, hi1, hi6, _, hn, hin⟩ := hfree b hb
       exact h.within b ⟨i, hi1, hi6, hn, hin⟩
     · intro b
       show (FreeB ⟨s.words, upd s.hole (k + 1) 0⟩ b ∨ inS (k + 1) (s.hole (k + 1)) b) ↔ (FreeB s b ∨ (64 * s.words ≤ b ∧ b < 64 * s.words))
       constructor
       · rintro (hb | hb)
         · obtain ⟨i, hi1, hi6, _, hn, hin⟩ := hfree b hb
           exact .inl ⟨i, hi1, hi6, hn, hin⟩
         · exact .inl ⟨k + 1, by omega, hk, h0, hb⟩
       · rintro (⟨i, hi1, hi6, hn, hin⟩ | hb)
         · by_cases e : i = k + 1
           · subst e; exact .inr hin
           · exact .inl ⟨i, hi1, hi6, by rw [hup i e]; exact hn, by rw [hup i e]; exact hin⟩
         · omega
     · intro b hb hin
       obtain ⟨i, hi1, hi6, e, hn, hin'⟩ := hfree b hb
       exact h.apart i (k + 1) hi1 hi6 (by omega) hk e hn h0 b hin' hin
def UsedB (s : LS) (b : Nat) : Prop := b < 64 * s.words ∧ ¬ FreeB s b
theorem room_used {k : Nat} {s : LS} (hk : k ≤ 6) (h : LInv s) : LInv (roomF k s).2 ∧ (∀ b, inS k (roomF k s).1 b → UsedB (roomF k s).2 b ∧ ¬ UsedB s b) ∧ (∀ b, UsedB s b → UsedB (roomF k s).2 b) := by
 obtain ⟨i1, i2, i3, i4⟩ := room_inv k s hk h
 refine ⟨i1, fun b hb => ⟨⟨?_, fun hf => i4 b hf hb⟩, fun hu => ?_⟩, fun b hb => ⟨by have := hb.1; omega, fun hf => ?_⟩⟩
 · rcases (i3 b).1 (.inr hb) with hs | hs
   · have := h.within b hs; omega
   · exact hs.2
 · rcases (i3 b).1 (.inr hb) with hs | hs
   · exact hu.2 hs
   · have := hu.1; omega
 · rcases (i3 b).1 (.inl hf) with hs | hs
   · exact hb.2 hs
   · have := hb.1; omega
theorem linv0 : LInv ⟨0, fun _ => 0⟩ := ⟨fun _ _ _ _ _ _ _ h => absurd rfl h, fun b ⟨_, _, _, h, _⟩ => absurd rfl h⟩
end Go.Proofs.YtblcibgphccfkaaGreatDoor
