/- Texts of the proof of the law FnExactRecordOf, side by side: part 2. -/
import Derived.StillTactics
import Derived.Lib.QuietBelow
import Derived.Test.YtehhbbdaeonebaaGreatDoorMExactRecordOf01
set_option maxHeartbeats 8000000
set_option maxRecDepth 100000
namespace Go.Proofs.YtehhbbdaeonebaaGreatDoor
open Go.RowKit
def wiB (n b : Int) : Bool := decide (0 ≤ n ∧ n < b)
theorem within_a (n b : Int) (w : World) :
 Calls Tryz.prog 36 #[.int .i64 n, .int .i64 b] w fun e w' => e = .returned (.bool (wiB n b)) ∧ w = w' := by
 by_cases h1 : 0 ≤ n
 all_goals
  go_enter Tryz.func36, Tryz.ntmps36
  go_wp2
  all_goals go_ret
  all_goals refine ⟨ret_bool ?_, rfl⟩
  all_goals (simp [wiB]; try omega)
def bz (n : Int) : Int := if n = 1 then 1 else if n = 2 then 8 else if n = 3 then 16 else if n = 4 then 32 else if n = 5 then 64 else if n = 6 then 64 else 0
theorem bz_le (n : Int) : 0 ≤ bz n ∧ bz n ≤ 64 := by
 unfold bz
 repeat' split
 all_goals omega
theorem sizeBits_a (n : Int) (w : World) (h0 : 0 ≤ n) (h1 : n ≤ 6) :
 Calls Tryz.prog 117 #[.int .i64 n] w fun e w' => e = .returned (.int .i64 (bz n)) ∧ w = w' := by
 have h : n = 0 ∨ n = 1 ∨ n = 2 ∨ n = 3 ∨ n = 4 ∨ n = 5 ∨ n = 6 := by omega
 rcases h with rfl | rfl | rfl | rfl | rfl | rfl | rfl
 all_goals
  go_enter Tryz.func117, Tryz.ntmps117
  go_wp2
  go_ret
  exact ⟨ret_int (by decide), rfl⟩
theorem l2Bits_a (n : Int) (w : World) (h0 : 0 ≤ n) (h1 : n ≤ 6) :
 Calls Tryz.prog 62 #[.int .i64 n] w fun e w' => e = .returned (.int .i64 (bz n)) ∧ Below w.heap.size w w' := by
 have h : n = 0 ∨ n = 1 ∨ n = 2 ∨ n = 3 ∨ n = 4 ∨ n = 5 ∨ n = 6 := by omega
 rcases h with rfl | rfl | rfl | rfl | rfl | rfl | rfl
 all_goals
  go_enter Tryz.func62, Tryz.ntmps62
  go_wp2
  go_ret
  exact ⟨ret_int (by decide), (Below.refl _ _).alloc (Nat.le_refl _) _⟩
def byteZ (s c : Int) : Int := (bz s * c + 7) / 8
theorem l4Bytes_a (s c : Int) (w : World) (h0 : 0 ≤ s) (h1 : s ≤ 6) (h2 : 0 ≤ c) (h3 : c ≤ 12800) :
 Calls Tryz.prog 138 #[.int .i64 s, .int .i64 c] w fun e w' => e = .returned (.int .i64 (byteZ s c)) ∧ Below w.heap.size w w' := by
 have hb := bz_le s
 have HE : Hid (byteZ s c = (bz s * c + 7) / 8) := Lib.hid rfl
 have hm : 0 ≤ bz s * c ∧ bz s * c ≤ 819200 := ⟨Int.mul_nonneg hb.1 h2, by
  have := Int.mul_le_mul hb.2 h3 h2 (by omega)
  omega⟩
 generalize hz : bz s = z at *
 generalize hp : z * c = p at *
 have HP := Lib.hid hp
 clear hp
 go_enter Tryz.func138, Tryz.ntmps138
 go_wp2_with (go_at_call 62; go_must (refine (l2Bits_a _ _ h0 h1).mono ?_); rintro e w1 ⟨rfl, hb1⟩; rw [hz]; have hpp := HP.out)
 go_ret
 exact ⟨by rw [HE.out]; rfl, hb1⟩
def lastN (d : ByteArray) : Nat := if h : d.size - 1 < d.size then (d[d.size - 1]).toNat else 0
def cutD (d : ByteArray) (b : Int) : ByteArray := if b % 8 = 0 then d else d.extract 0 (d.size - 1) ++ ⟨#[UInt8.ofNat (lastN d % 2 ^ (b % 8).toNat)]⟩
def bitsB (d : ByteArray) (b : Int) : Bool := decide ((d.size : Int) = (b + 7) / 8) && (decide (b % 8 = 0) || decide (lastN d < 2 ^ (b % 8).toNat))
theorem conv1n (c : Nat) (hc : c < 256) (W : World) : (convert 123 9 (.slice (some ⟨W.heap.size, 0, none⟩) 1 1)).run Tryz.prog (W.alloc (.cells #[.int .u8 (c : Int)] 5)) = .ok (.string ⟨#[UInt8.ofNat c]⟩) (W.alloc (.cells #[.int .u8 (c : Int)] 5)) := by
 refine convert_wd _ _ _ 5 W.heap.size 1 1 [UInt8.ofNat c] rfl Tryz.underlying123 Tryz.underlying5 Tryz.underlying9 (heap_alloc_new W _) ?_
 have : (UInt8.ofNat c).toNat = c := by rw [UInt8.toNat_ofNat']; omega
 simp [Lib.byteCells]; omega
theorem lastN_eq {d : ByteArray} {j : Nat} (h : d.size = j + 1) (hj : j < d.size) : lastN d = (d[j]).toNat := by
 unfold lastN
 rw [dif_pos (by omega)]
 congr 2
 omega
theorem and_u8_1 : ∀ x : Nat, x < 256 → bits BinOp.and IntKind.u8 (x : Int) 1 = ((x % 2 : Nat) : Int) := by decide +kernel
theorem and_u8_2 : ∀ x : Nat, x < 256 → bits BinOp.and IntKind.u8 (x : Int) 3 = ((x % 4 : Nat) : Int) := by decide +kernel
theorem and_u8_3 : ∀ x : Nat, x < 256 → bits BinOp.and IntKind.u8 (x : Int) 7 = ((x % 8 : Nat) : Int) := by decide +kernel
theorem and_u8_4 : ∀ x : Nat, x < 256 → bits BinOp.and IntKind.u8 (x : Int) 15 = ((x % 16 : Nat) : Int) := by decide +kernel
theorem and_u8_5 : ∀ x : Nat, x < 256 → bits BinOp.and IntKind.u8 (x : Int) 31 = ((x % 32 : Nat) : Int) := by decide +kernel
theorem and_u8_6 : ∀ x : Nat, x < 256 → bits BinOp.and IntKind.u8 (x : Int) 63 = ((x % 64 : Nat) : Int) := by decide +kernel
theorem and_u8_7 : ∀ x : Nat, x < 256 → bits BinOp.and IntKind.u8 (x : Int) 127 = ((x % 128 : Nat) : Int) := by decide +kernel
theorem cutBits_a (d : ByteArray) (b : Int) (w : World) (h0 : 0 ≤ b) (h1 : b ≤ 10000000) (_hd : d.size ≤ maxLen) (hs : (d.size : Int) = (b + 7) / 8) :
 Calls Tryz.prog 147 #[.string d, .int .i64 b] w fun e w' => e = .returned (.string (cutD d b)) ∧ Below w.heap.size w w' := by
 by_cases h8 : b % 8 = 0
 · have HE : Hid (cutD d b = d) := Lib.hid (by rw [cutD, if_pos h8])
   go_enter Tryz.func147, Tryz.ntmps147
   go_wp2
   go_ret
   exact ⟨by rw [HE.out]; rfl, Below.refl _ _⟩
 · obtain ⟨j, hj⟩ : ∃ j, d.size = j + 1 := ⟨d.size - 1, by omega⟩
   have hlt : j < d.size := by omega
   have HS := Lib.hid hs
   have hk : b % 8 = 1 ∨ b % 8 = 2 ∨ b % 8 = 3 ∨ b % 8 = 4 ∨ b % 8 = 5 ∨ b % 8 = 6 ∨ b % 8 = 7 := by omega
   have hjm : j ≤ 10000000 := by omega
   have hle : (j : Int) ≤ (d.size : Int) := by omega
   have hln : (d.size : Int) - 1 = (j : Int) := by omega
   have HJ := Lib.hid hj
   clear hs h8 _hd hj
   have hx : (d[j]).toNat < 256 := (d[j]).toNat_lt
   have HL := Lib.hid (lastN_eq HJ.out hlt)
   rcases hk with hk | hk | hk | hk | hk | hk | hk
   · have hand := and_u8_1 (d[j]).toNat hx
     have hq : (d[j]).toNat % 2 < 256 := by omega
     have HE : Hid (cutD d b = d.extract 0 j ++ ⟨#[UInt8.ofNat ((d[j]).toNat % 2)]⟩) := Lib.hid (by rw [cutD, if_neg (by omega), HL.out, hk, show d.size - 1 = j by have := HJ.out; omega]; rfl)
     generalize (d[j]).toNat % 2 = q at hand hq HE
     have hcv : (convert 123 9 (.slice (some ⟨w.heap.size, 0, none⟩) 1 1)).run Tryz.prog (w.alloc (.cells #[.int .u8 (q : Int)] 5)).drew = .ok (.string ⟨#[UInt8.ofNat q]⟩) (w.alloc (.cells #[.int .u8 (q : Int)] 5)).drew := conv1n q hq w.drew
     go_enter Tryz.func147, Tryz.ntmps147
     go_wp2
     go_region
     go_wp2
     go_ret
     exact ⟨by rw [HE.out]; rfl, ((Below.refl _ w).alloc (Nat.le_refl _) _).drew⟩
   · have hand := and_u8_2 (d[j]).toNat hx
     have hq : (d[j]).toNat % 4 < 256 := by omega
     have HE : Hid (cutD d b = d.extract 0 j ++ ⟨#[UInt8.ofNat ((d[j]).toNat % 4)]⟩) := Lib.hid (by rw [cutD, if_neg (by omega), HL.out, hk, show d.size - 1 = j by have := HJ.out; omega]; rfl)
     generalize (d[j]).toNat % 4 = q at hand hq HE
     have hcv : (convert 123 9 (.slice (some ⟨w.heap.size, 0, none⟩) 1 1)).run Tryz.prog (w.alloc (.cells #[.int .u8 (q : Int)] 5)).drew = .ok (.string ⟨#[UInt8.ofNat q]⟩) (w.alloc (.cells #[.int .u8 (q : Int)] 5)).drew := conv1n q hq w.drew
     go_enter Tryz.func147, Tryz.ntmps147
     go_wp2
     go_region
     go_wp2
     go_ret
     exact ⟨by rw [HE.out]; rfl, ((Below.refl _ w).alloc (Nat.le_refl _) _).drew⟩
   · have hand := and_u8_3 (d[j]).toNat hx
     have hq : (d[j]).toNat % 8 < 256 := by omega
     have HE : Hid (cutD d b = d.extract 0 j ++ ⟨#[UInt8.ofNat ((d[j]).toNat % 8)]⟩) := Lib.hid (by rw [cutD, if_neg (by omega), HL.out, hk, show d.size - 1 = j by have := HJ.out; omega]; rfl)
     generalize (d[j]).toNat % 8 = q at hand hq HE
     have hcv : (convert 123 9 (.slice (some ⟨w.heap.size, 0, none⟩) 1 1)).run Tryz.prog (w.alloc (.cells #[.int .u8 (q : Int)] 5)).drew = .ok (.string ⟨#[UInt8.ofNat q]⟩) (w.alloc (.cells #[.int .u8 (q : Int)] 5)).drew := conv1n q hq w.drew
     go_enter Tryz.func147, Tryz.ntmps147
     go_wp2
     go_region
     go_wp2
     go_ret
     exact ⟨by rw [HE.out]; rfl, ((Below.refl _ w).alloc (Nat.le_refl _) _).drew⟩
   · have hand := and_u8_4 (d[j]).toNat hx
     have hq : (d[j]).toNat % 16 < 256 := by omega
     have HE : Hid (cutD d b = d.extract 0 j ++ ⟨#[UInt8.ofNat ((d[j]).toNat % 16)]⟩) := Lib.hid (by rw [cutD, if_neg (by omega), HL.out, hk, show d.size - 1 = j by have := HJ.out; omega]; rfl)
     generalize (d[j]).toNat % 16 = q at hand hq HE
     have hcv : (convert 123 9 (.slice (some ⟨w.heap.size, 0, none⟩) 1 1)).run Tryz.prog (w.alloc (.cells #[.int .u8 (q : Int)] 5)).drew = .ok (.string ⟨#[UInt8.ofNat q]⟩) (w.alloc (.cells #[.int .u8 (q : Int)] 5)).drew := conv1n q hq w.drew
     go_enter Tryz.func147, Tryz.ntmps147
     go_wp2
     go_region
     go_wp2
     go_ret
     exact ⟨by rw [HE.out]; rfl, ((Below.refl _ w).alloc (Nat.le_refl _) _).drew⟩
   · have hand := and_u8_5 (d[j]).toNat hx
     have hq : (d[j]).toNat % 32 < 256 := by omega
     have HE : Hid (cutD d b = d.extract 0 j ++ ⟨#[UInt8.ofNat ((d[j]).toNat % 32)]⟩) := Lib.hid (by rw [cutD, if_neg (by omega), HL.out, hk, show d.size - 1 = j by have := HJ.out; omega]; rfl)
     generalize (d[j]).toNat % 32 = q at hand hq HE
     have hcv : (convert 123 9 (.slice (some ⟨w.heap.size, 0, none⟩) 1 1)).run Tryz.prog (w.alloc (.cells #[.int .u8 (q : Int)] 5)).drew = .ok (.string ⟨#[UInt8.ofNat q]⟩) (w.alloc (.cells #[.int .u8 (q : Int)] 5)).drew := conv1n q hq w.drew
     go_enter Tryz.func147, Tryz.ntmps147
     go_wp2
     go_region
     go_wp2
     go_ret
     exact ⟨by rw [HE.out]; rfl, ((Below.refl _ w).alloc (Nat.le_refl _) _).drew⟩
   · have hand := and_u8_6 (d[j]).toNat hx
     have hq : (d[j]).toNat % 64 < 256 := by omega
     have HE : Hid (cutD d b = d.extract 0 j ++ ⟨#[UInt8.ofNat ((d[j]).toNat % 64)]⟩) := Lib.hid (by rw [cutD, if_neg (by omega), HL.out, hk, show d.size - 1 = j by have := HJ.out; omega]; rfl)
     generalize (d[j]).toNat % 64 = q at hand hq HE
     have hcv : (convert 123 9 (.slice (some ⟨w.heap.size, 0, none⟩) 1 1)).run Tryz.prog (w.alloc (.cells #[.int .u8 (q : Int)] 5)).drew = .ok (.string ⟨#[UInt8.ofNat q]⟩) (w.alloc (.cells #[.int .u8 (q : Int)] 5)).drew := conv1n q hq w.drew
     go_enter Tryz.func147, Tryz.ntmps147
     go_wp2
     go_region
     go_wp2
     go_ret
     exact ⟨by rw [HE.out]; rfl, ((Below.refl _ w).alloc (Nat.le_refl _) _).drew⟩
   · have hand := and_u8_7 (d[j]).toNat hx
     have hq : (d[j]).toNat % 128 < 256 := by omega
     have HE : Hid (cutD d b = d.extract 0 j ++ ⟨#[UInt8.ofNat ((d[j]).toNat % 128)]⟩) := Lib.hid (by rw [cutD, if_neg (by omega), HL.out, hk, show d.size - 1 = j by have := HJ.out; omega]; rfl)
     generalize (d[j]).toNat % 128 = q at hand hq HE
     have hcv : (convert 123 9 (.slice (some ⟨w.heap.size, 0, none⟩) 1 1)).run Tryz.prog (w.alloc (.cells #[.int .u8 (q : Int)] 5)).drew = .ok (.string ⟨#[UInt8.ofNat q]⟩) (w.alloc (.cells #[.int .u8 (q : Int)] 5)).drew := conv1n q hq w.drew
     go_enter Tryz.func147, Tryz.ntmps147
     go_wp2
     go_region
     go_wp2
     go_ret
     exact ⟨by rw [HE.out]; rfl, ((Below.refl _ w).alloc (Nat.le_refl _) _).drew⟩
theorem cutD_eq {d : ByteArray} {b : Int} (h0 : 0 ≤ b) (hs : (d.size : Int) = (b + 7) / 8) : (cutD d b = d) ↔ (b % 8 = 0 ∨ lastN d < 2 ^ (b % 8).toNat) := by
 by_cases h8 : b % 8 = 0
 · rw [cutD, if_pos h8]; simp [h8]
 · rw [cutD, if_neg h8]
   obtain ⟨j, hj⟩ : ∃ j, d.size = j + 1 := ⟨d.size - 1, by omega⟩
   have hlt : j < d.size := by omega
   have hL := lastN_eq hj hlt
   have hx : (d[j]).toNat < 256 := (d[j]).toNat_lt
   have hjs : d.size - 1 = j := by omega
   have hp : 0 < 2 ^ (b % 8).toNat := Nat.two_pow_pos _
   rw [hjs, hL]
   generalize 2 ^ (b % 8).toNat = P at *
   have hsp : d.data.toList = (d.data.toList.take j) ++ [d[j]] := by
    have hl : d.data.toList.length = j + 1 := by rw [← hj]; rfl
    have h1 : d.data.toList[j]'(by omega) = d[j] := rfl
    rw [← h1, ← List.take_succ_eq_append_getElem (by omega), List.take_of_length_le (by omega)]
   have hc : (d.extract 0 j ++ ⟨#[UInt8.ofNat ((d[j]).toNat % P)]⟩ = d) ↔ UInt8.ofNat ((d[j]).toNat % P) = d[j] := by
    constructor
    · intro h
      have h2 : (d.extract 0 j ++ ⟨#[UInt8.ofNat ((d[j]).toNat % P)]⟩).data.toList = d.data.toList := by rw [h]
      rw [ByteArray.toList_data_append, Lib.extract_data, hsp] at h2
      simp at h2
      exact h2.2
    · intro h
      apply Go.WideShapes.bytes_inj
      rw [h, ByteArray.toList_data_append, Lib.extract_data, hsp]
      have hl : (List.take j d.data.toList).length = j := by
       have : d.data.toList.length = j + 1 := by rw [← hj]; rfl
       rw [List.length_take]; omega
      simp [List.take_append_of_le_length (Nat.le_of_eq hl.symm), List.take_of_length_le (Nat.le_of_eq hl)]
   rw [hc]
   constructor
   · intro h
     right
     have h2 : (UInt8.ofNat ((d[j]).toNat % P)).toNat = (d[j]).toNat := by rw [h]
     rw [UInt8.toNat_ofNat'] at h2
     have h3 : (d[j]).toNat % P ≤ (d[j]).toNat := Nat.mod_le _ _
     rw [Nat.mod_eq_of_lt (by omega)] at h2
     rw [← h2]
     exact Nat.mod_lt _ hp
   · intro h
     rcases h with h | h
     · exact absurd h h8
     · rw [Nat.mod_eq_of_lt h]
       simp
theorem loop_data (d : ByteArray) (i : Nat) (r : List UInt8) : ByteArray.toList.loop d i r = r.reverse ++ d.data.toList.drop i := by
 fun_induction ByteArray.toList.loop d i r with
 | case1 i r h ih =>
  have hl : i < d.data.toList.length := h
  rw [ih, List.drop_eq_getElem_cons hl, List.reverse_cons, List.append_assoc]
  congr 2
  show [d.get! i] ++ _ = _
  have : d.get! i = d.data.toList[i] := by
   show d.data[i]! = _
   rw [getElem!_pos d.data i h]
   rfl
  rw [this]; rfl
 | case2 i r h =>
  rw [List.drop_eq_nil_of_le (by show d.size ≤ i; omega), List.append_nil]
theorem toList_data (d : ByteArray) : d.toList = d.data.toList := by
 unfold ByteArray.toList
 rw [loop_data]; rfl
theorem toList_eq (a b : ByteArray) : (a.toList == b.toList) = decide (a = b) := by
 rw [toList_data, toList_data, Bool.eq_iff_iff]
 simp only [beq_iff_eq, decide_eq_true_eq]
 exact ⟨fun h => Go.WideShapes.bytes_inj h, fun h => by rw [h]⟩
theorem isBits_a (d : ByteArray) (b : Int) (w : World) (h0 : 0 ≤ b) (h1 : b ≤ 10000000) (hd : d.size ≤ maxLen) :
 Calls Tryz.prog 141 #[.string d, .int .i64 b] w fun e w' => e = .returned (.bool (bitsB d b)) ∧ Below w.heap.size w w' := by
 by_cases hs : (d.size : Int) = (b + 7) / 8
 · have hq := cutD_eq h0 hs
   have HC := Lib.hid (cutBits_a d b w h0 h1 hd hs)
   have HE : Hid (bitsB d b = decide (b % 8 = 0 ∨ lastN d < 2 ^ (b % 8).toNat)) := Lib.hid (by rw [Bool.eq_iff_iff]; simp [bitsB, hs])
   go_enter Tryz.func141, Tryz.ntmps141
   go_wp2_with (go_at_call 147; go_must (refine HC.out.mono ?_); rintro e w1 ⟨rfl, hb1⟩)
   go_ret
   refine ⟨ret_bool ?_, hb1⟩
   rw [HE.out, toList_eq, Bool.eq_iff_iff]
   simpa using hq
 · have HE : Hid (bitsB d b = false) := Lib.hid (by simp [bitsB, hs])
   go_enter Tryz.func141, Tryz.ntmps141
   go_wp2
   go_ret
   exact ⟨by rw [HE.out]; rfl, Below.refl _ _⟩
def itemB (n h : Nd) : Bool := structB n.kind n.data n.size n.count n.items.length && (decide (n.data.size = h.data.size) && decide (n.ptrs.length = h.ptrs.length))
def itemsB (l : List Nd) : Bool := l.all fun n => itemB n (l.headD default)
theorem itemsB_take {l : List Nd} {k : Nat} (h : k < l.length) (hh : (l.take k).all (fun n => itemB n (l.headD default)) = true) (hn : itemB l[k] (l.headD default) = true) : (l.take (k + 1)).all (fun n => itemB n (l.headD default)) = true := by
 rw [List.take_succ_eq_append_getElem h, List.all_append, hh]
 simpa using hn
theorem itemsB_false {l : List Nd} {k : Nat} (h : k < l.length) (hn : itemB l[k] (l.headD default) = false) : itemsB l = false := by
 unfold itemsB
 rw [List.all_eq_false]
 exact ⟨l[k], List.getElem_mem h, by rw [hn]; decide⟩
theorem head_at {l : List Nd} (h : 0 < l.length) : l[0] = l.headD default := by
 cases l with
 | nil => cases h
 | cons a t => rfl
theorem addr_zero (x : Addr) : x.add (0 * 6) = x := by simp [Addr.add]
theorem areItems_a (m : Nat) (A : Option Addr) (c : Nat) (l : List Nd) (w : World) (S : Nat → Prop) (hl : NdsAt w S (m + 1) A l) (hlm : l.length ≤ 2000000) :
 Calls Tryz.prog 142 #[.slice A l.length c] w fun e w' => e = .returned (.bool (itemsB l)) ∧ Below w.heap.size w w' := by
 have HF := Lib.hid hl
 clear hl
 go_enter Tryz.func142, Tryz.ntmps142
 go_wp2
 go_loopw [7] (fun i wr => ∃ k : Nat, i = .int .i64 k ∧ k ≤ l.length ∧ Hid ((l.take k).all (fun n => itemB n (l.headD default)) = true) ∧ Hid (Below w.heap.size w wr)) (fun i _ => l.length - (intOf i).toNat)
 case atStart => exact ⟨0, rfl, by omega, Lib.hid rfl, Lib.hid (Below.refl _ _)⟩
 case round =>
  obtain ⟨k, rfl, hk, HA, HB⟩ := hrel
  by_cases hlt : k < l.length
  · obtain ⟨x, hd, rfl, hc, hn⟩ := (HF.out.below HB.out).at_ hlt
    obtain ⟨x', hd0, hxx, hc0, hn0⟩ := (HF.out.below HB.out).at_ (k := 0) (by omega)
    obtain rfl : x = x' := Option.some.inj hxx
    rw [addr_zero] at hc0
    have HFL := Lib.hid (fun h => itemsB_false hlt h)
    have HTR := Lib.hid (fun h => itemsB_take hlt HA.out h)
    have h0l : 0 < l.length := by omega
    rw [head_at h0l] at hc0
    generalize l.headD default = hdn at hc0 HFL HTR
    generalize l[k] = n at hc HFL HTR
    have hxb := hc0.lt
    obtain ⟨c0, c1, c2, c3, c4, c5⟩ := hc
    obtain ⟨-, d1, d2, -, -, -⟩ := hc0
    have HI := Lib.hid (fun W => isStruct_any n.kind n.size n.count n.data hd.A hd.B n.ptrs.length hd.a n.items.length hd.b W)
    have HBA := Lib.hid (HB.out.alloc HB.out.size (.cells #[.int .i64 n.kind, .string n.data, .slice hd.A n.ptrs.length hd.a, .int .i64 n.size, .int .i64 n.count, .slice hd.B n.items.length hd.b] nodeT))
    have HR := Lib.hid (heap_alloc_new wr (.cells #[.int .i64 n.kind, .string n.data, .slice hd.A n.ptrs.length hd.a, .int .i64 n.size, .int .i64 n.count, .slice hd.B n.items.length hd.b] nodeT))
    have HD1 := Lib.hid (((Below.refl wr.heap.size wr).alloc (Nat.le_refl _) (.cells #[.int .i64 n.kind, .string n.data, .slice hd.A n.ptrs.length hd.a, .int .i64 n.size, .int .i64 n.count, .slice hd.B n.items.length hd.b] nodeT)).cell (p := ⟨x.block, x.off + 1, none⟩) hxb |>.trans d1)
    have HD2 := Lib.hid (((Below.refl wr.heap.size wr).alloc (Nat.le_refl _) (.cells #[.int .i64 n.kind, .string n.data, .slice hd.A n.ptrs.length hd.a, .int .i64 n.size, .int .i64 n.count, .slice hd.B n.items.length hd.b] nodeT)).cell (p := ⟨x.block, x.off + 2, none⟩) hxb |>.trans d2)
    clear hn hn0 d1 d2
    go_wp2_with fail
    clear c0 c1 c2 c3 c4 c5
    generalize hW : wr.alloc (.cells #[.int .i64 n.kind, .string n.data, .slice hd.A n.ptrs.length hd.a, .int .i64 n.size, .int .i64 n.count, .slice hd.B n.items.length hd.b] nodeT) = W at *
    clear hW
    obtain ⟨e0, e1, e2, e3, e4, e5⟩ := cells6 HR.out
    have q0 := cell_regrown e0
    have q1 := cell_regrown e1
    have q2 := cell_regrown e2
    have q3 := cell_regrown e3
    have q4 := cell_regrown e4
    have q5 := cell_regrown e5
    have p1 := cell_regrown HD1.out
    have p2 := cell_regrown HD2.out
    cases hst : structB n.kind n.data n.size n.count n.items.length
    · have HX := Lib.hid (HFL.out (by simp [itemB, hst]))
      rw [hst] at HI
      refine wp_region_quiet_below (by kernel_rfl) (by kernel_rfl) ?_
      repeat (first | go_big_quiet_step ((go_at_call 123; exact Calls.regrown_of (HI.out _))) | quiet_step ((go_at_call 123; exact Calls.regrown_of (HI.out _))))
      refine wpQuiet_nil ?_
      intro _ hw'
      obtain ⟨⟨dq, osq⟩, hw''⟩ := hw'
      subst hw''
      have HB2 := Lib.hid (HBA.out.trans ((below_regrown W dq osq).mono HBA.out.size))
      clear q0 q1 q2 q3 q4 q5 e0 e1 e2 e3 e4 e5 p1 p2
      generalize «Sort».grow (redrawn W dq) osq = W2 at *
      go_wp2
      go_ret
      exact ⟨by rw [HX.out]; rfl, HB2.out⟩
    · rw [hst] at HI
      by_cases hz : n.data.size = hdn.data.size
      · have HZ := Lib.hid hz
        have hzb : ((n.data.size : Int) == (hdn.data.size : Int)) = true := by rw [hz]; simp
        have hzn : ((n.data.size : Int) != (hdn.data.size : Int)) = false := by rw [hz]; simp
        clear hz
        by_cases hp : n.ptrs.length = hdn.ptrs.length
        · have HX := Lib.hid (HTR.out (by simp [itemB, hst, HZ.out, hp]))
          have hpn : ((n.ptrs.length : Int) != (hdn.ptrs.length : Int)) = false := by rw [hp]; simp
          clear hp
          refine wp_region_quiet_below (by kernel_rfl) (by kernel_rfl) ?_
          repeat (first | go_big_quiet_step ((go_at_call 123; exact Calls.regrown_of (HI.out _))) | quiet_step ((go_at_call 123; exact Calls.regrown_of (HI.out _))))
          refine wpQuiet_nil ?_
          intro _ hw'
          obtain ⟨⟨dq, osq⟩, hw''⟩ := hw'
          subst hw''
          have HB2 := Lib.hid (HBA.out.trans ((below_regrown W dq osq).mono HBA.out.size))
          clear q0 q1 q2 q3 q4 q5 e0 e1 e2 e3 e4 e5 p1 p2
          generalize «Sort».grow (redrawn W dq) osq = W2 at *
          go_wp2
          go_roundw
          case rel => exact ⟨k + 1, by go_num, by omega, HX, HB2⟩
          case measure => simp [intOf]; omega
        · have HX := Lib.hid (HFL.out (by simp [itemB, hst, HZ.out, hp]))
          have hpn : ((n.ptrs.length : Int) != (hdn.ptrs.length : Int)) = true := by simp; omega
          clear hp
          refine wp_region_quiet_below (by kernel_rfl) (by kernel_rfl) ?_
          repeat (first | go_big_quiet_step ((go_at_call 123; exact Calls.regrown_of (HI.out _))) | quiet_step ((go_at_call 123; exact Calls.regrown_of (HI.out _))))
          refine wpQuiet_nil ?_
          intro _ hw'
          obtain ⟨⟨dq, osq⟩, hw''⟩ := hw'
          subst hw''
          have HB2 := Lib.hid (HBA.out.trans ((below_regrown W dq osq).mono HBA.out.size))
          clear q0 q1 q2 q3 q4 q5 e0 e1 e2 e3 e4 e5 p1 p2
          generalize «Sort».grow (redrawn W dq) osq = W2 at *
          go_wp2
          go_ret
          exact ⟨by rw [HX.out]; rfl, HB2.out⟩
      · have HX := Lib.hid (HFL.out (by simp [itemB, hst, hz]))
        have hzb : ((n.data.size : Int) == (hdn.data.size : Int)) = false := by simp; omega
        have hzn : ((n.data.size : Int) != (hdn.data.size : Int)) = true := by simp; omega
        refine wp_region_quiet_below (by kernel_rfl) (by kernel_rfl) ?_
        repeat (first | go_big_quiet_step ((go_at_call 123; exact Calls.regrown_of (HI.out _))) | quiet_step ((go_at_call 123; exact Calls.regrown_of (HI.out _))))
        refine wpQuiet_nil ?_
        intro _ hw'
        obtain ⟨⟨dq, osq⟩, hw''⟩ := hw'
        subst hw''
        have HB2 := Lib.hid (HBA.out.trans ((below_regrown W dq osq).mono HBA.out.size))
        clear q0 q1 q2 q3 q4 q5 e0 e1 e2 e3 e4 e5 p1 p2
        generalize «Sort».grow (redrawn W dq) osq = W2 at *
        go_wp2
        go_ret
        exact ⟨by rw [HX.out]; rfl, HB2.out⟩
  · obtain rfl : k = l.length := by omega
    rw [List.take_of_length_le (Nat.le_refl _)] at HA
    have HX : Hid (itemsB l = true) := Lib.hid HA.out
    go_wp2
    go_ret
    exact ⟨by rw [HX.out]; rfl, HB.out⟩
end Go.Proofs.YtehhbbdaeonebaaGreatDoor
