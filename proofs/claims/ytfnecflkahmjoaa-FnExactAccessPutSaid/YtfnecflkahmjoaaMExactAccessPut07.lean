/- Texts of the proof of the law FnExactAccessPut, side by side: part 7. -/
import Derived.RegionTactic
import Derived.Lib.AppendZerosOnto
import Derived.Test.YtfnecflkahmjoaaMExactAccessPut06
set_option maxHeartbeats 8000000
set_option maxRecDepth 100000
namespace Go.Proofs.Ytfnecflkahmjoaa
open Go.RowKit
theorem putBit_any (l : List UInt8) (at_ bit : Int) (w : World) (hl : l.length = 8) (h0 : 0 ≤ at_) (h1 : at_ < 64) (hb : bit = 0 ∨ bit = 1) :
 Calls Try.prog 89 #[.agg (wd l), .int .i64 at_, .int .i64 bit] w fun e w' => e = .returned (.agg (wd (setBit l at_.toNat bit.toNat))) ∧ Below w.heap.size w w' := by
 obtain ⟨a, rfl⟩ := Int.eq_ofNat_of_zero_le h0
 have hc1 := wd_cell w l 89 (a / 8) (by omega)
 have hc : ∀ o : Obj, ((w.alloc (.cells (wd l) 89)).alloc o).cell? ⟨w.heap.size, a / 8, none⟩ = some (.int .u8 ((l[a / 8]?.getD 0).toNat : Int)) := fun o =>
  (World.cell?_alloc_lt _ _ _ (by simp)).trans hc1
 have hf : ∀ o : Obj, ((w.alloc (.cells (wd l) 89)).alloc o).frozen? ⟨w.heap.size, a / 8, none⟩ = false := fun o =>
  frozen_row (heap_alloc_keep (heap_alloc_new w _) o) _
 clear hc1
 have n0 := newB_0 (l[a / 8]?.getD 0) (a % 8) (by omega)
 have n1 := newB_1 (l[a / 8]?.getD 0) (a % 8) (by omega)
 have hv := fun bit : Nat => wd_set l (a / 8) (newB (l[a / 8]?.getD 0) (a % 8) bit)
 have hlen : ∀ bit : Nat, (setBit l a bit).length = 8 := fun bit => by simp [setBit, hl]
 have HLen := Lib.hid hlen
 have HV := Lib.hid hv
 have N0 := Lib.hid n0
 have N1 := Lib.hid n1
 clear hl n0 n1 hv hlen
 rcases hb with rfl | rfl
 · go_enter Try.func89, Try.ntmps89
   go_wp2
   go_region
   rw [N0.out, HV.out]
   clear hc hf
   go_wp2_with (first | (refine wpList_load_wd rfl 89 (.tmp 3) rfl w.heap.size rfl 89 (setBit l a 0) _ (heap_alloc2_old w _ _) Try.underlying89 rfl (by rw [HLen.out]; exact size46) ?_) | (refine wpList_store_wd rfl 89 (.tmp 6) (.tmp 24) rfl (w.heap.size + 1) (setBit l a 0) rfl rfl 89 _ (heap_alloc2_new w _ _) (by rw [HLen.out]; exact size46) (by rw [HLen.out]; rfl) ?_; intro w5 hg5 hb5))
   refine bodyPost_ret (v := .agg (wd (setBit l a 0))) ?_ rfl ⟨rfl, ((((Below.refl _ _).alloc (Nat.le_refl _) _).alloc (by simp) _).drew).grown hb5.out (by simp; omega) (fun k e => by cases e; simp)⟩
   exact results_cell_row rfl _ _ (w.heap.size + 1) 89 _ (0, 0) _ rfl hg5.out Try.underlying89 rfl (by rw [wd_size, HLen.out]; exact size46)
 · go_enter Try.func89, Try.ntmps89
   go_wp2
   go_region
   rw [N1.out, HV.out]
   clear hc hf
   go_wp2_with (first | (refine wpList_load_wd rfl 89 (.tmp 3) rfl w.heap.size rfl 89 (setBit l a 1) _ (heap_alloc2_old w _ _) Try.underlying89 rfl (by rw [HLen.out]; exact size46) ?_) | (refine wpList_store_wd rfl 89 (.tmp 6) (.tmp 24) rfl (w.heap.size + 1) (setBit l a 1) rfl rfl 89 _ (heap_alloc2_new w _ _) (by rw [HLen.out]; exact size46) (by rw [HLen.out]; rfl) ?_; intro w5 hg5 hb5))
   refine bodyPost_ret (v := .agg (wd (setBit l a 1))) ?_ rfl ⟨rfl, ((((Below.refl _ _).alloc (Nat.le_refl _) _).alloc (by simp) _).drew).grown hb5.out (by simp; omega) (fun k e => by cases e; simp)⟩
   exact results_cell_row rfl _ _ (w.heap.size + 1) 89 _ (0, 0) _ rfl hg5.out Try.underlying89 rfl (by rw [wd_size, HLen.out]; exact size46)
theorem convert_set {P : Program} {w : World} {g : Nat} (src dst e : TypeId) {cs : Array Value} (cap : Nat) (s : ByteArray) (a bit : Nat) (hi : a / 8 < s.size) (hs : P.underlying src = some (.slice e)) (he : P.underlying e = some (.int .u8)) (hd : P.underlying dst = some .string)
 (h : SRow w g e cs) (ht : cs.toList.take s.size = Lib.byteCells s.data.toList) :
 (convert src dst (.slice (some ⟨g, 0, none⟩) s.size cap)).run P (w.setCell ⟨g, a / 8, none⟩ (.int .u8 ((newB (s.data.toList[a / 8]?.getD 0) (a % 8) bit).toNat : Int))).drew =
  .ok (.string ⟨(setBit s.data.toList a bit).toArray⟩) (w.setCell ⟨g, a / 8, none⟩ (.int .u8 ((newB (s.data.toList[a / 8]?.getD 0) (a % 8) bit).toNat : Int))).drew := by
 refine convert_wd _ src dst e g cap s.size (setBit s.data.toList a bit) (by simp [setBit]) hs he hd (h.set (a / 8) _) ?_
 rw [Array.toList_setIfInBounds, take_set _ _ _ _ hi, ht, byteCells_set]
 rfl
theorem l1BitPut_any (s : ByteArray) (a : Nat) (bit : Int) (w : World) (hs : s.size ≤ 1600) (h1 : a < 8 * s.size) (hb : bit = 0 ∨ bit = 1) :
 Calls Try.prog 57 #[.string s, .int .i64 a, .int .i64 bit] w fun e w' => e = .returned (.string ⟨(setBit s.data.toList a bit.toNat).toArray⟩) ∧ Below w.heap.size w w' := by
 have h8 : a / 8 < s.size := by omega
 have hsl : s.data.toList.length = s.size := by simp
 obtain ⟨x, hx⟩ : ∃ x, s.data.toList[a / 8]?.getD 0 = x := ⟨_, rfl⟩
 have HX := Lib.hid hx
 have n0 := newB_0 x (a % 8) (by omega)
 have n1 := newB_1 x (a % 8) (by omega)
 have N0 := Lib.hid n0
 have N1 := Lib.hid n1
 clear n0 n1 hx hsl
 rcases hb with rfl | rfl
 · go_enter Try.func57, Try.ntmps57
   go_wp2_with (refine wpList_convert_bytes rfl 9 82 5 (.tmp 8) rfl s rfl Try.underlying9 Try.underlying82 Try.underlying5 ?_; intro c w1 cs hrow htk hbel hsz)
   have hc : w1.cell? ⟨w.heap.size, a / 8, none⟩ = some (.int .u8 (x.toNat : Int)) := by rw [← HX.out]; exact srow_cell hrow.out htk.out h8
   have hf : w1.frozen? ⟨w.heap.size, a / 8, none⟩ = false := hrow.out.frozen _ (srow_size hrow.out htk.out h8)
   go_region
   rw [N0.out]
   clear hc hf
   have hcv0 := convert_set (P := Try.prog) 82 9 5 c s a 0 h8 Try.underlying82 Try.underlying5 Try.underlying9 hrow.out htk.out
   rw [HX.out] at hcv0
   go_wp2
   go_ret
   exact ⟨rfl, (hbel.out.setCell (Nat.le_refl _) _).drew⟩
 · go_enter Try.func57, Try.ntmps57
   go_wp2_with (refine wpList_convert_bytes rfl 9 82 5 (.tmp 8) rfl s rfl Try.underlying9 Try.underlying82 Try.underlying5 ?_; intro c w1 cs hrow htk hbel hsz)
   have hc : w1.cell? ⟨w.heap.size, a / 8, none⟩ = some (.int .u8 (x.toNat : Int)) := by rw [← HX.out]; exact srow_cell hrow.out htk.out h8
   have hf : w1.frozen? ⟨w.heap.size, a / 8, none⟩ = false := hrow.out.frozen _ (srow_size hrow.out htk.out h8)
   go_region
   rw [wrap_pow _ (by omega), N1.out]
   clear hc hf
   have hcv0 := convert_set (P := Try.prog) 82 9 5 c s a 1 h8 Try.underlying82 Try.underlying5 Try.underlying9 hrow.out htk.out
   rw [HX.out] at hcv0
   go_wp2
   go_ret
   exact ⟨rfl, (hbel.out.setCell (Nat.le_refl _) _).drew⟩
def bputOk (l : List UInt8) (at_ bit : Int) : Bool := decide (0 ≤ at_ ∧ at_ < 8 * l.length) && decide (bit = 0 ∨ bit = 1)
def bputT (l : List UInt8) (at_ bit : Int) : List UInt8 := if wordsB l.length = true then (if bputOk l at_ bit = true then setBit l at_.toNat bit.toNat else l) else []
def bputB (l : List UInt8) (at_ bit : Int) : Bool := wordsB l.length && bputOk l at_ bit
theorem ba_eta' (s : ByteArray) : (⟨s.data.toList.toArray⟩ : ByteArray) = s := by cases s; simp
theorem specBitPut_any (s : ByteArray) (at_ bit : Int) (w : World) (hs : s.size ≤ maxLen) :
 Calls Try.prog 34 #[.string s, .int .i64 at_, .int .i64 bit] w fun e w' =>
  e = .returned (.tuple #[.string ⟨(bputT s.data.toList at_ bit).toArray⟩, .bool (bputB s.data.toList at_ bit)]) ∧ Below w.heap.size w w' := by
 have hsl : s.data.toList.length = s.size := by simp
 have hb01 := inB_01 bit
 cases hw : wordsB s.size
 · have hT : bputT s.data.toList at_ bit = [] := by rw [bputT, hsl, hw, if_neg (by simp)]
   have hB : bputB s.data.toList at_ bit = false := by rw [bputB, hsl, hw, Bool.false_and]
   rw [hT, hB]
   clear hT hB hsl hb01
   go_enter Try.func34, Try.ntmps34
   go_wp2_with (first | (go_at_call 44; refine (l1Ok_any _ _ hs).mono ?_; rintro e w' ⟨rfl, rfl⟩))
   go_ret2
   exact ⟨rfl, Below.refl _ _⟩
 have hw8 : s.size % 8 = 0 ∧ s.size ≤ 1600 := by simpa [wordsB] using hw
 obtain ⟨hw1, hw2⟩ := hw8
 by_cases hok : bputOk s.data.toList at_ bit = true
 · have hT : bputT s.data.toList at_ bit = setBit s.data.toList at_.toNat bit.toNat := by rw [bputT, hsl, hw, hok, if_pos rfl, if_pos rfl]
   have hB : bputB s.data.toList at_ bit = true := by rw [bputB, hsl, hw, hok]; rfl
   have hk : (0 ≤ at_ ∧ at_ < 8 * s.size) ∧ (bit = 0 ∨ bit = 1) := by simpa [bputOk] using hok
   obtain ⟨⟨h0, h1⟩, hbit⟩ := hk
   obtain ⟨a, rfl⟩ := Int.eq_ofNat_of_zero_le h0
   have hlt : a < 8 * s.size := by omega
   have hin : inB bit 0 1 = true := by rw [hb01]; simpa using hbit
   rw [hT, hB]
   clear hT hB hok hsl hb01
   have HB := Lib.hid hbit
   clear hbit
   have hbit := HB
   go_enter Try.func34, Try.ntmps34
   go_wp2_with (first | (go_at_call 44; refine (l1Ok_any _ _ hs).mono ?_; rintro e w' ⟨rfl, rfl⟩) | (go_at_call 33; refine (l1In_any _ _ _ _).mono ?_; rintro e w' ⟨rfl, rfl⟩) | (go_at_call 57; go_must (refine (l1BitPut_any _ _ _ _ hw2 hlt hbit.out).mono ?_); rintro e w1 ⟨rfl, hb1⟩))
   go_ret2
   exact ⟨rfl, hb1⟩
 have hT : bputT s.data.toList at_ bit = s.data.toList := by rw [bputT, hsl, hw, if_pos rfl, if_neg hok]
 have hB : bputB s.data.toList at_ bit = false := by rw [bputB, Bool.eq_false_iff.2 hok, Bool.and_false]
 have hk : ¬ ((0 ≤ at_ ∧ at_ < 8 * s.size) ∧ (bit = 0 ∨ bit = 1)) := by simpa [bputOk] using hok
 rw [hT, hB, ba_eta']
 clear hT hB hok hsl
 by_cases h0 : at_ < 0
 · clear hk hb01
   go_enter Try.func34, Try.ntmps34
   go_wp2_with (first | (go_at_call 44; refine (l1Ok_any _ _ hs).mono ?_; rintro e w' ⟨rfl, rfl⟩))
   go_ret2
   exact ⟨rfl, Below.refl _ _⟩
 have h0 : 0 ≤ at_ := by omega
 by_cases h1 : 8 * (s.size : Int) ≤ at_
 · clear hk hb01
   go_enter Try.func34, Try.ntmps34
   go_wp2_with (first | (go_at_call 44; refine (l1Ok_any _ _ hs).mono ?_; rintro e w' ⟨rfl, rfl⟩))
   go_ret2
   exact ⟨rfl, Below.refl _ _⟩
 have h1 : at_ < 8 * (s.size : Int) := by omega
 have hin : inB bit 0 1 = false := by
  rw [hb01]
  simp
  omega
 clear hk hb01
 go_enter Try.func34, Try.ntmps34
 go_wp2_with (first | (go_at_call 44; refine (l1Ok_any _ _ hs).mono ?_; rintro e w' ⟨rfl, rfl⟩) | (go_at_call 33; refine (l1In_any _ _ _ _).mono ?_; rintro e w' ⟨rfl, rfl⟩))
 go_ret2
 exact ⟨rfl, Below.refl _ _⟩
theorem setBit_word (l : List UInt8) (a bit : Nat) (h : 8 * (a / 64) + 8 ≤ l.length) : putL l (8 * (a / 64)) (setBit ((l.drop (8 * (a / 64))).take 8) (a % 64) bit) = setBit l a bit := by
 have e0 : a / 8 = 8 * (a / 64) + a % 64 / 8 := by omega
 have e1 : a % 64 % 8 = a % 8 := by omega
 have hb : ((l.drop (8 * (a / 64))).take 8)[a % 64 / 8]?.getD 0 = l[a / 8]?.getD 0 := by
  rw [List.getElem?_take_of_lt (by omega), List.getElem?_drop, e0]
 rw [setBit, setBit, hb, e1]
 generalize newB (l[a / 8]?.getD 0) (a % 8) bit = x
 apply List.ext_getElem?
 intro j
 have hlen : (((l.drop (8 * (a / 64))).take 8).set (a % 64 / 8) x).length = 8 := by simp; omega
 rw [putL, hlen]
 by_cases h1 : j < 8 * (a / 64)
 · rw [List.getElem?_append_left (by simp; omega), List.getElem?_take_of_lt h1, List.getElem?_set_ne (by omega)]
 · rw [List.getElem?_append_right (by simp; omega), List.length_take, Nat.min_eq_left (by omega)]
   by_cases h2 : j < 8 * (a / 64) + 8
   · rw [List.getElem?_append_left (by rw [hlen]; omega), List.getElem?_set, List.getElem?_set, List.getElem?_take_of_lt (by omega), List.getElem?_drop, show 8 * (a / 64) + (j - 8 * (a / 64)) = j by omega]
     by_cases h3 : a / 8 = j
     · rw [if_pos (by omega), if_pos h3, if_pos (by simp; omega), if_pos (by omega)]
     · rw [if_neg (by omega), if_neg h3]
   · rw [List.getElem?_append_right (by rw [hlen]; omega), hlen, List.getElem?_drop, List.getElem?_set_ne (by omega)]
     congr 1
     omega
theorem implBitPut_any (s : ByteArray) (at_ bit : Int) (w : World) (hs : s.size ≤ maxLen) :
 Calls Try.prog 74 #[.string s, .int .i64 at_, .int .i64 bit] w fun e w' =>
  e = .returned (.tuple #[.string ⟨(bputT s.data.toList at_ bit).toArray⟩, .bool (bputB s.data.toList at_ bit)]) ∧ Below w.heap.size w w' := by
 have hsl : s.data.toList.length = s.size := by simp
 cases hw : wordsB s.size
 · have hT : bputT s.data.toList at_ bit = [] := by rw [bputT, hsl, hw, if_neg (by simp)]
   have hB : bputB s.data.toList at_ bit = false := by rw [bputB, hsl, hw, Bool.false_and]
   rw [hT, hB]
   clear hT hB hsl
   go_enter Try.func74, Try.ntmps74
   go_wp2_with (first | (go_at_call 85; refine (isWords_any _ _ hs).mono ?_; rintro e w' ⟨rfl, rfl⟩))
   go_ret2
   exact ⟨rfl, Below.refl _ _⟩
 have hw8 : s.size % 8 = 0 ∧ s.size ≤ 1600 := by simpa [wordsB] using hw
 obtain ⟨hw1, hw2⟩ := hw8
 by_cases hok : bputOk s.data.toList at_ bit = true
 · have hT : bputT s.data.toList at_ bit = setBit s.data.toList at_.toNat bit.toNat := by rw [bputT, hsl, hw, hok, if_pos rfl, if_pos rfl]
   have hB : bputB s.data.toList at_ bit = true := by rw [bputB, hsl, hw, hok]; rfl
   have hk : (0 ≤ at_ ∧ at_ < 8 * s.size) ∧ (bit = 0 ∨ bit = 1) := by simpa [bputOk] using hok
   obtain ⟨⟨h0, h1⟩, hbit⟩ := hk
   obtain ⟨a, rfl⟩ := Int.eq_ofNat_of_zero_le h0
   have hlt : a < 8 * s.size := by omega
   have hb : decide (0 ≤ (a : Int) ∧ (a : Int) < 8 * s.size) = true := by simp; omega
   have hlen : ((s.data.toList.drop (8 * (a / 64))).take 8).length = 8 := by simp; omega
   have HI := Lib.hid hb
   have HL := Lib.hid hlen
   have HB := Lib.hid hbit
   rw [hT, hB, show (a : Int).toNat = a from rfl, ← setBit_word s.data.toList a bit.toNat (by rw [hsl]; omega)]
   clear hT hB hok hsl hb hlen
   clear hbit
   obtain ⟨b, rfl⟩ : ∃ b : Nat, bit = b := ⟨bit.toNat, by rcases HB.out with h | h <;> omega⟩
   have hn : ((b : Int) != 0) = false ∨ (((b : Int) != 0) = true ∧ ((b : Int) != 1) = false) := by
    rcases HB.out with h | h
    · exact .inl (by simp; omega)
    · exact .inr (by simp; omega)
   have hpl : (setBit ((s.data.toList.drop (8 * (a / 64))).take 8) (a % 64) b).length = 8 := by rw [setBit, List.length_set, HL.out]
   have HP := Lib.hid hpl
   clear hpl
   rcases hn with n0 | ⟨n0, n1⟩
   all_goals
    go_enter Try.func74, Try.ntmps74
    go_wp2_with (first | (go_at_call 85; refine (isWords_any _ _ hs).mono ?_; rintro e w' ⟨rfl, rfl⟩) | (go_at_call 86; refine (isBit_any _ _ _ hw2).mono ?_; rw [HI.out]; rintro e w' ⟨rfl, rfl⟩) | (go_at_call 87; go_must (refine (wordAt_any s _ _ hs (by omega) (by omega)).mono ?_); rintro e w1 ⟨rfl, hb1⟩) | (go_at_call 89; go_must (refine (putBit_any _ _ _ _ (by exact HL.out) (by omega) (by omega) HB.out).mono ?_); rintro e w2 ⟨rfl, hb2⟩) | (refine wpList_store_wd rfl 89 (.tmp 8) (.tmp 32) rfl w2.heap.size (setBit ((s.data.toList.drop (8 * (a / 64))).take 8) (a % 64) b) rfl rfl 89 _ (heap_alloc_new w2 _) (by rw [HP.out]; exact size46) (by rw [HP.out]; rfl) ?_; intro w3 hg3 hb3) | (refine wpList_load_wd rfl 89 (.tmp 8) rfl w2.heap.size rfl 89 _ _ hg3.out Try.underlying89 rfl (by rw [HP.out]; exact size46) ?_) | (go_at_call 90; go_must (refine (withWord_any s _ _ _ hs (by omega) (by omega) HP.out).mono ?_); rintro e w4 ⟨rfl, hb4⟩))
    go_ret2
    refine ⟨rfl, ?_⟩
    have hB2 : Below w.heap.size w w2 := hb1.trans (hb2.mono hb1.size)
    exact ((hB2.alloc hB2.size _).grown hb3.out (by have := hB2.size; simp; omega) (fun k e => by cases e; exact hB2.size)).trans (hb4.mono (by have := hB2.size; have := hb3.out.size; simp at this; omega))
 have hT : bputT s.data.toList at_ bit = s.data.toList := by rw [bputT, hsl, hw, if_pos rfl, if_neg hok]
 have hB : bputB s.data.toList at_ bit = false := by rw [bputB, Bool.eq_false_iff.2 hok, Bool.and_false]
 have hk : ¬ ((0 ≤ at_ ∧ at_ < 8 * s.size) ∧ (bit = 0 ∨ bit = 1)) := by simpa [bputOk] using hok
 rw [hT, hB, ba_eta']
 clear hT hB hok hsl
 by_cases hi : 0 ≤ at_ ∧ at_ < 8 * s.size
 · have hb : decide (0 ≤ at_ ∧ at_ < 8 * s.size) = true := by simpa using hi
   have HI := Lib.hid hb
   have n0 : (bit != 0) = true := by simp; omega
   have n1 : (bit != 1) = true := by simp; omega
   clear hk hb hi
   go_enter Try.func74, Try.ntmps74
   go_wp2_with (first | (go_at_call 85; refine (isWords_any _ _ hs).mono ?_; rintro e w' ⟨rfl, rfl⟩) | (go_at_call 86; refine (isBit_any _ _ _ hw2).mono ?_; rw [HI.out]; rintro e w' ⟨rfl, rfl⟩))
   go_ret2
   exact ⟨rfl, Below.refl _ _⟩
 · have hb : decide (0 ≤ at_ ∧ at_ < 8 * s.size) = false := by simpa using hi
   have HI := Lib.hid hb
   clear hk hb hi
   go_enter Try.func74, Try.ntmps74
   go_wp2_with (first | (go_at_call 85; refine (isWords_any _ _ hs).mono ?_; rintro e w' ⟨rfl, rfl⟩) | (go_at_call 86; refine (isBit_any _ _ _ hw2).mono ?_; rw [HI.out]; rintro e w' ⟨rfl, rfl⟩))
   go_ret2
   exact ⟨rfl, Below.refl _ _⟩
open Go.RowKit Go.Deep
theorem putB_len {l m : List UInt8} (h : l.length = m.length) (a z n : Int) : putB l a z n = putB m a z n := by unfold putB putOk; rw [h]
theorem bputB_len {l m : List UInt8} (h : l.length = m.length) (a b : Int) : bputB l a b = bputB m a b := by unfold bputB bputOk; rw [h]
theorem bputB_out {l : List UInt8} {a b : Int} (h : bputB l a b = true) : 0 ≤ a ∧ a < 8 * l.length ∧ (b = 0 ∨ b = 1) ∧ bputT l a b = setBit l a.toNat b.toNat := by
 have h' := h
 simp only [bputB, bputOk, Bool.and_eq_true, decide_eq_true_eq] at h'
 refine ⟨h'.2.1.1, h'.2.1.2, h'.2.2, ?_⟩
 unfold bputT
 rw [if_pos h'.1, if_pos (by simp [bputOk, h'.2.1.1, h'.2.1.2, h'.2.2])]
theorem setBit_put {l : List UInt8} {i b : Nat} (h : i / 8 < l.length) : setBit l i b = putL l (i / 8) [newB (l[i / 8]?.getD 0) (i % 8) b] := by
 unfold setBit putL
 rw [List.set_eq_take_append_cons_drop, if_pos h]
 rfl
def apI (k at_ sz tu tg pl num : Int) (l : List UInt8) : Option (List UInt8) :=
 match (if k = 1 then (if bputB l at_ (xorI num tu) = true then some (bputT l at_ (xorI num tu)) else none) else if k = 2 then (if putB l at_ sz (xorI num tu) = true then some (putT l at_ sz (xorI num tu)) else none) else none) with
 | none => none
 | some l1 => if tg < 0 then some l1 else if putB l1 tg 2 pl = true then some (putT l1 tg 2 pl) else none
def apS1 (tg pl : Int) (l : List UInt8) : Option (List UInt8) := if tg < 0 then some l else if putB l tg 2 pl = true then some (putT l tg 2 pl) else none
def apS2 (k at_ sz tu num : Int) (l : List UInt8) : Option (List UInt8) :=
 if k = 1 then (if inB num 0 1 = true ∧ bputB l at_ (xorI num tu) = true then some (bputT l at_ (xorI num tu)) else none)
 else if k = 2 then (if fitsB num sz = true ∧ putB l at_ sz (xorI num tu) = true then some (putT l at_ sz (xorI num tu)) else none) else none
theorem putT_len {l : List UInt8} {a z n : Int} (h : putB l a z n = true) : (putT l a z n).length = l.length := putT_length h
theorem bputT_len {l : List UInt8} {a b : Int} (h : bputB l a b = true) : (bputT l a b).length = l.length := by
 rw [(bputB_out h).2.2.2]
 simp [setBit]
theorem put_put {l : List UInt8} {a z n b y m : Int} (h : putB l a z n = true) (g : putB l b y m = true) (hd : a + z ≤ b ∨ b + y ≤ a) : putT (putT l a z n) b y m = putT (putT l b y m) a z n := by
 have h2 : putB (putT l b y m) a z n = true := by rw [putB_len (putT_len g)]; exact h
 have g2 : putB (putT l a z n) b y m = true := by rw [putB_len (putT_len h)]; exact g
 rw [putT_eq g2, putT_eq h2, putT_eq h, putT_eq g]
 obtain ⟨p1, p2, p3, p4, p5, p6⟩ := putB_parts h
 obtain ⟨q1, q2, q3, q4, q5, q6⟩ := putB_parts g
 exact putL_comm l _ _ _ _ (by rw [leB_length]; exact p5) (by rw [leB_length]; exact q5) (by rw [leB_length, leB_length]; omega)
theorem put_bit {l : List UInt8} {a c b y m : Int} (h : bputB l a c = true) (g : putB l b y m = true) (hd : a / 8 + 1 ≤ b ∨ b + y ≤ a / 8) : putT (bputT l a c) b y m = bputT (putT l b y m) a c := by
 have h2 : bputB (putT l b y m) a c = true := by rw [bputB_len (putT_len g)]; exact h
 have g2 : putB (bputT l a c) b y m = true := by rw [putB_len (bputT_len h)]; exact g
 obtain ⟨p1, p2, p3, p4⟩ := bputB_out h
 obtain ⟨r1, r2, r3, r4⟩ := bputB_out h2
 obtain ⟨q1, q2, q3, q4, q5, q6⟩ := putB_parts g
 rw [putT_eq g2, r4, putT_eq g, p4]
 have hi : a.toNat / 8 < l.length := by omega
 have hl := putL_length l b.toNat (leB m y.toNat) (by rw [leB_length]; exact q5)
 rw [setBit_put hi, setBit_put (by rw [hl]; exact hi)]
 have hx : (putL l b.toNat (leB m y.toNat))[a.toNat / 8]? = l[a.toNat / 8]? := putL_out l _ _ (by rw [leB_length]; exact q5) _ (by rw [leB_length]; omega)
 rw [hx]
 exact putL_comm l _ _ _ _ (by simp; omega) (by rw [leB_length]; exact q5) (by rw [leB_length]; simp; omega)
theorem ap_same {nm : ByteArray} {k at_ sz tu tg pl num : Int} (h : accB nm k at_ sz tu tg pl = true) (hn : -9223372036854775808 ≤ num ∧ num ≤ 9223372036854775807) (l : List UInt8) :
 apI k at_ sz tu tg pl num l = (apS1 tg pl l).bind (apS2 k at_ sz tu num) := by
 obtain ⟨a0, a1, a2, a3, hk, hd⟩ := acc_ok h
 unfold apI apS1
 rcases hk with ⟨rfl, rfl, ht⟩ | ⟨rfl, hz, hm, ht⟩ | ⟨rfl, rfl, rfl⟩
 · have hx := xorI_bit hn ht
   have hin : inB num 0 1 = decide (num = 0 ∨ num = 1) := inB_01 num
   obtain ⟨x, hX⟩ : ∃ x, xorI num tu = x := ⟨_, rfl⟩
   rw [hX] at hx
   rw [hX]
   have hbx : bputB l at_ x = true → inB num 0 1 = true := fun hb => by rw [hin, decide_eq_true_eq]; exact hx.1 (bputB_out hb).2.2.1
   rw [if_pos rfl]
   by_cases hb : bputB l at_ x = true
   · rw [if_pos hb]
     by_cases ht : tg < 0
     · dsimp only
       rw [if_pos ht, if_pos ht]
       simp only [Option.bind_some]
       unfold apS2
       rw [hX]
       rw [if_pos rfl, if_pos ⟨hbx hb, hb⟩]
     · dsimp only
       rw [if_neg ht, if_neg ht]
       rw [putB_len (bputT_len hb)]
       by_cases hg : putB l tg 2 pl = true
       · rw [if_pos hg, if_pos hg]
         simp only [Option.bind_some]
         unfold apS2
         rw [hX]
         rw [if_pos rfl, if_pos ⟨hbx hb, by rw [bputB_len (putT_len hg)]; exact hb⟩]
         have := hd (by decide)
         rw [if_pos rfl] at this
         rw [put_bit hb hg (by omega)]
       · rw [if_neg hg, if_neg hg]; rfl
   · rw [if_neg hb]
     simp only
     symm
     by_cases ht : tg < 0
     · rw [if_pos ht]
       simp only [Option.bind_some]
       unfold apS2
       rw [hX]
       rw [if_pos rfl, if_neg (fun e => hb e.2)]
     · rw [if_neg ht]
       by_cases hg : putB l tg 2 pl = true
       · rw [if_pos hg]
         simp only [Option.bind_some]
         unfold apS2
         rw [hX]
         rw [if_pos rfl, if_neg (fun e => hb (by rw [← bputB_len (putT_len hg)]; exact e.2))]
       · rw [if_neg hg]; rfl
 · have hx := xorI_fits hn hz ht
   obtain ⟨x, hX⟩ : ∃ x, xorI num tu = x := ⟨_, rfl⟩
   rw [hX] at hx
   rw [hX]
   have hbx : putB l at_ sz x = true → fitsB num sz = true := fun hb => by
    rw [← hx]
    simp only [putB, putOk, Bool.and_eq_true] at hb
    exact hb.2.2.2
   rw [if_neg (by decide), if_pos rfl]
   by_cases hb : putB l at_ sz x = true
   · rw [if_pos hb]
     by_cases ht : tg < 0
     · dsimp only
       rw [if_pos ht, if_pos ht]
       simp only [Option.bind_some]
       unfold apS2
       rw [hX]
       rw [if_neg (by decide), if_pos rfl, if_pos ⟨hbx hb, hb⟩]
     · dsimp only
       rw [if_neg ht, if_neg ht]
       rw [putB_len (putT_len hb)]
       by_cases hg : putB l tg 2 pl = true
       · rw [if_pos hg, if_pos hg]
         simp only [Option.bind_some]
         unfold apS2
         rw [hX]
         rw [if_neg (by decide), if_pos rfl, if_pos ⟨hbx hb, by rw [putB_len (putT_len hg)]; exact hb⟩]
         have := hd (by decide)
         rw [if_neg (by decide)] at this
         rw [put_put hb hg (by omega)]
       · rw [if_neg hg, if_neg hg]; rfl
   · rw [if_neg hb]
     simp only
     symm
     by_cases ht : tg < 0
     · rw [if_pos ht]
       simp only [Option.bind_some]
       unfold apS2
       rw [hX]
       rw [if_neg (by decide), if_pos rfl, if_neg (fun e => hb e.2)]
     · rw [if_neg ht]
       by_cases hg : putB l tg 2 pl = true
       · rw [if_pos hg]
         simp only [Option.bind_some]
         unfold apS2
         rw [hX]
         rw [if_neg (by decide), if_pos rfl, if_neg (fun e => hb (by rw [← putB_len (putT_len hg)]; exact e.2))]
       · rw [if_neg hg]; rfl
 · rw [if_neg (by decide), if_neg (by decide)]
   simp only
   symm
   by_cases ht : tg < 0
   · rw [if_pos ht]; rfl
   · rw [if_neg ht]
     split <;> rfl
def PutQ (s : ByteArray) (ok : Bool) (w : World) (e : Ending) (w' : World) : Prop := e = .returned (.tuple #[.string s, .bool ok]) ∧ Below w.heap.size w w'
abbrev baL (l : List UInt8) : ByteArray := ⟨l.toArray⟩
theorem bitPut_a (s : ByteArray) (num at_ tu : Int) (b : Nat) (w : World) (hd : s.size ≤ maxLen) (k0 : w.heap[b]? = some (.cells #[.int .i64 at_] 3 (0, 0))) (k1 : w.heap[b + 1]? = some (.cells #[.int .i64 tu] 3 (0, 0))) :
 Calls Try.prog 73 #[.string s, .int .i64 num, .pointer (some ⟨b, 0, none⟩), .pointer (some ⟨b + 1, 0, none⟩)] w (PutQ (baL (bputT s.data.toList at_ (xorI num tu))) (bputB s.data.toList at_ (xorI num tu)) w) := by
 have c0 := cellA k0
 have c1 := cellA k1
 have hxb := xorI_bd num tu
 have HX : Hid (xorI num tu = bits .xor .i64 num tu) := Lib.hid rfl
 obtain ⟨x, hx⟩ : ∃ x, xorI num tu = x := ⟨_, rfl⟩
 rw [hx] at hxb HX ⊢
 have HC := Lib.hid (implBitPut_any s at_ x w hd)
 have hxe := HX.out.symm
 clear hx hxb hd k0 k1
 go_enter Try.func73, Try.ntmps73
 go_wp2_with fail
 try rw [hxe]
 refine HC.out.mono ?_
 rintro e w2 ⟨rfl, hb2⟩
 have HB2 := Lib.hid hb2
 clear hb2 c0 c1
 go_wp2
 exact bodyPost_ret (v := .tuple #[.string (baL (bputT s.data.toList at_ (x))), .bool (bputB s.data.toList at_ (x))]) (by simp [results, Try.results73, go_sem]) rfl ⟨rfl, HB2.out⟩
theorem numPut_a (s : ByteArray) (num at_ sz tu : Int) (b : Nat) (w : World) (hd : s.size ≤ maxLen) (k0 : w.heap[b]? = some (.cells #[.int .i64 at_] 3 (0, 0))) (k1 : w.heap[b + 1]? = some (.cells #[.int .i64 sz] 3 (0, 0))) (k2 : w.heap[b + 2]? = some (.cells #[.int .i64 tu] 3 (0, 0))) :
 Calls Try.prog 77 #[.string s, .int .i64 num, .pointer (some ⟨b, 0, none⟩), .pointer (some ⟨b + 1, 0, none⟩), .pointer (some ⟨b + 2, 0, none⟩)] w (PutQ (baL (putT s.data.toList at_ sz (xorI num tu))) (putB s.data.toList at_ sz (xorI num tu)) w) := by
 have c0 := cellA k0
 have c1 := cellA k1
 have c2 := cellA k2
 have hxb := xorI_bd num tu
 have HX : Hid (xorI num tu = bits .xor .i64 num tu) := Lib.hid rfl
 obtain ⟨x, hx⟩ : ∃ x, xorI num tu = x := ⟨_, rfl⟩
 rw [hx] at hxb HX ⊢
 have HC := Lib.hid (implPut_any s at_ sz x w hd hxb)
 have hxe := HX.out.symm
 clear hx hxb hd k0 k1 k2
 go_enter Try.func77, Try.ntmps77
 go_wp2_with fail
 try rw [hxe]
 refine HC.out.mono ?_
 rintro e w2 ⟨rfl, hb2⟩
 have HB2 := Lib.hid hb2
 clear hb2 c0 c1 c2
 go_wp2
 exact bodyPost_ret (v := .tuple #[.string (baL (putT s.data.toList at_ sz (x))), .bool (putB s.data.toList at_ sz (x))]) (by simp [results, Try.results77, go_sem]) rfl ⟨rfl, HB2.out⟩
theorem pointPut_a (s : ByteArray) (num : Int) (w : World) :
 Calls Try.prog 70 #[.string s, .int .i64 num] w (PutQ s false w) := by
 go_enter Try.func70, Try.ntmps70
 go_wp2
 exact bodyPost_ret (v := .tuple #[.string s, .bool false]) (by simp [results, Try.results70, go_sem]) rfl ⟨rfl, Below.refl _ _⟩
theorem told2_bit_true (s s1 : ByteArray) (num tg pl : Int) (b c : Nat) (f : Value) (w : World) (hd1 : s1.size ≤ maxLen) (hpl : -9223372036854775808 ≤ pl ∧ pl ≤ 9223372036854775807) (k0 : w.heap[b]? = some (.cells #[f, .func (.func 73) #[] #[.pointer (some ⟨c, 0, none⟩), .pointer (some ⟨c + 1, 0, none⟩)]] acrT (0, 0))) (k1 : w.heap[b + 1]? = some (.cells #[.int .i64 tg] 3 (0, 0))) (k2 : w.heap[b + 2]? = some (.cells #[.int .i64 pl] 3 (0, 0)))
 (HF : Calls Try.prog 73 #[.string s, .int .i64 num, .pointer (some ⟨c, 0, none⟩), .pointer (some ⟨c + 1, 0, none⟩)] w (PutQ s1 true w)) :
 Calls Try.prog 80 #[.string s, .int .i64 num, .pointer (some ⟨b, 0, none⟩), .pointer (some ⟨b + 1, 0, none⟩), .pointer (some ⟨b + 2, 0, none⟩)] w (PutQ (baL (putT s1.data.toList tg 2 pl)) (putB s1.data.toList tg 2 pl) w) := by
 obtain ⟨f0, f1⟩ := cellsA k0
 have HFF := Lib.hid HF
 unfold PutQ at HFF
 have K1 := Lib.hid k1
 have K2 := Lib.hid k2
 have HP := Lib.hid (fun W : World => implPut_any s1 tg 2 pl W hd1 hpl)
 clear k0 k1 k2 HF hd1 hpl
 go_enter Try.func80, Try.ntmps80
 go_wp2_with fail
 refine HFF.out.mono ?_
 rintro e w1 ⟨rfl, hb1⟩
 have c1 := cellA ((hb1.block _ (row_lt K1.out)).trans K1.out)
 have c2 := cellA ((hb1.block _ (row_lt K2.out)).trans K2.out)
 have HB1 := Lib.hid hb1
 clear hb1 f0 f1
 go_wp2_with fail
 refine (HP.out _).mono ?_
 rintro e w2 ⟨rfl, hb2⟩
 have HB2 := Lib.hid (HB1.out.trans (hb2.mono HB1.out.size))
 clear hb2 c1 c2
 go_wp2
 exact bodyPost_ret (v := .tuple #[.string (baL (putT s1.data.toList tg 2 pl)), .bool (putB s1.data.toList tg 2 pl)]) (by simp [results, Try.results80, go_sem]) rfl ⟨rfl, HB2.out⟩
theorem told2_bit_false (s s1 : ByteArray) (num tg pl : Int) (b c : Nat) (f : Value) (w : World) (hd1 : s1.size ≤ maxLen) (hpl : -9223372036854775808 ≤ pl ∧ pl ≤ 9223372036854775807) (k0 : w.heap[b]? = some (.cells #[f, .func (.func 73) #[] #[.pointer (some ⟨c, 0, none⟩), .pointer (some ⟨c + 1, 0, none⟩)]] acrT (0, 0))) (k1 : w.heap[b + 1]? = some (.cells #[.int .i64 tg] 3 (0, 0))) (k2 : w.heap[b + 2]? = some (.cells #[.int .i64 pl] 3 (0, 0)))
 (HF : Calls Try.prog 73 #[.string s, .int .i64 num, .pointer (some ⟨c, 0, none⟩), .pointer (some ⟨c + 1, 0, none⟩)] w (PutQ s1 false w)) :
 Calls Try.prog 80 #[.string s, .int .i64 num, .pointer (some ⟨b, 0, none⟩), .pointer (some ⟨b + 1, 0, none⟩), .pointer (some ⟨b + 2, 0, none⟩)] w (PutQ s1 false w) := by
 obtain ⟨f0, f1⟩ := cellsA k0
 have HFF := Lib.hid HF
 unfold PutQ at HFF
 have K1 := Lib.hid k1
 have K2 := Lib.hid k2
 have HP := Lib.hid (fun W : World => implPut_any s1 tg 2 pl W hd1 hpl)
 clear k0 k1 k2 HF hd1 hpl
 go_enter Try.func80, Try.ntmps80
 go_wp2_with fail
 refine HFF.out.mono ?_
 rintro e w1 ⟨rfl, hb1⟩
 have c1 := cellA ((hb1.block _ (row_lt K1.out)).trans K1.out)
 have c2 := cellA ((hb1.block _ (row_lt K2.out)).trans K2.out)
 have HB1 := Lib.hid hb1
 clear hb1 f0 f1
 clear c1 c2
 go_wp2
 exact bodyPost_ret (v := .tuple #[.string s1, .bool false]) (by simp [results, Try.results80, go_sem]) rfl ⟨rfl, HB1.out⟩
theorem told2_num_true (s s1 : ByteArray) (num tg pl : Int) (b c : Nat) (f : Value) (w : World) (hd1 : s1.size ≤ maxLen) (hpl : -9223372036854775808 ≤ pl ∧ pl ≤ 9223372036854775807) (k0 : w.heap[b]? = some (.cells #[f, .func (.func 77) #[] #[.pointer (some ⟨c, 0, none⟩), .pointer (some ⟨c + 1, 0, none⟩), .pointer (some ⟨c + 2, 0, none⟩)]] acrT (0, 0))) (k1 : w.heap[b + 1]? = some (.cells #[.int .i64 tg] 3 (0, 0))) (k2 : w.heap[b + 2]? = some (.cells #[.int .i64 pl] 3 (0, 0)))
 (HF : Calls Try.prog 77 #[.string s, .int .i64 num, .pointer (some ⟨c, 0, none⟩), .pointer (some ⟨c + 1, 0, none⟩), .pointer (some ⟨c + 2, 0, none⟩)] w (PutQ s1 true w)) :
 Calls Try.prog 80 #[.string s, .int .i64 num, .pointer (some ⟨b, 0, none⟩), .pointer (some ⟨b + 1, 0, none⟩), .pointer (some ⟨b + 2, 0, none⟩)] w (PutQ (baL (putT s1.data.toList tg 2 pl)) (putB s1.data.toList tg 2 pl) w) := by
 obtain ⟨f0, f1⟩ := cellsA k0
 have HFF := Lib.hid HF
 unfold PutQ at HFF
 have K1 := Lib.hid k1
 have K2 := Lib.hid k2
 have HP := Lib.hid (fun W : World => implPut_any s1 tg 2 pl W hd1 hpl)
 clear k0 k1 k2 HF hd1 hpl
 go_enter Try.func80, Try.ntmps80
 go_wp2_with fail
 refine HFF.out.mono ?_
 rintro e w1 ⟨rfl, hb1⟩
 have c1 := cellA ((hb1.block _ (row_lt K1.out)).trans K1.out)
 have c2 := cellA ((hb1.block _ (row_lt K2.out)).trans K2.out)
 have HB1 := Lib.hid hb1
 clear hb1 f0 f1
 go_wp2_with fail
 refine (HP.out _).mono ?_
 rintro e w2 ⟨rfl, hb2⟩
 have HB2 := Lib.hid (HB1.out.trans (hb2.mono HB1.out.size))
 clear hb2 c1 c2
 go_wp2
 exact bodyPost_ret (v := .tuple #[.string (baL (putT s1.data.toList tg 2 pl)), .bool (putB s1.data.toList tg 2 pl)]) (by simp [results, Try.results80, go_sem]) rfl ⟨rfl, HB2.out⟩
theorem told2_num_false (s s1 : ByteArray) (num tg pl : Int) (b c : Nat) (f : Value) (w : World) (hd1 : s1.size ≤ maxLen) (hpl : -9223372036854775808 ≤ pl ∧ pl ≤ 9223372036854775807) (k0 : w.heap[b]? = some (.cells #[f, .func (.func 77) #[] #[.pointer (some ⟨c, 0, none⟩), .pointer (some ⟨c + 1, 0, none⟩), .pointer (some ⟨c + 2, 0, none⟩)]] acrT (0, 0))) (k1 : w.heap[b + 1]? = some (.cells #[.int .i64 tg] 3 (0, 0))) (k2 : w.heap[b + 2]? = some (.cells #[.int .i64 pl] 3 (0, 0)))
 (HF : Calls Try.prog 77 #[.string s, .int .i64 num, .pointer (some ⟨c, 0, none⟩), .pointer (some ⟨c + 1, 0, none⟩), .pointer (some ⟨c + 2, 0, none⟩)] w (PutQ s1 false w)) :
 Calls Try.prog 80 #[.string s, .int .i64 num, .pointer (some ⟨b, 0, none⟩), .pointer (some ⟨b + 1, 0, none⟩), .pointer (some ⟨b + 2, 0, none⟩)] w (PutQ s1 false w) := by
 obtain ⟨f0, f1⟩ := cellsA k0
 have HFF := Lib.hid HF
 unfold PutQ at HFF
 have K1 := Lib.hid k1
 have K2 := Lib.hid k2
 have HP := Lib.hid (fun W : World => implPut_any s1 tg 2 pl W hd1 hpl)
 clear k0 k1 k2 HF hd1 hpl
 go_enter Try.func80, Try.ntmps80
 go_wp2_with fail
 refine HFF.out.mono ?_
 rintro e w1 ⟨rfl, hb1⟩
 have c1 := cellA ((hb1.block _ (row_lt K1.out)).trans K1.out)
 have c2 := cellA ((hb1.block _ (row_lt K2.out)).trans K2.out)
 have HB1 := Lib.hid hb1
 clear hb1 f0 f1
 clear c1 c2
 go_wp2
 exact bodyPost_ret (v := .tuple #[.string s1, .bool false]) (by simp [results, Try.results80, go_sem]) rfl ⟨rfl, HB1.out⟩
theorem told2_point_false (s s1 : ByteArray) (num tg pl : Int) (b c : Nat) (f : Value) (w : World) (hd1 : s1.size ≤ maxLen) (hpl : -9223372036854775808 ≤ pl ∧ pl ≤ 9223372036854775807) (k0 : w.heap[b]? = some (.cells #[f, .func (.func 70) #[] #[]] acrT (0, 0))) (k1 : w.heap[b + 1]? = some (.cells #[.int .i64 tg] 3 (0, 0))) (k2 : w.heap[b + 2]? = some (.cells #[.int .i64 pl] 3 (0, 0)))
 (HF : Calls Try.prog 70 #[.string s, .int .i64 num] w (PutQ s1 false w)) :
 Calls Try.prog 80 #[.string s, .int .i64 num, .pointer (some ⟨b, 0, none⟩), .pointer (some ⟨b + 1, 0, none⟩), .pointer (some ⟨b + 2, 0, none⟩)] w (PutQ s1 false w) := by
 obtain ⟨f0, f1⟩ := cellsA k0
 have HFF := Lib.hid HF
 unfold PutQ at HFF
 have K1 := Lib.hid k1
 have K2 := Lib.hid k2
 have HP := Lib.hid (fun W : World => implPut_any s1 tg 2 pl W hd1 hpl)
 clear k0 k1 k2 HF hd1 hpl
 go_enter Try.func80, Try.ntmps80
 go_wp2_with fail
 refine HFF.out.mono ?_
 rintro e w1 ⟨rfl, hb1⟩
 have c1 := cellA ((hb1.block _ (row_lt K1.out)).trans K1.out)
 have c2 := cellA ((hb1.block _ (row_lt K2.out)).trans K2.out)
 have HB1 := Lib.hid hb1
 clear hb1 f0 f1
 clear c1 c2
 go_wp2
 exact bodyPost_ret (v := .tuple #[.string s1, .bool false]) (by simp [results, Try.results80, go_sem]) rfl ⟨rfl, HB1.out⟩
end Go.Proofs.Ytfnecflkahmjoaa
namespace Go.Proofs.Ytfnecflkahmjoaa
open Go.RowKit
mutual
def sizN : Nd → Nat
 | .mk _ d p _ _ i => d.size + sizL p + sizL i
def sizL : List Nd → Nat
 | [] => 0
 | n :: t => 1 + sizN n + sizL t
end
theorem sizL_map : ∀ l : List Nd, sizL l = (l.map fun n => 1 + sizN n).sum
 | [] => by rw [sizL]; rfl
 | n :: t => by rw [sizL, sizL_map t]; simp
theorem sizN_eq (n : Nd) : sizN n = n.data.size + sizL n.ptrs + sizL n.items := by
 cases n with
 | mk k d p s c i => rw [sizN]; rfl
theorem sizL_nil : sizL [] = 0 := by rw [sizL]
theorem totL_siz {w : World} {S : Nat → Prop} : ∀ (m : Nat) (A : Option Addr) (l : List Nd), NdsAt w S m A l → totL m l = sizL l
 | 0, A, l, h => by rw [h.zero, sizL_nil]; rfl
 | m + 1, A, l, h => by
   rw [totL_succ, sizL_map]
   congr 1
   apply List.map_congr_left
   intro n hn
   obtain ⟨hd, h1⟩ := h.mem n hn
   unfold totN
   rw [sizN_eq, totL_siz m _ _ h1.2.1, totL_siz m _ _ h1.2.2]
theorem totN_siz {w : World} {S : Nat → Prop} {m : Nat} {n : Nd} {h : Hd} (hn : NdAt w S m n h) : totN m n = sizN n := by
 unfold totN
 rw [sizN_eq, totL_siz m _ _ hn.2.1, totL_siz m _ _ hn.2.2]
theorem sizL_app (a b : List Nd) : sizL (a ++ b) = sizL a + sizL b := by rw [sizL_map, sizL_map, sizL_map, List.map_append, List.sum_append]
theorem sizL_take (l : List Nd) (k : Nat) : sizL (l.take k) ≤ sizL l := by
 conv => rhs; rw [← List.take_append_drop k l]
 rw [sizL_app]; omega
def cellE (r : Nd × Hd) : Nat → Value
 | 0 => .int .i64 r.1.kind
 | 1 => .string r.1.data
 | 2 => .slice r.2.A r.1.ptrs.length r.2.a
 | 3 => .int .i64 r.1.size
 | 4 => .int .i64 r.1.count
 | _ => .slice r.2.B r.1.items.length r.2.b
theorem rowOf_get : ∀ (q : List (Nd × Hd)) (j : Nat), (rowOf q)[j]? = (q[j / 6]?).map fun r => cellE r (j % 6)
 | [], j => by simp [rowOf]
 | r :: t, 0 => rfl
 | r :: t, 1 => rfl
 | r :: t, 2 => rfl
 | r :: t, 3 => rfl
 | r :: t, 4 => rfl
 | r :: t, 5 => rfl
 | r :: t, j + 1 + 1 + 1 + 1 + 1 + 1 => by
   show (rowOf t)[j]? = _
   rw [rowOf_get t j, show (j + 1 + 1 + 1 + 1 + 1 + 1) / 6 = j / 6 + 1 by omega, show (j + 1 + 1 + 1 + 1 + 1 + 1) % 6 = j % 6 by omega, List.getElem?_cons_succ]
theorem row_upd {cur : Array Value} {c e : Nat} {pre post : List (Nd × Hd)} {r r' : Nd × Hd} (hs : cur.size = c * 6) (hle : (pre ++ r :: post).length ≤ c) (hc : cur.toList.take ((pre ++ r :: post).length * 6) = rowOf (pre ++ r :: post)) (he : e < 6) (hr : ∀ f, f < 6 → f ≠ e → cellE r' f = cellE r f) :
 (cur.setIfInBounds (pre.length * 6 + e) (cellE r' e)).toList.take ((pre ++ r' :: post).length * 6) = rowOf (pre ++ r' :: post) := by
 have hl : (pre ++ r' :: post).length = (pre ++ r :: post).length := by simp
 rw [hl]
 have hpl : pre.length < (pre ++ r :: post).length := by simp
 apply List.ext_getElem?
 intro j
 have h0 : (cur.toList.take ((pre ++ r :: post).length * 6))[j]? = ((pre ++ r :: post)[j / 6]?).map fun r => cellE r (j % 6) := by rw [hc, rowOf_get]
 rw [rowOf_get]
 by_cases hj : j < (pre ++ r :: post).length * 6
 · rw [List.getElem?_take_of_lt hj] at h0 ⊢
   rw [Array.getElem?_toList] at h0 ⊢
   rw [Array.getElem?_setIfInBounds]
   have hset : (pre ++ r' :: post)[j / 6]? = if j / 6 = pre.length then some r' else (pre ++ r :: post)[j / 6]? := by
    by_cases h : j / 6 = pre.length
    · rw [if_pos h, h, List.getElem?_append_right (Nat.le_refl _), Nat.sub_self]; rfl
    · rw [if_neg h]
      rcases Nat.lt_or_ge (j / 6) pre.length with h2 | h2
      · rw [List.getElem?_append_left h2, List.getElem?_append_left h2]
      · rw [List.getElem?_append_right h2, List.getElem?_append_right h2]
        obtain ⟨x, hx⟩ : ∃ x, j / 6 - pre.length = x + 1 := ⟨j / 6 - pre.length - 1, by omega⟩
        rw [hx, List.getElem?_cons_succ, List.getElem?_cons_succ]
   rw [hset]
   have hat : (pre ++ r :: post)[pre.length]? = some r := by rw [List.getElem?_append_right (Nat.le_refl _), Nat.sub_self]; rfl
   by_cases h1 : pre.length * 6 + e = j
   · rw [if_pos h1, if_pos (by omega), if_pos (by omega)]
     show some (cellE r' e) = some (cellE r' (j % 6))
     rw [show j % 6 = e by omega]
   · rw [if_neg h1]
     by_cases h2 : j / 6 = pre.length
     · rw [if_pos h2]
       rw [h2, hat] at h0
       rw [h0]
       show some (cellE r (j % 6)) = some (cellE r' (j % 6))
       rw [hr (j % 6) (by omega) (by omega)]
     · rw [if_neg h2, h0]
 · rw [List.getElem?_eq_none (by rw [List.length_take]; omega)]
   rw [List.getElem?_eq_none (by rw [hl]; omega)]; rfl
def RowG (w : World) (g c : Nat) (q : List NB) (M : Nat) : Prop :=
 ∃ cur : Array Value, w.heap[g]? = some (.cells cur nodeT (0, 0)) ∧ cur.size = c * 6 ∧ q.length ≤ c ∧ c ≤ maxLen ∧ cur.toList.take (q.length * 6) = rowB q ∧ (∀ r ∈ q, OwN w M r.1 r.2.1 r.2.2) ∧ (blkB q).Nodup ∧ g ∉ blkB q
theorem rowB_app (a b : List NB) : rowB (a ++ b) = rowB a ++ rowB b := by unfold rowB; rw [List.map_append, rowOf_app]
theorem blkB_app (a b : List NB) : blkB (a ++ b) = blkB a ++ blkB b := by unfold blkB; rw [List.flatMap_append]
theorem blkB_cons (r : NB) (b : List NB) : blkB (r :: b) = r.2.2 ++ blkB b := by unfold blkB; rw [List.flatMap_cons]
theorem OwS.rowG {w : World} {M g c : Nat} {l : List Nd} {bs : List Nat} (h : OwS w (M + 1) (some ⟨g, 0, none⟩) c l bs) (hnd : bs.Nodup) : ∃ q : List NB, q.map (·.1) = l ∧ bs = g :: blkB q ∧ RowG w g c q M := by
 obtain ⟨q, hq, ho, hb, hr⟩ := h
 rcases own_blk ho with ⟨h1, _⟩ | ⟨g', cur, hg, h1, h2, h3, h4, h5, h6, h7⟩
 · cases h1
 · injection hg with hg
   injection hg with hg
   subst hg
   have hb' : bs = g :: blkB q := hb
   rw [hb'] at hnd
   have := List.nodup_cons.1 hnd
   exact ⟨q, hq, hb', cur, h3, h6, h4, h5, h7, hr, this.2, this.1⟩
theorem RowG.own {w : World} {M g c : Nat} {q : List NB} (h : RowG w g c q M) : OwS w (M + 1) (some ⟨g, 0, none⟩) c (q.map (·.1)) (g :: blkB q) ∧ (g :: blkB q).Nodup := by
 obtain ⟨cur, h1, h2, h3, h4, h5, h6, h7, h8⟩ := h
 exact ⟨⟨q, rfl, ⟨by rw [← h5, List.length_take]; simp; omega, .inr ⟨g, c, cur, rfl, Nat.zero_le _, h1, h3, h4, h2, h5⟩⟩, rfl, h6⟩, List.nodup_cons.2 ⟨h8, h7⟩⟩
theorem RowG.set {w : World} {M g c : Nat} {pre post : List NB} {r : NB} {n' : Nd} (e : Nat) (v : Value) (h : RowG w g c (pre ++ r :: post) M) (he : e < 6) (hv : v = cellE (n', r.2.1) e) (hr : ∀ f, f < 6 → f ≠ e → cellE (n', r.2.1) f = cellE (r.1, r.2.1) f)
 (hp : n'.ptrs = r.1.ptrs) (hi : n'.items = r.1.items) (hd : n'.data.size ≤ maxLen) : RowG (w.setCell ⟨g, pre.length * 6 + e, none⟩ v) g c (pre ++ (n', r.2) :: post) M := by
 subst hv
 obtain ⟨cur, h1, h2, h3, h4, h5, h6, h7, h8⟩ := h
 have hlen : (pre ++ (n', r.2) :: post).length = (pre ++ r :: post).length := by simp
 have hblk : blkB (pre ++ (n', r.2) :: post) = blkB (pre ++ r :: post) := by rw [blkB_app, blkB_app, blkB_cons, blkB_cons]
 have hother : ∀ b, b ≠ g → (w.setCell ⟨g, pre.length * 6 + e, none⟩ (cellE (n', r.2.1) e)).heap[b]? = w.heap[b]? := fun b hb => Below.heap_setCell w ⟨g, pre.length * 6 + e, none⟩ _ b hb
 have hfr : ∀ x ∈ pre ++ r :: post, ∀ b ∈ x.2.2, b ≠ g := fun x hx b hb e => h8 (by rw [← e]; exact List.mem_flatMap.2 ⟨x, hx, hb⟩)
 refine ⟨_, row_setN h1 _ _, by simpa using h2, by rw [hlen]; exact h3, h4, ?_, fun x hx => ?_, by rw [hblk]; exact h7, by rw [hblk]; exact h8⟩
 · have h5' : cur.toList.take ((pre.map (fun r => (r.1, r.2.1)) ++ (r.1, r.2.1) :: post.map (fun r => (r.1, r.2.1))).length * 6) = rowOf (pre.map (fun r => (r.1, r.2.1)) ++ (r.1, r.2.1) :: post.map (fun r => (r.1, r.2.1))) := by
    have := h5
    unfold rowB at this
    rw [List.map_append, List.map_cons] at this
    simpa using this
   have := row_upd (r' := (n', r.2.1)) h2 (by simpa using h3) h5' he hr
   unfold rowB
   rw [List.map_append, List.map_cons]
   simpa using this
 · have hold : ∀ x ∈ pre ++ r :: post, OwN (w.setCell ⟨g, pre.length * 6 + e, none⟩ (cellE (n', r.2.1) e)) M x.1 x.2.1 x.2.2 := fun x hx => (h6 x hx).frame (fun b hb => hother b (hfr x hx b hb))
   rcases List.mem_append.1 hx with hx | hx
   · exact hold x (List.mem_append_left _ hx)
   · rcases List.mem_cons.1 hx with rfl | hx
     · obtain ⟨_, b1, b2, e1, e2, e3⟩ := hold r (List.mem_append_right _ List.mem_cons_self)
       refine ⟨hd, b1, b2, e1, ?_, ?_⟩
       · show OwS _ M r.2.1.A r.2.1.a n'.ptrs b1
         rw [hp]; exact e2
       · show OwS _ M r.2.1.B r.2.1.b n'.items b2
         rw [hi]; exact e3
     · exact hold x (List.mem_append_right _ (List.mem_cons_of_mem _ hx))
theorem RowG.frame {w w' : World} {M g c : Nat} {q : List NB} (h : RowG w g c q M) (hf : ∀ b, b = g ∨ b ∈ blkB q → w'.heap[b]? = w.heap[b]?) : RowG w' g c q M := by
 obtain ⟨cur, h1, h2, h3, h4, h5, h6, h7, h8⟩ := h
 exact ⟨cur, (hf g (.inl rfl)).trans h1, h2, h3, h4, h5, fun r hr => (h6 r hr).frame (fun b hb => hf b (.inr (List.mem_flatMap.2 ⟨r, hr, hb⟩))), h7, h8⟩
theorem RowG.lt {w : World} {M g c : Nat} {q : List NB} (h : RowG w g c q M) : g < w.heap.size ∧ ∀ b ∈ blkB q, b < w.heap.size := by
 obtain ⟨cur, h1, h2, h3, h4, h5, h6, h7, h8⟩ := h
 refine ⟨row_lt h1, fun b hb => ?_⟩
 obtain ⟨r, hr, hbr⟩ := List.mem_flatMap.1 hb
 exact ((h6 r hr).lt b hbr).1
theorem RowG.below {w w' : World} {M g c : Nat} {q : List NB} (h : RowG w g c q M) (hb : Below w.heap.size w w') : RowG w' g c q M :=
 h.frame (fun b hm => hb.block b (by rcases hm with rfl | hm; exact h.lt.1; exact h.lt.2 b hm))
structure OnlyIn (bs : List Nat) (w w' : World) : Prop where
 os : w'.os = w.os
 tape : w'.tape = w.tape
 output : w'.output = w.output
 size : w.heap.size ≤ w'.heap.size
 block : ∀ k, k < w.heap.size → k ∉ bs → w'.heap[k]? = w.heap[k]?
theorem OnlyIn.refl (bs : List Nat) (w : World) : OnlyIn bs w w := ⟨rfl, rfl, rfl, Nat.le_refl _, fun _ _ _ => rfl⟩
theorem OnlyIn.trans {bs : List Nat} {a b c : World} (h : OnlyIn bs a b) (k : OnlyIn bs b c) : OnlyIn bs a c :=
 ⟨k.os.trans h.os, k.tape.trans h.tape, k.output.trans h.output, Nat.le_trans h.size k.size, fun x hx hn => (k.block x (Nat.lt_of_lt_of_le hx h.size) hn).trans (h.block x hx hn)⟩
theorem OnlyIn.of_below {bs : List Nat} {w w' : World} (h : Below w.heap.size w w') : OnlyIn bs w w' := ⟨h.os, h.tape, h.output, h.size, fun k hk _ => h.block k hk⟩
theorem OnlyIn.setCell {bs : List Nat} {w : World} {p : Addr} (hp : p.block ∈ bs) (v : Value) : OnlyIn bs w (w.setCell p v) := ⟨rfl, rfl, rfl, by simp [World.setCell], fun k _ hn => Below.heap_setCell w p v k (fun e => hn (e ▸ hp))⟩
theorem OnlyIn.mono {bs bs' : List Nat} {w w' : World} (h : OnlyIn bs w w') (hs : ∀ b ∈ bs, b ∈ bs' ∨ w.heap.size ≤ b) : OnlyIn bs' w w' := ⟨h.os, h.tape, h.output, h.size, fun k hk hn => h.block k hk (fun hm => by rcases hs k hm with h | h; exact hn h; omega)⟩
theorem OnlyIn.below {bs : List Nat} {B : Nat} {w w' : World} (h : OnlyIn bs w w') (hB : B ≤ w.heap.size) (hs : ∀ b ∈ bs, B ≤ b) : Below B w w' := ⟨h.os, h.tape, h.output, h.size, fun k hk => h.block k (by omega) (fun hm => by have := hs k hm; omega)⟩
open Go.RowKit Go.Deep
theorem wpList_append_ndB {ops : Array Oper} {rest : List Oper} {o : Oper} {a : Act} {w : World} {Q : Exit → Act → World → Prop} (hgd : o.guard = none) (s x : Operand)
 (ho : o.op = .call { callee := .builtin .append, args := #[s, x], argTypes := #[nodesT, nodesT] })
 (base : Nat) (v : Value) (n : Nat) (xs : List Value) (hs : a.eval s = v) (hown : w.ownsRow base nodeT 6 v n xs)
 (ad : Addr) (c : Nat) (r : Nd × Hd) (hx : a.eval x = .slice (some ad) 1 c) (hnews : ∀ j u, (rowOf [r])[j]? = some u → w.cell? (ad.add j) = some u) (hn : n ≤ 3000000) (hbase : base ≤ w.heap.size)
 (h : ∀ A' c' w', Hid (w'.ownsRow base nodeT 6 (.slice A' (n + 1) c') (n + 1) (xs ++ rowOf [r])) → Hid (w.grownBy w' v.ownBlock) → Hid ((Value.slice A' (n + 1) c').ownBlock = v.ownBlock ∨ (Value.slice A' (n + 1) c').ownBlock = some w.heap.size) → wpList Try.prog ops Q rest (a.put o.dst (.slice A' (n + 1) c')) w') :
 wpList Try.prog ops Q (o :: rest) a w :=
 wpList_plain hgd fun K hK => by
  obtain ⟨i0, hi, hz0, hz1, hz2⟩ := info_parts infoNd
  obtain ⟨v', w', hr, h2, h3, _, h5⟩ := run_append_own_at (P := Try.prog) w base nodesT o.type nodeT i0 _ 6 88 Try.underlying29 hi hz0 hz1 hz2 rfl (by decide) v n xs hown ad 1 c (rowOf [r]) rfl hnews (rowOf_one _) (by unfold maxLen; omega) (by omega) hbase
  obtain ⟨A', c', rfl⟩ := own_sliceN h2
  unfold Oper.wp execOp
  simp only [ho, resolve, invoke, builtin, Sem.run_bind, Sem.run_pure, Result.andThen_ok, List.map_toArray, List.map_cons, List.map_nil, hs, hx, hr]
  exact hK _ _ (h A' c' w' h2 h3 h5)
theorem sizL_len : ∀ l : List Nd, l.length ≤ sizL l
 | [] => by simp
 | n :: t => by rw [sizL, List.length_cons]; have := sizL_len t; omega
theorem sizL_at {l : List Nd} {k : Nat} (h : k < l.length) : sizN l[k] ≤ sizL l := by
 have h1 : sizL (l.take (k + 1)) ≤ sizL l := sizL_take l _
 rw [List.take_succ_eq_append_getElem h, sizL_app, sizL, sizL_nil] at h1
 omega
def CiN (m : Nat) : Prop := ∀ (n : Nd) (h : Hd) (w : World) (S : Nat → Prop), NdAt w S m n h → sizN n ≤ 2000000 → Calls Try.prog 29 #[.agg #[.int .i64 n.kind, .string n.data, .slice h.A n.ptrs.length h.a, .int .i64 n.size, .int .i64 n.count, .slice h.B n.items.length h.b]] w (NewO (m + 1) n w)
def CiS (m : Nat) : Prop := ∀ (A : Option Addr) (c : Nat) (l : List Nd) (w : World) (S : Nat → Prop), NdsAt w S m A l → sizL l ≤ 2000000 → Calls Try.prog 54 #[.slice A l.length c] w (NewOS (m + 1) l w)
theorem ciS_of (m : Nat) (IH : ∀ j, m = j + 1 → CiN j) : CiS m := by
 intro A c l w S hl hsz
 have hlm : l.length ≤ 2000000 := Nat.le_trans (sizL_len l) hsz
 have HF := Lib.hid hl
 have HSZ := Lib.hid hsz
 have HIH := Lib.hid IH
 clear hl hsz IH
 go_enter Try.func54, Try.ntmps54
 go_wp2
 go_loopw [3, 8] (fun v i wr => ∃ (u : Value) (k : Nat) (q : List NB), u = v ∧ i = .int .i64 k ∧ k ≤ l.length ∧ q.length = k ∧ Hid (RowO wr w.heap.size u q m ∧ q.map (·.1) = l.take k) ∧ Hid (Below w.heap.size w wr)) (fun _ i _ => l.length - (intOf i).toNat)
 case atStart => exact ⟨_, 0, [], rfl, rfl, by omega, rfl, Lib.hid ⟨RowO.nil _ _ _, rfl⟩, Lib.hid (Below.refl _ _)⟩
 case round =>
  obtain ⟨v, k, q, hv0, rfl, hk, hql, HR, HB⟩ := hrel
  subst hv0
  by_cases hlt : k < l.length
  · obtain ⟨j, rfl⟩ := HF.out.pred hlt
    obtain ⟨x, hd, rfl, hc, hn⟩ := (HF.out.below HB.out).at_ hlt
    have htn : l.take k ++ [l[k]] = l.take (k + 1) := (List.take_succ_eq_append_getElem hlt).symm
    have hzy : sizN l[k] ≤ 2000000 := Nat.le_trans (sizL_at hlt) HSZ.out
    have HM : Hid (q.map (·.1) ++ [l[k]] = l.take (k + 1)) := Lib.hid (by rw [HR.out.2, htn])
    generalize l[k] = y at *
    obtain ⟨d0, d1, d2, d3, d4, d5⟩ := hc
    have hba := (Below.refl wr.heap.size wr).alloc (Nat.le_refl _) (.cells #[.int .i64 y.kind, .string y.data, .slice hd.A y.ptrs.length hd.a, .int .i64 y.size, .int .i64 y.count, .slice hd.B y.items.length hd.b] nodeT)
    have HC := Lib.hid (HIH.out j rfl y hd (wr.alloc (.cells #[.int .i64 y.kind, .string y.data, .slice hd.A y.ptrs.length hd.a, .int .i64 y.size, .int .i64 y.count, .slice hd.B y.items.length hd.b] nodeT)) S (hn.below hba) hzy)
    have HR2 := Lib.hid (HR.out.1.alloc (.cells #[.int .i64 y.kind, .string y.data, .slice hd.A y.ptrs.length hd.a, .int .i64 y.size, .int .i64 y.count, .slice hd.B y.items.length hd.b] nodeT))
    have HB2 := Lib.hid (HB.out.trans (hba.mono HB.out.size))
    have hs1 := HB.out.size
    have hs2 : (wr.alloc (.cells #[.int .i64 y.kind, .string y.data, .slice hd.A y.ptrs.length hd.a, .int .i64 y.size, .int .i64 y.count, .slice hd.B y.items.length hd.b] nodeT)).heap.size = wr.heap.size + 1 := by simp
    unfold NewO at HC
    clear hn hzy htn hba
    go_wp2_with fail
    generalize wr.alloc (.cells #[.int .i64 y.kind, .string y.data, .slice hd.A y.ptrs.length hd.a, .int .i64 y.size, .int .i64 y.count, .slice hd.B y.items.length hd.b] nodeT) = W2 at *
    clear d0 d1 d2 d3 d4 d5
    refine HC.out.mono ?_
    rintro e w3 ⟨hy, bs, rfl, hny, hnd, hge, hb3⟩
    have HO3 := Lib.hid (HR2.out.low hb3)
    have HB3 := Lib.hid (HB2.out.trans (hb3.mono HB2.out.size))
    have hs3 := hb3.size
    have HQH : Hid (∀ b ∈ blkB q, b < W2.heap.size) := Lib.hid HR2.out.lt
    have HVH : Hid (∀ k, v.ownBlock = some k → k < W2.heap.size) := Lib.hid fun k hk => (HR2.out.1.lt k hk).2
    have HNY := Lib.hid hny
    have HND := Lib.hid (And.intro hnd hge)
    have hq3 : q.length ≤ 3000000 := by omega
    clear hny hnd hge hb3
    go_wp2_with (at_builtin; go_must (refine wpList_append_ndB rfl (.tmp 12) (.tmp 15) rfl w.heap.size v q.length (rowB q) rfl (HO3.out.1.alloc _) ⟨w3.heap.size, 0, none⟩ 1 (y, hy) rfl (cells_six_new w3 (y, hy) _) hq3 (by simp; omega) ?_); intro A4 c4 w4 hown4 hgrow4 hat4)
    have hnx := (HO3.out.alloc _).next (HNY.out.below ((Below.refl w3.heap.size w3).alloc (Nat.le_refl _) _)) HND.out.1 HND.out.2 (by omega) HQH.out HVH.out hown4.out hgrow4.out hat4.out
    have HB4 := Lib.hid ((HB3.out.alloc HB3.out.size _).grown hgrow4.out (by simp; omega) (fun k hk => (HO3.out.1.lt k hk).1))
    have HR4 := Lib.hid (And.intro hnx (show (q ++ [(y, hy, bs)]).map (·.1) = l.take (k + 1) by rw [List.map_append]; exact HM.out))
    clear hown4 hgrow4 hat4 hnx
    rw [hql] at HR4
    go_roundw
    case rel => exact ⟨_, k + 1, q ++ [(y, hy, bs)], rfl, by go_num, by omega, by simp; omega, HR4, HB4⟩
    case measure => simp [intOf]; omega
  · obtain rfl : k = l.length := by omega
    obtain ⟨A2, c2, bs, hv, hown, hnd, hge⟩ := HR.out.1.done
    have hm := HR.out.2
    rw [List.take_of_length_le (Nat.le_refl _)] at hm
    subst hv
    have hll : l.length = q.length := by omega
    rw [hm] at hown
    have HRES : Hid (NewOS (m + 1) l w (.returned (.slice A2 q.length c2)) wr) := Lib.hid ⟨A2, c2, bs, by rw [hll], hown, hnd, hge, HB.out⟩
    clear hown hnd hge hm HR hll
    go_wp2
    go_ret
    exact HRES.out
end Go.Proofs.Ytfnecflkahmjoaa
