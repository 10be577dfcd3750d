/- impl's word.putBit and BitPut, spec.BitPut: what they answer at every argument. -/
import Derived.Test.YtliiffpegfkpbaaBit
import Derived.Test.YtliiffpegfkpbaaWordAt
import Derived.Test.YtliiffpegfkpbaaText
import Derived.Test.YtliiffpegfkpbaaMath3
import Derived.RegionTactic
namespace Go.Proofs.Ytliiffpegfkpbaa
open Go.RowKit

set_option maxHeartbeats 1000000 in
theorem putBit_any (l : List UInt8) (at_ bit : Int) (w : World) (hl : l.length = 8) (h0 : 0 ≤ at_) (h1 : at_ < 64) (hb : bit = 0 ∨ bit = 1) :
    Calls Try.prog 47 #[.agg (wd l), .int .i64 at_, .int .i64 bit] w fun e w' => e = .returned (.agg (wd (setBit l at_.toNat bit.toNat))) ∧ Below w.heap.size w w' := by
  obtain ⟨a, rfl⟩ := Int.eq_ofNat_of_zero_le h0
  have hc1 := wd_cell w l 48 (a / 8) (by omega)
  have hc : ∀ o : Obj, ((w.alloc (.cells (wd l) 48)).alloc o).cell? ⟨w.heap.size, a / 8, none⟩ = some (.int .u8 ((l[a / 8]?.getD 0).toNat : Int)) := fun o =>
    (World.cell?_alloc_lt _ _ _ (by simp)).trans hc1
  have hf : ∀ o : Obj, ((w.alloc (.cells (wd l) 48)).alloc o).frozen? ⟨w.heap.size, a / 8, none⟩ = false := fun o =>
    frozen_row (heap_alloc_keep (heap_alloc_new w _) o) _
  clear hc1
  have n0 := newB_0 (l[a / 8]?.getD 0) (a % 8) (by omega)
  have n1 := newB_1 (l[a / 8]?.getD 0) (a % 8) (by omega)
  have hv := fun bit : Nat => wd_set l (a / 8) (newB (l[a / 8]?.getD 0) (a % 8) bit)
  have hlen : ∀ bit : Nat, (setBit l a bit).length = 8 := fun bit => by simp [setBit, hl]
  have HLen := Lib.hid hlen
  have HV := Lib.hid hv
  have N0 := Lib.hid n0
  have N1 := Lib.hid n1
  clear hl n0 n1 hv hlen
  rcases hb with rfl | rfl
  · go_enter Try.func47, Try.ntmps47
    go_wp2
    go_region
    rw [N0.out, HV.out]
    clear hc hf
    go_wp2_with (first | (refine wpList_load_wd rfl 48 (.tmp 3) rfl w.heap.size rfl 48 (setBit l a 0) _ (heap_alloc2_old w _ _) Try.underlying48 rfl (by rw [HLen.out]; exact size46) ?_) | (refine wpList_store_wd rfl 48 (.tmp 6) (.tmp 24) rfl (w.heap.size + 1) (setBit l a 0) rfl rfl 48 _ (heap_alloc2_new w _ _) (by rw [HLen.out]; exact size46) (by rw [HLen.out]; rfl) ?_; intro w5 hg5 hb5))
    refine bodyPost_ret (v := .agg (wd (setBit l a 0))) ?_ rfl ⟨rfl, ((((Below.refl _ _).alloc (Nat.le_refl _) _).alloc (by simp) _).drew).grown hb5.out (by simp; omega) (fun k e => by cases e; simp)⟩
    exact results_cell_row rfl _ _ (w.heap.size + 1) 48 _ (0, 0) _ rfl hg5.out Try.underlying48 rfl (by rw [wd_size, HLen.out]; exact size46)
  · go_enter Try.func47, Try.ntmps47
    go_wp2
    go_region
    rw [N1.out, HV.out]
    clear hc hf
    go_wp2_with (first | (refine wpList_load_wd rfl 48 (.tmp 3) rfl w.heap.size rfl 48 (setBit l a 1) _ (heap_alloc2_old w _ _) Try.underlying48 rfl (by rw [HLen.out]; exact size46) ?_) | (refine wpList_store_wd rfl 48 (.tmp 6) (.tmp 24) rfl (w.heap.size + 1) (setBit l a 1) rfl rfl 48 _ (heap_alloc2_new w _ _) (by rw [HLen.out]; exact size46) (by rw [HLen.out]; rfl) ?_; intro w5 hg5 hb5))
    refine bodyPost_ret (v := .agg (wd (setBit l a 1))) ?_ rfl ⟨rfl, ((((Below.refl _ _).alloc (Nat.le_refl _) _).alloc (by simp) _).drew).grown hb5.out (by simp; omega) (fun k e => by cases e; simp)⟩
    exact results_cell_row rfl _ _ (w.heap.size + 1) 48 _ (0, 0) _ rfl hg5.out Try.underlying48 rfl (by rw [wd_size, HLen.out]; exact size46)

theorem convert_set {P : Program} {w : World} {g : Nat} (src dst e : TypeId) {cs : Array Value} (cap : Nat) (s : ByteArray) (a bit : Nat) (hi : a / 8 < s.size) (hs : P.underlying src = some (.slice e)) (he : P.underlying e = some (.int .u8)) (hd : P.underlying dst = some .string)
    (h : SRow w g e cs) (ht : cs.toList.take s.size = Lib.byteCells s.data.toList) :
    (convert src dst (.slice (some ⟨g, 0, none⟩) s.size cap)).run P (w.setCell ⟨g, a / 8, none⟩ (.int .u8 ((newB (s.data.toList[a / 8]?.getD 0) (a % 8) bit).toNat : Int))).drew =
      .ok (.string ⟨(setBit s.data.toList a bit).toArray⟩) (w.setCell ⟨g, a / 8, none⟩ (.int .u8 ((newB (s.data.toList[a / 8]?.getD 0) (a % 8) bit).toNat : Int))).drew := by
  refine convert_wd _ src dst e g cap s.size (setBit s.data.toList a bit) (by simp [setBit]) hs he hd (h.set (a / 8) _) ?_
  rw [Array.toList_setIfInBounds, take_set _ _ _ _ hi, ht, byteCells_set]
  rfl
set_option maxHeartbeats 1000000 in
theorem l1BitPut_any (s : ByteArray) (a : Nat) (bit : Int) (w : World) (hs : s.size ≤ 1600) (h1 : a < 8 * s.size) (hb : bit = 0 ∨ bit = 1) :
    Calls Try.prog 48 #[.string s, .int .i64 a, .int .i64 bit] w fun e w' => e = .returned (.string ⟨(setBit s.data.toList a bit.toNat).toArray⟩) ∧ Below w.heap.size w w' := by
  have h8 : a / 8 < s.size := by omega
  have hsl : s.data.toList.length = s.size := by simp
  obtain ⟨x, hx⟩ : ∃ x, s.data.toList[a / 8]?.getD 0 = x := ⟨_, rfl⟩
  have HX := Lib.hid hx
  have n0 := newB_0 x (a % 8) (by omega)
  have n1 := newB_1 x (a % 8) (by omega)
  have N0 := Lib.hid n0
  have N1 := Lib.hid n1
  clear n0 n1 hx hsl
  rcases hb with rfl | rfl
  · go_enter Try.func48, Try.ntmps48
    go_wp2_with (refine wpList_convert_bytes rfl 9 22 5 (.tmp 8) rfl s rfl Try.underlying9 Try.underlying22 Try.underlying5 ?_; intro c w1 cs hrow htk hbel hsz)
    have hc : w1.cell? ⟨w.heap.size, a / 8, none⟩ = some (.int .u8 (x.toNat : Int)) := by rw [← HX.out]; exact srow_cell hrow.out htk.out h8
    have hf : w1.frozen? ⟨w.heap.size, a / 8, none⟩ = false := hrow.out.frozen _ (srow_size hrow.out htk.out h8)
    go_region
    rw [N0.out]
    clear hc hf
    have hcv0 := convert_set (P := Try.prog) 22 9 5 c s a 0 h8 Try.underlying22 Try.underlying5 Try.underlying9 hrow.out htk.out
    rw [HX.out] at hcv0
    go_wp2
    go_ret
    exact ⟨rfl, (hbel.out.setCell (Nat.le_refl _) _).drew⟩
  · go_enter Try.func48, Try.ntmps48
    go_wp2_with (refine wpList_convert_bytes rfl 9 22 5 (.tmp 8) rfl s rfl Try.underlying9 Try.underlying22 Try.underlying5 ?_; intro c w1 cs hrow htk hbel hsz)
    have hc : w1.cell? ⟨w.heap.size, a / 8, none⟩ = some (.int .u8 (x.toNat : Int)) := by rw [← HX.out]; exact srow_cell hrow.out htk.out h8
    have hf : w1.frozen? ⟨w.heap.size, a / 8, none⟩ = false := hrow.out.frozen _ (srow_size hrow.out htk.out h8)
    go_region
    rw [wrap_pow _ (by omega), N1.out]
    clear hc hf
    have hcv0 := convert_set (P := Try.prog) 22 9 5 c s a 1 h8 Try.underlying22 Try.underlying5 Try.underlying9 hrow.out htk.out
    rw [HX.out] at hcv0
    go_wp2
    go_ret
    exact ⟨rfl, (hbel.out.setCell (Nat.le_refl _) _).drew⟩
/-- BitPut may put. -/
def bputOk (l : List UInt8) (at_ bit : Int) : Bool := decide (0 ≤ at_ ∧ at_ < 8 * l.length) && decide (bit = 0 ∨ bit = 1)
def bputT (l : List UInt8) (at_ bit : Int) : List UInt8 := if wordsB l.length = true then (if bputOk l at_ bit = true then setBit l at_.toNat bit.toNat else l) else []
def bputB (l : List UInt8) (at_ bit : Int) : Bool := wordsB l.length && bputOk l at_ bit
theorem inB_01 (n : Int) : inB n 0 1 = decide (n = 0 ∨ n = 1) := by rw [Bool.eq_iff_iff]; simp [inB]; omega
theorem ba_eta' (s : ByteArray) : (⟨s.data.toList.toArray⟩ : ByteArray) = s := by cases s; simp

set_option maxHeartbeats 1000000 in
theorem specBitPut_any (s : ByteArray) (at_ bit : Int) (w : World) (hs : s.size ≤ maxLen) :
    Calls Try.prog 19 #[.string s, .int .i64 at_, .int .i64 bit] w fun e w' =>
      e = .returned (.tuple #[.string ⟨(bputT s.data.toList at_ bit).toArray⟩, .bool (bputB s.data.toList at_ bit)]) ∧ Below w.heap.size w w' := by
  have hsl : s.data.toList.length = s.size := by simp
  have hb01 := inB_01 bit
  cases hw : wordsB s.size
  · have hT : bputT s.data.toList at_ bit = [] := by rw [bputT, hsl, hw, if_neg (by simp)]
    have hB : bputB s.data.toList at_ bit = false := by rw [bputB, hsl, hw, Bool.false_and]
    rw [hT, hB]
    clear hT hB hsl hb01
    go_enter Try.func19, Try.ntmps19
    go_wp2_with (first | (go_at_call 36; refine (l1Ok_any _ _ hs).mono ?_; rintro e w' ⟨rfl, rfl⟩))
    go_ret2
    exact ⟨rfl, Below.refl _ _⟩
  have hw8 : s.size % 8 = 0 ∧ s.size ≤ 1600 := by simpa [wordsB] using hw
  obtain ⟨hw1, hw2⟩ := hw8
  by_cases hok : bputOk s.data.toList at_ bit = true
  · have hT : bputT s.data.toList at_ bit = setBit s.data.toList at_.toNat bit.toNat := by rw [bputT, hsl, hw, hok, if_pos rfl, if_pos rfl]
    have hB : bputB s.data.toList at_ bit = true := by rw [bputB, hsl, hw, hok]; rfl
    have hk : (0 ≤ at_ ∧ at_ < 8 * s.size) ∧ (bit = 0 ∨ bit = 1) := by simpa [bputOk] using hok
    obtain ⟨⟨h0, h1⟩, hbit⟩ := hk
    obtain ⟨a, rfl⟩ := Int.eq_ofNat_of_zero_le h0
    have hlt : a < 8 * s.size := by omega
    have hin : inB bit 0 1 = true := by rw [hb01]; simpa using hbit
    rw [hT, hB]
    clear hT hB hok hsl hb01
    have HB := Lib.hid hbit
    clear hbit
    have hbit := HB
    go_enter Try.func19, Try.ntmps19
    go_wp2_with (first | (go_at_call 36; refine (l1Ok_any _ _ hs).mono ?_; rintro e w' ⟨rfl, rfl⟩) | (go_at_call 41; refine (l1In_any _ _ _ _).mono ?_; rintro e w' ⟨rfl, rfl⟩) | (go_at_call 48; go_must (refine (l1BitPut_any _ _ _ _ hw2 hlt hbit.out).mono ?_); rintro e w1 ⟨rfl, hb1⟩))
    go_ret2
    exact ⟨rfl, hb1⟩
  have hT : bputT s.data.toList at_ bit = s.data.toList := by rw [bputT, hsl, hw, if_pos rfl, if_neg hok]
  have hB : bputB s.data.toList at_ bit = false := by rw [bputB, Bool.eq_false_iff.2 hok, Bool.and_false]
  have hk : ¬ ((0 ≤ at_ ∧ at_ < 8 * s.size) ∧ (bit = 0 ∨ bit = 1)) := by simpa [bputOk] using hok
  rw [hT, hB, ba_eta']
  clear hT hB hok hsl
  by_cases h0 : at_ < 0
  · clear hk hb01
    go_enter Try.func19, Try.ntmps19
    go_wp2_with (first | (go_at_call 36; refine (l1Ok_any _ _ hs).mono ?_; rintro e w' ⟨rfl, rfl⟩))
    go_ret2
    exact ⟨rfl, Below.refl _ _⟩
  have h0 : 0 ≤ at_ := by omega
  by_cases h1 : 8 * (s.size : Int) ≤ at_
  · clear hk hb01
    go_enter Try.func19, Try.ntmps19
    go_wp2_with (first | (go_at_call 36; refine (l1Ok_any _ _ hs).mono ?_; rintro e w' ⟨rfl, rfl⟩))
    go_ret2
    exact ⟨rfl, Below.refl _ _⟩
  have h1 : at_ < 8 * (s.size : Int) := by omega
  have hin : inB bit 0 1 = false := by
    rw [hb01]
    simp
    omega
  clear hk hb01
  go_enter Try.func19, Try.ntmps19
  go_wp2_with (first | (go_at_call 36; refine (l1Ok_any _ _ hs).mono ?_; rintro e w' ⟨rfl, rfl⟩) | (go_at_call 41; refine (l1In_any _ _ _ _).mono ?_; rintro e w' ⟨rfl, rfl⟩))
  go_ret2
  exact ⟨rfl, Below.refl _ _⟩

/-- a bit put within one word of words. -/
theorem setBit_word (l : List UInt8) (a bit : Nat) (h : 8 * (a / 64) + 8 ≤ l.length) : putL l (8 * (a / 64)) (setBit ((l.drop (8 * (a / 64))).take 8) (a % 64) bit) = setBit l a bit := by
  have e0 : a / 8 = 8 * (a / 64) + a % 64 / 8 := by omega
  have e1 : a % 64 % 8 = a % 8 := by omega
  have hb : ((l.drop (8 * (a / 64))).take 8)[a % 64 / 8]?.getD 0 = l[a / 8]?.getD 0 := by
    rw [List.getElem?_take_of_lt (by omega), List.getElem?_drop, e0]
  rw [setBit, setBit, hb, e1]
  generalize newB (l[a / 8]?.getD 0) (a % 8) bit = x
  apply List.ext_getElem?
  intro j
  have hlen : (((l.drop (8 * (a / 64))).take 8).set (a % 64 / 8) x).length = 8 := by simp; omega
  rw [putL, hlen]
  by_cases h1 : j < 8 * (a / 64)
  · rw [List.getElem?_append_left (by simp; omega), List.getElem?_take_of_lt h1, List.getElem?_set_ne (by omega)]
  · rw [List.getElem?_append_right (by simp; omega), List.length_take, Nat.min_eq_left (by omega)]
    by_cases h2 : j < 8 * (a / 64) + 8
    · rw [List.getElem?_append_left (by rw [hlen]; omega), List.getElem?_set, List.getElem?_set, List.getElem?_take_of_lt (by omega), List.getElem?_drop, show 8 * (a / 64) + (j - 8 * (a / 64)) = j by omega]
      by_cases h3 : a / 8 = j
      · rw [if_pos (by omega), if_pos h3, if_pos (by simp; omega), if_pos (by omega)]
      · rw [if_neg (by omega), if_neg h3]
    · rw [List.getElem?_append_right (by rw [hlen]; omega), hlen, List.getElem?_drop, List.getElem?_set_ne (by omega)]
      congr 1
      omega

set_option maxHeartbeats 1000000 in
theorem implBitPut_any (s : ByteArray) (at_ bit : Int) (w : World) (hs : s.size ≤ maxLen) :
    Calls Try.prog 18 #[.string s, .int .i64 at_, .int .i64 bit] w fun e w' =>
      e = .returned (.tuple #[.string ⟨(bputT s.data.toList at_ bit).toArray⟩, .bool (bputB s.data.toList at_ bit)]) ∧ Below w.heap.size w w' := by
  have hsl : s.data.toList.length = s.size := by simp
  cases hw : wordsB s.size
  · have hT : bputT s.data.toList at_ bit = [] := by rw [bputT, hsl, hw, if_neg (by simp)]
    have hB : bputB s.data.toList at_ bit = false := by rw [bputB, hsl, hw, Bool.false_and]
    rw [hT, hB]
    clear hT hB hsl
    go_enter Try.func18, Try.ntmps18
    go_wp2_with (first | (go_at_call 30; refine (isWords_any _ _ hs).mono ?_; rintro e w' ⟨rfl, rfl⟩))
    go_ret2
    exact ⟨rfl, Below.refl _ _⟩
  have hw8 : s.size % 8 = 0 ∧ s.size ≤ 1600 := by simpa [wordsB] using hw
  obtain ⟨hw1, hw2⟩ := hw8
  by_cases hok : bputOk s.data.toList at_ bit = true
  · have hT : bputT s.data.toList at_ bit = setBit s.data.toList at_.toNat bit.toNat := by rw [bputT, hsl, hw, hok, if_pos rfl, if_pos rfl]
    have hB : bputB s.data.toList at_ bit = true := by rw [bputB, hsl, hw, hok]; rfl
    have hk : (0 ≤ at_ ∧ at_ < 8 * s.size) ∧ (bit = 0 ∨ bit = 1) := by simpa [bputOk] using hok
    obtain ⟨⟨h0, h1⟩, hbit⟩ := hk
    obtain ⟨a, rfl⟩ := Int.eq_ofNat_of_zero_le h0
    have hlt : a < 8 * s.size := by omega
    have hb : decide (0 ≤ (a : Int) ∧ (a : Int) < 8 * s.size) = true := by simp; omega
    have hlen : ((s.data.toList.drop (8 * (a / 64))).take 8).length = 8 := by simp; omega
    have HI := Lib.hid hb
    have HL := Lib.hid hlen
    have HB := Lib.hid hbit
    rw [hT, hB, show (a : Int).toNat = a from rfl, ← setBit_word s.data.toList a bit.toNat (by rw [hsl]; omega)]
    clear hT hB hok hsl hb hlen
    clear hbit
    obtain ⟨b, rfl⟩ : ∃ b : Nat, bit = b := ⟨bit.toNat, by rcases HB.out with h | h <;> omega⟩
    have hn : ((b : Int) != 0) = false ∨ (((b : Int) != 0) = true ∧ ((b : Int) != 1) = false) := by
      rcases HB.out with h | h
      · exact .inl (by simp; omega)
      · exact .inr (by simp; omega)
    have hpl : (setBit ((s.data.toList.drop (8 * (a / 64))).take 8) (a % 64) b).length = 8 := by rw [setBit, List.length_set, HL.out]
    have HP := Lib.hid hpl
    clear hpl
    rcases hn with n0 | ⟨n0, n1⟩
    all_goals
      go_enter Try.func18, Try.ntmps18
      go_wp2_with (first | (go_at_call 30; refine (isWords_any _ _ hs).mono ?_; rintro e w' ⟨rfl, rfl⟩) | (go_at_call 46; refine (isBit_any _ _ _ hw2).mono ?_; rw [HI.out]; rintro e w' ⟨rfl, rfl⟩) | (go_at_call 33; go_must (refine (wordAt_any s _ _ hs (by omega) (by omega)).mono ?_); rintro e w1 ⟨rfl, hb1⟩) | (go_at_call 47; go_must (refine (putBit_any _ _ _ _ (by exact HL.out) (by omega) (by omega) HB.out).mono ?_); rintro e w2 ⟨rfl, hb2⟩) | (refine wpList_store_wd rfl 48 (.tmp 8) (.tmp 32) rfl w2.heap.size (setBit ((s.data.toList.drop (8 * (a / 64))).take 8) (a % 64) b) rfl rfl 48 _ (heap_alloc_new w2 _) (by rw [HP.out]; exact size46) (by rw [HP.out]; rfl) ?_; intro w3 hg3 hb3) | (refine wpList_load_wd rfl 48 (.tmp 8) rfl w2.heap.size rfl 48 _ _ hg3.out Try.underlying48 rfl (by rw [HP.out]; exact size46) ?_) | (go_at_call 35; go_must (refine (withWord_any s _ _ _ hs (by omega) (by omega) HP.out).mono ?_); rintro e w4 ⟨rfl, hb4⟩))
      go_ret2
      refine ⟨rfl, ?_⟩
      have hB2 : Below w.heap.size w w2 := hb1.trans (hb2.mono hb1.size)
      exact ((hB2.alloc hB2.size _).grown hb3.out (by have := hB2.size; simp; omega) (fun k e => by cases e; exact hB2.size)).trans (hb4.mono (by have := hB2.size; have := hb3.out.size; simp at this; omega))
  have hT : bputT s.data.toList at_ bit = s.data.toList := by rw [bputT, hsl, hw, if_pos rfl, if_neg hok]
  have hB : bputB s.data.toList at_ bit = false := by rw [bputB, Bool.eq_false_iff.2 hok, Bool.and_false]
  have hk : ¬ ((0 ≤ at_ ∧ at_ < 8 * s.size) ∧ (bit = 0 ∨ bit = 1)) := by simpa [bputOk] using hok
  rw [hT, hB, ba_eta']
  clear hT hB hok hsl
  by_cases hi : 0 ≤ at_ ∧ at_ < 8 * s.size
  · have hb : decide (0 ≤ at_ ∧ at_ < 8 * s.size) = true := by simpa using hi
    have HI := Lib.hid hb
    have n0 : (bit != 0) = true := by simp; omega
    have n1 : (bit != 1) = true := by simp; omega
    clear hk hb hi
    go_enter Try.func18, Try.ntmps18
    go_wp2_with (first | (go_at_call 30; refine (isWords_any _ _ hs).mono ?_; rintro e w' ⟨rfl, rfl⟩) | (go_at_call 46; refine (isBit_any _ _ _ hw2).mono ?_; rw [HI.out]; rintro e w' ⟨rfl, rfl⟩))
    go_ret2
    exact ⟨rfl, Below.refl _ _⟩
  · have hb : decide (0 ≤ at_ ∧ at_ < 8 * s.size) = false := by simpa using hi
    have HI := Lib.hid hb
    clear hk hb hi
    go_enter Try.func18, Try.ntmps18
    go_wp2_with (first | (go_at_call 30; refine (isWords_any _ _ hs).mono ?_; rintro e w' ⟨rfl, rfl⟩) | (go_at_call 46; refine (isBit_any _ _ _ hw2).mono ?_; rw [HI.out]; rintro e w' ⟨rfl, rfl⟩))
    go_ret2
    exact ⟨rfl, Below.refl _ _⟩

end Go.Proofs.Ytliiffpegfkpbaa
