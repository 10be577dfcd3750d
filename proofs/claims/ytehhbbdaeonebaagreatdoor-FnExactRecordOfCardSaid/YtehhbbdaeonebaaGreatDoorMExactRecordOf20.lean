/- Texts of the proof of the law FnExactRecordOf, side by side: part 20. -/
import Derived.RegionTactic
import Derived.Test.YtehhbbdaeonebaaGreatDoorMExactRecordOf19
set_option maxHeartbeats 8000000
set_option maxRecDepth 100000
namespace Go.Proofs.YtehhbbdaeonebaaGreatDoor
open Go.RowKit
theorem putBit_any (l : List UInt8) (at_ bit : Int) (w : World) (hl : l.length = 8) (h0 : 0 ≤ at_) (h1 : at_ < 64) (hb : bit = 0 ∨ bit = 1) :
 Calls Tryz.prog 132 #[.agg (wd l), .int .i64 at_, .int .i64 bit] w fun e w' => e = .returned (.agg (wd (setBit l at_.toNat bit.toNat))) ∧ Below w.heap.size w w' := by
 obtain ⟨a, rfl⟩ := Int.eq_ofNat_of_zero_le h0
 have hc1 := wd_cell w l 167 (a / 8) (by omega)
 have hc : ∀ o : Obj, ((w.alloc (.cells (wd l) 167)).alloc o).cell? ⟨w.heap.size, a / 8, none⟩ = some (.int .u8 ((l[a / 8]?.getD 0).toNat : Int)) := fun o =>
  (World.cell?_alloc_lt _ _ _ (by simp)).trans hc1
 have hf : ∀ o : Obj, ((w.alloc (.cells (wd l) 167)).alloc o).frozen? ⟨w.heap.size, a / 8, none⟩ = false := fun o =>
  frozen_row (heap_alloc_keep (heap_alloc_new w _) o) _
 clear hc1
 have n0 := newB_0 (l[a / 8]?.getD 0) (a % 8) (by omega)
 have n1 := newB_1 (l[a / 8]?.getD 0) (a % 8) (by omega)
 have hv := fun bit : Nat => wd_set l (a / 8) (newB (l[a / 8]?.getD 0) (a % 8) bit)
 have hlen : ∀ bit : Nat, (setBit l a bit).length = 8 := fun bit => by simp [setBit, hl]
 have HLen := Lib.hid hlen
 have HV := Lib.hid hv
 have N0 := Lib.hid n0
 have N1 := Lib.hid n1
 clear hl n0 n1 hv hlen
 rcases hb with rfl | rfl
 · go_enter Tryz.func132, Tryz.ntmps132
   go_wp2
   go_region
   rw [N0.out, HV.out]
   clear hc hf
   go_wp2_with (first | (refine wpList_load_wd rfl 167 (.tmp 3) rfl w.heap.size rfl 167 (setBit l a 0) _ (heap_alloc2_old w _ _) Tryz.underlying167 rfl (by rw [HLen.out]; exact size46) ?_) | (refine wpList_store_wd rfl 167 (.tmp 6) (.tmp 24) rfl (w.heap.size + 1) (setBit l a 0) rfl rfl 167 _ (heap_alloc2_new w _ _) (by rw [HLen.out]; exact size46) (by rw [HLen.out]; rfl) ?_; intro w5 hg5 hb5))
   refine bodyPost_ret (v := .agg (wd (setBit l a 0))) ?_ rfl ⟨rfl, ((((Below.refl _ _).alloc (Nat.le_refl _) _).alloc (by simp) _).drew).grown hb5.out (by simp; omega) (fun k e => by cases e; simp)⟩
   exact results_cell_row rfl _ _ (w.heap.size + 1) 167 _ (0, 0) _ rfl hg5.out Tryz.underlying167 rfl (by rw [wd_size, HLen.out]; exact size46)
 · go_enter Tryz.func132, Tryz.ntmps132
   go_wp2
   go_region
   rw [N1.out, HV.out]
   clear hc hf
   go_wp2_with (first | (refine wpList_load_wd rfl 167 (.tmp 3) rfl w.heap.size rfl 167 (setBit l a 1) _ (heap_alloc2_old w _ _) Tryz.underlying167 rfl (by rw [HLen.out]; exact size46) ?_) | (refine wpList_store_wd rfl 167 (.tmp 6) (.tmp 24) rfl (w.heap.size + 1) (setBit l a 1) rfl rfl 167 _ (heap_alloc2_new w _ _) (by rw [HLen.out]; exact size46) (by rw [HLen.out]; rfl) ?_; intro w5 hg5 hb5))
   refine bodyPost_ret (v := .agg (wd (setBit l a 1))) ?_ rfl ⟨rfl, ((((Below.refl _ _).alloc (Nat.le_refl _) _).alloc (by simp) _).drew).grown hb5.out (by simp; omega) (fun k e => by cases e; simp)⟩
   exact results_cell_row rfl _ _ (w.heap.size + 1) 167 _ (0, 0) _ rfl hg5.out Tryz.underlying167 rfl (by rw [wd_size, HLen.out]; exact size46)
theorem convert_set {P : Program} {w : World} {g : Nat} (src dst e : TypeId) {cs : Array Value} (cap : Nat) (s : ByteArray) (a bit : Nat) (hi : a / 8 < s.size) (hs : P.underlying src = some (.slice e)) (he : P.underlying e = some (.int .u8)) (hd : P.underlying dst = some .string)
 (h : SRow w g e cs) (ht : cs.toList.take s.size = Lib.byteCells s.data.toList) :
 (convert src dst (.slice (some ⟨g, 0, none⟩) s.size cap)).run P (w.setCell ⟨g, a / 8, none⟩ (.int .u8 ((newB (s.data.toList[a / 8]?.getD 0) (a % 8) bit).toNat : Int))).drew =
  .ok (.string ⟨(setBit s.data.toList a bit).toArray⟩) (w.setCell ⟨g, a / 8, none⟩ (.int .u8 ((newB (s.data.toList[a / 8]?.getD 0) (a % 8) bit).toNat : Int))).drew := by
 refine convert_wd _ src dst e g cap s.size (setBit s.data.toList a bit) (by simp [setBit]) hs he hd (h.set (a / 8) _) ?_
 rw [Array.toList_setIfInBounds, take_set _ _ _ _ hi, ht, byteCells_set]
 rfl
theorem l1BitPut_any (s : ByteArray) (a : Nat) (bit : Int) (w : World) (hs : s.size ≤ 1600) (h1 : a < 8 * s.size) (hb : bit = 0 ∨ bit = 1) :
 Calls Tryz.prog 89 #[.string s, .int .i64 a, .int .i64 bit] w fun e w' => e = .returned (.string ⟨(setBit s.data.toList a bit.toNat).toArray⟩) ∧ Below w.heap.size w w' := by
 have h8 : a / 8 < s.size := by omega
 have hsl : s.data.toList.length = s.size := by simp
 obtain ⟨x, hx⟩ : ∃ x, s.data.toList[a / 8]?.getD 0 = x := ⟨_, rfl⟩
 have HX := Lib.hid hx
 have n0 := newB_0 x (a % 8) (by omega)
 have n1 := newB_1 x (a % 8) (by omega)
 have N0 := Lib.hid n0
 have N1 := Lib.hid n1
 clear n0 n1 hx hsl
 rcases hb with rfl | rfl
 · go_enter Tryz.func89, Tryz.ntmps89
   go_wp2_with (refine wpList_convert_bytes rfl 9 123 5 (.tmp 8) rfl s rfl Tryz.underlying9 Tryz.underlying123 Tryz.underlying5 ?_; intro c w1 cs hrow htk hbel hsz)
   have hc : w1.cell? ⟨w.heap.size, a / 8, none⟩ = some (.int .u8 (x.toNat : Int)) := by rw [← HX.out]; exact srow_cell hrow.out htk.out h8
   have hf : w1.frozen? ⟨w.heap.size, a / 8, none⟩ = false := hrow.out.frozen _ (srow_size hrow.out htk.out h8)
   go_region
   rw [N0.out]
   clear hc hf
   have hcv0 := convert_set (P := Tryz.prog) 123 9 5 c s a 0 h8 Tryz.underlying123 Tryz.underlying5 Tryz.underlying9 hrow.out htk.out
   rw [HX.out] at hcv0
   go_wp2
   go_ret
   exact ⟨rfl, (hbel.out.setCell (Nat.le_refl _) _).drew⟩
 · go_enter Tryz.func89, Tryz.ntmps89
   go_wp2_with (refine wpList_convert_bytes rfl 9 123 5 (.tmp 8) rfl s rfl Tryz.underlying9 Tryz.underlying123 Tryz.underlying5 ?_; intro c w1 cs hrow htk hbel hsz)
   have hc : w1.cell? ⟨w.heap.size, a / 8, none⟩ = some (.int .u8 (x.toNat : Int)) := by rw [← HX.out]; exact srow_cell hrow.out htk.out h8
   have hf : w1.frozen? ⟨w.heap.size, a / 8, none⟩ = false := hrow.out.frozen _ (srow_size hrow.out htk.out h8)
   go_region
   rw [wrap_pow _ (by omega), N1.out]
   clear hc hf
   have hcv0 := convert_set (P := Tryz.prog) 123 9 5 c s a 1 h8 Tryz.underlying123 Tryz.underlying5 Tryz.underlying9 hrow.out htk.out
   rw [HX.out] at hcv0
   go_wp2
   go_ret
   exact ⟨rfl, (hbel.out.setCell (Nat.le_refl _) _).drew⟩
def bputOk (l : List UInt8) (at_ bit : Int) : Bool := decide (0 ≤ at_ ∧ at_ < 8 * l.length) && decide (bit = 0 ∨ bit = 1)
def bputT (l : List UInt8) (at_ bit : Int) : List UInt8 := if wordsB l.length = true then (if bputOk l at_ bit = true then setBit l at_.toNat bit.toNat else l) else []
def bputB (l : List UInt8) (at_ bit : Int) : Bool := wordsB l.length && bputOk l at_ bit
theorem ba_eta' (s : ByteArray) : (⟨s.data.toList.toArray⟩ : ByteArray) = s := by cases s; simp
theorem setBit_word (l : List UInt8) (a bit : Nat) (h : 8 * (a / 64) + 8 ≤ l.length) : putL l (8 * (a / 64)) (setBit ((l.drop (8 * (a / 64))).take 8) (a % 64) bit) = setBit l a bit := by
 have e0 : a / 8 = 8 * (a / 64) + a % 64 / 8 := by omega
 have e1 : a % 64 % 8 = a % 8 := by omega
 have hb : ((l.drop (8 * (a / 64))).take 8)[a % 64 / 8]?.getD 0 = l[a / 8]?.getD 0 := by
  rw [List.getElem?_take_of_lt (by omega), List.getElem?_drop, e0]
 rw [setBit, setBit, hb, e1]
 generalize newB (l[a / 8]?.getD 0) (a % 8) bit = x
 apply List.ext_getElem?
 intro j
 have hlen : (((l.drop (8 * (a / 64))).take 8).set (a % 64 / 8) x).length = 8 := by simp; omega
 rw [putL, hlen]
 by_cases h1 : j < 8 * (a / 64)
 · rw [List.getElem?_append_left (by simp; omega), List.getElem?_take_of_lt h1, List.getElem?_set_ne (by omega)]
 · rw [List.getElem?_append_right (by simp; omega), List.length_take, Nat.min_eq_left (by omega)]
   by_cases h2 : j < 8 * (a / 64) + 8
   · rw [List.getElem?_append_left (by rw [hlen]; omega), List.getElem?_set, List.getElem?_set, List.getElem?_take_of_lt (by omega), List.getElem?_drop, show 8 * (a / 64) + (j - 8 * (a / 64)) = j by omega]
     by_cases h3 : a / 8 = j
     · rw [if_pos (by omega), if_pos h3, if_pos (by simp; omega), if_pos (by omega)]
     · rw [if_neg (by omega), if_neg h3]
   · rw [List.getElem?_append_right (by rw [hlen]; omega), hlen, List.getElem?_drop, List.getElem?_set_ne (by omega)]
     congr 1
     omega
theorem implBitPut_any (s : ByteArray) (at_ bit : Int) (w : World) (hs : s.size ≤ maxLen) :
 Calls Tryz.prog 111 #[.string s, .int .i64 at_, .int .i64 bit] w fun e w' =>
  e = .returned (.tuple #[.string ⟨(bputT s.data.toList at_ bit).toArray⟩, .bool (bputB s.data.toList at_ bit)]) ∧ Below w.heap.size w w' := by
 have hsl : s.data.toList.length = s.size := by simp
 cases hw : wordsB s.size
 · have hT : bputT s.data.toList at_ bit = [] := by rw [bputT, hsl, hw, if_neg (by simp)]
   have hB : bputB s.data.toList at_ bit = false := by rw [bputB, hsl, hw, Bool.false_and]
   rw [hT, hB]
   clear hT hB hsl
   go_enter Tryz.func111, Tryz.ntmps111
   go_wp2_with (first | (go_at_call 128; refine (isWords_any _ _ hs).mono ?_; rintro e w' ⟨rfl, rfl⟩))
   go_ret2
   exact ⟨rfl, Below.refl _ _⟩
 have hw8 : s.size % 8 = 0 ∧ s.size ≤ 1600 := by simpa [wordsB] using hw
 obtain ⟨hw1, hw2⟩ := hw8
 by_cases hok : bputOk s.data.toList at_ bit = true
 · have hT : bputT s.data.toList at_ bit = setBit s.data.toList at_.toNat bit.toNat := by rw [bputT, hsl, hw, hok, if_pos rfl, if_pos rfl]
   have hB : bputB s.data.toList at_ bit = true := by rw [bputB, hsl, hw, hok]; rfl
   have hk : (0 ≤ at_ ∧ at_ < 8 * s.size) ∧ (bit = 0 ∨ bit = 1) := by simpa [bputOk] using hok
   obtain ⟨⟨h0, h1⟩, hbit⟩ := hk
   obtain ⟨a, rfl⟩ := Int.eq_ofNat_of_zero_le h0
   have hlt : a < 8 * s.size := by omega
   have hb : decide (0 ≤ (a : Int) ∧ (a : Int) < 8 * s.size) = true := by simp; omega
   have hlen : ((s.data.toList.drop (8 * (a / 64))).take 8).length = 8 := by simp; omega
   have HI := Lib.hid hb
   have HL := Lib.hid hlen
   have HB := Lib.hid hbit
   rw [hT, hB, show (a : Int).toNat = a from rfl, ← setBit_word s.data.toList a bit.toNat (by rw [hsl]; omega)]
   clear hT hB hok hsl hb hlen
   clear hbit
   obtain ⟨b, rfl⟩ : ∃ b : Nat, bit = b := ⟨bit.toNat, by rcases HB.out with h | h <;> omega⟩
   have hn : ((b : Int) != 0) = false ∨ (((b : Int) != 0) = true ∧ ((b : Int) != 1) = false) := by
    rcases HB.out with h | h
    · exact .inl (by simp; omega)
    · exact .inr (by simp; omega)
   have hpl : (setBit ((s.data.toList.drop (8 * (a / 64))).take 8) (a % 64) b).length = 8 := by rw [setBit, List.length_set, HL.out]
   have HP := Lib.hid hpl
   clear hpl
   rcases hn with n0 | ⟨n0, n1⟩
   all_goals
    go_enter Tryz.func111, Tryz.ntmps111
    go_wp2_with (first | (go_at_call 128; refine (isWords_any _ _ hs).mono ?_; rintro e w' ⟨rfl, rfl⟩) | (go_at_call 129; refine (isBit_any _ _ _ hw2).mono ?_; rw [HI.out]; rintro e w' ⟨rfl, rfl⟩) | (go_at_call 130; go_must (refine (wordAt_any s _ _ hs (by omega) (by omega)).mono ?_); rintro e w1 ⟨rfl, hb1⟩) | (go_at_call 132; go_must (refine (putBit_any _ _ _ _ (by exact HL.out) (by omega) (by omega) HB.out).mono ?_); rintro e w2 ⟨rfl, hb2⟩) | (refine wpList_store_wd rfl 167 (.tmp 8) (.tmp 32) rfl w2.heap.size (setBit ((s.data.toList.drop (8 * (a / 64))).take 8) (a % 64) b) rfl rfl 167 _ (heap_alloc_new w2 _) (by rw [HP.out]; exact size46) (by rw [HP.out]; rfl) ?_; intro w3 hg3 hb3) | (refine wpList_load_wd rfl 167 (.tmp 8) rfl w2.heap.size rfl 167 _ _ hg3.out Tryz.underlying167 rfl (by rw [HP.out]; exact size46) ?_) | (go_at_call 133; go_must (refine (withWord_any s _ _ _ hs (by omega) (by omega) HP.out).mono ?_); rintro e w4 ⟨rfl, hb4⟩))
    go_ret2
    refine ⟨rfl, ?_⟩
    have hB2 : Below w.heap.size w w2 := hb1.trans (hb2.mono hb1.size)
    exact ((hB2.alloc hB2.size _).grown hb3.out (by have := hB2.size; simp; omega) (fun k e => by cases e; exact hB2.size)).trans (hb4.mono (by have := hB2.size; have := hb3.out.size; simp at this; omega))
 have hT : bputT s.data.toList at_ bit = s.data.toList := by rw [bputT, hsl, hw, if_pos rfl, if_neg hok]
 have hB : bputB s.data.toList at_ bit = false := by rw [bputB, Bool.eq_false_iff.2 hok, Bool.and_false]
 have hk : ¬ ((0 ≤ at_ ∧ at_ < 8 * s.size) ∧ (bit = 0 ∨ bit = 1)) := by simpa [bputOk] using hok
 rw [hT, hB, ba_eta']
 clear hT hB hok hsl
 by_cases hi : 0 ≤ at_ ∧ at_ < 8 * s.size
 · have hb : decide (0 ≤ at_ ∧ at_ < 8 * s.size) = true := by simpa using hi
   have HI := Lib.hid hb
   have n0 : (bit != 0) = true := by simp; omega
   have n1 : (bit != 1) = true := by simp; omega
   clear hk hb hi
   go_enter Tryz.func111, Tryz.ntmps111
   go_wp2_with (first | (go_at_call 128; refine (isWords_any _ _ hs).mono ?_; rintro e w' ⟨rfl, rfl⟩) | (go_at_call 129; refine (isBit_any _ _ _ hw2).mono ?_; rw [HI.out]; rintro e w' ⟨rfl, rfl⟩))
   go_ret2
   exact ⟨rfl, Below.refl _ _⟩
 · have hb : decide (0 ≤ at_ ∧ at_ < 8 * s.size) = false := by simpa using hi
   have HI := Lib.hid hb
   clear hk hb hi
   go_enter Tryz.func111, Tryz.ntmps111
   go_wp2_with (first | (go_at_call 128; refine (isWords_any _ _ hs).mono ?_; rintro e w' ⟨rfl, rfl⟩) | (go_at_call 129; refine (isBit_any _ _ _ hw2).mono ?_; rw [HI.out]; rintro e w' ⟨rfl, rfl⟩))
   go_ret2
   exact ⟨rfl, Below.refl _ _⟩
open Go.RowKit Go.Deep
structure Vl where
 num : Int
 nd : Nd
structure RSt where
 d : List UInt8
 p : List Nd
def wrF (f : Fld) (s : Nat) (n : Int) (D : List UInt8) : List UInt8 := if f.size = 1 then bputT D (s : Int) (xorI n f.els) else putT D ((s : Int) * wdF f.size) (wdF f.size) (xorI n f.els)
def tgF (l : List Fld) (k : Nat) (D : List UInt8) : List UInt8 := if tellsB l k = true then putT D (tagL l * 2) 2 (plcN l k : Int) else D
def setF (l : List Fld) (k : Nat) (v : Vl) (st : RSt) : RSt := if (fldK l k).size = 6 then ⟨tgF l k st.d, st.p.set (atF l k) v.nd⟩ else ⟨wrF (fldK l k) (atF l k) v.num (tgF l k st.d), st.p⟩
def pickB (l : List Fld) (k : Nat) (ch : Int) : Bool := !(fldK l k).choice || decide ((plcN l k : Int) = ch)
def vlK (vs : List Vl) (k : Nat) : Vl := vs[k]?.getD ⟨0, noneNd⟩
def fillF (l : List Fld) (vs : List Vl) (ch : Int) : Nat → RSt
 | 0 => ⟨List.replicate (8 * (layF l ps0).2.ls.words) 0, List.replicate (layF l ps0).2.ptrs noneNd⟩
 | k + 1 => if pickB l k ch = true then setF l k (vlK vs k) (fillF l vs ch k) else fillF l vs ch k
def recNd (D : ByteArray) (p : List Nd) : Nd := .mk 1 D p 0 0 []
def recN (st : RSt) : Nd := recNd ⟨st.d.toArray⟩ st.p
def valB (f : Fld) (v : Vl) : Bool := if f.size = 6 then (decide (v.num = 0) && nodeOk v.nd) else (fitB f.size v.num && (decide (v.nd.kind = 0) && nodeOk v.nd))
def valsB (l : List Fld) (vs : List Vl) : Nat → Bool
 | 0 => true
 | k + 1 => valsB l vs k && valB (fldK l k) (vlK vs k)
def chB (l : List Fld) (ch : Int) : Bool := if plcN l l.length = 0 then decide (ch = -1) else withB ch (plcN l l.length : Int)
def roB (l : List Fld) (vs : List Vl) (ch : Int) : Bool := fldsOk l && ((decide (vs.length = l.length) && valsB l vs l.length) && (chB l ch && nodeOk (recN (fillF l vs ch l.length))))
def roN (l : List Fld) (vs : List Vl) (ch : Int) : Nd := if roB l vs ch = true then recN (fillF l vs ch l.length) else noneNd
structure VAt (w : World) (S : Nat → Prop) (m : Nat) (p : Addr) (v : Vl) (h : Hd) : Prop where
 num : w.cell? p = some (.int .i64 v.num)
 cell : NdCell w ⟨p.block, p.off + 1, none⟩ v.nd h
 nd : NdAt w S m v.nd h
def ValsAt (w : World) (S : Nat → Prop) (m : Nat) (A : Option Addr) (vs : List Vl) : Prop :=
 vs = [] ∨ ∃ x, A = some x ∧ x.block < w.heap.size ∧ ∀ i (hi : i < vs.length), ∃ h, VAt w S m (x.add (i * 7)) vs[i] h
theorem VAt.below {w w' : World} {S : Nat → Prop} {m : Nat} {p : Addr} {v : Vl} {h : Hd} (a : VAt w S m p v h) (hb : Below w.heap.size w w') : VAt w' S m p v h :=
 ⟨(hb.cell (p := p) (World.block_lt_of_cell? w _ a.num)).trans a.num, a.cell.block (hb.block _ a.cell.lt), a.nd.below hb⟩
theorem ValsAt.below {w w' : World} {S : Nat → Prop} {m : Nat} {A : Option Addr} {vs : List Vl} (a : ValsAt w S m A vs) (hb : Below w.heap.size w w') : ValsAt w' S m A vs := by
 rcases a with a | ⟨x, rfl, hx, h⟩
 · exact .inl a
 · exact .inr ⟨x, rfl, Nat.lt_of_lt_of_le hx hb.size, fun i hi => by obtain ⟨hh, hv⟩ := h i hi; exact ⟨hh, hv.below hb⟩⟩
theorem ValsAt.at_ {w : World} {S : Nat → Prop} {m : Nat} {A : Option Addr} {vs : List Vl} (a : ValsAt w S m A vs) {i : Nat} (hi : i < vs.length) : ∃ x h, A = some x ∧ x.block < w.heap.size ∧ VAt w S m (x.add (i * 7)) vs[i] h := by
 rcases a with a | ⟨x, rfl, hx, h⟩
 · rw [a] at hi; exact absurd hi (Nat.not_lt_zero _)
 · obtain ⟨hh, hv⟩ := h i hi
   exact ⟨x, hh, rfl, hx, hv⟩
theorem vlK_at {vs : List Vl} {k : Nat} (h : k < vs.length) : vlK vs k = vs[k] := by unfold vlK; rw [List.getElem?_eq_getElem h]; rfl
theorem row_put6 (q : List (Nd × Hd)) (k : Nat) (hk : k < q.length) (r : Nd × Hd) :
 ((((((rowOf q).toArray.setIfInBounds (k * 6) (cellE r 0)).setIfInBounds (k * 6 + 1) (cellE r 1)).setIfInBounds (k * 6 + 2) (cellE r 2)).setIfInBounds (k * 6 + 3) (cellE r 3)).setIfInBounds (k * 6 + 4) (cellE r 4)).setIfInBounds (k * 6 + 5) (cellE r 5) = (rowOf (q.set k r)).toArray := by
 have hl : (rowOf q).length = q.length * 6 := by
  clear hk
  induction q with
  | nil => rfl
  | cons a t ih => show (rowOf t).length + 1 + 1 + 1 + 1 + 1 + 1 = _; rw [ih, List.length_cons]; omega
 apply Array.ext_getElem?
 intro j
 simp only [Array.getElem?_setIfInBounds, Array.size_setIfInBounds, List.size_toArray, List.getElem?_toArray, rowOf_get, List.getElem?_set, hl]
 by_cases hj : j / 6 = k
 · subst hj
   have hm : j % 6 = 0 ∨ j % 6 = 1 ∨ j % 6 = 2 ∨ j % 6 = 3 ∨ j % 6 = 4 ∨ j % 6 = 5 := by omega
   rw [if_pos rfl, if_pos hk]
   rcases hm with e | e | e | e | e | e <;> (rw [e]; simp only [Option.map_some]) <;> repeat (first | rfl | (rw [if_pos (by omega)]) | (rw [if_neg (by omega)]))
 · rw [if_neg (by omega), if_neg (by omega), if_neg (by omega), if_neg (by omega), if_neg (by omega), if_neg (by omega), if_neg (fun e => hj e.symm)]
end Go.Proofs.YtehhbbdaeonebaaGreatDoor
