/- Texts of the proof of the law FnRecordGet, side by side: part 12. -/
import Derived.Deep.RegionHeld3
import Derived.Test.YtblcibgphccfkaaGreatDoorMRecordGet11
set_option maxHeartbeats 8000000
set_option maxRecDepth 100000
namespace Go.Proofs.YtblcibgphccfkaaGreatDoor
open Go.RowKit
def bitN (l : List UInt8) (i : Nat) : Nat := (l[i / 8]?.getD 0).toNat / 2 ^ (i % 8) % 2
theorem bit_any (l : List UInt8) (at_ : Int) (w : World) (hl : l.length = 8) (h0 : 0 ≤ at_) (h1 : at_ < 64) :
 Calls Tryz.prog 149 #[.agg (wd l), .int .i64 at_] w fun e w' => e = .returned (.int .i64 (bitN l at_.toNat : Nat)) ∧ Below w.heap.size w w' := by
 obtain ⟨a, rfl⟩ := Int.eq_ofNat_of_zero_le h0
 have hc := wd_cell w l 180 (a / 8) (by omega)
 have HL := Lib.hid hl
 clear hl
 go_enter Tryz.func149, Tryz.ntmps149
 go_wp2
 go_ret
 refine ⟨ret_int ?_, (Below.refl _ _).alloc (Nat.le_refl _) _⟩
 rw [bit_u8 _ _ (byte_lt l _)]
 rfl
theorem isBit_any (s : ByteArray) (at_ : Int) (w : World) (hs : s.size ≤ 1600) :
 Calls Tryz.prog 147 #[.string s, .int .i64 at_] w fun e w' => e = .returned (.bool (decide (0 ≤ at_ ∧ at_ < 8 * s.size))) ∧ w = w' := by
 by_cases h1 : 0 ≤ at_
 all_goals
  go_enter Tryz.func147, Tryz.ntmps147
  go_wp2
  all_goals go_ret
  all_goals refine ⟨ret_bool ?_, rfl⟩
  all_goals (rw [Bool.eq_iff_iff]; simp; omega)
theorem specBitGet_yes (s : ByteArray) (a : Nat) (w : World) (hs : s.size ≤ maxLen) (hw : wordsB s.size = true) (hin : a < 8 * s.size) (h16 : s.size ≤ 1600) :
 Calls Tryz.prog 66 #[.string s, .int .i64 a] w fun e w' => e = .returned (.int .i64 (bitN s.data.toList a : Nat)) ∧ w = w' := by
 have h8 : a / 8 < s.size := by omega
 go_enter Tryz.func66, Tryz.ntmps66
 go_wp2_with (first | (go_at_call 104; refine (l1Ok_any _ _ hs).mono ?_; rintro e w' ⟨rfl, rfl⟩))
 go_ret
 refine ⟨ret_int ?_, rfl⟩
 rw [bit_i64 _ _ (s[a / 8]).toNat_lt, bitN, bytes_get s _ h8]
def bitB (l : List UInt8) (at_ : Int) : Bool := wordsB l.length && decide (0 ≤ at_ ∧ at_ < 8 * l.length)
def bitI (l : List UInt8) (at_ : Int) : Int := if bitB l at_ = true then (bitN l at_.toNat : Nat) else 0
theorem specBitGet_any (s : ByteArray) (at_ : Int) (w : World) (hs : s.size ≤ maxLen) :
 Calls Tryz.prog 66 #[.string s, .int .i64 at_] w fun e w' => e = .returned (.int .i64 (bitI s.data.toList at_)) ∧ w = w' := by
 have hsl : s.data.toList.length = s.size := by simp
 cases hw : wordsB s.size
 · have hG : bitI s.data.toList at_ = 0 := by rw [bitI, bitB, hsl, hw, if_neg (by simp)]
   rw [hG]
   clear hG hsl
   go_enter Tryz.func66, Tryz.ntmps66
   go_wp2_with (first | (go_at_call 104; refine (l1Ok_any _ _ hs).mono ?_; rintro e w' ⟨rfl, rfl⟩))
   go_ret
   exact ⟨rfl, rfl⟩
 have hw8 : s.size % 8 = 0 ∧ s.size ≤ 1600 := by simpa [wordsB] using hw
 obtain ⟨hw1, hw2⟩ := hw8
 by_cases h0 : at_ < 0
 · have hG : bitI s.data.toList at_ = 0 := by rw [bitI, if_neg (by simp [bitB]; intros; omega)]
   rw [hG]
   clear hG hsl
   go_enter Tryz.func66, Tryz.ntmps66
   go_wp2_with (first | (go_at_call 104; refine (l1Ok_any _ _ hs).mono ?_; rintro e w' ⟨rfl, rfl⟩))
   go_ret
   exact ⟨rfl, rfl⟩
 obtain ⟨a, rfl⟩ := Int.eq_ofNat_of_zero_le (show 0 ≤ at_ by omega)
 by_cases h1 : a < 8 * s.size
 · have hG : bitI s.data.toList a = (bitN s.data.toList a : Nat) := by rw [bitI, bitB, hsl, hw, if_pos (by simp; omega)]; rfl
   rw [hG]
   exact specBitGet_yes s a w hs hw h1 hw2
 · have hG : bitI s.data.toList a = 0 := by rw [bitI, bitB, hsl, if_neg (by simp; intros; omega)]
   rw [hG]
   clear hG hsl
   go_enter Tryz.func66, Tryz.ntmps66
   go_wp2_with (first | (go_at_call 104; refine (l1Ok_any _ _ hs).mono ?_; rintro e w' ⟨rfl, rfl⟩))
   go_ret
   exact ⟨rfl, rfl⟩
theorem bitN_word (l : List UInt8) (a : Nat) : bitN ((l.drop (8 * (a / 64))).take 8) (a % 64) = bitN l a := by
 rw [bitN, bitN, List.getElem?_take_of_lt (by omega), List.getElem?_drop, show 8 * (a / 64) + a % 64 / 8 = a / 8 by omega, show a % 64 % 8 = a % 8 by omega]
theorem implBitGet_any (s : ByteArray) (at_ : Int) (w : World) (hs : s.size ≤ maxLen) :
 Calls Tryz.prog 125 #[.string s, .int .i64 at_] w fun e w' => e = .returned (.int .i64 (bitI s.data.toList at_)) ∧ Below w.heap.size w w' := by
 have hsl : s.data.toList.length = s.size := by simp
 cases hw : wordsB s.size
 · have hG : bitI s.data.toList at_ = 0 := by rw [bitI, bitB, hsl, hw, if_neg (by simp)]
   rw [hG]
   clear hG hsl
   go_enter Tryz.func125, Tryz.ntmps125
   go_wp2_with (first | (go_at_call 142; refine (isWords_any _ _ hs).mono ?_; rintro e w' ⟨rfl, rfl⟩))
   go_ret
   exact ⟨rfl, Below.refl _ _⟩
 have hw8 : s.size % 8 = 0 ∧ s.size ≤ 1600 := by simpa [wordsB] using hw
 obtain ⟨hw1, hw2⟩ := hw8
 by_cases hin : 0 ≤ at_ ∧ at_ < 8 * s.size
 · obtain ⟨a, rfl⟩ := Int.eq_ofNat_of_zero_le hin.1
   have hlt : a < 8 * s.size := by omega
   have hG : bitI s.data.toList a = (bitN ((s.data.toList.drop (8 * (a / 64))).take 8) (a % 64) : Nat) := by rw [bitI, bitB, hsl, hw, if_pos (by simp; omega), bitN_word]; rfl
   have hlen : ((s.data.toList.drop (8 * (a / 64))).take 8).length = 8 := by simp; omega
   have hb : decide (0 ≤ (a : Int) ∧ (a : Int) < 8 * s.size) = true := by simp; omega
   have HI := Lib.hid hb
   have HL := Lib.hid hlen
   rw [hG]
   clear hG hsl hlen hin hb
   go_enter Tryz.func125, Tryz.ntmps125
   go_wp2_with (first | (go_at_call 142; refine (isWords_any _ _ hs).mono ?_; rintro e w' ⟨rfl, rfl⟩) | (go_at_call 147; refine (isBit_any _ _ _ hw2).mono ?_; rw [HI.out]; rintro e w' ⟨rfl, rfl⟩) | (go_at_call 148; go_must (refine (wordAt_any s _ _ hs (by omega) (by omega)).mono ?_); rintro e w1 ⟨rfl, hb1⟩) | (go_at_call 149; go_must (refine (bit_any _ _ _ (by exact HL.out) (by omega) (by omega)).mono ?_); rintro e w2 ⟨rfl, hb2⟩))
   go_ret
   exact ⟨rfl, hb1.trans (hb2.mono hb1.size)⟩
 · have hG : bitI s.data.toList at_ = 0 := by rw [bitI, bitB, hsl, if_neg (by simp; intros; omega)]
   have hb : decide (0 ≤ at_ ∧ at_ < 8 * s.size) = false := by simpa using hin
   have HI := Lib.hid hb
   rw [hG]
   clear hG hsl hin hb
   go_enter Tryz.func125, Tryz.ntmps125
   go_wp2_with (first | (go_at_call 142; refine (isWords_any _ _ hs).mono ?_; rintro e w' ⟨rfl, rfl⟩) | (go_at_call 147; refine (isBit_any _ _ _ hw2).mono ?_; rw [HI.out]; rintro e w' ⟨rfl, rfl⟩))
   go_ret
   exact ⟨rfl, Below.refl _ _⟩
open Go.RowKit Go.Deep
abbrev byR (n : Nd) : List UInt8 := n.data.data.toList
def plcN (l : List Fld) (k : Nat) : Nat := (l.take k).countP (fun f => f.choice)
def wdF (z : Int) : Int := if z = 2 then 1 else if z = 3 then 2 else if z = 4 then 4 else 8
def rawI (f : Fld) (s : Nat) (n : Nd) : Int := if f.size = 1 then bitI (byR n) (s : Int) else getI (byR n) ((s : Int) * wdF f.size) (wdF f.size)
def fldK (l : List Fld) (k : Nat) : Fld := l[k]?.getD ⟨0, false, 0⟩
theorem fldK_at {l : List Fld} {k : Nat} (h : k < l.length) : fldK l k = l[k] := by unfold fldK; rw [List.getElem?_eq_getElem h]; rfl
def tellsB (l : List Fld) (k : Nat) : Bool := (fldK l k).choice && decide (0 ≤ tagL l)
def seenB (l : List Fld) (n : Nd) (k : Nat) : Bool := !tellsB l k || decide (choN l n = (plcN l k : Int))
def rgB (l : List Fld) (n : Nd) (a : Int) : Bool := recB l n && (withB a l.length && seenB l n a.toNat)
def fNum (l : List Fld) (n : Nd) (k : Nat) : Int := if (fldK l k).size = 6 then 0 else xorI (rawI (fldK l k) (atF l k) n) (fldK l k).els
def fNod (l : List Fld) (n : Nd) (k : Nat) : Nd := if (fldK l k).size = 6 then n.ptrs[atF l k]?.getD noneNd else noneNd
def rgN (l : List Fld) (n : Nd) (a : Int) : Int := if rgB l n a = true then fNum l n a.toNat else 0
def rgY (l : List Fld) (n : Nd) (a : Int) : Nd := if rgB l n a = true then fNod l n a.toNat else noneNd
theorem atF_le {l : List Fld} (hok : fldsOk l = true) {k : Nat} (hk : k < l.length) : atF l k ≤ 2000 := by
 have hl := fldsOk_len hok
 refine lay_bd_at l pbd0 (by omega) _ ?_
 unfold atF
 rw [List.getD, List.getElem?_eq_getElem (by rw [lay_length]; exact hk)]
 exact List.getElem_mem _
theorem fld_ok_at {l : List Fld} (h : fldsOk l = true) {k : Nat} (hk : k < l.length) : fldOk l[k] = true := by
 unfold fldsOk at h
 rw [Bool.and_eq_true] at h
 exact List.all_eq_true.mp h.1 _ (List.getElem_mem hk)
theorem els_six {f : Fld} (h : fldOk f = true) (h6 : f.size = 6) : f.els = 0 := by
 unfold fldOk fitB at h
 rw [h6] at h
 simpa [inB] using h
theorem getI_lg {l : List UInt8} {a z : Int} (hw : l.length % 8 = 0 ∧ l.length ≤ 1600) (hz : z = 1 ∨ z = 2 ∨ z = 4 ∨ z = 8) (h0 : 0 ≤ a) (hm : a % z = 0) : getI l a z = wrap64 (leN l a.toNat z.toNat : Nat) := by
 have hwb : wordsB l.length = true := by simp [wordsB, hw]
 by_cases h1 : a ≤ 1600
 · unfold getI
   rw [if_pos ⟨hwb, by simp [placeB]; omega⟩]
 · unfold getI
   rw [if_neg (by simp [placeB]; omega), leN_out _ _ _ (by omega)]
   simp [wrap64]
theorem wdF_or (z : Int) : wdF z = 1 ∨ wdF z = 2 ∨ wdF z = 4 ∨ wdF z = 8 := by
 unfold wdF
 split
 · exact .inl rfl
 · split
   · exact .inr (.inl rfl)
   · split
     · exact .inr (.inr (.inl rfl))
     · exact .inr (.inr (.inr rfl))
theorem rec_bytes {l : List Fld} {n : Nd} (h : recB l n = true) : (byR n).length % 8 = 0 ∧ (byR n).length ≤ 1600 := by
 obtain ⟨h8, hw, -⟩ := rec_data h
 have e : (byR n).length = n.data.size := by simp [byR]
 rw [e]
 exact ⟨h8, by omega⟩
theorem plc_succ {l : List Fld} {j : Nat} (h : j < l.length) : plcN l (j + 1) = plcN l j + (if (l[j]).choice then 1 else 0) := by
 unfold plcN
 rw [List.take_succ_eq_append_getElem h, List.countP_append, List.countP_singleton]
theorem plc_le (l : List Fld) (k : Nat) : plcN l k ≤ k := by
 unfold plcN
 exact Nat.le_trans List.countP_le_length (by rw [List.length_take]; omega)
theorem placeOf_a (A : Option Addr) (c : Nat) (l : List Fld) (k : Nat) (hk : k < l.length) (hc : l.length ≤ c) (w : World) (h : Flds w A l) (hl : l.length ≤ 12) :
 Calls Tryz.prog 30 #[.slice A l.length c, .int .i64 (k : Int)] w fun e w' => e = .returned (.int .i64 (plcN l k : Nat)) ∧ Below w.heap.size w w' := by
 have HF := Lib.hid h
 obtain ⟨x, rfl, hxb, -⟩ := h.at2 hk
 have hkc : k ≤ c := by omega
 have hk12 : k ≤ 12 := by omega
 clear h
 go_enter Tryz.func30, Tryz.ntmps30
 go_wp2
 go_loopw [5, 12] (fun q i wr => ∃ (j u : Nat), i = .int .i64 (j : Int) ∧ q = .int .i64 (u : Int) ∧ j ≤ k ∧ u ≤ 12 ∧ Hid (u = plcN l j) ∧ Hid (Below w.heap.size w wr)) (fun _ i _ => k - (intOf i).toNat)
 case atStart => exact ⟨0, 0, rfl, rfl, by omega, by omega, Lib.hid rfl, Lib.hid (Below.refl _ _)⟩
 case round =>
  obtain ⟨j, u, rfl, rfl, hj, hu, HU, HB⟩ := hrel
  by_cases hlt : j < k
  · obtain ⟨x', hx', hxb', hx⟩ := (HF.out.below HB.out).at2 (k := j) (by omega)
    obtain rfl := Option.some.inj hx'
    have HTK := Lib.hid (plc_succ (l := l) (j := j) (by omega))
    have HP := Lib.hid (plc_le l (j + 1))
    generalize l[j] = f at hx HTK
    obtain ⟨z, fc, el⟩ := f
    obtain ⟨c0, c1, c2⟩ := hx
    have HB2 := Lib.hid (HB.out.alloc HB.out.size (.cells #[.int .i64 z, .bool fc, .int .i64 el] 41))
    cases fc
    · go_wp2
      go_roundw
      case rel => exact ⟨j + 1, u, by go_num, rfl, by omega, by omega, Lib.hid (by rw [HTK.out, HU.out]; rfl), HB2⟩
      case measure => simp [intOf]; omega
    · have hu1 : u + 1 ≤ 12 := by have h1 := HP.out; have h2 := HTK.out; have h3 := HU.out; simp at h2; omega
      go_wp2
      go_roundw
      case rel => exact ⟨j + 1, u + 1, by go_num, by go_num, by omega, hu1, Lib.hid (by rw [HTK.out, HU.out]; rfl), HB2⟩
      case measure => simp [intOf]; omega
  · obtain rfl : j = k := by omega
    go_wp2
    go_ret
    exact ⟨by rw [← HU.out]; rfl, HB.out⟩
theorem l8Choice_a (A : Option Addr) (c : Nat) (l : List Fld) (k : Nat) (hk : k < l.length) (w : World) (h : Flds w A l) (hl : l.length ≤ 12) :
 Calls Tryz.prog 37 #[.slice A l.length c, .int .i64 (k : Int)] w fun e w' => e = .returned (.int .i64 (plcN l k : Nat)) ∧ Below w.heap.size w w' := by
 have HF := Lib.hid h
 obtain ⟨x, rfl, hxb, -⟩ := h.at2 hk
 have hk12 : k ≤ 12 := by omega
 clear h
 go_enter Tryz.func37, Tryz.ntmps37
 go_wp2
 go_loopw [5, 6] (fun q i wr => ∃ (j u : Nat), i = .int .i64 (j : Int) ∧ q = .int .i64 (u : Int) ∧ j ≤ k ∧ u ≤ 12 ∧ Hid (u = plcN l j) ∧ Hid (Below w.heap.size w wr)) (fun _ i _ => k - (intOf i).toNat)
 case atStart => exact ⟨0, 0, rfl, rfl, by omega, by omega, Lib.hid rfl, Lib.hid (Below.refl _ _)⟩
 case round =>
  obtain ⟨j, u, rfl, rfl, hj, hu, HU, HB⟩ := hrel
  by_cases hlt : j < k
  · obtain ⟨x', hx', hxb', hx⟩ := (HF.out.below HB.out).at2 (k := j) (by omega)
    obtain rfl := Option.some.inj hx'
    have HTK := Lib.hid (plc_succ (l := l) (j := j) (by omega))
    have HP := Lib.hid (plc_le l (j + 1))
    generalize l[j] = f at hx HTK
    obtain ⟨z, fc, el⟩ := f
    obtain ⟨c0, c1, c2⟩ := hx
    have hjl : j < l.length := by omega
    cases fc
    · go_wp2
      go_roundw
      case rel => exact ⟨j + 1, u, by go_num, rfl, by omega, by omega, Lib.hid (by rw [HTK.out, HU.out]; rfl), HB⟩
      case measure => simp [intOf]; omega
    · have hu1 : u + 1 ≤ 12 := by have h1 := HP.out; have h2 := HTK.out; have h3 := HU.out; simp at h2; omega
      go_wp2
      go_roundw
      case rel => exact ⟨j + 1, u + 1, by go_num, by go_num, by omega, hu1, Lib.hid (by rw [HTK.out, HU.out]; rfl), HB⟩
      case measure => simp [intOf]; omega
  · obtain rfl : j = k := by omega
    go_wp2
    go_ret
    exact ⟨by rw [← HU.out]; rfl, HB.out⟩
theorem tells_eq {l : List Fld} {k : Nat} (hk : k < l.length) : tellsB l k = ((l[k]).choice && decide (0 ≤ tagL l)) := by unfold tellsB; rw [fldK_at hk]
theorem tells_a (g : Nat) (x : Addr) (c : Nat) (l : List Fld) (v1 : Value) (n : Nd) (h : Hd) (k : Nat) (hk : k < l.length) (w : World) (hr : RecAt w g (some x) l.length c l v1 n h) (hf : FldAt w (x.add (k * 3)) l[k]) (hl : l.length ≤ 12) :
 Calls Tryz.prog 28 #[.pointer (some ⟨g, 0, none⟩), .int .i64 (k : Int)] w fun e w' => e = .returned (.bool (tellsB l k)) ∧ Below w.heap.size w w' := by
 obtain ⟨a0, a1, a2, a3, a4, a5, a6, a7, a8, a9, a10⟩ := cells11 hr
 rw [tells_eq hk]
 generalize l[k] = f at *
 obtain ⟨z, fc, el⟩ := f
 obtain ⟨c0, c1, c2⟩ := hf
 clear hr
 cases fc
 · go_enter Tryz.func28, Tryz.ntmps28
   go_wp2
   go_ret
   exact ⟨rfl, Below.refl _ _⟩
 · go_enter Tryz.func28, Tryz.ntmps28
   go_wp2
   go_ret
   exact ⟨by simp, Below.refl _ _⟩
abbrev numA (z : Int) : Value := .agg #[.int .i64 z, .int .i64 0, .string { data := #[] }, .slice none 0 0, .int .i64 0, .int .i64 0, .slice none 0 0]
theorem getBit_a (n : Nd) (h : Hd) (at_ : Int) (w : World) (hd : n.data.size ≤ maxLen) :
 Calls Tryz.prog 96 #[.agg #[.int .i64 n.kind, .string n.data, .slice h.A n.ptrs.length h.a, .int .i64 n.size, .int .i64 n.count, .slice h.B n.items.length h.b], .int .i64 at_] w fun e w' => e = .returned (numV (bitI n.data.data.toList at_)) ∧ Below w.heap.size w w' := by
 have hax : (w.alloc (.cells #[.int .i64 n.kind, .string n.data, .slice h.A n.ptrs.length h.a, .int .i64 n.size, .int .i64 n.count, .slice h.B n.items.length h.b] nodeT)).heap.size = w.heap.size + 1 := by simp
 have hbx : Below w.heap.size w ((w.alloc (.cells #[.int .i64 n.kind, .string n.data, .slice h.A n.ptrs.length h.a, .int .i64 n.size, .int .i64 n.count, .slice h.B n.items.length h.b] nodeT)).alloc (.cells #[.int .i64 0, .int .i64 0, .string { data := #[] }, .slice none 0 0, .int .i64 0, .int .i64 0, .slice none 0 0] valT)) := ((Below.refl _ _).alloc (Nat.le_refl _) _).alloc (by simp) _
 have hg0 : ((w.alloc (.cells #[.int .i64 n.kind, .string n.data, .slice h.A n.ptrs.length h.a, .int .i64 n.size, .int .i64 n.count, .slice h.B n.items.length h.b] nodeT)).alloc (.cells #[.int .i64 0, .int .i64 0, .string { data := #[] }, .slice none 0 0, .int .i64 0, .int .i64 0, .slice none 0 0] valT)).heap[w.heap.size]? = some (.cells #[.int .i64 n.kind, .string n.data, .slice h.A n.ptrs.length h.a, .int .i64 n.size, .int .i64 n.count, .slice h.B n.items.length h.b] nodeT (0, 0)) := heap_alloc_keep (heap_alloc_new w _) _
 have hg1 : ((w.alloc (.cells #[.int .i64 n.kind, .string n.data, .slice h.A n.ptrs.length h.a, .int .i64 n.size, .int .i64 n.count, .slice h.B n.items.length h.b] nodeT)).alloc (.cells #[.int .i64 0, .int .i64 0, .string { data := #[] }, .slice none 0 0, .int .i64 0, .int .i64 0, .slice none 0 0] valT)).heap[w.heap.size + 1]? = some (.cells #[.int .i64 0, .int .i64 0, .string { data := #[] }, .slice none 0 0, .int .i64 0, .int .i64 0, .slice none 0 0] valT (0, 0)) := hax ▸ heap_alloc_new _ _
 obtain ⟨a0, a1, a2, a3, a4, a5⟩ := cells6 hg0
 have HB0 := Lib.hid hbx
 have HG1 := Lib.hid hg1
 clear hbx hg0 hg1 hax
 go_enter Tryz.func96, Tryz.ntmps96
 go_wp2_with fail
 clear a0 a1 a2 a3 a4 a5
 generalize ((w.alloc (.cells #[.int .i64 n.kind, .string n.data, .slice h.A n.ptrs.length h.a, .int .i64 n.size, .int .i64 n.count, .slice h.B n.items.length h.b] nodeT)).alloc (.cells #[.int .i64 0, .int .i64 0, .string { data := #[] }, .slice none 0 0, .int .i64 0, .int .i64 0, .slice none 0 0] valT)) = W at *
 refine (implBitGet_any n.data at_ W hd).mono ?_
 rintro e w2 ⟨rfl, hb2⟩
 have hs := HB0.out.size
 have HB2 := Lib.hid (HB0.out.trans (hb2.mono hs))
 have hr := (hb2.block _ (row_lt HG1.out)).trans HG1.out
 have HR := Lib.hid hr
 obtain ⟨z0, z1, z2, z3, z4, z5, z6⟩ := cells7r hr
 have zf := row_free hr
 obtain ⟨gv, hgv⟩ : ∃ gv, bitI n.data.data.toList at_ = gv := ⟨_, rfl⟩
 have HGV := Lib.hid hgv
 rw [hgv]
 clear hgv
 clear hb2 hr
 go_wp2_with fail
 obtain ⟨wf, hwf, hrw, hbf, -, -⟩ := fin7 (R := w.heap.size) (.int .i64 gv) (.int .i64 0) (.string ⟨#[]⟩) (.slice none 0 0) (.int .i64 0) (.int .i64 0) (.slice none 0 0) HR.out HB2.out (by omega)
 rw [hwf]
 obtain ⟨e0, e1, e2, e3, e4, e5, e6⟩ := cells7r hrw
 exact bodyPost_ret (v := numV gv) (by simp [results, Tryz.results96, go_sem, numV, e0, e1, e2, e3, e4, e5, e6]) rfl ⟨by rw [HGV.out], hbf⟩
theorem getNode_out (n : Nd) (h : Hd) (at_ : Int) (w : World) (h0 : 0 ≤ at_) (hl : (n.ptrs.length : Int) ≤ at_) (hm : n.ptrs.length ≤ maxLen) :
 Calls Tryz.prog 99 #[.agg #[.int .i64 n.kind, .string n.data, .slice h.A n.ptrs.length h.a, .int .i64 n.size, .int .i64 n.count, .slice h.B n.items.length h.b], .int .i64 at_] w fun e w' => e = .returned (numA 0) ∧ Below w.heap.size w w' := by
 have q0 := al_first w (.cells #[.int .i64 n.kind, .string n.data, .slice h.A n.ptrs.length h.a, .int .i64 n.size, .int .i64 n.count, .slice h.B n.items.length h.b] nodeT)
 have q1 := al_next q0 (.cells #[.int .i64 0, .int .i64 0, .string { data := #[] }, .slice none 0 0, .int .i64 0, .int .i64 0, .slice none 0 0] valT)
 have r0 := heap_alloc_new w (.cells #[.int .i64 n.kind, .string n.data, .slice h.A n.ptrs.length h.a, .int .i64 n.size, .int .i64 n.count, .slice h.B n.items.length h.b] nodeT)
 have r1 := al_row q0 #[.int .i64 0, .int .i64 0, .string { data := #[] }, .slice none 0 0, .int .i64 0, .int .i64 0, .slice none 0 0] valT
 obtain ⟨a0, a1, a2, a3, a4, a5⟩ := cells6 r0
 obtain ⟨z0, z1, z2, z3, z4, z5, z6⟩ := cellsV r1
 have zf := row_free r1
 have HB0 := Lib.hid q1.2
 have HR1 := Lib.hid r1
 clear q1 q0 r0 r1
 go_enter Tryz.func99, Tryz.ntmps99
 go_wp2_with fail
 obtain ⟨y0, y1, y2, y3, y4, y5, y6⟩ := cellsV HR1.out
 exact bodyPost_ret (v := numA 0) (by simp [results, Tryz.results99, go_sem, y0, y1, y2, y3, y4, y5, y6]) rfl ⟨rfl, HB0.out⟩
theorem getNode_in (n : Nd) (x : Addr) (ca : Nat) (B : Option Addr) (cb : Nat) (k : Nat) (y : Nd) (hy : Hd) (w : World) (hk : k < n.ptrs.length) (hm : n.ptrs.length ≤ maxLen) (hc : NdCell w (x.add (k * 6)) y hy) :
 Calls Tryz.prog 99 #[.agg #[.int .i64 n.kind, .string n.data, .slice (some x) n.ptrs.length ca, .int .i64 n.size, .int .i64 n.count, .slice B n.items.length cb], .int .i64 (k : Int)] w fun e w' => e = .returned (valV 0 y hy) ∧ Below w.heap.size w w' := by
 have q0 := al_first w (.cells #[.int .i64 n.kind, .string n.data, .slice (some x) n.ptrs.length ca, .int .i64 n.size, .int .i64 n.count, .slice B n.items.length cb] nodeT)
 have q1 := al_next q0 (.cells #[.int .i64 0, .int .i64 0, .string { data := #[] }, .slice none 0 0, .int .i64 0, .int .i64 0, .slice none 0 0] valT)
 have r0 := heap_alloc_keep (heap_alloc_new w (.cells #[.int .i64 n.kind, .string n.data, .slice (some x) n.ptrs.length ca, .int .i64 n.size, .int .i64 n.count, .slice B n.items.length cb] nodeT)) (.cells #[.int .i64 0, .int .i64 0, .string { data := #[] }, .slice none 0 0, .int .i64 0, .int .i64 0, .slice none 0 0] valT)
 have r1 := al_row q0 #[.int .i64 0, .int .i64 0, .string { data := #[] }, .slice none 0 0, .int .i64 0, .int .i64 0, .slice none 0 0] valT
 obtain ⟨a0, a1, a2, a3, a4, a5⟩ := cells6 r0
 obtain ⟨z0, z1, z2, z3, z4, z5, z6⟩ := cellsV r1
 have zf := row_free r1
 obtain ⟨d0, d1, d2, d3, d4, d5⟩ := hc.block (q1.2.block _ hc.lt)
 have HB0 := Lib.hid q1.2
 have HR1 := Lib.hid r1
 have hge : ¬ ((n.ptrs.length : Int) ≤ k) := by omega
 clear q1 q0 r0 r1 hc
 go_enter Tryz.func99, Tryz.ntmps99
 go_wp2_with fail
 have r2 := al_row (al_first w (.cells #[.int .i64 n.kind, .string n.data, .slice (some x) n.ptrs.length ca, .int .i64 n.size, .int .i64 n.count, .slice B n.items.length cb] nodeT)) #[.int .i64 0, .int .i64 y.kind, .string y.data, .slice hy.A y.ptrs.length hy.a, .int .i64 y.size, .int .i64 y.count, .slice hy.B y.items.length hy.b] valT
 obtain ⟨y0, y1, y2, y3, y4, y5, y6⟩ := cellsV r2
 exact bodyPost_ret (v := valV 0 y hy) (by simp [results, Tryz.results99, go_sem, y0, y1, y2, y3, y4, y5, y6]) rfl ⟨rfl, (al_next (al_first w (.cells #[.int .i64 n.kind, .string n.data, .slice (some x) n.ptrs.length ca, .int .i64 n.size, .int .i64 n.count, .slice B n.items.length cb] nodeT)) _).2⟩
end Go.Proofs.YtblcibgphccfkaaGreatDoor
