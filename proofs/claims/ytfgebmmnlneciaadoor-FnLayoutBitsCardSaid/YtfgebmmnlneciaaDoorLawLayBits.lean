/- The walk of the law on a field's bits, of drawn fields. -/
import Derived.Test.YtfgebmmnlneciaaDoorSLayO
import Derived.Test.YtfgebmmnlneciaaDoorDrawFl2
namespace Go.Proofs.YtfgebmmnlneciaaDoor
open Go.RowKit
theorem bitsOf_lit : bitsOf 1 = 1 ∧ bitsOf 2 = 8 ∧ bitsOf 3 = 16 ∧ bitsOf 4 = 32 ∧ bitsOf 5 = 64 := by decide
set_option maxHeartbeats 8000000 in
set_option maxRecDepth 100000 in
theorem walkLayoutBits (w : World) (a : Option Addr) (len cap : Nat) (h : Arg w a len cap) (ht : Tab w) :
    Calls Tryd.prog 7 #[.slice a len cap] w fun e w' => e = .returned (.bool true) ∧ Below w.heap.size w w' := by
  have h1w : 1 < w.heap.size := World.block_lt_of_cell? w _ ht.t0
  by_cases hbig : 1048576 < len
  · have hlm := h.1.1
    unfold maxLen at hlm
    clear h ht
    go_enter Tryd.func7, Tryd.ntmps7
    go_wp2
    go_ret
    exact ⟨rfl, Below.refl _ _⟩
  have hsm : len ≤ 1048576 := by omega
  have HT := Lib.hid ht
  have HA := Lib.hid h
  clear h ht hbig
  go_enter Tryd.func7, Tryd.ntmps7
  go_wp2_with fail
  refine (drawLayoutBits_any a len cap _ HA.out).mono ?_
  rintro e w1 ⟨A, cp, l, i, rfl, hl, hi, hf, hb1⟩
  have HT1 := Lib.hid (HT.out.below hb1 h1w)
  have HF1 := Lib.hid hf
  have hs1 := hb1.size
  have HB1 := Lib.hid hb1
  clear hf hb1
  have HL1 := Lib.hid (implLayoutBits_any A cp l i w1 HT1.out (by omega) HF1.out (by omega))
  go_wp2_with fail
  refine HL1.out.mono ?_
  rintro e w2 ⟨rfl, hb2⟩
  have HF2 := Lib.hid (HF1.out.below hb2)
  have HT2 := Lib.hid (HT1.out.below hb2 (by omega))
  have hs2 := hb2.size
  have HB2 := Lib.hid (HB1.out.trans (hb2.mono hs1))
  clear hb2
  have HL2 := Lib.hid (specLayoutBits_any A cp l i w2 (by omega) HF2.out (by omega))
  go_wp2_with fail
  refine HL2.out.mono ?_
  rintro e w3 ⟨rfl, hb3⟩
  have HF3 := Lib.hid (HF2.out.below hb3)
  have HT3 := Lib.hid (HT2.out.below hb3 (by omega))
  have hs3 := hb3.size
  have HB3 := Lib.hid (HB2.out.trans (hb3.mono (by omega)))
  clear hb3
  have HL3 := Lib.hid (specFieldsOk_any A cp l w3 HF3.out (by omega))
  obtain ⟨F, T, hFT⟩ : ∃ F T, layBits l i = (F, T) := ⟨_, _, rfl⟩
  have HFT := Lib.hid hFT
  rw [hFT]
  clear hFT
  cases hok : fldsOk l with
  | false =>
    rw [hok] at HL3
    clear hok
    go_wp2_with fail
    refine HL3.out.mono ?_
    rintro e w4 ⟨rfl, hb4⟩
    have HB4 := Lib.hid (HB3.out.trans (hb4.mono (by omega)))
    clear hb4
    go_wp2
    go_ret
    exact ⟨rfl, HB4.out⟩
  | true =>
    have HOK := Lib.hid hok
    rw [hok] at HL3
    have hl12 := fldsOk_len hok
    go_wp2_with fail
    refine HL3.out.mono ?_
    rintro e w4 ⟨rfl, hb4⟩
    have HF4 := Lib.hid (HF3.out.below hb4)
    have HT4 := Lib.hid (HT3.out.below hb4 (by omega))
    have hs4 := hb4.size
    have HB4 := Lib.hid (HB3.out.trans (hb4.mono (by omega)))
    clear hb4
    by_cases hn : i < 0
    · clear hok
      go_wp2
      go_ret
      exact ⟨rfl, HB4.out⟩
    by_cases hg : (l.length : Int) ≤ i
    · clear hok
      go_wp2
      go_ret
      exact ⟨rfl, HB4.out⟩
    have hi0 : 0 ≤ i := by omega
    obtain ⟨k, rfl⟩ := Int.eq_ofNat_of_zero_le hi0
    have hk : k < l.length := by omega
    have hk2 : (k : Int) < (l.length : Int) := by omega
    have hsz := fldsOk_at hok k hk
    obtain ⟨x, rfl, hx⟩ := HF4.out.at_ hk
    have q0 := hx.c0
    by_cases h6 : (l[k]).size = 6
    · rw [h6] at q0
      clear hok hsz h6 hx
      go_wp2
      go_ret
      exact ⟨rfl, HB4.out⟩
    · have hwt : withB k l.length = true := by simp [withB]; omega
      have HX : Hid (layBits l k = (((layF l ps0).1.getD k 0 : Int) * bitsOf (l[k]).size, ((layF l ps0).1.getD k 0 : Int) * bitsOf (l[k]).size + bitsOf (l[k]).size)) := Lib.hid (by
        unfold layBits
        rw [if_pos (by rw [Int.toNat_natCast, getD_lt hk]; exact ⟨hok, hwt, h6⟩), Int.toNat_natCast, getD_lt hk])
      have hle : (layF l ps0).1.getD k 0 ≤ 2000 := by
        refine lay_bd_at l pbd0 (by omega) _ ?_
        rw [List.getD, List.getElem?_eq_getElem (by rw [lay_length]; exact hk)]
        exact List.getElem_mem _
      have HLL := Lib.hid (lay_length l ps0)
      have hft := HX.out.symm.trans HFT.out
      injection hft with hF hT
      have HLO := Lib.hid (implLayoutOf_any (some x) cp l w4 HT4.out (by omega) HF4.out (by omega))
      obtain ⟨hz1', hz6'⟩ := hsz
      have hzz : (l[k]).size = 1 ∨ (l[k]).size = 2 ∨ (l[k]).size = 3 ∨ (l[k]).size = 4 ∨ (l[k]).size = 5 := by omega
      have hz6 : ((l[k]).size == 6) = false := by simpa using h6
      clear hok hx h6 hwt
      have HSZ := Lib.hid (rfl : (l[k]).size = (l[k]).size)
      generalize hzq : (l[k]).size = z at *
      have HZQ := Lib.hid hzq
      generalize hq : (layF l ps0).1.getD k 0 = aa at *
      have HQ := Lib.hid hq
      clear hzq hq
      obtain ⟨b1, b2, b3, b4, b5⟩ := bitsOf_lit
      go_wp2_with fail
      refine HLO.out.mono ?_
      rintro e w5 (⟨-, v1, rfl, hv1, hb5⟩ | ⟨hh, _⟩)
      rotate_left
      · rw [HOK.out] at hh; cases hh
      have HB5 := Lib.hid (HB4.out.trans (hb5.mono (by omega)))
      have hs5 := hb5.size
      obtain ⟨A1, cp1, rfl⟩ := own_slice2 hv1
      obtain ⟨x', hxe, hx⟩ := (HF4.out.below hb5).at_ hk
      obtain rfl : x = x' := by injection hxe
      have q5 := hx.c0
      rw [HZQ.out] at q5
      rw [← HLL.out] at hv1
      obtain ⟨-, y, rfl, hy⟩ := slots_at (k := k) (by rw [HLL.out] at hv1 ⊢; exact hv1) (by rw [HLL.out]; exact hk)
      rw [HQ.out] at hy
      have hxl : (x.add (k * 3)).block < w5.heap.size := World.block_lt_of_cell? w5 _ q5
      have hyl : (y.add k).block < w5.heap.size := World.block_lt_of_cell? w5 _ hy
      clear hb5 hv1 hx hxe q0
      simp only [layV]
      rcases hzz with rfl | rfl | rfl | rfl | rfl
      · rw [b1] at hF hT
        have hF0 : 0 ≤ F := by omega
        have hF1 : F ≤ 200000 := by omega
        have hT0 : 0 ≤ T := by omega
        have hT1 : T ≤ 200000 := by omega
        have hd : T - F = 1 := by omega
        have he : (F == (aa : Int)) = true := by simp; omega
        clear hF hT b1 b2 b3 b4 b5
        go_wp2
        go_ret
        exact ⟨rfl, (HB5.out.alloc (by omega) _).alloc (by simp; omega) _⟩
      · rw [b2] at hF hT
        have hF0 : 0 ≤ F := by omega
        have hF1 : F ≤ 200000 := by omega
        have hT0 : 0 ≤ T := by omega
        have hT1 : T ≤ 200000 := by omega
        have hd : T - F = 8 := by omega
        have he : (F == (aa : Int) * 8) = true := by simp; omega
        clear hF hT b1 b2 b3 b4 b5
        go_wp2
        go_ret
        exact ⟨rfl, (HB5.out.alloc (by omega) _).alloc (by simp; omega) _⟩
      · rw [b3] at hF hT
        have hF0 : 0 ≤ F := by omega
        have hF1 : F ≤ 200000 := by omega
        have hT0 : 0 ≤ T := by omega
        have hT1 : T ≤ 200000 := by omega
        have hd : T - F = 16 := by omega
        have he : (F == (aa : Int) * 16) = true := by simp; omega
        clear hF hT b1 b2 b3 b4 b5
        go_wp2
        go_ret
        exact ⟨rfl, (HB5.out.alloc (by omega) _).alloc (by simp; omega) _⟩
      · rw [b4] at hF hT
        have hF0 : 0 ≤ F := by omega
        have hF1 : F ≤ 200000 := by omega
        have hT0 : 0 ≤ T := by omega
        have hT1 : T ≤ 200000 := by omega
        have hd : T - F = 32 := by omega
        have he : (F == (aa : Int) * 32) = true := by simp; omega
        clear hF hT b1 b2 b3 b4 b5
        go_wp2
        go_ret
        exact ⟨rfl, (HB5.out.alloc (by omega) _).alloc (by simp; omega) _⟩
      · rw [b5] at hF hT
        have hF0 : 0 ≤ F := by omega
        have hF1 : F ≤ 200000 := by omega
        have hT0 : 0 ≤ T := by omega
        have hT1 : T ≤ 200000 := by omega
        have hd : T - F = 64 := by omega
        have he : (F == (aa : Int) * 64) = true := by simp; omega
        clear hF hT b1 b2 b3 b4 b5
        go_wp2
        go_ret
        exact ⟨rfl, (HB5.out.alloc (by omega) _).alloc (by simp; omega) _⟩
end Go.Proofs.YtfgebmmnlneciaaDoor
