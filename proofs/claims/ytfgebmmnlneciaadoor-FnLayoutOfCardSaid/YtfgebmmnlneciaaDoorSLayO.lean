/- The specification's LayoutOf and LayoutBits. -/
import Derived.Test.YtfgebmmnlneciaaDoorSLayout
namespace Go.Proofs.YtfgebmmnlneciaaDoor
open Go.RowKit
set_option maxHeartbeats 8000000 in
set_option maxRecDepth 100000 in
theorem specLayoutOf_any (A : Option Addr) (c : Nat) (l : List Fld) (w : World) (h1w : 1 < w.heap.size) (h : Flds w A l) (hl : l.length ≤ 10000000) :
    Calls Tryd.prog 12 #[.slice A l.length c] w (LayP l w) := by
  have hal : Below w.heap.size w (w.alloc (.cells #[.int .i64 0, .int .i64 0, .slice none 0 0, .int .i64 0] 26)) := (Below.refl _ _).alloc (Nat.le_refl _) _
  have HF := Lib.hid (h.below hal)
  have HAL := Lib.hid hal
  have HFO := Lib.hid (specFieldsOk_any A c l _ HF.out hl)
  clear h hal
  cases hok : fldsOk l with
  | false =>
    rw [hok] at HFO
    have HOK := Lib.hid hok
    clear hok
    go_enter Tryd.func12, Tryd.ntmps12
    go_wp2_with fail
    refine HFO.out.mono ?_
    rintro e w1 ⟨rfl, hb1⟩
    have k0 : w1.heap[w.heap.size]? = some (.cells #[.int .i64 0, .int .i64 0, .slice none 0 0, .int .i64 0] 26 (0, 0)) := (hb1.block w.heap.size (by simp)).trans (heap_alloc_new _ _)
    obtain ⟨g0, g1, g2, g3⟩ := cells4 k0
    have fz := row_free k0
    have hlt := row_lt k0
    have HB1 := Lib.hid (HAL.out.trans (hb1.mono (by simp)))
    have HK := Lib.hid k0
    clear hb1 k0
    go_wp2
    obtain ⟨wf, e, hr, hg⟩ := store4 HK.out (.int .i64 0) (.int .i64 0) (.slice none 0 0) (.int .i64 0)
    rw [e]
    obtain ⟨r0, r1, r2, r3⟩ := cells4 hr
    refine bodyPost_ret (v := .tuple #[.agg #[.int .i64 0, .int .i64 0, .slice none 0 0, .int .i64 0], .bool false]) (by simp [results, Tryd.results12, go_sem, r0, r1, r2, r3]) rfl (.inr ⟨HOK.out, rfl, ?_⟩)
    exact grown_below_b HB1.out hg (Nat.le_refl _) (Nat.le_of_lt hlt)
  | true =>
    rw [hok] at HFO
    have HOK := Lib.hid hok
    clear hok
    go_enter Tryd.func12, Tryd.ntmps12
    go_wp2_with fail
    refine HFO.out.mono ?_
    rintro e w1 ⟨rfl, hb1⟩
    have k0 : w1.heap[w.heap.size]? = some (.cells #[.int .i64 0, .int .i64 0, .slice none 0 0, .int .i64 0] 26 (0, 0)) := (hb1.block w.heap.size (by simp)).trans (heap_alloc_new _ _)
    have hlt := row_lt k0
    have HF1 := Lib.hid (HF.out.below hb1)
    have HB1 := Lib.hid (HAL.out.trans (hb1.mono (by simp)))
    have HK := Lib.hid k0
    clear hb1 k0
    have HLL := Lib.hid (l7Layout_any A c l w1 (by omega) HF1.out HOK.out)
    go_wp2_with fail
    refine HLL.out.mono ?_
    rintro e w2 ⟨v1, rfl, hv, hb2⟩
    have k2 := (hb2.block w.heap.size hlt).trans HK.out
    obtain ⟨g0, g1, g2, g3⟩ := cells4 k2
    have fz := row_free k2
    have hlt2 := row_lt k2
    have HK2 := Lib.hid k2
    have HV := Lib.hid hv
    have HB2 := Lib.hid (HB1.out.trans (hb2.mono (by omega)))
    obtain ⟨A1, cp1, rfl⟩ := own_slice2 hv
    clear hv hb2 k2
    simp only [layV]
    go_wp2
    obtain ⟨wf, e, hr, hg⟩ := store4 HK2.out (.int .i64 ((layF l ps0).2.ls.words : Int)) (.int .i64 ((layF l ps0).2.ptrs : Int)) (.slice A1 l.length cp1) (.int .i64 (layF l ps0).2.tag)
    rw [e]
    obtain ⟨r0, r1, r2, r3⟩ := cells4 hr
    refine bodyPost_ret (v := .tuple #[layV l (.slice A1 l.length cp1), .bool true]) (by simp [results, Tryd.results12, go_sem, r0, r1, r2, r3, layV]) rfl (.inl ⟨HOK.out, _, rfl, ?_, ?_⟩)
    · exact (own_weak HV.out (by omega)).kept hg (.inr (own_ne_blk HV.out HK2.out (by decide)))
    · exact grown_below_b HB2.out hg (Nat.le_refl _) (Nat.le_of_lt hlt2)
theorem field2_run (a b d : Int) (A : Option Addr) (n cp : Nat) (w : World) : (Instr.field 26 (.agg #[.int .i64 a, .int .i64 b, .slice A n cp, .int .i64 d]) 2).run Tryd.prog w = .ok (.slice A n cp) w := by rfl
theorem in_with {i : Int} {n : Nat} : inB i 0 ((n : Int) - 1) = withB i n := by
  unfold inB withB
  rw [Bool.eq_iff_iff]
  simp only [decide_eq_true_eq]
  omega
set_option maxHeartbeats 8000000 in
set_option maxRecDepth 100000 in
theorem specLayoutBits_any (A : Option Addr) (c : Nat) (l : List Fld) (i : Int) (w : World) (h1w : 1 < w.heap.size) (h : Flds w A l) (hl : l.length ≤ 10000000) :
    Calls Tryd.prog 20 #[.slice A l.length c, .int .i64 i] w (BitsP l i w) := by
  have HFO := Lib.hid (specFieldsOk_any A c l w h hl)
  have HF := Lib.hid h
  clear h
  cases hok : fldsOk l with
  | false =>
    rw [hok] at HFO
    have HX : Hid (layBits l i = (0, 0)) := Lib.hid (by unfold layBits; rw [if_neg (by simp [hok])])
    clear hok
    go_enter Tryd.func20, Tryd.ntmps20
    go_wp2_with fail
    refine HFO.out.mono ?_
    rintro e w1 ⟨rfl, hb1⟩
    have HB1 := Lib.hid hb1
    clear hb1
    go_wp2
    go_ret2
    rw [BitsP, HX.out]
    exact ⟨rfl, HB1.out⟩
  | true =>
    rw [hok] at HFO
    have HOK := Lib.hid hok
    have hl12 := fldsOk_len hok
    have HIW := Lib.hid (in_with (i := i) (n := l.length))
    cases hw : withB i l.length with
    | false =>
      have HX : Hid (layBits l i = (0, 0)) := Lib.hid (by unfold layBits; rw [if_neg (by simp [hw])])
      rw [hw] at HIW
      clear hok hw
      go_enter Tryd.func20, Tryd.ntmps20
      go_wp2_with fail
      refine HFO.out.mono ?_
      rintro e w1 ⟨rfl, hb1⟩
      have HB1 := Lib.hid hb1
      clear hb1
      go_wp2_with (go_at_call 35; go_must (refine (l1In_any _ _ _ _).mono ?_); rintro e w2 ⟨rfl, rfl⟩; rw [HIW.out])
      go_ret2
      rw [BitsP, HX.out]
      exact ⟨rfl, HB1.out⟩
    | true =>
      rw [hw] at HIW
      have hib : 0 ≤ i ∧ i < l.length := by simpa [withB] using hw
      have HW := Lib.hid hw
      clear hw
      obtain ⟨k, rfl⟩ := Int.eq_ofNat_of_zero_le hib.1
      have hk : k < l.length := by omega
      have hk2 : (k : Int) < (l.length : Int) := by omega
      have hsz := fldsOk_at hok k hk
      by_cases h6 : (l[k]).size = 6
      · have HX : Hid (layBits l k = (0, 0)) := Lib.hid (by unfold layBits; rw [if_neg (by rw [Int.toNat_natCast, getD_lt hk]; simp [h6])])
        have H6 := Lib.hid h6
        clear hok hib hsz h6
        go_enter Tryd.func20, Tryd.ntmps20
        go_wp2_with fail
        refine HFO.out.mono ?_
        rintro e w1 ⟨rfl, hb1⟩
        obtain ⟨x, rfl, hx⟩ := (HF.out.below hb1).at_ hk
        have q0 := hx.c0
        rw [H6.out] at q0
        have HB1 := Lib.hid hb1
        clear hb1 hx
        go_wp2_with (go_at_call 35; go_must (refine (l1In_any _ _ _ _).mono ?_); rintro e w2 ⟨rfl, rfl⟩; rw [HIW.out])
        go_ret2
        rw [BitsP, HX.out]
        exact ⟨rfl, HB1.out⟩
      · have HX : Hid (layBits l k = (((layF l ps0).1.getD k 0 : Int) * bitsOf (l[k]).size, ((layF l ps0).1.getD k 0 : Int) * bitsOf (l[k]).size + bitsOf (l[k]).size)) := Lib.hid (by
          unfold layBits
          rw [if_pos (by rw [Int.toNat_natCast, getD_lt hk]; exact ⟨hok, HW.out, h6⟩), Int.toNat_natCast, getD_lt hk])
        have hle : (layF l ps0).1.getD k 0 ≤ 2000 := by
          refine lay_bd_at l pbd0 (by omega) _ ?_
          rw [List.getD, List.getElem?_eq_getElem (by rw [lay_length]; exact hk)]
          exact List.getElem_mem _
        have HLL := Lib.hid (lay_length l ps0)
        clear hok hib
        go_enter Tryd.func20, Tryd.ntmps20
        go_wp2_with fail
        refine HFO.out.mono ?_
        rintro e w1 ⟨rfl, hb1⟩
        obtain ⟨x, rfl, hx⟩ := (HF.out.below hb1).at_ hk
        have q0 := hx.c0
        have HF1 := Lib.hid (HF.out.below hb1)
        have HB1 := Lib.hid hb1
        have hs1 := hb1.size
        have hz6 : ((l[k]).size == 6) = false := by simpa using h6
        have hbo := bitsAll_of h6
        have hbb := bitsOf_bd (l[k]).size
        have hmb := mul_bd (a := ((layF l ps0).1.getD k 0 : Int)) (by omega) (by omega) hbb.1 hbb.2
        obtain ⟨hz1', hz6'⟩ := hsz
        clear hb1 hx h6
        generalize (l[k]).size = z at *
        generalize hq : (layF l ps0).1.getD k 0 = a at *
        have HQ := Lib.hid hq
        have HBO := Lib.hid hbo
        have hz0' : 0 ≤ z := by omega
        clear hbo hq
        go_wp2_with (go_at_call 35; go_must (refine (l1In_any _ _ _ _).mono ?_); rintro e w2 ⟨rfl, rfl⟩; rw [HIW.out])
        refine (l2Bits_any z _ hz0' hz6').mono ?_
        rintro e w2 ⟨rfl, hb2⟩
        rw [HBO.out]
        have HF2 := Lib.hid (HF1.out.below hb2)
        have hs2 := hb2.size
        have HB2 := Lib.hid (HB1.out.trans (hb2.mono hs1))
        have HLY := Lib.hid (l7Layout_any (some x) c l w2 (by omega) HF2.out HOK.out)
        clear hb2
        go_wp2_with fail
        refine HLY.out.mono ?_
        rintro e w3 ⟨v1, rfl, hv, hb3⟩
        obtain ⟨A1, cp1, rfl⟩ := own_slice2 hv
        rw [← HLL.out] at hv
        obtain ⟨-, y, rfl, hy⟩ := slots_at (k := k) (by rw [HLL.out] at hv ⊢; exact hv) (by rw [HLL.out]; exact hk)
        rw [HQ.out] at hy
        have HB3 := Lib.hid (HB2.out.trans (hb3.mono (by omega)))
        clear hv hb3
        have hfr := field2_run
        simp only [layV]
        go_wp2
        go_ret2
        rw [BitsP, HX.out]
        exact ⟨rfl, HB3.out⟩
end Go.Proofs.YtfgebmmnlneciaaDoor
