/- The walk of the law on choices' rooms. -/
import Derived.Test.YtfgebmmnlneciaaDoorSLayO
import Derived.Test.YtfgebmmnlneciaaDoorDrawFl2
import Derived.Test.YtfgebmmnlneciaaDoorQnLay
import Derived.Test.YtfgebmmnlneciaaDoorLayNum
namespace Go.Proofs.YtfgebmmnlneciaaDoor
open Go.RowKit
def cntC (l : List Fld) (k : Nat) : Nat := ((l.take k).filter fun f => f.choice).length
theorem cnt_0 (l : List Fld) : cntC l 0 = 0 := rfl
theorem cnt_step {l : List Fld} {k : Nat} (h : k < l.length) : cntC l (k + 1) = cntC l k + (if (l[k]).choice = true then 1 else 0) := by
  unfold cntC
  rw [List.take_succ_eq_append_getElem h, List.filter_append, List.length_append]
  cases hc : (l[k]).choice <;> simp [hc]
theorem cnt_all (l : List Fld) : cntC l l.length = (l.filter fun f => f.choice).length := by unfold cntC; rw [List.take_of_length_le (Nat.le_refl _)]
theorem cnt_le (l : List Fld) (k : Nat) : cntC l k ≤ l.length := by
  have h1 := List.length_filter_le (fun f : Fld => f.choice) (l.take k)
  have h3 : (l.take k).length ≤ l.length := List.length_take_le' k l
  unfold cntC; omega
set_option maxHeartbeats 8000000 in
set_option maxRecDepth 100000 in
theorem walkLayoutChoices (w : World) (a : Option Addr) (len cap : Nat) (h : Arg w a len cap) (ht : Tab w) :
    Calls Tryd.prog 9 #[.slice a len cap] w fun e w' => e = .returned (.bool true) ∧ Below w.heap.size w w' := by
  have h1w : 1 < w.heap.size := World.block_lt_of_cell? w _ ht.t0
  have hlm := h.1.1
  unfold maxLen at hlm
  by_cases hbig : 1048576 < len
  · clear h ht
    go_enter Tryd.func9, Tryd.ntmps9
    go_wp2
    go_ret
    exact ⟨rfl, Below.refl _ _⟩
  have hsm : len ≤ 1048576 := by omega
  have HT := Lib.hid ht
  have HA := Lib.hid h
  clear h ht hbig hlm
  go_enter Tryd.func9, Tryd.ntmps9
  go_wp2_with fail
  refine (drawLayoutOf_any a len cap _ HA.out).mono ?_
  rintro e w1 ⟨A, cp, l, rfl, hl, hcp, hf, hb1⟩
  have HT1 := Lib.hid (HT.out.below hb1 h1w)
  have HF1 := Lib.hid hf
  have hs1 := hb1.size
  have HB1 := Lib.hid hb1
  clear hf hb1
  go_wp2_with fail
  refine (implLayoutOf_any A cp l w1 HT1.out (by omega) HF1.out (by omega)).mono ?_
  rintro e w2 (⟨hok, v1, rfl, hv1, hb2⟩ | ⟨hok, rfl, hb2⟩)
  rotate_left
  · have HF2 := Lib.hid (HF1.out.below hb2)
    have hs2 := hb2.size
    have HB2 := Lib.hid (HB1.out.trans (hb2.mono hs1))
    have HOK := Lib.hid hok
    have HF2a := Lib.hid (HF2.out.below ((Below.refl _ _).alloc (Nat.le_refl _) (.cells #[.int .i64 0, .int .i64 0, .slice none 0 0, .int .i64 0] 26)))
    have HR2 := Lib.hid (heap_alloc_new w2 (.cells #[.int .i64 0, .int .i64 0, .slice none 0 0, .int .i64 0] 26))
    clear hb2 hok
    go_wp2_with fail
    refine (specLayoutOf_any A cp l _ (by simp; omega) HF2a.out (by omega)).mono ?_
    rintro e w3 (⟨hh, _⟩ | ⟨-, rfl, hb3⟩)
    · rw [HOK.out] at hh; cases hh
    have hb3s := hb3.size
    simp at hb3s
    have HB3 := Lib.hid (((HB2.out.alloc (by omega) (.cells #[.int .i64 0, .int .i64 0, .slice none 0 0, .int .i64 0] 26)).trans (hb3.mono (by simp; omega))).alloc (by omega) (.cells #[.int .i64 0, .int .i64 0, .slice none 0 0, .int .i64 0] 26))
    have HF3 := Lib.hid ((HF2a.out.below hb3).below ((Below.refl _ _).alloc (Nat.le_refl _) (.cells #[.int .i64 0, .int .i64 0, .slice none 0 0, .int .i64 0] 26)))
    have hr3 : (w3.alloc (.cells #[.int .i64 0, .int .i64 0, .slice none 0 0, .int .i64 0] 26)).heap[w2.heap.size]? = some (.cells #[.int .i64 0, .int .i64 0, .slice none 0 0, .int .i64 0] 26 (0, 0)) := (Below.heap_alloc _ _ _ (by omega)).trans ((hb3.block w2.heap.size (by simp)).trans HR2.out)
    have hr4 := heap_alloc_new w3 (.cells #[.int .i64 0, .int .i64 0, .slice none 0 0, .int .i64 0] 26)
    obtain ⟨g0, g1, g2, g3⟩ := cells4 hr3
    have HR3 := Lib.hid hr3
    have HR4 := Lib.hid hr4
    clear hb3 hr3 hr4
    go_wp2_with fail
    generalize hW : w3.alloc (.cells #[.int .i64 0, .int .i64 0, .slice none 0 0, .int .i64 0] 26) = W3 at *
    have hlt3 : w3.heap.size < W3.heap.size := row_lt HR4.out
    clear hW
    refine (qnLayout_any none none 0 0 [] 0 0 0 _ (SlotsR.nil _ _) (SlotsR.nil _ _) (by simp)).mono ?_
    rintro e w4 ⟨rfl, hb4⟩
    have hs4 := hb4.size
    have hr4a := (hb4.block _ (by omega)).trans HR3.out
    have hr4b := (hb4.block _ hlt3).trans HR4.out
    obtain ⟨a0, a1, a2', a3⟩ := cells4 hr4a
    obtain ⟨b0, b1, b2', b3⟩ := cells4 hr4b
    have HB4 := Lib.hid (HB3.out.trans (hb4.mono (by omega)))
    have HF4 := Lib.hid (HF3.out.below hb4)
    clear hb4 hr4a hr4b g0 g1 g2 g3
    go_wp2_with fail
    refine (qnLayout_any none none 0 0 [] 0 0 0 _ (SlotsR.nil _ _) (SlotsR.nil _ _) (by simp)).mono ?_
    rintro e w5 ⟨rfl, hb5⟩
    have HB5 := Lib.hid (HB4.out.trans (hb5.mono (by omega)))
    clear hb5
    go_wp2
    go_ret
    exact ⟨rfl, HB5.out⟩
  · have HF2 := Lib.hid (HF1.out.below hb2)
    have hs2 := hb2.size
    have HB2 := Lib.hid (HB1.out.trans (hb2.mono hs1))
    have HT2 := Lib.hid (HT1.out.below hb2 (by omega))
    have HOK := Lib.hid hok
    have hl12 := fldsOk_len hok
    obtain ⟨A1, cp1, rfl⟩ := own_slice2 hv1
    have HLL := Lib.hid (lay_length l ps0)
    have HSR2 := Lib.hid (SlotsR.of_own (by rw [HLL.out]; exact hv1))
    have HF2a := Lib.hid (HF2.out.below ((Below.refl _ _).alloc (Nat.le_refl _) (.cells #[.int .i64 ((layF l ps0).2.ls.words : Int), .int .i64 ((layF l ps0).2.ptrs : Int), .slice A1 l.length cp1, .int .i64 (layF l ps0).2.tag] 26)))
    have HR2 := Lib.hid (heap_alloc_new w2 (.cells #[.int .i64 ((layF l ps0).2.ls.words : Int), .int .i64 ((layF l ps0).2.ptrs : Int), .slice A1 l.length cp1, .int .i64 (layF l ps0).2.tag] 26))
    have HSR2a := Lib.hid (HSR2.out.below ((Below.refl _ _).alloc (Nat.le_refl _) (.cells #[.int .i64 ((layF l ps0).2.ls.words : Int), .int .i64 ((layF l ps0).2.ptrs : Int), .slice A1 l.length cp1, .int .i64 (layF l ps0).2.tag] 26)))
    clear hb2 hok hv1
    simp only [layV]
    go_wp2_with fail
    refine (specLayoutOf_any A cp l _ (by simp; omega) HF2a.out (by omega)).mono ?_
    rintro e w3 (⟨-, v2, rfl, hv2, hb3⟩ | ⟨hh, _⟩)
    rotate_left
    · rw [HOK.out] at hh; cases hh
    obtain ⟨A2, cp2, rfl⟩ := own_slice2 hv2
    have HSR3 := Lib.hid (SlotsR.of_own (by rw [HLL.out]; exact hv2))
    have hb3s := hb3.size
    simp at hb3s
    have HT3 := Lib.hid (HT2.out.below (((Below.refl w2.heap.size _).alloc (Nat.le_refl _) (.cells #[.int .i64 ((layF l ps0).2.ls.words : Int), .int .i64 ((layF l ps0).2.ptrs : Int), .slice A1 l.length cp1, .int .i64 (layF l ps0).2.tag] 26)).trans (hb3.mono (by simp))) (by omega))
    have HB3 := Lib.hid (((HB2.out.alloc (by omega) (.cells #[.int .i64 ((layF l ps0).2.ls.words : Int), .int .i64 ((layF l ps0).2.ptrs : Int), .slice A1 l.length cp1, .int .i64 (layF l ps0).2.tag] 26)).trans (hb3.mono (by simp; omega))).alloc (by omega) (.cells #[.int .i64 ((layF l ps0).2.ls.words : Int), .int .i64 ((layF l ps0).2.ptrs : Int), .slice A2 l.length cp2, .int .i64 (layF l ps0).2.tag] 26))
    have HF3 := Lib.hid ((HF2a.out.below hb3).below ((Below.refl _ _).alloc (Nat.le_refl _) (.cells #[.int .i64 ((layF l ps0).2.ls.words : Int), .int .i64 ((layF l ps0).2.ptrs : Int), .slice A2 l.length cp2, .int .i64 (layF l ps0).2.tag] 26)))
    have HSRa := Lib.hid ((HSR2a.out.below hb3).below ((Below.refl _ _).alloc (Nat.le_refl _) (.cells #[.int .i64 ((layF l ps0).2.ls.words : Int), .int .i64 ((layF l ps0).2.ptrs : Int), .slice A2 l.length cp2, .int .i64 (layF l ps0).2.tag] 26)))
    have HSRb := Lib.hid (HSR3.out.below ((Below.refl _ _).alloc (Nat.le_refl _) (.cells #[.int .i64 ((layF l ps0).2.ls.words : Int), .int .i64 ((layF l ps0).2.ptrs : Int), .slice A2 l.length cp2, .int .i64 (layF l ps0).2.tag] 26)))
    have hr3 : (w3.alloc (.cells #[.int .i64 ((layF l ps0).2.ls.words : Int), .int .i64 ((layF l ps0).2.ptrs : Int), .slice A2 l.length cp2, .int .i64 (layF l ps0).2.tag] 26)).heap[w2.heap.size]? = some (.cells #[.int .i64 ((layF l ps0).2.ls.words : Int), .int .i64 ((layF l ps0).2.ptrs : Int), .slice A1 l.length cp1, .int .i64 (layF l ps0).2.tag] 26 (0, 0)) := (Below.heap_alloc _ _ _ (by omega)).trans ((hb3.block w2.heap.size (by simp)).trans HR2.out)
    have HTW := Lib.hid (HT3.out.below (R := w3.heap.size) ((Below.refl _ _).alloc (Nat.le_refl _) (.cells #[.int .i64 ((layF l ps0).2.ls.words : Int), .int .i64 ((layF l ps0).2.ptrs : Int), .slice A2 l.length cp2, .int .i64 (layF l ps0).2.tag] 26)) (by omega))
    have hltw : w3.heap.size < (w3.alloc (.cells #[.int .i64 ((layF l ps0).2.ls.words : Int), .int .i64 ((layF l ps0).2.ptrs : Int), .slice A2 l.length cp2, .int .i64 (layF l ps0).2.tag] 26)).heap.size := by simp
    obtain ⟨g0, g1, g2, g3⟩ := cells4 hr3
    have HR3 := Lib.hid hr3
    clear hb3 hr3 hv2
    simp only [layV]
    go_wp2_with fail
    generalize hW : w3.alloc (.cells #[.int .i64 ((layF l ps0).2.ls.words : Int), .int .i64 ((layF l ps0).2.ptrs : Int), .slice A2 l.length cp2, .int .i64 (layF l ps0).2.tag] 26) = W3 at *
    clear hW
    have hq := qnLayout_any A1 A2 cp1 cp2 (layF l ps0).1 ((layF l ps0).2.ls.words : Int) ((layF l ps0).2.ptrs : Int) (layF l ps0).2.tag W3 HSRa.out HSRb.out (by rw [HLL.out]; omega)
    rw [HLL.out] at hq
    refine hq.mono ?_
    clear hq
    rintro e w4 ⟨rfl, hb4⟩
    have hs4 := hb4.size
    have HR4 := Lib.hid ((hb4.block _ (by omega)).trans HR3.out)
    have HB4 := Lib.hid (HB3.out.trans (hb4.mono (by omega)))
    have HF4 := Lib.hid (HF3.out.below hb4)
    have HT4 := Lib.hid (HTW.out.below hb4 (by omega))
    have HS4 := Lib.hid (HSRa.out.below hb4)
    clear hb4 g0 g1 g2 g3
    have HK := Lib.hid (layOk l (fldsOk_at HOK.out))
    obtain ⟨n1, n2, n3, n4⟩ := lay_nums l hl12
    have hmany := HK.out.many
    rw [← cnt_all] at hmany
    have hlt6 := row_lt HR4.out
    generalize ((layF l ps0).2.ls.words : Int) = wq at *
    generalize ((layF l ps0).2.ptrs : Int) = pq at *
    generalize (layF l ps0).2.tag = tq at *
    have hs4w : w.heap.size ≤ w4.heap.size := HB4.out.size
    have HMA := Lib.hid hmany
    clear n1 n2 hmany
    go_wp2
    go_loopw [8, 9] (fun c i wr => ∃ k : Nat, c = .int .i64 (cntC l k : Int) ∧ i = .int .i64 k ∧ k ≤ l.length ∧ Hid (Below w4.heap.size w4 wr)) (fun _ i _ => l.length - (intOf i).toNat)
    case atStart => exact ⟨0, rfl, rfl, by omega, Lib.hid (Below.refl _ _)⟩
    case round =>
      obtain ⟨i, rfl, rfl, hi, HB⟩ := hrel
      have hwr := HB.out.size
      by_cases hlt : i < l.length
      · have hsz := fldsOk_at HOK.out i hlt
        have hal := at_le hl12 hlt
        have hi2 : (i : Int) < (l.length : Int) := by omega
        have hi12 : i ≤ 12 := by omega
        obtain ⟨x, rfl, -⟩ := HF4.out.at_ hlt
        obtain ⟨y, rfl, -⟩ := HS4.out.at_ (k := i) (by rw [HLL.out]; exact hlt)
        have HX := Lib.hid (flds_all HF4.out)
        have HY := Lib.hid (slots_all HS4.out HLL.out)
        have d1 := (HX.out wr HB.out i hlt).c1
        have hcs := cnt_step hlt
        have hcl := cnt_le l i
        have hc0 : 0 ≤ (cntC l i : Int) := by omega
        have hc1 : (cntC l i : Int) ≤ 12 := by omega
        cases hci : (l[i]).choice with
        | false =>
          rw [hci] at d1 hcs
          have HCS : Hid ((cntC l (i + 1) : Int) = (cntC l i : Int)) := Lib.hid (by rw [hcs]; simp)
          clear hcs
          go_wp2
          go_roundw
          case rel => exact ⟨i + 1, by rw [HCS.out], by go_num, by omega, HB⟩
          case measure => simp [intOf]; omega
        | true =>
          rw [hci] at d1 hcs
          have HCS : Hid ((cntC l (i + 1) : Int) = (cntC l i : Int) + 1) := Lib.hid (by rw [hcs]; simp)
          clear hcs
          go_wp2
          go_loopw [10] (fun j wr => ∃ m : Nat, j = .int .i64 m ∧ m ≤ i ∧ Hid (Below w4.heap.size w4 wr)) (fun j _ => i - (intOf j).toNat)
          case atStart => exact ⟨0, rfl, by omega, HB⟩
          case round =>
            obtain ⟨j, rfl, hj, HBj⟩ := hrel
            have hwj := HBj.out.size
            by_cases hjt : j < i
            · have hjl : j < l.length := by omega
              have hjl2 : (j : Int) < (l.length : Int) := by omega
              have hji2 : (j : Int) < (i : Int) := by omega
              have e1 := (HX.out wr HBj.out j hjl).c1
              cases hcj : (l[j]).choice with
              | false =>
                rw [hcj] at e1
                go_wp2
                go_roundw
                case rel => exact ⟨j + 1, by go_num, by omega, HBj⟩
                case measure => simp [intOf]; omega
              | true =>
                rw [hcj] at e1
                have hsj := fldsOk_at HOK.out j hjl
                have haj := at_le hl12 hjl
                have hbu := implLayoutBits_any (some x) cp l i wr (HT4.out.below HBj.out (by omega)) (by omega) (HF4.out.below HBj.out) (by omega)
                have hbv : ∀ W, Below w4.heap.size w4 W → _ := fun W hb => implLayoutBits_any (some x) cp l j W (HT4.out.below hb (by omega)) (by have := hb.size; omega) (HF4.out.below hb) (by omega)
                unfold BitsP at hbu hbv
                by_cases h6 : (l[i]).size = 6
                · by_cases k6 : (l[j]).size = 6
                  · rw [bits_at6 hlt h6] at hbu
                    rw [bits_at6 hjl k6] at hbv
                    have hsp := HK.out.shareP j i hjt hlt h6 k6 hci hcj
                    have HBU := Lib.hid hbu
                    have HBV := Lib.hid hbv
                    clear hbu hbv
                    go_wp2_with fail
                    refine HBU.out.mono ?_
                    rintro e wk ⟨rfl, hbk⟩
                    have HBk := Lib.hid (HBj.out.trans (hbk.mono hwj))
                    have hsk := hbk.size
                    clear hbk
                    go_wp2_with fail
                    refine (HBV.out wk HBk.out).mono ?_
                    rintro e wm ⟨rfl, hbm⟩
                    have HBm := Lib.hid (HBk.out.trans (hbm.mono HBk.out.size))
                    have hsm := hbm.size
                    clear hbm
                    have d0 := (HX.out wm HBm.out i hlt).c0
                    have e0 := (HX.out wm HBm.out j hjl).c0
                    have s0 := HY.out wm HBm.out i hlt
                    have s1 := HY.out wm HBm.out j hjl
                    obtain ⟨a0, a1, a2, a3⟩ := cells4 ((HBm.out.block _ hlt6).trans HR4.out)
                    rw [h6] at d0
                    rw [k6] at e0
                    rw [hsp] at s0
                    generalize (atF l j : Int) = aj at s0 s1
                    have hsn := slot_neq aj
                    have hgn := fun a b c => guard_slot a b aj aj c
                    go_wp2
                    go_big_quiet (fail)
                    go_wp2
                    go_roundw
                    case rel => exact ⟨j + 1, by go_num, by omega, Lib.hid (below_drewN HBm.out _)⟩
                    case measure => simp [intOf]; omega
                  · rw [bits_at6 hlt h6] at hbu
                    rw [bits_at HOK.out hjl k6] at hbv
                    have hdj := dat_n hsj.1 hsj.2 k6 haj
                    generalize frF (l[j]).size (atF l j) = Fj at *
                    generalize toF (l[j]).size (atF l j) = Tj at *
                    obtain ⟨u0, u1, u2, u3, u4, u5, -⟩ := hdj
                    have HBU := Lib.hid hbu
                    have HBV := Lib.hid hbv
                    clear hbu hbv
                    go_wp2_with fail
                    refine HBU.out.mono ?_
                    rintro e wk ⟨rfl, hbk⟩
                    have HBk := Lib.hid (HBj.out.trans (hbk.mono hwj))
                    have hsk := hbk.size
                    clear hbk
                    go_wp2_with fail
                    refine (HBV.out wk HBk.out).mono ?_
                    rintro e wm ⟨rfl, hbm⟩
                    have HBm := Lib.hid (HBk.out.trans (hbm.mono HBk.out.size))
                    have hsm := hbm.size
                    clear hbm
                    have d0 := (HX.out wm HBm.out i hlt).c0
                    have e0 := (HX.out wm HBm.out j hjl).c0
                    have s0 := HY.out wm HBm.out i hlt
                    have s1 := HY.out wm HBm.out j hjl
                    obtain ⟨a0, a1, a2, a3⟩ := cells4 ((HBm.out.block _ hlt6).trans HR4.out)
                    rw [h6] at d0
                    have hzj6 : ((l[j]).size == 6) = false := by simpa using k6
                    generalize (l[j]).size = zj at e0 hzj6
                    have hzj6n : (zj != 6) = true := by simpa using hzj6
                    go_wp2
                    go_big_quiet (fail)
                    go_wp2
                    go_roundw
                    case rel => exact ⟨j + 1, by go_num, by omega, Lib.hid (below_drewN HBm.out _)⟩
                    case measure => simp [intOf]; omega
                · by_cases k6 : (l[j]).size = 6
                  · rw [bits_at HOK.out hlt h6] at hbu
                    rw [bits_at6 hjl k6] at hbv
                    have hdi := dat_n hsz.1 hsz.2 h6 hal
                    generalize frF (l[i]).size (atF l i) = F at *
                    generalize toF (l[i]).size (atF l i) = T at *
                    obtain ⟨f0, f1, t1, hd, b1, b2, -⟩ := hdi
                    have HBU := Lib.hid hbu
                    have HBV := Lib.hid hbv
                    clear hbu hbv
                    go_wp2_with fail
                    refine HBU.out.mono ?_
                    rintro e wk ⟨rfl, hbk⟩
                    have HBk := Lib.hid (HBj.out.trans (hbk.mono hwj))
                    have hsk := hbk.size
                    clear hbk
                    go_wp2_with fail
                    refine (HBV.out wk HBk.out).mono ?_
                    rintro e wm ⟨rfl, hbm⟩
                    have HBm := Lib.hid (HBk.out.trans (hbm.mono HBk.out.size))
                    have hsm := hbm.size
                    clear hbm
                    have d0 := (HX.out wm HBm.out i hlt).c0
                    have e0 := (HX.out wm HBm.out j hjl).c0
                    have s0 := HY.out wm HBm.out i hlt
                    have s1 := HY.out wm HBm.out j hjl
                    obtain ⟨a0, a1, a2, a3⟩ := cells4 ((HBm.out.block _ hlt6).trans HR4.out)
                    have hz6 : ((l[i]).size == 6) = false := by simpa using h6
                    generalize (l[i]).size = zi at d0 hz6
                    have hz6n : (zi != 6) = true := by simpa using hz6
                    rw [k6] at e0
                    go_wp2
                    go_big_quiet (fail)
                    go_wp2
                    go_roundw
                    case rel => exact ⟨j + 1, by go_num, by omega, Lib.hid (below_drewN HBm.out _)⟩
                    case measure => simp [intOf]; omega
                  · rw [bits_at HOK.out hlt h6] at hbu
                    rw [bits_at HOK.out hjl k6] at hbv
                    have hsh := HK.out.share j i hjt hlt h6 k6 hci hcj
                    have hdi := dat_n hsz.1 hsz.2 h6 hal
                    have hdj := dat_n hsj.1 hsj.2 k6 haj
                    generalize frF (l[i]).size (atF l i) = F at *
                    generalize toF (l[i]).size (atF l i) = T at *
                    obtain ⟨f0, f1, t1, hd, b1, b2, -⟩ := hdi
                    generalize frF (l[j]).size (atF l j) = Fj at *
                    generalize toF (l[j]).size (atF l j) = Tj at *
                    obtain ⟨u0, u1, u2, u3, u4, u5, -⟩ := hdj
                    have HBU := Lib.hid hbu
                    have HBV := Lib.hid hbv
                    clear hbu hbv
                    go_wp2_with fail
                    refine HBU.out.mono ?_
                    rintro e wk ⟨rfl, hbk⟩
                    have HBk := Lib.hid (HBj.out.trans (hbk.mono hwj))
                    have hsk := hbk.size
                    clear hbk
                    go_wp2_with fail
                    refine (HBV.out wk HBk.out).mono ?_
                    rintro e wm ⟨rfl, hbm⟩
                    have HBm := Lib.hid (HBk.out.trans (hbm.mono HBk.out.size))
                    have hsm := hbm.size
                    clear hbm
                    have d0 := (HX.out wm HBm.out i hlt).c0
                    have e0 := (HX.out wm HBm.out j hjl).c0
                    have s0 := HY.out wm HBm.out i hlt
                    have s1 := HY.out wm HBm.out j hjl
                    obtain ⟨a0, a1, a2, a3⟩ := cells4 ((HBm.out.block _ hlt6).trans HR4.out)
                    have hz6 : ((l[i]).size == 6) = false := by simpa using h6
                    generalize (l[i]).size = zi at d0 hz6
                    have hz6n : (zi != 6) = true := by simpa using hz6
                    have hzj6 : ((l[j]).size == 6) = false := by simpa using k6
                    generalize (l[j]).size = zj at e0 hzj6
                    have hzj6n : (zj != 6) = true := by simpa using hzj6
                    by_cases hm1 : F < Tj
                    · by_cases hm2 : Fj < T
                      · obtain rfl := hsh hm1 hm2
                        go_wp2
                        go_big_quiet (fail)
                        go_wp2
                        go_roundw
                        case rel => exact ⟨j + 1, by go_num, by omega, Lib.hid (below_drewN HBm.out _)⟩
                        case measure => simp [intOf]; omega
                      · clear hsh
                        have hm2b : decide (Fj < T) = false := decide_eq_false hm2
                        have hm2c : T ≤ Fj := by omega
                        go_wp2
                        go_big_quiet (fail)
                        go_wp2
                        go_roundw
                        case rel => exact ⟨j + 1, by go_num, by omega, Lib.hid (below_drewN HBm.out _)⟩
                        case measure => simp [intOf]; omega
                    · clear hsh
                      have hm1b : decide (F < Tj) = false := decide_eq_false hm1
                      have hm1c : Tj ≤ F := by omega
                      go_wp2
                      go_big_quiet (fail)
                      go_wp2
                      go_roundw
                      case rel => exact ⟨j + 1, by go_num, by omega, Lib.hid (below_drewN HBm.out _)⟩
                      case measure => simp [intOf]; omega
            · obtain rfl : j = i := by omega
              go_wp2
              go_roundw
              case rel => exact ⟨j + 1, by rw [HCS.out], by go_num, by omega, HBj⟩
              case measure => simp [intOf]; omega
      · obtain rfl : i = l.length := by omega
        obtain ⟨a0, a1, a2, a3⟩ := cells4 ((HB.out.block _ hlt6).trans HR4.out)
        have hcl := cnt_le l l.length
        by_cases htn : tq < 0
        · have hc2 : ¬ 2 ≤ (cntC l l.length : Int) := by have := HMA.out; omega
          go_wp2
          go_ret
          exact ⟨ret_bool (by simp; omega), HB4.out.trans (HB.out.mono hs4w)⟩
        · have hc2 : 2 ≤ (cntC l l.length : Int) := by have := HMA.out; omega
          go_wp2
          go_ret
          exact ⟨rfl, HB4.out.trans (HB.out.mono hs4w)⟩
end Go.Proofs.YtfgebmmnlneciaaDoor
