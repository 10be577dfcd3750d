/- The walk of the law that no two fields stand in one place. -/
import Derived.Test.YtfgebmmnlneciaaDoorSLayO
import Derived.Test.YtfgebmmnlneciaaDoorDrawFl2
import Derived.Test.YtfgebmmnlneciaaDoorQnLay
import Derived.Test.YtfgebmmnlneciaaDoorLayNum
namespace Go.Proofs.YtfgebmmnlneciaaDoor
open Go.RowKit
set_option maxHeartbeats 80000000 in
set_option maxRecDepth 100000 in
theorem walkLayoutOf (w : World) (a : Option Addr) (len cap : Nat) (h : Arg w a len cap) (ht : Tab w) :
    Calls Tryd.prog 5 #[.slice a len cap] w fun e w' => e = .returned (.bool true) ∧ Below w.heap.size w w' := by
  have h1w : 1 < w.heap.size := World.block_lt_of_cell? w _ ht.t0
  have hlm := h.1.1
  unfold maxLen at hlm
  by_cases hbig : 1048576 < len
  · clear h ht
    go_enter Tryd.func5, Tryd.ntmps5
    go_wp2
    go_ret
    exact ⟨rfl, Below.refl _ _⟩
  have hsm : len ≤ 1048576 := by omega
  have HT := Lib.hid ht
  have HA := Lib.hid h
  clear h ht hbig hlm
  go_enter Tryd.func5, Tryd.ntmps5
  go_wp2_with fail
  refine (drawLayoutOf_any a len cap _ HA.out).mono ?_
  rintro e w1 ⟨A, cp, l, rfl, hl, hcp, hf, hb1⟩
  have HT1 := Lib.hid (HT.out.below hb1 h1w)
  have HF1 := Lib.hid hf
  have hs1 := hb1.size
  have HB1 := Lib.hid hb1
  clear hf hb1
  go_wp2_with fail
  refine (implLayoutOf_any A cp l w1 HT1.out (by omega) HF1.out (by omega)).mono ?_
  rintro e w2 (⟨hok, v1, rfl, hv1, hb2⟩ | ⟨hok, rfl, hb2⟩)
  rotate_left
  · have HF2 := Lib.hid (HF1.out.below hb2)
    have hs2 := hb2.size
    have HB2 := Lib.hid (HB1.out.trans (hb2.mono hs1))
    have HOK := Lib.hid hok
    have HF2a := Lib.hid (HF2.out.below ((Below.refl _ _).alloc (Nat.le_refl _) (.cells #[.int .i64 0, .int .i64 0, .slice none 0 0, .int .i64 0] 26)))
    have HR2 := Lib.hid (heap_alloc_new w2 (.cells #[.int .i64 0, .int .i64 0, .slice none 0 0, .int .i64 0] 26))
    clear hb2 hok
    go_wp2_with fail
    refine (specLayoutOf_any A cp l _ (by simp; omega) HF2a.out (by omega)).mono ?_
    rintro e w3 (⟨hh, _⟩ | ⟨-, rfl, hb3⟩)
    · rw [HOK.out] at hh; cases hh
    have hb3s := hb3.size
    simp at hb3s
    have HB3 := Lib.hid (((HB2.out.alloc (by omega) (.cells #[.int .i64 0, .int .i64 0, .slice none 0 0, .int .i64 0] 26)).trans (hb3.mono (by simp; omega))).alloc (by omega) (.cells #[.int .i64 0, .int .i64 0, .slice none 0 0, .int .i64 0] 26))
    have HF3 := Lib.hid ((HF2a.out.below hb3).below ((Below.refl _ _).alloc (Nat.le_refl _) (.cells #[.int .i64 0, .int .i64 0, .slice none 0 0, .int .i64 0] 26)))
    have hr3 : (w3.alloc (.cells #[.int .i64 0, .int .i64 0, .slice none 0 0, .int .i64 0] 26)).heap[w2.heap.size]? = some (.cells #[.int .i64 0, .int .i64 0, .slice none 0 0, .int .i64 0] 26 (0, 0)) := (Below.heap_alloc _ _ _ (by omega)).trans ((hb3.block w2.heap.size (by simp)).trans HR2.out)
    have hr4 := heap_alloc_new w3 (.cells #[.int .i64 0, .int .i64 0, .slice none 0 0, .int .i64 0] 26)
    obtain ⟨g0, g1, g2, g3⟩ := cells4 hr3
    have HR3 := Lib.hid hr3
    have HR4 := Lib.hid hr4
    clear hb3 hr3 hr4
    go_wp2_with fail
    generalize hW : w3.alloc (.cells #[.int .i64 0, .int .i64 0, .slice none 0 0, .int .i64 0] 26) = W3 at *
    have hlt3 : w3.heap.size < W3.heap.size := row_lt HR4.out
    clear hW
    refine (qnLayout_any none none 0 0 [] 0 0 0 _ (SlotsR.nil _ _) (SlotsR.nil _ _) (by simp)).mono ?_
    rintro e w4 ⟨rfl, hb4⟩
    have hs4 := hb4.size
    have hr4a := (hb4.block _ (by omega)).trans HR3.out
    have hr4b := (hb4.block _ hlt3).trans HR4.out
    obtain ⟨a0, a1, a2', a3⟩ := cells4 hr4a
    obtain ⟨b0, b1, b2', b3⟩ := cells4 hr4b
    have HB4 := Lib.hid (HB3.out.trans (hb4.mono (by omega)))
    have HF4 := Lib.hid (HF3.out.below hb4)
    clear hb4 hr4a hr4b g0 g1 g2 g3
    have HFK := Lib.hid (implFieldsOk_any A cp l w4 HF4.out (by omega))
    rw [HOK.out] at HFK
    go_wp2_with fail
    refine HFK.out.mono ?_
    rintro e w5 ⟨rfl, hb5⟩
    have hs5 := hb5.size
    have HF5 := Lib.hid (HF4.out.below hb5)
    have HB5 := Lib.hid (HB4.out.trans (hb5.mono (by omega)))
    have q0 := (hb5.cell (p := ⟨w2.heap.size, 0, none⟩) (by simp; omega)).trans a0
    have q1 := (hb5.cell (p := ⟨w2.heap.size, 1, none⟩) (by simp; omega)).trans a1
    have q2 := (hb5.cell (p := ⟨w2.heap.size, 2, none⟩) (by simp; omega)).trans a2'
    have q3 := (hb5.cell (p := ⟨w2.heap.size, 3, none⟩) (by simp; omega)).trans a3
    have p0 := (hb5.cell (p := ⟨w3.heap.size, 0, none⟩) (by simp; omega)).trans b0
    have p1 := (hb5.cell (p := ⟨w3.heap.size, 1, none⟩) (by simp; omega)).trans b1
    have p2 := (hb5.cell (p := ⟨w3.heap.size, 2, none⟩) (by simp; omega)).trans b2'
    have p3 := (hb5.cell (p := ⟨w3.heap.size, 3, none⟩) (by simp; omega)).trans b3
    have HSK := Lib.hid (specFieldsOk_any A cp l w5 HF5.out (by omega))
    rw [HOK.out] at HSK
    clear hb5 a0 a1 a2' a3 b0 b1 b2' b3
    go_wp2_with fail
    refine HSK.out.mono ?_
    rintro e w6 ⟨rfl, hb6⟩
    have hs6 := hb6.size
    have HF6 := Lib.hid (HF5.out.below hb6)
    have HB6 := Lib.hid (HB5.out.trans (hb6.mono (by omega)))
    have a0 := (hb6.cell (p := ⟨w2.heap.size, 0, none⟩) (by simp; omega)).trans q0
    have a1 := (hb6.cell (p := ⟨w2.heap.size, 1, none⟩) (by simp; omega)).trans q1
    have a2' := (hb6.cell (p := ⟨w2.heap.size, 2, none⟩) (by simp; omega)).trans q2
    have a3 := (hb6.cell (p := ⟨w2.heap.size, 3, none⟩) (by simp; omega)).trans q3
    have b0 := (hb6.cell (p := ⟨w3.heap.size, 0, none⟩) (by simp; omega)).trans p0
    have b1 := (hb6.cell (p := ⟨w3.heap.size, 1, none⟩) (by simp; omega)).trans p1
    have b2' := (hb6.cell (p := ⟨w3.heap.size, 2, none⟩) (by simp; omega)).trans p2
    have b3 := (hb6.cell (p := ⟨w3.heap.size, 3, none⟩) (by simp; omega)).trans p3
    clear hb6 q0 q1 q2 q3 p0 p1 p2 p3
    go_wp2_with fail
    refine (qnLayout_any none none 0 0 [] 0 0 0 _ (SlotsR.nil _ _) (SlotsR.nil _ _) (by simp)).mono ?_
    rintro e w7 ⟨rfl, hb7⟩
    have hs7 := hb7.size
    have HB7 := Lib.hid (HB6.out.trans (hb7.mono (by omega)))
    have HF7 := Lib.hid (HF6.out.below hb7)
    have HFK2 := Lib.hid (implFieldsOk_any A cp l w7 HF7.out (by omega))
    rw [HOK.out] at HFK2
    clear hb7
    go_wp2_with fail
    refine HFK2.out.mono ?_
    rintro e w8 ⟨rfl, hb8⟩
    have hs8 := hb8.size
    have HB8 := Lib.hid (HB7.out.trans (hb8.mono (by omega)))
    have HF8 := Lib.hid (HF7.out.below hb8)
    have HSK2 := Lib.hid (specFieldsOk_any A cp l w8 HF8.out (by omega))
    rw [HOK.out] at HSK2
    clear hb8
    go_wp2_with fail
    refine HSK2.out.mono ?_
    rintro e w9 ⟨rfl, hb9⟩
    have HB9 := Lib.hid (HB8.out.trans (hb9.mono (by omega)))
    clear hb9
    go_wp2
    go_ret
    exact ⟨rfl, HB9.out⟩
  · have HF2 := Lib.hid (HF1.out.below hb2)
    have hs2 := hb2.size
    have HB2 := Lib.hid (HB1.out.trans (hb2.mono hs1))
    have HT2 := Lib.hid (HT1.out.below hb2 (by omega))
    have HOK := Lib.hid hok
    have hl12 := fldsOk_len hok
    obtain ⟨A1, cp1, rfl⟩ := own_slice2 hv1
    have HLL := Lib.hid (lay_length l ps0)
    have HSR2 := Lib.hid (SlotsR.of_own (by rw [HLL.out]; exact hv1))
    have HF2a := Lib.hid (HF2.out.below ((Below.refl _ _).alloc (Nat.le_refl _) (.cells #[.int .i64 ((layF l ps0).2.ls.words : Int), .int .i64 ((layF l ps0).2.ptrs : Int), .slice A1 l.length cp1, .int .i64 (layF l ps0).2.tag] 26)))
    have HR2 := Lib.hid (heap_alloc_new w2 (.cells #[.int .i64 ((layF l ps0).2.ls.words : Int), .int .i64 ((layF l ps0).2.ptrs : Int), .slice A1 l.length cp1, .int .i64 (layF l ps0).2.tag] 26))
    have HSR2a := Lib.hid (HSR2.out.below ((Below.refl _ _).alloc (Nat.le_refl _) (.cells #[.int .i64 ((layF l ps0).2.ls.words : Int), .int .i64 ((layF l ps0).2.ptrs : Int), .slice A1 l.length cp1, .int .i64 (layF l ps0).2.tag] 26)))
    clear hb2 hok hv1
    simp only [layV]
    go_wp2_with fail
    refine (specLayoutOf_any A cp l _ (by simp; omega) HF2a.out (by omega)).mono ?_
    rintro e w3 (⟨-, v2, rfl, hv2, hb3⟩ | ⟨hh, _⟩)
    rotate_left
    · rw [HOK.out] at hh; cases hh
    obtain ⟨A2, cp2, rfl⟩ := own_slice2 hv2
    have HSR3 := Lib.hid (SlotsR.of_own (by rw [HLL.out]; exact hv2))
    have hb3s := hb3.size
    simp at hb3s
    have HT3 := Lib.hid (HT2.out.below (((Below.refl w2.heap.size _).alloc (Nat.le_refl _) (.cells #[.int .i64 ((layF l ps0).2.ls.words : Int), .int .i64 ((layF l ps0).2.ptrs : Int), .slice A1 l.length cp1, .int .i64 (layF l ps0).2.tag] 26)).trans (hb3.mono (by simp))) (by omega))
    have HB3 := Lib.hid (((HB2.out.alloc (by omega) (.cells #[.int .i64 ((layF l ps0).2.ls.words : Int), .int .i64 ((layF l ps0).2.ptrs : Int), .slice A1 l.length cp1, .int .i64 (layF l ps0).2.tag] 26)).trans (hb3.mono (by simp; omega))).alloc (by omega) (.cells #[.int .i64 ((layF l ps0).2.ls.words : Int), .int .i64 ((layF l ps0).2.ptrs : Int), .slice A2 l.length cp2, .int .i64 (layF l ps0).2.tag] 26))
    have HF3 := Lib.hid ((HF2a.out.below hb3).below ((Below.refl _ _).alloc (Nat.le_refl _) (.cells #[.int .i64 ((layF l ps0).2.ls.words : Int), .int .i64 ((layF l ps0).2.ptrs : Int), .slice A2 l.length cp2, .int .i64 (layF l ps0).2.tag] 26)))
    have HSRa := Lib.hid ((HSR2a.out.below hb3).below ((Below.refl _ _).alloc (Nat.le_refl _) (.cells #[.int .i64 ((layF l ps0).2.ls.words : Int), .int .i64 ((layF l ps0).2.ptrs : Int), .slice A2 l.length cp2, .int .i64 (layF l ps0).2.tag] 26)))
    have HSRb := Lib.hid (HSR3.out.below ((Below.refl _ _).alloc (Nat.le_refl _) (.cells #[.int .i64 ((layF l ps0).2.ls.words : Int), .int .i64 ((layF l ps0).2.ptrs : Int), .slice A2 l.length cp2, .int .i64 (layF l ps0).2.tag] 26)))
    have hr3 : (w3.alloc (.cells #[.int .i64 ((layF l ps0).2.ls.words : Int), .int .i64 ((layF l ps0).2.ptrs : Int), .slice A2 l.length cp2, .int .i64 (layF l ps0).2.tag] 26)).heap[w2.heap.size]? = some (.cells #[.int .i64 ((layF l ps0).2.ls.words : Int), .int .i64 ((layF l ps0).2.ptrs : Int), .slice A1 l.length cp1, .int .i64 (layF l ps0).2.tag] 26 (0, 0)) := (Below.heap_alloc _ _ _ (by omega)).trans ((hb3.block w2.heap.size (by simp)).trans HR2.out)
    have HTW := Lib.hid (HT3.out.below (R := w3.heap.size) ((Below.refl _ _).alloc (Nat.le_refl _) (.cells #[.int .i64 ((layF l ps0).2.ls.words : Int), .int .i64 ((layF l ps0).2.ptrs : Int), .slice A2 l.length cp2, .int .i64 (layF l ps0).2.tag] 26)) (by omega))
    have hltw : w3.heap.size < (w3.alloc (.cells #[.int .i64 ((layF l ps0).2.ls.words : Int), .int .i64 ((layF l ps0).2.ptrs : Int), .slice A2 l.length cp2, .int .i64 (layF l ps0).2.tag] 26)).heap.size := by simp
    obtain ⟨g0, g1, g2, g3⟩ := cells4 hr3
    have HR3 := Lib.hid hr3
    clear hb3 hr3 hv2
    simp only [layV]
    go_wp2_with fail
    generalize hW : w3.alloc (.cells #[.int .i64 ((layF l ps0).2.ls.words : Int), .int .i64 ((layF l ps0).2.ptrs : Int), .slice A2 l.length cp2, .int .i64 (layF l ps0).2.tag] 26) = W3 at *
    clear hW
    have hq := qnLayout_any A1 A2 cp1 cp2 (layF l ps0).1 ((layF l ps0).2.ls.words : Int) ((layF l ps0).2.ptrs : Int) (layF l ps0).2.tag W3 HSRa.out HSRb.out (by rw [HLL.out]; omega)
    rw [HLL.out] at hq
    refine hq.mono ?_
    clear hq
    rintro e w4 ⟨rfl, hb4⟩
    have hs4 := hb4.size
    have HR4 := Lib.hid ((hb4.block _ (by omega)).trans HR3.out)
    have HB4 := Lib.hid (HB3.out.trans (hb4.mono (by omega)))
    have HF4 := Lib.hid (HF3.out.below hb4)
    have HT4 := Lib.hid (HTW.out.below hb4 (by omega))
    have HS4 := Lib.hid (HSRa.out.below hb4)
    clear hb4 g0 g1 g2 g3
    have HFK := Lib.hid (implFieldsOk_any A cp l w4 HF4.out (by omega))
    rw [HOK.out] at HFK
    go_wp2_with fail
    refine HFK.out.mono ?_
    rintro e w5 ⟨rfl, hb5⟩
    have hs5 := hb5.size
    have HF5 := Lib.hid (HF4.out.below hb5)
    have HB5 := Lib.hid (HB4.out.trans (hb5.mono (by omega)))
    have HR5 := Lib.hid ((hb5.block _ (by omega)).trans HR4.out)
    have HT5 := Lib.hid (HT4.out.below hb5 (by omega))
    have HS5 := Lib.hid (HS4.out.below hb5)
    have HSK := Lib.hid (specFieldsOk_any A cp l w5 HF5.out (by omega))
    rw [HOK.out] at HSK
    clear hb5
    go_wp2_with fail
    refine HSK.out.mono ?_
    rintro e w6 ⟨rfl, hb6⟩
    have hs6 := hb6.size
    have HF6 := Lib.hid (HF5.out.below hb6)
    have HB6 := Lib.hid (HB5.out.trans (hb6.mono (by omega)))
    have HR6 := Lib.hid ((hb6.block _ (by omega)).trans HR5.out)
    have HT6 := Lib.hid (HT5.out.below hb6 (by omega))
    have HS6 := Lib.hid (HS5.out.below hb6)
    clear hb6
    have HK := Lib.hid (layOk l (fldsOk_at HOK.out))
    obtain ⟨n1, n2, n3, n4⟩ := lay_nums l hl12
    have htin := HK.out.tagIn
    have hlt6 := row_lt HR6.out
    generalize hwq : ((layF l ps0).2.ls.words : Int) = wq at *
    generalize hpq : ((layF l ps0).2.ptrs : Int) = pq at *
    generalize htq : (layF l ps0).2.tag = tq at *
    have n1' : wq ≤ 1000 := by omega
    have n1'' : 0 ≤ wq := by omega
    have n2' : pq ≤ 1000 := by omega
    have n2'' : 0 ≤ pq := by omega
    have HWQ := Lib.hid hwq
    have HPQ := Lib.hid hpq
    have HTQ := Lib.hid htq
    have hs6w : w.heap.size ≤ w6.heap.size := HB6.out.size
    have HTI := Lib.hid htin
    clear hwq hpq htq n1 n2 htin
    go_wp2
    go_loopw [8] (fun i wr => ∃ k : Nat, i = .int .i64 k ∧ k ≤ l.length ∧ Hid (Below w6.heap.size w6 wr)) (fun i _ => l.length - (intOf i).toNat)
    case atStart => exact ⟨0, rfl, by omega, Lib.hid (Below.refl _ _)⟩
    case round =>
      obtain ⟨i, rfl, hi, HB⟩ := hrel
      have hwr := HB.out.size
      by_cases hlt : i < l.length
      · have hsz := fldsOk_at HOK.out i hlt
        have hal := at_le hl12 hlt
        have hi2 : (i : Int) < (l.length : Int) := by omega
        have hi12 : i ≤ 12 := by omega
        obtain ⟨x, rfl, -⟩ := HF6.out.at_ hlt
        obtain ⟨y, rfl, -⟩ := HS6.out.at_ (k := i) (by rw [HLL.out]; exact hlt)
        have HX := Lib.hid (flds_all HF6.out)
        have HY := Lib.hid (slots_all HS6.out HLL.out)
        have hbt := implLayoutBits_any (some x) cp l i wr (HT6.out.below HB.out (by omega)) (by omega) (HF6.out.below HB.out) (by omega)
        unfold BitsP at hbt
        by_cases h6 : (l[i]).size = 6
        · have hpt := HK.out.ptr i hlt h6
          rw [bits_at6 hlt h6] at hbt
          have HBT := Lib.hid hbt
          clear hbt
          go_wp2_with fail
          refine HBT.out.mono ?_
          rintro e w7 ⟨rfl, hb7⟩
          have HB7 := Lib.hid (HB.out.trans (hb7.mono hwr))
          have hs7 := hb7.size
          have d0 := (HX.out w7 HB7.out i hlt).c0
          have s0 := HY.out w7 HB7.out i hlt
          obtain ⟨a0, a1, a2, a3⟩ := cells4 ((HB7.out.block _ hlt6).trans HR6.out)
          rw [h6] at d0
          have hp2 : (atF l i : Int) < pq := by have := HPQ.out; omega
          have hp1 : 0 ≤ (atF l i : Int) := by omega
          generalize (atF l i : Int) = ai at hp1 hp2 s0
          have hp1b : decide (ai < 0) = false := decide_eq_false (by omega)
          have hp2b : decide (pq ≤ ai) = false := decide_eq_false (by omega)
          clear hb7
          as_aux_lemma =>
            go_wp2
            go_big_quiet (fail)
            go_wp2
            go_loopw [12] (fun j wr => ∃ m : Nat, j = .int .i64 m ∧ m ≤ i ∧ Hid (Below w6.heap.size w6 wr)) (fun j _ => i - (intOf j).toNat)
            case atStart => exact ⟨0, rfl, by omega, Lib.hid (below_drewN HB7.out _)⟩
            case round =>
              obtain ⟨j, rfl, hj, HBj⟩ := hrel
              have hwj := HBj.out.size
              by_cases hjt : j < i
              · have hjl : j < l.length := by omega
                have hjl2 : (j : Int) < (l.length : Int) := by omega
                have hji2 : (j : Int) < (i : Int) := by omega
                have hsj := fldsOk_at HOK.out j hjl
                have haj := at_le hl12 hjl
                clear d0 s0 a0 a1 a2 a3
                have hbu := implLayoutBits_any (some x) cp l j wr (HT6.out.below HBj.out (by omega)) (by omega) (HF6.out.below HBj.out) (by omega)
                unfold BitsP at hbu
                by_cases k6 : (l[j]).size = 6
                · rw [bits_at6 hjl k6] at hbu
                  have HBU := Lib.hid hbu
                  clear hbu
                  have hpp := HK.out.ptrs j i hjt hlt h6 k6
                  go_wp2_with fail
                  refine HBU.out.mono ?_
                  rintro e wk ⟨rfl, hbk⟩
                  have HBk := Lib.hid (HBj.out.trans (hbk.mono hwj))
                  have hsk := hbk.size
                  have d0 := (HX.out wk HBk.out i hlt).c0
                  have d1 := (HX.out wk HBk.out i hlt).c1
                  have e0 := (HX.out wk HBk.out j hjl).c0
                  have e1 := (HX.out wk HBk.out j hjl).c1
                  have s0 := HY.out wk HBk.out i hlt
                  have s1 := HY.out wk HBk.out j hjl
                  obtain ⟨a0, a1, a2, a3⟩ := cells4 ((HBk.out.block _ hlt6).trans HR6.out)
                  clear hbk
                  rw [h6] at d0
                  rw [k6] at e0
                  generalize hai : (atF l i : Int) = ai at s0
                  generalize haj : (atF l j : Int) = aj at s1
                  cases hci : (l[i]).choice with
                  | false =>
                    rw [hci] at d1
                    have hne : (ai == aj) = false := by have := hpp (by simp [hci]); simp; omega
                    go_wp2
                    go_big_quiet (fail)
                    go_wp2
                    go_roundw
                    case rel => exact ⟨j + 1, by go_num, by omega, Lib.hid (below_drewN HBk.out _)⟩
                    case measure => simp [intOf]; omega
                  | true =>
                    rw [hci] at d1
                    cases hcj : (l[j]).choice with
                    | false =>
                      rw [hcj] at e1
                      have hne : (ai == aj) = false := by have := hpp (by simp [hcj]); simp; omega
                      go_wp2
                      go_big_quiet (fail)
                      go_wp2
                      go_roundw
                      case rel => exact ⟨j + 1, by go_num, by omega, Lib.hid (below_drewN HBk.out _)⟩
                      case measure => simp [intOf]; omega
                    | true =>
                      rw [hcj] at e1
                      go_wp2
                      go_big_quiet (fail)
                      go_wp2
                      go_roundw
                      case rel => exact ⟨j + 1, by go_num, by omega, Lib.hid (below_drewN HBk.out _)⟩
                      case measure => simp [intOf]; omega
                · rw [bits_at HOK.out hjl k6] at hbu
                  have HBU := Lib.hid hbu
                  clear hbu
                  go_wp2_with fail
                  refine HBU.out.mono ?_
                  rintro e wk ⟨rfl, hbk⟩
                  have HBk := Lib.hid (HBj.out.trans (hbk.mono hwj))
                  have hsk := hbk.size
                  have d0 := (HX.out wk HBk.out i hlt).c0
                  have d1 := (HX.out wk HBk.out i hlt).c1
                  have e0 := (HX.out wk HBk.out j hjl).c0
                  have e1 := (HX.out wk HBk.out j hjl).c1
                  have s0 := HY.out wk HBk.out i hlt
                  have s1 := HY.out wk HBk.out j hjl
                  obtain ⟨a0, a1, a2, a3⟩ := cells4 ((HBk.out.block _ hlt6).trans HR6.out)
                  clear hbk
                  rw [h6] at d0
                  have hzj6 : ((l[j]).size == 6) = false := by simpa using k6
                  generalize (l[j]).size = zj at e0 hzj6
                  have hzj6n : (zj != 6) = true := by simpa using hzj6
                  cases hci : (l[i]).choice with
                  | false =>
                    rw [hci] at d1
                    go_wp2
                    go_big_quiet (fail)
                    go_wp2
                    go_roundw
                    case rel => exact ⟨j + 1, by go_num, by omega, Lib.hid (below_drewN HBk.out _)⟩
                    case measure => simp [intOf]; omega
                  | true =>
                    rw [hci] at d1
                    go_wp2
                    go_big_quiet (fail)
                    go_wp2
                    go_roundw
                    case rel => exact ⟨j + 1, by go_num, by omega, Lib.hid (below_drewN HBk.out _)⟩
                    case measure => simp [intOf]; omega
              · obtain rfl : j = i := by omega
                clear d0 s0 a0 a1 a2 a3
                go_wp2
                go_roundw
                case rel => exact ⟨j + 1, by go_num, by omega, HBj⟩
                case measure => simp [intOf]; omega
        · obtain ⟨hz1, hz2⟩ := hsz
          have hwi := HK.out.within i hlt h6
          have htg := fun h => HK.out.tag h i hlt h6
          rw [HWQ.out] at hwi
          rw [HTQ.out] at htg
          rw [bits_at HOK.out hlt h6] at hbt
          have hdn := dat_n hz1 hz2 h6 hal
          have HBT := Lib.hid hbt
          clear hbt
          generalize hF : frF (l[i]).size (atF l i) = F at *
          generalize hT : toF (l[i]).size (atF l i) = T at *
          obtain ⟨f0, f1, t1, hd, b1, b2, hm⟩ := hdn
          have hmb : F % bitsOf (l[i]).size = 0 := by have hm' := hm; rw [hd, Int.tmod_eq_emod_of_nonneg f0] at hm'; exact hm'
          have hmb2 : (F % bitsOf (l[i]).size != 0) = false := by rw [hmb]; rfl
          have hz6 : ((l[i]).size == 6) = false := by simpa using h6
          go_wp2_with fail
          refine HBT.out.mono ?_
          rintro e w7 ⟨rfl, hb7⟩
          have HB7 := Lib.hid (HB.out.trans (hb7.mono hwr))
          have hs7 := hb7.size
          have d0 := (HX.out w7 HB7.out i hlt).c0
          have s0 := HY.out w7 HB7.out i hlt
          obtain ⟨a0, a1, a2, a3⟩ := cells4 ((HB7.out.block _ hlt6).trans HR6.out)
          have HZN : Hid (¬ (l[i]).size = 6) := Lib.hid h6
          have HFT := Lib.hid (And.intro hF hT)
          generalize hzi : (l[i]).size = zi at d0 hz6
          have HZI := Lib.hid hzi
          clear hzi
          have hz6n : (zi != 6) = true := by simpa using hz6
          have g1 : decide (F < 0) = false := decide_eq_false (by omega)
          have g2 : decide (64 * wq < T) = false := decide_eq_false (by omega)
          clear hb7
          by_cases htn : tq < 0
          · clear htg
            have htn2 : decide (0 ≤ tq) = false := decide_eq_false (by omega)
            as_aux_lemma =>
              go_wp2
              go_big_quiet (fail)
              go_wp2
              go_loopw [12] (fun j wr => ∃ m : Nat, j = .int .i64 m ∧ m ≤ i ∧ Hid (Below w6.heap.size w6 wr)) (fun j _ => i - (intOf j).toNat)
              case atStart => exact ⟨0, rfl, by omega, Lib.hid (by first | exact below_drewN HB7.out _ | exact below_drewN (below_drewN HB7.out _) _)⟩
              case round =>
                obtain ⟨j, rfl, hj, HBj⟩ := hrel
                have hwj := HBj.out.size
                clear hmb hmb2 hm hd b1 b2 f0 f1 t1 g1 g2 htn2 hwi
                try clear hft3
                try clear hft4
                try clear hft2
                try clear hft
                by_cases hjt : j < i
                · have hjl : j < l.length := by omega
                  have hjl2 : (j : Int) < (l.length : Int) := by omega
                  have hji2 : (j : Int) < (i : Int) := by omega
                  have hsj := fldsOk_at HOK.out j hjl
                  have haj := at_le hl12 hjl
                  clear d0 s0 a0 a1 a2 a3
                  have hbu := implLayoutBits_any (some x) cp l j wr (HT6.out.below HBj.out (by omega)) (by omega) (HF6.out.below HBj.out) (by omega)
                  unfold BitsP at hbu
                  by_cases k6 : (l[j]).size = 6
                  · rw [bits_at6 hjl k6] at hbu
                    have HBU := Lib.hid hbu
                    clear hbu
                    go_wp2_with fail
                    refine HBU.out.mono ?_
                    rintro e wk ⟨rfl, hbk⟩
                    have HBk := Lib.hid (HBj.out.trans (hbk.mono hwj))
                    have hsk := hbk.size
                    have d0 := (HX.out wk HBk.out i hlt).c0
                    have d1 := (HX.out wk HBk.out i hlt).c1
                    have e0 := (HX.out wk HBk.out j hjl).c0
                    have e1 := (HX.out wk HBk.out j hjl).c1
                    have s0 := HY.out wk HBk.out i hlt
                    have s1 := HY.out wk HBk.out j hjl
                    obtain ⟨a0, a1, a2, a3⟩ := cells4 ((HBk.out.block _ hlt6).trans HR6.out)
                    clear hbk
                    rw [HZI.out] at d0
                    rw [k6] at e0
                    cases hci : (l[i]).choice
                    all_goals
                      rw [hci] at d1
                      go_wp2
                      go_big_quiet (fail)
                      go_wp2
                      go_roundw
                      case rel => exact ⟨j + 1, by go_num, by omega, Lib.hid (below_drewN HBk.out _)⟩
                      case measure => simp [intOf]; omega
                  · rw [bits_at HOK.out hjl k6] at hbu
                    have HBU := Lib.hid hbu
                    have hpp := HK.out.pair j i hjt hlt HZN.out k6
                    have hdn2 := dat_n hsj.1 hsj.2 k6 haj
                    clear hbu
                    rw [HFT.out.1, HFT.out.2] at hpp
                    generalize frF (l[j]).size (atF l j) = F2 at *
                    generalize toF (l[j]).size (atF l j) = T2 at *
                    go_wp2_with fail
                    refine HBU.out.mono ?_
                    rintro e wk ⟨rfl, hbk⟩
                    have HBk := Lib.hid (HBj.out.trans (hbk.mono hwj))
                    have hsk := hbk.size
                    have d0 := (HX.out wk HBk.out i hlt).c0
                    have d1 := (HX.out wk HBk.out i hlt).c1
                    have e0 := (HX.out wk HBk.out j hjl).c0
                    have e1 := (HX.out wk HBk.out j hjl).c1
                    have s0 := HY.out wk HBk.out i hlt
                    have s1 := HY.out wk HBk.out j hjl
                    obtain ⟨a0, a1, a2, a3⟩ := cells4 ((HBk.out.block _ hlt6).trans HR6.out)
                    clear hbk hdn2
                    rw [HZI.out] at d0
                    have hzj6 : ((l[j]).size == 6) = false := by simpa using k6
                    generalize (l[j]).size = zj at e0 hzj6
                    have hzj6n : (zj != 6) = true := by simpa using hzj6
                    by_cases hb2 : (l[i]).choice = true ∧ (l[j]).choice = true
                    · clear hpp
                      rw [hb2.1] at d1
                      rw [hb2.2] at e1
                      go_wp2
                      go_big_quiet (fail)
                      go_wp2
                      go_roundw
                      case rel => exact ⟨j + 1, by go_num, by omega, Lib.hid (below_drewN HBk.out _)⟩
                      case measure => simp [intOf]; omega
                    · have hpq2 := hpp hb2
                      clear hpp
                      have hboth : ((l[i]).choice && (l[j]).choice) = false := by
                        cases h1 : (l[i]).choice
                        · rfl
                        · cases h2 : (l[j]).choice
                          · rfl
                          · exact absurd ⟨h1, h2⟩ hb2
                      clear hb2
                      by_cases m1 : F < T2
                      · have m2 : decide (F2 < T) = false := decide_eq_false (fun h => hpq2 ⟨m1, h⟩)
                        have m1b : decide (F < T2) = true := decide_eq_true m1
                        clear hpq2
                        cases hci : (l[i]).choice
                        · rw [hci] at d1
                          go_wp2
                          go_big_quiet (fail)
                          go_wp2
                          go_roundw
                          case rel => exact ⟨j + 1, by go_num, by omega, Lib.hid (below_drewN HBk.out _)⟩
                          case measure => simp [intOf]; omega
                        · rw [hci] at d1 hboth
                          rw [Bool.true_and] at hboth
                          rw [hboth] at e1
                          go_wp2
                          go_big_quiet (fail)
                          go_wp2
                          go_roundw
                          case rel => exact ⟨j + 1, by go_num, by omega, Lib.hid (below_drewN HBk.out _)⟩
                          case measure => simp [intOf]; omega
                      · have m1b : decide (F < T2) = false := decide_eq_false m1
                        clear hpq2
                        cases hci : (l[i]).choice
                        · rw [hci] at d1
                          go_wp2
                          go_big_quiet (fail)
                          go_wp2
                          go_roundw
                          case rel => exact ⟨j + 1, by go_num, by omega, Lib.hid (below_drewN HBk.out _)⟩
                          case measure => simp [intOf]; omega
                        · rw [hci] at d1 hboth
                          rw [Bool.true_and] at hboth
                          rw [hboth] at e1
                          go_wp2
                          go_big_quiet (fail)
                          go_wp2
                          go_roundw
                          case rel => exact ⟨j + 1, by go_num, by omega, Lib.hid (below_drewN HBk.out _)⟩
                          case measure => simp [intOf]; omega
                · obtain rfl : j = i := by omega
                  clear d0 s0 a0 a1 a2 a3
                  go_wp2
                  go_roundw
                  case rel => exact ⟨j + 1, by go_num, by omega, HBj⟩
                  case measure => simp [intOf]; omega
          · have htn2 : decide (0 ≤ tq) = true := decide_eq_true (by omega)
            by_cases hft : F < 16 * tq + 16
            · have hft2 : ¬ 16 * tq < T := fun h => htg (by omega) ⟨hft, h⟩
              have hft3 : decide (16 * tq < T) = false := decide_eq_false hft2
              have hft4 : T ≤ 16 * tq := by omega
              clear htg
              as_aux_lemma =>
                go_wp2
                go_big_quiet (fail)
                go_wp2
                go_loopw [12] (fun j wr => ∃ m : Nat, j = .int .i64 m ∧ m ≤ i ∧ Hid (Below w6.heap.size w6 wr)) (fun j _ => i - (intOf j).toNat)
                case atStart => exact ⟨0, rfl, by omega, Lib.hid (by first | exact below_drewN HB7.out _ | exact below_drewN (below_drewN HB7.out _) _)⟩
                case round =>
                  obtain ⟨j, rfl, hj, HBj⟩ := hrel
                  have hwj := HBj.out.size
                  clear hmb hmb2 hm hd b1 b2 f0 f1 t1 g1 g2 htn2 hwi
                  try clear hft3
                  try clear hft4
                  try clear hft2
                  try clear hft
                  by_cases hjt : j < i
                  · have hjl : j < l.length := by omega
                    have hjl2 : (j : Int) < (l.length : Int) := by omega
                    have hji2 : (j : Int) < (i : Int) := by omega
                    have hsj := fldsOk_at HOK.out j hjl
                    have haj := at_le hl12 hjl
                    clear d0 s0 a0 a1 a2 a3
                    have hbu := implLayoutBits_any (some x) cp l j wr (HT6.out.below HBj.out (by omega)) (by omega) (HF6.out.below HBj.out) (by omega)
                    unfold BitsP at hbu
                    by_cases k6 : (l[j]).size = 6
                    · rw [bits_at6 hjl k6] at hbu
                      have HBU := Lib.hid hbu
                      clear hbu
                      go_wp2_with fail
                      refine HBU.out.mono ?_
                      rintro e wk ⟨rfl, hbk⟩
                      have HBk := Lib.hid (HBj.out.trans (hbk.mono hwj))
                      have hsk := hbk.size
                      have d0 := (HX.out wk HBk.out i hlt).c0
                      have d1 := (HX.out wk HBk.out i hlt).c1
                      have e0 := (HX.out wk HBk.out j hjl).c0
                      have e1 := (HX.out wk HBk.out j hjl).c1
                      have s0 := HY.out wk HBk.out i hlt
                      have s1 := HY.out wk HBk.out j hjl
                      obtain ⟨a0, a1, a2, a3⟩ := cells4 ((HBk.out.block _ hlt6).trans HR6.out)
                      clear hbk
                      rw [HZI.out] at d0
                      rw [k6] at e0
                      cases hci : (l[i]).choice
                      all_goals
                        rw [hci] at d1
                        go_wp2
                        go_big_quiet (fail)
                        go_wp2
                        go_roundw
                        case rel => exact ⟨j + 1, by go_num, by omega, Lib.hid (below_drewN HBk.out _)⟩
                        case measure => simp [intOf]; omega
                    · rw [bits_at HOK.out hjl k6] at hbu
                      have HBU := Lib.hid hbu
                      have hpp := HK.out.pair j i hjt hlt HZN.out k6
                      have hdn2 := dat_n hsj.1 hsj.2 k6 haj
                      clear hbu
                      rw [HFT.out.1, HFT.out.2] at hpp
                      generalize frF (l[j]).size (atF l j) = F2 at *
                      generalize toF (l[j]).size (atF l j) = T2 at *
                      go_wp2_with fail
                      refine HBU.out.mono ?_
                      rintro e wk ⟨rfl, hbk⟩
                      have HBk := Lib.hid (HBj.out.trans (hbk.mono hwj))
                      have hsk := hbk.size
                      have d0 := (HX.out wk HBk.out i hlt).c0
                      have d1 := (HX.out wk HBk.out i hlt).c1
                      have e0 := (HX.out wk HBk.out j hjl).c0
                      have e1 := (HX.out wk HBk.out j hjl).c1
                      have s0 := HY.out wk HBk.out i hlt
                      have s1 := HY.out wk HBk.out j hjl
                      obtain ⟨a0, a1, a2, a3⟩ := cells4 ((HBk.out.block _ hlt6).trans HR6.out)
                      clear hbk hdn2
                      rw [HZI.out] at d0
                      have hzj6 : ((l[j]).size == 6) = false := by simpa using k6
                      generalize (l[j]).size = zj at e0 hzj6
                      have hzj6n : (zj != 6) = true := by simpa using hzj6
                      by_cases hb2 : (l[i]).choice = true ∧ (l[j]).choice = true
                      · clear hpp
                        rw [hb2.1] at d1
                        rw [hb2.2] at e1
                        go_wp2
                        go_big_quiet (fail)
                        go_wp2
                        go_roundw
                        case rel => exact ⟨j + 1, by go_num, by omega, Lib.hid (below_drewN HBk.out _)⟩
                        case measure => simp [intOf]; omega
                      · have hpq2 := hpp hb2
                        clear hpp
                        have hboth : ((l[i]).choice && (l[j]).choice) = false := by
                          cases h1 : (l[i]).choice
                          · rfl
                          · cases h2 : (l[j]).choice
                            · rfl
                            · exact absurd ⟨h1, h2⟩ hb2
                        clear hb2
                        by_cases m1 : F < T2
                        · have m2 : decide (F2 < T) = false := decide_eq_false (fun h => hpq2 ⟨m1, h⟩)
                          have m1b : decide (F < T2) = true := decide_eq_true m1
                          clear hpq2
                          cases hci : (l[i]).choice
                          · rw [hci] at d1
                            go_wp2
                            go_big_quiet (fail)
                            go_wp2
                            go_roundw
                            case rel => exact ⟨j + 1, by go_num, by omega, Lib.hid (below_drewN HBk.out _)⟩
                            case measure => simp [intOf]; omega
                          · rw [hci] at d1 hboth
                            rw [Bool.true_and] at hboth
                            rw [hboth] at e1
                            go_wp2
                            go_big_quiet (fail)
                            go_wp2
                            go_roundw
                            case rel => exact ⟨j + 1, by go_num, by omega, Lib.hid (below_drewN HBk.out _)⟩
                            case measure => simp [intOf]; omega
                        · have m1b : decide (F < T2) = false := decide_eq_false m1
                          clear hpq2
                          cases hci : (l[i]).choice
                          · rw [hci] at d1
                            go_wp2
                            go_big_quiet (fail)
                            go_wp2
                            go_roundw
                            case rel => exact ⟨j + 1, by go_num, by omega, Lib.hid (below_drewN HBk.out _)⟩
                            case measure => simp [intOf]; omega
                          · rw [hci] at d1 hboth
                            rw [Bool.true_and] at hboth
                            rw [hboth] at e1
                            go_wp2
                            go_big_quiet (fail)
                            go_wp2
                            go_roundw
                            case rel => exact ⟨j + 1, by go_num, by omega, Lib.hid (below_drewN HBk.out _)⟩
                            case measure => simp [intOf]; omega
                  · obtain rfl : j = i := by omega
                    clear d0 s0 a0 a1 a2 a3
                    go_wp2
                    go_roundw
                    case rel => exact ⟨j + 1, by go_num, by omega, HBj⟩
                    case measure => simp [intOf]; omega
            · clear htg
              have hft3 : decide (F < 16 * tq + 16) = false := decide_eq_false hft
              have hft4 : 16 * tq + 16 ≤ F := by omega
              as_aux_lemma =>
                go_wp2
                go_big_quiet (fail)
                go_wp2
                go_loopw [12] (fun j wr => ∃ m : Nat, j = .int .i64 m ∧ m ≤ i ∧ Hid (Below w6.heap.size w6 wr)) (fun j _ => i - (intOf j).toNat)
                case atStart => exact ⟨0, rfl, by omega, Lib.hid (by first | exact below_drewN HB7.out _ | exact below_drewN (below_drewN HB7.out _) _)⟩
                case round =>
                  obtain ⟨j, rfl, hj, HBj⟩ := hrel
                  have hwj := HBj.out.size
                  clear hmb hmb2 hm hd b1 b2 f0 f1 t1 g1 g2 htn2 hwi
                  try clear hft3
                  try clear hft4
                  try clear hft2
                  try clear hft
                  by_cases hjt : j < i
                  · have hjl : j < l.length := by omega
                    have hjl2 : (j : Int) < (l.length : Int) := by omega
                    have hji2 : (j : Int) < (i : Int) := by omega
                    have hsj := fldsOk_at HOK.out j hjl
                    have haj := at_le hl12 hjl
                    clear d0 s0 a0 a1 a2 a3
                    have hbu := implLayoutBits_any (some x) cp l j wr (HT6.out.below HBj.out (by omega)) (by omega) (HF6.out.below HBj.out) (by omega)
                    unfold BitsP at hbu
                    by_cases k6 : (l[j]).size = 6
                    · rw [bits_at6 hjl k6] at hbu
                      have HBU := Lib.hid hbu
                      clear hbu
                      go_wp2_with fail
                      refine HBU.out.mono ?_
                      rintro e wk ⟨rfl, hbk⟩
                      have HBk := Lib.hid (HBj.out.trans (hbk.mono hwj))
                      have hsk := hbk.size
                      have d0 := (HX.out wk HBk.out i hlt).c0
                      have d1 := (HX.out wk HBk.out i hlt).c1
                      have e0 := (HX.out wk HBk.out j hjl).c0
                      have e1 := (HX.out wk HBk.out j hjl).c1
                      have s0 := HY.out wk HBk.out i hlt
                      have s1 := HY.out wk HBk.out j hjl
                      obtain ⟨a0, a1, a2, a3⟩ := cells4 ((HBk.out.block _ hlt6).trans HR6.out)
                      clear hbk
                      rw [HZI.out] at d0
                      rw [k6] at e0
                      cases hci : (l[i]).choice
                      all_goals
                        rw [hci] at d1
                        go_wp2
                        go_big_quiet (fail)
                        go_wp2
                        go_roundw
                        case rel => exact ⟨j + 1, by go_num, by omega, Lib.hid (below_drewN HBk.out _)⟩
                        case measure => simp [intOf]; omega
                    · rw [bits_at HOK.out hjl k6] at hbu
                      have HBU := Lib.hid hbu
                      have hpp := HK.out.pair j i hjt hlt HZN.out k6
                      have hdn2 := dat_n hsj.1 hsj.2 k6 haj
                      clear hbu
                      rw [HFT.out.1, HFT.out.2] at hpp
                      generalize frF (l[j]).size (atF l j) = F2 at *
                      generalize toF (l[j]).size (atF l j) = T2 at *
                      go_wp2_with fail
                      refine HBU.out.mono ?_
                      rintro e wk ⟨rfl, hbk⟩
                      have HBk := Lib.hid (HBj.out.trans (hbk.mono hwj))
                      have hsk := hbk.size
                      have d0 := (HX.out wk HBk.out i hlt).c0
                      have d1 := (HX.out wk HBk.out i hlt).c1
                      have e0 := (HX.out wk HBk.out j hjl).c0
                      have e1 := (HX.out wk HBk.out j hjl).c1
                      have s0 := HY.out wk HBk.out i hlt
                      have s1 := HY.out wk HBk.out j hjl
                      obtain ⟨a0, a1, a2, a3⟩ := cells4 ((HBk.out.block _ hlt6).trans HR6.out)
                      clear hbk hdn2
                      rw [HZI.out] at d0
                      have hzj6 : ((l[j]).size == 6) = false := by simpa using k6
                      generalize (l[j]).size = zj at e0 hzj6
                      have hzj6n : (zj != 6) = true := by simpa using hzj6
                      by_cases hb2 : (l[i]).choice = true ∧ (l[j]).choice = true
                      · clear hpp
                        rw [hb2.1] at d1
                        rw [hb2.2] at e1
                        go_wp2
                        go_big_quiet (fail)
                        go_wp2
                        go_roundw
                        case rel => exact ⟨j + 1, by go_num, by omega, Lib.hid (below_drewN HBk.out _)⟩
                        case measure => simp [intOf]; omega
                      · have hpq2 := hpp hb2
                        clear hpp
                        have hboth : ((l[i]).choice && (l[j]).choice) = false := by
                          cases h1 : (l[i]).choice
                          · rfl
                          · cases h2 : (l[j]).choice
                            · rfl
                            · exact absurd ⟨h1, h2⟩ hb2
                        clear hb2
                        by_cases m1 : F < T2
                        · have m2 : decide (F2 < T) = false := decide_eq_false (fun h => hpq2 ⟨m1, h⟩)
                          have m1b : decide (F < T2) = true := decide_eq_true m1
                          clear hpq2
                          cases hci : (l[i]).choice
                          · rw [hci] at d1
                            go_wp2
                            go_big_quiet (fail)
                            go_wp2
                            go_roundw
                            case rel => exact ⟨j + 1, by go_num, by omega, Lib.hid (below_drewN HBk.out _)⟩
                            case measure => simp [intOf]; omega
                          · rw [hci] at d1 hboth
                            rw [Bool.true_and] at hboth
                            rw [hboth] at e1
                            go_wp2
                            go_big_quiet (fail)
                            go_wp2
                            go_roundw
                            case rel => exact ⟨j + 1, by go_num, by omega, Lib.hid (below_drewN HBk.out _)⟩
                            case measure => simp [intOf]; omega
                        · have m1b : decide (F < T2) = false := decide_eq_false m1
                          clear hpq2
                          cases hci : (l[i]).choice
                          · rw [hci] at d1
                            go_wp2
                            go_big_quiet (fail)
                            go_wp2
                            go_roundw
                            case rel => exact ⟨j + 1, by go_num, by omega, Lib.hid (below_drewN HBk.out _)⟩
                            case measure => simp [intOf]; omega
                          · rw [hci] at d1 hboth
                            rw [Bool.true_and] at hboth
                            rw [hboth] at e1
                            go_wp2
                            go_big_quiet (fail)
                            go_wp2
                            go_roundw
                            case rel => exact ⟨j + 1, by go_num, by omega, Lib.hid (below_drewN HBk.out _)⟩
                            case measure => simp [intOf]; omega
                  · obtain rfl : j = i := by omega
                    clear d0 s0 a0 a1 a2 a3
                    go_wp2
                    go_roundw
                    case rel => exact ⟨j + 1, by go_num, by omega, HBj⟩
                    case measure => simp [intOf]; omega
      · obtain rfl : i = l.length := by omega
        obtain ⟨a0, a1, a2, a3⟩ := cells4 ((HB.out.block _ hlt6).trans HR6.out)
        by_cases htn : tq < 0
        · go_wp2
          go_ret
          exact ⟨rfl, HB6.out.trans (HB.out.mono hs6w)⟩
        · have hti := HTI.out (by omega)
          go_wp2
          go_ret
          exact ⟨ret_bool (by first | (simp; done) | (simp; omega)), HB6.out.trans (HB.out.mono hs6w)⟩
end Go.Proofs.YtfgebmmnlneciaaDoor
