/- The walk of the law that a field more leaves all others where they are. -/
import Derived.Test.YtfgebmmnlneciaaDoorSLayO
import Derived.Test.YtfgebmmnlneciaaDoorDrawFl2
import Derived.Test.YtfgebmmnlneciaaDoorQnLay
import Derived.Test.YtfgebmmnlneciaaDoorMathLay4
namespace Go.Proofs.YtfgebmmnlneciaaDoor
open Go.RowKit
theorem Flds.take {w : World} {A : Option Addr} {l : List Fld} (h : Flds w A l) (k : Nat) : Flds w A (l.take k) := by
  rcases h with h | ⟨x, rfl, hx, hc⟩
  · exact .inl (by rw [h]; simp)
  · refine .inr ⟨x, rfl, hx, fun j f hj => hc j f ?_⟩
    rw [List.getElem?_take] at hj
    split at hj
    · exact hj
    · cases hj
theorem fldsOk_take {l : List Fld} (h : fldsOk l = true) (k : Nat) : fldsOk (l.take k) = true := by
  unfold fldsOk at *
  rw [Bool.and_eq_true, List.all_eq_true] at *
  refine ⟨fun f hf => h.1 f (List.mem_of_mem_take hf), ?_⟩
  have := h.2
  simp only [decide_eq_true_eq] at *
  rw [List.length_take]; omega
theorem getD_take {l : List Nat} {k i : Nat} (h : i < k) : (l.take k).getD i 0 = l.getD i 0 := by
  simp [List.getD, List.getElem?_take, h]
set_option maxHeartbeats 8000000 in
set_option maxRecDepth 100000 in
theorem walkLayoutGrows (w : World) (a : Option Addr) (len cap : Nat) (h : Arg w a len cap) (a2 : Option Addr) (len2 cap2 : Nat) (h2 : Arg w a2 len2 cap2) (ht : Tab w) :
    Calls Tryd.prog 6 #[.slice a len cap, .slice a2 len2 cap2] w fun e w' => e = .returned (.bool true) ∧ Below w.heap.size w w' := by
  have h1w : 1 < w.heap.size := World.block_lt_of_cell? w _ ht.t0
  have hlm := h.1.1
  have hlm2 := h2.1.1
  unfold maxLen at hlm hlm2
  by_cases hbig : 1048576 < len
  · clear h ht h2
    go_enter Tryd.func6, Tryd.ntmps6
    go_wp2
    go_ret
    exact ⟨rfl, Below.refl _ _⟩
  have hsm : len ≤ 1048576 := by omega
  by_cases hbig2 : 1048576 < len2
  · clear h ht h2
    go_enter Tryd.func6, Tryd.ntmps6
    go_wp2
    go_ret
    exact ⟨rfl, Below.refl _ _⟩
  have hsm2 : len2 ≤ 1048576 := by omega
  have HT := Lib.hid ht
  have HA := Lib.hid h
  clear h ht hbig h2 hbig2 hlm hlm2
  go_enter Tryd.func6, Tryd.ntmps6
  go_wp2_with fail
  refine (drawLayoutOf_any a len cap _ HA.out).mono ?_
  rintro e w1 ⟨A, cp, l, rfl, hl, hcp, hf, hb1⟩
  have HT1 := Lib.hid (HT.out.below hb1 h1w)
  have HF1 := Lib.hid hf
  have hs1 := hb1.size
  have HB1 := Lib.hid hb1
  clear hf hb1
  go_wp2_with fail
  refine (implLayoutOf_any A cp l w1 HT1.out (by omega) HF1.out (by omega)).mono ?_
  rintro e w2 (⟨hok, v1, rfl, hv1, hb2⟩ | ⟨hok, rfl, hb2⟩)
  rotate_left
  · have HF2 := Lib.hid (HF1.out.below hb2)
    have hs2 := hb2.size
    have HB2 := Lib.hid (HB1.out.trans (hb2.mono hs1))
    have HOK := Lib.hid hok
    have HF2a := Lib.hid (HF2.out.below ((Below.refl _ _).alloc (Nat.le_refl _) (.cells #[.int .i64 0, .int .i64 0, .slice none 0 0, .int .i64 0] 26)))
    have HR2 := Lib.hid (heap_alloc_new w2 (.cells #[.int .i64 0, .int .i64 0, .slice none 0 0, .int .i64 0] 26))
    clear hb2 hok
    go_wp2_with fail
    refine (specLayoutOf_any A cp l _ (by simp; omega) HF2a.out (by omega)).mono ?_
    rintro e w3 (⟨hh, _⟩ | ⟨-, rfl, hb3⟩)
    · rw [HOK.out] at hh; cases hh
    have hb3s := hb3.size
    simp at hb3s
    have HB3 := Lib.hid (((HB2.out.alloc (by omega) (.cells #[.int .i64 0, .int .i64 0, .slice none 0 0, .int .i64 0] 26)).trans (hb3.mono (by simp; omega))).alloc (by omega) (.cells #[.int .i64 0, .int .i64 0, .slice none 0 0, .int .i64 0] 26))
    have HF3 := Lib.hid ((HF2a.out.below hb3).below ((Below.refl _ _).alloc (Nat.le_refl _) (.cells #[.int .i64 0, .int .i64 0, .slice none 0 0, .int .i64 0] 26)))
    have hr3 : (w3.alloc (.cells #[.int .i64 0, .int .i64 0, .slice none 0 0, .int .i64 0] 26)).heap[w2.heap.size]? = some (.cells #[.int .i64 0, .int .i64 0, .slice none 0 0, .int .i64 0] 26 (0, 0)) := (Below.heap_alloc _ _ _ (by omega)).trans ((hb3.block w2.heap.size (by simp)).trans HR2.out)
    have hr4 := heap_alloc_new w3 (.cells #[.int .i64 0, .int .i64 0, .slice none 0 0, .int .i64 0] 26)
    obtain ⟨g0, g1, g2, g3⟩ := cells4 hr3
    have HR3 := Lib.hid hr3
    have HR4 := Lib.hid hr4
    clear hb3 hr3 hr4
    go_wp2_with fail
    generalize hW : w3.alloc (.cells #[.int .i64 0, .int .i64 0, .slice none 0 0, .int .i64 0] 26) = W3 at *
    have hlt3 : w3.heap.size < W3.heap.size := row_lt HR4.out
    clear hW
    refine (qnLayout_any none none 0 0 [] 0 0 0 _ (SlotsR.nil _ _) (SlotsR.nil _ _) (by simp)).mono ?_
    rintro e w4 ⟨rfl, hb4⟩
    have hs4 := hb4.size
    have hr4a := (hb4.block _ (by omega)).trans HR3.out
    have hr4b := (hb4.block _ hlt3).trans HR4.out
    obtain ⟨a0, a1, a2', a3⟩ := cells4 hr4a
    obtain ⟨b0, b1, b2', b3⟩ := cells4 hr4b
    have HB4 := Lib.hid (HB3.out.trans (hb4.mono (by omega)))
    have HF4 := Lib.hid (HF3.out.below hb4)
    clear hb4 hr4a hr4b g0 g1 g2 g3
    go_wp2_with fail
    refine (qnLayout_any none none 0 0 [] 0 0 0 _ (SlotsR.nil _ _) (SlotsR.nil _ _) (by simp)).mono ?_
    rintro e w5 ⟨rfl, hb5⟩
    have HB5 := Lib.hid (HB4.out.trans (hb5.mono (by omega)))
    clear hb5
    go_wp2
    go_ret
    exact ⟨rfl, HB5.out⟩
  · have HF2 := Lib.hid (HF1.out.below hb2)
    have hs2 := hb2.size
    have HB2 := Lib.hid (HB1.out.trans (hb2.mono hs1))
    have HT2 := Lib.hid (HT1.out.below hb2 (by omega))
    have HOK := Lib.hid hok
    have hl12 := fldsOk_len hok
    obtain ⟨A1, cp1, rfl⟩ := own_slice2 hv1
    have HLL := Lib.hid (lay_length l ps0)
    have HSR2 := Lib.hid (SlotsR.of_own (by rw [HLL.out]; exact hv1))
    have HF2a := Lib.hid (HF2.out.below ((Below.refl _ _).alloc (Nat.le_refl _) (.cells #[.int .i64 ((layF l ps0).2.ls.words : Int), .int .i64 ((layF l ps0).2.ptrs : Int), .slice A1 l.length cp1, .int .i64 (layF l ps0).2.tag] 26)))
    have HR2 := Lib.hid (heap_alloc_new w2 (.cells #[.int .i64 ((layF l ps0).2.ls.words : Int), .int .i64 ((layF l ps0).2.ptrs : Int), .slice A1 l.length cp1, .int .i64 (layF l ps0).2.tag] 26))
    have HSR2a := Lib.hid (HSR2.out.below ((Below.refl _ _).alloc (Nat.le_refl _) (.cells #[.int .i64 ((layF l ps0).2.ls.words : Int), .int .i64 ((layF l ps0).2.ptrs : Int), .slice A1 l.length cp1, .int .i64 (layF l ps0).2.tag] 26)))
    clear hb2 hok hv1
    simp only [layV]
    go_wp2_with fail
    refine (specLayoutOf_any A cp l _ (by simp; omega) HF2a.out (by omega)).mono ?_
    rintro e w3 (⟨-, v2, rfl, hv2, hb3⟩ | ⟨hh, _⟩)
    rotate_left
    · rw [HOK.out] at hh; cases hh
    obtain ⟨A2, cp2, rfl⟩ := own_slice2 hv2
    have HSR3 := Lib.hid (SlotsR.of_own (by rw [HLL.out]; exact hv2))
    have hb3s := hb3.size
    simp at hb3s
    have HT3 := Lib.hid (HT2.out.below (((Below.refl w2.heap.size _).alloc (Nat.le_refl _) (.cells #[.int .i64 ((layF l ps0).2.ls.words : Int), .int .i64 ((layF l ps0).2.ptrs : Int), .slice A1 l.length cp1, .int .i64 (layF l ps0).2.tag] 26)).trans (hb3.mono (by simp))) (by omega))
    have HB3 := Lib.hid (((HB2.out.alloc (by omega) (.cells #[.int .i64 ((layF l ps0).2.ls.words : Int), .int .i64 ((layF l ps0).2.ptrs : Int), .slice A1 l.length cp1, .int .i64 (layF l ps0).2.tag] 26)).trans (hb3.mono (by simp; omega))).alloc (by omega) (.cells #[.int .i64 ((layF l ps0).2.ls.words : Int), .int .i64 ((layF l ps0).2.ptrs : Int), .slice A2 l.length cp2, .int .i64 (layF l ps0).2.tag] 26))
    have HF3 := Lib.hid ((HF2a.out.below hb3).below ((Below.refl _ _).alloc (Nat.le_refl _) (.cells #[.int .i64 ((layF l ps0).2.ls.words : Int), .int .i64 ((layF l ps0).2.ptrs : Int), .slice A2 l.length cp2, .int .i64 (layF l ps0).2.tag] 26)))
    have HSRa := Lib.hid ((HSR2a.out.below hb3).below ((Below.refl _ _).alloc (Nat.le_refl _) (.cells #[.int .i64 ((layF l ps0).2.ls.words : Int), .int .i64 ((layF l ps0).2.ptrs : Int), .slice A2 l.length cp2, .int .i64 (layF l ps0).2.tag] 26)))
    have HSRb := Lib.hid (HSR3.out.below ((Below.refl _ _).alloc (Nat.le_refl _) (.cells #[.int .i64 ((layF l ps0).2.ls.words : Int), .int .i64 ((layF l ps0).2.ptrs : Int), .slice A2 l.length cp2, .int .i64 (layF l ps0).2.tag] 26)))
    have hr3 : (w3.alloc (.cells #[.int .i64 ((layF l ps0).2.ls.words : Int), .int .i64 ((layF l ps0).2.ptrs : Int), .slice A2 l.length cp2, .int .i64 (layF l ps0).2.tag] 26)).heap[w2.heap.size]? = some (.cells #[.int .i64 ((layF l ps0).2.ls.words : Int), .int .i64 ((layF l ps0).2.ptrs : Int), .slice A1 l.length cp1, .int .i64 (layF l ps0).2.tag] 26 (0, 0)) := (Below.heap_alloc _ _ _ (by omega)).trans ((hb3.block w2.heap.size (by simp)).trans HR2.out)
    have HTW := Lib.hid (HT3.out.below (R := w3.heap.size) ((Below.refl _ _).alloc (Nat.le_refl _) (.cells #[.int .i64 ((layF l ps0).2.ls.words : Int), .int .i64 ((layF l ps0).2.ptrs : Int), .slice A2 l.length cp2, .int .i64 (layF l ps0).2.tag] 26)) (by omega))
    have hltw : w3.heap.size < (w3.alloc (.cells #[.int .i64 ((layF l ps0).2.ls.words : Int), .int .i64 ((layF l ps0).2.ptrs : Int), .slice A2 l.length cp2, .int .i64 (layF l ps0).2.tag] 26)).heap.size := by simp
    obtain ⟨g0, g1, g2, g3⟩ := cells4 hr3
    have HR3 := Lib.hid hr3
    clear hb3 hr3 hv2
    simp only [layV]
    go_wp2_with fail
    generalize hW : w3.alloc (.cells #[.int .i64 ((layF l ps0).2.ls.words : Int), .int .i64 ((layF l ps0).2.ptrs : Int), .slice A2 l.length cp2, .int .i64 (layF l ps0).2.tag] 26) = W3 at *
    clear hW
    have hq := qnLayout_any A1 A2 cp1 cp2 (layF l ps0).1 ((layF l ps0).2.ls.words : Int) ((layF l ps0).2.ptrs : Int) (layF l ps0).2.tag W3 HSRa.out HSRb.out (by rw [HLL.out]; omega)
    rw [HLL.out] at hq
    refine hq.mono ?_
    clear hq
    rintro e w4 ⟨rfl, hb4⟩
    have hs4 := hb4.size
    have HR4 := Lib.hid ((hb4.block _ (by omega)).trans HR3.out)
    have HB4 := Lib.hid (HB3.out.trans (hb4.mono (by omega)))
    have HF4 := Lib.hid (HF3.out.below hb4)
    have HT4 := Lib.hid (HTW.out.below hb4 (by omega))
    have HS4 := Lib.hid (HSRa.out.below hb4)
    clear hb4 g0 g1 g2 g3
    obtain ⟨kk, hkk⟩ : ∃ kk, kk = len2 % (l.length + 1) := ⟨_, rfl⟩
    have hkl : kk ≤ l.length := by
      have h' : len2 % (l.length + 1) < l.length + 1 := Nat.mod_lt _ (Nat.succ_pos _)
      omega
    have em : (len2 : Int) % ((l.length : Int) + 1) = (kk : Int) := by rw [hkk, Int.natCast_emod]; rfl
    have et : (len2 : Int).tmod ((l.length : Int) + 1) = (kk : Int) := by rw [Int.tmod_eq_emod_of_nonneg (Int.natCast_nonneg _)]; exact em
    have hkc : kk ≤ cp := by omega
    have HTL : Hid ((l.take kk).length = kk) := Lib.hid (by rw [List.length_take]; omega)
    have HPX := Lib.hid (lay_prefix l kk hkl)
    have HOK2 := Lib.hid (fldsOk_take HOK.out kk)
    have hlo := implLayoutOf_any A cp (l.take kk) w4 HT4.out (by omega) (HF4.out.take kk) (by rw [HTL.out]; omega)
    rw [HTL.out] at hlo
    have HLO := Lib.hid hlo
    have HKK := Lib.hid hkk
    clear hkk hlo
    obtain ⟨m1, m2, m3, m4⟩ := cells4 HR4.out
    have hA : ∀ (P : Prop), (A = none → kk = 0 → P) → ((∃ x, A = some x) → P) → P := fun P p1 p2 => by
      cases hAA : A with
      | some x => exact p2 ⟨x, hAA⟩
      | none =>
        have : l = [] := by
          rcases HF4.out with h | ⟨x, hx, _⟩
          · exact h
          · rw [hAA] at hx; cases hx
        rw [this] at hkl
        exact p1 hAA (by simpa using hkl)
    refine hA _ (fun hn h0 => ?_) (fun hs => ?_)
    · subst hn
      have H0 := Lib.hid h0
      clear h0
      clear hA
      go_wp2_with fail
      refine HLO.out.mono ?_
      rintro e w5 (⟨-, v5, rfl, hv5, hb5⟩ | ⟨hh, _⟩)
      rotate_left
      · rw [HOK2.out] at hh; cases hh
      rw [HTL.out] at hv5
      obtain ⟨A5, cp5, rfl⟩ := own_slice2 hv5
      have hs5 := hb5.size
      have HLK : Hid ((layF (l.take kk) ps0).1.length = kk) := Lib.hid (by rw [lay_length, HTL.out])
      have HSX := Lib.hid ((SlotsR.of_own (by rw [HLK.out]; exact hv5)).below ((Below.refl w5.heap.size w5).alloc (Nat.le_refl _) (.cells #[.int .i64 ((layF (l.take kk) ps0).2.ls.words : Int), .int .i64 ((layF (l.take kk) ps0).2.ptrs : Int), .slice A5 kk cp5, .int .i64 (layF (l.take kk) ps0).2.tag] 26)))
      have HSL := Lib.hid ((HS4.out.below hb5).below ((Below.refl w5.heap.size w5).alloc (Nat.le_refl _) (.cells #[.int .i64 ((layF (l.take kk) ps0).2.ls.words : Int), .int .i64 ((layF (l.take kk) ps0).2.ptrs : Int), .slice A5 kk cp5, .int .i64 (layF (l.take kk) ps0).2.tag] 26)))
      obtain ⟨n1, n2, n3, n4⟩ := cells4 ((hb5.block _ (by omega)).trans HR4.out)
      have hlt5 : w2.heap.size < w5.heap.size := by omega
      have HB5 := Lib.hid ((HB4.out.trans (hb5.mono (by omega))).alloc (by omega) (.cells #[.int .i64 ((layF (l.take kk) ps0).2.ls.words : Int), .int .i64 ((layF (l.take kk) ps0).2.ptrs : Int), .slice A5 kk cp5, .int .i64 (layF (l.take kk) ps0).2.tag] 26))
      clear hb5 hv5 m1 m2 m3 m4
      simp only [layV]
      go_wp2
      go_loopw [13] (fun i wr => ∃ k : Nat, i = .int .i64 k ∧ k ≤ kk ∧ Hid (Below (w5.heap.size + 1) (w5.alloc (.cells #[.int .i64 ((layF (l.take kk) ps0).2.ls.words : Int), .int .i64 ((layF (l.take kk) ps0).2.ptrs : Int), .slice A5 kk cp5, .int .i64 (layF (l.take kk) ps0).2.tag] 26)) wr)) (fun i _ => kk - (intOf i).toNat)
      case atStart => exact ⟨0, rfl, by omega, Lib.hid (Below.refl _ _)⟩
      case round =>
        obtain ⟨k, rfl, hk, HBR⟩ := hrel
        have hwr := HBR.out.size
        simp at hwr
        have HBF := Lib.hid (HB5.out.trans (HBR.out.mono (by omega)))
        obtain ⟨x0, x1, x2, x3⟩ := cells4 ((HBR.out.block w5.heap.size (by omega)).trans (heap_alloc_new w5 _))
        have y0 := ((HBR.out.cell (p := ⟨w2.heap.size, 0, none⟩) (by simp; omega)).trans (World.cell?_alloc_lt w5 _ ⟨w2.heap.size, 0, none⟩ hlt5)).trans n1
        have y1 := ((HBR.out.cell (p := ⟨w2.heap.size, 1, none⟩) (by simp; omega)).trans (World.cell?_alloc_lt w5 _ ⟨w2.heap.size, 1, none⟩ hlt5)).trans n2
        have y2 := ((HBR.out.cell (p := ⟨w2.heap.size, 2, none⟩) (by simp; omega)).trans (World.cell?_alloc_lt w5 _ ⟨w2.heap.size, 2, none⟩ hlt5)).trans n3
        have y3 := ((HBR.out.cell (p := ⟨w2.heap.size, 3, none⟩) (by simp; omega)).trans (World.cell?_alloc_lt w5 _ ⟨w2.heap.size, 3, none⟩ hlt5)).trans n4
        by_cases hlt : k < kk
        · obtain ⟨px, hpx, hx⟩ := (HSX.out.below (HBR.out.mono (by simp))).at_ (k := k) (by rw [HLK.out]; exact hlt)
          obtain ⟨py, hpy, hy⟩ := (HSL.out.below (HBR.out.mono (by simp))).at_ (k := k) (by rw [HLL.out]; omega)
          rw [HPX.out.1, getD_take hlt] at hx
          subst hpx hpy
          have hne := slot_neq
          have hgd := guard_slot
          have hk2 : (k : Int) < (kk : Int) := by omega
          have hk3 : (k : Int) < (l.length : Int) := by omega
          have HPR := Lib.hid hgd
          generalize (((layF l ps0).1.getD k 0 : Nat) : Int) = vv at hx hy
          clear y0 y1 y3 x0 x1 x3
          go_wp2
          go_region
          all_goals
            go_wp2
            go_roundw
            case rel => exact ⟨k + 1, by go_num, by omega, Lib.hid (HBR.out.trans ⟨rfl, rfl, rfl, Nat.le_refl _, fun _ _ => rfl⟩)⟩
            case measure => simp [intOf]; omega
        · obtain rfl : kk = k := by omega
          have f1 : ((layF (l.take kk) ps0).2.ls.words : Int) ≤ ((layF l ps0).2.ls.words : Int) := by have := HPX.out.2.1.words; omega
          have f2 : ((layF (l.take kk) ps0).2.ptrs : Int) ≤ ((layF l ps0).2.ptrs : Int) := by have := HPX.out.2.1.ptrs; omega
          by_cases ht : (layF (l.take kk) ps0).2.tag < 0
          · go_wp2
            go_ret
            exact ⟨rfl, HBF.out⟩
          · have f3 : ((layF (l.take kk) ps0).2.tag == (layF l ps0).2.tag) = true := by
              rcases HPX.out.2.2 with h | h
              · exact absurd h ht
              · simpa using h
            go_wp2
            go_ret
            exact ⟨rfl, HBF.out⟩
    · obtain ⟨xx, rfl⟩ := hs
      clear hA
      go_wp2_with fail
      refine HLO.out.mono ?_
      rintro e w5 (⟨-, v5, rfl, hv5, hb5⟩ | ⟨hh, _⟩)
      rotate_left
      · rw [HOK2.out] at hh; cases hh
      rw [HTL.out] at hv5
      obtain ⟨A5, cp5, rfl⟩ := own_slice2 hv5
      have hs5 := hb5.size
      have HLK : Hid ((layF (l.take kk) ps0).1.length = kk) := Lib.hid (by rw [lay_length, HTL.out])
      have HSX := Lib.hid ((SlotsR.of_own (by rw [HLK.out]; exact hv5)).below ((Below.refl w5.heap.size w5).alloc (Nat.le_refl _) (.cells #[.int .i64 ((layF (l.take kk) ps0).2.ls.words : Int), .int .i64 ((layF (l.take kk) ps0).2.ptrs : Int), .slice A5 kk cp5, .int .i64 (layF (l.take kk) ps0).2.tag] 26)))
      have HSL := Lib.hid ((HS4.out.below hb5).below ((Below.refl w5.heap.size w5).alloc (Nat.le_refl _) (.cells #[.int .i64 ((layF (l.take kk) ps0).2.ls.words : Int), .int .i64 ((layF (l.take kk) ps0).2.ptrs : Int), .slice A5 kk cp5, .int .i64 (layF (l.take kk) ps0).2.tag] 26)))
      obtain ⟨n1, n2, n3, n4⟩ := cells4 ((hb5.block _ (by omega)).trans HR4.out)
      have hlt5 : w2.heap.size < w5.heap.size := by omega
      have HB5 := Lib.hid ((HB4.out.trans (hb5.mono (by omega))).alloc (by omega) (.cells #[.int .i64 ((layF (l.take kk) ps0).2.ls.words : Int), .int .i64 ((layF (l.take kk) ps0).2.ptrs : Int), .slice A5 kk cp5, .int .i64 (layF (l.take kk) ps0).2.tag] 26))
      clear hb5 hv5 m1 m2 m3 m4
      simp only [layV]
      go_wp2
      go_loopw [13] (fun i wr => ∃ k : Nat, i = .int .i64 k ∧ k ≤ kk ∧ Hid (Below (w5.heap.size + 1) (w5.alloc (.cells #[.int .i64 ((layF (l.take kk) ps0).2.ls.words : Int), .int .i64 ((layF (l.take kk) ps0).2.ptrs : Int), .slice A5 kk cp5, .int .i64 (layF (l.take kk) ps0).2.tag] 26)) wr)) (fun i _ => kk - (intOf i).toNat)
      case atStart => exact ⟨0, rfl, by omega, Lib.hid (Below.refl _ _)⟩
      case round =>
        obtain ⟨k, rfl, hk, HBR⟩ := hrel
        have hwr := HBR.out.size
        simp at hwr
        have HBF := Lib.hid (HB5.out.trans (HBR.out.mono (by omega)))
        obtain ⟨x0, x1, x2, x3⟩ := cells4 ((HBR.out.block w5.heap.size (by omega)).trans (heap_alloc_new w5 _))
        have y0 := ((HBR.out.cell (p := ⟨w2.heap.size, 0, none⟩) (by simp; omega)).trans (World.cell?_alloc_lt w5 _ ⟨w2.heap.size, 0, none⟩ hlt5)).trans n1
        have y1 := ((HBR.out.cell (p := ⟨w2.heap.size, 1, none⟩) (by simp; omega)).trans (World.cell?_alloc_lt w5 _ ⟨w2.heap.size, 1, none⟩ hlt5)).trans n2
        have y2 := ((HBR.out.cell (p := ⟨w2.heap.size, 2, none⟩) (by simp; omega)).trans (World.cell?_alloc_lt w5 _ ⟨w2.heap.size, 2, none⟩ hlt5)).trans n3
        have y3 := ((HBR.out.cell (p := ⟨w2.heap.size, 3, none⟩) (by simp; omega)).trans (World.cell?_alloc_lt w5 _ ⟨w2.heap.size, 3, none⟩ hlt5)).trans n4
        by_cases hlt : k < kk
        · obtain ⟨px, hpx, hx⟩ := (HSX.out.below (HBR.out.mono (by simp))).at_ (k := k) (by rw [HLK.out]; exact hlt)
          obtain ⟨py, hpy, hy⟩ := (HSL.out.below (HBR.out.mono (by simp))).at_ (k := k) (by rw [HLL.out]; omega)
          rw [HPX.out.1, getD_take hlt] at hx
          subst hpx hpy
          have hne := slot_neq
          have hgd := guard_slot
          have hk2 : (k : Int) < (kk : Int) := by omega
          have hk3 : (k : Int) < (l.length : Int) := by omega
          have HPR := Lib.hid hgd
          generalize (((layF l ps0).1.getD k 0 : Nat) : Int) = vv at hx hy
          clear y0 y1 y3 x0 x1 x3
          go_wp2
          go_region
          all_goals
            go_wp2
            go_roundw
            case rel => exact ⟨k + 1, by go_num, by omega, Lib.hid (HBR.out.trans ⟨rfl, rfl, rfl, Nat.le_refl _, fun _ _ => rfl⟩)⟩
            case measure => simp [intOf]; omega
        · obtain rfl : kk = k := by omega
          have f1 : ((layF (l.take kk) ps0).2.ls.words : Int) ≤ ((layF l ps0).2.ls.words : Int) := by have := HPX.out.2.1.words; omega
          have f2 : ((layF (l.take kk) ps0).2.ptrs : Int) ≤ ((layF l ps0).2.ptrs : Int) := by have := HPX.out.2.1.ptrs; omega
          by_cases ht : (layF (l.take kk) ps0).2.tag < 0
          · go_wp2
            go_ret
            exact ⟨rfl, HBF.out⟩
          · have f3 : ((layF (l.take kk) ps0).2.tag == (layF l ps0).2.tag) = true := by
              rcases HPX.out.2.2 with h | h
              · exact absurd h ht
              · simpa using h
            go_wp2
            go_ret
            exact ⟨rfl, HBF.out⟩
end Go.Proofs.YtfgebmmnlneciaaDoor
