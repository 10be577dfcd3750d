/- Texts of the proof of the law FnSend, side by side: part 38. -/
import Derived.RangeFuncNested
import Derived.RangeFuncBound
import Derived.RangeFuncCalls
import Derived.RangeFuncLeaves
import Derived.Shelf.Abstract
import Derived.Shelf.RegionOpen
import Derived.OwnWalkIn
import Derived.TacticsInMore
import Derived.LoopNIn
import Derived.LoopIn
import Derived.RangeFuncBox
import Derived.Test.YtlbfffokkhccaaaGreatDoorMSend37
set_option maxHeartbeats 8000000
set_option maxRecDepth 100000
namespace Go.Proofs.YtlbfffokkhccaaaGreatDoor
open Go.RowKit
theorem nz_take (l : List UInt8) (k : Nat) (h : k < l.length) : nzL (l.take (k + 1)) = nzL (l.take k) ++ (if l[k] = 0 then [] else [l[k]]) := by
 rw [List.take_succ_eq_append_getElem h, nzL, List.filter_append, ← nzL]
 by_cases hz : l[k] = 0
 · rw [if_pos hz, hz]; rfl
 · rw [if_neg hz, List.filter_cons, if_pos (by simpa using hz)]; rfl
theorem pkT0 : 87 ≠ 5 := by decide
theorem ptag_next (R : List UInt8) (B b k : Nat) (out : List UInt8) (v : Value) (ws : List (List UInt8)) (w : World) (h : PS B b out v ws w) (hl : ws.length ≤ 200) (hR : out ++ packW ws = R) (hk : 2 * ws.length + 1 ≤ k) (hRl : R.length ≤ 100000) (hBw : B ≤ w.heap.size) :
 Calls Tryz.prog 97 #[.pointer (some ⟨b, 0, none⟩)] w (PNext R B b k w) := by
 have hcl := h.left
 have hfz := BF.frozen h.1 2
 have hblt := h.1.lt
 have hbne : b ≠ w.heap.size := by omega
 have H := Lib.hid h
 obtain ⟨A, cap, rfl, hc1, hc2, hwd, hrg⟩ := h.2
 cases ws with
 | nil =>
  have HR : Hid (PNext R B b k w (.returned .nilFunc) w) := Lib.hid ⟨.nilFunc, 0, by omega, rfl, ⟨out, _, [], H.out, by simp, .inr (.inr (.inr ⟨rfl, by rw [← hR, packW, List.append_nil]⟩))⟩, Keeps.refl _ _ _⟩
  clear h hR hrg hwd hfz
  go_enter Tryz.func97, Tryz.ntmps97
  go_wp2
  go_ret
  exact HR.out
 | cons x r =>
  obtain ⟨g, o, rfl, hgB, hgb, hr⟩ := hrg.resolve_left (by simp)
  have hx8 : x.length = 8 := hwd x (by simp)
  have hr2 := range_word hwd hr 0 (by simp)
  simp only [Nat.mul_zero, Nat.add_zero, List.getElem_cons_zero] at hr2
  have hol := out_le hR hRl
  obtain ⟨b0, b1, b2, b3, b4, b5, b6, b7, rfl⟩ := len8 hx8
  have HR2 := Lib.hid hr2
  have HR := Lib.hid hR
  have HWD := Lib.hid hwd
  have hlr : r.length ≤ 199 := by simp at hl; omega
  have hlen1 : ((([b0, b1, b2, b3, b4, b5, b6, b7] :: r).length : Nat) : Int) = (r.length : Int) + 1 := by simp
  have hcap1 : r.length + 1 ≤ cap := by simpa using hc1
  have HS : Hid (∀ v2, WS B b w v2 r → PS B b out v2 r (w.setCell ⟨b, 2, none⟩ v2)) := Lib.hid (fun v2 hv2 => ⟨H.out.setLeft v2, hv2.keeps (set_keeps B b w 2 v2)⟩)
  have hv2 : r.length + 1 < cap ∨ 1 < r.length + 1 → WS B b w (.slice (some ⟨g, o + 8, none⟩) r.length (cap - 1)) r := fun _ => by
   refine ⟨_, cap - 1, rfl, by omega, by omega, hwd.drop 1, ?_⟩
   by_cases hr0 : r = []
   · exact .inl hr0
   · exact .inr ⟨g, o + 8, rfl, hgB, hgb, by have := range_drop hwd hr 1 (by simp); simpa using this⟩
  clear h hr2 hR hwd hrg hr hx8
  obtain ⟨v2, hv2v, hv2⟩ : ∃ v2, ((cap = 1 → v2 = .slice (some ⟨g, o, none⟩) 0 0) ∧ (cap ≠ 1 → v2 = .slice (some ⟨g, o + 8, none⟩) r.length (cap - 1))) ∧ WS B b w v2 r := by
   by_cases hcc : cap = 1
   · have hr0 : r = [] := List.eq_nil_of_length_eq_zero (by omega)
     exact ⟨_, ⟨fun _ => rfl, fun h => absurd hcc h⟩, by rw [hr0]; exact WS.empty B b w _ 0 (by omega)⟩
   · exact ⟨_, ⟨fun h => absurd h hcc, fun _ => rfl⟩, hv2 (by omega)⟩
  have HPS0 := Lib.hid (HS.out v2 hv2)
  have hKs := set_keeps B b w 2 v2
  have HK0 := Lib.hid hKs
  have hsz0 : (w.setCell ⟨b, 2, none⟩ v2).heap.size = w.heap.size := by simp [World.setCell]
  obtain ⟨W0, hW0⟩ : ∃ W0, w.setCell ⟨b, 2, none⟩ v2 = W0 := ⟨_, rfl⟩
  rw [hW0] at HPS0 HK0 hsz0
  have hbox := heap_alloc_new W0 (.cells (wd [b0, b1, b2, b3, b4, b5, b6, b7]) 87)
  rw [hsz0] at hbox
  have hbl1 : Below W0.heap.size W0 (W0.alloc (.cells (wd [b0, b1, b2, b3, b4, b5, b6, b7]) 87)) := (Below.refl _ _).alloc (Nat.le_refl _) _
  have HPS1 := Lib.hid (HPS0.out.below hbl1 (by omega))
  have HK1 := Lib.hid (HK0.out.trans (Keeps.of_below (hbl1.mono (show B ≤ W0.heap.size by omega))))
  obtain ⟨W1, hW1⟩ : ∃ W1, W0.alloc (.cells (wd [b0, b1, b2, b3, b4, b5, b6, b7]) 87) = W1 := ⟨_, rfl⟩
  rw [hW1] at hbox HPS1 HK1
  have hB1 := Nat.le_trans hBw HK1.out.size
  have HBOX := Lib.hid hbox
  obtain ⟨l, hle⟩ : ∃ l, [b0, b1, b2, b3, b4, b5, b6, b7] = l := ⟨_, rfl⟩
  have hl8 : l.length = 8 := by rw [← hle]; rfl
  have HMask : Hid (Calls Tryz.prog 139 #[.agg (wd [b0, b1, b2, b3, b4, b5, b6, b7])] W1 fun e w' => e = .returned (.int .u8 (maskN l : Nat)) ∧ Below W1.heap.size W1 w') := Lib.hid (by rw [← hle]; exact mask_any _ W1 rfl)
  rw [hle] at HBOX
  rw [wd8] at HMask hW1
  have HW0 := Lib.hid hW0
  have HW1 := Lib.hid hW1
  have hRR := HR.out
  rw [hle] at hRR
  have HRR := Lib.hid hRR
  have hm256 := maskN_lt l
  rw [hl8] at hm256
  have hm256b : maskN l < 256 := hm256
  have HL8 := Lib.hid hl8
  have HLE := Lib.hid hle
  obtain ⟨M, hM⟩ : ∃ M, maskN l = M := ⟨_, rfl⟩
  rw [hM] at HMask hm256b
  have HM := Lib.hid hM
  clear hKs hW0 hbl1 hW1 hbox hRR hm256 hl8 hle hM hv2 HR
  have fin : ∀ w2, Below W1.heap.size W1 w2 → PS B b out v2 r w2 ∧ w2.heap[w.heap.size]? = some (.cells (wd l) 87 (0, 0)) ∧ Keeps B b w w2 ∧ B ≤ w2.heap.size := fun w2 hb => ⟨HPS1.out.below hb hB1, (hb.block _ (row_lt HBOX.out)).trans HBOX.out, HK1.out.trans (Keeps.of_below (hb.mono hB1)), Nat.le_trans hB1 hb.size⟩
  have FIN := Lib.hid fin
  clear fin
  by_cases hcc : cap = 1
  · have hv := hv2v.1 hcc
    subst hv
    subst hcc
    have hr0 : r.length = 0 := by omega
    clear hv2v
    go_enter Tryz.func97, Tryz.ntmps97
    go_wp2_with (refine wpList_load_mid rfl 87 (.tmp 17) rfl g o rfl [.int .u8 b0.toNat, .int .u8 b1.toNat, .int .u8 b2.toNat, .int .u8 b3.toNat, .int .u8 b4.toNat, .int .u8 b5.toNat, .int .u8 b6.toNat, .int .u8 b7.toNat] _ HR2.out Tryz.underlying87 rfl size46 ?_)
    rw [HW0.out, HW1.out]
    refine HMask.out.mono ?_
    rintro e w2 ⟨rfl, hb2⟩
    obtain ⟨hp2, hx2, hk2, hB2⟩ := FIN.out w2 hb2
    have HWB := Lib.hid (fwriteByteO_any 154 B b (Lib.byteCells out) [_] (M : Int) w2 pkT hp2.1 (by rw [Lib.byteCells_length]; omega) hB2)
    have HWS2 := Lib.hid hp2.2
    have HX2 := Lib.hid hx2
    have HK2 := Lib.hid hk2
    clear hp2 hx2 hk2 hb2
    go_wp2_with fail
    refine HWB.out.mono ?_
    rintro e w3 ⟨rfl, hbf, hk3, hot⟩
    have HBF := Lib.hid hbf
    have HX3 := Lib.hid (hot _ _ _ _ (by omega) pkT0 HX2.out)
    have HK3 := Lib.hid (HK2.out.trans hk3)
    have HWS3 := Lib.hid (HWS2.out.keeps hk3)
    have hB3 := Nat.le_trans hB2 hk3.size
    clear hbf hk3 hot
    go_wp2_with (refine wpList_load_wd rfl 87 (.tmp 3) rfl w.heap.size rfl 87 l _ HX3.out Tryz.underlying87 rfl (by rw [HL8.out]; exact size46) ?_)
    have hU0 : Lib.byteCells out ++ [Value.int .u8 (M : Int)] = Lib.byteCells (out ++ [UInt8.ofNat M] ++ nzL (l.take 0)) := by
     have : (UInt8.ofNat M).toNat = M := by rw [UInt8.toNat_ofNat']; omega
     simp [Lib.byteCells, nzL]; omega
    rw [hU0] at HBF
    clear hU0
    go_loopw [35] (fun i wr => ∃ j : Nat, j ≤ 8 ∧ i = .int .i64 j ∧ Hid (BF 154 B b (Lib.byteCells (out ++ [UInt8.ofNat M] ++ nzL (l.take j))) [.slice (some ⟨g, o, none⟩) 0 0] wr) ∧ Hid (Keeps B b w3 wr)) (fun i _ => 8 - (intOf i).toNat)
    case atStart => exact ⟨0, by omega, rfl, HBF, Keeps.refl _ _ _⟩
    case round =>
     obtain ⟨j, hj, rfl, HB, HKR⟩ := hrel
     have hB4 := Nat.le_trans hB3 HKR.out.size
     by_cases hj1 : j < 8
     · have hjl : j < l.length := by rw [HL8.out]; exact hj1
       have hnz := nz_take l j hjl
       have hgd : l[j]?.getD 0 = l[j] := by rw [List.getElem?_eq_getElem hjl]; rfl
       obtain ⟨c, hc⟩ : ∃ c, l[j] = c := ⟨_, rfl⟩
       rw [hc] at hnz hgd
       have hidx := index_wd l j c HL8.out hj1 hgd
       have HNZ := Lib.hid hnz
       have hnl : (nzL (l.take j)).length ≤ 8 := Nat.le_trans (List.length_filter_le _ _) (by rw [List.length_take]; omega)
       clear hnz hgd hc hjl
       by_cases hz : c = 0
       · have hz1 : ((c.toNat : Int) == 0) = true := by rw [hz]; rfl
         have hz2 : ((c.toNat : Int) != 0) = false := by rw [hz]; rfl
         have HE : Hid (nzL (l.take (j + 1)) = nzL (l.take j)) := Lib.hid (by rw [HNZ.out, if_pos hz, List.append_nil])
         clear hz
         go_wp2
         go_roundw
         case rel => exact ⟨j + 1, by omega, by go_num, by rw [HE.out]; exact HB, HKR⟩
         case measure => simp [intOf]; omega
       · have hz1 : ((c.toNat : Int) == 0) = false := by
          rw [beq_eq_false_iff_ne]; intro h; exact hz (UInt8.toNat_inj.1 (show c.toNat = 0 by omega))
         have hz2 : ((c.toNat : Int) != 0) = true := by simp [bne, hz1]
         have HE : Hid (nzL (l.take (j + 1)) = nzL (l.take j) ++ [c]) := Lib.hid (by rw [HNZ.out, if_neg hz])
         have HWB2 := Lib.hid (fwriteByte_any 154 B b _ [_] (c.toNat : Int) wr pkT HB.out (by rw [Lib.byteCells_length, List.length_append, List.length_append, List.length_singleton]; omega) hB4)
         have hcat : ∀ x : List UInt8, Lib.byteCells x ++ [Value.int .u8 (c.toNat : Int)] = Lib.byteCells (x ++ [c]) := fun x => by simp [Lib.byteCells]
         have HCat := Lib.hid hcat
         clear hz hcat
         go_wp2_with fail
         refine HWB2.out.mono ?_
         rintro e w5 ⟨rfl, hb5, hk5⟩
         rw [HCat.out] at hb5
         have HB5 := Lib.hid hb5
         have HK5 := Lib.hid (HKR.out.trans hk5)
         clear hb5 hk5
         go_wp2
         go_roundw
         case rel => exact ⟨j + 1, by omega, by go_num, by rw [HE.out, ← List.append_assoc]; exact HB5, HK5⟩
         case measure => simp [intOf]; omega
     · obtain rfl : j = 8 := by omega
       have hb8 := HB.out
       rw [show l.take 8 = l from List.take_of_length_le (by rw [HL8.out]; exact Nat.le_refl _)] at hb8
       have HFin : Hid (∀ s x, (s = pTag b ∧ x = packW r ∧ 2 * r.length + 1 ≤ 2 * r.length + 2) ∨ (s = pNou b ∧ x = nouL r ∧ True) ∨ (s = pPla b ∧ x = plaL r ∧ True) → out ++ [UInt8.ofNat M] ++ nzL l ++ x = R → PNext R B b k w (.returned s) wr) := Lib.hid (fun s x hs hx => by
        have hps : PS B b (out ++ [UInt8.ofNat M] ++ nzL l) (.slice (some ⟨g, o, none⟩) 0 0) r wr := ⟨hb8, HWS3.out.keeps HKR.out⟩
        rcases hs with ⟨rfl, rfl, _⟩ | ⟨rfl, rfl, _⟩ | ⟨rfl, rfl, _⟩
        · exact ⟨_, 2 * r.length + 2, by rw [List.length_cons] at hk; omega, rfl, ⟨_, _, _, hps, by omega, .inl ⟨rfl, hx, by omega⟩⟩, HK3.out.trans HKR.out⟩
        · exact ⟨_, 2 * r.length + 2, by rw [List.length_cons] at hk; omega, rfl, ⟨_, _, _, hps, by omega, .inr (.inl ⟨rfl, hx, by omega⟩)⟩, HK3.out.trans HKR.out⟩
        · exact ⟨_, 2 * r.length + 2, by rw [List.length_cons] at hk; omega, rfl, ⟨_, _, _, hps, by omega, .inr (.inr (.inl ⟨rfl, hx, by omega⟩))⟩, HK3.out.trans HKR.out⟩)
       have hpk := HRR.out
       rw [packW] at hpk
       clear hb8
       cases hzz : zerL l
       · rw [hzz, if_neg (by simp)] at hpk
         have hM0 : M ≠ 0 := fun h => by
          have := (maskN_zero l).1 (by rw [HM.out]; exact h)
          rw [hzz] at this; cases this
         have hm0 : ((M : Int) == 0) = false := beq_eq_false_iff_ne.2 (by omega)
         cases hff : fullL l
         · rw [hff, if_neg (by simp), HM.out] at hpk
           have hM1 : M ≠ 255 := fun h => by
            have := (mask8_full HL8.out).1 (by rw [HM.out]; exact h)
            rw [hff] at this; cases this
           have hm1 : ((M : Int) == 255) = false := beq_eq_false_iff_ne.2 (by omega)
           have HX := Lib.hid (HFin.out (pTag b) (packW r) (.inl ⟨rfl, rfl, by omega⟩) (by rw [← hpk]; simp))
           unfold pTag at HX
           clear hpk hzz hff hM0 hM1
           go_wp2
           go_ret
           exact HX.out
         · rw [hff, if_pos rfl] at hpk
           have hM1 : M = 255 := by rw [← HM.out]; exact (mask8_full HL8.out).2 hff
           have hm1 : ((M : Int) == 255) = true := by rw [hM1]; rfl
           have HX := Lib.hid (HFin.out (pPla b) (plaL r) (.inr (.inr ⟨rfl, rfl, trivial⟩)) (by rw [← hpk, nz_full hff, hM1, plaL]; simp))
           unfold pPla at HX
           clear hpk hzz hff hM0 hM1
           go_wp2
           go_ret
           exact HX.out
       · rw [hzz, if_pos rfl] at hpk
         have hM0 : M = 0 := by rw [← HM.out]; exact (maskN_zero l).2 hzz
         have hm0 : ((M : Int) == 0) = true := by rw [hM0]; rfl
         have hnz0 : nzL l = [] := by
          rw [nzL, List.filter_eq_nil_iff]
          intro x hx
          have := List.all_eq_true.1 hzz x hx
          simpa using this
         have HX := Lib.hid (HFin.out (pNou b) (nouL r) (.inr (.inl ⟨rfl, rfl, trivial⟩)) (by rw [← hpk, hnz0, hM0, nouL]; simp))
         unfold pNou at HX
         clear hpk hzz hM0 hnz0
         go_wp2
         go_ret
         exact HX.out
  · have hv := hv2v.2 hcc
    subst hv
    clear hv2v
    go_enter Tryz.func97, Tryz.ntmps97
    go_wp2_with (refine wpList_load_mid rfl 87 (.tmp 17) rfl g o rfl [.int .u8 b0.toNat, .int .u8 b1.toNat, .int .u8 b2.toNat, .int .u8 b3.toNat, .int .u8 b4.toNat, .int .u8 b5.toNat, .int .u8 b6.toNat, .int .u8 b7.toNat] _ HR2.out Tryz.underlying87 rfl size46 ?_)
    rw [HW0.out, HW1.out]
    refine HMask.out.mono ?_
    rintro e w2 ⟨rfl, hb2⟩
    obtain ⟨hp2, hx2, hk2, hB2⟩ := FIN.out w2 hb2
    have HWB := Lib.hid (fwriteByteO_any 154 B b (Lib.byteCells out) [_] (M : Int) w2 pkT hp2.1 (by rw [Lib.byteCells_length]; omega) hB2)
    have HWS2 := Lib.hid hp2.2
    have HX2 := Lib.hid hx2
    have HK2 := Lib.hid hk2
    clear hp2 hx2 hk2 hb2
    go_wp2_with fail
    refine HWB.out.mono ?_
    rintro e w3 ⟨rfl, hbf, hk3, hot⟩
    have HBF := Lib.hid hbf
    have HX3 := Lib.hid (hot _ _ _ _ (by omega) pkT0 HX2.out)
    have HK3 := Lib.hid (HK2.out.trans hk3)
    have HWS3 := Lib.hid (HWS2.out.keeps hk3)
    have hB3 := Nat.le_trans hB2 hk3.size
    clear hbf hk3 hot
    go_wp2_with (refine wpList_load_wd rfl 87 (.tmp 3) rfl w.heap.size rfl 87 l _ HX3.out Tryz.underlying87 rfl (by rw [HL8.out]; exact size46) ?_)
    have hU0 : Lib.byteCells out ++ [Value.int .u8 (M : Int)] = Lib.byteCells (out ++ [UInt8.ofNat M] ++ nzL (l.take 0)) := by
     have : (UInt8.ofNat M).toNat = M := by rw [UInt8.toNat_ofNat']; omega
     simp [Lib.byteCells, nzL]; omega
    rw [hU0] at HBF
    clear hU0
    go_loopw [35] (fun i wr => ∃ j : Nat, j ≤ 8 ∧ i = .int .i64 j ∧ Hid (BF 154 B b (Lib.byteCells (out ++ [UInt8.ofNat M] ++ nzL (l.take j))) [.slice (some ⟨g, o + 8, none⟩) r.length (cap - 1)] wr) ∧ Hid (Keeps B b w3 wr)) (fun i _ => 8 - (intOf i).toNat)
    case atStart => exact ⟨0, by omega, rfl, HBF, Keeps.refl _ _ _⟩
    case round =>
     obtain ⟨j, hj, rfl, HB, HKR⟩ := hrel
     have hB4 := Nat.le_trans hB3 HKR.out.size
     by_cases hj1 : j < 8
     · have hjl : j < l.length := by rw [HL8.out]; exact hj1
       have hnz := nz_take l j hjl
       have hgd : l[j]?.getD 0 = l[j] := by rw [List.getElem?_eq_getElem hjl]; rfl
       obtain ⟨c, hc⟩ : ∃ c, l[j] = c := ⟨_, rfl⟩
       rw [hc] at hnz hgd
       have hidx := index_wd l j c HL8.out hj1 hgd
       have HNZ := Lib.hid hnz
       have hnl : (nzL (l.take j)).length ≤ 8 := Nat.le_trans (List.length_filter_le _ _) (by rw [List.length_take]; omega)
       clear hnz hgd hc hjl
       by_cases hz : c = 0
       · have hz1 : ((c.toNat : Int) == 0) = true := by rw [hz]; rfl
         have hz2 : ((c.toNat : Int) != 0) = false := by rw [hz]; rfl
         have HE : Hid (nzL (l.take (j + 1)) = nzL (l.take j)) := Lib.hid (by rw [HNZ.out, if_pos hz, List.append_nil])
         clear hz
         go_wp2
         go_roundw
         case rel => exact ⟨j + 1, by omega, by go_num, by rw [HE.out]; exact HB, HKR⟩
         case measure => simp [intOf]; omega
       · have hz1 : ((c.toNat : Int) == 0) = false := by
          rw [beq_eq_false_iff_ne]; intro h; exact hz (UInt8.toNat_inj.1 (show c.toNat = 0 by omega))
         have hz2 : ((c.toNat : Int) != 0) = true := by simp [bne, hz1]
         have HE : Hid (nzL (l.take (j + 1)) = nzL (l.take j) ++ [c]) := Lib.hid (by rw [HNZ.out, if_neg hz])
         have HWB2 := Lib.hid (fwriteByte_any 154 B b _ [_] (c.toNat : Int) wr pkT HB.out (by rw [Lib.byteCells_length, List.length_append, List.length_append, List.length_singleton]; omega) hB4)
         have hcat : ∀ x : List UInt8, Lib.byteCells x ++ [Value.int .u8 (c.toNat : Int)] = Lib.byteCells (x ++ [c]) := fun x => by simp [Lib.byteCells]
         have HCat := Lib.hid hcat
         clear hz hcat
         go_wp2_with fail
         refine HWB2.out.mono ?_
         rintro e w5 ⟨rfl, hb5, hk5⟩
         rw [HCat.out] at hb5
         have HB5 := Lib.hid hb5
         have HK5 := Lib.hid (HKR.out.trans hk5)
         clear hb5 hk5
         go_wp2
         go_roundw
         case rel => exact ⟨j + 1, by omega, by go_num, by rw [HE.out, ← List.append_assoc]; exact HB5, HK5⟩
         case measure => simp [intOf]; omega
     · obtain rfl : j = 8 := by omega
       have hb8 := HB.out
       rw [show l.take 8 = l from List.take_of_length_le (by rw [HL8.out]; exact Nat.le_refl _)] at hb8
       have HFin : Hid (∀ s x, (s = pTag b ∧ x = packW r ∧ 2 * r.length + 1 ≤ 2 * r.length + 2) ∨ (s = pNou b ∧ x = nouL r ∧ True) ∨ (s = pPla b ∧ x = plaL r ∧ True) → out ++ [UInt8.ofNat M] ++ nzL l ++ x = R → PNext R B b k w (.returned s) wr) := Lib.hid (fun s x hs hx => by
        have hps : PS B b (out ++ [UInt8.ofNat M] ++ nzL l) (.slice (some ⟨g, o + 8, none⟩) r.length (cap - 1)) r wr := ⟨hb8, HWS3.out.keeps HKR.out⟩
        rcases hs with ⟨rfl, rfl, _⟩ | ⟨rfl, rfl, _⟩ | ⟨rfl, rfl, _⟩
        · exact ⟨_, 2 * r.length + 2, by rw [List.length_cons] at hk; omega, rfl, ⟨_, _, _, hps, by omega, .inl ⟨rfl, hx, by omega⟩⟩, HK3.out.trans HKR.out⟩
        · exact ⟨_, 2 * r.length + 2, by rw [List.length_cons] at hk; omega, rfl, ⟨_, _, _, hps, by omega, .inr (.inl ⟨rfl, hx, by omega⟩)⟩, HK3.out.trans HKR.out⟩
        · exact ⟨_, 2 * r.length + 2, by rw [List.length_cons] at hk; omega, rfl, ⟨_, _, _, hps, by omega, .inr (.inr (.inl ⟨rfl, hx, by omega⟩))⟩, HK3.out.trans HKR.out⟩)
       have hpk := HRR.out
       rw [packW] at hpk
       clear hb8
       cases hzz : zerL l
       · rw [hzz, if_neg (by simp)] at hpk
         have hM0 : M ≠ 0 := fun h => by
          have := (maskN_zero l).1 (by rw [HM.out]; exact h)
          rw [hzz] at this; cases this
         have hm0 : ((M : Int) == 0) = false := beq_eq_false_iff_ne.2 (by omega)
         cases hff : fullL l
         · rw [hff, if_neg (by simp), HM.out] at hpk
           have hM1 : M ≠ 255 := fun h => by
            have := (mask8_full HL8.out).1 (by rw [HM.out]; exact h)
            rw [hff] at this; cases this
           have hm1 : ((M : Int) == 255) = false := beq_eq_false_iff_ne.2 (by omega)
           have HX := Lib.hid (HFin.out (pTag b) (packW r) (.inl ⟨rfl, rfl, by omega⟩) (by rw [← hpk]; simp))
           unfold pTag at HX
           clear hpk hzz hff hM0 hM1
           go_wp2
           go_ret
           exact HX.out
         · rw [hff, if_pos rfl] at hpk
           have hM1 : M = 255 := by rw [← HM.out]; exact (mask8_full HL8.out).2 hff
           have hm1 : ((M : Int) == 255) = true := by rw [hM1]; rfl
           have HX := Lib.hid (HFin.out (pPla b) (plaL r) (.inr (.inr ⟨rfl, rfl, trivial⟩)) (by rw [← hpk, nz_full hff, hM1, plaL]; simp))
           unfold pPla at HX
           clear hpk hzz hff hM0 hM1
           go_wp2
           go_ret
           exact HX.out
       · rw [hzz, if_pos rfl] at hpk
         have hM0 : M = 0 := by rw [← HM.out]; exact (maskN_zero l).2 hzz
         have hm0 : ((M : Int) == 0) = true := by rw [hM0]; rfl
         have hnz0 : nzL l = [] := by
          rw [nzL, List.filter_eq_nil_iff]
          intro x hx
          have := List.all_eq_true.1 hzz x hx
          simpa using this
         have HX := Lib.hid (HFin.out (pNou b) (nouL r) (.inr (.inl ⟨rfl, rfl, trivial⟩)) (by rw [← hpk, hnz0, hM0, nouL]; simp))
         unfold pNou at HX
         clear hpk hzz hM0 hnz0
         go_wp2
         go_ret
         exact HX.out
theorem PJ.ended {R : List UInt8} {B b k : Nat} {w : World} (h : PJ R B b k .nilFunc w) : ∃ v ws, PS B b R v ws w := by
 obtain ⟨out, v, ws, hp, _, h | h | h | h⟩ := h
 · cases h.1
 · cases h.1
 · cases h.1
 · exact ⟨v, ws, h.2 ▸ hp⟩
theorem prun_any (R : List UInt8) (B b k : Nat) (v : Value) (w : World) (h : PJ R B b k v w) (hBw : B ≤ w.heap.size) (hRl : R.length ≤ 100000) :
 Calls Tryz.prog 98 #[v] w fun e w' => e = .returned (.tuple #[]) ∧ (∃ k', PJ R B b k' .nilFunc w') ∧ Keeps B b w w' := by
 have H := Lib.hid h
 clear h
 go_enter Tryz.func98, Tryz.ntmps98
 go_wp2_with fail
 go_loopg [0] k (fun k s wr => Hid (PJ R B b k s wr) ∧ Hid (Keeps B b w wr))
 case atStart => exact ⟨H, Keeps.refl _ _ _⟩
 case round =>
  obtain ⟨HJ, HK⟩ := hrel
  have hB := Nat.le_trans hBw HK.out.size
  obtain ⟨out, v0, ws, hp, hl, ⟨rfl, hR, hk⟩ | ⟨rfl, hR, hk⟩ | ⟨rfl, hR, hk⟩ | ⟨rfl, hR⟩⟩ := HJ.out
  · have HN := Lib.hid (ptag_next R B b gk out v0 ws wr hp hl hR hk hRl hB)
    clear hp hR hk HJ
    unfold pTag
    have hneq := neq_fn
    go_wp2_with fail
    refine HN.out.mono ?_
    rintro e w4 ⟨v, k', hk', rfl, hj4, hk4⟩
    have HJ4 := Lib.hid hj4
    have HK4 := Lib.hid (HK.out.trans hk4)
    clear hj4 hk4
    go_wp2
    go_roundg k'
    case measure => exact hk'
    case rel => exact ⟨HJ4, HK4⟩
  · have HN := Lib.hid (pnou_next R B b gk out v0 ws wr hp hl hR hk hRl hB)
    clear hp hR hk HJ
    unfold pNou
    have hneq := neq_fn
    go_wp2_with fail
    refine HN.out.mono ?_
    rintro e w4 ⟨v, k', hk', rfl, hj4, hk4⟩
    have HJ4 := Lib.hid hj4
    have HK4 := Lib.hid (HK.out.trans hk4)
    clear hj4 hk4
    go_wp2
    go_roundg k'
    case measure => exact hk'
    case rel => exact ⟨HJ4, HK4⟩
  · have HN := Lib.hid (ppla_next R B b gk out v0 ws wr hp hl hR hk hRl hB)
    clear hp hR hk HJ
    unfold pPla
    have hneq := neq_fn
    go_wp2_with fail
    refine HN.out.mono ?_
    rintro e w4 ⟨v, k', hk', rfl, hj4, hk4⟩
    have HJ4 := Lib.hid hj4
    have HK4 := Lib.hid (HK.out.trans hk4)
    clear hj4 hk4
    go_wp2
    go_roundg k'
    case measure => exact hk'
    case rel => exact ⟨HJ4, HK4⟩
  · clear hp hR
    have hneq := neq_nil
    go_wp2
    go_end0
    exact ⟨rfl, ⟨gk, HJ.out⟩, HK.out⟩
open Go.RowKit Go.Shelf
attribute [local go_sem] Oper.semAt_some
abbrev W8 := { l : List UInt8 // l.length = 8 }
def wordQ (l : List UInt8) (i : Nat) : W8 := ⟨(l.drop (8 * i) ++ [0, 0, 0, 0, 0, 0, 0, 0]).take 8, by simp⟩
theorem wordQ_in (l : List UInt8) (i : Nat) (h : 8 * i + 8 ≤ l.length) : (wordQ l i).1 = (l.drop (8 * i)).take 8 := by
 show List.take 8 (l.drop (8 * i) ++ [0, 0, 0, 0, 0, 0, 0, 0]) = _
 rw [List.take_append_of_le_length (by simp; omega)]
def wordsQ (l : List UInt8) : List W8 := (List.range (l.length / 8)).map (wordQ l)
theorem wordsQ_length (l : List UInt8) : (wordsQ l).length = l.length / 8 := by simp [wordsQ]
theorem upto_snoc (l : List UInt8) (k : Nat) : (List.range (k + 1)).map (wordQ l) = (List.range k).map (wordQ l) ++ [wordQ l k] := by rw [List.range_succ, List.map_append]; rfl
theorem upto_pre (l : List UInt8) (k : Nat) (h : k ≤ l.length / 8) : (List.range k).map (wordQ l) <+: wordsQ l := by
 obtain ⟨j, hj⟩ : ∃ j, l.length / 8 = k + j := ⟨l.length / 8 - k, by omega⟩
 rw [wordsQ, hj, List.range_add, List.map_append]
 exact List.prefix_append _ _
def KeepBox (Bn : Nat) (A B : World) : Prop := B.heap[Bn]? = A.heap[Bn]?
theorem grown_of_below {w w' : World} (h : Below w.heap.size w w') : w.grownBy w' none := ⟨h.os, h.tape, h.output, h.size, fun k hk _ => h.block k hk⟩
theorem words1_in (n : Nat) (_hn : 1 ≤ n) (l Bn : Nat) (s : ByteArray) (hs : s.size ≤ maxLen) (J Jx : List W8 → World → Prop) (W : World) (hJ : AbidesFrom W.heap.size J)
 (hY : ∀ pre x W1, J pre W1 → pre.length < s.size / 8 → YieldAt Fence.wide (n - 1) Tryz.prog l #[.agg (wd x.1)] W1 fun e W' =>
  (e = .returned (.bool true) ∧ J (pre ++ [x]) W' ∧ KeepBox Bn W1 W') ∨ (e = .returned (.bool false) ∧ Jx (pre ++ [x]) W'))
 (hBn : W.heap[Bn]? = some (.cells #[.string s] 9 (0, 0))) (h0 : J [] W) :
 CallsIn Fence.wide n Tryz.prog 138 #[.func (.yield l) #[] #[], .pointer (some ⟨Bn, 0, none⟩)] W fun e W' => (∃ v, e = .returned v) ∧
  ((∃ ys, ys = wordsQ s.data.toList ∧ J ys W') ∨ (∃ pre, pre <+: wordsQ s.data.toList ∧ Jx pre W')) := by
 have hs' := hs
 unfold maxLen at hs'
 have hsl : s.data.toList.length = s.size := by simp
 have HSL := Lib.hid hsl
 clear hsl
 have hBlt := (Array.getElem?_eq_some_iff.1 hBn).1
 have hc0 := Boxed.cell (t := 9) hBn
 refine callsIn_of_wp Tryz.func138 rfl trivial ?_ rfl
 simp only [Tryz.ntmps138, List.size_toArray, List.length_cons, List.length_nil, Nat.reduceAdd, Nat.reduceSub, Array.replicate_succ, Array.replicate_zero, List.push_toArray, List.append_toArray, List.nil_append, List.cons_append]
 gi_wp2
 gi_loopw [3, 7] (fun _ i wr => ∃ k : Nat, k ≤ s.size / 8 ∧ i = .int .i64 k ∧ J ((List.range k).map (wordQ s.data.toList)) wr ∧ Hid (wr.heap[Bn]? = some (.cells #[.string s] 9 (0, 0)))) (fun _ i _ => s.size / 8 - (intOf i).toNat)
 case atStart => exact ⟨0, by omega, rfl, h0, hBn⟩
 case round =>
  obtain ⟨k, hk, rfl, hJs, HB⟩ := hrel
  by_cases hk1 : k < s.size / 8
  · have hcell := Boxed.cell (t := 9) HB.out
    have hlt1 : decide ((k : Int) < (s.size : Int) / 8) = true := by simp; omega
    gi_wp2_with fail
    have hwq := wordQ_in s.data.toList k (by rw [HSL.out]; omega)
    have HWQ := Lib.hid hwq
    clear hwq
    refine ⟨trivial, (callsIn_wide.2 (wordAt_any s k _ hs (by omega) (by omega))).mono ?_⟩
    rintro e w1 ⟨rfl, hb1⟩
    rw [Int.toNat_natCast, ← HWQ.out]
    have hJ1 := hJ _ _ _ none hJs (grown_of_below hb1) (fun r e => by cases e)
    have HB1 : Hid (w1.heap[Bn]? = some (.cells #[.string s] 9 (0, 0))) := Lib.hid ((hb1.block Bn (Array.getElem?_eq_some_iff.1 HB.out).1).trans HB.out)
    obtain ⟨fn, tmps, assign, body, hy, hR⟩ := hY _ (wordQ s.data.toList k) w1 hJ1 (by simpa using hk1)
    clear hb1 hcell
    generalize hx : wd (wordQ s.data.toList k).1 = x at hy ⊢
    have HX := Lib.hid hx
    clear hx
    gi_wp2
    refine hR.mono ?_
    rintro e W3 (⟨rfl, hJ3, hk3⟩ | ⟨rfl, hJx3⟩)
    · gi_wp2
      go_roundw
      case rel => exact ⟨k + 1, by omega, by go_num, by rw [upto_snoc]; exact hJ3, hk3.trans HB1.out⟩
      case measure => simp [intOf]; omega
    · gi_wp2
      refine bodyPost_ret (results_none rfl _ _ _) rfl ?_
      exact ⟨⟨_, rfl⟩, .inr ⟨_, by rw [← upto_snoc]; exact upto_pre _ _ (by rw [HSL.out]; omega), hJx3⟩⟩
  · obtain rfl : k = s.size / 8 := by omega
    have hlt1 : decide (((s.size / 8 : Nat) : Int) < (s.size : Int) / 8) = false := by simp
    gi_wp2
    go_end0
    exact ⟨⟨_, rfl⟩, .inl ⟨_, by rw [wordsQ, HSL.out], hJs⟩⟩
theorem words_stops (n : Nat) (hn : 1 ≤ n) (Bn : Nat) (s : ByteArray) (hs : s.size ≤ maxLen) (w : World) (hBn : w.heap[Bn]? = some (.cells #[.string s] 9 (0, 0))) :
 SeqStopsK Fence.wide n Tryz.prog 138 #[.pointer (some ⟨Bn, 0, none⟩)] (fun x : W8 => #[Value.agg (wd x.1)]) (KeepBox Bn) (fun ys => ys = wordsQ s.data.toList) (fun pre => pre <+: wordsQ s.data.toList) (s.size / 8) w := fun l J Jx W hW hJ _ hY h0 =>
 words1_in n hn l Bn s hs J Jx W hJ hY ((hW.block Bn (Array.getElem?_eq_some_iff.1 hBn).1).trans hBn) h0
end Go.Proofs.YtlbfffokkhccaaaGreatDoor
namespace Go.Proofs.YtlbfffokkhccaaaGreatDoor
open Go.RowKit Go.Shelf
attribute [local go_sem] Oper.semAt_some
theorem box_bytes2 {w : World} {B : Nat} {x : W8} {T : TypeId} (h : w.heap[B]? = some (.cells (wd x.1) T (0, 0))) :
 ∃ b0 b1 b2 b3 b4 b5 b6 b7 : UInt8, x.1 = [b0, b1, b2, b3, b4, b5, b6, b7] ∧
  w.cell? ⟨B, 0, none⟩ = some (.int .u8 b0.toNat) ∧ w.cell? ⟨B, 1, none⟩ = some (.int .u8 b1.toNat) ∧ w.cell? ⟨B, 2, none⟩ = some (.int .u8 b2.toNat) ∧ w.cell? ⟨B, 3, none⟩ = some (.int .u8 b3.toNat) ∧
  w.cell? ⟨B, 4, none⟩ = some (.int .u8 b4.toNat) ∧ w.cell? ⟨B, 5, none⟩ = some (.int .u8 b5.toNat) ∧ w.cell? ⟨B, 6, none⟩ = some (.int .u8 b6.toNat) ∧ w.cell? ⟨B, 7, none⟩ = some (.int .u8 b7.toNat) := by
 obtain ⟨b0, b1, b2, b3, b4, b5, b6, b7, hx⟩ := len8 x.2
 rw [hx, wd8] at h
 refine ⟨b0, b1, b2, b3, b4, b5, b6, b7, hx, ?_, ?_, ?_, ?_, ?_, ?_, ?_, ?_⟩
 all_goals (rw [cell_of_row _ _ _ _ _ _ h]; rfl)
theorem wordsOf_in2 (n : Nat) (s : ByteArray) (w : World) :
 CallsIn Fence.wide n Tryz.prog 96 #[.string s] w fun e w' => e = .returned (.func (.func 138) #[] #[.pointer (some ⟨w.heap.size, 0, none⟩)]) ∧ w' = w.alloc (.cells #[.string s] 9) := by
 refine callsIn_of_wp Tryz.func96 rfl trivial ?_ rfl
 simp only [Tryz.ntmps96, List.size_toArray, List.length_cons, List.length_nil, Nat.reduceAdd, Nat.reduceSub, Array.replicate_succ, Array.replicate_zero, List.push_toArray, List.append_toArray, List.nil_append, List.cons_append]
 gi_wp2
 go_ret
 exact ⟨rfl, rfl⟩
theorem infoWdC : (Tryz.prog.info? 87).map (fun i => (i.zero, i.size, i.bytes)) = some (some (.agg #[.int .u8 0, .int .u8 0, .int .u8 0, .int .u8 0, .int .u8 0, .int .u8 0, .int .u8 0, .int .u8 0]), 8, 8) := by kernel_rfl
theorem cells_new (w : World) (xs : Array Value) (t : TypeId) : ∀ j u, xs.toList[j]? = some u → (w.alloc (.cells xs t)).cell? (Addr.add ⟨w.heap.size, 0, none⟩ j) = some u := fun j u h => by
 rw [show Addr.add ⟨w.heap.size, 0, none⟩ j = ⟨w.heap.size, j, none⟩ by cases j <;> simp [Addr.add], cell_of_row _ _ _ _ _ _ (heap_alloc_new w _)]
 simpa using h
def wl (l : List W8) : List (List UInt8) := l.map (·.1)
theorem wl_len (l : List W8) : (wl l).length = l.length := by simp [wl]
theorem wl_wds (l : List W8) : Wds (wl l) := fun x hx => by
 obtain ⟨y, _, rfl⟩ := List.mem_map.1 hx
 exact y.2
theorem wl_snoc (l : List W8) (x : W8) : (wl (l ++ [x])).flatten = (wl l).flatten ++ x.1 := by simp [wl]
def Coll (B : Nat) (v : Value) (l : List W8) (W : World) : Prop := W.ownsRow B 87 8 v l.length (Lib.byteCells (wl l).flatten)
theorem tne : 114 ≠ 87 := by decide
theorem appendSeq_in (s : ByteArray) (w : World) (hs : s.size ≤ 1600) (Bn : Nat) (hBn : Boxed w Bn 9 (.string s)) :
 CallsIn Fence.wide 5 Tryz.prog 137 #[.slice none 0 0, .func (.func 138) #[] #[.pointer (some ⟨Bn, 0, none⟩)]] w fun e w' => ∃ v, e = .returned v ∧ Coll w.heap.size v (wordsQ s.data.toList) w' ∧ Below w.heap.size w w' := by
 have hsl : s.data.toList.length = s.size := by simp
 obtain ⟨i0, hi, hz0, hz1, hz2⟩ := info_parts infoWdC
 refine callsIn_of_wp_marks Tryz.func137 rfl trivial ?_ rfl
 simp only [Tryz.ntmps137, List.size_toArray, List.length_cons, List.length_nil, Nat.reduceAdd, Nat.reduceSub, Array.replicate_succ, Array.replicate_zero, List.push_toArray, List.append_toArray, List.nil_append, List.cons_append]
 gi_wp2_with fail
 have hbn := hBn.lt
 have bS := Boxed.new w 114 (.slice none 0 0)
 have bT := hBn.alloc (.cells #[.slice none 0 0] 114)
 have hB0 : Below w.heap.size w (w.alloc (.cells #[.slice none 0 0] 114)) := (Below.refl _ w).alloc (Nat.le_refl _) _
 have hsz : (w.alloc (.cells #[.slice none 0 0] 114)).heap.size = w.heap.size + 1 := by simp
 obtain ⟨W0, hW0⟩ : ∃ W0, (w.alloc (.cells #[.slice none 0 0] 114)) = W0 := ⟨_, rfl⟩
 rw [hW0] at bS bT hB0 hsz ⊢
 clear hW0
 refine wpIn_rangeFunc_ownH rfl (by decide) (gf := 138) (lb := #[.pointer (some ⟨Bn, 0, none⟩)]) rfl trivial (enters_of Tryz.func138 (by kernel_rfl) rfl)
  (words_stops 4 (by decide) Bn s (by unfold maxLen; omega) W0 bT) (fun h k => k.trans h) (fun W l o o' hl h _ _ => (grownBy_putObj' W l o').block _ (by have := (Array.getElem?_eq_some_iff.1 h).1; omega) (by intro e; cases e; omega)) (Below.refl _ _) (fun _ => rfl)
  (fun pre W => (∃ v, Boxed W w.heap.size 114 v ∧ W.ownsRow w.heap.size 87 8 v pre.length (Lib.byteCells (wl pre).flatten) ∧ True) ∧ Below w.heap.size w W)
  (fun _ _ _ => False)
  (OwnFrom.and (Own.from (holdsRow_own w.heap.size w.heap.size 114 87 8 (fun pre : List W8 => pre.length) (fun pre => Lib.byteCells (wl pre).flatten) (fun _ _ => True)) _) (ownFrom_below (Nat.le_refl _) (by omega)))
  (fun _ _ _ _ _ hs _ _ => hs)
  ⟨⟨_, bS, ⟨rfl, .inl ⟨rfl, rfl⟩⟩, trivial⟩, hB0⟩
  (fun x a' W => ∃ Bx, w.heap.size < Bx ∧ W.heap[Bx]? = some (.cells (wd x.1) 87 (0, 0)) ∧ a' = { tmps := #[.slice none 0 0, .func (.func 138) #[] #[.pointer (some ⟨Bn, 0, none⟩)], .pointer (some ⟨w.heap.size, 0, none⟩), undef, .slice none 0 0, .pointer (some ⟨Bx, 0, none⟩), .func (.func 138) #[] #[.pointer (some ⟨Bn, 0, none⟩)], .agg (wd x.1), undef, undef, undef, undef, undef], defers := [] })
  (fun x a' _ X Y row hs hg hr => by
   obtain ⟨Bx, h1, h2, h3⟩ := hs
   refine ⟨Bx, h1, (hg.block Bx (Array.getElem?_eq_some_iff.1 h2).1 (fun e => ?_)).trans h2, h3⟩
   obtain ⟨_, o, ho, hcl⟩ := hr Bx e.symm
   rw [h2] at ho; cases ho; cases hcl)
  ?assign ?body ?done ?stop
 case assign =>
  rintro l pre x W K ⟨⟨v, bV, hrow, _⟩, hB1⟩ hK
  obtain ⟨b0, b1, b2, b3, b4, b5, b6, b7, hx⟩ := len8 x.2
  simp only [hx, wd8] at hK ⊢
  gi_wp2
  exact hK _ _ ((KeepsOthers.alloc _ _).from _) (Below.heap_alloc W _ _ (Nat.lt_of_lt_of_le hbn hB1.size)) ⟨⟨v, bV.alloc _, hrow.alloc _, trivial⟩, hB1.alloc hB1.size _⟩ ⟨W.heap.size, bV.lt, heap_alloc_new W _, rfl⟩
 case body =>
  rintro l pre x a' W hl ⟨r, hr⟩ ⟨⟨v, bV, hrow, _⟩, hB1⟩ ⟨Bx, hBx, bX, rfl⟩ hlt
  obtain ⟨b0, b1, b2, b3, b4, b5, b6, b7, hx, c0, c1, c2, c3, c4, c5, c6, c7⟩ := box_bytes2 bX
  have cV := bV.cell
  have fV := bV.frozen
  have hp : pre.length ≤ 200 := by omega
  have hn0 := hB1.size
  have HX := Lib.hid hx
  have hsn := wl_snoc pre x
  have hap : ∀ (w1 : World) (v' : Value), w1.ownsRow w.heap.size 87 8 v' (pre.length + 1) (Lib.byteCells (wl pre).flatten ++ [.int .u8 b0.toNat, .int .u8 b1.toNat, .int .u8 b2.toNat, .int .u8 b3.toNat, .int .u8 b4.toNat, .int .u8 b5.toNat, .int .u8 b6.toNat, .int .u8 b7.toNat]) → w1.ownsRow w.heap.size 87 8 v' (pre ++ [x]).length (Lib.byteCells (wl (pre ++ [x])).flatten) := fun _ _ h => by
   rw [hsn, hx, List.length_append, List.length_singleton]
   simpa [Lib.byteCells] using h
  have HAP := Lib.hid hap
  clear hsn hap hx
  gi_wp2_with (gi_at_builtin; go_must (refine wpListIn_append_own _ rfl (.tmp 8) (.tmp 10) 114 rfl w.heap.size 87 i0 _ 8 8 Tryz.underlying114 hi hz0 hz1 hz2 rfl (by decide) v _ _ rfl (hrow.alloc _) ⟨W.heap.size, 0, none⟩ 1 1 [.int .u8 b0.toNat, .int .u8 b1.toNat, .int .u8 b2.toNat, .int .u8 b3.toNat, .int .u8 b4.toNat, .int .u8 b5.toNat, .int .u8 b6.toNat, .int .u8 b7.toNat] rfl rfl (cells_new W #[_, _, _, _, _, _, _, _] _) (by simp [Value.oneCell']) (by unfold maxLen; omega) (by omega) (by simp; omega) ?_); intro v' w1 hown' hgrow _; obtain ⟨h1, h2, h3, h4, h5⟩ := bV.appended tne hrow hn0 (Nat.le_refl _) hown' hgrow; have e1 := h1.cell; have e2 := h1.frozen; obtain ⟨g', cap', rfl⟩ := ownsRow_succ hown')
  have H2 := Lib.hid h2
  have H3 := Lib.hid (HAP.out _ _ h3)
  clear h2 h3 hown' hgrow
  gi_wp2
  exact ⟨h4.from _, h5.block _ hbn, ⟨_, H2.out, H3.out, trivial⟩, hB1.trans h5⟩
 case done =>
  rintro D zs W hD rfl ⟨⟨v, bV, hrow, _⟩, hB1⟩ hK
  have cE := bV.cell
  gi_wp2
  refine ⟨by simp, .inl ⟨_, _, rfl, run_takeDeferred hK, ?_⟩⟩
  exact ⟨_, results_tmp rfl _ _ _, v, rfl, ownsRow_putObj hrow _ hK rfl, hB1.trans (belowK_b (w := w) (Nat.le_refl _) W D _ _ (by omega) hK rfl rfl)⟩
 case stop =>
  rintro D c pre W _ _ h _
  exact h.elim
theorem collect_in (s : ByteArray) (w : World) (hs : s.size ≤ 1600) (Bn : Nat) (hBn : Boxed w Bn 9 (.string s)) :
 CallsIn Fence.wide 6 Tryz.prog 95 #[.func (.func 138) #[] #[.pointer (some ⟨Bn, 0, none⟩)]] w fun e w' => ∃ v, e = .returned v ∧ Coll w.heap.size v (wordsQ s.data.toList) w' ∧ Below w.heap.size w w' := by
 have HA := Lib.hid (appendSeq_in s w hs Bn hBn)
 refine callsIn_of_wp Tryz.func95 rfl trivial ?_ rfl
 simp only [Tryz.ntmps95, List.size_toArray, List.length_cons, List.length_nil, Nat.reduceAdd, Nat.reduceSub, Array.replicate_succ, Array.replicate_zero, List.push_toArray, List.append_toArray, List.nil_append, List.cons_append]
 gi_wp2_with fail
 refine ⟨trivial, HA.out.mono ?_⟩
 rintro e w1 ⟨v, rfl, h1, h2⟩
 gi_wp2
 go_ret
 exact ⟨v, rfl, h1, h2⟩
end Go.Proofs.YtlbfffokkhccaaaGreatDoor
