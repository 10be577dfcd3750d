/- The walk of the law that fields of one size stand side by side. -/
import Derived.Test.YtfgebmmnlneciaaDoorLayI2
import Derived.Test.YtfgebmmnlneciaaDoorDrawFl2
import Derived.Test.YtfgebmmnlneciaaDoorQnLay
import Derived.Test.YtfgebmmnlneciaaDoorMathLay4
namespace Go.Proofs.YtfgebmmnlneciaaDoor
open Go.RowKit
theorem fit_zero (z : Int) (h0 : 1 ≤ z) (h1 : z ≤ 6) : fitB z 0 = true := by
  have hz : z = 1 ∨ z = 2 ∨ z = 3 ∨ z = 4 ∨ z = 5 ∨ z = 6 := by omega
  rcases hz with rfl | rfl | rfl | rfl | rfl | rfl <;> decide
theorem same_ok (z : Int) (h0 : 1 ≤ z) (h1 : z ≤ 6) : fldsOk (same12 z) = true := by
  unfold fldsOk same12
  rw [Bool.and_eq_true, List.all_eq_true]
  refine ⟨fun f hf => ?_, by simp⟩
  obtain rfl := (List.mem_replicate.1 hf).2
  exact fld_true (by simp [inB]; omega) (fit_zero z h0 h1)
theorem same_at (z : Int) (h0 : 1 ≤ z) (h1 : z ≤ 6) (k : Nat) (hk : k < 12) : ((layF (same12 z) ps0).1.getD k 0 : Nat) = k := by
  rw [(lay_same z h0 h1).1]
  simp [List.getD, List.getElem?_range hk]
theorem repl_snoc (k : Nat) (f : Fld) : List.replicate k f ++ [f] = List.replicate (k + 1) f := by rw [List.replicate_succ', List.append_cancel_right_eq] 
set_option maxHeartbeats 8000000 in
set_option maxRecDepth 100000 in
theorem walkFieldsAll (w : World) (a : Option Addr) (len cap : Nat) (h : Arg w a len cap) (ht : Tab w) :
    Calls Tryd.prog 10 #[.slice a len cap] w fun e w' => e = .returned (.bool true) ∧ Below w.heap.size w w' := by
  have h1w : 1 < w.heap.size := World.block_lt_of_cell? w _ ht.t0
  by_cases hbig : 1048576 < len
  · have hlm := h.1.1
    unfold maxLen at hlm
    clear h ht
    go_enter Tryd.func10, Tryd.ntmps10
    go_wp2
    go_ret
    exact ⟨rfl, Below.refl _ _⟩
  have hsm : len ≤ 1048576 := by omega
  obtain ⟨i0, hi, hz0, hz1, hz2⟩ := info_parts infoFld
  have HT := Lib.hid ht
  have HA := Lib.hid h
  clear h ht hbig
  go_enter Tryd.func10, Tryd.ntmps10
  go_wp2_with fail
  refine (drawFieldsOk_any a len cap _ HA.out).mono ?_
  rintro e w1 ⟨A, cp, l, rfl, hl, -, hf, hb1⟩
  have HT1 := Lib.hid (HT.out.below hb1 h1w)
  have HF1 := Lib.hid hf
  have hs1 := hb1.size
  have HB1 := Lib.hid hb1
  clear hf hb1
  go_wp2_with fail
  refine (implFieldsOk_any A cp l w1 HF1.out (by omega)).mono ?_
  rintro e w2 ⟨rfl, hb2⟩
  have HF2 := Lib.hid (HF1.out.below hb2)
  have HT2 := Lib.hid (HT1.out.below hb2 (by omega))
  have hs2 := hb2.size
  have HB2 := Lib.hid (HB1.out.trans (hb2.mono hs1))
  clear hb2
  go_wp2_with fail
  refine (specFieldsOk_any A cp l w2 HF2.out (by omega)).mono ?_
  rintro e w3 ⟨rfl, hb3⟩
  have HF3 := Lib.hid (HF2.out.below hb3)
  have HT3 := Lib.hid (HT2.out.below hb3 (by omega))
  have hs3 := hb3.size
  have HB3 := Lib.hid (HB2.out.trans (hb3.mono (by omega)))
  clear hb3
  have HS3 := Lib.hid (specFieldsOk_any A cp l w3 HF3.out (by omega))
  cases hok : fldsOk l with
  | false =>
    rw [hok] at HS3
    clear hok
    go_wp2_with fail
    refine HS3.out.mono ?_
    rintro e w4 ⟨rfl, hb4⟩
    have HB4 := Lib.hid (HB3.out.trans (hb4.mono (by omega)))
    clear hb4
    go_wp2
    go_ret
    exact ⟨rfl, HB4.out⟩
  | true =>
    have HOK := Lib.hid hok
    rw [hok] at HS3
    clear hok
    by_cases h0 : l.length = 0
    · have h0i : ((l.length : Int) == 0) = true := by rw [h0]; rfl
      clear h0
      go_wp2_with fail
      refine HS3.out.mono ?_
      rintro e w4 ⟨rfl, hb4⟩
      have HB4 := Lib.hid (HB3.out.trans (hb4.mono (by omega)))
      clear hb4
      go_wp2
      go_ret
      exact ⟨rfl, HB4.out⟩
    · have h0i : ((l.length : Int) == 0) = false := by rw [beq_eq_false_iff_ne]; omega
      have hpos : 0 < l.length := by omega
      have hpi : (0 : Int) < (l.length : Int) := by omega
      have hsz := fldsOk_at HOK.out 0 hpos
      have HO3 := Lib.hid (World.ownsRow_lit (w := w3) (base := w3.heap.size) (e := fieldT) (size := 3) #[] 0 (Nat.le_refl _) (by decide) rfl)
      clear h0
      go_wp2
      go_loopw [5, 6] (fun v i wr => ∃ k : Nat, i = .int .i64 k ∧ k ≤ 12 ∧ Hid (wr.ownsRow w3.heap.size fieldT 3 v k (fldCells (List.replicate k ⟨(l[0]).size, false, 0⟩))) ∧ Hid (Below w3.heap.size w3 wr)) (fun _ i _ => 12 - (intOf i).toNat)
      case atStart => exact ⟨0, rfl, by omega, by exact HO3, Lib.hid ((Below.refl _ _).alloc (Nat.le_refl _) _)⟩
      case round =>
        obtain ⟨k, rfl, hk, HO, HB⟩ := hrel
        by_cases hlt : k < 12
        · obtain ⟨x, rfl, hx⟩ := (HF3.out.below HB.out).at_ hpos
          have q0 := hx.c0
          simp only [Nat.zero_mul] at q0
          have hwr := HB.out.size
          obtain ⟨A2, cp2, rfl⟩ := own_slice3 HO.out
          have HSN := Lib.hid (repl_snoc k ⟨(l[0]).size, false, 0⟩)
          have hxa : x.add 0 = x := by simp [Addr.add]
          rw [hxa] at q0
          clear hx
          generalize hzz : (l[0]).size = z at *
          go_wp2_with (at_builtin; go_must (refine wpList_append_own _ rfl (.tmp 39) (.tmp 45) 29 rfl w3.heap.size fieldT i0 (.agg #[.int .i64 0, .bool false, .int .i64 0]) 3 24 Tryd.underlying29 hi hz0 hz1 hz2 rfl (by decide) _ k _ rfl (HO.out.alloc _) ⟨wr.heap.size, 0, none⟩ 1 1 [.int .i64 z, .bool false, .int .i64 0] rfl rfl (cells_three_at _ _ rfl _ _ _ _) (by simp [Value.oneCell']) (by unfold maxLen; omega) (by omega) (by simp; omega) ?_); intro v' wn hown' hgrow _)
          have hbn : Below w3.heap.size w3 wn := HB.out.trans ((((Below.refl w3.heap.size wr).alloc hwr _)).grown hgrow (by simp; omega) (fun k hk => (HO.out.lt k hk).1))
          have HBN := Lib.hid hbn
          have hon : wn.ownsRow w3.heap.size fieldT 3 v' (k + 1) (fldCells (List.replicate (k + 1) ⟨z, false, 0⟩)) := by
            rw [← HSN.out, fldCells_app]; exact hown'
          have HON := Lib.hid hon
          clear hbn hon hown' hgrow
          go_wp2
          go_roundw
          case rel => exact ⟨k + 1, by go_num, by omega, HON, HBN⟩
          case measure => simp [intOf]; omega
        · obtain rfl : k = 12 := by omega
          have hown : wr.ownsRow w3.heap.size fieldT 3 _ (same12 (l[0]).size).length (fldCells (same12 (l[0]).size)) := HO.out
          obtain ⟨A2, cp2, rfl, hf2⟩ := flds_of_own hown
          have hwr := HB.out.size
          have HTW := Lib.hid (HT3.out.below HB.out (by omega))
          have HOK2 := Lib.hid (same_ok _ hsz.1 hsz.2)
          have HLO := Lib.hid (implLayoutOf_any A2 cp2 (same12 (l[0]).size) wr HTW.out (by omega) hf2 (by simp [same12]))
          have HSA := Lib.hid (same_at _ hsz.1 hsz.2)
          have HST := Lib.hid (lay_same _ hsz.1 hsz.2).2
          have h12 : (same12 (l[0]).size).length = 12 := by simp [same12]
          rw [h12] at HLO
          clear hown hf2 hlt hk
          go_wp2_with fail
          refine HLO.out.mono ?_
          rintro e w5 (⟨-, v1, rfl, hv1, hb5⟩ | ⟨hh, _⟩)
          rotate_left
          · rw [HOK2.out] at hh; cases hh
          rw [h12] at hv1
          obtain ⟨A3, cp3, rfl⟩ := own_slice2 hv1
          have hl12 : (layF (same12 (l[0]).size) ps0).1.length = 12 := by rw [lay_length, h12]
          have HSR := Lib.hid (SlotsR.of_own (by rw [hl12]; exact hv1))
          have HB5 := Lib.hid ((HB3.out.trans (HB.out.mono (by omega))).trans (hb5.mono (by omega)))
          have hs5 := hb5.size
          have HL12 := Lib.hid hl12
          clear hv1 hb5 hl12 h12
          simp only [layV]
          generalize hWQ : ((layF (same12 (l[0]).size) ps0).2.ls.words : Int) = wq at *
          generalize hPQ : ((layF (same12 (l[0]).size) ps0).2.ptrs : Int) = pq at *
          have HB6 := Lib.hid (HB5.out.alloc (by omega) (.cells #[.int .i64 wq, .int .i64 pq, .slice A3 12 cp3, .int .i64 (-1)] 26))
          have HSR6 := Lib.hid (HSR.out.below ((Below.refl _ _).alloc (Nat.le_refl _) (.cells #[.int .i64 wq, .int .i64 pq, .slice A3 12 cp3, .int .i64 (-1)] 26)))
          rw [HST.out]
          go_wp2
          go_loop [9] (fun i => ∃ k : Nat, i = .int .i64 k ∧ k ≤ 12) (fun i => 12 - (intOf i).toNat)
          case atStart => exact ⟨0, rfl, by omega⟩
          case round =>
            obtain ⟨k, rfl, hk⟩ := hrel
            by_cases hlt : k < 12
            · obtain ⟨y, rfl, hy⟩ := HSR6.out.at_ (k := k) (by rw [HL12.out]; exact hlt)
              rw [HSA.out k hlt] at hy
              have hk2 : (k : Int) < 12 := by omega
              go_wp2
              go_round
              case rel => exact ⟨k + 1, by go_num, by omega⟩
              case measure => simp [intOf]; omega
            · obtain rfl : k = 12 := by omega
              go_wp2
              go_ret
              exact ⟨rfl, HB6.out⟩
end Go.Proofs.YtfgebmmnlneciaaDoor
