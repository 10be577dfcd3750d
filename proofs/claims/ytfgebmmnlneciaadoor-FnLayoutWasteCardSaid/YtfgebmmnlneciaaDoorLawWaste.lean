/- The walk of the law that nothing is wasted without choices. -/
import Derived.Test.YtfgebmmnlneciaaDoorSLayO
import Derived.Test.YtfgebmmnlneciaaDoorDrawFl2
import Derived.Test.YtfgebmmnlneciaaDoorQnLay
import Derived.Test.YtfgebmmnlneciaaDoorMathLay4
namespace Go.Proofs.YtfgebmmnlneciaaDoor
open Go.RowKit
def noC (l : List Fld) : List Fld := l.filter fun f => !f.choice
theorem noC_take (l : List Fld) (k : Nat) (h : k < l.length) : noC (l.take (k + 1)) = noC (l.take k) ++ (if (l[k]).choice = true then [] else [l[k]]) := by
  unfold noC
  rw [List.take_succ_eq_append_getElem h, List.filter_append]
  cases hc : (l[k]).choice <;> simp [hc]
theorem noC_none (l : List Fld) : ∀ f ∈ noC l, f.choice = false := fun f hf => by
  have := (List.mem_filter.1 hf).2
  simpa using this
theorem noC_ok {l : List Fld} (h : fldsOk l = true) : fldsOk (noC l) = true := by
  unfold fldsOk at *
  rw [Bool.and_eq_true, List.all_eq_true] at *
  refine ⟨fun f hf => h.1 f (List.mem_filter.1 hf).1, ?_⟩
  have h2 := h.2
  simp only [decide_eq_true_eq] at *
  have := List.length_filter_le (fun f : Fld => !f.choice) l
  unfold noC; omega
theorem sumBits_app (l m : List Fld) : sumBits (l ++ m) = sumBits l + sumBits m := by
  induction l with
  | nil => simp [sumBits]
  | cons f r ih => simp only [List.cons_append, sumBits, ih]; omega
theorem sumPtrs_app (l m : List Fld) : sumPtrs (l ++ m) = sumPtrs l + sumPtrs m := by
  induction l with
  | nil => simp [sumPtrs]
  | cons f r ih => simp only [List.cons_append, sumPtrs, ih]; omega
theorem sum_bd : ∀ l : List Fld, sumBits l ≤ 64 * l.length ∧ sumPtrs l ≤ l.length
  | [] => ⟨Nat.le_refl _, Nat.le_refl _⟩
  | f :: r => by
    obtain ⟨h1, h2⟩ := sum_bd r
    have hp : 2 ^ (6 - kOf f.size) ≤ 2 ^ 6 := Nat.pow_le_pow_right (by decide) (by omega)
    simp only [show (2 : Nat) ^ 6 = 64 from rfl] at hp
    simp only [sumBits, sumPtrs, List.length_cons]
    constructor <;> split <;> omega
theorem noC_len (l : List Fld) (k : Nat) : (noC (l.take k)).length ≤ l.length := by
  have h1 := List.length_filter_le (fun f : Fld => !f.choice) (l.take k)
  have h2 := List.length_take_le k l
  have h3 : (l.take k).length ≤ l.length := List.length_take_le' k l
  unfold noC; omega
theorem bits_pow (z : Int) (h0 : 1 ≤ z) (h1 : z ≤ 5) : (2 ^ (6 - kOf z) : Nat) = (bitsOf z).toNat := by
  have hz : z = 1 ∨ z = 2 ∨ z = 3 ∨ z = 4 ∨ z = 5 := by omega
  rcases hz with rfl | rfl | rfl | rfl | rfl <;> decide
set_option maxHeartbeats 8000000 in
set_option maxRecDepth 100000 in
theorem walkLayoutWaste (w : World) (a : Option Addr) (len cap : Nat) (h : Arg w a len cap) (ht : Tab w) :
    Calls Tryd.prog 8 #[.slice a len cap] w fun e w' => e = .returned (.bool true) ∧ Below w.heap.size w w' := by
  have h1w : 1 < w.heap.size := World.block_lt_of_cell? w _ ht.t0
  have hlm := h.1.1
  unfold maxLen at hlm
  by_cases hbig : 1048576 < len
  · clear h ht
    go_enter Tryd.func8, Tryd.ntmps8
    go_wp2
    go_ret
    exact ⟨rfl, Below.refl _ _⟩
  have hsm : len ≤ 1048576 := by omega
  have HT := Lib.hid ht
  have HA := Lib.hid h
  clear h ht hbig hlm
  go_enter Tryd.func8, Tryd.ntmps8
  go_wp2_with fail
  refine (drawLayoutOf_any a len cap _ HA.out).mono ?_
  rintro e w1 ⟨A, cp, l, rfl, hl, hcp, hf, hb1⟩
  have HT1 := Lib.hid (HT.out.below hb1 h1w)
  have HF1 := Lib.hid hf
  have hs1 := hb1.size
  have HB1 := Lib.hid hb1
  clear hf hb1
  go_wp2_with fail
  refine (implLayoutOf_any A cp l w1 HT1.out (by omega) HF1.out (by omega)).mono ?_
  rintro e w2 (⟨hok, v1, rfl, hv1, hb2⟩ | ⟨hok, rfl, hb2⟩)
  rotate_left
  · have HF2 := Lib.hid (HF1.out.below hb2)
    have hs2 := hb2.size
    have HB2 := Lib.hid (HB1.out.trans (hb2.mono hs1))
    have HOK := Lib.hid hok
    have HF2a := Lib.hid (HF2.out.below ((Below.refl _ _).alloc (Nat.le_refl _) (.cells #[.int .i64 0, .int .i64 0, .slice none 0 0, .int .i64 0] 26)))
    have HR2 := Lib.hid (heap_alloc_new w2 (.cells #[.int .i64 0, .int .i64 0, .slice none 0 0, .int .i64 0] 26))
    clear hb2 hok
    go_wp2_with fail
    refine (specLayoutOf_any A cp l _ (by simp; omega) HF2a.out (by omega)).mono ?_
    rintro e w3 (⟨hh, _⟩ | ⟨-, rfl, hb3⟩)
    · rw [HOK.out] at hh; cases hh
    have hb3s := hb3.size
    simp at hb3s
    have HB3 := Lib.hid (((HB2.out.alloc (by omega) (.cells #[.int .i64 0, .int .i64 0, .slice none 0 0, .int .i64 0] 26)).trans (hb3.mono (by simp; omega))).alloc (by omega) (.cells #[.int .i64 0, .int .i64 0, .slice none 0 0, .int .i64 0] 26))
    have HF3 := Lib.hid ((HF2a.out.below hb3).below ((Below.refl _ _).alloc (Nat.le_refl _) (.cells #[.int .i64 0, .int .i64 0, .slice none 0 0, .int .i64 0] 26)))
    have hr3 : (w3.alloc (.cells #[.int .i64 0, .int .i64 0, .slice none 0 0, .int .i64 0] 26)).heap[w2.heap.size]? = some (.cells #[.int .i64 0, .int .i64 0, .slice none 0 0, .int .i64 0] 26 (0, 0)) := (Below.heap_alloc _ _ _ (by omega)).trans ((hb3.block w2.heap.size (by simp)).trans HR2.out)
    have hr4 := heap_alloc_new w3 (.cells #[.int .i64 0, .int .i64 0, .slice none 0 0, .int .i64 0] 26)
    obtain ⟨g0, g1, g2, g3⟩ := cells4 hr3
    have HR3 := Lib.hid hr3
    have HR4 := Lib.hid hr4
    clear hb3 hr3 hr4
    go_wp2_with fail
    generalize hW : w3.alloc (.cells #[.int .i64 0, .int .i64 0, .slice none 0 0, .int .i64 0] 26) = W3 at *
    have hlt3 : w3.heap.size < W3.heap.size := row_lt HR4.out
    clear hW
    refine (qnLayout_any none none 0 0 [] 0 0 0 _ (SlotsR.nil _ _) (SlotsR.nil _ _) (by simp)).mono ?_
    rintro e w4 ⟨rfl, hb4⟩
    have hs4 := hb4.size
    have hr4a := (hb4.block _ (by omega)).trans HR3.out
    have hr4b := (hb4.block _ hlt3).trans HR4.out
    obtain ⟨a0, a1, a2', a3⟩ := cells4 hr4a
    obtain ⟨b0, b1, b2', b3⟩ := cells4 hr4b
    have HB4 := Lib.hid (HB3.out.trans (hb4.mono (by omega)))
    have HF4 := Lib.hid (HF3.out.below hb4)
    clear hb4 hr4a hr4b g0 g1 g2 g3
    go_wp2_with fail
    refine (qnLayout_any none none 0 0 [] 0 0 0 _ (SlotsR.nil _ _) (SlotsR.nil _ _) (by simp)).mono ?_
    rintro e w5 ⟨rfl, hb5⟩
    have HB5 := Lib.hid (HB4.out.trans (hb5.mono (by omega)))
    clear hb5
    go_wp2
    go_ret
    exact ⟨rfl, HB5.out⟩
  · have HF2 := Lib.hid (HF1.out.below hb2)
    have hs2 := hb2.size
    have HB2 := Lib.hid (HB1.out.trans (hb2.mono hs1))
    have HT2 := Lib.hid (HT1.out.below hb2 (by omega))
    have HOK := Lib.hid hok
    have hl12 := fldsOk_len hok
    obtain ⟨A1, cp1, rfl⟩ := own_slice2 hv1
    have HLL := Lib.hid (lay_length l ps0)
    have HSR2 := Lib.hid (SlotsR.of_own (by rw [HLL.out]; exact hv1))
    have HF2a := Lib.hid (HF2.out.below ((Below.refl _ _).alloc (Nat.le_refl _) (.cells #[.int .i64 ((layF l ps0).2.ls.words : Int), .int .i64 ((layF l ps0).2.ptrs : Int), .slice A1 l.length cp1, .int .i64 (layF l ps0).2.tag] 26)))
    have HR2 := Lib.hid (heap_alloc_new w2 (.cells #[.int .i64 ((layF l ps0).2.ls.words : Int), .int .i64 ((layF l ps0).2.ptrs : Int), .slice A1 l.length cp1, .int .i64 (layF l ps0).2.tag] 26))
    have HSR2a := Lib.hid (HSR2.out.below ((Below.refl _ _).alloc (Nat.le_refl _) (.cells #[.int .i64 ((layF l ps0).2.ls.words : Int), .int .i64 ((layF l ps0).2.ptrs : Int), .slice A1 l.length cp1, .int .i64 (layF l ps0).2.tag] 26)))
    clear hb2 hok hv1
    simp only [layV]
    go_wp2_with fail
    refine (specLayoutOf_any A cp l _ (by simp; omega) HF2a.out (by omega)).mono ?_
    rintro e w3 (⟨-, v2, rfl, hv2, hb3⟩ | ⟨hh, _⟩)
    rotate_left
    · rw [HOK.out] at hh; cases hh
    obtain ⟨A2, cp2, rfl⟩ := own_slice2 hv2
    have HSR3 := Lib.hid (SlotsR.of_own (by rw [HLL.out]; exact hv2))
    have hb3s := hb3.size
    simp at hb3s
    have HT3 := Lib.hid (HT2.out.below (((Below.refl w2.heap.size _).alloc (Nat.le_refl _) (.cells #[.int .i64 ((layF l ps0).2.ls.words : Int), .int .i64 ((layF l ps0).2.ptrs : Int), .slice A1 l.length cp1, .int .i64 (layF l ps0).2.tag] 26)).trans (hb3.mono (by simp))) (by omega))
    have HB3 := Lib.hid (((HB2.out.alloc (by omega) (.cells #[.int .i64 ((layF l ps0).2.ls.words : Int), .int .i64 ((layF l ps0).2.ptrs : Int), .slice A1 l.length cp1, .int .i64 (layF l ps0).2.tag] 26)).trans (hb3.mono (by simp; omega))).alloc (by omega) (.cells #[.int .i64 ((layF l ps0).2.ls.words : Int), .int .i64 ((layF l ps0).2.ptrs : Int), .slice A2 l.length cp2, .int .i64 (layF l ps0).2.tag] 26))
    have HF3 := Lib.hid ((HF2a.out.below hb3).below ((Below.refl _ _).alloc (Nat.le_refl _) (.cells #[.int .i64 ((layF l ps0).2.ls.words : Int), .int .i64 ((layF l ps0).2.ptrs : Int), .slice A2 l.length cp2, .int .i64 (layF l ps0).2.tag] 26)))
    have HSRa := Lib.hid ((HSR2a.out.below hb3).below ((Below.refl _ _).alloc (Nat.le_refl _) (.cells #[.int .i64 ((layF l ps0).2.ls.words : Int), .int .i64 ((layF l ps0).2.ptrs : Int), .slice A2 l.length cp2, .int .i64 (layF l ps0).2.tag] 26)))
    have HSRb := Lib.hid (HSR3.out.below ((Below.refl _ _).alloc (Nat.le_refl _) (.cells #[.int .i64 ((layF l ps0).2.ls.words : Int), .int .i64 ((layF l ps0).2.ptrs : Int), .slice A2 l.length cp2, .int .i64 (layF l ps0).2.tag] 26)))
    have hr3 : (w3.alloc (.cells #[.int .i64 ((layF l ps0).2.ls.words : Int), .int .i64 ((layF l ps0).2.ptrs : Int), .slice A2 l.length cp2, .int .i64 (layF l ps0).2.tag] 26)).heap[w2.heap.size]? = some (.cells #[.int .i64 ((layF l ps0).2.ls.words : Int), .int .i64 ((layF l ps0).2.ptrs : Int), .slice A1 l.length cp1, .int .i64 (layF l ps0).2.tag] 26 (0, 0)) := (Below.heap_alloc _ _ _ (by omega)).trans ((hb3.block w2.heap.size (by simp)).trans HR2.out)
    have HTW := Lib.hid (HT3.out.below (R := w3.heap.size) ((Below.refl _ _).alloc (Nat.le_refl _) (.cells #[.int .i64 ((layF l ps0).2.ls.words : Int), .int .i64 ((layF l ps0).2.ptrs : Int), .slice A2 l.length cp2, .int .i64 (layF l ps0).2.tag] 26)) (by omega))
    have hltw : w3.heap.size < (w3.alloc (.cells #[.int .i64 ((layF l ps0).2.ls.words : Int), .int .i64 ((layF l ps0).2.ptrs : Int), .slice A2 l.length cp2, .int .i64 (layF l ps0).2.tag] 26)).heap.size := by simp
    obtain ⟨g0, g1, g2, g3⟩ := cells4 hr3
    have HR3 := Lib.hid hr3
    clear hb3 hr3 hv2
    simp only [layV]
    go_wp2_with fail
    generalize hW : w3.alloc (.cells #[.int .i64 ((layF l ps0).2.ls.words : Int), .int .i64 ((layF l ps0).2.ptrs : Int), .slice A2 l.length cp2, .int .i64 (layF l ps0).2.tag] 26) = W3 at *
    clear hW
    have hq := qnLayout_any A1 A2 cp1 cp2 (layF l ps0).1 ((layF l ps0).2.ls.words : Int) ((layF l ps0).2.ptrs : Int) (layF l ps0).2.tag W3 HSRa.out HSRb.out (by rw [HLL.out]; omega)
    rw [HLL.out] at hq
    refine hq.mono ?_
    clear hq
    rintro e w4 ⟨rfl, hb4⟩
    have hs4 := hb4.size
    have HR4 := Lib.hid ((hb4.block _ (by omega)).trans HR3.out)
    have HB4 := Lib.hid (HB3.out.trans (hb4.mono (by omega)))
    have HF4 := Lib.hid (HF3.out.below hb4)
    have HT4 := Lib.hid (HTW.out.below hb4 (by omega))
    have HS4 := Lib.hid (HSRa.out.below hb4)
    clear hb4 g0 g1 g2 g3
    obtain ⟨i0, hi, hz0, hz1, hz2⟩ := info_parts infoFld
    have HO4 := Lib.hid (World.ownsRow_lit (w := w4) (base := w4.heap.size) (e := fieldT) (size := 3) #[] 0 (Nat.le_refl _) (by decide) rfl)
    go_wp2
    go_loopw [8, 9, 10, 11] (fun v bt pt i wr => ∃ k : Nat, i = .int .i64 k ∧ k ≤ l.length ∧ bt = .int .i64 ((sumBits (noC (l.take k)) : Nat) : Int) ∧ pt = .int .i64 ((sumPtrs (noC (l.take k)) : Nat) : Int) ∧ Hid (wr.ownsRow w4.heap.size fieldT 3 v (noC (l.take k)).length (fldCells (noC (l.take k)))) ∧ Hid (Below w4.heap.size w4 wr)) (fun _ _ _ i _ => l.length - (intOf i).toNat)
    case atStart => exact ⟨0, rfl, by omega, rfl, rfl, by exact HO4, Lib.hid ((Below.refl _ _).alloc (Nat.le_refl _) _)⟩
    case round =>
      obtain ⟨k, rfl, hk, rfl, rfl, HO, HB⟩ := hrel
      have hwr := HB.out.size
      by_cases hlt : k < l.length
      · obtain ⟨x, rfl, hx⟩ := (HF4.out.below HB.out).at_ hlt
        obtain ⟨c0, c1, c2⟩ := hx
        have hsz := fldsOk_at HOK.out k hlt
        have hk2 : (k : Int) < (l.length : Int) := by omega
        have hnt := noC_take l k hlt
        generalize hff : l[k] = f at c0 c1 c2 hsz hnt
        obtain ⟨z, fc, el⟩ := f
        obtain ⟨hz1', hz6'⟩ := hsz
        replace hz1' : 1 ≤ z := hz1'
        replace hz6' : z ≤ 6 := hz6'
        replace c0 : wr.cell? (x.add (k * 3)) = some (.int .i64 z) := c0
        replace c1 : wr.cell? ⟨(x.add (k * 3)).block, (x.add (k * 3)).off + 1, none⟩ = some (.bool fc) := c1
        replace c2 : wr.cell? ⟨(x.add (k * 3)).block, (x.add (k * 3)).off + 2, none⟩ = some (.int .i64 el) := c2
        have hsb := sum_bd (noC (l.take k))
        have hnl := noC_len l k
        have b0 : ((sumBits (noC (l.take k)) : Nat) : Int) ≤ 1000 := by omega
        have b1 : ((sumPtrs (noC (l.take k)) : Nat) : Int) ≤ 1000 := by omega
        clear hff hsb
        cases fc with
        | true =>
          have HE : Hid (noC (l.take (k + 1)) = noC (l.take k)) := Lib.hid (by rw [hnt]; simp)
          clear hnt
          go_wp2
          go_roundw
          case rel => exact ⟨k + 1, by go_num, by omega, by rw [HE.out], by rw [HE.out], by rw [HE.out]; exact HO, HB⟩
          case measure => simp [intOf]; omega
        | false =>
          have HE : Hid (noC (l.take (k + 1)) = noC (l.take k) ++ [⟨z, false, el⟩]) := Lib.hid (by rw [hnt]; simp)
          have HS1 : Hid (sumBits (noC (l.take (k + 1))) = sumBits (noC (l.take k)) + (if z = 6 then 0 else 2 ^ (6 - kOf z))) := Lib.hid (by rw [HE.out, sumBits_app]; simp [sumBits])
          have HS2 : Hid (sumPtrs (noC (l.take (k + 1))) = sumPtrs (noC (l.take k)) + (if z = 6 then 1 else 0)) := Lib.hid (by rw [HE.out, sumPtrs_app]; simp [sumPtrs])
          clear hnt
          obtain ⟨A5, cp5, rfl⟩ := own_slice3 HO.out
          have hxl : (x.add (k * 3)).block < wr.heap.size := World.block_lt_of_cell? wr _ c0
          have hxb4 : (x.add (k * 3)).block < w4.heap.size := by
            obtain ⟨x', hx', hb', _⟩ := HF4.out.at2 hlt
            injection hx' with hx'
            subst hx'
            rw [addr_block]; exact hb'
          have hnl12 : (noC (l.take k)).length ≤ 12 := by omega
          have HB0 := Lib.hid b0
          have HB1' := Lib.hid b1
          have hzz : z = 6 ∨ z = 1 ∨ z = 2 ∨ z = 3 ∨ z = 4 ∨ z = 5 := by omega
          rcases hzz with rfl | rfl | rfl | rfl | rfl | rfl
          · have HS1' : Hid (((sumBits (noC (l.take (k + 1))) : Nat) : Int) = ((sumBits (noC (l.take k)) : Nat) : Int)) := Lib.hid (by rw [HS1.out]; rw [if_pos rfl, Nat.add_zero])
            have HS2' : Hid (((sumPtrs (noC (l.take (k + 1))) : Nat) : Int) = ((sumPtrs (noC (l.take k)) : Nat) : Int) + 1) := Lib.hid (by rw [HS2.out]; rw [if_pos rfl]; rfl)
            go_wp2_with (at_builtin; go_must (refine wpList_append_own _ rfl (.tmp 62) (.tmp 67) 29 rfl w4.heap.size fieldT i0 (.agg #[.int .i64 0, .bool false, .int .i64 0]) 3 24 Tryd.underlying29 hi hz0 hz1 hz2 rfl (by decide) _ (noC (l.take k)).length _ rfl (HO.out.alloc _) ⟨wr.heap.size, 0, none⟩ 1 1 [.int .i64 6, .bool false, .int .i64 el] rfl rfl (cells_three_at _ _ rfl _ _ _ _) (by simp [Value.oneCell']) (by unfold maxLen; omega) (by omega) (by simp; omega) ?_); intro v' wn hown' hgrow _; have hbn : Below w4.heap.size w4 wn := HB.out.trans ((((Below.refl w4.heap.size wr).alloc hwr _)).grown hgrow (by simp; omega) (fun k hk => (HO.out.lt k hk).1)); have d0 : wn.cell? (x.add (k * 3)) = some (.int .i64 6) := (((((Below.refl w4.heap.size wr).alloc hwr _)).grown hgrow (by simp; omega) (fun k hk => (HO.out.lt k hk).1)).cell (p := x.add (k * 3)) hxb4).trans c0; have hsn := hbn.size; have hxw : (x.add (k * 3)).block < wn.heap.size := Nat.lt_of_lt_of_le hxb4 hsn; have HBN := Lib.hid hbn; have hon : wn.ownsRow w4.heap.size fieldT 3 v' (noC (l.take (k + 1))).length (fldCells (noC (l.take (k + 1)))) := (by rw [HE.out]; exact fld_app hown'); have HON := Lib.hid hon; obtain ⟨A6, cp6, rfl⟩ := own_slice3 hown'; clear hbn hon hown' hgrow)
            go_roundw
            case rel => exact ⟨k + 1, by go_num, by omega, by rw [HS1'.out], by rw [HS2'.out], HON, HBN⟩
            case measure => simp [intOf]; omega
          · have HS1' : Hid (((sumBits (noC (l.take (k + 1))) : Nat) : Int) = ((sumBits (noC (l.take k)) : Nat) : Int) + 1) := Lib.hid (by rw [HS1.out]; rw [if_neg (by decide)]; rfl)
            have HS2' : Hid (((sumPtrs (noC (l.take (k + 1))) : Nat) : Int) = ((sumPtrs (noC (l.take k)) : Nat) : Int)) := Lib.hid (by rw [HS2.out]; rw [if_neg (by decide), Nat.add_zero])
            go_wp2_with (at_builtin; go_must (refine wpList_append_own _ rfl (.tmp 62) (.tmp 67) 29 rfl w4.heap.size fieldT i0 (.agg #[.int .i64 0, .bool false, .int .i64 0]) 3 24 Tryd.underlying29 hi hz0 hz1 hz2 rfl (by decide) _ (noC (l.take k)).length _ rfl (HO.out.alloc _) ⟨wr.heap.size, 0, none⟩ 1 1 [.int .i64 1, .bool false, .int .i64 el] rfl rfl (cells_three_at _ _ rfl _ _ _ _) (by simp [Value.oneCell']) (by unfold maxLen; omega) (by omega) (by simp; omega) ?_); intro v' wn hown' hgrow _; have hbn : Below w4.heap.size w4 wn := HB.out.trans ((((Below.refl w4.heap.size wr).alloc hwr _)).grown hgrow (by simp; omega) (fun k hk => (HO.out.lt k hk).1)); have d0 : wn.cell? (x.add (k * 3)) = some (.int .i64 1) := (((((Below.refl w4.heap.size wr).alloc hwr _)).grown hgrow (by simp; omega) (fun k hk => (HO.out.lt k hk).1)).cell (p := x.add (k * 3)) hxb4).trans c0; have hsn := hbn.size; have hxw : (x.add (k * 3)).block < wn.heap.size := Nat.lt_of_lt_of_le hxb4 hsn; have HBN := Lib.hid hbn; have hon : wn.ownsRow w4.heap.size fieldT 3 v' (noC (l.take (k + 1))).length (fldCells (noC (l.take (k + 1)))) := (by rw [HE.out]; exact fld_app hown'); have HON := Lib.hid hon; obtain ⟨A6, cp6, rfl⟩ := own_slice3 hown'; clear hbn hon hown' hgrow)
            go_roundw
            case rel => exact ⟨k + 1, by go_num, by omega, by rw [HS1'.out], by rw [HS2'.out], Lib.hid (HON.out.alloc _), Lib.hid (HBN.out.alloc hsn _)⟩
            case measure => simp [intOf]; omega
          · have HS1' : Hid (((sumBits (noC (l.take (k + 1))) : Nat) : Int) = ((sumBits (noC (l.take k)) : Nat) : Int) + 8) := Lib.hid (by rw [HS1.out]; rw [if_neg (by decide)]; rfl)
            have HS2' : Hid (((sumPtrs (noC (l.take (k + 1))) : Nat) : Int) = ((sumPtrs (noC (l.take k)) : Nat) : Int)) := Lib.hid (by rw [HS2.out]; rw [if_neg (by decide), Nat.add_zero])
            go_wp2_with (at_builtin; go_must (refine wpList_append_own _ rfl (.tmp 62) (.tmp 67) 29 rfl w4.heap.size fieldT i0 (.agg #[.int .i64 0, .bool false, .int .i64 0]) 3 24 Tryd.underlying29 hi hz0 hz1 hz2 rfl (by decide) _ (noC (l.take k)).length _ rfl (HO.out.alloc _) ⟨wr.heap.size, 0, none⟩ 1 1 [.int .i64 2, .bool false, .int .i64 el] rfl rfl (cells_three_at _ _ rfl _ _ _ _) (by simp [Value.oneCell']) (by unfold maxLen; omega) (by omega) (by simp; omega) ?_); intro v' wn hown' hgrow _; have hbn : Below w4.heap.size w4 wn := HB.out.trans ((((Below.refl w4.heap.size wr).alloc hwr _)).grown hgrow (by simp; omega) (fun k hk => (HO.out.lt k hk).1)); have d0 : wn.cell? (x.add (k * 3)) = some (.int .i64 2) := (((((Below.refl w4.heap.size wr).alloc hwr _)).grown hgrow (by simp; omega) (fun k hk => (HO.out.lt k hk).1)).cell (p := x.add (k * 3)) hxb4).trans c0; have hsn := hbn.size; have hxw : (x.add (k * 3)).block < wn.heap.size := Nat.lt_of_lt_of_le hxb4 hsn; have HBN := Lib.hid hbn; have hon : wn.ownsRow w4.heap.size fieldT 3 v' (noC (l.take (k + 1))).length (fldCells (noC (l.take (k + 1)))) := (by rw [HE.out]; exact fld_app hown'); have HON := Lib.hid hon; obtain ⟨A6, cp6, rfl⟩ := own_slice3 hown'; clear hbn hon hown' hgrow)
            go_roundw
            case rel => exact ⟨k + 1, by go_num, by omega, by rw [HS1'.out], by rw [HS2'.out], Lib.hid (HON.out.alloc _), Lib.hid (HBN.out.alloc hsn _)⟩
            case measure => simp [intOf]; omega
          · have HS1' : Hid (((sumBits (noC (l.take (k + 1))) : Nat) : Int) = ((sumBits (noC (l.take k)) : Nat) : Int) + 16) := Lib.hid (by rw [HS1.out]; rw [if_neg (by decide)]; rfl)
            have HS2' : Hid (((sumPtrs (noC (l.take (k + 1))) : Nat) : Int) = ((sumPtrs (noC (l.take k)) : Nat) : Int)) := Lib.hid (by rw [HS2.out]; rw [if_neg (by decide), Nat.add_zero])
            go_wp2_with (at_builtin; go_must (refine wpList_append_own _ rfl (.tmp 62) (.tmp 67) 29 rfl w4.heap.size fieldT i0 (.agg #[.int .i64 0, .bool false, .int .i64 0]) 3 24 Tryd.underlying29 hi hz0 hz1 hz2 rfl (by decide) _ (noC (l.take k)).length _ rfl (HO.out.alloc _) ⟨wr.heap.size, 0, none⟩ 1 1 [.int .i64 3, .bool false, .int .i64 el] rfl rfl (cells_three_at _ _ rfl _ _ _ _) (by simp [Value.oneCell']) (by unfold maxLen; omega) (by omega) (by simp; omega) ?_); intro v' wn hown' hgrow _; have hbn : Below w4.heap.size w4 wn := HB.out.trans ((((Below.refl w4.heap.size wr).alloc hwr _)).grown hgrow (by simp; omega) (fun k hk => (HO.out.lt k hk).1)); have d0 : wn.cell? (x.add (k * 3)) = some (.int .i64 3) := (((((Below.refl w4.heap.size wr).alloc hwr _)).grown hgrow (by simp; omega) (fun k hk => (HO.out.lt k hk).1)).cell (p := x.add (k * 3)) hxb4).trans c0; have hsn := hbn.size; have hxw : (x.add (k * 3)).block < wn.heap.size := Nat.lt_of_lt_of_le hxb4 hsn; have HBN := Lib.hid hbn; have hon : wn.ownsRow w4.heap.size fieldT 3 v' (noC (l.take (k + 1))).length (fldCells (noC (l.take (k + 1)))) := (by rw [HE.out]; exact fld_app hown'); have HON := Lib.hid hon; obtain ⟨A6, cp6, rfl⟩ := own_slice3 hown'; clear hbn hon hown' hgrow)
            go_roundw
            case rel => exact ⟨k + 1, by go_num, by omega, by rw [HS1'.out], by rw [HS2'.out], Lib.hid (HON.out.alloc _), Lib.hid (HBN.out.alloc hsn _)⟩
            case measure => simp [intOf]; omega
          · have HS1' : Hid (((sumBits (noC (l.take (k + 1))) : Nat) : Int) = ((sumBits (noC (l.take k)) : Nat) : Int) + 32) := Lib.hid (by rw [HS1.out]; rw [if_neg (by decide)]; rfl)
            have HS2' : Hid (((sumPtrs (noC (l.take (k + 1))) : Nat) : Int) = ((sumPtrs (noC (l.take k)) : Nat) : Int)) := Lib.hid (by rw [HS2.out]; rw [if_neg (by decide), Nat.add_zero])
            go_wp2_with (at_builtin; go_must (refine wpList_append_own _ rfl (.tmp 62) (.tmp 67) 29 rfl w4.heap.size fieldT i0 (.agg #[.int .i64 0, .bool false, .int .i64 0]) 3 24 Tryd.underlying29 hi hz0 hz1 hz2 rfl (by decide) _ (noC (l.take k)).length _ rfl (HO.out.alloc _) ⟨wr.heap.size, 0, none⟩ 1 1 [.int .i64 4, .bool false, .int .i64 el] rfl rfl (cells_three_at _ _ rfl _ _ _ _) (by simp [Value.oneCell']) (by unfold maxLen; omega) (by omega) (by simp; omega) ?_); intro v' wn hown' hgrow _; have hbn : Below w4.heap.size w4 wn := HB.out.trans ((((Below.refl w4.heap.size wr).alloc hwr _)).grown hgrow (by simp; omega) (fun k hk => (HO.out.lt k hk).1)); have d0 : wn.cell? (x.add (k * 3)) = some (.int .i64 4) := (((((Below.refl w4.heap.size wr).alloc hwr _)).grown hgrow (by simp; omega) (fun k hk => (HO.out.lt k hk).1)).cell (p := x.add (k * 3)) hxb4).trans c0; have hsn := hbn.size; have hxw : (x.add (k * 3)).block < wn.heap.size := Nat.lt_of_lt_of_le hxb4 hsn; have HBN := Lib.hid hbn; have hon : wn.ownsRow w4.heap.size fieldT 3 v' (noC (l.take (k + 1))).length (fldCells (noC (l.take (k + 1)))) := (by rw [HE.out]; exact fld_app hown'); have HON := Lib.hid hon; obtain ⟨A6, cp6, rfl⟩ := own_slice3 hown'; clear hbn hon hown' hgrow)
            go_roundw
            case rel => exact ⟨k + 1, by go_num, by omega, by rw [HS1'.out], by rw [HS2'.out], Lib.hid (HON.out.alloc _), Lib.hid (HBN.out.alloc hsn _)⟩
            case measure => simp [intOf]; omega
          · have HS1' : Hid (((sumBits (noC (l.take (k + 1))) : Nat) : Int) = ((sumBits (noC (l.take k)) : Nat) : Int) + 64) := Lib.hid (by rw [HS1.out]; rw [if_neg (by decide)]; rfl)
            have HS2' : Hid (((sumPtrs (noC (l.take (k + 1))) : Nat) : Int) = ((sumPtrs (noC (l.take k)) : Nat) : Int)) := Lib.hid (by rw [HS2.out]; rw [if_neg (by decide), Nat.add_zero])
            go_wp2_with (at_builtin; go_must (refine wpList_append_own _ rfl (.tmp 62) (.tmp 67) 29 rfl w4.heap.size fieldT i0 (.agg #[.int .i64 0, .bool false, .int .i64 0]) 3 24 Tryd.underlying29 hi hz0 hz1 hz2 rfl (by decide) _ (noC (l.take k)).length _ rfl (HO.out.alloc _) ⟨wr.heap.size, 0, none⟩ 1 1 [.int .i64 5, .bool false, .int .i64 el] rfl rfl (cells_three_at _ _ rfl _ _ _ _) (by simp [Value.oneCell']) (by unfold maxLen; omega) (by omega) (by simp; omega) ?_); intro v' wn hown' hgrow _; have hbn : Below w4.heap.size w4 wn := HB.out.trans ((((Below.refl w4.heap.size wr).alloc hwr _)).grown hgrow (by simp; omega) (fun k hk => (HO.out.lt k hk).1)); have d0 : wn.cell? (x.add (k * 3)) = some (.int .i64 5) := (((((Below.refl w4.heap.size wr).alloc hwr _)).grown hgrow (by simp; omega) (fun k hk => (HO.out.lt k hk).1)).cell (p := x.add (k * 3)) hxb4).trans c0; have hsn := hbn.size; have hxw : (x.add (k * 3)).block < wn.heap.size := Nat.lt_of_lt_of_le hxb4 hsn; have HBN := Lib.hid hbn; have hon : wn.ownsRow w4.heap.size fieldT 3 v' (noC (l.take (k + 1))).length (fldCells (noC (l.take (k + 1)))) := (by rw [HE.out]; exact fld_app hown'); have HON := Lib.hid hon; obtain ⟨A6, cp6, rfl⟩ := own_slice3 hown'; clear hbn hon hown' hgrow)
            go_roundw
            case rel => exact ⟨k + 1, by go_num, by omega, by rw [HS1'.out], by rw [HS2'.out], Lib.hid (HON.out.alloc _), Lib.hid (HBN.out.alloc hsn _)⟩
            case measure => simp [intOf]; omega
      · obtain rfl : k = l.length := by omega
        have htl : l.take l.length = l := List.take_of_length_le (Nat.le_refl _)
        rw [htl] at HO
        simp only [htl]
        obtain ⟨A5, cp5, rfl, hf5⟩ := flds_of_own HO.out
        have HW := Lib.hid (lay_waste (noC l) (noC_none l))
        have HOK2 := Lib.hid (noC_ok HOK.out)
        have hnl := noC_len l l.length
        rw [htl] at hnl
        have hsb := sum_bd (noC l)
        have HTr := Lib.hid (HT4.out.below HB.out (by omega))
        have HLO := Lib.hid (implLayoutOf_any A5 cp5 (noC l) wr HTr.out (by omega) hf5 (by omega))
        have b0 : ((sumBits (noC l) : Nat) : Int) ≤ 1000 := by omega
        have b1 : ((sumPtrs (noC l) : Nat) : Int) ≤ 1000 := by omega
        clear hf5 hsb hlt hk htl
        go_wp2_with fail
        refine HLO.out.mono ?_
        rintro e w5 (⟨-, v5, rfl, hv5, hb5⟩ | ⟨hh, _⟩)
        rotate_left
        · rw [HOK2.out] at hh; cases hh
        obtain ⟨A6, cp6, rfl⟩ := own_slice2 hv5
        have hs5 := hb5.size
        have HB5 := Lib.hid (((HB4.out.trans (HB.out.mono (by omega))).trans (hb5.mono (by omega))).alloc (by omega) (.cells #[.int .i64 ((layF (noC l) ps0).2.ls.words : Int), .int .i64 ((layF (noC l) ps0).2.ptrs : Int), .slice A6 (noC l).length cp6, .int .i64 (layF (noC l) ps0).2.tag] 26))
        obtain ⟨u1, u2, u3, u4⟩ := HW.out
        clear hb5 hv5
        simp only [layV]
        have f1 : (((layF (noC l) ps0).2.ptrs : Int) == ((sumPtrs (noC l) : Nat) : Int)) = true := by rw [u3]; simp
        have f2 : ((sumBits (noC l) : Nat) : Int) ≤ 64 * ((layF (noC l) ps0).2.ls.words : Int) := by omega
        have f3 : 64 * ((layF (noC l) ps0).2.ls.words : Int) - ((sumBits (noC l) : Nat) : Int) < 64 := by omega
        have f4 : ((layF (noC l) ps0).2.ls.words : Int) ≤ 1000 := by omega
        have f5 : (0 : Int) ≤ ((layF (noC l) ps0).2.ls.words : Int) := by omega
        have f6 : (0 : Int) ≤ ((sumBits (noC l) : Nat) : Int) := by omega
        have f7 : 0 ≤ 64 * ((layF (noC l) ps0).2.ls.words : Int) - ((sumBits (noC l) : Nat) : Int) := by omega
        rw [u4] at HB5 ⊢
        clear u1 u2 u3 u4
        generalize ((layF (noC l) ps0).2.ls.words : Int) = wq at *
        generalize ((layF (noC l) ps0).2.ptrs : Int) = pq at *
        generalize ((sumBits (noC l) : Nat) : Int) = sb at *
        generalize ((sumPtrs (noC l) : Nat) : Int) = sp at *
        go_wp2
        go_ret
        exact ⟨rfl, HB5.out⟩
end Go.Proofs.YtfgebmmnlneciaaDoor
