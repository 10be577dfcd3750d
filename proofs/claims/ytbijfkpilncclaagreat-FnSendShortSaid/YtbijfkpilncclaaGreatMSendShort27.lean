/- Texts of the proof of the law FnSendShort, side by side: part 27. -/
import Derived.Deep.RegionWith
import Derived.Deep.LoopGhost
import Derived.Test.YtbijfkpilncclaaGreatMSendShort00
import Derived.Test.YtbijfkpilncclaaGreatMSendShort01
import Derived.Test.YtbijfkpilncclaaGreatMSendShort02
import Derived.Test.YtbijfkpilncclaaGreatMSendShort03
import Derived.Test.YtbijfkpilncclaaGreatMSendShort04
import Derived.Test.YtbijfkpilncclaaGreatMSendShort05
import Derived.Test.YtbijfkpilncclaaGreatMSendShort06
import Derived.Test.YtbijfkpilncclaaGreatMSendShort07
import Derived.Test.YtbijfkpilncclaaGreatMSendShort08
import Derived.Test.YtbijfkpilncclaaGreatMSendShort09
import Derived.Test.YtbijfkpilncclaaGreatMSendShort10
import Derived.Test.YtbijfkpilncclaaGreatMSendShort11
import Derived.Test.YtbijfkpilncclaaGreatMSendShort12
import Derived.Test.YtbijfkpilncclaaGreatMSendShort13
import Derived.Test.YtbijfkpilncclaaGreatMSendShort14
import Derived.Test.YtbijfkpilncclaaGreatMSendShort15
import Derived.Test.YtbijfkpilncclaaGreatMSendShort16
import Derived.Test.YtbijfkpilncclaaGreatMSendShort17
import Derived.Test.YtbijfkpilncclaaGreatMSendShort18
import Derived.Test.YtbijfkpilncclaaGreatMSendShort19
import Derived.Test.YtbijfkpilncclaaGreatMSendShort20
import Derived.Test.YtbijfkpilncclaaGreatMSendShort21
import Derived.Test.YtbijfkpilncclaaGreatMSendShort22
import Derived.Test.YtbijfkpilncclaaGreatMSendShort23
import Derived.Test.YtbijfkpilncclaaGreatMSendShort24
import Derived.Test.YtbijfkpilncclaaGreatMSendShort25
import Derived.Test.YtbijfkpilncclaaGreatMSendShort26
namespace Go.Proofs.YtbijfkpilncclaaGreat
open Go.RowKit
set_option maxRecDepth 100000 in
set_option maxHeartbeats 4000000 in
theorem ptakeF_any (B b : Nat) (out : List UInt8) (v : Value) (ws : List (List UInt8)) (w : World) (h : PS B b out v ws w) (hl : ws.length ≤ 200) (ho : out.length ≤ 1000000) (hBw : B ≤ w.heap.size) :
    Calls Tryz.prog 127 #[.pointer (some ⟨b, 0, none⟩), .func (.func 129) #[] #[]] w fun e w' =>
      ∃ v1 v2, e = .returned v1 ∧ WS B b w' v1 (ws.take (runN fewL ws)) ∧ PS B b (out ++ [UInt8.ofNat (runN fewL ws)]) v2 (ws.drop (runN fewL ws)) w' ∧ Keeps B b w w' := by
  obtain ⟨A, cap, rfl, hcap, hcm, hwds, hrg⟩ := h.2
  have HWds := Lib.hid hwds
  have HRG := Lib.hid hrg
  have H := Lib.hid h
  obtain ⟨P, hP⟩ : ∃ P : Ending → World → Prop, P = (fun e w' => ∃ v1 v2, e = .returned v1 ∧ WS B b w' v1 (ws.take (runN fewL ws)) ∧ PS B b (out ++ [UInt8.ofNat (runN fewL ws)]) v2 (ws.drop (runN fewL ws)) w' ∧ Keeps B b w w') := ⟨_, rfl⟩
  rw [← hP]
  have HP := Lib.hid hP
  clear hP h hwds hrg
  go_enter Tryz.func127, Tryz.ntmps127
  go_wp2_with fail
  go_loopw [5] (fun i wr => ∃ k : Nat, k ≤ ws.length ∧ k ≤ 255 ∧ i = .int .i64 k ∧ Hid (∀ j (h : j < ws.length), j < k → fewL ws[j] = true) ∧ Hid (Below w.heap.size w wr)) (fun i _ => ws.length - (intOf i).toNat)
  case atStart => exact ⟨0, by omega, by omega, rfl, fun j hj h => by omega, Below.refl _ _⟩
  case round =>
    obtain ⟨k, hk, hk255, rfl, HZ, HB⟩ := hrel
    have hPS := H.out.below HB.out hBw
    have hcl := hPS.left
    have hPS0 := Lib.hid hPS
    have HBB := Lib.hid (Nat.le_trans hBw HB.out.size)
    by_cases hgo : k < ws.length ∧ k < 255
    · obtain ⟨hk1, hk2⟩ := hgo
      obtain ⟨g, o, rfl, hgB, hgb, hr⟩ := HRG.out.resolve_left (by intro h; rw [h] at hk1; simp at hk1)
      have hr2 : wr.rangeAt g (o + 8 * k) (Lib.byteCells ws[k]) := fun j u hu => (HB.out.cell (p := ⟨g, o + 8 * k + j, none⟩) (show g < w.heap.size by omega)).trans (range_word HWds.out hr k hk1 j u hu)
      have hx8 : (ws[k]).length = 8 := HWds.out _ (List.getElem_mem hk1)
      obtain ⟨x, hx⟩ : ∃ x, ws[k] = x := ⟨_, rfl⟩
      rw [hx] at hr2 hx8
      have HX := Lib.hid hx
      rw [Nat.mul_comm 8 k] at hr2
      have HR2 := Lib.hid hr2
      have HX8 := Lib.hid hx8
      have hd1 : decide ((k : Int) < (ws.length : Int)) = true := by simp; omega
      have hd2 : decide ((k : Int) < 255) = true := by simp; omega
      have hN := Lib.hid (isFull_any x wr hx8)
      clear hx hr2 hPS hx8
      go_wp2_with (refine wpList_load_midG (by rfl) 91 (.tmp 25) rfl g (o + k * 8) rfl (Lib.byteCells x) _ HR2.out Tryz.underlying91 rfl (by rw [Lib.byteCells_length, HX8.out]; exact size46) ?_)
      refine hN.out.mono ?_
      rintro e w1 ⟨rfl, hb1⟩
      have HB1 := Lib.hid (HB.out.trans (hb1.mono HB.out.size))
      cases hz : fewL x
      · have hrun : runN fewL ws = k := runN_eq hk hk255 HZ.out (.inr (.inr ⟨hk1, by rw [HX.out]; exact hz⟩))
        have HRun := Lib.hid hrun
        have hPS1 := hPS0.out.below hb1 HBB.out
        have hcl1 := hPS1.left
        have hfz1 := BF.frozen hPS1.1 2
        have HPS1 := Lib.hid hPS1
        have hB1 := hb1
        clear hrun hz hb1 hPS1
        have hpc := Lib.hid (pcount_any B b out k cap _ _ ws w1 HPS1.out hk hk255 (HPS1.out.2.dropped hk1) ho (Nat.le_trans HBB.out hB1.size))
        go_wp2_with fail
        refine hpc.out.mono ?_
        rintro e w2 ⟨rfl, hw1, hp1, hkp⟩
        have HW1 := Lib.hid hw1
        have HP1 := Lib.hid hp1
        have HK1 := Lib.hid ((Keeps.of_below (HB1.out.mono hBw)).trans hkp)
        clear hw1 hp1 hkp hB1
        go_wp2
        rw [HP.out, HRun.out]
        exact ⟨_, _, rfl, HW1.out, HP1.out, HK1.out⟩
      · have HZ2 : Hid (∀ j (h : j < ws.length), j < k + 1 → fewL ws[j] = true) := Lib.hid (fun j hj hjk => by
          by_cases hjk2 : j < k
          · exact HZ.out j hj hjk2
          · obtain rfl : j = k := by omega
            rw [HX.out]; exact hz)
        clear hz hb1
        go_wp2
        go_roundw
        case rel => exact ⟨k + 1, by omega, by omega, by go_num, HZ2, HB1⟩
        case measure => simp [intOf]; omega
    · obtain rfl : k = ws.length := by omega
      have hrun : runN fewL ws = ws.length := runN_eq (Nat.le_refl _) hk255 HZ.out (.inr (.inl rfl))
      have HRun := Lib.hid hrun
      have hfz1 := BF.frozen hPS.1 2
      have hdrop : ws.drop ws.length = [] := List.drop_length
      have HDrop := Lib.hid hdrop
      clear hrun hPS hdrop
      by_cases hcc : cap = ws.length
      · subst hcc
        have hpc := Lib.hid (pcount_any B b out ws.length ws.length A (.slice A 0 0) ws wr hPS0.out (Nat.le_refl _) hk255 (by rw [HDrop.out]; exact WS.empty B b wr _ _ (by omega)) ho HBB.out)
        go_wp2_with fail
        refine hpc.out.mono ?_
        rintro e w2 ⟨rfl, hw1, hp1, hkp⟩
        have HW1 := Lib.hid hw1
        have HP1 := Lib.hid hp1
        have HK1 := Lib.hid ((Keeps.of_below (HB.out.mono hBw)).trans hkp)
        clear hw1 hp1 hkp
        go_wp2
        rw [HP.out, HRun.out]
        exact ⟨_, _, rfl, HW1.out, HP1.out, HK1.out⟩
      · have hcc2 : ws.length < cap := by omega
        have hpc := Lib.hid (pcount_any B b out ws.length cap A (.slice (Option.map (fun x => x.add (ws.length * 8)) A) 0 (cap - ws.length)) ws wr hPS0.out (Nat.le_refl _) hk255 (by rw [HDrop.out]; exact WS.empty B b wr _ _ (by omega)) ho HBB.out)
        go_wp2_with fail
        refine hpc.out.mono ?_
        rintro e w2 ⟨rfl, hw1, hp1, hkp⟩
        have HW1 := Lib.hid hw1
        have HP1 := Lib.hid hp1
        have HK1 := Lib.hid ((Keeps.of_below (HB.out.mono hBw)).trans hkp)
        clear hw1 hp1 hkp
        go_wp2
        rw [HP.out, HRun.out]
        exact ⟨_, _, rfl, HW1.out, HP1.out, HK1.out⟩
end Go.Proofs.YtbijfkpilncclaaGreat

namespace Go.Proofs.YtbijfkpilncclaaGreat
open Go.RowKit
def pTag (b : Nat) : Value := .func (.func 66) #[.pointer (some ⟨b, 0, none⟩)] #[]
def pNou (b : Nat) : Value := .func (.func 103) #[.pointer (some ⟨b, 0, none⟩)] #[]
def pPla (b : Nat) : Value := .func (.func 104) #[.pointer (some ⟨b, 0, none⟩)] #[]
def nouL (ws : List (List UInt8)) : List UInt8 := UInt8.ofNat (runN zerL ws) :: packW (ws.drop (runN zerL ws))
def plaL (ws : List (List UInt8)) : List UInt8 := UInt8.ofNat (runN fewL ws) :: ((ws.take (runN fewL ws)).flatten ++ packW (ws.drop (runN fewL ws)))
def PJ (R : List UInt8) (B b k : Nat) (s : Value) (w : World) : Prop := ∃ out v ws, PS B b out v ws w ∧ ws.length ≤ 200 ∧
  ((s = pTag b ∧ out ++ packW ws = R ∧ 2 * ws.length + 1 ≤ k) ∨ (s = pNou b ∧ out ++ nouL ws = R ∧ 2 * ws.length + 2 ≤ k) ∨ (s = pPla b ∧ out ++ plaL ws = R ∧ 2 * ws.length + 2 ≤ k) ∨ (s = .nilFunc ∧ out = R))
def PNext (R : List UInt8) (B b k : Nat) (w : World) (e : Ending) (w' : World) : Prop := ∃ s k', k' < k ∧ e = .returned s ∧ PJ R B b k' s w' ∧ Keeps B b w w'
theorem out_le {out x R : List UInt8} (h : out ++ x = R) (hR : R.length ≤ 100000) : out.length ≤ 100000 := by
  rw [← h, List.length_append] at hR; omega
set_option maxHeartbeats 1000000 in
theorem pnou_next (R : List UInt8) (B b k : Nat) (out : List UInt8) (v : Value) (ws : List (List UInt8)) (w : World) (h : PS B b out v ws w) (hl : ws.length ≤ 200) (hR : out ++ nouL ws = R) (hk : 2 * ws.length + 2 ≤ k) (hRl : R.length ≤ 100000) (hBw : B ≤ w.heap.size) :
    Calls Tryz.prog 103 #[.pointer (some ⟨b, 0, none⟩)] w (PNext R B b k w) := by
  have HT := Lib.hid (ptakeZ_any B b out v ws w h hl (by have := out_le hR hRl; omega) hBw)
  have HR := Lib.hid hR
  clear h hR
  go_enter Tryz.func103, Tryz.ntmps103
  go_wp2_with fail
  refine HT.out.mono ?_
  rintro e w1 ⟨v1, v2, rfl, _, hp, hk1⟩
  have HP := Lib.hid hp
  have HK := Lib.hid hk1
  clear hp hk1
  go_wp2
  go_ret
  refine ⟨pTag b, 2 * (ws.drop (runN zerL ws)).length + 1, by rw [List.length_drop]; omega, rfl, ⟨_, _, _, HP.out, by rw [List.length_drop]; omega, .inl ⟨rfl, ?_, Nat.le_refl _⟩⟩, HK.out⟩
  rw [← HR.out, nouL, List.append_assoc]; rfl
set_option maxRecDepth 100000 in
set_option maxHeartbeats 4000000 in
theorem ppla_next (R : List UInt8) (B b k : Nat) (out : List UInt8) (v : Value) (ws : List (List UInt8)) (w : World) (h : PS B b out v ws w) (hl : ws.length ≤ 200) (hR : out ++ plaL ws = R) (hk : 2 * ws.length + 2 ≤ k) (hRl : R.length ≤ 100000) (hBw : B ≤ w.heap.size) :
    Calls Tryz.prog 104 #[.pointer (some ⟨b, 0, none⟩)] w (PNext R B b k w) := by
  have HT := Lib.hid (ptakeF_any B b out v ws w h hl (by have := out_le hR hRl; omega) hBw)
  have HR := Lib.hid hR
  obtain ⟨hn1, hn2⟩ := runN_le fewL ws
  obtain ⟨n, hn⟩ : ∃ n, runN fewL ws = n := ⟨_, rfl⟩
  rw [hn] at HT hn1 hn2
  have hol := out_le hR hRl
  have HN := Lib.hid hn
  clear h hR hn
  go_enter Tryz.func104, Tryz.ntmps104
  go_wp2_with fail
  refine HT.out.mono ?_
  rintro e w1 ⟨v1, v2, rfl, hw1, hp, hk1⟩
  obtain ⟨A, cap, rfl, hc1, hc2, hwd, hrg⟩ := hw1
  have htl : (ws.take n).length = n := by rw [List.length_take]; omega
  rw [htl] at hc1 ⊢
  have HTL := Lib.hid htl
  have HRG := Lib.hid hrg
  have HWD := Lib.hid hwd
  have HP := Lib.hid hp
  have HK := Lib.hid hk1
  have hB1 := Nat.le_trans hBw hk1.size
  clear hp hk1 hrg hwd htl
  go_wp2_with fail
  go_loopw [8] (fun i wr => ∃ j : Nat, j ≤ n ∧ i = .int .i64 j ∧ Hid (BF 96 B b (Lib.byteCells (out ++ [UInt8.ofNat n] ++ ((ws.take n).take j).flatten)) [v2] wr) ∧ Hid (Keeps B b w1 wr)) (fun i _ => n - (intOf i).toNat)
  case atStart => exact ⟨0, by omega, rfl, by simpa [Hid] using HP.out.1, Keeps.refl _ _ _⟩
  case round =>
    obtain ⟨j, hj, rfl, HB, HKR⟩ := hrel
    by_cases hj1 : j < n
    · have hjt : j < (ws.take n).length := by rw [HTL.out]; exact hj1
      obtain ⟨g, o, rfl, hgB, hgb, hr⟩ := HRG.out.resolve_left (by intro h; rw [h] at hjt; simp at hjt)
      have hr1 := range_word HWD.out hr j hjt
      have hr2 : wr.rangeAt g (o + 8 * j) (Lib.byteCells (ws.take n)[j]) := fun i u hu => (keeps_cell HKR.out ⟨g, o + 8 * j + i, none⟩ hgB hgb).trans (hr1 i u hu)
      have hx8 : ((ws.take n)[j]).length = 8 := HWD.out _ (List.getElem_mem hjt)
      have hfl : ((ws.take n).take (j + 1)).flatten = ((ws.take n).take j).flatten ++ (ws.take n)[j] := by
        rw [List.take_succ_eq_append_getElem hjt, List.flatten_append]; simp
      have hflen : ((ws.take n).take j).flatten.length ≤ 2000 := by
        rw [flat_length (HWD.out.take j), List.length_take]; omega
      obtain ⟨x, hx⟩ : ∃ x, (ws.take n)[j] = x := ⟨_, rfl⟩
      rw [hx] at hr2 hx8 hfl
      obtain ⟨b0, b1, b2, b3, b4, b5, b6, b7, rfl⟩ := len8 hx8
      have HFL := Lib.hid hfl
      rw [Nat.mul_comm 8 j] at hr2
      have HR2 := Lib.hid hr2
      have hB2 := Nat.le_trans hB1 HKR.out.size
      clear hx hr hr1 hr2 hx8 hjt hfl
      go_wp2_with (refine wpList_load_mid rfl 91 (.tmp 10) rfl g (o + j * 8) rfl [.int .u8 b0.toNat, .int .u8 b1.toNat, .int .u8 b2.toNat, .int .u8 b3.toNat, .int .u8 b4.toNat, .int .u8 b5.toNat, .int .u8 b6.toNat, .int .u8 b7.toNat] _ HR2.out Tryz.underlying91 rfl size46 ?_)
      have hlen : (Lib.byteCells (out ++ [UInt8.ofNat n] ++ ((ws.take n).take j).flatten)).length ≤ 1099511627776 := by
        rw [Lib.byteCells_length, List.length_append, List.length_append, List.length_singleton]; omega
      have HLen := Lib.hid hlen
      clear hlen hflen
      have hcat : ∀ l : List UInt8, Lib.byteCells l ++ Lib.strCells ⟨#[b0, b1, b2, b3, b4, b5, b6, b7]⟩ = Lib.byteCells (l ++ [b0, b1, b2, b3, b4, b5, b6, b7]) := fun l => by simp [Lib.byteCells, Lib.strCells]
      have HCat := Lib.hid hcat
      clear hcat
      go_region_with (first | (go_at_call 81; refine (text_lit b0 b1 b2 b3 b4 b5 b6 b7 _).mono ?_; rintro e wt ⟨rfl, hbt⟩; have HBT : Hid (Below wr.heap.size wr wt) := Lib.hid ((((Below.refl wr.heap.size wr).alloc (Nat.le_refl _) _).drew).trans (hbt.mono (by simp))); clear hbt) | (go_at_call 43; refine (fwriteString_any 96 B b (Lib.byteCells (out ++ [UInt8.ofNat n] ++ ((ws.take n).take j).flatten)) [v2] ⟨#[b0, b1, b2, b3, b4, b5, b6, b7]⟩ _ pkT (HB.out.below HBT.out) HLen.out (by show 8 ≤ _; decide) (Nat.le_trans hB2 HBT.out.size)).mono ?_; rintro e w5 ⟨rfl, hU, hK5⟩; have HU := Lib.hid hU; have HK5 := Lib.hid hK5; clear hU hK5))
      all_goals
        go_wp2
        go_roundw
        case rel => exact ⟨j + 1, by omega, by go_num, by rw [HFL.out, ← List.append_assoc, ← HCat.out]; exact HU, (HKR.out.trans (Keeps.of_below (HBT.out.mono hB2))).trans HK5.out⟩
        case measure => simp [intOf]; omega
    · obtain rfl : j = n := by omega
      have hU := HB.out
      rw [List.take_of_length_le (by rw [HTL.out]; exact Nat.le_refl _)] at hU
      have HU := Lib.hid hU
      clear hU
      go_wp2
      go_ret
      refine ⟨pTag b, 2 * (ws.drop j).length + 1, by rw [List.length_drop]; omega, rfl, ⟨_, v2, _, ⟨HU.out, HP.out.2.keeps HKR.out⟩, by rw [List.length_drop]; omega, .inl ⟨rfl, ?_, Nat.le_refl _⟩⟩, HK.out.trans HKR.out⟩
      rw [← HR.out, plaL, HN.out, List.append_assoc, List.append_assoc]; rfl
end Go.Proofs.YtbijfkpilncclaaGreat

namespace Go.Proofs.YtbijfkpilncclaaGreat
open Go.RowKit
theorem nz_take (l : List UInt8) (k : Nat) (h : k < l.length) : nzL (l.take (k + 1)) = nzL (l.take k) ++ (if l[k] = 0 then [] else [l[k]]) := by
  rw [List.take_succ_eq_append_getElem h, nzL, List.filter_append, ← nzL]
  by_cases hz : l[k] = 0
  · rw [if_pos hz, hz]; rfl
  · rw [if_neg hz, List.filter_cons, if_pos (by simpa using hz)]; rfl
theorem pkT0 : 91 ≠ 5 := by decide
set_option maxRecDepth 100000 in
set_option maxHeartbeats 4000000 in
theorem ptag_next (R : List UInt8) (B b k : Nat) (out : List UInt8) (v : Value) (ws : List (List UInt8)) (w : World) (h : PS B b out v ws w) (hl : ws.length ≤ 200) (hR : out ++ packW ws = R) (hk : 2 * ws.length + 1 ≤ k) (hRl : R.length ≤ 100000) (hBw : B ≤ w.heap.size) :
    Calls Tryz.prog 66 #[.pointer (some ⟨b, 0, none⟩)] w (PNext R B b k w) := by
  have hcl := h.left
  have hfz := BF.frozen h.1 2
  have hblt := h.1.lt
  have hbne : b ≠ w.heap.size := by omega
  have H := Lib.hid h
  obtain ⟨A, cap, rfl, hc1, hc2, hwd, hrg⟩ := h.2
  cases ws with
  | nil =>
    have HR : Hid (PNext R B b k w (.returned .nilFunc) w) := Lib.hid ⟨.nilFunc, 0, by omega, rfl, ⟨out, _, [], H.out, by simp, .inr (.inr (.inr ⟨rfl, by rw [← hR, packW, List.append_nil]⟩))⟩, Keeps.refl _ _ _⟩
    clear h hR hrg hwd hfz
    go_enter Tryz.func66, Tryz.ntmps66
    go_wp2
    go_ret
    exact HR.out
  | cons x r =>
    obtain ⟨g, o, rfl, hgB, hgb, hr⟩ := hrg.resolve_left (by simp)
    have hx8 : x.length = 8 := hwd x (by simp)
    have hr2 := range_word hwd hr 0 (by simp)
    simp only [Nat.mul_zero, Nat.add_zero, List.getElem_cons_zero] at hr2
    have hol := out_le hR hRl
    obtain ⟨b0, b1, b2, b3, b4, b5, b6, b7, rfl⟩ := len8 hx8
    have HR2 := Lib.hid hr2
    have HR := Lib.hid hR
    have HWD := Lib.hid hwd
    have hlr : r.length ≤ 199 := by simp at hl; omega
    have hlen1 : ((([b0, b1, b2, b3, b4, b5, b6, b7] :: r).length : Nat) : Int) = (r.length : Int) + 1 := by simp
    have hcap1 : r.length + 1 ≤ cap := by simpa using hc1
    have HS : Hid (∀ v2, WS B b w v2 r → PS B b out v2 r (w.setCell ⟨b, 2, none⟩ v2)) := Lib.hid (fun v2 hv2 => ⟨H.out.setLeft v2, hv2.keeps (set_keeps B b w 2 v2)⟩)
    have hv2 : r.length + 1 < cap ∨ 1 < r.length + 1 → WS B b w (.slice (some ⟨g, o + 8, none⟩) r.length (cap - 1)) r := fun _ => by
      refine ⟨_, cap - 1, rfl, by omega, by omega, hwd.drop 1, ?_⟩
      by_cases hr0 : r = []
      · exact .inl hr0
      · exact .inr ⟨g, o + 8, rfl, hgB, hgb, by have := range_drop hwd hr 1 (by simp); simpa using this⟩
    clear h hr2 hR hwd hrg hr hx8
    obtain ⟨v2, hv2v, hv2⟩ : ∃ v2, ((cap = 1 → v2 = .slice (some ⟨g, o, none⟩) 0 0) ∧ (cap ≠ 1 → v2 = .slice (some ⟨g, o + 8, none⟩) r.length (cap - 1))) ∧ WS B b w v2 r := by
      by_cases hcc : cap = 1
      · have hr0 : r = [] := List.eq_nil_of_length_eq_zero (by omega)
        exact ⟨_, ⟨fun _ => rfl, fun h => absurd hcc h⟩, by rw [hr0]; exact WS.empty B b w _ 0 (by omega)⟩
      · exact ⟨_, ⟨fun h => absurd h hcc, fun _ => rfl⟩, hv2 (by omega)⟩
    have HPS0 := Lib.hid (HS.out v2 hv2)
    have hKs := set_keeps B b w 2 v2
    have HK0 := Lib.hid hKs
    have hsz0 : (w.setCell ⟨b, 2, none⟩ v2).heap.size = w.heap.size := by simp [World.setCell]
    obtain ⟨W0, hW0⟩ : ∃ W0, w.setCell ⟨b, 2, none⟩ v2 = W0 := ⟨_, rfl⟩
    rw [hW0] at HPS0 HK0 hsz0
    have hbox := heap_alloc_new W0 (.cells (wd [b0, b1, b2, b3, b4, b5, b6, b7]) 91)
    rw [hsz0] at hbox
    have hbl1 : Below W0.heap.size W0 (W0.alloc (.cells (wd [b0, b1, b2, b3, b4, b5, b6, b7]) 91)) := (Below.refl _ _).alloc (Nat.le_refl _) _
    have HPS1 := Lib.hid (HPS0.out.below hbl1 (by omega))
    have HK1 := Lib.hid (HK0.out.trans (Keeps.of_below (hbl1.mono (show B ≤ W0.heap.size by omega))))
    obtain ⟨W1, hW1⟩ : ∃ W1, W0.alloc (.cells (wd [b0, b1, b2, b3, b4, b5, b6, b7]) 91) = W1 := ⟨_, rfl⟩
    rw [hW1] at hbox HPS1 HK1
    have hB1 := Nat.le_trans hBw HK1.out.size
    have HBOX := Lib.hid hbox
    obtain ⟨l, hle⟩ : ∃ l, [b0, b1, b2, b3, b4, b5, b6, b7] = l := ⟨_, rfl⟩
    have hl8 : l.length = 8 := by rw [← hle]; rfl
    have HMask : Hid (Calls Tryz.prog 101 #[.agg (wd [b0, b1, b2, b3, b4, b5, b6, b7])] W1 fun e w' => e = .returned (.int .u8 (maskN l : Nat)) ∧ Below W1.heap.size W1 w') := Lib.hid (by rw [← hle]; exact mask_any _ W1 rfl)
    rw [hle] at HBOX
    rw [wd8] at HMask hW1
    have HW0 := Lib.hid hW0
    have HW1 := Lib.hid hW1
    have hRR := HR.out
    rw [hle] at hRR
    have HRR := Lib.hid hRR
    have hm256 := maskN_lt l
    rw [hl8] at hm256
    have hm256b : maskN l < 256 := hm256
    have HL8 := Lib.hid hl8
    have HLE := Lib.hid hle
    obtain ⟨M, hM⟩ : ∃ M, maskN l = M := ⟨_, rfl⟩
    rw [hM] at HMask hm256b
    have HM := Lib.hid hM
    clear hKs hW0 hbl1 hW1 hbox hRR hm256 hl8 hle hM hv2 HR
    have fin : ∀ w2, Below W1.heap.size W1 w2 → PS B b out v2 r w2 ∧ w2.heap[w.heap.size]? = some (.cells (wd l) 91 (0, 0)) ∧ Keeps B b w w2 ∧ B ≤ w2.heap.size := fun w2 hb => ⟨HPS1.out.below hb hB1, (hb.block _ (row_lt HBOX.out)).trans HBOX.out, HK1.out.trans (Keeps.of_below (hb.mono hB1)), Nat.le_trans hB1 hb.size⟩
    have FIN := Lib.hid fin
    clear fin
    by_cases hcc : cap = 1
    · have hv := hv2v.1 hcc
      subst hv
      subst hcc
      have hr0 : r.length = 0 := by omega
      clear hv2v
      go_enter Tryz.func66, Tryz.ntmps66
      go_wp2_with (refine wpList_load_mid rfl 91 (.tmp 17) rfl g o rfl [.int .u8 b0.toNat, .int .u8 b1.toNat, .int .u8 b2.toNat, .int .u8 b3.toNat, .int .u8 b4.toNat, .int .u8 b5.toNat, .int .u8 b6.toNat, .int .u8 b7.toNat] _ HR2.out Tryz.underlying91 rfl size46 ?_)
      rw [HW0.out, HW1.out]
      refine HMask.out.mono ?_
      rintro e w2 ⟨rfl, hb2⟩
      obtain ⟨hp2, hx2, hk2, hB2⟩ := FIN.out w2 hb2
      have HWB := Lib.hid (fwriteByteO_any 96 B b (Lib.byteCells out) [_] (M : Int) w2 pkT hp2.1 (by rw [Lib.byteCells_length]; omega) hB2)
      have HWS2 := Lib.hid hp2.2
      have HX2 := Lib.hid hx2
      have HK2 := Lib.hid hk2
      clear hp2 hx2 hk2 hb2
      go_wp2_with fail
      refine HWB.out.mono ?_
      rintro e w3 ⟨rfl, hbf, hk3, hot⟩
      have HBF := Lib.hid hbf
      have HX3 := Lib.hid (hot _ _ _ _ (by omega) pkT0 HX2.out)
      have HK3 := Lib.hid (HK2.out.trans hk3)
      have HWS3 := Lib.hid (HWS2.out.keeps hk3)
      have hB3 := Nat.le_trans hB2 hk3.size
      clear hbf hk3 hot
      go_wp2_with (refine wpList_load_wd rfl 91 (.tmp 3) rfl w.heap.size rfl 91 l _ HX3.out Tryz.underlying91 rfl (by rw [HL8.out]; exact size46) ?_)
      have hU0 : Lib.byteCells out ++ [Value.int .u8 (M : Int)] = Lib.byteCells (out ++ [UInt8.ofNat M] ++ nzL (l.take 0)) := by
        have : (UInt8.ofNat M).toNat = M := by rw [UInt8.toNat_ofNat']; omega
        simp [Lib.byteCells, nzL]; omega
      rw [hU0] at HBF
      clear hU0
      go_loopw [35] (fun i wr => ∃ j : Nat, j ≤ 8 ∧ i = .int .i64 j ∧ Hid (BF 96 B b (Lib.byteCells (out ++ [UInt8.ofNat M] ++ nzL (l.take j))) [.slice (some ⟨g, o, none⟩) 0 0] wr) ∧ Hid (Keeps B b w3 wr)) (fun i _ => 8 - (intOf i).toNat)
      case atStart => exact ⟨0, by omega, rfl, HBF, Keeps.refl _ _ _⟩
      case round =>
        obtain ⟨j, hj, rfl, HB, HKR⟩ := hrel
        have hB4 := Nat.le_trans hB3 HKR.out.size
        by_cases hj1 : j < 8
        · have hjl : j < l.length := by rw [HL8.out]; exact hj1
          have hnz := nz_take l j hjl
          have hgd : l[j]?.getD 0 = l[j] := by rw [List.getElem?_eq_getElem hjl]; rfl
          obtain ⟨c, hc⟩ : ∃ c, l[j] = c := ⟨_, rfl⟩
          rw [hc] at hnz hgd
          have hidx := index_wd l j c HL8.out hj1 hgd
          have HNZ := Lib.hid hnz
          have hnl : (nzL (l.take j)).length ≤ 8 := Nat.le_trans (List.length_filter_le _ _) (by rw [List.length_take]; omega)
          clear hnz hgd hc hjl
          by_cases hz : c = 0
          · have hz1 : ((c.toNat : Int) == 0) = true := by rw [hz]; rfl
            have hz2 : ((c.toNat : Int) != 0) = false := by rw [hz]; rfl
            have HE : Hid (nzL (l.take (j + 1)) = nzL (l.take j)) := Lib.hid (by rw [HNZ.out, if_pos hz, List.append_nil])
            clear hz
            go_wp2
            go_roundw
            case rel => exact ⟨j + 1, by omega, by go_num, by rw [HE.out]; exact HB, HKR⟩
            case measure => simp [intOf]; omega
          · have hz1 : ((c.toNat : Int) == 0) = false := by
              rw [beq_eq_false_iff_ne]; intro h; exact hz (UInt8.toNat_inj.1 (show c.toNat = 0 by omega))
            have hz2 : ((c.toNat : Int) != 0) = true := by simp [bne, hz1]
            have HE : Hid (nzL (l.take (j + 1)) = nzL (l.take j) ++ [c]) := Lib.hid (by rw [HNZ.out, if_neg hz])
            have HWB2 := Lib.hid (fwriteByte_any 96 B b _ [_] (c.toNat : Int) wr pkT HB.out (by rw [Lib.byteCells_length, List.length_append, List.length_append, List.length_singleton]; omega) hB4)
            have hcat : ∀ x : List UInt8, Lib.byteCells x ++ [Value.int .u8 (c.toNat : Int)] = Lib.byteCells (x ++ [c]) := fun x => by simp [Lib.byteCells]
            have HCat := Lib.hid hcat
            clear hz hcat
            go_wp2_with fail
            refine HWB2.out.mono ?_
            rintro e w5 ⟨rfl, hb5, hk5⟩
            rw [HCat.out] at hb5
            have HB5 := Lib.hid hb5
            have HK5 := Lib.hid (HKR.out.trans hk5)
            clear hb5 hk5
            go_wp2
            go_roundw
            case rel => exact ⟨j + 1, by omega, by go_num, by rw [HE.out, ← List.append_assoc]; exact HB5, HK5⟩
            case measure => simp [intOf]; omega
        · obtain rfl : j = 8 := by omega
          have hb8 := HB.out
          rw [show l.take 8 = l from List.take_of_length_le (by rw [HL8.out]; exact Nat.le_refl _)] at hb8
          have HFin : Hid (∀ s x, (s = pTag b ∧ x = packW r ∧ 2 * r.length + 1 ≤ 2 * r.length + 2) ∨ (s = pNou b ∧ x = nouL r ∧ True) ∨ (s = pPla b ∧ x = plaL r ∧ True) → out ++ [UInt8.ofNat M] ++ nzL l ++ x = R → PNext R B b k w (.returned s) wr) := Lib.hid (fun s x hs hx => by
            have hps : PS B b (out ++ [UInt8.ofNat M] ++ nzL l) (.slice (some ⟨g, o, none⟩) 0 0) r wr := ⟨hb8, HWS3.out.keeps HKR.out⟩
            rcases hs with ⟨rfl, rfl, _⟩ | ⟨rfl, rfl, _⟩ | ⟨rfl, rfl, _⟩
            · exact ⟨_, 2 * r.length + 2, by rw [List.length_cons] at hk; omega, rfl, ⟨_, _, _, hps, by omega, .inl ⟨rfl, hx, by omega⟩⟩, HK3.out.trans HKR.out⟩
            · exact ⟨_, 2 * r.length + 2, by rw [List.length_cons] at hk; omega, rfl, ⟨_, _, _, hps, by omega, .inr (.inl ⟨rfl, hx, by omega⟩)⟩, HK3.out.trans HKR.out⟩
            · exact ⟨_, 2 * r.length + 2, by rw [List.length_cons] at hk; omega, rfl, ⟨_, _, _, hps, by omega, .inr (.inr (.inl ⟨rfl, hx, by omega⟩))⟩, HK3.out.trans HKR.out⟩)
          have hpk := HRR.out
          rw [packW] at hpk
          clear hb8
          cases hzz : zerL l
          · rw [hzz, if_neg (by simp)] at hpk
            have hM0 : M ≠ 0 := fun h => by
              have := (maskN_zero l).1 (by rw [HM.out]; exact h)
              rw [hzz] at this; cases this
            have hm0 : ((M : Int) == 0) = false := beq_eq_false_iff_ne.2 (by omega)
            cases hff : fullL l
            · rw [hff, if_neg (by simp), HM.out] at hpk
              have hM1 : M ≠ 255 := fun h => by
                have := (mask8_full HL8.out).1 (by rw [HM.out]; exact h)
                rw [hff] at this; cases this
              have hm1 : ((M : Int) == 255) = false := beq_eq_false_iff_ne.2 (by omega)
              have HX := Lib.hid (HFin.out (pTag b) (packW r) (.inl ⟨rfl, rfl, by omega⟩) (by rw [← hpk]; simp))
              unfold pTag at HX
              clear hpk hzz hff hM0 hM1
              go_wp2
              go_ret
              exact HX.out
            · rw [hff, if_pos rfl] at hpk
              have hM1 : M = 255 := by rw [← HM.out]; exact (mask8_full HL8.out).2 hff
              have hm1 : ((M : Int) == 255) = true := by rw [hM1]; rfl
              have HX := Lib.hid (HFin.out (pPla b) (plaL r) (.inr (.inr ⟨rfl, rfl, trivial⟩)) (by rw [← hpk, nz_full hff, hM1, plaL]; simp))
              unfold pPla at HX
              clear hpk hzz hff hM0 hM1
              go_wp2
              go_ret
              exact HX.out
          · rw [hzz, if_pos rfl] at hpk
            have hM0 : M = 0 := by rw [← HM.out]; exact (maskN_zero l).2 hzz
            have hm0 : ((M : Int) == 0) = true := by rw [hM0]; rfl
            have hnz0 : nzL l = [] := by
              rw [nzL, List.filter_eq_nil_iff]
              intro x hx
              have := List.all_eq_true.1 hzz x hx
              simpa using this
            have HX := Lib.hid (HFin.out (pNou b) (nouL r) (.inr (.inl ⟨rfl, rfl, trivial⟩)) (by rw [← hpk, hnz0, hM0, nouL]; simp))
            unfold pNou at HX
            clear hpk hzz hM0 hnz0
            go_wp2
            go_ret
            exact HX.out
    · have hv := hv2v.2 hcc
      subst hv
      clear hv2v
      go_enter Tryz.func66, Tryz.ntmps66
      go_wp2_with (refine wpList_load_mid rfl 91 (.tmp 17) rfl g o rfl [.int .u8 b0.toNat, .int .u8 b1.toNat, .int .u8 b2.toNat, .int .u8 b3.toNat, .int .u8 b4.toNat, .int .u8 b5.toNat, .int .u8 b6.toNat, .int .u8 b7.toNat] _ HR2.out Tryz.underlying91 rfl size46 ?_)
      rw [HW0.out, HW1.out]
      refine HMask.out.mono ?_
      rintro e w2 ⟨rfl, hb2⟩
      obtain ⟨hp2, hx2, hk2, hB2⟩ := FIN.out w2 hb2
      have HWB := Lib.hid (fwriteByteO_any 96 B b (Lib.byteCells out) [_] (M : Int) w2 pkT hp2.1 (by rw [Lib.byteCells_length]; omega) hB2)
      have HWS2 := Lib.hid hp2.2
      have HX2 := Lib.hid hx2
      have HK2 := Lib.hid hk2
      clear hp2 hx2 hk2 hb2
      go_wp2_with fail
      refine HWB.out.mono ?_
      rintro e w3 ⟨rfl, hbf, hk3, hot⟩
      have HBF := Lib.hid hbf
      have HX3 := Lib.hid (hot _ _ _ _ (by omega) pkT0 HX2.out)
      have HK3 := Lib.hid (HK2.out.trans hk3)
      have HWS3 := Lib.hid (HWS2.out.keeps hk3)
      have hB3 := Nat.le_trans hB2 hk3.size
      clear hbf hk3 hot
      go_wp2_with (refine wpList_load_wd rfl 91 (.tmp 3) rfl w.heap.size rfl 91 l _ HX3.out Tryz.underlying91 rfl (by rw [HL8.out]; exact size46) ?_)
      have hU0 : Lib.byteCells out ++ [Value.int .u8 (M : Int)] = Lib.byteCells (out ++ [UInt8.ofNat M] ++ nzL (l.take 0)) := by
        have : (UInt8.ofNat M).toNat = M := by rw [UInt8.toNat_ofNat']; omega
        simp [Lib.byteCells, nzL]; omega
      rw [hU0] at HBF
      clear hU0
      go_loopw [35] (fun i wr => ∃ j : Nat, j ≤ 8 ∧ i = .int .i64 j ∧ Hid (BF 96 B b (Lib.byteCells (out ++ [UInt8.ofNat M] ++ nzL (l.take j))) [.slice (some ⟨g, o + 8, none⟩) r.length (cap - 1)] wr) ∧ Hid (Keeps B b w3 wr)) (fun i _ => 8 - (intOf i).toNat)
      case atStart => exact ⟨0, by omega, rfl, HBF, Keeps.refl _ _ _⟩
      case round =>
        obtain ⟨j, hj, rfl, HB, HKR⟩ := hrel
        have hB4 := Nat.le_trans hB3 HKR.out.size
        by_cases hj1 : j < 8
        · have hjl : j < l.length := by rw [HL8.out]; exact hj1
          have hnz := nz_take l j hjl
          have hgd : l[j]?.getD 0 = l[j] := by rw [List.getElem?_eq_getElem hjl]; rfl
          obtain ⟨c, hc⟩ : ∃ c, l[j] = c := ⟨_, rfl⟩
          rw [hc] at hnz hgd
          have hidx := index_wd l j c HL8.out hj1 hgd
          have HNZ := Lib.hid hnz
          have hnl : (nzL (l.take j)).length ≤ 8 := Nat.le_trans (List.length_filter_le _ _) (by rw [List.length_take]; omega)
          clear hnz hgd hc hjl
          by_cases hz : c = 0
          · have hz1 : ((c.toNat : Int) == 0) = true := by rw [hz]; rfl
            have hz2 : ((c.toNat : Int) != 0) = false := by rw [hz]; rfl
            have HE : Hid (nzL (l.take (j + 1)) = nzL (l.take j)) := Lib.hid (by rw [HNZ.out, if_pos hz, List.append_nil])
            clear hz
            go_wp2
            go_roundw
            case rel => exact ⟨j + 1, by omega, by go_num, by rw [HE.out]; exact HB, HKR⟩
            case measure => simp [intOf]; omega
          · have hz1 : ((c.toNat : Int) == 0) = false := by
              rw [beq_eq_false_iff_ne]; intro h; exact hz (UInt8.toNat_inj.1 (show c.toNat = 0 by omega))
            have hz2 : ((c.toNat : Int) != 0) = true := by simp [bne, hz1]
            have HE : Hid (nzL (l.take (j + 1)) = nzL (l.take j) ++ [c]) := Lib.hid (by rw [HNZ.out, if_neg hz])
            have HWB2 := Lib.hid (fwriteByte_any 96 B b _ [_] (c.toNat : Int) wr pkT HB.out (by rw [Lib.byteCells_length, List.length_append, List.length_append, List.length_singleton]; omega) hB4)
            have hcat : ∀ x : List UInt8, Lib.byteCells x ++ [Value.int .u8 (c.toNat : Int)] = Lib.byteCells (x ++ [c]) := fun x => by simp [Lib.byteCells]
            have HCat := Lib.hid hcat
            clear hz hcat
            go_wp2_with fail
            refine HWB2.out.mono ?_
            rintro e w5 ⟨rfl, hb5, hk5⟩
            rw [HCat.out] at hb5
            have HB5 := Lib.hid hb5
            have HK5 := Lib.hid (HKR.out.trans hk5)
            clear hb5 hk5
            go_wp2
            go_roundw
            case rel => exact ⟨j + 1, by omega, by go_num, by rw [HE.out, ← List.append_assoc]; exact HB5, HK5⟩
            case measure => simp [intOf]; omega
        · obtain rfl : j = 8 := by omega
          have hb8 := HB.out
          rw [show l.take 8 = l from List.take_of_length_le (by rw [HL8.out]; exact Nat.le_refl _)] at hb8
          have HFin : Hid (∀ s x, (s = pTag b ∧ x = packW r ∧ 2 * r.length + 1 ≤ 2 * r.length + 2) ∨ (s = pNou b ∧ x = nouL r ∧ True) ∨ (s = pPla b ∧ x = plaL r ∧ True) → out ++ [UInt8.ofNat M] ++ nzL l ++ x = R → PNext R B b k w (.returned s) wr) := Lib.hid (fun s x hs hx => by
            have hps : PS B b (out ++ [UInt8.ofNat M] ++ nzL l) (.slice (some ⟨g, o + 8, none⟩) r.length (cap - 1)) r wr := ⟨hb8, HWS3.out.keeps HKR.out⟩
            rcases hs with ⟨rfl, rfl, _⟩ | ⟨rfl, rfl, _⟩ | ⟨rfl, rfl, _⟩
            · exact ⟨_, 2 * r.length + 2, by rw [List.length_cons] at hk; omega, rfl, ⟨_, _, _, hps, by omega, .inl ⟨rfl, hx, by omega⟩⟩, HK3.out.trans HKR.out⟩
            · exact ⟨_, 2 * r.length + 2, by rw [List.length_cons] at hk; omega, rfl, ⟨_, _, _, hps, by omega, .inr (.inl ⟨rfl, hx, by omega⟩)⟩, HK3.out.trans HKR.out⟩
            · exact ⟨_, 2 * r.length + 2, by rw [List.length_cons] at hk; omega, rfl, ⟨_, _, _, hps, by omega, .inr (.inr (.inl ⟨rfl, hx, by omega⟩))⟩, HK3.out.trans HKR.out⟩)
          have hpk := HRR.out
          rw [packW] at hpk
          clear hb8
          cases hzz : zerL l
          · rw [hzz, if_neg (by simp)] at hpk
            have hM0 : M ≠ 0 := fun h => by
              have := (maskN_zero l).1 (by rw [HM.out]; exact h)
              rw [hzz] at this; cases this
            have hm0 : ((M : Int) == 0) = false := beq_eq_false_iff_ne.2 (by omega)
            cases hff : fullL l
            · rw [hff, if_neg (by simp), HM.out] at hpk
              have hM1 : M ≠ 255 := fun h => by
                have := (mask8_full HL8.out).1 (by rw [HM.out]; exact h)
                rw [hff] at this; cases this
              have hm1 : ((M : Int) == 255) = false := beq_eq_false_iff_ne.2 (by omega)
              have HX := Lib.hid (HFin.out (pTag b) (packW r) (.inl ⟨rfl, rfl, by omega⟩) (by rw [← hpk]; simp))
              unfold pTag at HX
              clear hpk hzz hff hM0 hM1
              go_wp2
              go_ret
              exact HX.out
            · rw [hff, if_pos rfl] at hpk
              have hM1 : M = 255 := by rw [← HM.out]; exact (mask8_full HL8.out).2 hff
              have hm1 : ((M : Int) == 255) = true := by rw [hM1]; rfl
              have HX := Lib.hid (HFin.out (pPla b) (plaL r) (.inr (.inr ⟨rfl, rfl, trivial⟩)) (by rw [← hpk, nz_full hff, hM1, plaL]; simp))
              unfold pPla at HX
              clear hpk hzz hff hM0 hM1
              go_wp2
              go_ret
              exact HX.out
          · rw [hzz, if_pos rfl] at hpk
            have hM0 : M = 0 := by rw [← HM.out]; exact (maskN_zero l).2 hzz
            have hm0 : ((M : Int) == 0) = true := by rw [hM0]; rfl
            have hnz0 : nzL l = [] := by
              rw [nzL, List.filter_eq_nil_iff]
              intro x hx
              have := List.all_eq_true.1 hzz x hx
              simpa using this
            have HX := Lib.hid (HFin.out (pNou b) (nouL r) (.inr (.inl ⟨rfl, rfl, trivial⟩)) (by rw [← hpk, hnz0, hM0, nouL]; simp))
            unfold pNou at HX
            clear hpk hzz hM0 hnz0
            go_wp2
            go_ret
            exact HX.out
end Go.Proofs.YtbijfkpilncclaaGreat

namespace Go.Proofs.YtbijfkpilncclaaGreat
open Go.RowKit
def US (B b : Nat) (out : List UInt8) (L : ByteArray) (bad : Bool) (w : World) : Prop := BF 77 B b (Lib.byteCells out) [.string L, .bool bad] w
theorem unpT : LiesB 77 2 := ⟨by decide, by kernel_rfl⟩
theorem US.left {B b : Nat} {out : List UInt8} {L : ByteArray} {bad : Bool} {w : World} (h : US B b out L bad w) : w.cell? ⟨b, 2, none⟩ = some (.string L) := by
  have := BF.cell h 0; simpa using this
theorem US.bad {B b : Nat} {out : List UInt8} {L : ByteArray} {bad : Bool} {w : World} (h : US B b out L bad w) : w.cell? ⟨b, 3, none⟩ = some (.bool bad) := by
  have := BF.cell h 1; simpa using this
theorem US.setLeft {B b : Nat} {out : List UInt8} {L : ByteArray} {bad : Bool} {w : World} (h : US B b out L bad w) (L' : ByteArray) : US B b out L' bad (w.setCell ⟨b, 2, none⟩ (.string L')) := by
  have := BF.set unpT.1 h 0 (.string L'); simpa [US] using this
theorem US.setBad {B b : Nat} {out : List UInt8} {L : ByteArray} {bad : Bool} {w : World} (h : US B b out L bad w) (c : Bool) : US B b out L c (w.setCell ⟨b, 3, none⟩ (.bool c)) := by
  have := BF.set unpT.1 h 1 (.bool c); simpa [US] using this
theorem US.below {B b : Nat} {out : List UInt8} {L : ByteArray} {bad : Bool} {w w' : World} (h : US B b out L bad w) (hb : Below w.heap.size w w') : US B b out L bad w' := BF.below h hb
set_option maxHeartbeats 400000 in
theorem ubroken_any (B b : Nat) (out : List UInt8) (L : ByteArray) (bad : Bool) (w : World) (h : US B b out L bad w) :
    Calls Tryz.prog 86 #[.pointer (some ⟨b, 0, none⟩)] w fun e w' => e = .returned .nilFunc ∧ US B b out L true w' ∧ Keeps B b w w' := by
  have h1 := BF.frozen h 3
  have h3 := h.bad
  have H2 := Lib.hid (h.setBad true)
  clear h
  go_enter Tryz.func86, Tryz.ntmps86
  go_wp2
  go_ret
  exact ⟨rfl, H2.out, set_keeps B b w 3 _⟩
set_option maxHeartbeats 400000 in
theorem utake_no (B b : Nat) (out : List UInt8) (L : ByteArray) (bad : Bool) (n : Nat) (w : World) (h : US B b out L bad w) (hn : L.size < n) :
    Calls Tryz.prog 84 #[.pointer (some ⟨b, 0, none⟩), .int .i64 n] w fun e w' => e = .returned (.tuple #[.string ⟨#[]⟩, .bool false]) ∧ w = w' := by
  have h1 := h.left
  have hlt : ((L.size : Nat) : Int) < (n : Int) := by omega
  clear h
  go_enter Tryz.func84, Tryz.ntmps84
  go_wp2
  go_ret2
  exact ⟨rfl, rfl⟩
set_option maxHeartbeats 400000 in
theorem utake_yes (B b : Nat) (out : List UInt8) (L : ByteArray) (bad : Bool) (n : Nat) (w : World) (h : US B b out L bad w) (hn : n ≤ L.size) :
    Calls Tryz.prog 84 #[.pointer (some ⟨b, 0, none⟩), .int .i64 n] w fun e w' => e = .returned (.tuple #[.string (L.extract 0 n), .bool true]) ∧ US B b out (L.extract n L.size) bad w' ∧ Keeps B b w w' := by
  have h1 := h.left
  have h2 := BF.frozen h 2
  have hlt : ¬ ((L.size : Nat) : Int) < (n : Int) := by omega
  have H2 := Lib.hid (h.setLeft (L.extract n L.size))
  clear h
  go_enter Tryz.func84, Tryz.ntmps84
  go_wp2
  go_ret2
  exact ⟨rfl, H2.out, set_keeps B b w 2 _⟩
def uTag (b : Nat) : Value := .func (.func 48) #[.pointer (some ⟨b, 0, none⟩)] #[]
def uNou (b : Nat) : Value := .func (.func 87) #[.pointer (some ⟨b, 0, none⟩)] #[]
def uPla (b : Nat) : Value := .func (.func 88) #[.pointer (some ⟨b, 0, none⟩)] #[]
def uBro (b : Nat) : Value := .func (.func 86) #[.pointer (some ⟨b, 0, none⟩)] #[]
set_option maxHeartbeats 400000 in
theorem uwrite_no (B b : Nat) (out : List UInt8) (L : ByteArray) (bad : Bool) (x : ByteArray) (next : Value) (w : World) (h : US B b out L bad w) (hn : 1600 < out.length + x.size) (hx : x.size ≤ 100000) (ho : out.length ≤ 1600) :
    Calls Tryz.prog 89 #[.pointer (some ⟨b, 0, none⟩), .string x, next] w fun e w' => e = .returned (uBro b) ∧ w = w' := by
  have hl := flen_any 77 B b (Lib.byteCells out) [.string L, .bool bad] w h
  rw [Lib.byteCells_length] at hl
  have HL := Lib.hid hl
  have hlt : (1600 : Int) < ((out.length : Nat) : Int) + ((x.size : Nat) : Int) := by omega
  clear h hl
  go_enter Tryz.func89, Tryz.ntmps89
  go_wp2_with (go_at_call 45; refine HL.out.mono ?_; rintro e w' ⟨rfl, rfl⟩)
  go_ret
  exact ⟨rfl, rfl⟩
set_option maxHeartbeats 400000 in
theorem uwrite_yes (B b : Nat) (out : List UInt8) (L : ByteArray) (bad : Bool) (x : ByteArray) (next : Value) (w : World) (h : US B b out L bad w) (hn : out.length + x.size ≤ 1600) (hBw : B ≤ w.heap.size) :
    Calls Tryz.prog 89 #[.pointer (some ⟨b, 0, none⟩), .string x, next] w fun e w' => e = .returned next ∧ US B b (out ++ x.data.toList) L bad w' ∧ Keeps B b w w' := by
  have hl := flen_any 77 B b (Lib.byteCells out) [.string L, .bool bad] w h
  rw [Lib.byteCells_length] at hl
  have HL := Lib.hid hl
  have hws := fwriteString_any 77 B b (Lib.byteCells out) [.string L, .bool bad] x w unpT h (by rw [Lib.byteCells_length]; omega) (by omega) hBw
  have e : Lib.byteCells out ++ Lib.strCells x = Lib.byteCells (out ++ x.data.toList) := by simp [Lib.strCells, Lib.byteCells]
  rw [e] at hws
  have HW := Lib.hid hws
  have hlt : ¬ (1600 : Int) < ((out.length : Nat) : Int) + ((x.size : Nat) : Int) := by omega
  clear h hl hws e
  go_enter Tryz.func89, Tryz.ntmps89
  go_wp2_with (first | (go_at_call 45; refine HL.out.mono ?_; rintro e w' ⟨rfl, rfl⟩) | (go_at_call 43; refine HW.out.mono ?_; rintro e w1 ⟨rfl, hU, hK⟩))
  go_ret
  exact ⟨rfl, hU, hK⟩
end Go.Proofs.YtbijfkpilncclaaGreat
