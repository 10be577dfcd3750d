/- impl's packer: take, at isFull. -/
import Derived.Test.YtgeldgikjcihgaaPkB
namespace Go.Proofs.Ytgeldgikjcihgaa
open Go.RowKit
set_option maxRecDepth 100000 in
set_option maxHeartbeats 4000000 in
theorem ptakeF_any (B b : Nat) (out : List UInt8) (v : Value) (ws : List (List UInt8)) (w : World) (h : PS B b out v ws w) (hl : ws.length ≤ 200) (ho : out.length ≤ 1000000) (hBw : B ≤ w.heap.size) :
    Calls Try.prog 90 #[.pointer (some ⟨b, 0, none⟩), .func (.func 92) #[] #[]] w fun e w' =>
      ∃ v1 v2, e = .returned v1 ∧ WS B b w' v1 (ws.take (runN fewL ws)) ∧ PS B b (out ++ [UInt8.ofNat (runN fewL ws)]) v2 (ws.drop (runN fewL ws)) w' ∧ Keeps B b w w' := by
  obtain ⟨A, cap, rfl, hcap, hcm, hwds, hrg⟩ := h.2
  have HWds := Lib.hid hwds
  have HRG := Lib.hid hrg
  have H := Lib.hid h
  obtain ⟨P, hP⟩ : ∃ P : Ending → World → Prop, P = (fun e w' => ∃ v1 v2, e = .returned v1 ∧ WS B b w' v1 (ws.take (runN fewL ws)) ∧ PS B b (out ++ [UInt8.ofNat (runN fewL ws)]) v2 (ws.drop (runN fewL ws)) w' ∧ Keeps B b w w') := ⟨_, rfl⟩
  rw [← hP]
  have HP := Lib.hid hP
  clear hP h hwds hrg
  go_enter Try.func90, Try.ntmps90
  go_wp2_with fail
  go_loopw [5] (fun i wr => ∃ k : Nat, k ≤ ws.length ∧ k ≤ 255 ∧ i = .int .i64 k ∧ Hid (∀ j (h : j < ws.length), j < k → fewL ws[j] = true) ∧ Hid (Below w.heap.size w wr)) (fun i _ => ws.length - (intOf i).toNat)
  case atStart => exact ⟨0, by omega, by omega, rfl, fun j hj h => by omega, Below.refl _ _⟩
  case round =>
    obtain ⟨k, hk, hk255, rfl, HZ, HB⟩ := hrel
    have hPS := H.out.below HB.out hBw
    have hcl := hPS.left
    have hPS0 := Lib.hid hPS
    have HBB := Lib.hid (Nat.le_trans hBw HB.out.size)
    by_cases hgo : k < ws.length ∧ k < 255
    · obtain ⟨hk1, hk2⟩ := hgo
      obtain ⟨g, o, rfl, hgB, hgb, hr⟩ := HRG.out.resolve_left (by intro h; rw [h] at hk1; simp at hk1)
      have hr2 : wr.rangeAt g (o + 8 * k) (Lib.byteCells ws[k]) := fun j u hu => (HB.out.cell (p := ⟨g, o + 8 * k + j, none⟩) (show g < w.heap.size by omega)).trans (range_word HWds.out hr k hk1 j u hu)
      have hx8 : (ws[k]).length = 8 := HWds.out _ (List.getElem_mem hk1)
      obtain ⟨x, hx⟩ : ∃ x, ws[k] = x := ⟨_, rfl⟩
      rw [hx] at hr2 hx8
      have HX := Lib.hid hx
      rw [Nat.mul_comm 8 k] at hr2
      have HR2 := Lib.hid hr2
      have HX8 := Lib.hid hx8
      have hd1 : decide ((k : Int) < (ws.length : Int)) = true := by simp; omega
      have hd2 : decide ((k : Int) < 255) = true := by simp; omega
      have hN := Lib.hid (isFull_any x wr hx8)
      clear hx hr2 hPS hx8
      go_wp2_with (refine wpList_load_midG (by rfl) 50 (.tmp 25) rfl g (o + k * 8) rfl (Lib.byteCells x) _ HR2.out Try.underlying50 rfl (by rw [Lib.byteCells_length, HX8.out]; exact size46) ?_)
      refine hN.out.mono ?_
      rintro e w1 ⟨rfl, hb1⟩
      have HB1 := Lib.hid (HB.out.trans (hb1.mono HB.out.size))
      cases hz : fewL x
      · have hrun : runN fewL ws = k := runN_eq hk hk255 HZ.out (.inr (.inr ⟨hk1, by rw [HX.out]; exact hz⟩))
        have HRun := Lib.hid hrun
        have hPS1 := hPS0.out.below hb1 HBB.out
        have hcl1 := hPS1.left
        have hfz1 := BF.frozen hPS1.1 2
        have HPS1 := Lib.hid hPS1
        have hB1 := hb1
        clear hrun hz hb1 hPS1
        have hpc := Lib.hid (pcount_any B b out k cap _ _ ws w1 HPS1.out hk hk255 (HPS1.out.2.dropped hk1) ho (Nat.le_trans HBB.out hB1.size))
        go_wp2_with fail
        refine hpc.out.mono ?_
        rintro e w2 ⟨rfl, hw1, hp1, hkp⟩
        have HW1 := Lib.hid hw1
        have HP1 := Lib.hid hp1
        have HK1 := Lib.hid ((Keeps.of_below (HB1.out.mono hBw)).trans hkp)
        clear hw1 hp1 hkp hB1
        go_wp2
        rw [HP.out, HRun.out]
        exact ⟨_, _, rfl, HW1.out, HP1.out, HK1.out⟩
      · have HZ2 : Hid (∀ j (h : j < ws.length), j < k + 1 → fewL ws[j] = true) := Lib.hid (fun j hj hjk => by
          by_cases hjk2 : j < k
          · exact HZ.out j hj hjk2
          · obtain rfl : j = k := by omega
            rw [HX.out]; exact hz)
        clear hz hb1
        go_wp2
        go_roundw
        case rel => exact ⟨k + 1, by omega, by omega, by go_num, HZ2, HB1⟩
        case measure => simp [intOf]; omega
    · obtain rfl : k = ws.length := by omega
      have hrun : runN fewL ws = ws.length := runN_eq (Nat.le_refl _) hk255 HZ.out (.inr (.inl rfl))
      have HRun := Lib.hid hrun
      have hfz1 := BF.frozen hPS.1 2
      have hdrop : ws.drop ws.length = [] := List.drop_length
      have HDrop := Lib.hid hdrop
      clear hrun hPS hdrop
      by_cases hcc : cap = ws.length
      · subst hcc
        have hpc := Lib.hid (pcount_any B b out ws.length ws.length A (.slice A 0 0) ws wr hPS0.out (Nat.le_refl _) hk255 (by rw [HDrop.out]; exact WS.empty B b wr _ _ (by omega)) ho HBB.out)
        go_wp2_with fail
        refine hpc.out.mono ?_
        rintro e w2 ⟨rfl, hw1, hp1, hkp⟩
        have HW1 := Lib.hid hw1
        have HP1 := Lib.hid hp1
        have HK1 := Lib.hid ((Keeps.of_below (HB.out.mono hBw)).trans hkp)
        clear hw1 hp1 hkp
        go_wp2
        rw [HP.out, HRun.out]
        exact ⟨_, _, rfl, HW1.out, HP1.out, HK1.out⟩
      · have hcc2 : ws.length < cap := by omega
        have hpc := Lib.hid (pcount_any B b out ws.length cap A (.slice (Option.map (fun x => x.add (ws.length * 8)) A) 0 (cap - ws.length)) ws wr hPS0.out (Nat.le_refl _) hk255 (by rw [HDrop.out]; exact WS.empty B b wr _ _ (by omega)) ho HBB.out)
        go_wp2_with fail
        refine hpc.out.mono ?_
        rintro e w2 ⟨rfl, hw1, hp1, hkp⟩
        have HW1 := Lib.hid hw1
        have HP1 := Lib.hid hp1
        have HK1 := Lib.hid ((Keeps.of_below (HB.out.mono hBw)).trans hkp)
        clear hw1 hp1 hkp
        go_wp2
        rw [HP.out, HRun.out]
        exact ⟨_, _, rfl, HW1.out, HP1.out, HK1.out⟩
end Go.Proofs.Ytgeldgikjcihgaa
