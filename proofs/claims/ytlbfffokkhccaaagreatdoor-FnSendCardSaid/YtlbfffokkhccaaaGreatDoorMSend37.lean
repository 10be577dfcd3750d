/- Texts of the proof of the law FnSend, side by side: part 37. -/
import Derived.Test.YtlbfffokkhccaaaGreatDoorMSend36
set_option maxHeartbeats 8000000
set_option maxRecDepth 100000
namespace Go.Proofs.YtlbfffokkhccaaaGreatDoor
open Go.RowKit
theorem wpList_load_midG {P : Program} {ops : Array Oper} {rest : List Oper} {op : Oper} {a : Act} {w : World} {Q : Exit → Act → World → Prop} (hgd : Region.wanted op (yielded ops a.tmps) = true) (ty : TypeId) (x : Operand) (ho : op.op = .load ty x)
 (b o : Nat) (hx : a.eval x = .pointer (some ⟨b, o, none⟩)) (cs : List Value) (d : TypeDesc) (hc : w.rangeAt b o cs)
 (hu : P.underlying ty = some d) (hd : d.isRow = true) (hi : (P.info? ty).map (·.size) = some cs.length)
 (h : wpList P ops Q rest (a.put op.dst (.agg cs.toArray)) w) : wpList P ops Q (op :: rest) a w := by
 show if _ then _ ∨ _ else _
 rw [if_pos hgd]
 exact .inl (wp_load_mid ty x ho b o hx cs d hc hu hd hi h)
def WS (B b : Nat) (w : World) (v : Value) (ws : List (List UInt8)) : Prop :=
 ∃ A cap, v = .slice A ws.length cap ∧ ws.length ≤ cap ∧ cap ≤ 9223372036854775807 ∧ Wds ws ∧ (ws = [] ∨ ∃ g o, A = some ⟨g, o, none⟩ ∧ g < B ∧ g ≠ b ∧ w.rangeAt g o (Lib.byteCells ws.flatten))
theorem WS.keeps {B b : Nat} {w w' : World} {v : Value} {ws : List (List UInt8)} (h : WS B b w v ws) (hk : Keeps B b w w') : WS B b w' v ws := by
 obtain ⟨A, cap, hv, h1, h2, h3, h4⟩ := h
 refine ⟨A, cap, hv, h1, h2, h3, h4.imp id ?_⟩
 rintro ⟨g, o, ha, hg, hne, hr⟩
 exact ⟨g, o, ha, hg, hne, fun j u hu => (keeps_cell hk ⟨g, o + j, none⟩ hg hne).trans (hr j u hu)⟩
theorem flat_at : ∀ (ws : List (List UInt8)) (k j : Nat) (_ : Wds ws) (h : k < ws.length), j < 8 → ws.flatten[8 * k + j]? = (ws[k])[j]?
 | w :: r, 0, j, hw, _, hj => by
   have h8 := hw w (by simp)
   rw [List.flatten_cons, List.getElem?_append_left (by omega)]
   simp
 | w :: r, k + 1, j, hw, h, hj => by
   have h8 := hw w (by simp)
   have ih := flat_at r k j (fun x hx => hw x (by simp [hx])) (by simpa using h) hj
   rw [List.flatten_cons, List.getElem?_append_right (by omega), h8, show 8 * (k + 1) + j - 8 = 8 * k + j by omega, ih]
   simp
theorem flat_drop : ∀ (ws : List (List UInt8)) (k : Nat), Wds ws → k ≤ ws.length → ws.flatten.drop (8 * k) = (ws.drop k).flatten
 | ws, 0, _, _ => rfl
 | [], k + 1, _, h => by simp at h
 | w :: r, k + 1, hw, h => by
   have h8 := hw w (by simp)
   rw [List.flatten_cons, List.drop_append, List.drop_of_length_le (by omega), List.nil_append, show 8 * (k + 1) - w.length = 8 * k by omega, List.drop_succ_cons]
   exact flat_drop r k (fun x hx => hw x (by simp [hx])) (by simpa using h)
theorem range_word {w : World} {g o : Nat} {ws : List (List UInt8)} (hw : Wds ws) (h : w.rangeAt g o (Lib.byteCells ws.flatten)) (k : Nat) (hk : k < ws.length) : w.rangeAt g (o + 8 * k) (Lib.byteCells ws[k]) := fun j u hu => by
 have h8 : (ws[k]).length = 8 := hw _ (List.getElem_mem hk)
 have hj : j < 8 := by have := (List.getElem?_eq_some_iff.1 hu).1; rw [Lib.byteCells_length] at this; omega
 have := h (8 * k + j) u (by rw [Lib.byteCells, List.getElem?_map, flat_at ws k j hw hk hj, ← List.getElem?_map]; exact hu)
 rw [← Nat.add_assoc] at this
 exact this
theorem range_drop {w : World} {g o : Nat} {ws : List (List UInt8)} (hw : Wds ws) (h : w.rangeAt g o (Lib.byteCells ws.flatten)) (k : Nat) (hk : k ≤ ws.length) : w.rangeAt g (o + 8 * k) (Lib.byteCells (ws.drop k).flatten) := fun j u hu => by
 rw [← flat_drop ws k hw hk] at hu
 have := h (8 * k + j) u (by rw [Lib.byteCells, List.getElem?_map] at hu ⊢; rwa [List.getElem?_drop] at hu)
 rw [← Nat.add_assoc] at this
 exact this
theorem range_take {w : World} {g o : Nat} {ws : List (List UInt8)} (h : w.rangeAt g o (Lib.byteCells ws.flatten)) (k : Nat) : w.rangeAt g o (Lib.byteCells (ws.take k).flatten) := fun j u hu => by
 refine h j u ?_
 have e : ws.flatten = (ws.take k).flatten ++ (ws.drop k).flatten := by rw [← List.flatten_append, List.take_append_drop]
 rw [e, Lib.byteCells, List.map_append, List.getElem?_append_left (by have := (List.getElem?_eq_some_iff.1 hu).1; simpa [Lib.byteCells] using this)]
 exact hu
def PS (B b : Nat) (out : List UInt8) (v : Value) (ws : List (List UInt8)) (w : World) : Prop := BF 154 B b (Lib.byteCells out) [v] w ∧ WS B b w v ws
theorem pkT : LiesB 154 1 := ⟨by decide, by kernel_rfl⟩
theorem PS.left {B b : Nat} {out : List UInt8} {v : Value} {ws : List (List UInt8)} {w : World} (h : PS B b out v ws w) : w.cell? ⟨b, 2, none⟩ = some v := by
 have := BF.cell h.1 0; simpa using this
theorem PS.below {B b : Nat} {out : List UInt8} {v : Value} {ws : List (List UInt8)} {w w' : World} (h : PS B b out v ws w) (hb : Below w.heap.size w w') (hB : B ≤ w.heap.size) : PS B b out v ws w' :=
 ⟨h.1.below hb, h.2.keeps (Keeps.of_below (hb.mono hB))⟩
theorem PS.setLeft {B b : Nat} {out : List UInt8} {v : Value} {ws : List (List UInt8)} {w : World} (h : PS B b out v ws w) (v' : Value) : BF 154 B b (Lib.byteCells out) [v'] (w.setCell ⟨b, 2, none⟩ v') := by
 have := BF.set pkT.1 h.1 0 v'; simpa using this
theorem WS.taken {B b k cap : Nat} {w : World} {A : Option Addr} {ws : List (List UInt8)} (h : WS B b w (.slice A ws.length cap) ws) (hk : k ≤ ws.length) : WS B b w (.slice A k cap) (ws.take k) := by
 obtain ⟨A', cap', hv, h1, h2, h3, h4⟩ := h
 cases hv
 have hl : (ws.take k).length = k := by rw [List.length_take]; omega
 refine ⟨A, cap, by rw [hl], by omega, h2, h3.take k, ?_⟩
 rcases h4 with rfl | ⟨g, o, ha, hg, hne, hr⟩
 · left; simp
 · exact .inr ⟨g, o, ha, hg, hne, range_take hr k⟩
theorem WS.dropped {B b k cap g o : Nat} {w : World} {ws : List (List UInt8)} (h : WS B b w (.slice (some ⟨g, o, none⟩) ws.length cap) ws) (hk : k < ws.length) : WS B b w (.slice (some ⟨g, o + k * 8, none⟩) (ws.length - k) (cap - k)) (ws.drop k) := by
 obtain ⟨A', cap', hv, h1, h2, h3, h4⟩ := h
 cases hv
 refine ⟨some ⟨g, o + k * 8, none⟩, cap - k, by rw [List.length_drop], by rw [List.length_drop]; omega, by omega, h3.drop k, ?_⟩
 rcases h4 with rfl | ⟨g', o', ha, hg, hne, hr⟩
 · simp at hk
 · cases ha
   exact .inr ⟨g, o + k * 8, rfl, hg, hne, by rw [Nat.mul_comm k 8]; exact range_drop h3 hr k (by omega)⟩
theorem WS.empty (B b : Nat) (w : World) (A : Option Addr) (cap : Nat) (h : cap ≤ 9223372036854775807) : WS B b w (.slice A 0 cap) [] := ⟨A, cap, rfl, Nat.zero_le _, h, (fun w hw => by cases hw), .inl rfl⟩
theorem pcount_any (B b : Nat) (out : List UInt8) (k cap : Nat) (A : Option Addr) (v2 : Value) (ws : List (List UInt8)) (w : World) (h : PS B b out (.slice A ws.length cap) ws w) (hk : k ≤ ws.length) (hk2 : k ≤ 255) (h2 : WS B b w v2 (ws.drop k)) (ho : out.length ≤ 1000000) (hBw : B ≤ w.heap.size) :
 Calls Tryz.prog 140 #[.pointer (some ⟨b, 0, none⟩), .int .u8 (k : Int)] (w.setCell ⟨b, 2, none⟩ v2) fun e w' => e = .returned .nilIface ∧ WS B b w' (.slice A k cap) (ws.take k) ∧ PS B b (out ++ [UInt8.ofNat k]) v2 (ws.drop k) w' ∧ Keeps B b w w' := by
 have hs := h.setLeft v2
 have hK := set_keeps B b w 2 v2
 refine (fwriteByte_any 154 B b (Lib.byteCells out) [v2] (k : Int) _ pkT hs (by rw [Lib.byteCells_length]; omega) (Nat.le_trans hBw hK.size)).mono ?_
 rintro e w' ⟨he, hb, hk'⟩
 have hKK := hK.trans hk'
 have e : Lib.byteCells out ++ [Value.int .u8 (k : Int)] = Lib.byteCells (out ++ [UInt8.ofNat k]) := by
  have : (UInt8.ofNat k).toNat = k := by rw [UInt8.toNat_ofNat']; omega
  simp [Lib.byteCells]; omega
 rw [e] at hb
 exact ⟨he, (h.2.taken hk).keeps hKK, ⟨hb, h2.keeps hKK⟩, hKK⟩
theorem ptakeZ_any (B b : Nat) (out : List UInt8) (v : Value) (ws : List (List UInt8)) (w : World) (h : PS B b out v ws w) (hl : ws.length ≤ 200) (ho : out.length ≤ 1000000) (hBw : B ≤ w.heap.size) :
 Calls Tryz.prog 173 #[.pointer (some ⟨b, 0, none⟩), .func (.func 174) #[] #[]] w fun e w' =>
  ∃ v1 v2, e = .returned v1 ∧ WS B b w' v1 (ws.take (runN zerL ws)) ∧ PS B b (out ++ [UInt8.ofNat (runN zerL ws)]) v2 (ws.drop (runN zerL ws)) w' ∧ Keeps B b w w' := by
 obtain ⟨A, cap, rfl, hcap, hcm, hwds, hrg⟩ := h.2
 have HWds := Lib.hid hwds
 have HRG := Lib.hid hrg
 have H := Lib.hid h
 obtain ⟨P, hP⟩ : ∃ P : Ending → World → Prop, P = (fun e w' => ∃ v1 v2, e = .returned v1 ∧ WS B b w' v1 (ws.take (runN zerL ws)) ∧ PS B b (out ++ [UInt8.ofNat (runN zerL ws)]) v2 (ws.drop (runN zerL ws)) w' ∧ Keeps B b w w') := ⟨_, rfl⟩
 rw [← hP]
 have HP := Lib.hid hP
 clear hP h hwds hrg
 go_enter Tryz.func173, Tryz.ntmps173
 go_wp2_with fail
 go_loopw [5] (fun i wr => ∃ k : Nat, k ≤ ws.length ∧ k ≤ 255 ∧ i = .int .i64 k ∧ Hid (∀ j (h : j < ws.length), j < k → zerL ws[j] = true) ∧ Hid (Below w.heap.size w wr)) (fun i _ => ws.length - (intOf i).toNat)
 case atStart => exact ⟨0, by omega, by omega, rfl, fun j hj h => by omega, Below.refl _ _⟩
 case round =>
  obtain ⟨k, hk, hk255, rfl, HZ, HB⟩ := hrel
  have hPS := H.out.below HB.out hBw
  have hcl := hPS.left
  have hPS0 := Lib.hid hPS
  have HBB := Lib.hid (Nat.le_trans hBw HB.out.size)
  by_cases hgo : k < ws.length ∧ k < 255
  · obtain ⟨hk1, hk2⟩ := hgo
    obtain ⟨g, o, rfl, hgB, hgb, hr⟩ := HRG.out.resolve_left (by intro h; rw [h] at hk1; simp at hk1)
    have hr2 : wr.rangeAt g (o + 8 * k) (Lib.byteCells ws[k]) := fun j u hu => (HB.out.cell (p := ⟨g, o + 8 * k + j, none⟩) (show g < w.heap.size by omega)).trans (range_word HWds.out hr k hk1 j u hu)
    have hx8 : (ws[k]).length = 8 := HWds.out _ (List.getElem_mem hk1)
    obtain ⟨x, hx⟩ : ∃ x, ws[k] = x := ⟨_, rfl⟩
    rw [hx] at hr2 hx8
    have HX := Lib.hid hx
    rw [Nat.mul_comm 8 k] at hr2
    have HR2 := Lib.hid hr2
    have HX8 := Lib.hid hx8
    have hd1 : decide ((k : Int) < (ws.length : Int)) = true := by simp; omega
    have hd2 : decide ((k : Int) < 255) = true := by simp; omega
    have hN := Lib.hid (noughts1_any x wr hx8)
    clear hx hr2 hPS hx8
    go_wp2_with (refine wpList_load_midG (by rfl) 87 (.tmp 25) rfl g (o + k * 8) rfl (Lib.byteCells x) _ HR2.out Tryz.underlying87 rfl (by rw [Lib.byteCells_length, HX8.out]; exact size46) ?_)
    refine hN.out.mono ?_
    rintro e w1 ⟨rfl, hb1⟩
    have HB1 := Lib.hid (HB.out.trans (hb1.mono HB.out.size))
    cases hz : zerL x
    · have hrun : runN zerL ws = k := runN_eq hk hk255 HZ.out (.inr (.inr ⟨hk1, by rw [HX.out]; exact hz⟩))
      have HRun := Lib.hid hrun
      have hPS1 := hPS0.out.below hb1 HBB.out
      have hcl1 := hPS1.left
      have hfz1 := BF.frozen hPS1.1 2
      have HPS1 := Lib.hid hPS1
      have hB1 := hb1
      clear hrun hz hb1 hPS1
      have hpc := Lib.hid (pcount_any B b out k cap _ _ ws w1 HPS1.out hk hk255 (HPS1.out.2.dropped hk1) ho (Nat.le_trans HBB.out hB1.size))
      go_wp2_with fail
      refine hpc.out.mono ?_
      rintro e w2 ⟨rfl, hw1, hp1, hkp⟩
      have HW1 := Lib.hid hw1
      have HP1 := Lib.hid hp1
      have HK1 := Lib.hid ((Keeps.of_below (HB1.out.mono hBw)).trans hkp)
      clear hw1 hp1 hkp hB1
      go_wp2
      rw [HP.out, HRun.out]
      exact ⟨_, _, rfl, HW1.out, HP1.out, HK1.out⟩
    · have HZ2 : Hid (∀ j (h : j < ws.length), j < k + 1 → zerL ws[j] = true) := Lib.hid (fun j hj hjk => by
       by_cases hjk2 : j < k
       · exact HZ.out j hj hjk2
       · obtain rfl : j = k := by omega
         rw [HX.out]; exact hz)
      clear hz hb1
      go_wp2
      go_roundw
      case rel => exact ⟨k + 1, by omega, by omega, by go_num, HZ2, HB1⟩
      case measure => simp [intOf]; omega
  · obtain rfl : k = ws.length := by omega
    have hrun : runN zerL ws = ws.length := runN_eq (Nat.le_refl _) hk255 HZ.out (.inr (.inl rfl))
    have HRun := Lib.hid hrun
    have hfz1 := BF.frozen hPS.1 2
    have hdrop : ws.drop ws.length = [] := List.drop_length
    have HDrop := Lib.hid hdrop
    clear hrun hPS hdrop
    by_cases hcc : cap = ws.length
    · subst hcc
      have hpc := Lib.hid (pcount_any B b out ws.length ws.length A (.slice A 0 0) ws wr hPS0.out (Nat.le_refl _) hk255 (by rw [HDrop.out]; exact WS.empty B b wr _ _ (by omega)) ho HBB.out)
      go_wp2_with fail
      refine hpc.out.mono ?_
      rintro e w2 ⟨rfl, hw1, hp1, hkp⟩
      have HW1 := Lib.hid hw1
      have HP1 := Lib.hid hp1
      have HK1 := Lib.hid ((Keeps.of_below (HB.out.mono hBw)).trans hkp)
      clear hw1 hp1 hkp
      go_wp2
      rw [HP.out, HRun.out]
      exact ⟨_, _, rfl, HW1.out, HP1.out, HK1.out⟩
    · have hcc2 : ws.length < cap := by omega
      have hpc := Lib.hid (pcount_any B b out ws.length cap A (.slice (Option.map (fun x => x.add (ws.length * 8)) A) 0 (cap - ws.length)) ws wr hPS0.out (Nat.le_refl _) hk255 (by rw [HDrop.out]; exact WS.empty B b wr _ _ (by omega)) ho HBB.out)
      go_wp2_with fail
      refine hpc.out.mono ?_
      rintro e w2 ⟨rfl, hw1, hp1, hkp⟩
      have HW1 := Lib.hid hw1
      have HP1 := Lib.hid hp1
      have HK1 := Lib.hid ((Keeps.of_below (HB.out.mono hBw)).trans hkp)
      clear hw1 hp1 hkp
      go_wp2
      rw [HP.out, HRun.out]
      exact ⟨_, _, rfl, HW1.out, HP1.out, HK1.out⟩
theorem ptakeF_any (B b : Nat) (out : List UInt8) (v : Value) (ws : List (List UInt8)) (w : World) (h : PS B b out v ws w) (hl : ws.length ≤ 200) (ho : out.length ≤ 1000000) (hBw : B ≤ w.heap.size) :
 Calls Tryz.prog 173 #[.pointer (some ⟨b, 0, none⟩), .func (.func 175) #[] #[]] w fun e w' =>
  ∃ v1 v2, e = .returned v1 ∧ WS B b w' v1 (ws.take (runN fewL ws)) ∧ PS B b (out ++ [UInt8.ofNat (runN fewL ws)]) v2 (ws.drop (runN fewL ws)) w' ∧ Keeps B b w w' := by
 obtain ⟨A, cap, rfl, hcap, hcm, hwds, hrg⟩ := h.2
 have HWds := Lib.hid hwds
 have HRG := Lib.hid hrg
 have H := Lib.hid h
 obtain ⟨P, hP⟩ : ∃ P : Ending → World → Prop, P = (fun e w' => ∃ v1 v2, e = .returned v1 ∧ WS B b w' v1 (ws.take (runN fewL ws)) ∧ PS B b (out ++ [UInt8.ofNat (runN fewL ws)]) v2 (ws.drop (runN fewL ws)) w' ∧ Keeps B b w w') := ⟨_, rfl⟩
 rw [← hP]
 have HP := Lib.hid hP
 clear hP h hwds hrg
 go_enter Tryz.func173, Tryz.ntmps173
 go_wp2_with fail
 go_loopw [5] (fun i wr => ∃ k : Nat, k ≤ ws.length ∧ k ≤ 255 ∧ i = .int .i64 k ∧ Hid (∀ j (h : j < ws.length), j < k → fewL ws[j] = true) ∧ Hid (Below w.heap.size w wr)) (fun i _ => ws.length - (intOf i).toNat)
 case atStart => exact ⟨0, by omega, by omega, rfl, fun j hj h => by omega, Below.refl _ _⟩
 case round =>
  obtain ⟨k, hk, hk255, rfl, HZ, HB⟩ := hrel
  have hPS := H.out.below HB.out hBw
  have hcl := hPS.left
  have hPS0 := Lib.hid hPS
  have HBB := Lib.hid (Nat.le_trans hBw HB.out.size)
  by_cases hgo : k < ws.length ∧ k < 255
  · obtain ⟨hk1, hk2⟩ := hgo
    obtain ⟨g, o, rfl, hgB, hgb, hr⟩ := HRG.out.resolve_left (by intro h; rw [h] at hk1; simp at hk1)
    have hr2 : wr.rangeAt g (o + 8 * k) (Lib.byteCells ws[k]) := fun j u hu => (HB.out.cell (p := ⟨g, o + 8 * k + j, none⟩) (show g < w.heap.size by omega)).trans (range_word HWds.out hr k hk1 j u hu)
    have hx8 : (ws[k]).length = 8 := HWds.out _ (List.getElem_mem hk1)
    obtain ⟨x, hx⟩ : ∃ x, ws[k] = x := ⟨_, rfl⟩
    rw [hx] at hr2 hx8
    have HX := Lib.hid hx
    rw [Nat.mul_comm 8 k] at hr2
    have HR2 := Lib.hid hr2
    have HX8 := Lib.hid hx8
    have hd1 : decide ((k : Int) < (ws.length : Int)) = true := by simp; omega
    have hd2 : decide ((k : Int) < 255) = true := by simp; omega
    have hN := Lib.hid (isFull_any x wr hx8)
    clear hx hr2 hPS hx8
    go_wp2_with (refine wpList_load_midG (by rfl) 87 (.tmp 25) rfl g (o + k * 8) rfl (Lib.byteCells x) _ HR2.out Tryz.underlying87 rfl (by rw [Lib.byteCells_length, HX8.out]; exact size46) ?_)
    refine hN.out.mono ?_
    rintro e w1 ⟨rfl, hb1⟩
    have HB1 := Lib.hid (HB.out.trans (hb1.mono HB.out.size))
    cases hz : fewL x
    · have hrun : runN fewL ws = k := runN_eq hk hk255 HZ.out (.inr (.inr ⟨hk1, by rw [HX.out]; exact hz⟩))
      have HRun := Lib.hid hrun
      have hPS1 := hPS0.out.below hb1 HBB.out
      have hcl1 := hPS1.left
      have hfz1 := BF.frozen hPS1.1 2
      have HPS1 := Lib.hid hPS1
      have hB1 := hb1
      clear hrun hz hb1 hPS1
      have hpc := Lib.hid (pcount_any B b out k cap _ _ ws w1 HPS1.out hk hk255 (HPS1.out.2.dropped hk1) ho (Nat.le_trans HBB.out hB1.size))
      go_wp2_with fail
      refine hpc.out.mono ?_
      rintro e w2 ⟨rfl, hw1, hp1, hkp⟩
      have HW1 := Lib.hid hw1
      have HP1 := Lib.hid hp1
      have HK1 := Lib.hid ((Keeps.of_below (HB1.out.mono hBw)).trans hkp)
      clear hw1 hp1 hkp hB1
      go_wp2
      rw [HP.out, HRun.out]
      exact ⟨_, _, rfl, HW1.out, HP1.out, HK1.out⟩
    · have HZ2 : Hid (∀ j (h : j < ws.length), j < k + 1 → fewL ws[j] = true) := Lib.hid (fun j hj hjk => by
       by_cases hjk2 : j < k
       · exact HZ.out j hj hjk2
       · obtain rfl : j = k := by omega
         rw [HX.out]; exact hz)
      clear hz hb1
      go_wp2
      go_roundw
      case rel => exact ⟨k + 1, by omega, by omega, by go_num, HZ2, HB1⟩
      case measure => simp [intOf]; omega
  · obtain rfl : k = ws.length := by omega
    have hrun : runN fewL ws = ws.length := runN_eq (Nat.le_refl _) hk255 HZ.out (.inr (.inl rfl))
    have HRun := Lib.hid hrun
    have hfz1 := BF.frozen hPS.1 2
    have hdrop : ws.drop ws.length = [] := List.drop_length
    have HDrop := Lib.hid hdrop
    clear hrun hPS hdrop
    by_cases hcc : cap = ws.length
    · subst hcc
      have hpc := Lib.hid (pcount_any B b out ws.length ws.length A (.slice A 0 0) ws wr hPS0.out (Nat.le_refl _) hk255 (by rw [HDrop.out]; exact WS.empty B b wr _ _ (by omega)) ho HBB.out)
      go_wp2_with fail
      refine hpc.out.mono ?_
      rintro e w2 ⟨rfl, hw1, hp1, hkp⟩
      have HW1 := Lib.hid hw1
      have HP1 := Lib.hid hp1
      have HK1 := Lib.hid ((Keeps.of_below (HB.out.mono hBw)).trans hkp)
      clear hw1 hp1 hkp
      go_wp2
      rw [HP.out, HRun.out]
      exact ⟨_, _, rfl, HW1.out, HP1.out, HK1.out⟩
    · have hcc2 : ws.length < cap := by omega
      have hpc := Lib.hid (pcount_any B b out ws.length cap A (.slice (Option.map (fun x => x.add (ws.length * 8)) A) 0 (cap - ws.length)) ws wr hPS0.out (Nat.le_refl _) hk255 (by rw [HDrop.out]; exact WS.empty B b wr _ _ (by omega)) ho HBB.out)
      go_wp2_with fail
      refine hpc.out.mono ?_
      rintro e w2 ⟨rfl, hw1, hp1, hkp⟩
      have HW1 := Lib.hid hw1
      have HP1 := Lib.hid hp1
      have HK1 := Lib.hid ((Keeps.of_below (HB.out.mono hBw)).trans hkp)
      clear hw1 hp1 hkp
      go_wp2
      rw [HP.out, HRun.out]
      exact ⟨_, _, rfl, HW1.out, HP1.out, HK1.out⟩
def pTag (b : Nat) : Value := .func (.func 97) #[.pointer (some ⟨b, 0, none⟩)] #[]
def pNou (b : Nat) : Value := .func (.func 141) #[.pointer (some ⟨b, 0, none⟩)] #[]
def pPla (b : Nat) : Value := .func (.func 142) #[.pointer (some ⟨b, 0, none⟩)] #[]
def nouL (ws : List (List UInt8)) : List UInt8 := UInt8.ofNat (runN zerL ws) :: packW (ws.drop (runN zerL ws))
def plaL (ws : List (List UInt8)) : List UInt8 := UInt8.ofNat (runN fewL ws) :: ((ws.take (runN fewL ws)).flatten ++ packW (ws.drop (runN fewL ws)))
def PJ (R : List UInt8) (B b k : Nat) (s : Value) (w : World) : Prop := ∃ out v ws, PS B b out v ws w ∧ ws.length ≤ 200 ∧
 ((s = pTag b ∧ out ++ packW ws = R ∧ 2 * ws.length + 1 ≤ k) ∨ (s = pNou b ∧ out ++ nouL ws = R ∧ 2 * ws.length + 2 ≤ k) ∨ (s = pPla b ∧ out ++ plaL ws = R ∧ 2 * ws.length + 2 ≤ k) ∨ (s = .nilFunc ∧ out = R))
def PNext (R : List UInt8) (B b k : Nat) (w : World) (e : Ending) (w' : World) : Prop := ∃ s k', k' < k ∧ e = .returned s ∧ PJ R B b k' s w' ∧ Keeps B b w w'
theorem out_le {out x R : List UInt8} (h : out ++ x = R) (hR : R.length ≤ 100000) : out.length ≤ 100000 := by
 rw [← h, List.length_append] at hR; omega
theorem pnou_next (R : List UInt8) (B b k : Nat) (out : List UInt8) (v : Value) (ws : List (List UInt8)) (w : World) (h : PS B b out v ws w) (hl : ws.length ≤ 200) (hR : out ++ nouL ws = R) (hk : 2 * ws.length + 2 ≤ k) (hRl : R.length ≤ 100000) (hBw : B ≤ w.heap.size) :
 Calls Tryz.prog 141 #[.pointer (some ⟨b, 0, none⟩)] w (PNext R B b k w) := by
 have HT := Lib.hid (ptakeZ_any B b out v ws w h hl (by have := out_le hR hRl; omega) hBw)
 have HR := Lib.hid hR
 clear h hR
 go_enter Tryz.func141, Tryz.ntmps141
 go_wp2_with fail
 refine HT.out.mono ?_
 rintro e w1 ⟨v1, v2, rfl, _, hp, hk1⟩
 have HP := Lib.hid hp
 have HK := Lib.hid hk1
 clear hp hk1
 go_wp2
 go_ret
 refine ⟨pTag b, 2 * (ws.drop (runN zerL ws)).length + 1, by rw [List.length_drop]; omega, rfl, ⟨_, _, _, HP.out, by rw [List.length_drop]; omega, .inl ⟨rfl, ?_, Nat.le_refl _⟩⟩, HK.out⟩
 rw [← HR.out, nouL, List.append_assoc]; rfl
theorem ppla_next (R : List UInt8) (B b k : Nat) (out : List UInt8) (v : Value) (ws : List (List UInt8)) (w : World) (h : PS B b out v ws w) (hl : ws.length ≤ 200) (hR : out ++ plaL ws = R) (hk : 2 * ws.length + 2 ≤ k) (hRl : R.length ≤ 100000) (hBw : B ≤ w.heap.size) :
 Calls Tryz.prog 142 #[.pointer (some ⟨b, 0, none⟩)] w (PNext R B b k w) := by
 have HT := Lib.hid (ptakeF_any B b out v ws w h hl (by have := out_le hR hRl; omega) hBw)
 have HR := Lib.hid hR
 obtain ⟨hn1, hn2⟩ := runN_le fewL ws
 obtain ⟨n, hn⟩ : ∃ n, runN fewL ws = n := ⟨_, rfl⟩
 rw [hn] at HT hn1 hn2
 have hol := out_le hR hRl
 have HN := Lib.hid hn
 clear h hR hn
 go_enter Tryz.func142, Tryz.ntmps142
 go_wp2_with fail
 refine HT.out.mono ?_
 rintro e w1 ⟨v1, v2, rfl, hw1, hp, hk1⟩
 obtain ⟨A, cap, rfl, hc1, hc2, hwd, hrg⟩ := hw1
 have htl : (ws.take n).length = n := by rw [List.length_take]; omega
 rw [htl] at hc1 ⊢
 have HTL := Lib.hid htl
 have HRG := Lib.hid hrg
 have HWD := Lib.hid hwd
 have HP := Lib.hid hp
 have HK := Lib.hid hk1
 have hB1 := Nat.le_trans hBw hk1.size
 clear hp hk1 hrg hwd htl
 go_wp2_with fail
 go_loopw [8] (fun i wr => ∃ j : Nat, j ≤ n ∧ i = .int .i64 j ∧ Hid (BF 154 B b (Lib.byteCells (out ++ [UInt8.ofNat n] ++ ((ws.take n).take j).flatten)) [v2] wr) ∧ Hid (Keeps B b w1 wr)) (fun i _ => n - (intOf i).toNat)
 case atStart => exact ⟨0, by omega, rfl, by simpa [Hid] using HP.out.1, Keeps.refl _ _ _⟩
 case round =>
  obtain ⟨j, hj, rfl, HB, HKR⟩ := hrel
  by_cases hj1 : j < n
  · have hjt : j < (ws.take n).length := by rw [HTL.out]; exact hj1
    obtain ⟨g, o, rfl, hgB, hgb, hr⟩ := HRG.out.resolve_left (by intro h; rw [h] at hjt; simp at hjt)
    have hr1 := range_word HWD.out hr j hjt
    have hr2 : wr.rangeAt g (o + 8 * j) (Lib.byteCells (ws.take n)[j]) := fun i u hu => (keeps_cell HKR.out ⟨g, o + 8 * j + i, none⟩ hgB hgb).trans (hr1 i u hu)
    have hx8 : ((ws.take n)[j]).length = 8 := HWD.out _ (List.getElem_mem hjt)
    have hfl : ((ws.take n).take (j + 1)).flatten = ((ws.take n).take j).flatten ++ (ws.take n)[j] := by
     rw [List.take_succ_eq_append_getElem hjt, List.flatten_append]; simp
    have hflen : ((ws.take n).take j).flatten.length ≤ 2000 := by
     rw [flat_length (HWD.out.take j), List.length_take]; omega
    obtain ⟨x, hx⟩ : ∃ x, (ws.take n)[j] = x := ⟨_, rfl⟩
    rw [hx] at hr2 hx8 hfl
    obtain ⟨b0, b1, b2, b3, b4, b5, b6, b7, rfl⟩ := len8 hx8
    have HFL := Lib.hid hfl
    rw [Nat.mul_comm 8 j] at hr2
    have HR2 := Lib.hid hr2
    have hB2 := Nat.le_trans hB1 HKR.out.size
    clear hx hr hr1 hr2 hx8 hjt hfl
    go_wp2_with (refine wpList_load_mid rfl 87 (.tmp 10) rfl g (o + j * 8) rfl [.int .u8 b0.toNat, .int .u8 b1.toNat, .int .u8 b2.toNat, .int .u8 b3.toNat, .int .u8 b4.toNat, .int .u8 b5.toNat, .int .u8 b6.toNat, .int .u8 b7.toNat] _ HR2.out Tryz.underlying87 rfl size46 ?_)
    have hlen : (Lib.byteCells (out ++ [UInt8.ofNat n] ++ ((ws.take n).take j).flatten)).length ≤ 1099511627776 := by
     rw [Lib.byteCells_length, List.length_append, List.length_append, List.length_singleton]; omega
    have HLen := Lib.hid hlen
    clear hlen hflen
    have hcat : ∀ l : List UInt8, Lib.byteCells l ++ Lib.strCells ⟨#[b0, b1, b2, b3, b4, b5, b6, b7]⟩ = Lib.byteCells (l ++ [b0, b1, b2, b3, b4, b5, b6, b7]) := fun l => by simp [Lib.byteCells, Lib.strCells]
    have HCat := Lib.hid hcat
    clear hcat
    go_region_with (first | (go_at_call 59; refine (text_lit b0 b1 b2 b3 b4 b5 b6 b7 _).mono ?_; rintro e wt ⟨rfl, hbt⟩; have HBT : Hid (Below wr.heap.size wr wt) := Lib.hid ((((Below.refl wr.heap.size wr).alloc (Nat.le_refl _) _).drew).trans (hbt.mono (by simp))); clear hbt) | (go_at_call 75; refine (fwriteString_any 154 B b (Lib.byteCells (out ++ [UInt8.ofNat n] ++ ((ws.take n).take j).flatten)) [v2] ⟨#[b0, b1, b2, b3, b4, b5, b6, b7]⟩ _ pkT (HB.out.below HBT.out) HLen.out (by show 8 ≤ _; decide) (Nat.le_trans hB2 HBT.out.size)).mono ?_; rintro e w5 ⟨rfl, hU, hK5⟩; have HU := Lib.hid hU; have HK5 := Lib.hid hK5; clear hU hK5))
    all_goals
     go_wp2
     go_roundw
     case rel => exact ⟨j + 1, by omega, by go_num, by rw [HFL.out, ← List.append_assoc, ← HCat.out]; exact HU, (HKR.out.trans (Keeps.of_below (HBT.out.mono hB2))).trans HK5.out⟩
     case measure => simp [intOf]; omega
  · obtain rfl : j = n := by omega
    have hU := HB.out
    rw [List.take_of_length_le (by rw [HTL.out]; exact Nat.le_refl _)] at hU
    have HU := Lib.hid hU
    clear hU
    go_wp2
    go_ret
    refine ⟨pTag b, 2 * (ws.drop j).length + 1, by rw [List.length_drop]; omega, rfl, ⟨_, v2, _, ⟨HU.out, HP.out.2.keeps HKR.out⟩, by rw [List.length_drop]; omega, .inl ⟨rfl, ?_, Nat.le_refl _⟩⟩, HK.out.trans HKR.out⟩
    rw [← HR.out, plaL, HN.out, List.append_assoc, List.append_assoc]; rfl
end Go.Proofs.YtlbfffokkhccaaaGreatDoor
