/- impl's packer: its words, and take. -/
import Derived.Test.YtgeldgikjcihgaaPkA
import Derived.Test.YtgeldgikjcihgaaBldF
import Derived.Deep.MidRow
namespace Go.Proofs.Ytgeldgikjcihgaa
open Go.RowKit
/-- a load of a whole struct or array, at an operation whose guard lets it by. -/
theorem wpList_load_midG {P : Program} {ops : Array Oper} {rest : List Oper} {op : Oper} {a : Act} {w : World} {Q : Exit → Act → World → Prop} (hgd : Region.wanted op (yielded ops a.tmps) = true) (ty : TypeId) (x : Operand) (ho : op.op = .load ty x)
    (b o : Nat) (hx : a.eval x = .pointer (some ⟨b, o, none⟩)) (cs : List Value) (d : TypeDesc) (hc : w.rangeAt b o cs)
    (hu : P.underlying ty = some d) (hd : d.isRow = true) (hi : (P.info? ty).map (·.size) = some cs.length)
    (h : wpList P ops Q rest (a.put op.dst (.agg cs.toArray)) w) : wpList P ops Q (op :: rest) a w := by
  show if _ then _ ∨ _ else _
  rw [if_pos hgd]
  exact .inl (wp_load_mid ty x ho b o hx cs d hc hu hd hi h)
/-- a slice of words, which lie below block B and not in block b. -/
def WS (B b : Nat) (w : World) (v : Value) (ws : List (List UInt8)) : Prop :=
  ∃ A cap, v = .slice A ws.length cap ∧ ws.length ≤ cap ∧ cap ≤ 9223372036854775807 ∧ Wds ws ∧ (ws = [] ∨ ∃ g o, A = some ⟨g, o, none⟩ ∧ g < B ∧ g ≠ b ∧ w.rangeAt g o (Lib.byteCells ws.flatten))
theorem WS.keeps {B b : Nat} {w w' : World} {v : Value} {ws : List (List UInt8)} (h : WS B b w v ws) (hk : Keeps B b w w') : WS B b w' v ws := by
  obtain ⟨A, cap, hv, h1, h2, h3, h4⟩ := h
  refine ⟨A, cap, hv, h1, h2, h3, h4.imp id ?_⟩
  rintro ⟨g, o, ha, hg, hne, hr⟩
  exact ⟨g, o, ha, hg, hne, fun j u hu => (keeps_cell hk ⟨g, o + j, none⟩ hg hne).trans (hr j u hu)⟩
theorem flat_at : ∀ (ws : List (List UInt8)) (k j : Nat) (_ : Wds ws) (h : k < ws.length), j < 8 → ws.flatten[8 * k + j]? = (ws[k])[j]?
  | w :: r, 0, j, hw, _, hj => by
    have h8 := hw w (by simp)
    rw [List.flatten_cons, List.getElem?_append_left (by omega)]
    simp
  | w :: r, k + 1, j, hw, h, hj => by
    have h8 := hw w (by simp)
    have ih := flat_at r k j (fun x hx => hw x (by simp [hx])) (by simpa using h) hj
    rw [List.flatten_cons, List.getElem?_append_right (by omega), h8, show 8 * (k + 1) + j - 8 = 8 * k + j by omega, ih]
    simp
theorem flat_drop : ∀ (ws : List (List UInt8)) (k : Nat), Wds ws → k ≤ ws.length → ws.flatten.drop (8 * k) = (ws.drop k).flatten
  | ws, 0, _, _ => rfl
  | [], k + 1, _, h => by simp at h
  | w :: r, k + 1, hw, h => by
    have h8 := hw w (by simp)
    rw [List.flatten_cons, List.drop_append, List.drop_of_length_le (by omega), List.nil_append, show 8 * (k + 1) - w.length = 8 * k by omega, List.drop_succ_cons]
    exact flat_drop r k (fun x hx => hw x (by simp [hx])) (by simpa using h)
theorem range_word {w : World} {g o : Nat} {ws : List (List UInt8)} (hw : Wds ws) (h : w.rangeAt g o (Lib.byteCells ws.flatten)) (k : Nat) (hk : k < ws.length) : w.rangeAt g (o + 8 * k) (Lib.byteCells ws[k]) := fun j u hu => by
  have h8 : (ws[k]).length = 8 := hw _ (List.getElem_mem hk)
  have hj : j < 8 := by have := (List.getElem?_eq_some_iff.1 hu).1; rw [Lib.byteCells_length] at this; omega
  have := h (8 * k + j) u (by rw [Lib.byteCells, List.getElem?_map, flat_at ws k j hw hk hj, ← List.getElem?_map]; exact hu)
  rw [← Nat.add_assoc] at this
  exact this
theorem range_drop {w : World} {g o : Nat} {ws : List (List UInt8)} (hw : Wds ws) (h : w.rangeAt g o (Lib.byteCells ws.flatten)) (k : Nat) (hk : k ≤ ws.length) : w.rangeAt g (o + 8 * k) (Lib.byteCells (ws.drop k).flatten) := fun j u hu => by
  rw [← flat_drop ws k hw hk] at hu
  have := h (8 * k + j) u (by rw [Lib.byteCells, List.getElem?_map] at hu ⊢; rwa [List.getElem?_drop] at hu)
  rw [← Nat.add_assoc] at this
  exact this
theorem range_take {w : World} {g o : Nat} {ws : List (List UInt8)} (h : w.rangeAt g o (Lib.byteCells ws.flatten)) (k : Nat) : w.rangeAt g o (Lib.byteCells (ws.take k).flatten) := fun j u hu => by
  refine h j u ?_
  have e : ws.flatten = (ws.take k).flatten ++ (ws.drop k).flatten := by rw [← List.flatten_append, List.take_append_drop]
  rw [e, Lib.byteCells, List.map_append, List.getElem?_append_left (by have := (List.getElem?_eq_some_iff.1 hu).1; simpa [Lib.byteCells] using this)]
  exact hu
/-- a packer in block b: it has written these bytes; the words that are left. -/
def PS (B b : Nat) (out : List UInt8) (v : Value) (ws : List (List UInt8)) (w : World) : Prop := BF 58 B b (Lib.byteCells out) [v] w ∧ WS B b w v ws
theorem pkT : LiesB 58 1 := ⟨by decide, by kernel_rfl⟩
theorem PS.left {B b : Nat} {out : List UInt8} {v : Value} {ws : List (List UInt8)} {w : World} (h : PS B b out v ws w) : w.cell? ⟨b, 2, none⟩ = some v := by
  have := BF.cell h.1 0; simpa using this
theorem PS.below {B b : Nat} {out : List UInt8} {v : Value} {ws : List (List UInt8)} {w w' : World} (h : PS B b out v ws w) (hb : Below w.heap.size w w') (hB : B ≤ w.heap.size) : PS B b out v ws w' :=
  ⟨h.1.below hb, h.2.keeps (Keeps.of_below (hb.mono hB))⟩
theorem PS.setLeft {B b : Nat} {out : List UInt8} {v : Value} {ws : List (List UInt8)} {w : World} (h : PS B b out v ws w) (v' : Value) : BF 58 B b (Lib.byteCells out) [v'] (w.setCell ⟨b, 2, none⟩ v') := by
  have := BF.set pkT.1 h.1 0 v'; simpa using this
theorem WS.taken {B b k cap : Nat} {w : World} {A : Option Addr} {ws : List (List UInt8)} (h : WS B b w (.slice A ws.length cap) ws) (hk : k ≤ ws.length) : WS B b w (.slice A k cap) (ws.take k) := by
  obtain ⟨A', cap', hv, h1, h2, h3, h4⟩ := h
  cases hv
  have hl : (ws.take k).length = k := by rw [List.length_take]; omega
  refine ⟨A, cap, by rw [hl], by omega, h2, h3.take k, ?_⟩
  rcases h4 with rfl | ⟨g, o, ha, hg, hne, hr⟩
  · left; simp
  · exact .inr ⟨g, o, ha, hg, hne, range_take hr k⟩
theorem WS.dropped {B b k cap g o : Nat} {w : World} {ws : List (List UInt8)} (h : WS B b w (.slice (some ⟨g, o, none⟩) ws.length cap) ws) (hk : k < ws.length) : WS B b w (.slice (some ⟨g, o + k * 8, none⟩) (ws.length - k) (cap - k)) (ws.drop k) := by
  obtain ⟨A', cap', hv, h1, h2, h3, h4⟩ := h
  cases hv
  refine ⟨some ⟨g, o + k * 8, none⟩, cap - k, by rw [List.length_drop], by rw [List.length_drop]; omega, by omega, h3.drop k, ?_⟩
  rcases h4 with rfl | ⟨g', o', ha, hg, hne, hr⟩
  · simp at hk
  · cases ha
    exact .inr ⟨g, o + k * 8, rfl, hg, hne, by rw [Nat.mul_comm k 8]; exact range_drop h3 hr k (by omega)⟩
theorem WS.empty (B b : Nat) (w : World) (A : Option Addr) (cap : Nat) (h : cap ≤ 9223372036854775807) : WS B b w (.slice A 0 cap) [] := ⟨A, cap, rfl, Nat.zero_le _, h, (fun w hw => by cases hw), .inl rfl⟩
/-- the words taken are counted, those that are left stand in the packer. -/
theorem pcount_any (B b : Nat) (out : List UInt8) (k cap : Nat) (A : Option Addr) (v2 : Value) (ws : List (List UInt8)) (w : World) (h : PS B b out (.slice A ws.length cap) ws w) (hk : k ≤ ws.length) (hk2 : k ≤ 255) (h2 : WS B b w v2 (ws.drop k)) (ho : out.length ≤ 1000000) (hBw : B ≤ w.heap.size) :
    Calls Try.prog 61 #[.pointer (some ⟨b, 0, none⟩), .int .u8 (k : Int)] (w.setCell ⟨b, 2, none⟩ v2) fun e w' => e = .returned .nilIface ∧ WS B b w' (.slice A k cap) (ws.take k) ∧ PS B b (out ++ [UInt8.ofNat k]) v2 (ws.drop k) w' ∧ Keeps B b w w' := by
  have hs := h.setLeft v2
  have hK := set_keeps B b w 2 v2
  refine (fwriteByte_any 58 B b (Lib.byteCells out) [v2] (k : Int) _ pkT hs (by rw [Lib.byteCells_length]; omega) (Nat.le_trans hBw hK.size)).mono ?_
  rintro e w' ⟨he, hb, hk'⟩
  have hKK := hK.trans hk'
  have e : Lib.byteCells out ++ [Value.int .u8 (k : Int)] = Lib.byteCells (out ++ [UInt8.ofNat k]) := by
    have : (UInt8.ofNat k).toNat = k := by rw [UInt8.toNat_ofNat']; omega
    simp [Lib.byteCells]; omega
  rw [e] at hb
  exact ⟨he, (h.2.taken hk).keeps hKK, ⟨hb, h2.keeps hKK⟩, hKK⟩
set_option maxRecDepth 100000 in
set_option maxHeartbeats 4000000 in
theorem ptakeZ_any (B b : Nat) (out : List UInt8) (v : Value) (ws : List (List UInt8)) (w : World) (h : PS B b out v ws w) (hl : ws.length ≤ 200) (ho : out.length ≤ 1000000) (hBw : B ≤ w.heap.size) :
    Calls Try.prog 90 #[.pointer (some ⟨b, 0, none⟩), .func (.func 91) #[] #[]] w fun e w' =>
      ∃ v1 v2, e = .returned v1 ∧ WS B b w' v1 (ws.take (runN zerL ws)) ∧ PS B b (out ++ [UInt8.ofNat (runN zerL ws)]) v2 (ws.drop (runN zerL ws)) w' ∧ Keeps B b w w' := by
  obtain ⟨A, cap, rfl, hcap, hcm, hwds, hrg⟩ := h.2
  have HWds := Lib.hid hwds
  have HRG := Lib.hid hrg
  have H := Lib.hid h
  obtain ⟨P, hP⟩ : ∃ P : Ending → World → Prop, P = (fun e w' => ∃ v1 v2, e = .returned v1 ∧ WS B b w' v1 (ws.take (runN zerL ws)) ∧ PS B b (out ++ [UInt8.ofNat (runN zerL ws)]) v2 (ws.drop (runN zerL ws)) w' ∧ Keeps B b w w') := ⟨_, rfl⟩
  rw [← hP]
  have HP := Lib.hid hP
  clear hP h hwds hrg
  go_enter Try.func90, Try.ntmps90
  go_wp2_with fail
  go_loopw [5] (fun i wr => ∃ k : Nat, k ≤ ws.length ∧ k ≤ 255 ∧ i = .int .i64 k ∧ Hid (∀ j (h : j < ws.length), j < k → zerL ws[j] = true) ∧ Hid (Below w.heap.size w wr)) (fun i _ => ws.length - (intOf i).toNat)
  case atStart => exact ⟨0, by omega, by omega, rfl, fun j hj h => by omega, Below.refl _ _⟩
  case round =>
    obtain ⟨k, hk, hk255, rfl, HZ, HB⟩ := hrel
    have hPS := H.out.below HB.out hBw
    have hcl := hPS.left
    have hPS0 := Lib.hid hPS
    have HBB := Lib.hid (Nat.le_trans hBw HB.out.size)
    by_cases hgo : k < ws.length ∧ k < 255
    · obtain ⟨hk1, hk2⟩ := hgo
      obtain ⟨g, o, rfl, hgB, hgb, hr⟩ := HRG.out.resolve_left (by intro h; rw [h] at hk1; simp at hk1)
      have hr2 : wr.rangeAt g (o + 8 * k) (Lib.byteCells ws[k]) := fun j u hu => (HB.out.cell (p := ⟨g, o + 8 * k + j, none⟩) (show g < w.heap.size by omega)).trans (range_word HWds.out hr k hk1 j u hu)
      have hx8 : (ws[k]).length = 8 := HWds.out _ (List.getElem_mem hk1)
      obtain ⟨x, hx⟩ : ∃ x, ws[k] = x := ⟨_, rfl⟩
      rw [hx] at hr2 hx8
      have HX := Lib.hid hx
      rw [Nat.mul_comm 8 k] at hr2
      have HR2 := Lib.hid hr2
      have HX8 := Lib.hid hx8
      have hd1 : decide ((k : Int) < (ws.length : Int)) = true := by simp; omega
      have hd2 : decide ((k : Int) < 255) = true := by simp; omega
      have hN := Lib.hid (noughts1_any x wr hx8)
      clear hx hr2 hPS hx8
      go_wp2_with (refine wpList_load_midG (by rfl) 50 (.tmp 25) rfl g (o + k * 8) rfl (Lib.byteCells x) _ HR2.out Try.underlying50 rfl (by rw [Lib.byteCells_length, HX8.out]; exact size46) ?_)
      refine hN.out.mono ?_
      rintro e w1 ⟨rfl, hb1⟩
      have HB1 := Lib.hid (HB.out.trans (hb1.mono HB.out.size))
      cases hz : zerL x
      · have hrun : runN zerL ws = k := runN_eq hk hk255 HZ.out (.inr (.inr ⟨hk1, by rw [HX.out]; exact hz⟩))
        have HRun := Lib.hid hrun
        have hPS1 := hPS0.out.below hb1 HBB.out
        have hcl1 := hPS1.left
        have hfz1 := BF.frozen hPS1.1 2
        have HPS1 := Lib.hid hPS1
        have hB1 := hb1
        clear hrun hz hb1 hPS1
        have hpc := Lib.hid (pcount_any B b out k cap _ _ ws w1 HPS1.out hk hk255 (HPS1.out.2.dropped hk1) ho (Nat.le_trans HBB.out hB1.size))
        go_wp2_with fail
        refine hpc.out.mono ?_
        rintro e w2 ⟨rfl, hw1, hp1, hkp⟩
        have HW1 := Lib.hid hw1
        have HP1 := Lib.hid hp1
        have HK1 := Lib.hid ((Keeps.of_below (HB1.out.mono hBw)).trans hkp)
        clear hw1 hp1 hkp hB1
        go_wp2
        rw [HP.out, HRun.out]
        exact ⟨_, _, rfl, HW1.out, HP1.out, HK1.out⟩
      · have HZ2 : Hid (∀ j (h : j < ws.length), j < k + 1 → zerL ws[j] = true) := Lib.hid (fun j hj hjk => by
          by_cases hjk2 : j < k
          · exact HZ.out j hj hjk2
          · obtain rfl : j = k := by omega
            rw [HX.out]; exact hz)
        clear hz hb1
        go_wp2
        go_roundw
        case rel => exact ⟨k + 1, by omega, by omega, by go_num, HZ2, HB1⟩
        case measure => simp [intOf]; omega
    · obtain rfl : k = ws.length := by omega
      have hrun : runN zerL ws = ws.length := runN_eq (Nat.le_refl _) hk255 HZ.out (.inr (.inl rfl))
      have HRun := Lib.hid hrun
      have hfz1 := BF.frozen hPS.1 2
      have hdrop : ws.drop ws.length = [] := List.drop_length
      have HDrop := Lib.hid hdrop
      clear hrun hPS hdrop
      by_cases hcc : cap = ws.length
      · subst hcc
        have hpc := Lib.hid (pcount_any B b out ws.length ws.length A (.slice A 0 0) ws wr hPS0.out (Nat.le_refl _) hk255 (by rw [HDrop.out]; exact WS.empty B b wr _ _ (by omega)) ho HBB.out)
        go_wp2_with fail
        refine hpc.out.mono ?_
        rintro e w2 ⟨rfl, hw1, hp1, hkp⟩
        have HW1 := Lib.hid hw1
        have HP1 := Lib.hid hp1
        have HK1 := Lib.hid ((Keeps.of_below (HB.out.mono hBw)).trans hkp)
        clear hw1 hp1 hkp
        go_wp2
        rw [HP.out, HRun.out]
        exact ⟨_, _, rfl, HW1.out, HP1.out, HK1.out⟩
      · have hcc2 : ws.length < cap := by omega
        have hpc := Lib.hid (pcount_any B b out ws.length cap A (.slice (Option.map (fun x => x.add (ws.length * 8)) A) 0 (cap - ws.length)) ws wr hPS0.out (Nat.le_refl _) hk255 (by rw [HDrop.out]; exact WS.empty B b wr _ _ (by omega)) ho HBB.out)
        go_wp2_with fail
        refine hpc.out.mono ?_
        rintro e w2 ⟨rfl, hw1, hp1, hkp⟩
        have HW1 := Lib.hid hw1
        have HP1 := Lib.hid hp1
        have HK1 := Lib.hid ((Keeps.of_below (HB.out.mono hBw)).trans hkp)
        clear hw1 hp1 hkp
        go_wp2
        rw [HP.out, HRun.out]
        exact ⟨_, _, rfl, HW1.out, HP1.out, HK1.out⟩
end Go.Proofs.Ytgeldgikjcihgaa
