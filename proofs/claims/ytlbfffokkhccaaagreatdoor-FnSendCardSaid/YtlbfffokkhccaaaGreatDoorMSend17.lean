/- Texts of the proof of the law FnSend, side by side: part 17. -/
import Derived.Test.YtlbfffokkhccaaaGreatDoorMSend16
set_option maxHeartbeats 8000000
set_option maxRecDepth 100000
namespace Go.Proofs.YtlbfffokkhccaaaGreatDoor
open Go.RowKit Go.Deep
theorem ptI_1 (o d p : Int) : ptI (1, o, d, p, 0, 0, 0, false) = siV o d p := by simp [ptI, ptif]
theorem ptI_2 (o z c : Int) : ptI (2, o, 0, 0, z, c, 0, false) = liV o z c := by simp [ptI, ptif]
theorem ptI_0 : ptI (0, 0, 0, 0, 0, 0, 0, false) = .iface 129 (.agg #[]) := by simp [ptI, ptif]
theorem ptI_3 (o g : Int) : ptI (3, o, 0, 0, 0, 0, g, false) = fiV o g := by simp [ptI, ptif]
theorem bitsOf_bz (z : Int) (h0 : 0 ≤ z) (h5 : z ≤ 5) : bitsOf z = bz z := by
 have h : z = 0 ∨ z = 1 ∨ z = 2 ∨ z = 3 ∨ z = 4 ∨ z = 5 := by omega
 rcases h with rfl | rfl | rfl | rfl | rfl | rfl <;> rfl
theorem flat_costs (f : Nd → Nat) (l : List Nd) : ((l.flatMap Nd.ptrs).map f).sum = (l.map fun y => (y.ptrs.map f).sum).sum := by
 induction l with
 | nil => rfl
 | cons a t ih => rw [List.flatMap_cons, List.map_append, List.sum_append, ih, List.map_cons, List.sum_cons]
theorem shape_tag {n : Nd} (hl : (n.items.length : Int) = n.count) (W : World) : Calls Tryz.prog 167 #[ptI (tgG n)] W fun e w' => e = .returned (.tuple #[.agg #[.int .i64 (n.items.length : Int), .int .i64 (itD n : Int), .int .i64 (itP n : Int)], .bool true]) ∧ Below W.heap.size W w' := by
 unfold tgG
 by_cases e : n.count = 0 ∧ itD n = 0 ∧ itP n = 0
 · rw [if_pos e, ptI_0, hl, e.1, e.2.1, e.2.2]
   exact shapeOf_n W
 · rw [if_neg e, ptI_1, hl]
   exact shapeOf_s _ _ _ W
theorem fill_bare {s : Segs} {d : Nat} {n : Nd} (hf : formN n = true) (ho : ownN n = 0) (j c : Nat) : FillR (RepN s d) s n j c := by
 unfold FillR
 by_cases e : n.kind = 2 ∧ n.size = 7
 · have := (own_many hf e).2.1
   omega
 · rw [if_neg e]
   rw [(own_plain hf e).1] at ho
   unfold ownB at ho
   have hd := data_toList n.data
   exact ⟨fun q hq => by omega, fun k hk => by omega⟩
theorem node_a {rb cap d : Nat} {A : Option Addr} {zs : List ByteArray} (hI : InC rb A cap zs d) {w : World} {L : Int} (h : Rdr w rb A cap zs L) {b1 b2 : Nat} (hbx : Bx w rb b1 b2 d) {n : Nd} (hok : okN (d + 1) n = true) (hw : wordsN (d + 1) n ≤ 199) (hk : n.kind ≠ 0) (off : Int) (j c : Nat) (hj : j < zs.length) (hcz : c + ownN n ≤ (zs[j]).size / 8) (hf : FillR (RepN (sgz zs) d) (sgz zs) n j c) (hL : L ≤ 1000) (hcost : (costN (d + 1) n : Int) ≤ L) :
 Calls Tryz.prog 87 #[.pointer (some ⟨rb, 0, none⟩), ptI (ptG n off), plV j c, .func (.func 84) #[] #[.pointer (some ⟨b1, 0, none⟩), .pointer (some ⟨b2, 0, none⟩)]] w (NdQ (2 * d + 2) rb A cap zs (L - (costN (d + 1) n : Nat)) n w) := by
 have fn := ok_formN hok
 have hpk : ∀ p ∈ ptrsL n, okN d p = true ∧ wordsN d p ≤ 199 := fun p hp => ⟨ok_within hok hk p hp, Nat.le_trans (words_mem hok hp) hw⟩
 have hck := cost_kids hok
 rw [Nat.add_sub_cancel] at hck
 have hwk := words_kids hok
 have hlc := lcN_eq fn
 have hsm := h.small _ (List.getElem_mem hj)
 unfold FillR at hf
 rcases form_cases fn with hc | hc | ⟨hc1, hc2, hc⟩
 · omega
 · obtain ⟨k1, k2, k3, k4, k5⟩ := hc
   have hpl : ptrsL n = n.ptrs := by unfold ptrsL; rw [nil_of_len k5]; simp
   have hn : n = .mk 1 n.data n.ptrs 0 0 [] := nd_alike k1 rfl rfl k3 k4 (nil_of_len k5)
   rw [if_neg (by omega)] at hf
   have hob := (own_plain fn (by omega)).1
   rw [if_neg (by omega)] at hlc
   rw [hpl] at hpk hck
   have hds : n.data.size = 8 * (n.data.size / 8) := by omega
   have how : ownN n = n.data.size / 8 + n.ptrs.length := by rw [hob]; unfold ownB; omega
   have hpt : ptI (ptG n off) = siV off (n.data.size / 8 : Nat) (n.ptrs.length : Nat) := by unfold ptG; rw [if_pos k1, ptI_1]
   rw [hpt]
   refine (node_s h b1 b2 off (n.data.size / 8 : Nat) (n.ptrs.length : Nat) j c n (fun W hK hR => ?_)).mono (fun _ _ h => NdQ.up h)
   have := lone_a hI hR (hbx.keeps h hK) off (n.data.size / 8) n.data n.ptrs j c hds hj (by omega) (has_data hj hf.1) hpk (fun k hk => by have := hf.2 k hk; rwa [show (n.data.size + 7) / 8 = n.data.size / 8 by omega] at this) hL (by omega)
   rw [← hn] at this
   rwa [show ((n.data.size / 8 + n.ptrs.length + (n.ptrs.map (costN d)).sum : Nat) : Int) = (costN (d + 1) n : Nat) by omega] at this
 · rcases hc with hc | hc | hc
   · obtain ⟨k1, k2, k3, k4, k5⟩ := hc
     have hpl : ptrsL n = [] := by unfold ptrsL; rw [nil_of_len k4, nil_of_len k5]; rfl
     have hn : n = .mk 2 n.data [] n.size n.count [] := nd_alike hc1 rfl (nil_of_len k4) rfl rfl (nil_of_len k5)
     rw [if_neg (by omega)] at hf
     have hob := (own_plain fn (by omega)).1
     rw [if_pos hc1] at hlc
     rw [hpl] at hck
     simp only [List.map_nil, List.sum_nil] at hck
     have how : ownN n = (n.data.size + 7) / 8 := by rw [hob]; unfold ownB; omega
     unfold bitsB at k3
     rw [Bool.and_eq_true, decide_eq_true_eq, Bool.or_eq_true, decide_eq_true_eq, decide_eq_true_eq] at k3
     have hbz := bz_le n.size
     have hbb : 0 ≤ n.count * bz n.size := Int.mul_nonneg hc2.1 hbz.1
     have hcut := (cutD_eq hbb k3.1).2 k3.2
     have hwf : wfI n.size n.count = (ownN n : Nat) := by
      unfold wfI
      rw [bitsOf_bz _ k1 k2, Int.mul_comm]
      have := k3.1
      omega
     have hpt : ptI (ptG n off) = liV off n.size n.count := by unfold ptG; rw [if_neg (by omega), if_neg (by omega), ptI_2]
     rw [hpt]
     refine (node_l h b1 b2 off n.size n.count j c n (by simp; omega) (fun W hK hR => ?_)).mono (fun _ _ h => NdQ.up h)
     have := listD_a (d := d) hR b1 b2 off n.size n.count (lcN n : Nat) (ownN n) n.data j c hj k1 k2 hc2.1 (by omega) hwf hlc.symm hcz (by omega) k3.1 (has_data hj hf.1) hcut hL (by omega) (by omega)
     rw [← hn] at this
     rwa [show ((lcN n : Nat) : Int) = (costN (d + 1) n : Nat) by omega] at this
   · obtain ⟨k1, k2, k3, k4⟩ := hc
     have hpl : ptrsL n = n.ptrs := by unfold ptrsL; rw [nil_of_len k4]; simp
     have hn : n = .mk 2 { data := #[] } n.ptrs 6 n.ptrs.length [] := nd_alike hc1 (bytes_nil k2 rfl) rfl k1 k3.symm (nil_of_len k4)
     rw [if_neg (by omega)] at hf
     have hob := (own_plain fn (by omega)).1
     have how : ownN n = n.ptrs.length := by rw [hob]; unfold ownB; omega
     rw [if_pos hc1, k1, ← k3, how, show lcZ 6 (n.ptrs.length : Int) (n.ptrs.length : Nat) = n.ptrs.length by unfold lcZ; simp] at hlc
     rw [hpl] at hpk hck
     have hpt : ptI (ptG n off) = liV off 6 (n.ptrs.length : Int) := by unfold ptG; rw [if_neg (by omega), if_neg (by omega), ptI_2, k1, k3]
     rw [hpt]
     refine (node_l h b1 b2 off 6 (n.ptrs.length : Int) j c n (by rfl) (fun W hK hR => ?_)).mono (fun _ _ h => NdQ.up h)
     have := listP_a hI hR (hbx.keeps h hK) off n.ptrs j c hj (by omega) hpk (fun k hk => by have := hf.2 k hk; rwa [show c + (n.data.size + 7) / 8 + k = c + k by omega] at this) hL (by omega)
     rw [← hn] at this
     rwa [show ((n.ptrs.length + (n.ptrs.map (costN d)).sum : Nat) : Int) = (costN (d + 1) n : Nat) by omega] at this
   · obtain ⟨k1, k2, k3, k4, k5⟩ := hc
     have hn : n = .mk 2 { data := #[] } [] 7 n.items.length n.items := nd_alike hc1 (bytes_nil k2 rfl) (nil_of_len k3) k1 k4.symm rfl
     rw [if_pos ⟨hc1, k1⟩] at hf
     obtain ⟨g1, g2, g3⟩ := own_many fn ⟨hc1, k1⟩
     have hpl : ptrsL n = n.items.flatMap Nd.ptrs := by unfold ptrsL; rw [g3]; rfl
     rw [if_pos hc1, k1, ← k4, g2] at hlc
     rw [hpl, flat_costs] at hck
     have hl0 : n.items.length = 0 → itD n = 0 ∧ itP n = 0 := fun e => by unfold itD itP; rw [nil_of_len e]; exact ⟨rfl, rfl⟩
     have hmul : n.items.length ≠ 0 → itD n + itP n ≤ n.items.length * (itD n + itP n) := fun e => by
      have : 1 * (itD n + itP n) ≤ n.items.length * (itD n + itP n) := Nat.mul_le_mul_right _ (by omega)
      omega
     have hws : itD n + itP n ≤ 300 := by
      by_cases e : n.items.length = 0
      · have := hl0 e; omega
      · have := hmul e; omega
     have hle : n.items.length ≤ 1000 := by
      by_cases e : itD n + itP n = 0
      · rw [e, Nat.mul_zero] at hlc
        unfold lcZ at hlc
        rw [if_neg (by decide), if_pos ⟨rfl, rfl⟩] at hlc
        omega
      · have : n.items.length * 1 ≤ n.items.length * (itD n + itP n) := Nat.mul_le_mul_left _ (by omega)
        omega
     have hbd : itD n ≤ 300 ∧ itP n ≤ 300 := by omega
     have hpt : ptI (ptG n off) = liV off 7 ((n.items.length * (itD n + itP n) : Nat) : Int) := by
      unfold ptG
      rw [if_neg (by omega), if_pos k1, ptI_2, k1, g2, show (((1 + n.items.length * (itD n + itP n) : Nat) : Int)) - 1 = ((n.items.length * (itD n + itP n) : Nat) : Int) by omega]
     rw [hpt]
     refine node_m h b1 b2 off ((n.items.length * (itD n + itP n) : Nat) : Int) j c n (fun W hK hR => ?_)
     have hxw : RdW (((zs[j]).data.toList.drop (8 * c)).take 8) (tgG n) := by
      have h1 := has_word hf.1 (tagW_length n)
      rw [sgz_get hj] at h1
      rw [h1]
      exact rd_tag hc2 hbd
     have := many_a hI hR (hbx.keeps h hK) off n.items (itD n) (itP n) j c (lcN n) hj (by omega) hxw (shape_tag k4) (fun k hk => by
      have hm := List.getElem_mem hk
      obtain ⟨u1, u2, u3, u4, u5, u6, u7⟩ := can_item_kind g1 _ hm
      have hb := hf.2 k hk
      have hds : n.items[k].data.size = 8 * itD n := by unfold itD; omega
      refine ⟨nd_alike u1 rfl rfl u3 u4 u5, hds, by unfold itP; exact u7, has_data hj hb.1, fun p hp => hpk p (by rw [hpl]; exact List.mem_flatMap.2 ⟨_, hm, hp⟩), fun i hi => ?_⟩
      have := hb.2 i hi
      rwa [show (n.items[k].data.size + 7) / 8 = itD n by omega] at this) hL hle hws (by rw [hlc]; push_cast; rfl) (by omega)
     rw [← hn] at this
     rwa [show ((lcN n + (n.items.map fun y => (y.ptrs.map (costN d)).sum).sum : Nat) : Int) = (costN (d + 1) n : Nat) by omega] at this
theorem pointed_a (rb : Nat) (k : Int) (w : World) :
 Calls Tryz.prog 45 #[.pointer (some ⟨rb, 0, none⟩), .int .i64 k] w fun e w' => e = .returned (.func (.func 84) #[] #[.pointer (some ⟨w.heap.size, 0, none⟩), .pointer (some ⟨w.heap.size + 1, 0, none⟩)]) ∧ Below w.heap.size w w' ∧ w'.heap[w.heap.size]? = some (.cells #[.pointer (some ⟨rb, 0, none⟩)] 64 (0, 0)) ∧ w'.heap[w.heap.size + 1]? = some (.cells #[.int .i64 k] 3 (0, 0)) := by
 have hmf : ∀ (fn : Fn) (first cap : Array Value) (w : World), (Instr.makeFunc fn first cap).run Tryz.prog w = .ok (.func fn first cap) w := fun _ _ _ _ => rfl
 go_enter Tryz.func45, Tryz.ntmps45
 go_wp2
 go_ret
 exact ⟨rfl, ((Below.refl _ _).alloc (Nat.le_refl _) _).alloc (by simp) _, heap_alloc2_old w _ _, heap_alloc2_new w _ _⟩
theorem closure_none {rb cap : Nat} {A : Option Addr} {zs : List ByteArray} {w : World} {L : Int} (h : Rdr w rb A cap zs L) {b1 b2 d : Nat} (hbx : Bx w rb b1 b2 d) (M i a : Nat) (HPA : ∀ W : World, Rdr W rb A cap zs L → Calls Tryz.prog 85 #[.pointer (some ⟨rb, 0, none⟩), plV i a] W fun e w' => e = .returned (.iface 129 (.agg #[])) ∧ Below W.heap.size W w') :
 Calls Tryz.prog 84 #[plV i a, .pointer (some ⟨b1, 0, none⟩), .pointer (some ⟨b2, 0, none⟩)] w (NdQ M rb A cap zs L (.mk 0 { data := #[] } [] 0 0 []) w) := by
 have HP := Lib.hid HPA
 have hlow := h.low
 have HLOW := Lib.hid hlow
 have HR := Lib.hid h
 have hb0 := ((Below.refl w.heap.size w).alloc (Nat.le_refl _) (.cells #[.int .i64 (i : Int), .int .i64 (a : Int)] 58)).alloc (by simp) (.cells #[.int .i64 0, .string { data := #[] }, .slice none 0 0, .int .i64 0, .int .i64 0, .slice none 0 0] nodeT)
 have hr1 : ((w.alloc (.cells #[.int .i64 (i : Int), .int .i64 (a : Int)] 58)).alloc (.cells #[.int .i64 0, .string { data := #[] }, .slice none 0 0, .int .i64 0, .int .i64 0, .slice none 0 0] nodeT)).heap[w.heap.size + 1]? = some (.cells #[.int .i64 0, .string { data := #[] }, .slice none 0 0, .int .i64 0, .int .i64 0, .slice none 0 0] nodeT (0, 0)) := heap_alloc2_new w _ _
 have hr0 : ((w.alloc (.cells #[.int .i64 (i : Int), .int .i64 (a : Int)] 58)).alloc (.cells #[.int .i64 0, .string { data := #[] }, .slice none 0 0, .int .i64 0, .int .i64 0, .slice none 0 0] nodeT)).heap[w.heap.size]? = some (.cells #[.int .i64 (i : Int), .int .i64 (a : Int)] 58 (0, 0)) := heap_alloc2_old w _ _
 have HR0 := Lib.hid (h.below hb0)
 have HB0 := Lib.hid hb0
 have R1 := Lib.hid hr1
 have g1 := cell1 ((hb0.block _ (row_lt hbx.r1)).trans hbx.r1)
 obtain ⟨t0, t1⟩ := cell_pair hr0
 clear hb0 hr0 hr1 HPA h hlow hbx
 have a1 := ta_noP_noP
 go_enter Tryz.func84, Tryz.ntmps84
 go_wp2_with fail
 generalize ((w.alloc (.cells #[.int .i64 (i : Int), .int .i64 (a : Int)] 58)).alloc (.cells #[.int .i64 0, .string { data := #[] }, .slice none 0 0, .int .i64 0, .int .i64 0, .slice none 0 0] nodeT)) = W at *
 refine (HP.out _ HR0.out).mono ?_
 rintro e w4 ⟨rfl, hb4⟩
 have hba := hb4.alloc hb4.size (.cells #[] 129)
 have q4 := (hba.block _ (row_lt R1.out)).trans R1.out
 obtain ⟨c0, c1, c2, c3, c4, c5⟩ := cells6 q4
 have hfz := row_free q4
 have HBA := Lib.hid hba
 have Q4 := Lib.hid q4
 clear g1 t0 t1 hb4 hba q4
 go_wp2
 obtain ⟨wf, hwf, hrw, hkf⟩ := store6K Q4.out (.int .i64 0) (.string { data := #[] }) (.slice none 0 0) (.int .i64 0) (.int .i64 0) (.slice none 0 0)
 rw [hwf]
 obtain ⟨e0, e1, e2, e3, e4, e5⟩ := cells6 hrw
 have hbf : Below w.heap.size w wf := (HB0.out.trans (HBA.out.mono HB0.out.size)).trans (hkf.below (by have h1 := HBA.out.size; have h2 := HB0.out.size; omega) (by omega))
 exact bodyPost_ret (v := .tuple #[.agg #[.int .i64 0, .string { data := #[] }, .slice none 0 0, .int .i64 0, .int .i64 0, .slice none 0 0], .nilIface]) (by simp [results, Tryz.results84, go_sem, e0, e1, e2, e3, e4, e5]) rfl ⟨⟨none, 0, none, 0⟩, rfl, ⟨Nat.zero_le _, NdsAt.nil _ _ _ _, NdsAt.nil _ _ _ _⟩, HR.out.below hbf, Keeps.of_below hbf⟩
theorem closure_ptr {M rb cap d : Nat} {A : Option Addr} {zs : List ByteArray} {w : World} {L L2 : Int} (h : Rdr w rb A cap zs L) {b1 b2 : Nat} (hbx : Bx w rb b1 b2 (d + 1)) (hd : d ≤ 7) (n : Nd) (i a j c : Nat) (PV PV2 : Value)
 (HPA : ∀ W : World, Rdr W rb A cap zs L → Calls Tryz.prog 85 #[.pointer (some ⟨rb, 0, none⟩), plV i a] W fun e w' => e = .returned PV ∧ Below W.heap.size W w')
 (hta : ∀ w : World, (Instr.typeAssert PV 91 129 true).run Tryz.prog w = .ok (.tuple #[.agg #[], .bool false]) w)
 (HFO : ∀ W : World, Rdr W rb A cap zs L → Calls Tryz.prog 86 #[.pointer (some ⟨rb, 0, none⟩), PV, plV i a] W fun e w' => e = .returned (.tuple #[PV2, plV j c, .nilIface]) ∧ Below W.heap.size W w')
 (HNO : ∀ (W : World) (x y : Nat), Keeps w.heap.size rb w W → Rdr W rb A cap zs L → Bx W rb x y d → Calls Tryz.prog 87 #[.pointer (some ⟨rb, 0, none⟩), PV2, plV j c, .func (.func 84) #[] #[.pointer (some ⟨x, 0, none⟩), .pointer (some ⟨y, 0, none⟩)]] W (NdQ M rb A cap zs L2 n W)) :
 Calls Tryz.prog 84 #[plV i a, .pointer (some ⟨b1, 0, none⟩), .pointer (some ⟨b2, 0, none⟩)] w (NdQ M rb A cap zs L2 n w) := by
 have HP := Lib.hid HPA
 have HFF := Lib.hid HFO
 have HN := Lib.hid HNO
 have hlow := h.low
 have HLOW := Lib.hid hlow
 have HR := Lib.hid h
 have HPD := Lib.hid (pointed_a rb)
 obtain ⟨dd, hdd⟩ : ∃ dd : Int, 9 - ((d + 1 : Nat) : Int) = dd := ⟨_, rfl⟩
 have hbr2 := hbx.r2
 rw [hdd] at hbr2
 have HNE : Hid (b1 ≠ rb ∧ b2 ≠ rb) := Lib.hid ⟨fun e => by have := hbx.r1; rw [e, h.row] at this; simp at this, fun e => by have := hbr2; rw [e, h.row] at this; simp at this⟩
 have HB12 : Hid (b1 < w.heap.size ∧ b2 < w.heap.size) := Lib.hid ⟨row_lt hbx.r1, row_lt hbr2⟩
 have hd8 : ¬ dd > 8 := by omega
 have HDD : Hid (dd + 1 = 9 - (d : Int)) := Lib.hid (by omega)
 have HWD := Lib.hid (w64_sm (n := dd + 1) (by omega) (by omega))
 have hb0 := ((Below.refl w.heap.size w).alloc (Nat.le_refl _) (.cells #[.int .i64 (i : Int), .int .i64 (a : Int)] 58)).alloc (by simp) (.cells #[.int .i64 0, .string { data := #[] }, .slice none 0 0, .int .i64 0, .int .i64 0, .slice none 0 0] nodeT)
 have hr1 : ((w.alloc (.cells #[.int .i64 (i : Int), .int .i64 (a : Int)] 58)).alloc (.cells #[.int .i64 0, .string { data := #[] }, .slice none 0 0, .int .i64 0, .int .i64 0, .slice none 0 0] nodeT)).heap[w.heap.size + 1]? = some (.cells #[.int .i64 0, .string { data := #[] }, .slice none 0 0, .int .i64 0, .int .i64 0, .slice none 0 0] nodeT (0, 0)) := heap_alloc2_new w _ _
 have hr0 : ((w.alloc (.cells #[.int .i64 (i : Int), .int .i64 (a : Int)] 58)).alloc (.cells #[.int .i64 0, .string { data := #[] }, .slice none 0 0, .int .i64 0, .int .i64 0, .slice none 0 0] nodeT)).heap[w.heap.size]? = some (.cells #[.int .i64 (i : Int), .int .i64 (a : Int)] 58 (0, 0)) := heap_alloc2_old w _ _
 have HR0 := Lib.hid (h.below hb0)
 have HB0 := Lib.hid hb0
 have R0 := Lib.hid hr0
 have R1 := Lib.hid hr1
 have hx1 := (hb0.block _ (row_lt hbx.r1)).trans hbx.r1
 have hx2 := (hb0.block _ (row_lt hbr2)).trans hbr2
 have X1 := Lib.hid hx1
 have X2 := Lib.hid hx2
 have g1 := cell1 hx1
 obtain ⟨t0, t1⟩ := cell_pair hr0
 clear hb0 hr0 hr1 HPA HFO HNO h hlow hbx hbr2 hx1 hx2 hdd
 go_enter Tryz.func84, Tryz.ntmps84
 go_wp2_with fail
 generalize ((w.alloc (.cells #[.int .i64 (i : Int), .int .i64 (a : Int)] 58)).alloc (.cells #[.int .i64 0, .string { data := #[] }, .slice none 0 0, .int .i64 0, .int .i64 0, .slice none 0 0] nodeT)) = W at *
 refine (HP.out _ HR0.out).mono ?_
 rintro e w4 ⟨rfl, hb4⟩
 have hba := hb4.alloc hb4.size (.cells #[] 129)
 have HR4 := Lib.hid (HR0.out.below hba)
 have HB4 := Lib.hid (HB0.out.trans (hba.mono HB0.out.size))
 have q0 := (hba.block _ (row_lt R0.out)).trans R0.out
 have q1 := (hba.block _ (row_lt R1.out)).trans R1.out
 have y1 := (hba.block _ (row_lt X1.out)).trans X1.out
 have y2 := (hba.block _ (row_lt X2.out)).trans X2.out
 have Q1 := Lib.hid q1
 have Y1 := Lib.hid y1
 have Y2 := Lib.hid y2
 have g1' := cell1 y1
 obtain ⟨t0', t1'⟩ := cell_pair q0
 have k4 := cell1 ((hb4.block _ (row_lt X1.out)).trans X1.out)
 obtain ⟨k0, k1⟩ := cell_pair ((hb4.block _ (row_lt R0.out)).trans R0.out)
 clear g1 t0 t1 hb4 hba q0 q1 y1 y2 HR0 HB0 R0 R1 X1 X2
 go_wp2_with fail
 refine (HFF.out _ HR4.out).mono ?_
 rintro e w5 ⟨rfl, hb5⟩
 have hpb : w.heap.size + 1 < w5.heap.size ∧ rb < w5.heap.size := by have h1 := hb5.size; have h2 := row_lt Q1.out; have h3 := HLOW.out.rb; omega
 have HPB := Lib.hid hpb
 clear hpb
 have hba := hb5.alloc hb5.size (.cells #[.int .i64 (j : Int), .int .i64 (c : Int)] 58)
 have hna := heap_alloc_new w5 (.cells #[.int .i64 (j : Int), .int .i64 (c : Int)] 58)
 have HR5 := Lib.hid (HR4.out.below hba)
 have HB5 := Lib.hid (HB4.out.trans (hba.mono HB4.out.size))
 have q1 := (hba.block _ (row_lt Q1.out)).trans Q1.out
 have y1 := (hba.block _ (row_lt Y1.out)).trans Y1.out
 have y2 := (hba.block _ (row_lt Y2.out)).trans Y2.out
 have Q5 := Lib.hid q1
 have Y5 := Lib.hid y1
 have Y6 := Lib.hid y2
 have NA := Lib.hid hna
 have g1 := cell1 y1
 have g2 := cell1 y2
 have g2' := cell1 ((hb5.block _ (row_lt Y2.out)).trans Y2.out)
 obtain ⟨n0, n1⟩ := cell_pair hna
 clear hb5 hba hna q1 y1 y2 HR4 HB4 Q1 Y1 Y2 t0' t1' g1' k0 k1 k4
 have hdr : ((w5.alloc (.cells #[.int .i64 (j : Int), .int .i64 (c : Int)] 58)).drew).heap.size = (w5.alloc (.cells #[.int .i64 (j : Int), .int .i64 (c : Int)] 58)).heap.size := rfl
 go_wp2_with fail
 generalize w5.alloc (.cells #[.int .i64 (j : Int), .int .i64 (c : Int)] 58) = W5 at *
 generalize w5.heap.size = pb at *
 have e1 := HWD.out.1
 have e2 := HWD.out.2
 have HR5D : Hid (Rdr W5.drew rb A cap zs L) := Lib.hid (HR5.out.below (⟨rfl, rfl, rfl, Nat.le_refl _, fun _ _ => rfl⟩ : Below W5.heap.size W5 W5.drew))
 have HB5D : Hid (Below w.heap.size w W5.drew) := Lib.hid HB5.out.drew
 refine wp_region_held_drew (S := (fun V => V.cell? ⟨b1, 0, none⟩ = some (.pointer (some ⟨rb, 0, none⟩)) ∧ V.cell? ⟨b2, 0, none⟩ = some (.int .i64 dd) ∧ V.cell? ⟨pb, 0, none⟩ = some (.int .i64 (j : Int)) ∧ V.cell? ⟨pb, 1, none⟩ = some (.int .i64 (c : Int)))) (by kernel_rfl) ?_ (fun hH0 => ?_)
 · exact ⟨g1, g2, n0, n1⟩
 refine wpAnyH_take (i := 0) (v := ?_) rfl (by kernel_rfl) (by kernel_rfl) (by kernel_rfl) (fun _ _ _ h => h) (Or.inl ⟨by rfl, ?_⟩) (by assumption) ?_
 rotate_left
 · intro w hSw
   (try dsimp only at hSw)
   go_simp
   try with_reducible rfl
 try simp only [List.getElem_toArray, List.getElem_cons_succ, List.getElem_cons_zero, Act.put, List.setIfInBounds_toArray, List.set_cons_zero, List.set_cons_succ]
 refine wpAnyH_take (i := 1) (v := ?_) rfl (by kernel_rfl) (by kernel_rfl) (by kernel_rfl) (fun _ _ _ h => h) (Or.inl ⟨by rfl, ?_⟩) (by assumption) ?_
 rotate_left
 · intro w hSw
   (try dsimp only at hSw)
   go_simp
   try with_reducible rfl
 try simp only [List.getElem_toArray, List.getElem_cons_succ, List.getElem_cons_zero, Act.put, List.setIfInBounds_toArray, List.set_cons_zero, List.set_cons_succ]
 refine wpAnyH_take (i := 2) (v := ?_) rfl (by kernel_rfl) (by kernel_rfl) (by kernel_rfl) (fun _ _ _ h => h) (Or.inl ⟨by rfl, ?_⟩) (by assumption) ?_
 rotate_left
 · intro w hSw
   (try dsimp only at hSw)
   go_simp
   try with_reducible rfl
 try simp only [List.getElem_toArray, List.getElem_cons_succ, List.getElem_cons_zero, Act.put, List.setIfInBounds_toArray, List.set_cons_zero, List.set_cons_succ]
 refine wpAnyH_take (i := 3) (v := ?_) rfl (by kernel_rfl) (by kernel_rfl) (by kernel_rfl) (fun _ _ _ h => h) (Or.inl ⟨by rfl, ?_⟩) (by assumption) ?_
 rotate_left
 · intro w hSw
   (try dsimp only at hSw)
   go_simp
   try with_reducible rfl
 try simp only [List.getElem_toArray, List.getElem_cons_succ, List.getElem_cons_zero, Act.put, List.setIfInBounds_toArray, List.set_cons_zero, List.set_cons_succ]
 refine wpAnyH_take (i := 4) (v := ?_) rfl (by kernel_rfl) (by kernel_rfl) (by kernel_rfl) (fun _ _ _ h => h) (Or.inl ⟨by rfl, ?_⟩) (by assumption) ?_
 rotate_left
 · intro w hSw
   (try dsimp only at hSw)
   go_simp
   try with_reducible rfl
 try simp only [List.getElem_toArray, List.getElem_cons_succ, List.getElem_cons_zero, Act.put, List.setIfInBounds_toArray, List.set_cons_zero, List.set_cons_succ]
 refine wpAnyH_take (i := 5) (v := ?_) rfl (by kernel_rfl) (by kernel_rfl) (by kernel_rfl) (fun _ _ _ h => h) (Or.inl ⟨by rfl, ?_⟩) (by assumption) ?_
 rotate_left
 · intro w hSw
   (try dsimp only at hSw)
   go_simp
   try with_reducible rfl
 try simp only [List.getElem_toArray, List.getElem_cons_succ, List.getElem_cons_zero, Act.put, List.setIfInBounds_toArray, List.set_cons_zero, List.set_cons_succ]
 refine wpAnyH_ready (rs := [6]) (by kernel_rfl) (by simp) ?_
 refine AllReadyH.cons rfl (fun K hK => ?_) AllReadyH.nil
 go_simp
 go_at_call 45
 refine (HPD.out _ _).mono ?_
 rintro e w8 ⟨rfl, hb8, hv1, hv2⟩
 have z1 := kcR hb8 g1
 have z2 := kcR hb8 g2
 have z3 := kcR hb8 n0
 have z4 := kcR hb8 n1
 have hq8 := (hb8.block _ (row_lt Q5.out)).trans Q5.out
 go_wp2_with fail
 refine hK.out _ _ ?_ (fun hH1 => ?_)
 · exact ⟨z1, z2, z3, z4⟩
 clear hK K hH0
 try simp only [List.getElem_toArray, List.getElem_cons_succ, List.getElem_cons_zero, Act.put, List.setIfInBounds_toArray, List.set_cons_zero, List.set_cons_succ]
 refine wpAnyH_ready (rs := [7]) (by kernel_rfl) (by simp) ?_
 refine AllReadyH.cons rfl (fun K hK => ?_) AllReadyH.nil
 go_simp
 go_at_call 87
 refine (HN.out _ _ _ (Keeps.of_below (HB5D.out.trans (hb8.mono HB5D.out.size))) (HR5D.out.below hb8) ⟨hv1, by rw [← HDD.out]; exact hv2⟩).mono ?_
 rintro e w9 ⟨hy, rfl, hny, hrd9, hk9⟩
 have hrl := HLOW.out.rb
 have q9 := (hk9.block _ (row_lt hq8) (by omega)).trans hq8
 have y1 := (keeps_cell hk9 ⟨b1, 0, none⟩ (World.block_lt_of_cell? _ _ z1) HNE.out.1).trans z1
 have y2 := (keeps_cell hk9 ⟨b2, 0, none⟩ (World.block_lt_of_cell? _ _ z2) HNE.out.2).trans z2
 have y3 := (keeps_cell hk9 ⟨pb, 0, none⟩ (World.block_lt_of_cell? _ _ z3) (by have := HPB.out; show pb ≠ rb; omega)).trans z3
 have y4 := (keeps_cell hk9 ⟨pb, 1, none⟩ (World.block_lt_of_cell? _ _ z4) (by have := HPB.out; show pb ≠ rb; omega)).trans z4
 obtain ⟨c0, c1, c2, c3, c4, c5⟩ := cells6 q9
 have hfz := row_free q9
 go_wp2_with fail
 refine hK.out _ _ ?_ (fun hH2 => ?_)
 · exact ⟨y1, y2, y3, y4⟩
 clear hK K hH1
 try simp only [List.getElem_toArray, List.getElem_cons_succ, List.getElem_cons_zero, Act.put, List.setIfInBounds_toArray, List.set_cons_zero, List.set_cons_succ]
 refine wpAnyH_take (i := 8) (v := ?_) rfl (by kernel_rfl) (by kernel_rfl) (by kernel_rfl) (fun _ _ _ h => h) (Or.inl ⟨by rfl, ?_⟩) (by assumption) ?_
 rotate_left
 · intro w hSw
   (try dsimp only at hSw)
   go_simp
   try with_reducible rfl
 try simp only [List.getElem_toArray, List.getElem_cons_succ, List.getElem_cons_zero, Act.put, List.setIfInBounds_toArray, List.set_cons_zero, List.set_cons_succ]
 refine wpAnyH_take (i := 9) (v := ?_) rfl (by kernel_rfl) (by kernel_rfl) (by kernel_rfl) (fun _ _ _ h => h) (Or.inl ⟨by rfl, ?_⟩) (by assumption) ?_
 rotate_left
 · intro w hSw
   (try dsimp only at hSw)
   go_simp
   try with_reducible rfl
 try simp only [List.getElem_toArray, List.getElem_cons_succ, List.getElem_cons_zero, Act.put, List.setIfInBounds_toArray, List.set_cons_zero, List.set_cons_succ]
 have HK8 := (Keeps.of_below (b := rb) (HB5D.out.trans (hb8.mono HB5D.out.size)))
 obtain ⟨wf, hwf, hrw, hn5, hrd5, hk5⟩ := NdQ.laid HLOW.out HK8 ⟨by omega, row_lt hq8⟩ hq8 hny hrd9 hk9
 obtain ⟨wf2, hwf2, _, hkf⟩ := store6K q9 (.int .i64 n.kind) (.string n.data) (.slice hy.A n.ptrs.length hy.a) (.int .i64 n.size) (.int .i64 n.count) (.slice hy.B n.items.length hy.b)
 obtain rfl : wf2 = wf := hwf2.symm.trans hwf
 have v1 := (keeps_cell hkf ⟨b1, 0, none⟩ (World.block_lt_of_cell? _ _ y1) (by have := HB12.out.1; show b1 ≠ w.heap.size + 1; omega)).trans y1
 have v2 := (keeps_cell hkf ⟨b2, 0, none⟩ (World.block_lt_of_cell? _ _ y2) (by have := HB12.out.2; show b2 ≠ w.heap.size + 1; omega)).trans y2
 have v3 := (keeps_cell hkf ⟨pb, 0, none⟩ (World.block_lt_of_cell? _ _ y3) (by have := HPB.out; show pb ≠ w.heap.size + 1; omega)).trans y3
 have v4 := (keeps_cell hkf ⟨pb, 1, none⟩ (World.block_lt_of_cell? _ _ y4) (by have := HPB.out; show pb ≠ w.heap.size + 1; omega)).trans y4
 have HF := Lib.hid (And.intro hn5 (And.intro hrd5 hk5))
 have HRW := Lib.hid hrw
 have HWF := Lib.hid hwf
 clear hwf hwf2 hrw hn5 hrd5 hk5 HK8 hkf hny hrd9 hk9 hb8 hv1 hv2 hq8 q9 e1 e2 hrl
 refine wpAnyH_ready (rs := [10]) (by kernel_rfl) (by simp) ?_
 refine AllReadyH.cons rfl (fun K hK => ?_) AllReadyH.nil
 go_simp
 rw [HWF.out]
 refine hK.out _ _ ?_ (fun hH3 => ?_)
 · exact ⟨v1, v2, v3, v4⟩
 clear hK K hH2 y1 y2 y3 y4 v1 v2 v3 v4 c0 c1 c2 c3 c4 c5 hfz z1 z2 z3 z4 g1 g2 n0 n1
 refine wpAnyH_take (i := 11) (v := ?_) rfl (by kernel_rfl) (by kernel_rfl) (by kernel_rfl) (fun _ _ _ h => h) (Or.inl ⟨by rfl, ?_⟩) (by assumption) ?_
 rotate_left
 · intro w hSw
   (try dsimp only at hSw)
   go_simp
   try with_reducible rfl
 try simp only [List.getElem_toArray, List.getElem_cons_succ, List.getElem_cons_zero, Act.put, List.setIfInBounds_toArray, List.set_cons_zero, List.set_cons_succ]
 refine wpAnyH_done (by kernel_rfl) ?_ _
 clear hH3
 go_wp2
 obtain ⟨e0, e1, e2, e3, e4, e5⟩ := cells6 HRW.out
 exact bodyPost_ret (v := .tuple #[.agg #[.int .i64 n.kind, .string n.data, .slice hy.A n.ptrs.length hy.a, .int .i64 n.size, .int .i64 n.count, .slice hy.B n.items.length hy.b], .nilIface]) (by simp [results, Tryz.results84, go_sem, e0, e1, e2, e3, e4, e5]) rfl ⟨hy, rfl, HF.out⟩
def noneV : Nd := .mk 0 { data := #[] } [] 0 0 []
theorem noneV_form : formN noneV = true := by rfl
theorem none_is {n : Nd} (hf : formN n = true) (hk : n.kind = 0) : n = noneV := nothing_eq hf noneV_form hk rfl
theorem none_cost (d : Nat) : costN d noneV = 0 := by
 cases d with
 | zero => rfl
 | succ d => rw [cost_kids (none_words noneV_form rfl).1]; rfl
theorem ptG_ta (n : Nd) (off : Int) (w : World) : (Instr.typeAssert (ptI (ptG n off)) 91 129 true).run Tryz.prog w = .ok (.tuple #[.agg #[], .bool false]) w := by
 unfold ptG
 split
 · rw [ptI_1]; exact ta_str_noP _ w
 · rw [ptI_2]; exact ta_lis_noP _ w
theorem ptG_follow (rb : Nat) (n : Nd) (off s a : Int) (W : World) (h0 : -100000 ≤ a) (h1 : a ≤ 100000) (k0 : -100000 ≤ off) (k1 : off ≤ 100000) :
 Calls Tryz.prog 86 #[.pointer (some ⟨rb, 0, none⟩), ptI (ptG n off), plV s a] W fun e w' => e = .returned (.tuple #[ptI (ptG n off), plV s (a + (1 + off)), .nilIface]) ∧ Below W.heap.size W w' := by
 unfold ptG
 split
 · rw [ptI_1]; exact follow_s rb off _ _ s a h0 h1 k0 k1
 · rw [ptI_2]; exact follow_l rb off _ _ s a h0 h1 k0 k1
theorem ptG_far {w : World} {rb cap : Nat} {A : Option Addr} {zs : List ByteArray} {L : Int} (h : Rdr w rb A cap zs L) (n : Nd) (s a : Int) (j c : Nat) (hj : j < zs.length) (hc : 8 * c + 8 ≤ (zs[j]).size) (hx : RdW (((zs[j]).data.toList.drop (8 * c)).take 8) (ptG n 0)) :
 Calls Tryz.prog 86 #[.pointer (some ⟨rb, 0, none⟩), fiV c j, plV s a] w fun e w' => e = .returned (.tuple #[ptI (ptG n 0), plV j (c + (1 + 0)), .nilIface]) ∧ Below w.heap.size w w' := by
 by_cases hk : n.kind = 1
 · have e : ptI (ptG n 0) = siV 0 (n.data.size / 8 : Nat) (n.ptrs.length : Nat) := by unfold ptG; rw [if_pos hk, ptI_1]
   rw [e]
   exact followFar_s h 0 _ _ s a j c hj hc hx e (by decide) (by decide)
 · have e : ptI (ptG n 0) = liV 0 n.size (if n.size = 7 then (ownN n : Int) - 1 else n.count) := by unfold ptG; rw [if_neg hk, ptI_2]
   rw [e]
   exact followFar_l h 0 _ _ s a j c hj hc hx e (by decide) (by decide)
theorem at_word {w : World} {rb cap : Nat} {A : Option Addr} {zs : List ByteArray} {L : Int} (h : Rdr w rb A cap zs L) {i a : Nat} {t : List UInt8} {x : Int × Int × Int × Int × Int × Int × Int × Bool} (ht : HasT (sgz zs) i (8 * a) t) (hx : RdW t x) :
 ∃ hi : i < zs.length, 8 * a + 8 ≤ (zs[i]).size ∧ RdW (((zs[i]).data.toList.drop (8 * a)).take 8) x := by
 have h1 := ht.le (by have := hx.1; omega)
 have hi := sgz_lt (zs := zs) (j := i) (p := 8 * a) (by have := hx.1; omega)
 have h2 := has_word ht hx.1
 rw [sgz_get hi] at h1 h2
 rw [data_toList, hx.1] at h1
 exact ⟨hi, h1, by rw [h2]; exact hx⟩
theorem inC_all {rb cap : Nat} {A : Option Addr} {zs : List ByteArray} : ∀ d, d ≤ 8 → InC rb A cap zs d
 | 0, _ => fun n i a L W b1 b2 hok hw hr hc hL hR hbx => by
   have hn := none_is (ok_formN hok) hr.1
   subst hn
   obtain ⟨hi, h1, h2⟩ := at_word hR hr.2 rd_none
   have := closure_none hR hbx (2 * 0) i a (fun V hV => by have := pointerAt_a hV i a hi h1 h2; rwa [ptI_0] at this)
   rw [none_cost]
   rwa [show L - ((0 : Nat) : Int) = L by omega]
 | d + 1, hd => fun n i a L W b1 b2 hok hw hr hc hL hR hbx => by
   have fn := ok_formN hok
   have hsS : ∀ j, (sgS (sgz zs) j).length % 8 = 0 ∧ (sgS (sgz zs) j).length ≤ 1600 := fun j => by
    by_cases e : j < zs.length
    · rw [sgz_get e, data_toList]; have := hR.small _ (List.getElem_mem e); omega
    · rw [sgS_out (by unfold sgz; rw [List.length_map]; omega)]; simp
   have hz6 := hR.len
   have hIn := inC_all (rb := rb) (cap := cap) (A := A) (zs := zs) d (by omega)
   have hwk := words_kids hok
   have hpo : n.kind ≠ 0 → PtOk n := fun hk => pt_ok fn (by omega) hk
   have hnode : ∀ (off : Int) (j c : Nat), n.kind ≠ 0 → (hj : j < zs.length) → c + ownN n ≤ (zs[j]).size / 8 → FillR (RepN (sgz zs) d) (sgz zs) n j c → ∀ (V : World) (x y : Nat), Keeps W.heap.size rb W V → Rdr V rb A cap zs L → Bx V rb x y d → Calls Tryz.prog 87 #[.pointer (some ⟨rb, 0, none⟩), ptI (ptG n off), plV j c, .func (.func 84) #[] #[.pointer (some ⟨x, 0, none⟩), .pointer (some ⟨y, 0, none⟩)]] V (NdQ (2 * (d + 1)) rb A cap zs (L - (costN (d + 1) n : Nat)) n V) :=
    fun off j c hk hj hcz hf V x y hK hV hB => node_a hIn hV hB hok hw hk off j c hj hcz hf hL hc
   rcases hr with ⟨h0, h⟩ | ⟨h0, h1, h⟩ | ⟨h0, h1, j, c, h, hf⟩
   · have hn := none_is fn h0
     subst hn
     obtain ⟨hi, h1, h2⟩ := at_word hR h rd_none
     have := closure_none hR hbx (2 * (d + 1)) i a (fun V hV => by have := pointerAt_a hV i a hi h1 h2; rwa [ptI_0] at this)
     rw [none_cost]
     rwa [show L - ((0 : Nat) : Int) = L by omega]
   · have pn := hpo h0
     obtain ⟨off, hoff⟩ : ∃ off : Int, (if n.kind = 1 then -1 else 0) = off := ⟨_, rfl⟩
     rw [hoff] at h
     have hob : -1 ≤ off ∧ off ≤ 0 := by rw [← hoff]; split <;> omega
     obtain ⟨hi, g1, g2⟩ := at_word hR h (rd_ptr pn (by omega) (fun x => by rw [if_pos x.1] at hoff; omega))
     have hsi := hR.small _ (List.getElem_mem hi)
     obtain ⟨c, hcc⟩ : ∃ c : Nat, (c : Int) = (a : Int) + (1 + off) := ⟨((a : Int) + (1 + off)).toNat, by omega⟩
     refine closure_ptr hR hbx (by omega) n i a i c (ptI (ptG n off)) (ptI (ptG n off)) (fun V hV => pointerAt_a hV i a hi g1 g2) (ptG_ta n off) (fun V hV => ?_) (hnode off i c h0 hi (by omega) (fill_bare fn h1 i c))
     have := ptG_follow rb n off i a V (by omega) (by omega) (by omega) (by omega)
     rwa [← hcc] at this
   · have pn := hpo h0
     have hfi := fill_in (hsS j).1 fn hf h1
     have hle := fill_le fn hf h1
     have hjz := sgz_lt hle
     have hsj := hR.small _ (List.getElem_mem hjz)
     have hwnj : wn (sgS (sgz zs) j) = (zs[j]).size / 8 := by unfold wn; rw [sgz_get hjz, data_toList]
     rw [hwnj] at hfi
     rcases h with ⟨e, h⟩ | ⟨pad, e, h, h'⟩
     · subst e
       have hal := h.le (by rw [ptrW_length]; omega)
       rw [ptrW_length] at hal
       have hl2 := (hsS j).2
       obtain ⟨hi, g1, g2⟩ := at_word hR h (rd_ptr pn (by omega) (fun x => by rw [(own_plain fn (by omega)).1] at h1; unfold ownB at h1; rcases form_cases fn with q | q | q <;> omega))
       refine closure_ptr hR hbx (by omega) n j a j c (ptI (ptG n ((c : Int) - a - 1))) (ptI (ptG n ((c : Int) - a - 1))) (fun V hV => pointerAt_a hV j a hi g1 g2) (ptG_ta n _) (fun V hV => ?_) (hnode _ j c h0 hjz hfi hf)
       have := ptG_follow rb n ((c : Int) - a - 1) j a V (by omega) (by omega) (by omega) (by omega)
       rwa [show (a : Int) + (1 + ((c : Int) - a - 1)) = c by omega] at this
     · have hl2 := (hsS j).2
       obtain ⟨hi, g1, g2⟩ := at_word hR h (rd_far (pad := pad) (j := j) (by omega) (by omega))
       obtain ⟨hj', g3, g4⟩ := at_word hR h' (rd_ptr pn (by omega) (fun x => by rw [(own_plain fn (by omega)).1] at h1; unfold ownB at h1; rcases form_cases fn with q | q | q <;> omega))
       have hsi := hR.small _ (List.getElem_mem hi)
       refine closure_ptr hR hbx (by omega) n i a j c (fiV pad j) (ptI (ptG n 0)) (fun V hV => by have := pointerAt_a hV i a hi g1 g2; rwa [ptI_3] at this) (ta_far_noP _) (fun V hV => ?_) (hnode 0 j c h0 hjz hfi hf)
       have := ptG_far hV n i a j pad hj' g3 g4
       rwa [show (pad : Int) + (1 + 0) = (c : Int) by omega] at this
end Go.Proofs.YtlbfffokkhccaaaGreatDoor
