/- Texts of the proof of the law FnSend, side by side: part 30. -/
import Derived.Test.YtlbfffokkhccaaaGreatDoorMSend29
set_option maxHeartbeats 8000000
set_option maxRecDepth 100000
namespace Go.Proofs.YtlbfffokkhccaaaGreatDoor
open Go.RowKit Go.Deep
theorem undrew {w w' : World} (h : Below w.drew.heap.size w.drew w') : Below w.heap.size w w' := ⟨h.os, h.tape, h.output, h.size, h.block⟩
theorem other_facts {size : Nat} {ss s1 : Segs} {k j : Nat} (h1 : 1 ≤ ss.length) (hw : WdS ss) (h6 : ss.length ≤ 6) (h : otherP size ss k = some (s1, j)) : j < s1.length ∧ WdS s1 ∧ s1.length ≤ 6 ∧ totS s1 = totS ss ∧ ss.length ≤ s1.length ∧ ∀ i, i < ss.length → sgS s1 i = sgS ss i := by
 unfold otherP at h
 split at h
 · rename_i hf
   injection h with h
   injection h with h1 h2
   subst h1 h2
   exact ⟨by omega, hw, h6, rfl, Nat.le_refl _, fun _ _ => rfl⟩
 · split at h
   · injection h with h
     injection h with h1 h2
     subst h1 h2
     refine ⟨by simp, app_wds hw, by simp; omega, by rw [totS_app]; rfl, by simp, fun i hi => ?_⟩
     rw [sgS_app, if_neg (by omega)]
   · cases h
theorem room_there (base b size : Nat) (ss : Segs) (P : Nat → Prop) (w : World) (h : Bun w base b size ss P) (hP0 : ∀ k, P k → base ≤ k ∧ k < w.heap.size) (hw8 : WdS ss) (i a : Nat) (hi : i < ss.length) (ha : a < wn (sgS ss i)) (ht : totS ss ≤ 200) (hz : size ≤ 200)
 (m : Nat) (n : Nd) (h1 : Hd) (hn : NdAt w (fun k => k < base) m n h1) (hf : formN n = true) (hm : totN m n ≤ 2000000) (ho : ownN n ≤ 300) (hk : n.kind ≠ 0) (hfit : ¬ wn (sgS ss i) + ownN n ≤ size) (h1l : 1 ≤ ss.length) (h6l : ss.length ≤ 6) :
 Calls Tryz.prog 72 #[.pointer (some ⟨b, 0, none⟩), .agg #[.int .i64 n.kind, .string n.data, .slice h1.A n.ptrs.length h1.a, .int .i64 n.size, .int .i64 n.count, .slice h1.B n.items.length h1.b], .agg #[.int .i64 (i : Int), .int .i64 (a : Int)]] w (RoomQ base b size P w (roomP 200 size n ss i a)) := by
 obtain ⟨qA, qa, qB, qb⟩ := h1
 dsimp only at hn ⊢
 have hwi := wn_le_totS ss i
 have hF : fitS size ss i (ownN n) = false := by unfold fitS; exact decide_eq_false hfit
 have HE : Hid (roomP 200 size n ss i a = match otherP size ss (1 + ownN n) with
  | none => none
  | some (s1, j) => if totS s1 + (1 + ownN n) ≤ 200 then some (putS (putS (growB s1 j (1 + ownN n)) i a (farW (wn (sgS s1 j)) j)) j (wn (sgS s1 j)) (ptrW n 0), j, wn (sgS s1 j) + 1) else none) := Lib.hid (by unfold roomP; rw [if_neg hfit]; rfl)
 have hb0 : Below w.heap.size w (((w.alloc (.cells #[.int .i64 n.kind, .string n.data, .slice qA n.ptrs.length qa, .int .i64 n.size, .int .i64 n.count, .slice qB n.items.length qb] nodeT)).alloc (.cells #[.int .i64 (i : Int), .int .i64 (a : Int)] plT)).alloc (.cells #[.int .i64 0, .int .i64 0] plT)) := (((Below.refl _ w).alloc (Nat.le_refl _) _).alloc (by simp) _).alloc (by simp; omega) _
 have r0 : (((w.alloc (.cells #[.int .i64 n.kind, .string n.data, .slice qA n.ptrs.length qa, .int .i64 n.size, .int .i64 n.count, .slice qB n.items.length qb] nodeT)).alloc (.cells #[.int .i64 (i : Int), .int .i64 (a : Int)] plT)).alloc (.cells #[.int .i64 0, .int .i64 0] plT)).heap[w.heap.size]? = some (.cells #[.int .i64 n.kind, .string n.data, .slice qA n.ptrs.length qa, .int .i64 n.size, .int .i64 n.count, .slice qB n.items.length qb] nodeT (0, 0)) := heap_alloc_keep (heap_alloc_keep (heap_alloc_new w _) _) _
 have r1 : (((w.alloc (.cells #[.int .i64 n.kind, .string n.data, .slice qA n.ptrs.length qa, .int .i64 n.size, .int .i64 n.count, .slice qB n.items.length qb] nodeT)).alloc (.cells #[.int .i64 (i : Int), .int .i64 (a : Int)] plT)).alloc (.cells #[.int .i64 0, .int .i64 0] plT)).heap[w.heap.size + 1]? = some (.cells #[.int .i64 (i : Int), .int .i64 (a : Int)] plT (0, 0)) := by
  have := heap_alloc_keep (heap_alloc_new (w.alloc (.cells #[.int .i64 n.kind, .string n.data, .slice qA n.ptrs.length qa, .int .i64 n.size, .int .i64 n.count, .slice qB n.items.length qb] nodeT)) (.cells #[.int .i64 (i : Int), .int .i64 (a : Int)] plT)) (.cells #[.int .i64 0, .int .i64 0] plT)
  simpa using this
 have r2 : (((w.alloc (.cells #[.int .i64 n.kind, .string n.data, .slice qA n.ptrs.length qa, .int .i64 n.size, .int .i64 n.count, .slice qB n.items.length qb] nodeT)).alloc (.cells #[.int .i64 (i : Int), .int .i64 (a : Int)] plT)).alloc (.cells #[.int .i64 0, .int .i64 0] plT)).heap[w.heap.size + 2]? = some (.cells #[.int .i64 0, .int .i64 0] plT (0, 0)) := by
  have := heap_alloc_new ((w.alloc (.cells #[.int .i64 n.kind, .string n.data, .slice qA n.ptrs.length qa, .int .i64 n.size, .int .i64 n.count, .slice qB n.items.length qb] nodeT)).alloc (.cells #[.int .i64 (i : Int), .int .i64 (a : Int)] plT)) (.cells #[.int .i64 0, .int .i64 0] plT)
  simpa using this
 have hs0 : (((w.alloc (.cells #[.int .i64 n.kind, .string n.data, .slice qA n.ptrs.length qa, .int .i64 n.size, .int .i64 n.count, .slice qB n.items.length qb] nodeT)).alloc (.cells #[.int .i64 (i : Int), .int .i64 (a : Int)] plT)).alloc (.cells #[.int .i64 0, .int .i64 0] plT)).heap.size = w.heap.size + 3 := by simp
 have HN := Lib.hid hn
 have HH := Lib.hid h
 have HB0 := Lib.hid hb0
 have R0 := Lib.hid r0
 have R1 := Lib.hid r1
 have R2 := Lib.hid r2
 have HP0 := Lib.hid hP0
 have HS0 := Lib.hid hs0
 clear hn h hb0 r0 r1 r2 hP0 hs0 hfit
 go_enter Tryz.func72, Tryz.ntmps72
 go_wp2_with fail
 generalize ((w.alloc (.cells #[.int .i64 n.kind, .string n.data, .slice qA n.ptrs.length qa, .int .i64 n.size, .int .i64 n.count, .slice qB n.items.length qb] nodeT)).alloc (.cells #[.int .i64 (i : Int), .int .i64 (a : Int)] plT)).alloc (.cells #[.int .i64 0, .int .i64 0] plT) = W0 at *
 refine (ownWords_a m n ⟨qA, qa, qB, qb⟩ W0 _ (HN.out.below HB0.out) hf hm).mono ?_
 rintro e w1 ⟨rfl, hb1⟩
 have HB1 := Lib.hid hb1
 have HC0 := Lib.hid ((hb1.block _ (by have := HS0.out; omega)).trans R0.out)
 have HC1 := Lib.hid ((hb1.block _ (by have := HS0.out; omega)).trans R1.out)
 have HC2 := Lib.hid ((hb1.block _ (by have := HS0.out; omega)).trans R2.out)
 obtain ⟨d0, d1⟩ := cell_pair HC1.out
 clear hb1
 go_wp2_with fail
 refine (fits_any base b size ss P w1 (HH.out.low (HB0.out.trans (HB1.out.mono HB0.out.size))) i (ownN n) hi (by omega) (by omega) (by omega)).mono ?_
 rw [hF]
 rintro e w2 ⟨rfl, hb2⟩
 have HB2 := Lib.hid ((HB0.out.trans (HB1.out.mono HB0.out.size)).trans (hb2.mono (Nat.le_trans HB0.out.size HB1.out.size)))
 have hs2 : w.heap.size + 3 ≤ w2.heap.size := by have := HS0.out; have := HB1.out.size; have := hb2.size; omega
 have HC0' := Lib.hid ((hb2.block _ (row_lt HC0.out)).trans HC0.out)
 have HC1' := Lib.hid ((hb2.block _ (row_lt HC1.out)).trans HC1.out)
 have HC2' := Lib.hid ((hb2.block _ (row_lt HC2.out)).trans HC2.out)
 clear hb2 d0 d1 HC0 HC1 HC2 R0 R1 R2 hF
 obtain ⟨d0, d1⟩ := cell_pair HC1'.out
 have HB := Lib.hid (HH.out.low HB2.out)
 have hbb : base ≤ w.heap.size := by obtain ⟨_, _, _, hX, _⟩ := HH.out; have := (hX.lt b (.inl rfl)); omega
 have hwi0 := wn_le_totS ss
 have he1 : ((1 + ownN n : Nat) : Int) = 1 + (ownN n : Int) := by omega
 have HOT := Lib.hid (other_any base b size ss P w2 HB.out (1 + ownN n) h1l h6l (by omega) (by omega) (by omega))
 rw [he1] at HOT
 go_wp2_with fail
 refine HOT.out.mono ?_
 rintro e w3 (⟨hnone, rfl, hk3⟩ | ⟨s1, j, hsome, rfl, hk3, hB3⟩)
 · have HE2 : Hid (roomP 200 size n ss i a = none) := Lib.hid (by rw [HE.out, hnone])
   have HK3 := Lib.hid hk3
   clear hk3 hnone
   go_wp2
   exact ⟨rfl, .inl ⟨HE2.out, rfl, (KP.of_below HB2.out).trans HK3.out (fun _ _ h => h)⟩⟩
 · obtain ⟨hj, hw1, hl1, ht1, hi1, hg1⟩ := other_facts h1l hw8 h6l hsome
   have HE1 : Hid (roomP 200 size n ss i a = if totS s1 + (1 + ownN n) ≤ 200 then some (putS (putS (growB s1 j (1 + ownN n)) i a (farW (wn (sgS s1 j)) j)) j (wn (sgS s1 j)) (ptrW n 0), j, wn (sgS s1 j) + 1) else none) := Lib.hid (by rw [HE.out, hsome])
   have hs3 := hk3.size
   have HK3 := Lib.hid hk3
   have HT3 := Lib.hid hB3.tight
   have HD0 := Lib.hid (hk3.row HC0'.out (fun hp => by have := HP0.out _ hp; omega))
   have HD1 := Lib.hid (hk3.row HC1'.out (fun hp => by have := HP0.out _ hp; omega))
   have HD2 := Lib.hid (hk3.row HC2'.out (fun hp => by have := HP0.out _ hp; omega))
   have hai : a < wn (sgS s1 i) := by rw [hg1 i hi]; exact ha
   have hii : i < s1.length := by omega
   have HTT := Lib.hid ht1
   clear hk3 hB3 hsome d0 d1 HOT HC0' HC1' HC2'
   by_cases ht2 : totS s1 + (1 + ownN n) ≤ 200
   · have HE2 : Hid (roomP 200 size n ss i a = some (putS (putS (growB s1 j (1 + ownN n)) i a (farW (wn (sgS s1 j)) j)) j (wn (sgS s1 j)) (ptrW n 0), j, wn (sgS s1 j) + 1)) := Lib.hid (by rw [HE1.out, if_pos ht2])
     have HG := Lib.hid (grow_more base b size s1 _ w3 HT3.out hw1 j (1 + ownN n) hj ht2)
     rw [he1] at HG
     have hcw := wn_le_totS s1 j
     go_wp2_with fail
     refine HG.out.mono ?_
     rintro e w4 ⟨rfl, hk4, hB4⟩
     obtain ⟨c, hc⟩ : ∃ c, wn (sgS s1 j) = c := ⟨_, rfl⟩
     rw [hc] at HE2 hcw
     rw [hc]
     have hs4 := hk4.size
     have HK4 := Lib.hid hk4
     have HT4 := Lib.hid hB4.tight
     have HNP3 : Hid (∀ x, w.heap.size ≤ x ∧ x < w.heap.size + 3 → ¬ ((P x ∨ w2.heap.size ≤ x) ∧ base ≤ x ∧ x < w3.heap.size)) := Lib.hid (fun x hx hp => by
      rcases hp.1 with h | h
      · have := HP0.out x h; omega
      · omega)
     have HNP : Hid (∀ x, (w.heap.size ≤ x ∧ x < w.heap.size + 3) ∨ x = w4.heap.size → ¬ ((((P x ∨ w2.heap.size ≤ x) ∧ base ≤ x ∧ x < w3.heap.size) ∨ w3.heap.size ≤ x) ∧ base ≤ x ∧ x < w4.heap.size)) := Lib.hid (fun x hx hp => by
      rcases hx with hx | hx
      · rcases hp.1 with h | h
        · exact HNP3.out x hx h
        · omega
      · omega)
     have HF0 := Lib.hid (hk4.row HD0.out (HNP3.out _ (by omega)))
     have HF1 := Lib.hid (hk4.row HD1.out (HNP3.out _ (by omega)))
     have HF2 := Lib.hid (hk4.row HD2.out (HNP3.out _ (by omega)))
     have hb5 : Below w4.heap.size w4 (w4.alloc (.cells #[.int .i64 (j : Int), .int .i64 (c : Int)] plT)) := (Below.refl _ _).alloc (Nat.le_refl _) _
     have g0 := (hb5.block _ (row_lt HF0.out)).trans HF0.out
     have g1 := (hb5.block _ (row_lt HF1.out)).trans HF1.out
     have g2 := (hb5.block _ (row_lt HF2.out)).trans HF2.out
     have g3 := heap_alloc_new w4 (.cells #[.int .i64 (j : Int), .int .i64 (c : Int)] plT)
     obtain ⟨t0, t1⟩ := cell_pair g1
     obtain ⟨u0, u1⟩ := cell_pair g3
     have HT5 := Lib.hid (HT4.out.low hb5)
     have HB5 := Lib.hid hb5
     have G0 := Lib.hid g0
     have G2 := Lib.hid g2
     have G3 := Lib.hid g3
     have HSET := Lib.hid (set_far base b size (growB s1 j (1 + ownN n)) _ _ HT5.out (grow_wds hj hw1) i a (by rw [growB_length]; exact hii) (Nat.lt_of_lt_of_le hai ((grow_grew hj).wn i)) (by rw [grow_totS hj]; omega) (c : Int) (j : Int) (by omega) (by omega) (by omega) (by omega))
     have HFW : Hid (w8 ((c : Int) * 8 + 2) (j : Int) = farW c j) := Lib.hid rfl
     rw [HFW.out] at HSET
     clear hk4 hB4 hb5 g0 g1 g2 g3 HG
     go_wp2_with fail
     refine HSET.out.mono ?_
     rintro e w6 ⟨rfl, hk6, hB6⟩
     have hs6 := hk6.size
     have HK6 := Lib.hid hk6
     have HB6 := Lib.hid hB6
     have J0 := Lib.hid (hk6.row G0.out (HNP.out _ (.inl (by omega))))
     have J2 := Lib.hid (hk6.row G2.out (HNP.out _ (.inl (by omega))))
     have J3 := Lib.hid (hk6.row G3.out (HNP.out _ (.inr rfl)))
     have HKW := Lib.hid ((((KP.of_below HB2.out).trans HK3.out (fun _ _ h => h) : KP P w w3).trans HK4.out (fun k hk h => by
      rcases h.1 with h | h
      · exact h
      · omega)).trans ((KP.of_below HB5.out).trans hk6 (fun _ _ h => h)) (fun k hk h => by
      rcases h.1 with h | h
      · rcases h.1 with h | h
        · exact h
        · omega
      · omega))
     have HN6 := Lib.hid (nd_base HN.out (HKW.out.below hbb (fun k hp => (HP0.out k hp).1)))
     obtain ⟨n0, n1, n2, n3, n4, n5⟩ := cells6 J0.out
     replace n0 : w6.drew.cell? ⟨w.heap.size, 0, none⟩ = some (.int .i64 n.kind) := n0
     replace n1 : w6.drew.cell? ⟨w.heap.size, 1, none⟩ = some (.string n.data) := n1
     replace n2 : w6.drew.cell? ⟨w.heap.size, 2, none⟩ = some (.slice qA n.ptrs.length qa) := n2
     replace n3 : w6.drew.cell? ⟨w.heap.size, 3, none⟩ = some (.int .i64 n.size) := n3
     replace n4 : w6.drew.cell? ⟨w.heap.size, 4, none⟩ = some (.int .i64 n.count) := n4
     replace n5 : w6.drew.cell? ⟨w.heap.size, 5, none⟩ = some (.slice qB n.items.length qb) := n5
     clear u0 u1 t0 t1
     obtain ⟨u0, u1⟩ := cell_pair J3.out
     replace u0 : w6.drew.cell? ⟨w4.heap.size, 0, none⟩ = some (.int .i64 (j : Int)) := u0
     replace u1 : w6.drew.cell? ⟨w4.heap.size, 1, none⟩ = some (.int .i64 (c : Int)) := u1
     have hal := put_alen (ss := growB s1 j (1 + ownN n)) (i := i) (a := a) (t := farW c j) (by rw [growB_length]; exact hii) (by rw [farW_length]; have h1 := Nat.lt_of_lt_of_le hai ((grow_grew (k := 1 + ownN n) hj).wn i); have h2 := wds_len (grow_wds (k := 1 + ownN n) hj hw1) i; omega)
     have HAL := Lib.hid hal
     have hcc : c < wn (sgS (putS (growB s1 j (1 + ownN n)) i a (farW c j)) j) := by
      have h1 := wn_grow (k := 1 + ownN n) hj
      have h2 : wn (sgS (putS (growB s1 j (1 + ownN n)) i a (farW c j)) j) = wn (sgS (growB s1 j (1 + ownN n)) j) := by unfold wn; rw [← hal.2 j]
      omega
     have HWD := Lib.hid (hal.wds (grow_wds hj hw1))
     have htot : totS (putS (growB s1 j (1 + ownN n)) i a (farW c j)) ≤ 100000 := by rw [← alen_totS hal, grow_totS hj]; omega
     have hjl : j < (putS (growB s1 j (1 + ownN n)) i a (farW c j)).length := by rw [putS_length, growB_length]; exact hj
     clear hk6 hal hB6
     go_wp2_with fail
     go_region_held3 (fun V => (V.cell? ⟨w.heap.size, 0, none⟩ = some (.int .i64 n.kind) ∧ V.cell? ⟨w.heap.size, 1, none⟩ = some (.string n.data) ∧ V.cell? ⟨w.heap.size, 2, none⟩ = some (.slice qA n.ptrs.length qa) ∧ V.cell? ⟨w.heap.size, 3, none⟩ = some (.int .i64 n.size) ∧ V.cell? ⟨w.heap.size, 4, none⟩ = some (.int .i64 n.count) ∧ V.cell? ⟨w.heap.size, 5, none⟩ = some (.slice qB n.items.length qb)) ∧ (V.cell? ⟨w4.heap.size, 0, none⟩ = some (.int .i64 (j : Int)) ∧ V.cell? ⟨w4.heap.size, 1, none⟩ = some (.int .i64 (c : Int)))) (((first | exact ⟨⟨n0, n1, n2, n3, n4, n5⟩, ⟨u0, u1⟩⟩ | exact ⟨⟨kcw hb7 n0, kcw hb7 n1, kcw hb7 n2, kcw hb7 n3, kcw hb7 n4, kcw hb7 n5⟩, ⟨kcw hb7 u0, kcw hb7 u1⟩⟩ | exact ⟨⟨hk8c (kcw hb7 n0) (by simp), hk8c (kcw hb7 n1) (by simp), hk8c (kcw hb7 n2) (by simp), hk8c (kcw hb7 n3) (by simp), hk8c (kcw hb7 n4) (by simp), hk8c (kcw hb7 n5) (by simp)⟩, ⟨hk8c (kcw hb7 u0) (by simp), hk8c (kcw hb7 u1) (by simp)⟩⟩))) (first | (go_at_call 74; (with_reducible refine (pointerTo_any m n ⟨qA, qa, qB, qb⟩ _ _ _ (nd_base HN6.out (by exact ⟨rfl, rfl, rfl, Nat.le_refl _, fun _ _ => rfl⟩)) hf hm ho hk).mono ?_); rintro e w7 ⟨rfl, hb7⟩) | (go_at_call 73; (with_reducible refine (set_node base b size (putS (growB s1 j (1 + ownN n)) i a (farW c j)) _ w7 (HB6.out.low (w' := w7) (undrew hb7)) HWD.out j c hjl hcc htot n hf ho hk _ (by omega) (by omega)).mono ?_); rintro e w8 ⟨rfl, hk8, hB8⟩; have hk8c := fun {q : Addr} {u : Value} (hq : w7.cell? q = some u) (hp : (w.heap.size ≤ q.block ∧ q.block < w.heap.size + 3) ∨ q.block = w4.heap.size) => kp_cell hk8 hq (HNP.out _ hp)))
     have hs7 := hb7.size
     have hs7' : w6.heap.size ≤ w7.heap.size := hs7
     have hk68 := (KP.of_below (undrew hb7) : KP (fun k => (((P k ∨ w2.heap.size ≤ k) ∧ base ≤ k ∧ k < w3.heap.size) ∨ w3.heap.size ≤ k) ∧ base ≤ k ∧ k < w4.heap.size) w6 w7).trans hk8 (fun _ _ h => h)
     have hj2 := hk68.row J2.out (HNP.out (w.heap.size + 2) (.inl (by omega)))
     have y0 := hk8c (kcw hb7 u0) (.inr rfl)
     have y1 := hk8c (kcw hb7 u1) (.inr rfl)
     have HK8 := Lib.hid hk68
     have HB8 := Lib.hid hB8
     have HJ2 := Lib.hid hj2
     have hbeh := fun W => behind_any j c 1 W (by omega) (by omega)
     obtain ⟨C, hC⟩ : ∃ C : Int, ((c + 1 : Nat) : Int) = C := ⟨_, rfl⟩
     rw [hC] at hbeh
     have HC := Lib.hid hC
     have HBEH := Lib.hid hbeh
     clear hbeh hC n0 n1 n2 n3 n4 n5 u0 u1 hk8 hB8 hb7 hj2 hk8c hk68 hs7
     go_wp2_with fail
     refine (HBEH.out _).mono ?_
     rintro e w9 ⟨rfl, hb9⟩
     have HB9 := Lib.hid hb9
     have hr9 := (hb9.block _ (row_lt HJ2.out)).trans HJ2.out
     obtain ⟨x0, x1⟩ := cell_pair hr9
     have xf0 := row_free hr9 0
     have xf1 := row_free hr9 1
     have HR9 := Lib.hid hr9
     have hs9 := hb9.size
     have hs8 := HK8.out.size
     clear hb9 hr9 y0 y1
     go_wp2_with fail
     have hrow := row_setN (row_setN HR9.out 0 (.int .i64 (j : Int))) 1 (.int .i64 C)
     obtain ⟨e0, e1⟩ := cell_pair hrow
     refine bodyPost_ret (v := .agg #[.int .i64 (j : Int), .int .i64 C]) (by simp [results, Tryz.results72, go_sem, e0, e1]) rfl (.inr ⟨_, _, _, HE2.out, by rw [HC.out], ?_, ?_⟩)
     · have k1 := HKW.out.trans HK8.out (fun k hk h => by
        rcases h.1 with h | h
        · rcases h.1 with h | h
          · exact h
          · omega
        · omega)
       have k2 := k1.trans (KP.of_below HB9.out : KP P w8 w9) (fun _ _ h => h)
       exact k2.trans (Q := fun k => w.heap.size ≤ k) ((KP.set (by show w.heap.size ≤ w.heap.size + 2; omega) _ 0 _).trans (KP.set (by show w.heap.size ≤ w.heap.size + 2; omega) _ 1 _) (fun _ _ h => h)) (fun k h1 h2 => by omega)
     · have b1 := (HB8.out.low HB9.out).weak (Q := fun k => P k ∨ w.heap.size ≤ k) (fun k h => by
        rcases h.1 with h | h
        · exact h.1.imp id (fun h => by omega)
        · exact .inr (by omega))
       exact (b1.other HR9.out (by decide) 0 _).other (row_setN HR9.out 0 _) (by decide) 1 _
   · have HE2 : Hid (roomP 200 size n ss i a = none) := Lib.hid (by rw [HE1.out, if_neg ht2])
     have HG := Lib.hid (grow_much base b size s1 _ w3 HT3.out j (1 + ownN n) (by omega) (by omega) (by omega))
     rw [he1] at HG
     go_wp2_with fail
     refine HG.out.mono ?_
     rintro e w4 ⟨rfl, hk4⟩
     have HK4 := Lib.hid hk4
     clear hk4
     go_wp2
     exact ⟨rfl, .inl ⟨HE2.out, rfl, ((KP.of_below HB2.out).trans HK3.out (fun _ _ h => h)).trans HK4.out (fun k hk h => by
      rcases h.1 with h | h
      · exact h
      · omega)⟩⟩
end Go.Proofs.YtlbfffokkhccaaaGreatDoor
