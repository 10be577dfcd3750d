/- Texts of the proof of the law FnSend, side by side: part 33. -/
import Derived.Test.YtlbfffokkhccaaaGreatDoorMSend32
set_option maxHeartbeats 8000000
set_option maxRecDepth 100000
namespace Go.Proofs.YtlbfffokkhccaaaGreatDoor
open Go.RowKit Go.Deep
theorem room_anyB (base b size : Nat) (ss : Segs) (P : Nat → Prop) (w : World) (h : Bun w base b size ss P) (hP0 : ∀ k, P k → base ≤ k ∧ k < w.heap.size) (hk : SOk 200 ss) (i a : Nat) (hi : i < ss.length) (ha : a < wn (sgS ss i)) (hz : size ≤ 200)
 (m : Nat) (n : Nd) (h1 : Hd) (hn : NdAt w (fun k => k < base) m n h1) (hf : formN n = true) (hm : totN m n ≤ 2000000) (ho : ownN n ≤ 300) (hk0 : n.kind ≠ 0) :
 Calls Tryz.prog 72 #[.pointer (some ⟨b, 0, none⟩), .agg #[.int .i64 n.kind, .string n.data, .slice h1.A n.ptrs.length h1.a, .int .i64 n.size, .int .i64 n.count, .slice h1.B n.items.length h1.b], .agg #[.int .i64 (i : Int), .int .i64 (a : Int)]] w (RoomQ base b size P w (roomP 200 size n ss i a)) := by
 by_cases hfit : wn (sgS ss i) + ownN n ≤ size
 · exact room_here base b size ss P w h hP0 hk.wds i a hi ha hk.totS hz m n h1 hn hf hm ho hk0 hfit
 · exact room_there base b size ss P w h hP0 hk.wds i a hi ha hk.totS hz m n h1 hn hf hm ho hk0 hfit hk.one hk.six
theorem fill_any (size d : Nat) (IH : WrD size d) (base b : Nat) (ss : Segs) (P : Nat → Prop) (w : World) (i a m : Nat) (n : Nd) (h1 : Hd) (h : Bun w base b size ss P) (hP0 : ∀ k, P k → base ≤ k ∧ k < w.heap.size) (hk : SOk 200 ss) (hi : i < ss.length) (ha : a + ownN n ≤ wn (sgS ss i)) (hw1 : 1 ≤ ownN n)
 (hn : NdAt w (fun k => k < base) m n h1) (hf : formN n = true) (ho : ∀ p ∈ ptrsL n, okN d p = true) (hm : totN m n ≤ 2000000) (hws : ((ptrsL n).map (wordsN d)).sum ≤ 300) :
 Calls Tryz.prog 71 #[.pointer (some ⟨b, 0, none⟩), .agg #[.int .i64 n.kind, .string n.data, .slice h1.A n.ptrs.length h1.a, .int .i64 n.size, .int .i64 n.count, .slice h1.B n.items.length h1.b], .agg #[.int .i64 (i : Int), .int .i64 (a : Int)]] w (WrQ base b size P w (fillP (wrP 200 size d) n ss i a)) := by
 by_cases hmany : n.kind = 2 ∧ n.size = 7
 · exact fill_many size d IH base b ss P w i a m n h1 h hP0 hk hi ha hw1 hn hf ho hm hws hmany
 · exact fill_plain size d IH base b ss P w i a m n h1 h hP0 hk hi ha hw1 hn hf ho hm hws hmany
theorem write_none (size d : Nat) (base b : Nat) (ss : Segs) (P : Nat → Prop) (w : World) (i a m : Nat) (n : Nd) (h1 : Hd) (h : Bun w base b size ss P) (hP0 : ∀ k, P k → base ≤ k ∧ k < w.heap.size) (hk : SOk 200 ss) (hi : i < ss.length) (ha : a < wn (sgS ss i))
 (hn : NdAt w (fun k => k < base) m n h1) (hok : okN d n = true) (hm : totN m n ≤ 2000000) (hws : wordsN d n ≤ 300) (hk0 : n.kind = 0) :
 Calls Tryz.prog 34 #[.pointer (some ⟨b, 0, none⟩), .agg #[.int .i64 n.kind, .string n.data, .slice h1.A n.ptrs.length h1.a, .int .i64 n.size, .int .i64 n.count, .slice h1.B n.items.length h1.b], .agg #[.int .i64 (i : Int), .int .i64 (a : Int)]] w (WrQ base b size P w (wrP 200 size d n ss i a)) := by
 obtain ⟨qA, qa, qB, qb⟩ := h1
 dsimp only at hn ⊢
 have hf := ok_formN hok
 have hwi := wn_le_totS ss i
 have hto := hk.totS
 have hb0 : Below w.heap.size w ((w.alloc (.cells #[.int .i64 n.kind, .string n.data, .slice qA n.ptrs.length qa, .int .i64 n.size, .int .i64 n.count, .slice qB n.items.length qb] nodeT)).alloc (.cells #[.int .i64 (i : Int), .int .i64 (a : Int)] plT)) := ((Below.refl _ w).alloc (Nat.le_refl _) _).alloc (by simp) _
 have r0 : ((w.alloc (.cells #[.int .i64 n.kind, .string n.data, .slice qA n.ptrs.length qa, .int .i64 n.size, .int .i64 n.count, .slice qB n.items.length qb] nodeT)).alloc (.cells #[.int .i64 (i : Int), .int .i64 (a : Int)] plT)).heap[w.heap.size]? = some (.cells #[.int .i64 n.kind, .string n.data, .slice qA n.ptrs.length qa, .int .i64 n.size, .int .i64 n.count, .slice qB n.items.length qb] nodeT (0, 0)) := heap_alloc_keep (heap_alloc_new w _) _
 have r1 : ((w.alloc (.cells #[.int .i64 n.kind, .string n.data, .slice qA n.ptrs.length qa, .int .i64 n.size, .int .i64 n.count, .slice qB n.items.length qb] nodeT)).alloc (.cells #[.int .i64 (i : Int), .int .i64 (a : Int)] plT)).heap[w.heap.size + 1]? = some (.cells #[.int .i64 (i : Int), .int .i64 (a : Int)] plT (0, 0)) := by
  have := heap_alloc_new (w.alloc (.cells #[.int .i64 n.kind, .string n.data, .slice qA n.ptrs.length qa, .int .i64 n.size, .int .i64 n.count, .slice qB n.items.length qb] nodeT)) (.cells #[.int .i64 (i : Int), .int .i64 (a : Int)] plT)
  simpa using this
 have hs0 : ((w.alloc (.cells #[.int .i64 n.kind, .string n.data, .slice qA n.ptrs.length qa, .int .i64 n.size, .int .i64 n.count, .slice qB n.items.length qb] nodeT)).alloc (.cells #[.int .i64 (i : Int), .int .i64 (a : Int)] plT)).heap.size = w.heap.size + 2 := by simp
 have hbb : base ≤ w.heap.size := by obtain ⟨_, _, _, hX, _⟩ := h; have := (hX.lt b (.inl rfl)); omega
 have HH := Lib.hid h
 have HN := Lib.hid hn
 have HB0 := Lib.hid hb0
 have R0 := Lib.hid r0
 have R1 := Lib.hid r1
 have HP0 := Lib.hid hP0
 have HS0 := Lib.hid hs0
 have hkb : (n.kind == 0) = true := by rw [hk0]; rfl
 have HE : Hid (wrP 200 size d n ss i a = some ss) := Lib.hid (by cases d <;> simp [wrP, hk0])
 clear hn h hb0 r0 r1 hP0 hs0 hk0 hf hok hk
 go_enter Tryz.func34, Tryz.ntmps34
 go_wp2
 go_end0
 exact .inr ⟨ss, HE.out, rfl, KP.of_below HB0.out, (HH.out.low HB0.out).weak (fun _ h => .inl h)⟩
theorem write_own (size d : Nat) (IH : WrD size d) (hz : size ≤ 200) (base b : Nat) (ss : Segs) (P : Nat → Prop) (w : World) (i a m : Nat) (n : Nd) (h1 : Hd) (h : Bun w base b size ss P) (hP0 : ∀ k, P k → base ≤ k ∧ k < w.heap.size) (hk : SOk 200 ss) (hi : i < ss.length) (ha : a < wn (sgS ss i))
 (hn : NdAt w (fun k => k < base) m n h1) (hok : okN (d + 1) n = true) (hm : totN m n ≤ 2000000) (hws : wordsN (d + 1) n ≤ 300) (hk0 : n.kind ≠ 0) (hp : 0 < ownN n) :
 Calls Tryz.prog 34 #[.pointer (some ⟨b, 0, none⟩), .agg #[.int .i64 n.kind, .string n.data, .slice h1.A n.ptrs.length h1.a, .int .i64 n.size, .int .i64 n.count, .slice h1.B n.items.length h1.b], .agg #[.int .i64 (i : Int), .int .i64 (a : Int)]] w (WrQ base b size P w (wrP 200 size (d + 1) n ss i a)) := by
 obtain ⟨qA, qa, qB, qb⟩ := h1
 dsimp only at hn ⊢
 have hf := ok_formN hok
 have hwi := wn_le_totS ss i
 have hto := hk.totS
 have hb0 : Below w.heap.size w ((w.alloc (.cells #[.int .i64 n.kind, .string n.data, .slice qA n.ptrs.length qa, .int .i64 n.size, .int .i64 n.count, .slice qB n.items.length qb] nodeT)).alloc (.cells #[.int .i64 (i : Int), .int .i64 (a : Int)] plT)) := ((Below.refl _ w).alloc (Nat.le_refl _) _).alloc (by simp) _
 have r0 : ((w.alloc (.cells #[.int .i64 n.kind, .string n.data, .slice qA n.ptrs.length qa, .int .i64 n.size, .int .i64 n.count, .slice qB n.items.length qb] nodeT)).alloc (.cells #[.int .i64 (i : Int), .int .i64 (a : Int)] plT)).heap[w.heap.size]? = some (.cells #[.int .i64 n.kind, .string n.data, .slice qA n.ptrs.length qa, .int .i64 n.size, .int .i64 n.count, .slice qB n.items.length qb] nodeT (0, 0)) := heap_alloc_keep (heap_alloc_new w _) _
 have r1 : ((w.alloc (.cells #[.int .i64 n.kind, .string n.data, .slice qA n.ptrs.length qa, .int .i64 n.size, .int .i64 n.count, .slice qB n.items.length qb] nodeT)).alloc (.cells #[.int .i64 (i : Int), .int .i64 (a : Int)] plT)).heap[w.heap.size + 1]? = some (.cells #[.int .i64 (i : Int), .int .i64 (a : Int)] plT (0, 0)) := by
  have := heap_alloc_new (w.alloc (.cells #[.int .i64 n.kind, .string n.data, .slice qA n.ptrs.length qa, .int .i64 n.size, .int .i64 n.count, .slice qB n.items.length qb] nodeT)) (.cells #[.int .i64 (i : Int), .int .i64 (a : Int)] plT)
  simpa using this
 have hs0 : ((w.alloc (.cells #[.int .i64 n.kind, .string n.data, .slice qA n.ptrs.length qa, .int .i64 n.size, .int .i64 n.count, .slice qB n.items.length qb] nodeT)).alloc (.cells #[.int .i64 (i : Int), .int .i64 (a : Int)] plT)).heap.size = w.heap.size + 2 := by simp
 have hbb : base ≤ w.heap.size := by obtain ⟨_, _, _, hX, _⟩ := h; have := (hX.lt b (.inl rfl)); omega
 have HH := Lib.hid h
 have HN := Lib.hid hn
 have HB0 := Lib.hid hb0
 have R0 := Lib.hid r0
 have R1 := Lib.hid r1
 have HP0 := Lib.hid hP0
 have HS0 := Lib.hid hs0
 have hown : ownN n ≤ 300 := Nat.le_trans own_le_words hws
 have hwin : ((ptrsL n).map (wordsN d)).sum ≤ 300 := by have : wordsN (d + 1) n = ownN n + ((ptrsL n).map (wordsN d)).sum := rfl; omega
 have HWI := Lib.hid (ok_within hok hk0)
 have hkb : (n.kind == 0) = false := by simpa using hk0
 have HOW := Lib.hid (fun (W : World) (hW : Below w.heap.size w W) => ownWords_a m n ⟨qA, qa, qB, qb⟩ W _ (hn.below hW) hf hm)
 dsimp only at HOW
 have HK := Lib.hid hk
 have HK0 := Lib.hid hk0
 have HF := Lib.hid hf
 have HE : Hid (wrP 200 size (d + 1) n ss i a = (roomP 200 size n ss i a).bind fun r => fillP (wrP 200 size d) n r.1 r.2.1 r.2.2) := Lib.hid (by simp only [wrP]; rw [if_neg hk0, if_neg (by omega)])
 have hd0 : decide ((0 : Int) < (ownN n : Int)) = true := decide_eq_true (by omega)
 have HPO := Lib.hid hp
 clear hn h hb0 r0 r1 hP0 hs0 hk0 hf hok hk hp
 go_enter Tryz.func34, Tryz.ntmps34
 go_wp2_with fail
 refine (HOW.out _ HB0.out).mono ?_
 rintro e w1 ⟨rfl, hb1⟩
 have hr0 := (hb1.block _ (by have := HS0.out; omega)).trans R0.out
 have hr1 := (hb1.block _ (by have := HS0.out; omega)).trans R1.out
 have hsz1 : w.heap.size + 2 ≤ w1.heap.size := by have := hb1.size; have := HS0.out; omega
 have HB1 := Lib.hid (HB0.out.trans (hb1.mono HB0.out.size))
 have R0' := Lib.hid hr0
 have R1' := Lib.hid hr1
 obtain ⟨n0, n1, n2, n3, n4, n5⟩ := cells6 hr0
 obtain ⟨t0, t1⟩ := cell_pair hr1
 clear hb1 hr0 hr1 R0 R1 HB0 HS0
 go_wp2_with fail
 replace n0 : w1.drew.cell? ⟨w.heap.size, 0, none⟩ = some (.int .i64 n.kind) := n0
 replace n1 : w1.drew.cell? ⟨w.heap.size, 1, none⟩ = some (.string n.data) := n1
 replace n2 : w1.drew.cell? ⟨w.heap.size, 2, none⟩ = some (.slice qA n.ptrs.length qa) := n2
 replace n3 : w1.drew.cell? ⟨w.heap.size, 3, none⟩ = some (.int .i64 n.size) := n3
 replace n4 : w1.drew.cell? ⟨w.heap.size, 4, none⟩ = some (.int .i64 n.count) := n4
 replace n5 : w1.drew.cell? ⟨w.heap.size, 5, none⟩ = some (.slice qB n.items.length qb) := n5
 replace t0 : w1.drew.cell? ⟨w.heap.size + 1, 0, none⟩ = some (.int .i64 (i : Int)) := t0
 replace t1 : w1.drew.cell? ⟨w.heap.size + 1, 1, none⟩ = some (.int .i64 (a : Int)) := t1
 have HBD : Hid (Below w.heap.size w w1.drew) := Lib.hid HB1.out.drew
 refine wp_region_held_drew (S := (fun V => (V.cell? ⟨w.heap.size, 0, none⟩ = some (.int .i64 n.kind) ∧ V.cell? ⟨w.heap.size, 1, none⟩ = some (.string n.data) ∧ V.cell? ⟨w.heap.size, 2, none⟩ = some (.slice qA n.ptrs.length qa) ∧ V.cell? ⟨w.heap.size, 3, none⟩ = some (.int .i64 n.size) ∧ V.cell? ⟨w.heap.size, 4, none⟩ = some (.int .i64 n.count) ∧ V.cell? ⟨w.heap.size, 5, none⟩ = some (.slice qB n.items.length qb)) ∧ (V.cell? ⟨w.heap.size + 1, 0, none⟩ = some (.int .i64 (i : Int)) ∧ V.cell? ⟨w.heap.size + 1, 1, none⟩ = some (.int .i64 (a : Int))))) (by kernel_rfl) ?_ (fun hH0 => ?_)
 · exact ⟨⟨n0, n1, n2, n3, n4, n5⟩, ⟨t0, t1⟩⟩
 refine wpAnyH_take (i := 0) (v := ?_) rfl (by kernel_rfl) (by kernel_rfl) (by kernel_rfl) (fun _ _ _ h => h) (Or.inl ⟨by rfl, ?_⟩) (by assumption) ?_
 rotate_left
 · intro w hSw
   (try dsimp only at hSw)
   go_simp
   try with_reducible rfl
 try simp only [List.getElem_toArray, List.getElem_cons_succ, List.getElem_cons_zero, Act.put, List.setIfInBounds_toArray, List.set_cons_zero, List.set_cons_succ]
 refine wpAnyH_take (i := 1) (v := ?_) rfl (by kernel_rfl) (by kernel_rfl) (by kernel_rfl) (fun _ _ _ h => h) (Or.inl ⟨by rfl, ?_⟩) (by assumption) ?_
 rotate_left
 · intro w hSw
   (try dsimp only at hSw)
   go_simp
   try with_reducible rfl
 try simp only [List.getElem_toArray, List.getElem_cons_succ, List.getElem_cons_zero, Act.put, List.setIfInBounds_toArray, List.set_cons_zero, List.set_cons_succ]
 refine wpAnyH_take (i := 2) (v := ?_) rfl (by kernel_rfl) (by kernel_rfl) (by kernel_rfl) (fun _ _ _ h => h) (Or.inl ⟨by rfl, ?_⟩) (by assumption) ?_
 rotate_left
 · intro w hSw
   (try dsimp only at hSw)
   go_simp
   try with_reducible rfl
 try simp only [List.getElem_toArray, List.getElem_cons_succ, List.getElem_cons_zero, Act.put, List.setIfInBounds_toArray, List.set_cons_zero, List.set_cons_succ]
 refine wpAnyH_take (i := 3) (v := ?_) rfl (by kernel_rfl) (by kernel_rfl) (by kernel_rfl) (fun _ _ _ h => h) (Or.inl ⟨by rfl, ?_⟩) (by assumption) ?_
 rotate_left
 · intro w hSw
   (try dsimp only at hSw)
   go_simp
   try with_reducible rfl
 try simp only [List.getElem_toArray, List.getElem_cons_succ, List.getElem_cons_zero, Act.put, List.setIfInBounds_toArray, List.set_cons_zero, List.set_cons_succ]
 refine wpAnyH_take (i := 4) (v := ?_) rfl (by kernel_rfl) (by kernel_rfl) (by kernel_rfl) (fun _ _ _ h => h) (Or.inl ⟨by rfl, ?_⟩) (by assumption) ?_
 rotate_left
 · intro w hSw
   (try dsimp only at hSw)
   go_simp
   try with_reducible rfl
 try simp only [List.getElem_toArray, List.getElem_cons_succ, List.getElem_cons_zero, Act.put, List.setIfInBounds_toArray, List.set_cons_zero, List.set_cons_succ]
 have HROOM := Lib.hid (room_anyB base b size ss P w1.drew (HH.out.low HBD.out) (fun x hx => ⟨(HP0.out x hx).1, Nat.lt_of_lt_of_le (HP0.out x hx).2 HBD.out.size⟩) HK.out i a hi ha hz m n ⟨qA, qa, qB, qb⟩ (nd_base HN.out (HBD.out.mono hbb)) HF.out hm hown HK0.out)
 dsimp only at HROOM
 refine wpAnyH_ready (rs := [5]) (by kernel_rfl) (by simp) ?_
 refine AllReadyH.cons rfl (fun K hK => ?_) AllReadyH.nil
 go_simp
 go_at_call 72
 refine HROOM.out.mono ?_
 rintro e w2 (⟨hnone, rfl, hk2⟩ | ⟨s1, j, c, hsome, rfl, hk2, hB2⟩)
 · have HE9 : Hid (wrP 200 size (d + 1) n ss i a = none) := Lib.hid (by rw [HE.out, hnone]; rfl)
   have HK2 := Lib.hid ((KP.of_below HBD.out).trans hk2 (fun _ _ h => h))
   clear hk2 hnone hK
   go_wp2
   exact ⟨rfl, .inl ⟨HE9.out, rfl, HK2.out⟩⟩
 have HE1 : Hid (wrP 200 size (d + 1) n ss i a = fillP (wrP 200 size d) n s1 j c) := Lib.hid (by rw [HE.out, hsome]; rfl)
 obtain ⟨k2a, k2b, k2c, k2d⟩ := room_some HK.out hi ha hsome
 have HKW := Lib.hid ((KP.of_below HBD.out).trans hk2 (fun _ _ h => h) : KP P w w2)
 have HBT := Lib.hid hB2.tight
 have hs2 := hk2.size
 have hs1d : w1.drew.heap.size = w1.heap.size := rfl
 have n0' := kp_cell hk2 n0 (fun hp => by have := (HP0.out _ hp).2; simp at this)
 have n1' := kp_cell hk2 n1 (fun hp => by have := (HP0.out _ hp).2; simp at this)
 have n2' := kp_cell hk2 n2 (fun hp => by have := (HP0.out _ hp).2; simp at this)
 have n3' := kp_cell hk2 n3 (fun hp => by have := (HP0.out _ hp).2; simp at this)
 have n4' := kp_cell hk2 n4 (fun hp => by have := (HP0.out _ hp).2; simp at this)
 have n5' := kp_cell hk2 n5 (fun hp => by have := (HP0.out _ hp).2; simp at this)
 have t0' := kp_cell hk2 t0 (fun hp => by have := (HP0.out _ hp).2; simp at this; omega)
 have t1' := kp_cell hk2 t1 (fun hp => by have := (HP0.out _ hp).2; simp at this; omega)
 refine hK.out _ _ ?_ (fun hH1 => ?_)
 · exact ⟨⟨n0', n1', n2', n3', n4', n5'⟩, ⟨t0', t1'⟩⟩
 clear hK K hH0 hk2 hB2 hsome n0 n1 n2 n3 n4 n5 t0 t1
 try simp only [List.getElem_toArray, List.getElem_cons_succ, List.getElem_cons_zero, Act.put, List.setIfInBounds_toArray, List.set_cons_zero, List.set_cons_succ]
 have HFILL := Lib.hid (fill_any size d IH base b s1 _ w2 j c m n ⟨qA, qa, qB, qb⟩ HBT.out (fun x hx => ⟨hx.2.1, hx.2.2⟩) k2a k2c k2d HPO.out (nd_base HN.out (HKW.out.below hbb (fun x hx => (HP0.out x hx).1))) HF.out HWI.out hm hwin)
 dsimp only at HFILL
 have HPW : Hid (∀ x, x < w.heap.size → ((P x ∨ w1.drew.heap.size ≤ x) ∧ base ≤ x ∧ x < w2.heap.size) → P x) := Lib.hid (fun x hx hp => by
  rcases hp.1 with h | h
  · exact h
  · omega)
 have HNP : Hid (∀ x, w.heap.size ≤ x ∧ x < w.heap.size + 2 → ¬ ((P x ∨ w1.drew.heap.size ≤ x) ∧ base ≤ x ∧ x < w2.heap.size)) := Lib.hid (fun x hx hp => by
  rcases hp.1 with h | h
  · have := (HP0.out x h).2; omega
  · omega)
 refine wpAnyH_ready (rs := [6]) (by kernel_rfl) (by simp) ?_
 refine AllReadyH.cons rfl (fun K hK => ?_) AllReadyH.nil
 go_simp
 go_at_call 71
 refine HFILL.out.mono ?_
 rintro e w3 (⟨hnone, rfl, hk3⟩ | ⟨s2, hsome, rfl, hk3, hB3⟩)
 · have HE9 : Hid (wrP 200 size (d + 1) n ss i a = none) := Lib.hid (by rw [HE1.out]; exact hnone)
   have HK3 := Lib.hid (HKW.out.trans hk3 HPW.out)
   clear hk3 hnone hK
   go_wp2
   exact ⟨rfl, .inl ⟨HE9.out, rfl, HK3.out⟩⟩
 have HE9 : Hid (wrP 200 size (d + 1) n ss i a = some s2) := Lib.hid (by rw [HE1.out]; exact hsome)
 have HK3 := Lib.hid (HKW.out.trans hk3 HPW.out)
 have HB3 := Lib.hid (hB3.weak (Q := fun x => P x ∨ w.heap.size ≤ x) (fun x hx => by
  rcases hx with hx | hx
  · exact hx.1.imp id (fun h => by omega)
  · exact .inr (by omega)))
 have n0 := kp_cell hk3 n0' (HNP.out _ (by simp))
 have n1 := kp_cell hk3 n1' (HNP.out _ (by simp))
 have n2 := kp_cell hk3 n2' (HNP.out _ (by simp))
 have n3 := kp_cell hk3 n3' (HNP.out _ (by simp))
 have n4 := kp_cell hk3 n4' (HNP.out _ (by simp))
 have n5 := kp_cell hk3 n5' (HNP.out _ (by simp))
 have t0 := kp_cell hk3 t0' (HNP.out _ (by simp))
 have t1 := kp_cell hk3 t1' (HNP.out _ (by simp))
 refine hK.out _ _ ?_ (fun hH2 => ?_)
 · exact ⟨⟨n0, n1, n2, n3, n4, n5⟩, ⟨t0, t1⟩⟩
 clear hK K hH1 hk3 hB3 hsome n0 n1 n2 n3 n4 n5 t0 t1 n0' n1' n2' n3' n4' n5' t0' t1'
 refine wpAnyH_done (by kernel_rfl) ?_ _
 clear hH2
 go_wp2
 go_end0
 exact .inr ⟨s2, HE9.out, rfl, HK3.out, HB3.out⟩
theorem write_bare (size d : Nat) (base b : Nat) (ss : Segs) (P : Nat → Prop) (w : World) (i a m : Nat) (n : Nd) (h1 : Hd) (h : Bun w base b size ss P) (hP0 : ∀ k, P k → base ≤ k ∧ k < w.heap.size) (hk : SOk 200 ss) (hi : i < ss.length) (ha : a < wn (sgS ss i))
 (hn : NdAt w (fun k => k < base) m n h1) (hok : okN (d + 1) n = true) (hm : totN m n ≤ 2000000) (hws : wordsN (d + 1) n ≤ 300) (hk0 : n.kind ≠ 0) (hp : ownN n = 0) :
 Calls Tryz.prog 34 #[.pointer (some ⟨b, 0, none⟩), .agg #[.int .i64 n.kind, .string n.data, .slice h1.A n.ptrs.length h1.a, .int .i64 n.size, .int .i64 n.count, .slice h1.B n.items.length h1.b], .agg #[.int .i64 (i : Int), .int .i64 (a : Int)]] w (WrQ base b size P w (wrP 200 size (d + 1) n ss i a)) := by
 obtain ⟨qA, qa, qB, qb⟩ := h1
 dsimp only at hn ⊢
 have hf := ok_formN hok
 have hwi := wn_le_totS ss i
 have hto := hk.totS
 have hb0 : Below w.heap.size w ((w.alloc (.cells #[.int .i64 n.kind, .string n.data, .slice qA n.ptrs.length qa, .int .i64 n.size, .int .i64 n.count, .slice qB n.items.length qb] nodeT)).alloc (.cells #[.int .i64 (i : Int), .int .i64 (a : Int)] plT)) := ((Below.refl _ w).alloc (Nat.le_refl _) _).alloc (by simp) _
 have r0 : ((w.alloc (.cells #[.int .i64 n.kind, .string n.data, .slice qA n.ptrs.length qa, .int .i64 n.size, .int .i64 n.count, .slice qB n.items.length qb] nodeT)).alloc (.cells #[.int .i64 (i : Int), .int .i64 (a : Int)] plT)).heap[w.heap.size]? = some (.cells #[.int .i64 n.kind, .string n.data, .slice qA n.ptrs.length qa, .int .i64 n.size, .int .i64 n.count, .slice qB n.items.length qb] nodeT (0, 0)) := heap_alloc_keep (heap_alloc_new w _) _
 have r1 : ((w.alloc (.cells #[.int .i64 n.kind, .string n.data, .slice qA n.ptrs.length qa, .int .i64 n.size, .int .i64 n.count, .slice qB n.items.length qb] nodeT)).alloc (.cells #[.int .i64 (i : Int), .int .i64 (a : Int)] plT)).heap[w.heap.size + 1]? = some (.cells #[.int .i64 (i : Int), .int .i64 (a : Int)] plT (0, 0)) := by
  have := heap_alloc_new (w.alloc (.cells #[.int .i64 n.kind, .string n.data, .slice qA n.ptrs.length qa, .int .i64 n.size, .int .i64 n.count, .slice qB n.items.length qb] nodeT)) (.cells #[.int .i64 (i : Int), .int .i64 (a : Int)] plT)
  simpa using this
 have hs0 : ((w.alloc (.cells #[.int .i64 n.kind, .string n.data, .slice qA n.ptrs.length qa, .int .i64 n.size, .int .i64 n.count, .slice qB n.items.length qb] nodeT)).alloc (.cells #[.int .i64 (i : Int), .int .i64 (a : Int)] plT)).heap.size = w.heap.size + 2 := by simp
 have hbb : base ≤ w.heap.size := by obtain ⟨_, _, _, hX, _⟩ := h; have := (hX.lt b (.inl rfl)); omega
 have HH := Lib.hid h
 have HN := Lib.hid hn
 have HB0 := Lib.hid hb0
 have R0 := Lib.hid r0
 have R1 := Lib.hid r1
 have HP0 := Lib.hid hP0
 have HS0 := Lib.hid hs0
 have hown : ownN n ≤ 300 := Nat.le_trans own_le_words hws
 have hwin : ((ptrsL n).map (wordsN d)).sum ≤ 300 := by have : wordsN (d + 1) n = ownN n + ((ptrsL n).map (wordsN d)).sum := rfl; omega
 have HWI := Lib.hid (ok_within hok hk0)
 have hkb : (n.kind == 0) = false := by simpa using hk0
 have HOW := Lib.hid (fun (W : World) (hW : Below w.heap.size w W) => ownWords_a m n ⟨qA, qa, qB, qb⟩ W _ (hn.below hW) hf hm)
 dsimp only at HOW
 have HK := Lib.hid hk
 have HK0 := Lib.hid hk0
 have HF := Lib.hid hf
 have HE : Hid (wrP 200 size (d + 1) n ss i a = some (putS ss i a (ptrW n (if n.kind = 1 then -1 else 0)))) := Lib.hid (by simp only [wrP]; rw [if_neg hk0, if_pos hp])
 have hd0 : decide ((0 : Int) < (ownN n : Int)) = false := decide_eq_false (by omega)
 have hd1 : decide (0 < ownN n) = false := decide_eq_false (by omega)
 have HPT := Lib.hid (fun (W : World) (off : Int) (hW : Below base w W) => pointerTo_any m n ⟨qA, qa, qB, qb⟩ off W _ (nd_base hn hW) hf hm hown hk0)
 dsimp only at HPT
 have HST := Lib.hid (fun (W : World) (off : Int) (h0 : -100000 ≤ off) (h1 : off ≤ 100000) (hW : Bun W base b size ss P) => set_node base b size ss P W hW hk.wds i a hi ha (by omega) n hf hown hk0 off h0 h1)
 obtain ⟨hA1, hA2, hA3, hkk, _⟩ := form_small hf hown
 obtain ⟨B, hB⟩ : ∃ B : Bool, (n.kind == 1) = B := ⟨_, rfl⟩
 have HOFF : Hid ((if n.kind = 1 then (-1 : Int) else 0) = if B = true then -1 else 0) := Lib.hid (by
  rw [← hB]
  by_cases h : n.kind = 1
  · simp [h]
  · simp [h])
 clear hn h hb0 r0 r1 hP0 hs0 hk0 hf hok hk hp hkk
 cases B
 all_goals
  go_enter Tryz.func34, Tryz.ntmps34
  go_wp2_with fail
  refine (HOW.out _ HB0.out).mono ?_
  rintro e w1 ⟨rfl, hb1⟩
  have hr0 := (hb1.block _ (by have := HS0.out; omega)).trans R0.out
  have hr1 := (hb1.block _ (by have := HS0.out; omega)).trans R1.out
  have hsz1 : w.heap.size + 2 ≤ w1.heap.size := by have := hb1.size; have := HS0.out; omega
  have HB1 := Lib.hid (HB0.out.trans (hb1.mono HB0.out.size))
  obtain ⟨n0, n1, n2, n3, n4, n5⟩ := cells6 hr0
  obtain ⟨t0, t1⟩ := cell_pair hr1
  clear hb1 hr0 hr1 R0 R1 HB0 HS0
  go_wp2_with fail
  replace n0 : w1.drew.cell? ⟨w.heap.size, 0, none⟩ = some (.int .i64 n.kind) := n0
  replace n1 : w1.drew.cell? ⟨w.heap.size, 1, none⟩ = some (.string n.data) := n1
  replace n2 : w1.drew.cell? ⟨w.heap.size, 2, none⟩ = some (.slice qA n.ptrs.length qa) := n2
  replace n3 : w1.drew.cell? ⟨w.heap.size, 3, none⟩ = some (.int .i64 n.size) := n3
  replace n4 : w1.drew.cell? ⟨w.heap.size, 4, none⟩ = some (.int .i64 n.count) := n4
  replace n5 : w1.drew.cell? ⟨w.heap.size, 5, none⟩ = some (.slice qB n.items.length qb) := n5
  replace t0 : w1.drew.cell? ⟨w.heap.size + 1, 0, none⟩ = some (.int .i64 (i : Int)) := t0
  replace t1 : w1.drew.cell? ⟨w.heap.size + 1, 1, none⟩ = some (.int .i64 (a : Int)) := t1
  have HBD : Hid (Below w.heap.size w w1.drew) := Lib.hid HB1.out.drew
  go_region_held3 (fun V => (V.cell? ⟨w.heap.size, 0, none⟩ = some (.int .i64 n.kind) ∧ V.cell? ⟨w.heap.size, 1, none⟩ = some (.string n.data) ∧ V.cell? ⟨w.heap.size, 2, none⟩ = some (.slice qA n.ptrs.length qa) ∧ V.cell? ⟨w.heap.size, 3, none⟩ = some (.int .i64 n.size) ∧ V.cell? ⟨w.heap.size, 4, none⟩ = some (.int .i64 n.count) ∧ V.cell? ⟨w.heap.size, 5, none⟩ = some (.slice qB n.items.length qb)) ∧ (V.cell? ⟨w.heap.size + 1, 0, none⟩ = some (.int .i64 (i : Int)) ∧ V.cell? ⟨w.heap.size + 1, 1, none⟩ = some (.int .i64 (a : Int)))) (((first | exact ⟨⟨n0, n1, n2, n3, n4, n5⟩, ⟨t0, t1⟩⟩ | exact ⟨⟨kcw hb2 n0, kcw hb2 n1, kcw hb2 n2, kcw hb2 n3, kcw hb2 n4, kcw hb2 n5⟩, ⟨kcw hb2 t0, kcw hb2 t1⟩⟩ | exact ⟨⟨hk3c (kcw hb2 n0) (by simp), hk3c (kcw hb2 n1) (by simp), hk3c (kcw hb2 n2) (by simp), hk3c (kcw hb2 n3) (by simp), hk3c (kcw hb2 n4) (by simp), hk3c (kcw hb2 n5) (by simp)⟩, ⟨hk3c (kcw hb2 t0) (by simp), hk3c (kcw hb2 t1) (by simp)⟩⟩))) (first | (go_at_call 74; (with_reducible refine (HPT.out _ _ (HBD.out.mono hbb)).mono ?_); rintro e w2 ⟨rfl, hb2⟩) | (go_at_call 73; (with_reducible refine (HST.out w2 _ (by omega) (by omega) (HH.out.low (HBD.out.trans (hb2.mono HBD.out.size)))).mono ?_); rintro e w3 ⟨rfl, hk3, hB3⟩; have hk3c := fun {q : Addr} {u : Value} (hq : w2.cell? q = some u) (hp : w.heap.size ≤ q.block) => kp_cell hk3 hq (fun h => by have := (HP0.out _ h).2; omega)))
  have HK3 := Lib.hid ((KP.of_below (HBD.out.trans (hb2.mono HBD.out.size))).trans hk3 (fun _ _ h => h))
  have HB3 := Lib.hid (hB3.weak (Q := fun x => P x ∨ w.heap.size ≤ x) (fun _ h => .inl h))
  clear hk3 hB3 hb2 hk3c n0 n1 n2 n3 n4 n5 t0 t1
  go_wp2
  go_end0
  exact .inr ⟨_, by rw [HE.out, HOFF.out]; rfl, rfl, HK3.out, HB3.out⟩
theorem write_any (size : Nat) (hz : size ≤ 200) : ∀ d, WrD size d
 | 0 => fun base b ss P w i a m n h1 h hP0 hk hi ha hn hok hm hws => write_none size 0 base b ss P w i a m n h1 h hP0 hk hi ha hn hok hm hws (by simp only [okN, Bool.and_eq_true, decide_eq_true_eq] at hok; exact hok.2)
 | d + 1 => fun base b ss P w i a m n h1 h hP0 hk hi ha hn hok hm hws => by
   by_cases hk0 : n.kind = 0
   · exact write_none size (d + 1) base b ss P w i a m n h1 h hP0 hk hi ha hn hok hm hws hk0
   · by_cases hp : ownN n = 0
     · exact write_bare size d base b ss P w i a m n h1 h hP0 hk hi ha hn hok hm hws hk0 hp
     · exact write_own size d (write_any size hz d) hz base b ss P w i a m n h1 h hP0 hk hi ha hn hok hm hws hk0 (by omega)
abbrev strV (s : List UInt8) : Value := .string ⟨s.toArray⟩
theorem infoStrB : (Tryz.prog.info? 9).map (fun i => (i.zero, i.size, i.bytes)) = some (some (.string ByteArray.empty), 1, 16) := by kernel_rfl
def TextsQ (ss : Segs) (w : World) (e : Ending) (w' : World) : Prop := ∃ A c, e = .returned (.slice A ss.length c) ∧ w'.ownsRow w.heap.size 9 1 (.slice A ss.length c) ss.length (ss.map strV) ∧ Below w.heap.size w w'
theorem chunk8 {s : List UInt8} {q : Nat} (h8 : s.length % 8 = 0) (hq : q < s.length / 8) : ∃ b0 b1 b2 b3 b4 b5 b6 b7 : UInt8, s.take (8 * (q + 1)) = s.take (8 * q) ++ [b0, b1, b2, b3, b4, b5, b6, b7] ∧ ∀ j u, [b0, b1, b2, b3, b4, b5, b6, b7][j]? = some u → s[8 * q + j]? = some u := by
 have hl : ((s.drop (8 * q)).take 8).length = 8 := by rw [List.length_take, List.length_drop]; omega
 obtain ⟨b0, b1, b2, b3, b4, b5, b6, b7, he⟩ := len8 hl
 refine ⟨b0, b1, b2, b3, b4, b5, b6, b7, ?_, fun j u h => ?_⟩
 · rw [← he, show 8 * (q + 1) = 8 * q + 8 by omega, List.take_add]
 · rw [← he] at h
   have hj : j < 8 := by
    rcases Nat.lt_or_ge j 8 with h' | h'
    · exact h'
    · rw [List.getElem?_eq_none (by omega)] at h; cases h
   rw [List.getElem?_take_of_lt hj, List.getElem?_drop] at h
   exact h
theorem texts_any (base b size : Nat) (ss : Segs) (P : Nat → Prop) (w : World) (h : Bun w base b size ss P) (hk : SOk 200 ss) :
 Calls Tryz.prog 37 #[.pointer (some ⟨b, 0, none⟩)] w (TextsQ ss w) := by
 obtain ⟨i0, hi, hz0, hz1, hz2⟩ := info_parts infoStrB
 obtain ⟨row, g, v, hB, hP⟩ := h
 obtain ⟨c0, c1, c2⟩ := cells3 hB.hb
 obtain ⟨r, cap, rfl, hcr⟩ := hB.row (i := 0) hk.one
 have h6 := hk.six
 have hto := hk.totS
 have HB := Lib.hid hB
 have HK := Lib.hid hk
 have HCR := Lib.hid hcr
 clear hB hP hk hcr
 go_enter Tryz.func37, Tryz.ntmps37
 go_wp2_with fail
 go_loopw [14, 3] (fun c v wr => ∃ k : Nat, c = .int .i64 k ∧ k ≤ ss.length ∧ Hid (wr.ownsRow w.heap.size 9 1 v k ((ss.take k).map strV) ∧ Below w.heap.size w wr)) (fun c _ _ => ss.length - (intOf c).toNat)
 case atStart => exact ⟨0, rfl, by omega, Lib.hid ⟨World.ownsRow_nil _ _ _ _, Below.refl _ _⟩⟩
 case round =>
  obtain ⟨wo, rfl⟩ : ∃ wo : World, wo = wr := ⟨_, rfl⟩
  obtain ⟨k, rfl, hkk, HR⟩ := hrel
  by_cases hlt : k < ss.length
  · have hrb : r < w.heap.size := (HB.out.lt r (.inr (.inl rfl))).2
    have hgb : g k < w.heap.size := (HB.out.lt (g k) (.inr (.inr ⟨k, hlt, .inl rfl⟩))).2
    have p0 := (HR.out.2.cell (p := ⟨r, k, none⟩) hrb).trans (HCR.out k hlt)
    obtain ⟨A, cp, hv, hcg, -⟩ := HB.out.seg hlt
    rw [hv] at hcg
    have p1 := (HR.out.2.cell (p := ⟨g k, 0, none⟩) hgb).trans hcg
    have p1a : ∀ o, (wo.alloc o).cell? ⟨g k, 0, none⟩ = some (.slice A (wn (sgS ss k)) cp) := fun o => by
     rw [World.cell?_alloc_lt _ _ _ (by have := HR.out.2.size; show g k < _; omega)]; exact p1
    have HV := Lib.hid hv
    have hwk := wn_le_totS ss k
    have hz := heap_alloc_new wo (.cells #[.pointer none, .slice none 0 0] 119)
    have HBL : Hid (Bld (wo.heap.size + 1) wo.heap.size [] (wo.alloc (.cells #[.pointer none, .slice none 0 0] 119)) ∧ Below wo.heap.size wo (wo.alloc (.cells #[.pointer none, .slice none 0 0] 119)) ∧ wo.heap.size + 1 ≤ (wo.alloc (.cells #[.pointer none, .slice none 0 0] 119)).heap.size) := Lib.hid ⟨Bld.fresh _ hz, (Below.refl _ _).alloc (Nat.le_refl _) _, by simp⟩
    have HL8 := Lib.hid (HK.out.wds k)
    have hkl : (k : Int) < (ss.length : Int) := by omega
    obtain ⟨s, hs⟩ : ∃ s, sgS ss k = s := ⟨_, rfl⟩
    rw [hs] at p1 p1a HV hwk HL8
    have HS := Lib.hid hs
    clear hv hcg hz hs
    have hcase : (A = none ∧ wn s ≤ 0) ∨ ∃ x cur, A = some ⟨x, 0, none⟩ ∧ w.heap[x]? = some (.cells cur wdT (0, 0)) ∧ cur.toList.take (wn (sgS ss k) * 8) = Lib.byteCells (sgS ss k) := by
     rcases (HB.out.ho k hlt).2 with ⟨h1, h2⟩ | ⟨x, cp', cur, h1, h2, h3, h4, h5, h6, h7⟩
     · rw [HV.out] at h1; injection h1 with h1; rw [HS.out] at h2; exact .inl ⟨h1, by omega⟩
     · rw [HV.out] at h1; injection h1 with h1; exact .inr ⟨x, cur, h1, h3, h7⟩
    rcases hcase with ⟨rfl, h0⟩ | ⟨x, cur, rfl, hx2', hx6'⟩
    case' inr => (have HX2 := Lib.hid hx2'; have HX6 := Lib.hid hx6'; clear hx2' hx6')
    all_goals
     go_wp2_with fail
     go_loopw [23] (fun c wi => ∃ q : Nat, c = .int .i64 q ∧ q ≤ wn s ∧ Hid (Bld (wo.heap.size + 1) wo.heap.size (Lib.byteCells (s.take (8 * q))) wi ∧ Below wo.heap.size wo wi ∧ wo.heap.size + 1 ≤ wi.heap.size)) (fun c _ => wn s - (intOf c).toNat)
     case atStart => exact ⟨0, rfl, by omega, Lib.hid HBL.out⟩
     case round =>
      obtain ⟨q, rfl, hqq, HI⟩ := hrel
      by_cases hq : q < wn s
      · try (exfalso; omega)
        all_goals
         obtain ⟨b0, b1, b2, b3, b4, b5, b6, b7, htk, hcc⟩ := chunk8 HL8.out hq
         have hr2 : wr.rangeAt x (q * 8) [.int .u8 b0.toNat, .int .u8 b1.toNat, .int .u8 b2.toNat, .int .u8 b3.toNat, .int .u8 b4.toNat, .int .u8 b5.toNat, .int .u8 b6.toNat, .int .u8 b7.toNat] := fun j u hu => by
          have hxl : x < w.heap.size := row_lt HX2.out
          rw [HI.out.2.1.cell (p := ⟨x, q * 8 + j, none⟩) (by have := HR.out.2.size; show x < _; omega), HR.out.2.cell (p := ⟨x, q * 8 + j, none⟩) hxl, cell_of_row _ _ _ _ _ _ HX2.out]
          have hu2 : ∃ c, [b0, b1, b2, b3, b4, b5, b6, b7][j]? = some c ∧ u = .int .u8 c.toNat := by
           have : [Value.int .u8 b0.toNat, .int .u8 b1.toNat, .int .u8 b2.toNat, .int .u8 b3.toNat, .int .u8 b4.toNat, .int .u8 b5.toNat, .int .u8 b6.toNat, .int .u8 b7.toNat] = [b0, b1, b2, b3, b4, b5, b6, b7].map (fun c : UInt8 => Value.int .u8 c.toNat) := rfl
           rw [this, List.getElem?_map, Option.map_eq_some_iff] at hu
           obtain ⟨c, h1, h2⟩ := hu
           exact ⟨c, h1, h2.symm⟩
          obtain ⟨c, hc1, rfl⟩ := hu2
          have h3 := hcc j c hc1
          have hjl : 8 * q + j < s.length := (List.getElem?_eq_some_iff.1 h3).1
          have h4 : (Lib.byteCells (sgS ss k))[q * 8 + j]? = some (.int .u8 c.toNat) := by
           rw [HS.out, Nat.mul_comm]
           simp only [Lib.byteCells, List.getElem?_map, h3, Option.map_some]
          rw [← HX6.out] at h4
          have hlt2 : q * 8 + j < wn (sgS ss k) * 8 := by
           rcases Nat.lt_or_ge (q * 8 + j) (wn (sgS ss k) * 8) with h | h
           · exact h
           · rw [List.getElem?_eq_none (by rw [List.length_take]; omega)] at h4; cases h4
          rw [List.getElem?_take_of_lt hlt2] at h4
          simpa using h4
         have HR2 := Lib.hid hr2
         have HTK := Lib.hid htk
         have hqw : (q : Int) < (wn s : Int) := by omega
         have hslen : s.length ≤ 2000 := by have := HL8.out; unfold wn at hwk; omega
         clear hr2 htk hcc
         go_wp2_with (refine wpList_load_mid rfl wdT (.tmp 25) rfl x (q * 8) rfl [.int .u8 b0.toNat, .int .u8 b1.toNat, .int .u8 b2.toNat, .int .u8 b3.toNat, .int .u8 b4.toNat, .int .u8 b5.toNat, .int .u8 b6.toNat, .int .u8 b7.toNat] _ HR2.out Tryz.underlying87 rfl size46 ?_)
         have hlen : (Lib.byteCells (s.take (8 * q))).length ≤ 1099511627776 := by rw [byteCells_len, List.length_take]; omega
         have HLen := Lib.hid hlen
         have hcat : ∀ l : List UInt8, Lib.byteCells l ++ Lib.strCells ⟨#[b0, b1, b2, b3, b4, b5, b6, b7]⟩ = Lib.byteCells (l ++ [b0, b1, b2, b3, b4, b5, b6, b7]) := fun l => by simp [Lib.byteCells, Lib.strCells]
         have HCat := Lib.hid hcat
         clear hlen hcat
         refine (text_lit b0 b1 b2 b3 b4 b5 b6 b7 _).mono ?_
         rintro e wt ⟨rfl, hbt⟩
         have HBT : Hid (Below wr.heap.size wr wt) := Lib.hid (((Below.refl wr.heap.size wr).alloc (Nat.le_refl _) _).trans (hbt.mono (by simp)))
         clear hbt
         go_wp2_with fail
         refine (writeString_any (wo.heap.size + 1) wo.heap.size (Lib.byteCells (s.take (8 * q))) _ wt (bld_below HI.out.1 HBT.out) HLen.out (by show 8 ≤ 1099511627776; decide) (Nat.le_trans HI.out.2.2 HBT.out.size)).mono ?_
         rintro e w4 ⟨rfl, h4, k4⟩
         have HN : Hid (Bld (wo.heap.size + 1) wo.heap.size (Lib.byteCells (s.take (8 * (q + 1)))) w4 ∧ Below wo.heap.size wo w4 ∧ wo.heap.size + 1 ≤ w4.heap.size) := by
          refine ⟨?_, ?_, Nat.le_trans HI.out.2.2 (Nat.le_trans HBT.out.size k4.size)⟩
          · rw [HTK.out, ← HCat.out]; exact h4
          · exact (HI.out.2.1.trans (HBT.out.mono HI.out.2.1.size)).trans (k4.below (by omega) (Nat.le_refl _))
         clear h4 k4
         go_wp2
         go_roundw
         case rel => exact ⟨q + 1, by go_num, by omega, HN⟩
         case measure => simp [intOf]; omega
      · obtain rfl : q = wn s := by omega
        have hfull : s.take (8 * wn s) = s := List.take_of_length_le (by have := HL8.out; unfold wn; omega)
        have hI := HI.out
        rw [hfull] at hI
        have HI2 := Lib.hid hI
        clear hI hfull
        go_wp2_with fail
        refine (string_any wo.heap.size wo.heap.size s wr (HI2.out.1.is (by omega) (Nat.le_refl _)) (by have := HI2.out.2.2; omega)).mono ?_
        rintro e w5 ⟨rfl, hb5⟩
        have hb05 : Below wo.heap.size wo w5 := HI2.out.2.1.trans (hb5.mono (Nat.le_refl _))
        have HO5 := Lib.hid (own_keepB HR.out.1 (fun k hk => hb05.block k (HR.out.1.lt k hk).2))
        have HB5 := Lib.hid (HR.out.2.trans (hb05.mono HR.out.2.size))
        have hsz5 := HB5.out.size
        clear hb5 hb05
        go_wp2_with (at_builtin; go_must (refine wpList_append_own _ rfl (.tmp 31) (.tmp 33) 28 rfl w.heap.size 9 i0 (.string ByteArray.empty) 1 16 Tryz.underlying28 hi hz0 hz1 hz2 rfl (by decide) _ _ _ rfl (HO5.out.alloc _) ⟨w5.heap.size, 0, none⟩ 1 1 [.string ⟨s.toArray⟩] rfl rfl (cell_one_new _ _ _) (by simp [Value.oneCell']) (by unfold maxLen; omega) (by omega) (by simp <;> omega) ?_); intro v' wn1 hown' hgrow _)
        have HON := Lib.hid (show wn1.ownsRow w.heap.size 9 1 v' (k + 1) ((ss.take (k + 1)).map strV) by
         have e1 : ss[k] = s := by rw [← HS.out]; unfold sgS; rw [List.getElem?_eq_getElem hlt]; rfl
         rw [List.take_succ_eq_append_getElem hlt, List.map_append, e1]; exact hown')
        have HBN := Lib.hid (below_append HB5.out hsz5 HO5.out hgrow)
        clear hgrow hown'
        go_wp2
        go_roundw
        case rel => exact ⟨k + 1, by go_num, by omega, Lib.hid ⟨HON.out, HBN.out⟩⟩
        case measure => simp [intOf]; omega
  · obtain rfl : k = ss.length := by omega
    obtain ⟨A, c, rfl⟩ := own_sliceW HR.out.1
    have HR1 := HR.out
    rw [List.take_of_length_le (Nat.le_refl _)] at HR1
    have HR2 := Lib.hid HR1
    clear HR1
    go_wp2
    go_ret
    exact ⟨A, c, rfl, HR2.out.1, HR2.out.2⟩
end Go.Proofs.YtlbfffokkhccaaaGreatDoor
