/- Texts of the proof of the law FnReadTwo, side by side: part 30. -/
import Derived.Lib.Builder
import Derived.Lib.Strings
import Derived.Lib.UnsafeStr
import Derived.Laws.Externs
import Derived.Lib.AppendStr
import Derived.Shelf.Strings.Builder1
import Derived.Test.YtlbfffokkhccaaaGreatDoorMReadTwo29
namespace Go.Proofs.YtlbfffokkhccaaaGreatDoor
open Go.RowKit Go.Deep
theorem room_anyB (base b size : Nat) (ss : Segs) (P : Nat → Prop) (w : World) (h : Bun w base b size ss P) (hP0 : ∀ k, P k → base ≤ k ∧ k < w.heap.size) (hk : SOk 200 ss) (i a : Nat) (hi : i < ss.length) (ha : a < wn (sgS ss i)) (hz : size ≤ 200)
 (m : Nat) (n : Nd) (h1 : Hd) (hn : NdAt w (fun k => k < base) m n h1) (hf : formN n = true) (hm : totN m n ≤ 2000000) (ho : ownN n ≤ 300) (hk0 : n.kind ≠ 0) :
 Calls Tryz.prog 72 #[.pointer (some ⟨b, 0, none⟩), .agg #[.int .i64 n.kind, .string n.data, .slice h1.A n.ptrs.length h1.a, .int .i64 n.size, .int .i64 n.count, .slice h1.B n.items.length h1.b], .agg #[.int .i64 (i : Int), .int .i64 (a : Int)]] w (RoomQ base b size P w (roomP 200 size n ss i a)) := by
 by_cases hfit : wn (sgS ss i) + ownN n ≤ size
 · exact room_here base b size ss P w h hP0 hk.wds i a hi ha hk.totS hz m n h1 hn hf hm ho hk0 hfit
 · exact room_there base b size ss P w h hP0 hk.wds i a hi ha hk.totS hz m n h1 hn hf hm ho hk0 hfit hk.one hk.six
theorem fill_any (size d : Nat) (IH : WrD size d) (base b : Nat) (ss : Segs) (P : Nat → Prop) (w : World) (i a m : Nat) (n : Nd) (h1 : Hd) (h : Bun w base b size ss P) (hP0 : ∀ k, P k → base ≤ k ∧ k < w.heap.size) (hk : SOk 200 ss) (hi : i < ss.length) (ha : a + ownN n ≤ wn (sgS ss i)) (hw1 : 1 ≤ ownN n)
 (hn : NdAt w (fun k => k < base) m n h1) (hf : formN n = true) (ho : ∀ p ∈ ptrsL n, okN d p = true) (hm : totN m n ≤ 2000000) (hws : ((ptrsL n).map (wordsN d)).sum ≤ 300) :
 Calls Tryz.prog 71 #[.pointer (some ⟨b, 0, none⟩), .agg #[.int .i64 n.kind, .string n.data, .slice h1.A n.ptrs.length h1.a, .int .i64 n.size, .int .i64 n.count, .slice h1.B n.items.length h1.b], .agg #[.int .i64 (i : Int), .int .i64 (a : Int)]] w (WrQ base b size P w (fillP (wrP 200 size d) n ss i a)) := by
 by_cases hmany : n.kind = 2 ∧ n.size = 7
 · exact fill_many size d IH base b ss P w i a m n h1 h hP0 hk hi ha hw1 hn hf ho hm hws hmany
 · exact fill_plain size d IH base b ss P w i a m n h1 h hP0 hk hi ha hw1 hn hf ho hm hws hmany
set_option maxHeartbeats 4000000 in
set_option maxRecDepth 100000 in
theorem write_none (size d : Nat) (base b : Nat) (ss : Segs) (P : Nat → Prop) (w : World) (i a m : Nat) (n : Nd) (h1 : Hd) (h : Bun w base b size ss P) (hP0 : ∀ k, P k → base ≤ k ∧ k < w.heap.size) (hk : SOk 200 ss) (hi : i < ss.length) (ha : a < wn (sgS ss i))
 (hn : NdAt w (fun k => k < base) m n h1) (hok : okN d n = true) (hm : totN m n ≤ 2000000) (hws : wordsN d n ≤ 300) (hk0 : n.kind = 0) :
 Calls Tryz.prog 34 #[.pointer (some ⟨b, 0, none⟩), .agg #[.int .i64 n.kind, .string n.data, .slice h1.A n.ptrs.length h1.a, .int .i64 n.size, .int .i64 n.count, .slice h1.B n.items.length h1.b], .agg #[.int .i64 (i : Int), .int .i64 (a : Int)]] w (WrQ base b size P w (wrP 200 size d n ss i a)) := by
 obtain ⟨qA, qa, qB, qb⟩ := h1
 dsimp only at hn ⊢
 have hf := ok_formN hok
 have hwi := wn_le_totS ss i
 have hto := hk.totS
 have hb0 : Below w.heap.size w ((w.alloc (.cells #[.int .i64 n.kind, .string n.data, .slice qA n.ptrs.length qa, .int .i64 n.size, .int .i64 n.count, .slice qB n.items.length qb] nodeT)).alloc (.cells #[.int .i64 (i : Int), .int .i64 (a : Int)] plT)) := ((Below.refl _ w).alloc (Nat.le_refl _) _).alloc (by simp) _
 have r0 : ((w.alloc (.cells #[.int .i64 n.kind, .string n.data, .slice qA n.ptrs.length qa, .int .i64 n.size, .int .i64 n.count, .slice qB n.items.length qb] nodeT)).alloc (.cells #[.int .i64 (i : Int), .int .i64 (a : Int)] plT)).heap[w.heap.size]? = some (.cells #[.int .i64 n.kind, .string n.data, .slice qA n.ptrs.length qa, .int .i64 n.size, .int .i64 n.count, .slice qB n.items.length qb] nodeT (0, 0)) := heap_alloc_keep (heap_alloc_new w _) _
 have r1 : ((w.alloc (.cells #[.int .i64 n.kind, .string n.data, .slice qA n.ptrs.length qa, .int .i64 n.size, .int .i64 n.count, .slice qB n.items.length qb] nodeT)).alloc (.cells #[.int .i64 (i : Int), .int .i64 (a : Int)] plT)).heap[w.heap.size + 1]? = some (.cells #[.int .i64 (i : Int), .int .i64 (a : Int)] plT (0, 0)) := by
  have := heap_alloc_new (w.alloc (.cells #[.int .i64 n.kind, .string n.data, .slice qA n.ptrs.length qa, .int .i64 n.size, .int .i64 n.count, .slice qB n.items.length qb] nodeT)) (.cells #[.int .i64 (i : Int), .int .i64 (a : Int)] plT)
  simpa using this
 have hs0 : ((w.alloc (.cells #[.int .i64 n.kind, .string n.data, .slice qA n.ptrs.length qa, .int .i64 n.size, .int .i64 n.count, .slice qB n.items.length qb] nodeT)).alloc (.cells #[.int .i64 (i : Int), .int .i64 (a : Int)] plT)).heap.size = w.heap.size + 2 := by simp
 have hbb : base ≤ w.heap.size := by obtain ⟨_, _, _, hX, _⟩ := h; have := (hX.lt b (.inl rfl)); omega
 have HH := Lib.hid h
 have HN := Lib.hid hn
 have HB0 := Lib.hid hb0
 have R0 := Lib.hid r0
 have R1 := Lib.hid r1
 have HP0 := Lib.hid hP0
 have HS0 := Lib.hid hs0
 have hkb : (n.kind == 0) = true := by rw [hk0]; rfl
 have HE : Hid (wrP 200 size d n ss i a = some ss) := Lib.hid (by cases d <;> simp [wrP, hk0])
 clear hn h hb0 r0 r1 hP0 hs0 hk0 hf hok hk
 go_enter Tryz.func34, Tryz.ntmps34
 go_wp2
 go_end0
 exact .inr ⟨ss, HE.out, rfl, KP.of_below HB0.out, (HH.out.low HB0.out).weak (fun _ h => .inl h)⟩
set_option maxHeartbeats 4000000 in
set_option maxRecDepth 100000 in
theorem write_own (size d : Nat) (IH : WrD size d) (hz : size ≤ 200) (base b : Nat) (ss : Segs) (P : Nat → Prop) (w : World) (i a m : Nat) (n : Nd) (h1 : Hd) (h : Bun w base b size ss P) (hP0 : ∀ k, P k → base ≤ k ∧ k < w.heap.size) (hk : SOk 200 ss) (hi : i < ss.length) (ha : a < wn (sgS ss i))
 (hn : NdAt w (fun k => k < base) m n h1) (hok : okN (d + 1) n = true) (hm : totN m n ≤ 2000000) (hws : wordsN (d + 1) n ≤ 300) (hk0 : n.kind ≠ 0) (hp : 0 < ownN n) :
 Calls Tryz.prog 34 #[.pointer (some ⟨b, 0, none⟩), .agg #[.int .i64 n.kind, .string n.data, .slice h1.A n.ptrs.length h1.a, .int .i64 n.size, .int .i64 n.count, .slice h1.B n.items.length h1.b], .agg #[.int .i64 (i : Int), .int .i64 (a : Int)]] w (WrQ base b size P w (wrP 200 size (d + 1) n ss i a)) := by
 obtain ⟨qA, qa, qB, qb⟩ := h1
 dsimp only at hn ⊢
 have hf := ok_formN hok
 have hwi := wn_le_totS ss i
 have hto := hk.totS
 have hb0 : Below w.heap.size w ((w.alloc (.cells #[.int .i64 n.kind, .string n.data, .slice qA n.ptrs.length qa, .int .i64 n.size, .int .i64 n.count, .slice qB n.items.length qb] nodeT)).alloc (.cells #[.int .i64 (i : Int), .int .i64 (a : Int)] plT)) := ((Below.refl _ w).alloc (Nat.le_refl _) _).alloc (by simp) _
 have r0 : ((w.alloc (.cells #[.int .i64 n.kind, .string n.data, .slice qA n.ptrs.length qa, .int .i64 n.size, .int .i64 n.count, .slice qB n.items.length qb] nodeT)).alloc (.cells #[.int .i64 (i : Int), .int .i64 (a : Int)] plT)).heap[w.heap.size]? = some (.cells #[.int .i64 n.kind, .string n.data, .slice qA n.ptrs.length qa, .int .i64 n.size, .int .i64 n.count, .slice qB n.items.length qb] nodeT (0, 0)) := heap_alloc_keep (heap_alloc_new w _) _
 have r1 : ((w.alloc (.cells #[.int .i64 n.kind, .string n.data, .slice qA n.ptrs.length qa, .int .i64 n.size, .int .i64 n.count, .slice qB n.items.length qb] nodeT)).alloc (.cells #[.int .i64 (i : Int), .int .i64 (a : Int)] plT)).heap[w.heap.size + 1]? = some (.cells #[.int .i64 (i : Int), .int .i64 (a : Int)] plT (0, 0)) := by
  have := heap_alloc_new (w.alloc (.cells #[.int .i64 n.kind, .string n.data, .slice qA n.ptrs.length qa, .int .i64 n.size, .int .i64 n.count, .slice qB n.items.length qb] nodeT)) (.cells #[.int .i64 (i : Int), .int .i64 (a : Int)] plT)
  simpa using this
 have hs0 : ((w.alloc (.cells #[.int .i64 n.kind, .string n.data, .slice qA n.ptrs.length qa, .int .i64 n.size, .int .i64 n.count, .slice qB n.items.length qb] nodeT)).alloc (.cells #[.int .i64 (i : Int), .int .i64 (a : Int)] plT)).heap.size = w.heap.size + 2 := by simp
 have hbb : base ≤ w.heap.size := by obtain ⟨_, _, _, hX, _⟩ := h; have := (hX.lt b (.inl rfl)); omega
 have HH := Lib.hid h
 have HN := Lib.hid hn
 have HB0 := Lib.hid hb0
 have R0 := Lib.hid r0
 have R1 := Lib.hid r1
 have HP0 := Lib.hid hP0
 have HS0 := Lib.hid hs0
 have hown : ownN n ≤ 300 := Nat.le_trans own_le_words hws
 have hwin : ((ptrsL n).map (wordsN d)).sum ≤ 300 := by have : wordsN (d + 1) n = ownN n + ((ptrsL n).map (wordsN d)).sum := rfl; omega
 have HWI := Lib.hid (ok_within hok hk0)
 have hkb : (n.kind == 0) = false := by simpa using hk0
 have HOW := Lib.hid (fun (W : World) (hW : Below w.heap.size w W) => ownWords_a m n ⟨qA, qa, qB, qb⟩ W _ (hn.below hW) hf hm)
 dsimp only at HOW
 have HK := Lib.hid hk
 have HK0 := Lib.hid hk0
 have HF := Lib.hid hf
 have HE : Hid (wrP 200 size (d + 1) n ss i a = (roomP 200 size n ss i a).bind fun r => fillP (wrP 200 size d) n r.1 r.2.1 r.2.2) := Lib.hid (by simp only [wrP]; rw [if_neg hk0, if_neg (by omega)])
 have hd0 : decide ((0 : Int) < (ownN n : Int)) = true := decide_eq_true (by omega)
 have HPO := Lib.hid hp
 clear hn h hb0 r0 r1 hP0 hs0 hk0 hf hok hk hp
 go_enter Tryz.func34, Tryz.ntmps34
 go_wp2_with fail
 refine (HOW.out _ HB0.out).mono ?_
 rintro e w1 ⟨rfl, hb1⟩
 have hr0 := (hb1.block _ (by have := HS0.out; omega)).trans R0.out
 have hr1 := (hb1.block _ (by have := HS0.out; omega)).trans R1.out
 have hsz1 : w.heap.size + 2 ≤ w1.heap.size := by have := hb1.size; have := HS0.out; omega
 have HB1 := Lib.hid (HB0.out.trans (hb1.mono HB0.out.size))
 have R0' := Lib.hid hr0
 have R1' := Lib.hid hr1
 obtain ⟨n0, n1, n2, n3, n4, n5⟩ := cells6 hr0
 obtain ⟨t0, t1⟩ := cell_pair hr1
 clear hb1 hr0 hr1 R0 R1 HB0 HS0
 go_wp2_with fail
 replace n0 : w1.drew.cell? ⟨w.heap.size, 0, none⟩ = some (.int .i64 n.kind) := n0
 replace n1 : w1.drew.cell? ⟨w.heap.size, 1, none⟩ = some (.string n.data) := n1
 replace n2 : w1.drew.cell? ⟨w.heap.size, 2, none⟩ = some (.slice qA n.ptrs.length qa) := n2
 replace n3 : w1.drew.cell? ⟨w.heap.size, 3, none⟩ = some (.int .i64 n.size) := n3
 replace n4 : w1.drew.cell? ⟨w.heap.size, 4, none⟩ = some (.int .i64 n.count) := n4
 replace n5 : w1.drew.cell? ⟨w.heap.size, 5, none⟩ = some (.slice qB n.items.length qb) := n5
 replace t0 : w1.drew.cell? ⟨w.heap.size + 1, 0, none⟩ = some (.int .i64 (i : Int)) := t0
 replace t1 : w1.drew.cell? ⟨w.heap.size + 1, 1, none⟩ = some (.int .i64 (a : Int)) := t1
 have HBD : Hid (Below w.heap.size w w1.drew) := Lib.hid HB1.out.drew
 refine wp_region_held_drew (S := (fun V => (V.cell? ⟨w.heap.size, 0, none⟩ = some (.int .i64 n.kind) ∧ V.cell? ⟨w.heap.size, 1, none⟩ = some (.string n.data) ∧ V.cell? ⟨w.heap.size, 2, none⟩ = some (.slice qA n.ptrs.length qa) ∧ V.cell? ⟨w.heap.size, 3, none⟩ = some (.int .i64 n.size) ∧ V.cell? ⟨w.heap.size, 4, none⟩ = some (.int .i64 n.count) ∧ V.cell? ⟨w.heap.size, 5, none⟩ = some (.slice qB n.items.length qb)) ∧ (V.cell? ⟨w.heap.size + 1, 0, none⟩ = some (.int .i64 (i : Int)) ∧ V.cell? ⟨w.heap.size + 1, 1, none⟩ = some (.int .i64 (a : Int))))) (by kernel_rfl) ?_ (fun hH0 => ?_)
 · exact ⟨⟨n0, n1, n2, n3, n4, n5⟩, ⟨t0, t1⟩⟩
 refine wpAnyH_take (i := 0) (v := ?_) rfl (by kernel_rfl) (by kernel_rfl) (by kernel_rfl) (fun _ _ _ h => h) (Or.inl ⟨by rfl, ?_⟩) (by assumption) ?_
 rotate_left
 · intro w hSw
   (try dsimp only at hSw)
   go_simp
   try with_reducible rfl
 try simp only [List.getElem_toArray, List.getElem_cons_succ, List.getElem_cons_zero, Act.put, List.setIfInBounds_toArray, List.set_cons_zero, List.set_cons_succ]
 refine wpAnyH_take (i := 1) (v := ?_) rfl (by kernel_rfl) (by kernel_rfl) (by kernel_rfl) (fun _ _ _ h => h) (Or.inl ⟨by rfl, ?_⟩) (by assumption) ?_
 rotate_left
 · intro w hSw
   (try dsimp only at hSw)
   go_simp
   try with_reducible rfl
 try simp only [List.getElem_toArray, List.getElem_cons_succ, List.getElem_cons_zero, Act.put, List.setIfInBounds_toArray, List.set_cons_zero, List.set_cons_succ]
 refine wpAnyH_take (i := 2) (v := ?_) rfl (by kernel_rfl) (by kernel_rfl) (by kernel_rfl) (fun _ _ _ h => h) (Or.inl ⟨by rfl, ?_⟩) (by assumption) ?_
 rotate_left
 · intro w hSw
   (try dsimp only at hSw)
   go_simp
   try with_reducible rfl
 try simp only [List.getElem_toArray, List.getElem_cons_succ, List.getElem_cons_zero, Act.put, List.setIfInBounds_toArray, List.set_cons_zero, List.set_cons_succ]
 refine wpAnyH_take (i := 3) (v := ?_) rfl (by kernel_rfl) (by kernel_rfl) (by kernel_rfl) (fun _ _ _ h => h) (Or.inl ⟨by rfl, ?_⟩) (by assumption) ?_
 rotate_left
 · intro w hSw
   (try dsimp only at hSw)
   go_simp
   try with_reducible rfl
 try simp only [List.getElem_toArray, List.getElem_cons_succ, List.getElem_cons_zero, Act.put, List.setIfInBounds_toArray, List.set_cons_zero, List.set_cons_succ]
 refine wpAnyH_take (i := 4) (v := ?_) rfl (by kernel_rfl) (by kernel_rfl) (by kernel_rfl) (fun _ _ _ h => h) (Or.inl ⟨by rfl, ?_⟩) (by assumption) ?_
 rotate_left
 · intro w hSw
   (try dsimp only at hSw)
   go_simp
   try with_reducible rfl
 try simp only [List.getElem_toArray, List.getElem_cons_succ, List.getElem_cons_zero, Act.put, List.setIfInBounds_toArray, List.set_cons_zero, List.set_cons_succ]
 have HROOM := Lib.hid (room_anyB base b size ss P w1.drew (HH.out.low HBD.out) (fun x hx => ⟨(HP0.out x hx).1, Nat.lt_of_lt_of_le (HP0.out x hx).2 HBD.out.size⟩) HK.out i a hi ha hz m n ⟨qA, qa, qB, qb⟩ (nd_base HN.out (HBD.out.mono hbb)) HF.out hm hown HK0.out)
 dsimp only at HROOM
 refine wpAnyH_ready (rs := [5]) (by kernel_rfl) (by simp) ?_
 refine AllReadyH.cons rfl (fun K hK => ?_) AllReadyH.nil
 go_simp
 go_at_call 72
 refine HROOM.out.mono ?_
 rintro e w2 (⟨hnone, rfl, hk2⟩ | ⟨s1, j, c, hsome, rfl, hk2, hB2⟩)
 · have HE9 : Hid (wrP 200 size (d + 1) n ss i a = none) := Lib.hid (by rw [HE.out, hnone]; rfl)
   have HK2 := Lib.hid ((KP.of_below HBD.out).trans hk2 (fun _ _ h => h))
   clear hk2 hnone hK
   go_wp2
   exact ⟨rfl, .inl ⟨HE9.out, rfl, HK2.out⟩⟩
 have HE1 : Hid (wrP 200 size (d + 1) n ss i a = fillP (wrP 200 size d) n s1 j c) := Lib.hid (by rw [HE.out, hsome]; rfl)
 obtain ⟨k2a, k2b, k2c, k2d⟩ := room_some HK.out hi ha hsome
 have HKW := Lib.hid ((KP.of_below HBD.out).trans hk2 (fun _ _ h => h) : KP P w w2)
 have HBT := Lib.hid hB2.tight
 have hs2 := hk2.size
 have hs1d : w1.drew.heap.size = w1.heap.size := rfl
 have n0' := kp_cell hk2 n0 (fun hp => by have := (HP0.out _ hp).2; simp at this)
 have n1' := kp_cell hk2 n1 (fun hp => by have := (HP0.out _ hp).2; simp at this)
 have n2' := kp_cell hk2 n2 (fun hp => by have := (HP0.out _ hp).2; simp at this)
 have n3' := kp_cell hk2 n3 (fun hp => by have := (HP0.out _ hp).2; simp at this)
 have n4' := kp_cell hk2 n4 (fun hp => by have := (HP0.out _ hp).2; simp at this)
 have n5' := kp_cell hk2 n5 (fun hp => by have := (HP0.out _ hp).2; simp at this)
 have t0' := kp_cell hk2 t0 (fun hp => by have := (HP0.out _ hp).2; simp at this; omega)
 have t1' := kp_cell hk2 t1 (fun hp => by have := (HP0.out _ hp).2; simp at this; omega)
 refine hK.out _ _ ?_ (fun hH1 => ?_)
 · exact ⟨⟨n0', n1', n2', n3', n4', n5'⟩, ⟨t0', t1'⟩⟩
 clear hK K hH0 hk2 hB2 hsome n0 n1 n2 n3 n4 n5 t0 t1
 try simp only [List.getElem_toArray, List.getElem_cons_succ, List.getElem_cons_zero, Act.put, List.setIfInBounds_toArray, List.set_cons_zero, List.set_cons_succ]
 have HFILL := Lib.hid (fill_any size d IH base b s1 _ w2 j c m n ⟨qA, qa, qB, qb⟩ HBT.out (fun x hx => ⟨hx.2.1, hx.2.2⟩) k2a k2c k2d HPO.out (nd_base HN.out (HKW.out.below hbb (fun x hx => (HP0.out x hx).1))) HF.out HWI.out hm hwin)
 dsimp only at HFILL
 have HPW : Hid (∀ x, x < w.heap.size → ((P x ∨ w1.drew.heap.size ≤ x) ∧ base ≤ x ∧ x < w2.heap.size) → P x) := Lib.hid (fun x hx hp => by
  rcases hp.1 with h | h
  · exact h
  · omega)
 have HNP : Hid (∀ x, w.heap.size ≤ x ∧ x < w.heap.size + 2 → ¬ ((P x ∨ w1.drew.heap.size ≤ x) ∧ base ≤ x ∧ x < w2.heap.size)) := Lib.hid (fun x hx hp => by
  rcases hp.1 with h | h
  · have := (HP0.out x h).2; omega
  · omega)
 refine wpAnyH_ready (rs := [6]) (by kernel_rfl) (by simp) ?_
 refine AllReadyH.cons rfl (fun K hK => ?_) AllReadyH.nil
 go_simp
 go_at_call 71
 refine HFILL.out.mono ?_
 rintro e w3 (⟨hnone, rfl, hk3⟩ | ⟨s2, hsome, rfl, hk3, hB3⟩)
 · have HE9 : Hid (wrP 200 size (d + 1) n ss i a = none) := Lib.hid (by rw [HE1.out]; exact hnone)
   have HK3 := Lib.hid (HKW.out.trans hk3 HPW.out)
   clear hk3 hnone hK
   go_wp2
   exact ⟨rfl, .inl ⟨HE9.out, rfl, HK3.out⟩⟩
 have HE9 : Hid (wrP 200 size (d + 1) n ss i a = some s2) := Lib.hid (by rw [HE1.out]; exact hsome)
 have HK3 := Lib.hid (HKW.out.trans hk3 HPW.out)
 have HB3 := Lib.hid (hB3.weak (Q := fun x => P x ∨ w.heap.size ≤ x) (fun x hx => by
  rcases hx with hx | hx
  · exact hx.1.imp id (fun h => by omega)
  · exact .inr (by omega)))
 have n0 := kp_cell hk3 n0' (HNP.out _ (by simp))
 have n1 := kp_cell hk3 n1' (HNP.out _ (by simp))
 have n2 := kp_cell hk3 n2' (HNP.out _ (by simp))
 have n3 := kp_cell hk3 n3' (HNP.out _ (by simp))
 have n4 := kp_cell hk3 n4' (HNP.out _ (by simp))
 have n5 := kp_cell hk3 n5' (HNP.out _ (by simp))
 have t0 := kp_cell hk3 t0' (HNP.out _ (by simp))
 have t1 := kp_cell hk3 t1' (HNP.out _ (by simp))
 refine hK.out _ _ ?_ (fun hH2 => ?_)
 · exact ⟨⟨n0, n1, n2, n3, n4, n5⟩, ⟨t0, t1⟩⟩
 clear hK K hH1 hk3 hB3 hsome n0 n1 n2 n3 n4 n5 t0 t1 n0' n1' n2' n3' n4' n5' t0' t1'
 refine wpAnyH_done (by kernel_rfl) ?_ _
 clear hH2
 go_wp2
 go_end0
 exact .inr ⟨s2, HE9.out, rfl, HK3.out, HB3.out⟩
set_option maxHeartbeats 4000000 in
set_option maxRecDepth 100000 in
theorem write_bare (size d : Nat) (base b : Nat) (ss : Segs) (P : Nat → Prop) (w : World) (i a m : Nat) (n : Nd) (h1 : Hd) (h : Bun w base b size ss P) (hP0 : ∀ k, P k → base ≤ k ∧ k < w.heap.size) (hk : SOk 200 ss) (hi : i < ss.length) (ha : a < wn (sgS ss i))
 (hn : NdAt w (fun k => k < base) m n h1) (hok : okN (d + 1) n = true) (hm : totN m n ≤ 2000000) (hws : wordsN (d + 1) n ≤ 300) (hk0 : n.kind ≠ 0) (hp : ownN n = 0) :
 Calls Tryz.prog 34 #[.pointer (some ⟨b, 0, none⟩), .agg #[.int .i64 n.kind, .string n.data, .slice h1.A n.ptrs.length h1.a, .int .i64 n.size, .int .i64 n.count, .slice h1.B n.items.length h1.b], .agg #[.int .i64 (i : Int), .int .i64 (a : Int)]] w (WrQ base b size P w (wrP 200 size (d + 1) n ss i a)) := by
 obtain ⟨qA, qa, qB, qb⟩ := h1
 dsimp only at hn ⊢
 have hf := ok_formN hok
 have hwi := wn_le_totS ss i
 have hto := hk.totS
 have hb0 : Below w.heap.size w ((w.alloc (.cells #[.int .i64 n.kind, .string n.data, .slice qA n.ptrs.length qa, .int .i64 n.size, .int .i64 n.count, .slice qB n.items.length qb] nodeT)).alloc (.cells #[.int .i64 (i : Int), .int .i64 (a : Int)] plT)) := ((Below.refl _ w).alloc (Nat.le_refl _) _).alloc (by simp) _
 have r0 : ((w.alloc (.cells #[.int .i64 n.kind, .string n.data, .slice qA n.ptrs.length qa, .int .i64 n.size, .int .i64 n.count, .slice qB n.items.length qb] nodeT)).alloc (.cells #[.int .i64 (i : Int), .int .i64 (a : Int)] plT)).heap[w.heap.size]? = some (.cells #[.int .i64 n.kind, .string n.data, .slice qA n.ptrs.length qa, .int .i64 n.size, .int .i64 n.count, .slice qB n.items.length qb] nodeT (0, 0)) := heap_alloc_keep (heap_alloc_new w _) _
 have r1 : ((w.alloc (.cells #[.int .i64 n.kind, .string n.data, .slice qA n.ptrs.length qa, .int .i64 n.size, .int .i64 n.count, .slice qB n.items.length qb] nodeT)).alloc (.cells #[.int .i64 (i : Int), .int .i64 (a : Int)] plT)).heap[w.heap.size + 1]? = some (.cells #[.int .i64 (i : Int), .int .i64 (a : Int)] plT (0, 0)) := by
  have := heap_alloc_new (w.alloc (.cells #[.int .i64 n.kind, .string n.data, .slice qA n.ptrs.length qa, .int .i64 n.size, .int .i64 n.count, .slice qB n.items.length qb] nodeT)) (.cells #[.int .i64 (i : Int), .int .i64 (a : Int)] plT)
  simpa using this
 have hs0 : ((w.alloc (.cells #[.int .i64 n.kind, .string n.data, .slice qA n.ptrs.length qa, .int .i64 n.size, .int .i64 n.count, .slice qB n.items.length qb] nodeT)).alloc (.cells #[.int .i64 (i : Int), .int .i64 (a : Int)] plT)).heap.size = w.heap.size + 2 := by simp
 have hbb : base ≤ w.heap.size := by obtain ⟨_, _, _, hX, _⟩ := h; have := (hX.lt b (.inl rfl)); omega
 have HH := Lib.hid h
 have HN := Lib.hid hn
 have HB0 := Lib.hid hb0
 have R0 := Lib.hid r0
 have R1 := Lib.hid r1
 have HP0 := Lib.hid hP0
 have HS0 := Lib.hid hs0
 have hown : ownN n ≤ 300 := Nat.le_trans own_le_words hws
 have hwin : ((ptrsL n).map (wordsN d)).sum ≤ 300 := by have : wordsN (d + 1) n = ownN n + ((ptrsL n).map (wordsN d)).sum := rfl; omega
 have HWI := Lib.hid (ok_within hok hk0)
 have hkb : (n.kind == 0) = false := by simpa using hk0
 have HOW := Lib.hid (fun (W : World) (hW : Below w.heap.size w W) => ownWords_a m n ⟨qA, qa, qB, qb⟩ W _ (hn.below hW) hf hm)
 dsimp only at HOW
 have HK := Lib.hid hk
 have HK0 := Lib.hid hk0
 have HF := Lib.hid hf
 have HE : Hid (wrP 200 size (d + 1) n ss i a = some (putS ss i a (ptrW n (if n.kind = 1 then -1 else 0)))) := Lib.hid (by simp only [wrP]; rw [if_neg hk0, if_pos hp])
 have hd0 : decide ((0 : Int) < (ownN n : Int)) = false := decide_eq_false (by omega)
 have hd1 : decide (0 < ownN n) = false := decide_eq_false (by omega)
 have HPT := Lib.hid (fun (W : World) (off : Int) (hW : Below base w W) => pointerTo_any m n ⟨qA, qa, qB, qb⟩ off W _ (nd_base hn hW) hf hm hown hk0)
 dsimp only at HPT
 have HST := Lib.hid (fun (W : World) (off : Int) (h0 : -100000 ≤ off) (h1 : off ≤ 100000) (hW : Bun W base b size ss P) => set_node base b size ss P W hW hk.wds i a hi ha (by omega) n hf hown hk0 off h0 h1)
 obtain ⟨hA1, hA2, hA3, hkk, _⟩ := form_small hf hown
 obtain ⟨B, hB⟩ : ∃ B : Bool, (n.kind == 1) = B := ⟨_, rfl⟩
 have HOFF : Hid ((if n.kind = 1 then (-1 : Int) else 0) = if B = true then -1 else 0) := Lib.hid (by
  rw [← hB]
  by_cases h : n.kind = 1
  · simp [h]
  · simp [h])
 clear hn h hb0 r0 r1 hP0 hs0 hk0 hf hok hk hp hkk
 cases B
 all_goals
  go_enter Tryz.func34, Tryz.ntmps34
  go_wp2_with fail
  refine (HOW.out _ HB0.out).mono ?_
  rintro e w1 ⟨rfl, hb1⟩
  have hr0 := (hb1.block _ (by have := HS0.out; omega)).trans R0.out
  have hr1 := (hb1.block _ (by have := HS0.out; omega)).trans R1.out
  have hsz1 : w.heap.size + 2 ≤ w1.heap.size := by have := hb1.size; have := HS0.out; omega
  have HB1 := Lib.hid (HB0.out.trans (hb1.mono HB0.out.size))
  obtain ⟨n0, n1, n2, n3, n4, n5⟩ := cells6 hr0
  obtain ⟨t0, t1⟩ := cell_pair hr1
  clear hb1 hr0 hr1 R0 R1 HB0 HS0
  go_wp2_with fail
  replace n0 : w1.drew.cell? ⟨w.heap.size, 0, none⟩ = some (.int .i64 n.kind) := n0
  replace n1 : w1.drew.cell? ⟨w.heap.size, 1, none⟩ = some (.string n.data) := n1
  replace n2 : w1.drew.cell? ⟨w.heap.size, 2, none⟩ = some (.slice qA n.ptrs.length qa) := n2
  replace n3 : w1.drew.cell? ⟨w.heap.size, 3, none⟩ = some (.int .i64 n.size) := n3
  replace n4 : w1.drew.cell? ⟨w.heap.size, 4, none⟩ = some (.int .i64 n.count) := n4
  replace n5 : w1.drew.cell? ⟨w.heap.size, 5, none⟩ = some (.slice qB n.items.length qb) := n5
  replace t0 : w1.drew.cell? ⟨w.heap.size + 1, 0, none⟩ = some (.int .i64 (i : Int)) := t0
  replace t1 : w1.drew.cell? ⟨w.heap.size + 1, 1, none⟩ = some (.int .i64 (a : Int)) := t1
  have HBD : Hid (Below w.heap.size w w1.drew) := Lib.hid HB1.out.drew
  go_region_held3 (fun V => (V.cell? ⟨w.heap.size, 0, none⟩ = some (.int .i64 n.kind) ∧ V.cell? ⟨w.heap.size, 1, none⟩ = some (.string n.data) ∧ V.cell? ⟨w.heap.size, 2, none⟩ = some (.slice qA n.ptrs.length qa) ∧ V.cell? ⟨w.heap.size, 3, none⟩ = some (.int .i64 n.size) ∧ V.cell? ⟨w.heap.size, 4, none⟩ = some (.int .i64 n.count) ∧ V.cell? ⟨w.heap.size, 5, none⟩ = some (.slice qB n.items.length qb)) ∧ (V.cell? ⟨w.heap.size + 1, 0, none⟩ = some (.int .i64 (i : Int)) ∧ V.cell? ⟨w.heap.size + 1, 1, none⟩ = some (.int .i64 (a : Int)))) (((first | exact ⟨⟨n0, n1, n2, n3, n4, n5⟩, ⟨t0, t1⟩⟩ | exact ⟨⟨kcw hb2 n0, kcw hb2 n1, kcw hb2 n2, kcw hb2 n3, kcw hb2 n4, kcw hb2 n5⟩, ⟨kcw hb2 t0, kcw hb2 t1⟩⟩ | exact ⟨⟨hk3c (kcw hb2 n0) (by simp), hk3c (kcw hb2 n1) (by simp), hk3c (kcw hb2 n2) (by simp), hk3c (kcw hb2 n3) (by simp), hk3c (kcw hb2 n4) (by simp), hk3c (kcw hb2 n5) (by simp)⟩, ⟨hk3c (kcw hb2 t0) (by simp), hk3c (kcw hb2 t1) (by simp)⟩⟩))) (first | (go_at_call 74; (with_reducible refine (HPT.out _ _ (HBD.out.mono hbb)).mono ?_); rintro e w2 ⟨rfl, hb2⟩) | (go_at_call 73; (with_reducible refine (HST.out w2 _ (by omega) (by omega) (HH.out.low (HBD.out.trans (hb2.mono HBD.out.size)))).mono ?_); rintro e w3 ⟨rfl, hk3, hB3⟩; have hk3c := fun {q : Addr} {u : Value} (hq : w2.cell? q = some u) (hp : w.heap.size ≤ q.block) => kp_cell hk3 hq (fun h => by have := (HP0.out _ h).2; omega)))
  have HK3 := Lib.hid ((KP.of_below (HBD.out.trans (hb2.mono HBD.out.size))).trans hk3 (fun _ _ h => h))
  have HB3 := Lib.hid (hB3.weak (Q := fun x => P x ∨ w.heap.size ≤ x) (fun _ h => .inl h))
  clear hk3 hB3 hb2 hk3c n0 n1 n2 n3 n4 n5 t0 t1
  go_wp2
  go_end0
  exact .inr ⟨_, by rw [HE.out, HOFF.out]; rfl, rfl, HK3.out, HB3.out⟩
theorem write_any (size : Nat) (hz : size ≤ 200) : ∀ d, WrD size d
 | 0 => fun base b ss P w i a m n h1 h hP0 hk hi ha hn hok hm hws => write_none size 0 base b ss P w i a m n h1 h hP0 hk hi ha hn hok hm hws (by simp only [okN, Bool.and_eq_true, decide_eq_true_eq] at hok; exact hok.2)
 | d + 1 => fun base b ss P w i a m n h1 h hP0 hk hi ha hn hok hm hws => by
   by_cases hk0 : n.kind = 0
   · exact write_none size (d + 1) base b ss P w i a m n h1 h hP0 hk hi ha hn hok hm hws hk0
   · by_cases hp : ownN n = 0
     · exact write_bare size d base b ss P w i a m n h1 h hP0 hk hi ha hn hok hm hws hk0 hp
     · exact write_own size d (write_any size hz d) hz base b ss P w i a m n h1 h hP0 hk hi ha hn hok hm hws hk0 (by omega)
end Go.Proofs.YtlbfffokkhccaaaGreatDoor
namespace Go.Proofs.YtlbfffokkhccaaaGreatDoor
open Go.RowKit
theorem bsize : (Tryz.prog.info? 119).map (·.size) = some 2 := by kernel_rfl
theorem blies : liesAt Tryz.prog Tryz.prog.depth 119 (2 / Tryz.prog.cellsOf 119) 0 119 1 = true := by kernel_rfl
theorem binfo5 : (Tryz.prog.info? 5).map (fun i => (i.zero, i.size, i.bytes)) = some (some (.int .u8 0), 1, 1) := by kernel_rfl
set_option maxHeartbeats 1000000 in
theorem copyCheck_used (b : Nat) (w : World) (h0 : w.cell? ⟨b, 0, none⟩ = some (.pointer (some ⟨b, 0, none⟩))) :
 Calls Tryz.prog 121 #[.pointer (some ⟨b, 0, none⟩)] w fun e w' => e = .returned (.tuple #[]) ∧ w' = w := by
 obtain ⟨j, hj, _⟩ := Option.map_eq_some_iff.1 bsize
 have hne := Lib.run_neq_ptr_same (P := Tryz.prog) w (tp := 117) (te := 119) ⟨b, 0, none⟩ Tryz.underlying117 hj
 go_enter Tryz.func121, Tryz.ntmps121
 go_wp2
 go_end0
 exact ⟨rfl, rfl⟩
set_option maxHeartbeats 1000000 in
theorem copyCheck_fresh (b : Nat) (w : World) (h0 : w.cell? ⟨b, 0, none⟩ = some (.pointer none)) (hsh : w.shape? b = some (119, 2)) (hfz : w.frozen? ⟨b, 0, none⟩ = false) :
 Calls Tryz.prog 121 #[.pointer (some ⟨b, 0, none⟩)] w fun e w' => e = .returned (.tuple #[]) ∧ w' = w.setCell ⟨b, 0, none⟩ (.pointer (some ⟨b, 0, none⟩)) := by
 obtain ⟨j, hj, hjs⟩ := Option.map_eq_some_iff.1 bsize
 have hto := Lib.run_to_unsafe (P := Tryz.prog) w (src := 117) (dst := 134) (t := 119) ⟨b, 0, none⟩ Tryz.underlying117 Tryz.underlying134 hj (by rw [hjs]; decide) hsh (Nat.zero_lt_succ 1)
 have hfrom := Lib.run_from_unsafe (P := Tryz.prog) w (src := 134) (dst := 117) (u := 119) ⟨b, 0, none⟩ Tryz.underlying134 Tryz.underlying117 hj hsh blies
 have hesc : (callFunc 161 #[.pointer (some ⟨b, 0, none⟩)]).run Tryz.prog w = .ok (.value (.pointer (some ⟨b, 0, none⟩))) w := by
  rw [run_callFunc_extern Tryz.func161 (by kernel_rfl) (by kernel_rfl) (by kernel_rfl) (e := Extern.AbiNoEscape.same) (by kernel_rfl), Lib.run_noEscape]
  rfl
 go_enter Tryz.func121, Tryz.ntmps121
 go_wp2
 go_end0
 exact ⟨rfl, rfl⟩
def Bld (B b : Nat) (bs : List Value) (w : World) : Prop :=
 ∃ p v, (p = .pointer none ∨ p = .pointer (some ⟨b, 0, none⟩)) ∧ w.heap[b]? = some (.cells #[p, v] 119 (0, 0)) ∧ w.ownsRow B 5 1 v bs.length bs
theorem Bld.fresh {w : World} {b : Nat} (B : Nat) (h : w.heap[b]? = some (.cells #[.pointer none, .slice none 0 0] 119 (0, 0))) : Bld B b [] w :=
 ⟨_, _, .inl rfl, h, World.ownsRow_nil _ _ _ _⟩
theorem Bld.is {B b B' : Nat} {bs : List Value} {w : World} (h : Bld B b bs w) (h1 : B' ≤ B) (h2 : B' ≤ b) : Lib.IsBuilder 119 5 B' b bs w := by
 obtain ⟨p, v, hp, hb, hown⟩ := h
 have hne := Lib.ownBlock_ne hown hb (by decide)
 have hown' : w.ownsRow B' 5 1 v bs.length bs := ⟨hown.1, hown.2.imp (fun x => x) (fun ⟨g, cap, cur, hv, hg, r⟩ => ⟨g, cap, cur, hv, Nat.le_trans h1 hg, r⟩)⟩
 rcases hp with rfl | rfl
 · exact .inl ⟨h2, v, hb, hown', hne⟩
 · exact .inr ⟨h2, v, hb, hown', hne⟩
theorem pair_set {w : World} {b : Nat} {p v q : Value} {T : TypeId} (h : w.heap[b]? = some (.cells #[p, v] T (0, 0))) : (w.setCell ⟨b, 0, none⟩ q).heap[b]? = some (.cells #[q, v] T (0, 0)) := by
 simp [World.setCell, Array.getElem?_modify, h]
theorem set_grown (w : World) (b i : Nat) (u : Value) : w.grownBy (w.setCell ⟨b, i, none⟩ u) (some b) :=
 ⟨rfl, rfl, rfl, by simp [World.setCell], fun k _ hk => Below.heap_setCell w ⟨b, i, none⟩ u k (fun e => hk (by rw [e]))⟩
def Self (B b : Nat) (v : Value) (bs : List Value) (w0 w : World) : Prop :=
 w.heap[b]? = some (.cells #[.pointer (some ⟨b, 0, none⟩), v] 119 (0, 0)) ∧ w.ownsRow B 5 1 v bs.length bs ∧ Keeps B b w0 w ∧ w.heap.size = w0.heap.size
theorem copyCheck_any (B b : Nat) (bs : List Value) (w : World) (h : Bld B b bs w) :
 ∃ v, Calls Tryz.prog 121 #[.pointer (some ⟨b, 0, none⟩)] w fun e w' => e = .returned (.tuple #[]) ∧ Self B b v bs w w' := by
 obtain ⟨p, v, hp, hb, hown⟩ := h
 have hne := Lib.ownBlock_ne hown hb (by decide)
 obtain ⟨c0, _⟩ := cell_pair hb
 rcases hp with rfl | rfl
 · refine ⟨v, (copyCheck_fresh b w c0 (by simp [World.shape?, hb]) (Lib.frozen_of_heap hb 0)).mono ?_⟩
   rintro e w' ⟨rfl, rfl⟩
   exact ⟨rfl, pair_set hb, hown.kept (set_grown w b 0 _) (.inr hne), set_keeps B b w 0 _, by simp [World.setCell]⟩
 · refine ⟨v, (copyCheck_used b w c0).mono ?_⟩
   rintro e w' ⟨rfl, rfl⟩
   exact ⟨rfl, hb, hown, Keeps.refl _ _ _, rfl⟩
theorem Self.put {B b : Nat} {bs new : List Value} {v v' : Value} {w0 w1 w2 : World} (h : Self B b v bs w0 w1) {wx : World} (hx : Keeps w1.heap.size w1.heap.size w1 wx) (hg : wx.grownBy w2 v.ownBlock) (hown : w2.ownsRow B 5 1 v' (bs ++ new).length (bs ++ new)) :
 w2.heap[b]? = some (.cells #[.pointer (some ⟨b, 0, none⟩), v] 119 (0, 0)) ∧ Bld B b (bs ++ new) (w2.setCell ⟨b, 1, none⟩ v') ∧ (B ≤ w1.heap.size → Keeps B b w0 (w2.setCell ⟨b, 1, none⟩ v')) := by
 obtain ⟨hb, ho, hk, _⟩ := h
 have hne := Lib.ownBlock_ne ho hb (by decide)
 have hlt : b < w1.heap.size := by
  rcases Nat.lt_or_ge b w1.heap.size with hlt | hge
  · exact hlt
  · rw [Array.getElem?_eq_none hge] at hb; cases hb
 have h2 : w2.heap[b]? = some (.cells #[.pointer (some ⟨b, 0, none⟩), v] 119 (0, 0)) :=
  (hg.block b (Nat.lt_of_lt_of_le hlt hx.size) (Ne.symm hne)).trans ((hx.block b hlt (by omega)).trans hb)
 have hne2 := Lib.ownBlock_ne hown h2 (by decide)
 refine ⟨h2, ⟨_, _, .inr rfl, pair_set1 h2, hown.kept (set_grown w2 b 1 _) (.inr hne2)⟩, fun hB => hk.trans ?_⟩
 refine Keeps.trans (c := w2) ⟨hg.os.trans hx.os, hg.tape.trans hx.tape, hg.output.trans hx.output, Nat.le_trans hx.size hg.size, fun k hk' hn => ?_⟩ (set_keeps B b w2 1 _)
 refine (hg.block k (Nat.lt_of_lt_of_le (Nat.lt_of_lt_of_le hk' hB) hx.size) (fun e => ?_)).trans (hx.block k (by omega) (by omega))
 have := (ho.lt k e.symm).1
 omega
end Go.Proofs.YtlbfffokkhccaaaGreatDoor
namespace Go.Proofs.YtlbfffokkhccaaaGreatDoor
open Go.RowKit
theorem own_any {w : World} {B e n : Nat} {v : Value} {xs : List Value} (h : w.ownsRow B e 1 v n xs) : ∃ A cap, v = .slice A n cap := by
 rcases h.2 with ⟨rfl, rfl⟩ | ⟨g, cap, _, rfl, _⟩
 · exact ⟨none, 0, rfl⟩
 · exact ⟨_, cap, rfl⟩
theorem bld_below {B b : Nat} {bs : List Value} {w w' : World} (h : Bld B b bs w) (hb : Below w.heap.size w w') : Bld B b bs w' := by
 obtain ⟨p, v, hp, hr, hown⟩ := h
 exact ⟨p, v, hp, (hb.block b (row_lt hr)).trans hr, hown.kept (row := none) ⟨hb.os, hb.tape, hb.output, hb.size, fun k hk _ => hb.block k hk⟩ (Classical.em _)⟩
set_option maxHeartbeats 1000000 in
set_option maxRecDepth 100000 in
theorem writeString_any (B b : Nat) (bs : List Value) (s : ByteArray) (w : World) (h : Bld B b bs w) (hlen : bs.length ≤ 1099511627776) (hs : s.size ≤ 1099511627776) (hBw : B ≤ w.heap.size) :
 Calls Tryz.prog 75 #[.pointer (some ⟨b, 0, none⟩), .string s] w fun e w' => e = .returned (.tuple #[.int .i64 s.size, .nilIface]) ∧ (Bld B b (bs ++ Lib.strCells s) w' ∧ Keeps B b w w') := by
 obtain ⟨i0, hi, hz0, hz1, hz2⟩ := info_parts binfo5
 obtain ⟨v, hcc⟩ := copyCheck_any B b bs w h
 have HC := Lib.hid hcc
 clear hcc h
 have hsl := Lib.strCells_length s
 have HSL := Lib.hid hsl
 clear hsl
 go_enter Tryz.func75, Tryz.ntmps75
 go_wp2_with (first | (go_at_call 121; refine HC.out.mono ?_; rintro e w1 ⟨rfl, hS⟩; have hT := Lib.hid hS; have hsz := Nat.le_trans hBw (Nat.le_of_eq hS.2.2.2.symm); have c1 := (cell_pair hS.1).2; clear hS) | (at_builtin; go_must (refine Lib.wpList_append_own_string _ rfl (.tmp 12) (.tmp 13) 22 9 rfl B 5 i0 Tryz.underlying22 Tryz.underlying9 hi hz0 hz1 hz2 v _ _ rfl hT.out.2.1 s rfl (by unfold maxLen; omega) (by omega) hsz ?_); intro v' w2 hown' hgrow _; obtain ⟨h2, hU, hKp⟩ := hT.out.put (new := Lib.strCells s) (Keeps.refl _ _ _) hgrow (by rw [List.length_append, HSL.out]; exact hown'); have d1 := (cell_pair h2).2; have f1 := Lib.frozen_of_heap h2 1; obtain ⟨g, cap, rfl⟩ := own_any hown'; clear h2 hgrow))
 go_ret2
 exact ⟨rfl, hU, hKp hsz⟩
end Go.Proofs.YtlbfffokkhccaaaGreatDoor
namespace Go.Proofs.YtlbfffokkhccaaaGreatDoor
open Go.Shelf Go.RowKit
def strRen : Go.Shelf.Ren := ⟨fun | 169 => 76 | n => n, fun | 70 => 117 | 9 => 9 | 0 => 0 | 72 => 119 | 37 => 22 | 127 => 188 | 3 => 3 | 5 => 5 | n => n, fun | n => n⟩
theorem strLays : Go.Proofs.Lays.n169 Tryz.prog strRen := {
 mixed := by kernel_rfl
 f169 := Tryz.func76.trans (congrArg some (by kernel_rfl))
 t0 := Tryz.underlying0, a0 := Tryz.isAgg0, z0 := Tryz.sizeOf0, v0 := Tryz.zeroValue0
 t3 := Tryz.underlying3, a3 := Tryz.isAgg3, z3 := Tryz.sizeOf3, v3 := Tryz.zeroValue3
 t9 := Tryz.underlying9, a9 := Tryz.isAgg9, z9 := Tryz.sizeOf9, v9 := Tryz.zeroValue9
 t37 := Tryz.underlying22, a37 := Tryz.isAgg22, z37 := Tryz.sizeOf22, v37 := Tryz.zeroValue22
 t70 := Tryz.underlying117, a70 := Tryz.isAgg117, z70 := Tryz.sizeOf117, v70 := Tryz.zeroValue117
 t72 := Tryz.underlying119, a72 := Tryz.isAgg119, z72 := Tryz.sizeOf119, v72 := Tryz.zeroValue119
 t127 := Tryz.underlying188, a127 := Tryz.isAgg188, z127 := Tryz.sizeOf188, v127 := Tryz.zeroValue188 }
theorem strExtra : Builder.Extra Tryz.prog strRen := {
 sizeBuilder := by kernel_rfl
 liesBuilder := by kernel_rfl
 t5 := Tryz.underlying5, a5 := Tryz.isAgg5, z5 := Tryz.sizeOf5, v5 := Tryz.zeroValue5
 infoByte := by kernel_rfl
 cellsByte := by kernel_rfl
 sizeByte := by kernel_rfl
 neB5 := by decide }
theorem string_any (B b : Nat) (l : List UInt8) (w : World) (h : Lib.IsBuilder 119 5 B b (Lib.byteCells l) w) (hBw : B ≤ w.heap.size) :
 Calls Tryz.prog 76 #[.pointer (some ⟨b, 0, none⟩)] w fun e w' => e = .returned (.string ⟨l.toArray⟩) ∧ Below B w w' := Any.Builder_String_any strLays strExtra B b l w h hBw
end Go.Proofs.YtlbfffokkhccaaaGreatDoor