/- Texts of the proof of the law FnSendShort, side by side: part 18. -/
import Derived.Test.YtbijfkpilncclaaGreatMSendShort00
import Derived.Test.YtbijfkpilncclaaGreatMSendShort01
import Derived.Test.YtbijfkpilncclaaGreatMSendShort02
import Derived.Test.YtbijfkpilncclaaGreatMSendShort03
import Derived.Test.YtbijfkpilncclaaGreatMSendShort04
import Derived.Test.YtbijfkpilncclaaGreatMSendShort05
import Derived.Test.YtbijfkpilncclaaGreatMSendShort06
import Derived.Test.YtbijfkpilncclaaGreatMSendShort07
import Derived.Test.YtbijfkpilncclaaGreatMSendShort08
import Derived.Test.YtbijfkpilncclaaGreatMSendShort09
import Derived.Test.YtbijfkpilncclaaGreatMSendShort10
import Derived.Test.YtbijfkpilncclaaGreatMSendShort11
import Derived.Test.YtbijfkpilncclaaGreatMSendShort12
import Derived.Test.YtbijfkpilncclaaGreatMSendShort13
import Derived.Test.YtbijfkpilncclaaGreatMSendShort14
import Derived.Test.YtbijfkpilncclaaGreatMSendShort15
import Derived.Test.YtbijfkpilncclaaGreatMSendShort16
import Derived.Test.YtbijfkpilncclaaGreatMSendShort17
namespace Go.Proofs.YtbijfkpilncclaaGreat
open Go.RowKit Go.Deep
def ptV (n : Nd) (off : Int) : Value :=
  if n.kind = 1 then .iface 149 (.agg #[.int .i64 off, .int .i64 (n.data.size / 8 : Nat), .int .i64 (n.ptrs.length : Nat)])
  else if n.size = 7 then .iface 156 (.agg #[.int .i64 off, .int .i64 7, .int .i64 ((ownN n : Int) - 1)]) else .iface 156 (.agg #[.int .i64 off, .int .i64 n.size, .int .i64 n.count])
theorem form_small {n : Nd} (hf : formN n = true) (ho : ownN n ≤ 300) : n.data.size ≤ 2400 ∧ n.ptrs.length ≤ 300 ∧ n.items.length ≤ 20000 ∧ (n.kind ≠ 0 → n.kind = 1 ∨ n.kind = 2) ∧ (n.kind = 2 → 0 ≤ n.size ∧ n.size ≤ 7 ∧ 0 ≤ n.count ∧ n.count < 12801) ∧ (n.kind = 2 → n.size = 7 → 1 ≤ ownN n ∧ (n.items.length : Int) = n.count ∧ n.data.size = 0 ∧ n.ptrs.length = 0) ∧ (n.kind = 1 → n.data.size % 8 = 0) := by
  have hb : ownB n ≤ ownN n := by unfold ownN; omega
  have hd : n.data.size ≤ 2400 := by unfold ownB at hb; omega
  have hp : n.ptrs.length ≤ 300 := by unfold ownB at hb; omega
  rcases form_cases hf with h | h | ⟨h1, h2, h | h | h⟩
  · exact ⟨hd, hp, by omega, fun e => by omega, fun e => by omega, fun e => by omega, fun e => by omega⟩
  · exact ⟨hd, hp, by omega, fun _ => .inl h.1, fun e => by omega, fun e => by omega, fun _ => by omega⟩
  · exact ⟨hd, hp, by omega, fun _ => .inr h1, fun _ => by omega, fun _ e => by omega, fun e => by omega⟩
  · exact ⟨hd, hp, by omega, fun _ => .inr h1, fun _ => by omega, fun _ e => by omega, fun e => by omega⟩
  · refine ⟨hd, hp, by omega, fun _ => .inr h1, fun _ => by omega, fun _ _ => ⟨?_, by omega, by omega, by omega⟩, fun e => by omega⟩
    unfold ownN
    rw [if_pos ⟨h1, h.1⟩]
    omega
set_option maxHeartbeats 2000000 in
set_option maxRecDepth 100000 in
theorem pointerTo_any (m : Nat) (n : Nd) (h : Hd) (off : Int) (w : World) (S : Nat → Prop) (hn : NdAt w S m n h) (hf : formN n = true) (ht : totN m n ≤ 2000000) (ho : ownN n ≤ 300) (hk : n.kind ≠ 0) :
    Calls Tryz.prog 80 #[.agg #[.int .i64 n.kind, .string n.data, .slice h.A n.ptrs.length h.a, .int .i64 n.size, .int .i64 n.count, .slice h.B n.items.length h.b], .int .i64 off] w fun e w' => e = .returned (ptV n off) ∧ Below w.heap.size w w' := by
  obtain ⟨qA, qa, qB, qb⟩ := h
  obtain ⟨hd, hp, _, hkk, hs, h7, h8⟩ := form_small hf ho
  have hb0 : Below w.heap.size w (w.alloc (.cells #[.int .i64 n.kind, .string n.data, .slice qA n.ptrs.length qa, .int .i64 n.size, .int .i64 n.count, .slice qB n.items.length qb] nodeT)) := (Below.refl _ w).alloc (Nat.le_refl _) _
  rcases hkk hk with k1 | k2
  · have hkb : (n.kind == 1) = true := by rw [k1]; rfl
    have HE : Hid (ptV n off = .iface 149 (.agg #[.int .i64 off, .int .i64 (n.data.size / 8 : Nat), .int .i64 (n.ptrs.length : Nat)])) := Lib.hid (by unfold ptV; rw [if_pos k1])
    rw [HE.out]
    have HB := Lib.hid hb0
    have e8 : (n.data.size : Int) / 8 = ((n.data.size / 8 : Nat) : Int) := by omega
    rw [← e8]
    clear hn hf hkk hs h7 h8 hk k1 hb0 e8
    dsimp only
    go_enter Tryz.func80, Tryz.ntmps80
    go_wp2
    go_ret
    exact ⟨rfl, HB.out⟩
  · have hkb : (n.kind == 1) = false := by rw [k2]; rfl
    have HOW := Lib.hid (ownWords_a m n ⟨qA, qa, qB, qb⟩ _ S (hn.below hb0) hf ht)
    have HB := Lib.hid hb0
    have hs' := hs k2
    have k1 : ¬ n.kind = 1 := by omega
    dsimp only at HOW
    by_cases e7 : n.size = 7
    · have hsb : (n.size == 7) = true := by rw [e7]; rfl
      have HE : Hid (ptV n off = .iface 156 (.agg #[.int .i64 off, .int .i64 7, .int .i64 ((ownN n : Int) - 1)])) := Lib.hid (by unfold ptV; rw [if_neg k1, if_pos e7])
      rw [HE.out]
      have h1 := (h7 k2 e7).1
      generalize ownN n = on at *
      clear hn hf hkk hs h7 h8 hk k1 k2 hb0 e7 hs'
      dsimp only
      go_enter Tryz.func80, Tryz.ntmps80
      go_wp2_with fail
      refine HOW.out.mono ?_
      rintro e w1 ⟨rfl, hb1⟩
      have HB1 := Lib.hid (HB.out.trans (hb1.mono HB.out.size))
      clear hb1
      go_wp2
      go_ret
      exact ⟨rfl, HB1.out⟩
    · have hsb : (n.size == 7) = false := by simpa using e7
      have HE : Hid (ptV n off = .iface 156 (.agg #[.int .i64 off, .int .i64 n.size, .int .i64 n.count])) := Lib.hid (by unfold ptV; rw [if_neg k1, if_neg e7])
      rw [HE.out]
      clear hn hf hkk hs h7 h8 hk k1 k2 hb0 e7 hs' HOW
      dsimp only
      go_enter Tryz.func80, Tryz.ntmps80
      go_wp2
      go_ret
      exact ⟨rfl, HB.out⟩
theorem set_node (base b size : Nat) (ss : Segs) (P : Nat → Prop) (w : World) (h : Bun w base b size ss P) (hw8 : WdS ss) (i a : Nat) (hi : i < ss.length) (ha : a < wn (sgS ss i)) (ht : totS ss ≤ 100000) (n : Nd) (hf : formN n = true) (ho : ownN n ≤ 300) (hk : n.kind ≠ 0) (off : Int) (h0 : -100000 ≤ off) (h1 : off ≤ 100000) :
    Calls Tryz.prog 79 #[.pointer (some ⟨b, 0, none⟩), .agg #[.int .i64 (i : Int), .int .i64 (a : Int)], ptV n off] w (SetP base b size ss i a (ptrW n off) P w) := by
  obtain ⟨hd, hp, _, hkk, hs, h7, h8⟩ := form_small hf ho
  unfold ptV ptrW
  split
  · exact set_str base b size ss P w h hw8 i a hi ha ht off _ _ (by omega) (by omega) (by omega) (by omega) (by omega) (by omega)
  · have k2 : n.kind = 2 := by rcases hkk hk with e | e <;> omega
    have := hs k2
    split
    · rename_i e7
      have := h7 k2 e7
      exact set_lis base b size ss P w h hw8 i a hi ha ht off 7 _ (by omega) (by omega) (by omega) (by omega) (by omega) (by omega)
    · exact set_lis base b size ss P w h hw8 i a hi ha ht off _ _ (by omega) (by omega) (by omega) (by omega) (by omega) (by omega)
end Go.Proofs.YtbijfkpilncclaaGreat

namespace Go.Proofs.YtbijfkpilncclaaGreat
open Go.RowKit Go.Deep
def OthQ (base b size : Nat) (P : Nat → Prop) (w : World) (r : Option (Segs × Nat)) (e : Ending) (w' : World) : Prop :=
  (r = none ∧ Too P w e w') ∨ ∃ s1 j, r = some (s1, j) ∧ e = .returned (.int .i64 (j : Int)) ∧ KP P w w' ∧ Bun w' base b size s1 (fun k => P k ∨ w.heap.size ≤ k)
set_option maxHeartbeats 2000000 in
set_option maxRecDepth 100000 in
theorem other_any (base b size : Nat) (ss : Segs) (P : Nat → Prop) (w : World) (h : Bun w base b size ss P) (k : Nat) (h1 : 1 ≤ ss.length) (h6 : ss.length ≤ 6) (hz : size ≤ 100000) (hk : k ≤ 100000) (ht : totS ss ≤ 100000) :
    Calls Tryz.prog 116 #[.pointer (some ⟨b, 0, none⟩), .int .i64 (k : Int)] w (OthQ base b size P w (otherP size ss k)) := by
  have HH := Lib.hid h
  obtain ⟨row, g, v, hB, hP⟩ := h
  obtain ⟨A, cap, rfl⟩ := own_sliceW hB.hr
  obtain ⟨c0, c1, c2⟩ := cells3 hB.hb
  have e1 : (ss.length : Int) - 1 = ((ss.length - 1 : Nat) : Int) := by omega
  have HF := Lib.hid (fits_any base b size ss P w HH.out (ss.length - 1) k (by omega) hz hk ht)
  rw [← e1] at HF
  have HE : Hid (otherP size ss k = if fitS size ss (ss.length - 1) k = true then some (ss, ss.length - 1) else if ss.length < 6 then some (ss ++ [[]], ss.length) else none) := Lib.hid (by unfold otherP fitS; simp)
  cases hf : fitS size ss (ss.length - 1) k
  · rw [hf] at HF HE
    by_cases hl : ss.length < 6
    · have HE2 : Hid (otherP size ss k = some (ss ++ [[]], ss.length)) := Lib.hid (by rw [HE.out, if_neg (by decide), if_pos hl])
      clear hB hP hf e1 HE
      go_enter Tryz.func116, Tryz.ntmps116
      go_wp2_with fail
      refine HF.out.mono ?_
      rintro e w1 ⟨rfl, hb1⟩
      have HB1 := Lib.hid hb1
      clear hb1
      go_wp2_with fail
      refine (open_more base b size ss P w1 (HH.out.low HB1.out) hl).mono ?_
      rintro e w2 ⟨rfl, hk2, hB2⟩
      have HK2 := Lib.hid hk2
      have HB2 := Lib.hid hB2
      clear hk2 hB2
      go_wp2
      go_ret
      exact .inr ⟨_, _, HE2.out, rfl, (KP.of_below HB1.out).trans HK2.out (fun _ _ h => h), HB2.out.weak (fun k hk => hk.imp id (fun h => Nat.le_trans HB1.out.size h))⟩
    · have HE2 : Hid (otherP size ss k = none) := Lib.hid (by rw [HE.out, if_neg (by decide), if_neg hl])
      have hl6 : ss.length = 6 := by omega
      have HL6 := Lib.hid hl6
      clear hB hP hf e1 HE hl6
      go_enter Tryz.func116, Tryz.ntmps116
      go_wp2_with fail
      refine HF.out.mono ?_
      rintro e w1 ⟨rfl, hb1⟩
      have HB1 := Lib.hid hb1
      clear hb1
      go_wp2_with fail
      refine (open_full base b size ss P w1 (HH.out.low HB1.out) HL6.out).mono ?_
      rintro e w2 ⟨rfl, hk2⟩
      have HK2 := Lib.hid hk2
      clear hk2
      go_wp2
      exact ⟨rfl, .inl ⟨HE2.out, rfl, (KP.of_below HB1.out).trans HK2.out (fun _ _ h => h)⟩⟩
  · rw [hf] at HF HE
    have HE2 : Hid (otherP size ss k = some (ss, ss.length - 1)) := Lib.hid (by rw [HE.out, if_pos rfl])
    have HE1 := Lib.hid e1
    clear hB hP hf e1 HE
    go_enter Tryz.func116, Tryz.ntmps116
    go_wp2_with fail
    refine HF.out.mono ?_
    rintro e w1 ⟨rfl, hb1⟩
    have HB1 := Lib.hid hb1
    clear hb1
    go_wp2
    go_ret
    exact .inr ⟨_, _, HE2.out, ret_int HE1.out, KP.of_below HB1.out, (HH.out.low HB1.out).weak (fun _ h => .inl h)⟩
end Go.Proofs.YtbijfkpilncclaaGreat

namespace Go.Proofs.YtbijfkpilncclaaGreat
open Go.RowKit Go.Deep
def RoomQ (base b size : Nat) (P : Nat → Prop) (w : World) (r : Option (Segs × Nat × Nat)) (e : Ending) (w' : World) : Prop :=
  (r = none ∧ Too P w e w') ∨ ∃ s1 j c, r = some (s1, j, c) ∧ e = .returned (.agg #[.int .i64 (j : Int), .int .i64 (c : Int)]) ∧ KP P w w' ∧ Bun w' base b size s1 (fun k => P k ∨ w.heap.size ≤ k)
theorem KP.row {P : Nat → Prop} {w w' : World} (h : KP P w w') {k : Nat} {o : Obj} (hk : w.heap[k]? = some o) (hn : ¬ P k) : w'.heap[k]? = some o := (h.block k (row_lt hk) hn).trans hk
theorem nd_base {w w' : World} {base m : Nat} {n : Nd} {h : Hd} (hn : NdAt w (fun k => k < base) m n h) (hb : Below base w w') : NdAt w' (fun k => k < base) m n h := hn.map (fun _ h => h) (fun _ _ _ hs hc => hc.block (hb.block _ hs))
theorem kp_cell {P : Nat → Prop} {w w' : World} {q : Addr} {u : Value} (h : KP P w w') (hq : w.cell? q = some u) (hn : ¬ P q.block) : w'.cell? q = some u := (World.cell?_of_block (h.block q.block (World.block_lt_of_cell? w q hq) hn)).trans hq
set_option maxHeartbeats 4000000 in
set_option maxRecDepth 100000 in
theorem room_here (base b size : Nat) (ss : Segs) (P : Nat → Prop) (w : World) (h : Bun w base b size ss P) (hP0 : ∀ k, P k → base ≤ k ∧ k < w.heap.size) (hw8 : WdS ss) (i a : Nat) (hi : i < ss.length) (ha : a < wn (sgS ss i)) (ht : totS ss ≤ 200) (hz : size ≤ 200)
    (m : Nat) (n : Nd) (h1 : Hd) (hn : NdAt w (fun k => k < base) m n h1) (hf : formN n = true) (hm : totN m n ≤ 2000000) (ho : ownN n ≤ 300) (hk : n.kind ≠ 0) (hfit : wn (sgS ss i) + ownN n ≤ size) :
    Calls Tryz.prog 78 #[.pointer (some ⟨b, 0, none⟩), .agg #[.int .i64 n.kind, .string n.data, .slice h1.A n.ptrs.length h1.a, .int .i64 n.size, .int .i64 n.count, .slice h1.B n.items.length h1.b], .agg #[.int .i64 (i : Int), .int .i64 (a : Int)]] w (RoomQ base b size P w (roomP 200 size n ss i a)) := by
  obtain ⟨qA, qa, qB, qb⟩ := h1
  dsimp only at hn ⊢
  have hwi := wn_le_totS ss i
  have hF : fitS size ss i (ownN n) = true := by unfold fitS; exact decide_eq_true hfit
  have HE : Hid (roomP 200 size n ss i a = if totS ss + ownN n ≤ 200 then some (putS (growB ss i (ownN n)) i a (ptrW n ((wn (sgS ss i) : Int) - a - 1)), i, wn (sgS ss i)) else none) := Lib.hid (by unfold roomP; rw [if_pos hfit])
  have hb0 : Below w.heap.size w (((w.alloc (.cells #[.int .i64 n.kind, .string n.data, .slice qA n.ptrs.length qa, .int .i64 n.size, .int .i64 n.count, .slice qB n.items.length qb] nodeT)).alloc (.cells #[.int .i64 (i : Int), .int .i64 (a : Int)] plT)).alloc (.cells #[.int .i64 0, .int .i64 0] plT)) := (((Below.refl _ w).alloc (Nat.le_refl _) _).alloc (by simp) _).alloc (by simp; omega) _
  have r0 : (((w.alloc (.cells #[.int .i64 n.kind, .string n.data, .slice qA n.ptrs.length qa, .int .i64 n.size, .int .i64 n.count, .slice qB n.items.length qb] nodeT)).alloc (.cells #[.int .i64 (i : Int), .int .i64 (a : Int)] plT)).alloc (.cells #[.int .i64 0, .int .i64 0] plT)).heap[w.heap.size]? = some (.cells #[.int .i64 n.kind, .string n.data, .slice qA n.ptrs.length qa, .int .i64 n.size, .int .i64 n.count, .slice qB n.items.length qb] nodeT (0, 0)) := heap_alloc_keep (heap_alloc_keep (heap_alloc_new w _) _) _
  have r1 : (((w.alloc (.cells #[.int .i64 n.kind, .string n.data, .slice qA n.ptrs.length qa, .int .i64 n.size, .int .i64 n.count, .slice qB n.items.length qb] nodeT)).alloc (.cells #[.int .i64 (i : Int), .int .i64 (a : Int)] plT)).alloc (.cells #[.int .i64 0, .int .i64 0] plT)).heap[w.heap.size + 1]? = some (.cells #[.int .i64 (i : Int), .int .i64 (a : Int)] plT (0, 0)) := by
    have := heap_alloc_keep (heap_alloc_new (w.alloc (.cells #[.int .i64 n.kind, .string n.data, .slice qA n.ptrs.length qa, .int .i64 n.size, .int .i64 n.count, .slice qB n.items.length qb] nodeT)) (.cells #[.int .i64 (i : Int), .int .i64 (a : Int)] plT)) (.cells #[.int .i64 0, .int .i64 0] plT)
    simpa using this
  have r2 : (((w.alloc (.cells #[.int .i64 n.kind, .string n.data, .slice qA n.ptrs.length qa, .int .i64 n.size, .int .i64 n.count, .slice qB n.items.length qb] nodeT)).alloc (.cells #[.int .i64 (i : Int), .int .i64 (a : Int)] plT)).alloc (.cells #[.int .i64 0, .int .i64 0] plT)).heap[w.heap.size + 2]? = some (.cells #[.int .i64 0, .int .i64 0] plT (0, 0)) := by
    have := heap_alloc_new ((w.alloc (.cells #[.int .i64 n.kind, .string n.data, .slice qA n.ptrs.length qa, .int .i64 n.size, .int .i64 n.count, .slice qB n.items.length qb] nodeT)).alloc (.cells #[.int .i64 (i : Int), .int .i64 (a : Int)] plT)) (.cells #[.int .i64 0, .int .i64 0] plT)
    simpa using this
  have hs0 : (((w.alloc (.cells #[.int .i64 n.kind, .string n.data, .slice qA n.ptrs.length qa, .int .i64 n.size, .int .i64 n.count, .slice qB n.items.length qb] nodeT)).alloc (.cells #[.int .i64 (i : Int), .int .i64 (a : Int)] plT)).alloc (.cells #[.int .i64 0, .int .i64 0] plT)).heap.size = w.heap.size + 3 := by simp
  have HN := Lib.hid hn
  have HH := Lib.hid h
  have HB0 := Lib.hid hb0
  have R0 := Lib.hid r0
  have R1 := Lib.hid r1
  have R2 := Lib.hid r2
  have HP0 := Lib.hid hP0
  have HS0 := Lib.hid hs0
  clear hn h hb0 r0 r1 r2 hP0 hs0 hfit
  go_enter Tryz.func78, Tryz.ntmps78
  go_wp2_with fail
  generalize ((w.alloc (.cells #[.int .i64 n.kind, .string n.data, .slice qA n.ptrs.length qa, .int .i64 n.size, .int .i64 n.count, .slice qB n.items.length qb] nodeT)).alloc (.cells #[.int .i64 (i : Int), .int .i64 (a : Int)] plT)).alloc (.cells #[.int .i64 0, .int .i64 0] plT) = W0 at *
  refine (ownWords_a m n ⟨qA, qa, qB, qb⟩ W0 _ (HN.out.below HB0.out) hf hm).mono ?_
  rintro e w1 ⟨rfl, hb1⟩
  have HB1 := Lib.hid hb1
  have HC0 := Lib.hid ((hb1.block _ (by have := HS0.out; omega)).trans R0.out)
  have HC1 := Lib.hid ((hb1.block _ (by have := HS0.out; omega)).trans R1.out)
  have HC2 := Lib.hid ((hb1.block _ (by have := HS0.out; omega)).trans R2.out)
  obtain ⟨d0, d1⟩ := cell_pair HC1.out
  clear hb1
  go_wp2_with fail
  refine (fits_any base b size ss P w1 (HH.out.low (HB0.out.trans (HB1.out.mono HB0.out.size))) i (ownN n) hi (by omega) (by omega) (by omega)).mono ?_
  rw [hF]
  rintro e w2 ⟨rfl, hb2⟩
  have HB2 := Lib.hid ((HB0.out.trans (HB1.out.mono HB0.out.size)).trans (hb2.mono (Nat.le_trans HB0.out.size HB1.out.size)))
  have hs2 : w.heap.size + 3 ≤ w2.heap.size := by have := HS0.out; have := HB1.out.size; have := hb2.size; omega
  have HC0' := Lib.hid ((hb2.block _ (row_lt HC0.out)).trans HC0.out)
  have HC1' := Lib.hid ((hb2.block _ (row_lt HC1.out)).trans HC1.out)
  have HC2' := Lib.hid ((hb2.block _ (row_lt HC2.out)).trans HC2.out)
  clear hb2 d0 d1 HC0 HC1 HC2 R0 R1 R2 hF
  obtain ⟨d0, d1⟩ := cell_pair HC1'.out
  have HB := Lib.hid (HH.out.low HB2.out)
  by_cases ht2 : totS ss + ownN n ≤ 200
  · have HE2 : Hid (roomP 200 size n ss i a = some (putS (growB ss i (ownN n)) i a (ptrW n ((wn (sgS ss i) : Int) - a - 1)), i, wn (sgS ss i))) := Lib.hid (by rw [HE.out, if_pos ht2])
    go_wp2_with fail
    refine (grow_more base b size ss P w2 HB.out hw8 i (ownN n) hi ht2).mono ?_
    rintro e w3 ⟨rfl, hk3, hB3⟩
    have hs3 := hk3.size
    have HK3 := Lib.hid hk3
    have HT3 := Lib.hid hB3.tight
    have HD0 := Lib.hid (hk3.row HC0'.out (fun hp => by have := HP0.out _ hp; omega))
    have HD1 := Lib.hid (hk3.row HC1'.out (fun hp => by have := HP0.out _ hp; omega))
    have HD2 := Lib.hid (hk3.row HC2'.out (fun hp => by have := HP0.out _ hp; omega))
    have hb4 : Below w3.heap.size w3 (w3.alloc (.cells #[.int .i64 (i : Int), .int .i64 (wn (sgS ss i) : Int)] plT)).drew := ((Below.refl _ _).alloc (Nat.le_refl _) _).drew
    obtain ⟨n0, n1, n2, n3, n4, n5⟩ := cells6 ((hb4.block _ (row_lt HD0.out)).trans HD0.out)
    obtain ⟨t0, t1⟩ := cell_pair ((hb4.block _ (row_lt HD1.out)).trans HD1.out)
    obtain ⟨u0, u1⟩ := cell_pair (heap_alloc_new w3 (.cells #[.int .i64 (i : Int), .int .i64 (wn (sgS ss i) : Int)] plT))
    replace u0 : (w3.alloc (.cells #[.int .i64 (i : Int), .int .i64 (wn (sgS ss i) : Int)] plT)).drew.cell? ⟨w3.heap.size, 0, none⟩ = some (.int .i64 (i : Int)) := u0
    replace u1 : (w3.alloc (.cells #[.int .i64 (i : Int), .int .i64 (wn (sgS ss i) : Int)] plT)).drew.cell? ⟨w3.heap.size, 1, none⟩ = some (.int .i64 (wn (sgS ss i) : Int)) := u1
    have HB4 := Lib.hid hb4
    have hbb : base ≤ w.heap.size := by obtain ⟨_, _, _, hX, _⟩ := HH.out; have := (hX.lt b (.inl rfl)); omega
    have HN4 : Hid (NdAt (w3.alloc (.cells #[.int .i64 (i : Int), .int .i64 (wn (sgS ss i) : Int)] plT)).drew (fun k => k < base) m n ⟨qA, qa, qB, qb⟩) := Lib.hid (nd_base HN.out (((HB2.out.mono hbb).trans (HK3.out.below (by omega) (fun k hp => (HP0.out k hp).1))).trans (HB4.out.mono (by omega))))
    have HNP : Hid (∀ x, (w.heap.size ≤ x ∧ x < w.heap.size + 3) ∨ x = w3.heap.size → ¬ ((P x ∨ w2.heap.size ≤ x) ∧ base ≤ x ∧ x < w3.heap.size)) := Lib.hid (fun x hx hp => by
      rcases hx with hx | hx
      · rcases hp.1 with h | h
        · have := HP0.out x h; omega
        · omega
      · omega)
    have hw1 : IntKind.i64.wrap ((wn (sgS ss i) : Int) - (a : Int)) = (wn (sgS ss i) : Int) - (a : Int) := by rw [IntKind.wrap_i64]; omega
    have hw2 : IntKind.i64.wrap ((wn (sgS ss i) : Int) - (a : Int) - 1) = (wn (sgS ss i) : Int) - (a : Int) - 1 := by rw [IntKind.wrap_i64]; omega
    clear hk3 hB3 hb4 d0 d1 HC0' HC1' HC2'
    go_wp2_with fail
    go_region_held3 (fun V => (V.cell? ⟨w.heap.size, 0, none⟩ = some (.int .i64 n.kind) ∧ V.cell? ⟨w.heap.size, 1, none⟩ = some (.string n.data) ∧ V.cell? ⟨w.heap.size, 2, none⟩ = some (.slice qA n.ptrs.length qa) ∧ V.cell? ⟨w.heap.size, 3, none⟩ = some (.int .i64 n.size) ∧ V.cell? ⟨w.heap.size, 4, none⟩ = some (.int .i64 n.count) ∧ V.cell? ⟨w.heap.size, 5, none⟩ = some (.slice qB n.items.length qb)) ∧ (V.cell? ⟨w.heap.size + 1, 0, none⟩ = some (.int .i64 (i : Int)) ∧ V.cell? ⟨w.heap.size + 1, 1, none⟩ = some (.int .i64 (a : Int)) ∧ V.cell? ⟨w3.heap.size, 0, none⟩ = some (.int .i64 (i : Int)) ∧ V.cell? ⟨w3.heap.size, 1, none⟩ = some (.int .i64 (wn (sgS ss i) : Int)))) (((first | exact ⟨⟨n0, n1, n2, n3, n4, n5⟩, ⟨t0, t1, u0, u1⟩⟩ | exact ⟨⟨kcw hb5 n0, kcw hb5 n1, kcw hb5 n2, kcw hb5 n3, kcw hb5 n4, kcw hb5 n5⟩, ⟨kcw hb5 t0, kcw hb5 t1, kcw hb5 u0, kcw hb5 u1⟩⟩ | exact ⟨⟨hk6c (kcw hb5 n0) (by simp), hk6c (kcw hb5 n1) (by simp), hk6c (kcw hb5 n2) (by simp), hk6c (kcw hb5 n3) (by simp), hk6c (kcw hb5 n4) (by simp), hk6c (kcw hb5 n5) (by simp)⟩, ⟨hk6c (kcw hb5 t0) (by simp), hk6c (kcw hb5 t1) (by simp), hk6c (kcw hb5 u0) (by simp), hk6c (kcw hb5 u1) (by simp)⟩⟩))) (first | (go_at_call 80; (with_reducible refine (pointerTo_any m n ⟨qA, qa, qB, qb⟩ _ _ _ HN4.out hf hm ho hk).mono ?_); rintro e w5 ⟨rfl, hb5⟩) | (go_at_call 79; (with_reducible refine (set_node base b size (growB ss i (ownN n)) _ w5 ((HT3.out.low HB4.out).low hb5) (grow_wds hi hw8) i a (by rw [growB_length]; exact hi) (by rw [wn_grow hi]; omega) (by rw [grow_totS hi]; omega) n hf ho hk _ (by omega) (by omega)).mono ?_); rintro e w6 ⟨rfl, hk6, hB6⟩; have hk6c := fun {q : Addr} {u : Value} (hq : w5.cell? q = some u) (hp : (w.heap.size ≤ q.block ∧ q.block < w.heap.size + 3) ∨ q.block = w3.heap.size) => kp_cell hk6 hq (HNP.out _ hp)))
    have hd2 := (hk6.block _ (by have := hb5.size; have := HB4.out.size; omega) (HNP.out (w.heap.size + 2) (.inl (by omega)))).trans ((hb5.block _ (by have := HB4.out.size; omega)).trans ((HB4.out.block _ (row_lt HD2.out)).trans HD2.out))
    have hkw : KP P w w6 := ((KP.of_below HB2.out).trans HK3.out (fun _ _ h => h)).trans ((KP.of_below (HB4.out.trans (hb5.mono HB4.out.size)) : KP (fun k => (P k ∨ w2.heap.size ≤ k) ∧ base ≤ k ∧ k < w3.heap.size) w3 w5).trans hk6 (fun _ _ h => h)) (fun k hk h => by
      rcases h.1 with h | h
      · exact h
      · omega)
    have hBw := hB6.weak (Q := fun k => P k ∨ w.heap.size ≤ k) (fun k h => h.1.imp id (fun h => by omega))
    have HD2' := Lib.hid hd2
    have HKW := Lib.hid hkw
    have HBW := Lib.hid hBw
    obtain ⟨x0, x1⟩ := cell_pair hd2
    have xf0 := row_free hd2 0
    have xf1 := row_free hd2 1
    have y0 := hk6c (kcw hb5 u0) (.inr rfl)
    have y1 := hk6c (kcw hb5 u1) (.inr rfl)
    clear hk6 hB6 hb5 hk6c hw1 hw2 n0 n1 n2 n3 n4 n5 t0 t1 u0 u1 hd2 hkw hBw
    go_wp2_with fail
    have hrow := row_setN (row_setN HD2'.out 0 (.int .i64 (i : Int))) 1 (.int .i64 (wn (sgS ss i) : Int))
    obtain ⟨e0, e1⟩ := cell_pair hrow
    refine bodyPost_ret (v := .agg #[.int .i64 (i : Int), .int .i64 (wn (sgS ss i) : Int)]) (by simp [results, Tryz.results78, go_sem, e0, e1]) rfl (.inr ⟨_, _, _, HE2.out, rfl, ?_, ?_⟩)
    · exact HKW.out.trans (Q := fun k => w.heap.size ≤ k) ((KP.set (by show w.heap.size ≤ w.heap.size + 2; omega) _ 0 _).trans (KP.set (by show w.heap.size ≤ w.heap.size + 2; omega) _ 1 _) (fun _ _ h => h)) (fun k h1 h2 => by omega)
    · exact (HBW.out.other HD2'.out (by decide) 0 _).other (row_setN HD2'.out 0 _) (by decide) 1 _
  · have HE2 : Hid (roomP 200 size n ss i a = none) := Lib.hid (by rw [HE.out, if_neg ht2])
    go_wp2_with fail
    refine (grow_much base b size ss P w2 HB.out i (ownN n) ht (by omega) (by omega)).mono ?_
    rintro e w3 ⟨rfl, hk3⟩
    have HK3 := Lib.hid hk3
    clear hk3
    go_wp2
    exact ⟨rfl, .inl ⟨HE2.out, rfl, (KP.of_below HB2.out).trans HK3.out (fun _ _ h => h)⟩⟩
end Go.Proofs.YtbijfkpilncclaaGreat
