/- Texts of the proof of the law FnSend, side by side: part 24. -/
import Derived.Test.YtlbfffokkhccaaaGreatDoorMSend23
set_option maxHeartbeats 8000000
set_option maxRecDepth 100000
namespace Go.Proofs.YtlbfffokkhccaaaGreatDoor
open Go.RowKit
theorem below_drewN' {B : Nat} {a w : World} (h : Below B a w) (n : Nat) : Below B a (w.drewN n) := ⟨h.os, h.tape, h.output, h.size, h.block⟩
theorem l4Own_a (m : Nat) (n : Nd) (h : Hd) (w : World) (S : Nat → Prop) (hn : NdAt w S m n h) (hf : formN n = true) (ht : totN m n ≤ 2000000) :
 Calls Tryz.prog 83 #[.agg #[.int .i64 n.kind, .string n.data, .slice h.A n.ptrs.length h.a, .int .i64 n.size, .int .i64 n.count, .slice h.B n.items.length h.b]] w fun e w' => e = .returned (.int .i64 (ownN n : Nat)) ∧ Below w.heap.size w w' := by
 obtain ⟨qA, qa, qB, qb⟩ := h
 dsimp only at hn ⊢
 have hds : n.data.size ≤ 2000000 := by unfold totN at ht; omega
 have hpl : n.ptrs.length ≤ 2000000 := totL_len' hn.2.1 (by unfold totN at ht; omega)
 have hil : n.items.length ≤ 2000000 := totL_len' hn.2.2 (by unfold totN at ht; omega)
 rcases form_cases hf with hc | hc | hc
 · have HX : Hid (ownN n = 0) := Lib.hid (by unfold ownN ownB; rw [hc.2.1, hc.2.2.1, nil_of_len hc.2.2.2.2.2, hc.1]; rfl)
   have k1 : (n.kind == 1) = false := by rw [hc.1]; rfl
   have k2 : (n.kind != 2) = true := by rw [hc.1]; rfl
   clear hc hn ht hf
   go_enter Tryz.func83, Tryz.ntmps83
   go_wp2
   go_ret
   exact ⟨by rw [HX.out]; rfl, (Below.refl _ _).alloc (Nat.le_refl _) _⟩
 · have HX : Hid (((ownN n : Nat) : Int) = (n.data.size : Int) / 8 + n.ptrs.length) := Lib.hid (by
    have : ownN n = ownB n := by unfold ownN; rw [nil_of_len hc.2.2.2.2, if_neg (by omega)]; simp
    rw [this]; unfold ownB; have := hc.2.1; omega)
   have k1 : (n.kind == 1) = true := by rw [hc.1]; rfl
   clear hc hn ht hf
   go_enter Tryz.func83, Tryz.ntmps83
   go_wp2
   go_ret
   exact ⟨by rw [HX.out]; rfl, (Below.refl _ _).alloc (Nat.le_refl _) _⟩
 · obtain ⟨hk, hcc, hc⟩ := hc
   have k1 : (n.kind == 1) = false := by rw [hk]; rfl
   have k2 : (n.kind != 2) = false := by rw [hk]; rfl
   rcases hc with hc | hc | hc
   · have HX : Hid (((ownN n : Nat) : Int) = ((n.data.size : Int) + 7) / 8) := Lib.hid (by
      have : ownN n = ownB n := by unfold ownN; rw [nil_of_len hc.2.2.2.2, if_neg (by omega)]; simp
      rw [this]; unfold ownB; have := hc.2.2.2.1; omega)
     have z6 : (n.size == 6) = false := by rw [beq_eq_false_iff_ne]; omega
     have z7 : (n.size == 7) = false := by rw [beq_eq_false_iff_ne]; omega
     clear hc hn ht hf hk
     go_enter Tryz.func83, Tryz.ntmps83
     go_wp2
     go_ret
     exact ⟨by rw [HX.out]; rfl, (Below.refl _ _).alloc (Nat.le_refl _) _⟩
   · have HX : Hid (((ownN n : Nat) : Int) = n.count) := Lib.hid (by
      have : ownN n = ownB n := by unfold ownN; rw [nil_of_len hc.2.2.2, if_neg (by omega)]; simp
      rw [this]; unfold ownB; rw [hc.2.1]; have := hc.2.2.1; omega)
     have z6 : (n.size == 6) = true := by rw [hc.1]; rfl
     have z7 : (n.size == 7) = false := by rw [hc.1]; rfl
     clear hc hn ht hf hk
     go_enter Tryz.func83, Tryz.ntmps83
     go_wp2
     go_ret
     exact ⟨by rw [HX.out]; rfl, (Below.refl _ _).alloc (Nat.le_refl _) _⟩
   · have HX : Hid (ownN n = 1 + (n.items.map ownB).sum) := Lib.hid (by unfold ownN; rw [if_pos ⟨hk, hc.1⟩]; unfold ownB; rw [hc.2.1, hc.2.2.1])
     have HIT : Hid (∀ k (hk : k < n.items.length), ((n.items[k]).data.size : Int) % 8 = 0 ∧ (n.items[k]).data.size ≤ 2000000 ∧ (n.items[k]).ptrs.length ≤ 2000000) := Lib.hid fun k hk => by
      obtain ⟨h1, h2, h3⟩ := form_item hf _ (List.getElem_mem hk)
      obtain ⟨h4, h5⟩ := item_small hn.2.2 _ (List.getElem_mem hk)
      unfold totN at ht
      exact ⟨h2, by omega, by omega⟩
     have HSUM : Hid (∀ k, ((n.items.take k).map ownB).sum ≤ 2000000) := Lib.hid fun k => by
      have h1 := sum_take_le n.items ownB k
      have h2 := own_sum hn.2.2
      unfold totN at ht
      omega
     have z7 : (n.size == 7) = true := by rw [hc.1]; rfl
     have hba := (Below.refl w.heap.size w).alloc (Nat.le_refl _) (.cells #[.int .i64 n.kind, .string n.data, .slice qA n.ptrs.length qa, .int .i64 n.size, .int .i64 n.count, .slice qB n.items.length qb] nodeT)
     have HN := Lib.hid (NdsAt.succ _ _ _ (hn.2.2.below hba))
     have HBA := Lib.hid hba
     have HR := Lib.hid (heap_alloc_new w (.cells #[.int .i64 n.kind, .string n.data, .slice qA n.ptrs.length qa, .int .i64 n.size, .int .i64 n.count, .slice qB n.items.length qb] nodeT))
     have hsz : w.heap.size < (w.alloc (.cells #[.int .i64 n.kind, .string n.data, .slice qA n.ptrs.length qa, .int .i64 n.size, .int .i64 n.count, .slice qB n.items.length qb] nodeT)).heap.size := by simp
     clear hc hn ht hf hk hba
     go_enter Tryz.func83, Tryz.ntmps83
     go_wp2
     generalize w.alloc (.cells #[.int .i64 n.kind, .string n.data, .slice qA n.ptrs.length qa, .int .i64 n.size, .int .i64 n.count, .slice qB n.items.length qb] nodeT) = W at *
     go_loopw [3, 4] (fun q i wr => ∃ (k : Nat) (z : Int), q = .int .i64 z ∧ i = .int .i64 k ∧ k ≤ n.items.length ∧ 0 ≤ z ∧ z ≤ 6000000 ∧ Hid (z = ((1 + ((n.items.take k).map ownB).sum : Nat) : Int)) ∧ Hid (Below W.heap.size W wr)) (fun _ i _ => n.items.length - (intOf i).toNat)
     case atStart => exact ⟨0, _, rfl, rfl, by omega, by omega, by omega, Lib.hid (by simp), Lib.hid (Below.refl _ _)⟩
     case round =>
      obtain ⟨k, z, rfl, rfl, hk, hz0, hz, HZ, HB⟩ := hrel
      obtain ⟨a0, a1, a2, a3, a4, a5⟩ := cells6 ((HB.out.block _ hsz).trans HR.out)
      by_cases hlt : k < n.items.length
      · obtain ⟨x, yA, ya, yB, yb, rfl, hc, -, -, -⟩ := (HN.out.below HB.out).at6 hlt
        obtain ⟨i1, i2, i3⟩ := HIT.out k hlt
        have HS := Lib.hid (own_take n.items k hlt)
        generalize n.items[k] = y at hc i1 i2 i3 HS
        have HO : Hid (((ownB y : Nat) : Int) = (y.data.size : Int) / 8 + y.ptrs.length) := Lib.hid (by unfold ownB; omega)
        have hz2 : z + (y.data.size : Int) / 8 + y.ptrs.length ≤ 6000000 := by have := HZ.out; have := HS.out; have := HSUM.out (k + 1); have := HO.out; omega
        obtain ⟨d0, d1, d2, d3, d4, d5⟩ := hc
        dsimp only at d2 d5
        have hk2 : (k : Int) < (n.items.length : Int) := by omega
        clear i1
        go_wp2
        go_big_quiet (fail)
        go_wp2
        go_roundw
        case rel => exact ⟨k + 1, _, rfl, by go_num, by omega, by omega, hz2, Lib.hid (by rw [HZ.out, HS.out]; have := HO.out; omega), Lib.hid (below_drewN' HB.out _)⟩
        case measure => simp [intOf]; omega
      · obtain rfl : k = n.items.length := by omega
        rw [List.take_of_length_le (Nat.le_refl _)] at HZ
        have HBE := Lib.hid (HBA.out.trans (HB.out.mono HBA.out.size))
        go_wp2
        go_ret
        exact ⟨by rw [HX.out, HZ.out]; rfl, HBE.out⟩
open Go.RowKit Go.Deep
theorem nd_baseS {w w' : World} {base m : Nat} {n : Nd} {h : Hd} (hn : NdAt w (fun k => k < base) m n h) (hb : Below base w w') : NdAt w' (fun k => k < base) m n h := hn.map (fun _ h => h) (fun _ _ _ hs hc => hc.block (hb.block _ hs))
theorem KP.rowS {P : Nat → Prop} {w w' : World} (h : KP P w w') {k : Nat} {o : Obj} (hk : w.heap[k]? = some o) (hn : ¬ P k) : w'.heap[k]? = some o := (h.block k (row_lt hk) hn).trans hk
theorem kpS {P : Nat → Prop} {w w' : World} {q : Addr} {u : Value} (h : KP P w w') (hq : w.cell? q = some u) (hn : ¬ P q.block) : w'.cell? q = some u := (World.cell?_of_block (h.block q.block (World.block_lt_of_cell? w q hq) hn)).trans hq
theorem form_smallS {n : Nd} (hf : formN n = true) (ho : ownN n ≤ 300) : n.data.size ≤ 2400 ∧ n.ptrs.length ≤ 300 ∧ n.items.length ≤ 20000 ∧ (n.kind ≠ 0 → n.kind = 1 ∨ n.kind = 2) ∧ (n.kind = 2 → 0 ≤ n.size ∧ n.size ≤ 7 ∧ 0 ≤ n.count ∧ n.count < 12801) ∧ (n.kind = 2 → n.size = 7 → 1 ≤ ownN n ∧ (n.items.length : Int) = n.count ∧ n.data.size = 0 ∧ n.ptrs.length = 0) ∧ (n.kind = 1 → n.data.size % 8 = 0) := by
 have hb : ownB n ≤ ownN n := by unfold ownN; omega
 have hd : n.data.size ≤ 2400 := by unfold ownB at hb; omega
 have hp : n.ptrs.length ≤ 300 := by unfold ownB at hb; omega
 rcases form_cases hf with h | h | ⟨h1, h2, h | h | h⟩
 · exact ⟨hd, hp, by omega, fun e => by omega, fun e => by omega, fun e => by omega, fun e => by omega⟩
 · exact ⟨hd, hp, by omega, fun _ => .inl h.1, fun e => by omega, fun e => by omega, fun _ => by omega⟩
 · exact ⟨hd, hp, by omega, fun _ => .inr h1, fun _ => by omega, fun _ e => by omega, fun e => by omega⟩
 · exact ⟨hd, hp, by omega, fun _ => .inr h1, fun _ => by omega, fun _ e => by omega, fun e => by omega⟩
 · refine ⟨hd, hp, by omega, fun _ => .inr h1, fun _ => by omega, fun _ _ => ⟨?_, by omega, by omega, by omega⟩, fun e => by omega⟩
   unfold ownN
   rw [if_pos ⟨h1, h.1⟩]
   omega
theorem fin8B {w w1 : World} {b : Nat} {T : TypeId} {a0 a1 a2 a3 a4 a5 a6 a7 : Value} (h : w1.heap[b]? = some (.cells #[a0, a1, a2, a3, a4, a5, a6, a7] T (0, 0))) (hp : Below w.heap.size w w1) (hb : w.heap.size ≤ b) (v0 v1 v2 v3 v4 v5 v6 v7 : Value) :
 ∃ wf, ((((((((w1.setCell ⟨b, 0, none⟩ v0).setCell ⟨b, 1, none⟩ v1).setCell ⟨b, 2, none⟩ v2).setCell ⟨b, 3, none⟩ v3).setCell ⟨b, 4, none⟩ v4).setCell ⟨b, 5, none⟩ v5).setCell ⟨b, 6, none⟩ v6).setCell ⟨b, 7, none⟩ v7) = wf ∧ wf.heap[b]? = some (.cells #[v0, v1, v2, v3, v4, v5, v6, v7] T (0, 0)) ∧ Below w.heap.size w wf := by
 have hk : ∀ (W : World) (i : Nat) (v : Value), Below w.heap.size w W → Below w.heap.size w (W.setCell ⟨b, i, none⟩ v) := fun W i v hW => hW.setCell (p := ⟨b, i, none⟩) hb v
 have h0 := row_setN h 0 v0
 rw [show (#[a0, a1, a2, a3, a4, a5, a6, a7] : Array Value).setIfInBounds 0 v0 = #[v0, a1, a2, a3, a4, a5, a6, a7] from rfl] at h0
 have h1 := row_setN h0 1 v1
 rw [show (#[v0, a1, a2, a3, a4, a5, a6, a7] : Array Value).setIfInBounds 1 v1 = #[v0, v1, a2, a3, a4, a5, a6, a7] from rfl] at h1
 have h2 := row_setN h1 2 v2
 rw [show (#[v0, v1, a2, a3, a4, a5, a6, a7] : Array Value).setIfInBounds 2 v2 = #[v0, v1, v2, a3, a4, a5, a6, a7] from rfl] at h2
 have h3 := row_setN h2 3 v3
 rw [show (#[v0, v1, v2, a3, a4, a5, a6, a7] : Array Value).setIfInBounds 3 v3 = #[v0, v1, v2, v3, a4, a5, a6, a7] from rfl] at h3
 have h4 := row_setN h3 4 v4
 rw [show (#[v0, v1, v2, v3, a4, a5, a6, a7] : Array Value).setIfInBounds 4 v4 = #[v0, v1, v2, v3, v4, a5, a6, a7] from rfl] at h4
 have h5 := row_setN h4 5 v5
 rw [show (#[v0, v1, v2, v3, v4, a5, a6, a7] : Array Value).setIfInBounds 5 v5 = #[v0, v1, v2, v3, v4, v5, a6, a7] from rfl] at h5
 have h6 := row_setN h5 6 v6
 rw [show (#[v0, v1, v2, v3, v4, v5, a6, a7] : Array Value).setIfInBounds 6 v6 = #[v0, v1, v2, v3, v4, v5, v6, a7] from rfl] at h6
 have h7 := row_setN h6 7 v7
 rw [show (#[v0, v1, v2, v3, v4, v5, v6, a7] : Array Value).setIfInBounds 7 v7 = #[v0, v1, v2, v3, v4, v5, v6, v7] from rfl] at h7
 exact ⟨_, rfl, h7, hk _ _ _ (hk _ _ _ (hk _ _ _ (hk _ _ _ (hk _ _ _ (hk _ _ _ (hk _ _ _ (hk _ _ _ hp)))))))⟩
def ptN (n : Nd) (off : Int) : Value :=
 if n.kind = 1 then .agg #[.int .i64 1, .int .i64 off, .int .i64 (n.data.size / 8 : Nat), .int .i64 (n.ptrs.length : Nat), .int .i64 0, .int .i64 0, .int .i64 0, .bool false]
 else .agg #[.int .i64 2, .int .i64 off, .int .i64 0, .int .i64 0, .int .i64 n.size, .int .i64 (if n.size = 7 then (ownN n : Int) - 1 else n.count), .int .i64 0, .bool false]
theorem l2PutN (n : Nd) (off : Int) (w : World) (hf : formN n = true) (ho : ownN n ≤ 300) (hk : n.kind ≠ 0) (h0 : -100000 ≤ off) (h1 : off ≤ 100000) :
 Calls Tryz.prog 125 #[ptN n off] w fun e w' => e = .returned (.string ⟨(ptrW n off).toArray⟩) ∧ Below w.heap.size w w' := by
 obtain ⟨hd, hp, _, hkk, hs, h7, h8⟩ := form_smallS hf ho
 unfold ptN ptrW
 split
 · exact l2Put_strB off _ _ w (by omega) (by omega) (by omega) (by omega) (by omega) (by omega)
 · have k2 : n.kind = 2 := by rcases hkk hk with e | e <;> omega
   have := hs k2
   split
   · rename_i e7
     have := h7 k2 e7
     have h := l2Put_lisB off n.size ((ownN n : Int) - 1) w (by omega) (by omega) (by omega) (by omega) (by omega) (by omega)
     rw [e7] at h ⊢
     exact h
   · exact l2Put_lisB off n.size n.count w (by omega) (by omega) (by omega) (by omega) (by omega) (by omega)
theorem l5Point_any (m : Nat) (n : Nd) (h : Hd) (off : Int) (w : World) (S : Nat → Prop) (hn : NdAt w S m n h) (hf : formN n = true) (ht : totN m n ≤ 2000000) (ho : ownN n ≤ 300) (hk : n.kind ≠ 0) :
 Calls Tryz.prog 126 #[.agg #[.int .i64 n.kind, .string n.data, .slice h.A n.ptrs.length h.a, .int .i64 n.size, .int .i64 n.count, .slice h.B n.items.length h.b], .int .i64 off] w fun e w' => e = .returned (ptN n off) ∧ Below w.heap.size w w' := by
 obtain ⟨qA, qa, qB, qb⟩ := h
 obtain ⟨hd, hp, _, hkk, hs, h7, h8⟩ := form_smallS hf ho
 have hb0 : Below w.heap.size w ((w.alloc (.cells #[.int .i64 n.kind, .string n.data, .slice qA n.ptrs.length qa, .int .i64 n.size, .int .i64 n.count, .slice qB n.items.length qb] nodeT)).alloc (.cells #[.int .i64 0, .int .i64 0, .int .i64 0, .int .i64 0, .int .i64 0, .int .i64 0, .int .i64 0, .bool false] 44)) := ((Below.refl _ w).alloc (Nat.le_refl _) _).alloc (by simp) _
 have HB0 := Lib.hid hb0
 dsimp only
 rcases hkk hk with k1 | k2
 · have hkb : (n.kind == 1) = true := by rw [k1]; rfl
   have HE : Hid (ptN n off = .agg #[.int .i64 1, .int .i64 off, .int .i64 (n.data.size / 8 : Nat), .int .i64 (n.ptrs.length : Nat), .int .i64 0, .int .i64 0, .int .i64 0, .bool false]) := Lib.hid (by unfold ptN; rw [if_pos k1])
   rw [HE.out]
   have e8 : (n.data.size : Int) / 8 = ((n.data.size / 8 : Nat) : Int) := by omega
   rw [← e8]
   clear hn hf hkk hs h7 h8 hk k1 hb0 e8
   go_enter Tryz.func126, Tryz.ntmps126
   go_wp2
   refine bodyPost_ret (v := .agg #[.int .i64 1, .int .i64 off, .int .i64 ((n.data.size : Int) / 8), .int .i64 (n.ptrs.length : Nat), .int .i64 0, .int .i64 0, .int .i64 0, .bool false]) (by simp [results, Tryz.results126, go_sem]) rfl ⟨rfl, ?_⟩
   exact ((Below.refl _ w).alloc (Nat.le_refl _) _).alloc (by simp) _
 · have hkb : (n.kind == 1) = false := by rw [k2]; rfl
   have k1 : ¬ n.kind = 1 := by omega
   have HOW := Lib.hid (l4Own_a m n ⟨qA, qa, qB, qb⟩ _ S (hn.below hb0) hf ht)
   dsimp only at HOW
   have r1 := heap_alloc_new (w.alloc (.cells #[.int .i64 n.kind, .string n.data, .slice qA n.ptrs.length qa, .int .i64 n.size, .int .i64 n.count, .slice qB n.items.length qb] nodeT)) (.cells #[.int .i64 0, .int .i64 0, .int .i64 0, .int .i64 0, .int .i64 0, .int .i64 0, .int .i64 0, .bool false] 44)
   rw [show (w.alloc (.cells #[.int .i64 n.kind, .string n.data, .slice qA n.ptrs.length qa, .int .i64 n.size, .int .i64 n.count, .slice qB n.items.length qb] nodeT)).heap.size = w.heap.size + 1 by simp] at r1
   have r0 := heap_alloc_keep (heap_alloc_new w (.cells #[.int .i64 n.kind, .string n.data, .slice qA n.ptrs.length qa, .int .i64 n.size, .int .i64 n.count, .slice qB n.items.length qb] nodeT)) (.cells #[.int .i64 0, .int .i64 0, .int .i64 0, .int .i64 0, .int .i64 0, .int .i64 0, .int .i64 0, .bool false] 44)
   have R1 := Lib.hid r1
   have R0 := Lib.hid r0
   by_cases e7 : n.size = 7
   · have hsb : (n.size == 7) = true := by rw [e7]; rfl
     have HE : Hid (ptN n off = .agg #[.int .i64 2, .int .i64 off, .int .i64 0, .int .i64 0, .int .i64 n.size, .int .i64 ((ownN n : Int) - 1), .int .i64 0, .bool false]) := Lib.hid (by unfold ptN; rw [if_neg k1, if_pos e7])
     rw [HE.out]
     have h1 := (h7 k2 e7).1
     generalize ownN n = on at *
     clear hn hf hkk hs h7 h8 hk k1 k2 hb0 e7 r0 r1
     go_enter Tryz.func126, Tryz.ntmps126
     go_wp2_with fail
     refine HOW.out.mono ?_
     rintro e w1 ⟨rfl, hb1⟩
     have HB1 := Lib.hid (HB0.out.trans (hb1.mono HB0.out.size))
     have hx := (hb1.block _ (row_lt R1.out)).trans R1.out
     have HX := Lib.hid hx
     obtain ⟨a0, a1, a2, a3, a4, a5⟩ := cells6 ((hb1.block _ (row_lt R0.out)).trans R0.out)
     clear hb1 hx
     have X8 := HX.out
     obtain ⟨b0, b1, b2, b3, b4, b5, b6, b7⟩ := cells8B HX.out
     have f0 := row_free X8 0
     have f1 := row_free X8 1
     have f2 := row_free X8 2
     have f3 := row_free X8 3
     have f4 := row_free X8 4
     have f5 := row_free X8 5
     have f6 := row_free X8 6
     have f7 := row_free X8 7
     clear X8
     go_wp2_with fail
     obtain ⟨wf, hwf, hrw, hbf⟩ := fin8B HX.out HB1.out (show w.heap.size ≤ w.heap.size + 1 by omega) (.int .i64 2) (.int .i64 off) (.int .i64 0) (.int .i64 0) (.int .i64 n.size) (.int .i64 ((on : Int) - 1)) (.int .i64 0) (.bool false)
     rw [hwf]
     obtain ⟨g0, g1, g2, g3, g4, g5, g6, g7⟩ := cells8B hrw
     exact bodyPost_ret (v := .agg #[.int .i64 2, .int .i64 off, .int .i64 0, .int .i64 0, .int .i64 n.size, .int .i64 ((on : Int) - 1), .int .i64 0, .bool false]) (by simp [results, Tryz.results126, go_sem, g0, g1, g2, g3, g4, g5, g6, g7]) rfl ⟨rfl, hbf⟩
   · have hsb : (n.size == 7) = false := by simpa using e7
     have HE : Hid (ptN n off = .agg #[.int .i64 2, .int .i64 off, .int .i64 0, .int .i64 0, .int .i64 n.size, .int .i64 n.count, .int .i64 0, .bool false]) := Lib.hid (by unfold ptN; rw [if_neg k1, if_neg e7])
     rw [HE.out]
     clear hn hf hkk hs h7 h8 hk k1 k2 hb0 e7 r0 r1 HOW
     go_enter Tryz.func126, Tryz.ntmps126
     go_wp2
     refine bodyPost_ret (v := .agg #[.int .i64 2, .int .i64 off, .int .i64 0, .int .i64 0, .int .i64 n.size, .int .i64 n.count, .int .i64 0, .bool false]) (by simp [results, Tryz.results126, go_sem]) rfl ⟨rfl, ?_⟩
     exact ((Below.refl _ w).alloc (Nat.le_refl _) _).alloc (by simp) _
end Go.Proofs.YtlbfffokkhccaaaGreatDoor
