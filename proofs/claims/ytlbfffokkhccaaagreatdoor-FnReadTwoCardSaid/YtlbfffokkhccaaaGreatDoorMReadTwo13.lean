/- Texts of the proof of the law FnReadTwo, side by side: part 13. -/
import Derived.Test.YtlbfffokkhccaaaGreatDoorMReadTwo12
namespace Go.Proofs.YtlbfffokkhccaaaGreatDoor
open Go.RowKit Go.Deep
def ptV (n : Nd) (off : Int) : Value :=
 if n.kind = 1 then .iface 168 (.agg #[.int .i64 off, .int .i64 (n.data.size / 8 : Nat), .int .i64 (n.ptrs.length : Nat)])
 else if n.size = 7 then .iface 170 (.agg #[.int .i64 off, .int .i64 7, .int .i64 ((ownN n : Int) - 1)]) else .iface 170 (.agg #[.int .i64 off, .int .i64 n.size, .int .i64 n.count])
theorem form_small {n : Nd} (hf : formN n = true) (ho : ownN n ≤ 300) : n.data.size ≤ 2400 ∧ n.ptrs.length ≤ 300 ∧ n.items.length ≤ 20000 ∧ (n.kind ≠ 0 → n.kind = 1 ∨ n.kind = 2) ∧ (n.kind = 2 → 0 ≤ n.size ∧ n.size ≤ 7 ∧ 0 ≤ n.count ∧ n.count < 12801) ∧ (n.kind = 2 → n.size = 7 → 1 ≤ ownN n ∧ (n.items.length : Int) = n.count ∧ n.data.size = 0 ∧ n.ptrs.length = 0) ∧ (n.kind = 1 → n.data.size % 8 = 0) := by
 have hb : ownB n ≤ ownN n := by unfold ownN; omega
 have hd : n.data.size ≤ 2400 := by unfold ownB at hb; omega
 have hp : n.ptrs.length ≤ 300 := by unfold ownB at hb; omega
 rcases form_cases hf with h | h | ⟨h1, h2, h | h | h⟩
 · exact ⟨hd, hp, by omega, fun e => by omega, fun e => by omega, fun e => by omega, fun e => by omega⟩
 · exact ⟨hd, hp, by omega, fun _ => .inl h.1, fun e => by omega, fun e => by omega, fun _ => by omega⟩
 · exact ⟨hd, hp, by omega, fun _ => .inr h1, fun _ => by omega, fun _ e => by omega, fun e => by omega⟩
 · exact ⟨hd, hp, by omega, fun _ => .inr h1, fun _ => by omega, fun _ e => by omega, fun e => by omega⟩
 · refine ⟨hd, hp, by omega, fun _ => .inr h1, fun _ => by omega, fun _ _ => ⟨?_, by omega, by omega, by omega⟩, fun e => by omega⟩
   unfold ownN
   rw [if_pos ⟨h1, h.1⟩]
   omega
set_option maxHeartbeats 2000000 in
set_option maxRecDepth 100000 in
theorem pointerTo_any (m : Nat) (n : Nd) (h : Hd) (off : Int) (w : World) (S : Nat → Prop) (hn : NdAt w S m n h) (hf : formN n = true) (ht : totN m n ≤ 2000000) (ho : ownN n ≤ 300) (hk : n.kind ≠ 0) :
 Calls Tryz.prog 74 #[.agg #[.int .i64 n.kind, .string n.data, .slice h.A n.ptrs.length h.a, .int .i64 n.size, .int .i64 n.count, .slice h.B n.items.length h.b], .int .i64 off] w fun e w' => e = .returned (ptV n off) ∧ Below w.heap.size w w' := by
 obtain ⟨qA, qa, qB, qb⟩ := h
 obtain ⟨hd, hp, _, hkk, hs, h7, h8⟩ := form_small hf ho
 have hb0 : Below w.heap.size w (w.alloc (.cells #[.int .i64 n.kind, .string n.data, .slice qA n.ptrs.length qa, .int .i64 n.size, .int .i64 n.count, .slice qB n.items.length qb] nodeT)) := (Below.refl _ w).alloc (Nat.le_refl _) _
 rcases hkk hk with k1 | k2
 · have hkb : (n.kind == 1) = true := by rw [k1]; rfl
   have HE : Hid (ptV n off = .iface 168 (.agg #[.int .i64 off, .int .i64 (n.data.size / 8 : Nat), .int .i64 (n.ptrs.length : Nat)])) := Lib.hid (by unfold ptV; rw [if_pos k1])
   rw [HE.out]
   have HB := Lib.hid hb0
   have e8 : (n.data.size : Int) / 8 = ((n.data.size / 8 : Nat) : Int) := by omega
   rw [← e8]
   clear hn hf hkk hs h7 h8 hk k1 hb0 e8
   dsimp only
   go_enter Tryz.func74, Tryz.ntmps74
   go_wp2
   go_ret
   exact ⟨rfl, HB.out⟩
 · have hkb : (n.kind == 1) = false := by rw [k2]; rfl
   have HOW := Lib.hid (ownWords_a m n ⟨qA, qa, qB, qb⟩ _ S (hn.below hb0) hf ht)
   have HB := Lib.hid hb0
   have hs' := hs k2
   have k1 : ¬ n.kind = 1 := by omega
   dsimp only at HOW
   by_cases e7 : n.size = 7
   · have hsb : (n.size == 7) = true := by rw [e7]; rfl
     have HE : Hid (ptV n off = .iface 170 (.agg #[.int .i64 off, .int .i64 7, .int .i64 ((ownN n : Int) - 1)])) := Lib.hid (by unfold ptV; rw [if_neg k1, if_pos e7])
     rw [HE.out]
     have h1 := (h7 k2 e7).1
     generalize ownN n = on at *
     clear hn hf hkk hs h7 h8 hk k1 k2 hb0 e7 hs'
     dsimp only
     go_enter Tryz.func74, Tryz.ntmps74
     go_wp2_with fail
     refine HOW.out.mono ?_
     rintro e w1 ⟨rfl, hb1⟩
     have HB1 := Lib.hid (HB.out.trans (hb1.mono HB.out.size))
     clear hb1
     go_wp2
     go_ret
     exact ⟨rfl, HB1.out⟩
   · have hsb : (n.size == 7) = false := by simpa using e7
     have HE : Hid (ptV n off = .iface 170 (.agg #[.int .i64 off, .int .i64 n.size, .int .i64 n.count])) := Lib.hid (by unfold ptV; rw [if_neg k1, if_neg e7])
     rw [HE.out]
     clear hn hf hkk hs h7 h8 hk k1 k2 hb0 e7 hs' HOW
     dsimp only
     go_enter Tryz.func74, Tryz.ntmps74
     go_wp2
     go_ret
     exact ⟨rfl, HB.out⟩
theorem set_node (base b size : Nat) (ss : Segs) (P : Nat → Prop) (w : World) (h : Bun w base b size ss P) (hw8 : WdS ss) (i a : Nat) (hi : i < ss.length) (ha : a < wn (sgS ss i)) (ht : totS ss ≤ 100000) (n : Nd) (hf : formN n = true) (ho : ownN n ≤ 300) (hk : n.kind ≠ 0) (off : Int) (h0 : -100000 ≤ off) (h1 : off ≤ 100000) :
 Calls Tryz.prog 73 #[.pointer (some ⟨b, 0, none⟩), .agg #[.int .i64 (i : Int), .int .i64 (a : Int)], ptV n off] w (SetP base b size ss i a (ptrW n off) P w) := by
 obtain ⟨hd, hp, _, hkk, hs, h7, h8⟩ := form_small hf ho
 unfold ptV ptrW
 split
 · exact set_str base b size ss P w h hw8 i a hi ha ht off _ _ (by omega) (by omega) (by omega) (by omega) (by omega) (by omega)
 · have k2 : n.kind = 2 := by rcases hkk hk with e | e <;> omega
   have := hs k2
   split
   · rename_i e7
     have := h7 k2 e7
     exact set_lis base b size ss P w h hw8 i a hi ha ht off 7 _ (by omega) (by omega) (by omega) (by omega) (by omega) (by omega)
   · exact set_lis base b size ss P w h hw8 i a hi ha ht off _ _ (by omega) (by omega) (by omega) (by omega) (by omega) (by omega)
end Go.Proofs.YtlbfffokkhccaaaGreatDoor
namespace Go.Proofs.YtlbfffokkhccaaaGreatDoor
theorem bytes_eq {a b : ByteArray} (h : a.data.toList = b.data.toList) : a = b := by
 obtain ⟨⟨a⟩⟩ := a
 obtain ⟨⟨b⟩⟩ := b
 simp only at h
 rw [h]
theorem bytes_nil {a b : ByteArray} (h : a.size = 0) (g : b.size = 0) : a = b := bytes_eq (by
 have h1 := data_toList a
 have h2 := data_toList b
 rw [List.eq_nil_of_length_eq_zero (h1.trans h), List.eq_nil_of_length_eq_zero (h2.trans g)])
theorem nd_alike {n m : Nd} (h1 : n.kind = m.kind) (h2 : n.data = m.data) (h3 : n.ptrs = m.ptrs) (h4 : n.size = m.size) (h5 : n.count = m.count) (h6 : n.items = m.items) : n = m := by
 cases n; cases m
 simp only [Nd.kind, Nd.data, Nd.ptrs, Nd.size, Nd.count, Nd.items] at h1 h2 h3 h4 h5 h6
 subst h1 h2 h3 h4 h5 h6
 rfl
theorem nothing_eq {n m : Nd} (hn : formN n = true) (hm : formN m = true) (h : n.kind = 0) (g : m.kind = 0) : n = m := by
 rcases form_cases hn with c | c | c
 · rcases form_cases hm with e | e | e
   · exact nd_alike (by omega) (bytes_nil c.2.1 e.2.1) ((nil_of_len c.2.2.1).trans (nil_of_len e.2.2.1).symm) (by omega) (by omega) ((nil_of_len c.2.2.2.2.2).trans (nil_of_len e.2.2.2.2.2).symm)
   · omega
   · omega
 · omega
 · omega
theorem pt_ok {n : Nd} (hf : formN n = true) (ho : ownN n ≤ 300) (hk : n.kind ≠ 0) : PtOk n := by
 obtain ⟨h1, h2, h3, h4, h5, h6, h7⟩ := form_small hf ho
 exact ⟨h1, h2, h4 hk, h5, fun a b => ⟨(h6 a b).1, ho⟩⟩
end Go.Proofs.YtlbfffokkhccaaaGreatDoor
namespace Go.Proofs.YtlbfffokkhccaaaGreatDoor
open Go.RowKit
set_option maxHeartbeats 400000 in
theorem number_any (l : List UInt8) (at_ size : Int) (w : World) (hl : l.length = 8) (h0 : 0 ≤ at_) (h1 : 0 ≤ size) (h2 : at_ + size ≤ 8) :
 Calls Tryz.prog 108 #[.agg (wd l), .int .i64 at_, .int .i64 size] w fun e w' => e = .returned (.int .u64 (leN l at_.toNat size.toNat : Nat)) ∧ Below w.heap.size w w' := by
 obtain ⟨a, rfl⟩ := Int.eq_ofNat_of_zero_le h0
 obtain ⟨z, rfl⟩ := Int.eq_ofNat_of_zero_le h1
 have hc := fun i (h : i < 8) => wd_cell w l 87 i (by omega)
 have HC := Lib.hid hc
 have HL := Lib.hid hl
 clear hc hl
 go_enter Tryz.func108, Tryz.ntmps108
 go_wp2
 go_loop [7, 8] (fun n i => ∃ k : Nat, k ≤ z ∧ i = .int .i64 ((a : Int) + z - 1 - k) ∧ n = .int .u64 (leN l (a + z - k) k : Nat)) (fun _ i => (intOf i + 1 - a).toNat)
 case atStart => exact ⟨0, by omega, by simp, by simp [leN]⟩
 case round =>
  obtain ⟨k, hk, rfl, rfl⟩ := hrel
  by_cases hlt : k < z
  · have hcell := HC.out (a + z - 1 - k) (by omega)
    go_wp2
    go_round
    case rel => exact ⟨k + 1, by omega, by go_num, by rw [number_step l a z k hlt (by omega)]⟩
    case measure => simp [intOf]; omega
  · go_wp2
    go_ret
    refine ⟨ret_int ?_, (Below.refl _ _).alloc (Nat.le_refl _) _⟩
    obtain rfl : k = z := by omega
    simp
end Go.Proofs.YtlbfffokkhccaaaGreatDoor
namespace Go.Proofs.YtlbfffokkhccaaaGreatDoor
open Go.RowKit
def ptv (k o d p s c g : Int) (t : Bool) : Value := .agg #[.int .i64 k, .int .i64 o, .int .i64 d, .int .i64 p, .int .i64 s, .int .i64 c, .int .i64 g, .bool t]
def ptif (k o d p s c g : Int) (t : Bool) : Value :=
 if k = 0 then .iface 129 (.agg #[]) else if k = 1 then .iface 168 (.agg #[.int .i64 o, .int .i64 d, .int .i64 p])
 else if k = 2 then .iface 170 (.agg #[.int .i64 o, .int .i64 s, .int .i64 c]) else if k = 3 then .iface 172 (.agg #[.int .i64 o, .int .i64 g, .bool t]) else .iface 173 (.agg #[])
theorem ret_val {a b : Value} (h : a = b) : Ending.returned a = .returned b := by rw [h]
set_option maxHeartbeats 1000000 in
theorem pointerOf_any (k o d p s c g : Int) (t : Bool) (w : World) :
 Calls Tryz.prog 58 #[ptv k o d p s c g t] w fun e w' => e = .returned (ptif k o d p s c g t) ∧ Below w.heap.size w w' := by
 unfold ptv
 by_cases h : k = 0 ∨ k = 1 ∨ k = 2 ∨ k = 3
 · rcases h with rfl | rfl | rfl | rfl
   all_goals
    go_enter Tryz.func58, Tryz.ntmps58
    go_wp2
    go_ret
    exact ⟨ret_val rfl, (Below.refl _ _).alloc (Nat.le_refl _) _⟩
 · have b0 : (k == 0) = false := by simp; omega
   have b1 : (k == 1) = false := by simp; omega
   have b2 : (k == 2) = false := by simp; omega
   have b3 : (k == 3) = false := by simp; omega
   have hf : ptif k o d p s c g t = .iface 173 (.agg #[]) := by
    simp only [beq_eq_false_iff_ne] at b0 b1 b2 b3
    simp [ptif, b0, b1, b2, b3]
   rw [hf]
   clear h hf
   go_enter Tryz.func58, Tryz.ntmps58
   go_wp2
   go_ret
   exact ⟨rfl, (Below.refl _ _).alloc (Nat.le_refl _) _⟩
theorem ta_noP_noP (x : Value) (w : World) : (Instr.typeAssert (.iface 129 x) 91 129 true).run Tryz.prog w = .ok (.tuple #[x, .bool true]) w := by kernel_rfl
theorem ta_str_noP (x : Value) (w : World) : (Instr.typeAssert (.iface 168 x) 91 129 true).run Tryz.prog w = .ok (.tuple #[.agg #[], .bool false]) w := by kernel_rfl
theorem ta_str_str (x : Value) (w : World) : (Instr.typeAssert (.iface 168 x) 91 168 true).run Tryz.prog w = .ok (.tuple #[x, .bool true]) w := by kernel_rfl
theorem ta_lis_noP (x : Value) (w : World) : (Instr.typeAssert (.iface 170 x) 91 129 true).run Tryz.prog w = .ok (.tuple #[.agg #[], .bool false]) w := by kernel_rfl
theorem ta_lis_str (x : Value) (w : World) : (Instr.typeAssert (.iface 170 x) 91 168 true).run Tryz.prog w = .ok (.tuple #[.agg #[.int .i64 0, .int .i64 0, .int .i64 0], .bool false]) w := by kernel_rfl
theorem ta_lis_lis (x : Value) (w : World) : (Instr.typeAssert (.iface 170 x) 91 170 true).run Tryz.prog w = .ok (.tuple #[x, .bool true]) w := by kernel_rfl
theorem ta_far_noP (x : Value) (w : World) : (Instr.typeAssert (.iface 172 x) 91 129 true).run Tryz.prog w = .ok (.tuple #[.agg #[], .bool false]) w := by kernel_rfl
theorem ta_far_str (x : Value) (w : World) : (Instr.typeAssert (.iface 172 x) 91 168 true).run Tryz.prog w = .ok (.tuple #[.agg #[.int .i64 0, .int .i64 0, .int .i64 0], .bool false]) w := by kernel_rfl
theorem ta_far_lis (x : Value) (w : World) : (Instr.typeAssert (.iface 172 x) 91 170 true).run Tryz.prog w = .ok (.tuple #[.agg #[.int .i64 0, .int .i64 0, .int .i64 0], .bool false]) w := by kernel_rfl
theorem ta_far_far (x : Value) (w : World) : (Instr.typeAssert (.iface 172 x) 91 172 true).run Tryz.prog w = .ok (.tuple #[x, .bool true]) w := by kernel_rfl
theorem ta_bad_noP (x : Value) (w : World) : (Instr.typeAssert (.iface 173 x) 91 129 true).run Tryz.prog w = .ok (.tuple #[.agg #[], .bool false]) w := by kernel_rfl
theorem ta_bad_str (x : Value) (w : World) : (Instr.typeAssert (.iface 173 x) 91 168 true).run Tryz.prog w = .ok (.tuple #[.agg #[.int .i64 0, .int .i64 0, .int .i64 0], .bool false]) w := by kernel_rfl
theorem ta_bad_lis (x : Value) (w : World) : (Instr.typeAssert (.iface 173 x) 91 170 true).run Tryz.prog w = .ok (.tuple #[.agg #[.int .i64 0, .int .i64 0, .int .i64 0], .bool false]) w := by kernel_rfl
theorem ta_bad_far (x : Value) (w : World) : (Instr.typeAssert (.iface 173 x) 91 172 true).run Tryz.prog w = .ok (.tuple #[.agg #[.int .i64 0, .int .i64 0, .bool false], .bool false]) w := by kernel_rfl
set_option maxHeartbeats 1000000 in
set_option maxRecDepth 100000 in
theorem pointOf_noP (w : World) :
 Calls Tryz.prog 60 #[.iface 129 (.agg #[])] w fun e w' => e = .returned (ptv 0 0 0 0 0 0 0 false) ∧ Below w.heap.size w w' := by
 have hnoP := ta_noP_noP
 unfold ptv
 go_enter Tryz.func60, Tryz.ntmps60
 go_wp2
 exact bodyPost_ret (v := .agg #[.int .i64 0, .int .i64 0, .int .i64 0, .int .i64 0, .int .i64 0, .int .i64 0, .int .i64 0, .bool false]) (by simp [results, Tryz.results60, go_sem]) rfl ⟨rfl, by repeat (first | exact Below.refl _ _ | refine Below.alloc ?_ (by simp; try omega) _)⟩
set_option maxHeartbeats 1000000 in
set_option maxRecDepth 100000 in
theorem pointOf_str (o d p : Int) (w : World) :
 Calls Tryz.prog 60 #[.iface 168 (.agg #[.int .i64 o, .int .i64 d, .int .i64 p])] w fun e w' => e = .returned (ptv 1 o d p 0 0 0 false) ∧ Below w.heap.size w w' := by
 have hnoP := ta_str_noP
 have hstr := ta_str_str
 unfold ptv
 go_enter Tryz.func60, Tryz.ntmps60
 go_wp2
 exact bodyPost_ret (v := .agg #[.int .i64 1, .int .i64 o, .int .i64 d, .int .i64 p, .int .i64 0, .int .i64 0, .int .i64 0, .bool false]) (by simp [results, Tryz.results60, go_sem]) rfl ⟨rfl, by repeat (first | exact Below.refl _ _ | refine Below.alloc ?_ (by simp; try omega) _)⟩
set_option maxHeartbeats 1000000 in
set_option maxRecDepth 100000 in
theorem pointOf_lis (o d p : Int) (w : World) :
 Calls Tryz.prog 60 #[.iface 170 (.agg #[.int .i64 o, .int .i64 d, .int .i64 p])] w fun e w' => e = .returned (ptv 2 o 0 0 d p 0 false) ∧ Below w.heap.size w w' := by
 have hnoP := ta_lis_noP
 have hstr := ta_lis_str
 have hlis := ta_lis_lis
 unfold ptv
 go_enter Tryz.func60, Tryz.ntmps60
 go_wp2
 exact bodyPost_ret (v := .agg #[.int .i64 2, .int .i64 o, .int .i64 0, .int .i64 0, .int .i64 d, .int .i64 p, .int .i64 0, .bool false]) (by simp [results, Tryz.results60, go_sem]) rfl ⟨rfl, by repeat (first | exact Below.refl _ _ | refine Below.alloc ?_ (by simp; try omega) _)⟩
set_option maxHeartbeats 1000000 in
set_option maxRecDepth 100000 in
theorem pointOf_far (o d : Int) (t : Bool) (w : World) :
 Calls Tryz.prog 60 #[.iface 172 (.agg #[.int .i64 o, .int .i64 d, .bool t])] w fun e w' => e = .returned (ptv 3 o 0 0 0 0 d t) ∧ Below w.heap.size w w' := by
 have hnoP := ta_far_noP
 have hstr := ta_far_str
 have hlis := ta_far_lis
 have hfar := ta_far_far
 unfold ptv
 go_enter Tryz.func60, Tryz.ntmps60
 go_wp2
 exact bodyPost_ret (v := .agg #[.int .i64 3, .int .i64 o, .int .i64 0, .int .i64 0, .int .i64 0, .int .i64 0, .int .i64 d, .bool t]) (by simp [results, Tryz.results60, go_sem]) rfl ⟨rfl, by repeat (first | exact Below.refl _ _ | refine Below.alloc ?_ (by simp; try omega) _)⟩
set_option maxHeartbeats 1000000 in
set_option maxRecDepth 100000 in
theorem pointOf_bad (w : World) :
 Calls Tryz.prog 60 #[.iface 173 (.agg #[])] w fun e w' => e = .returned (ptv 4 0 0 0 0 0 0 false) ∧ Below w.heap.size w w' := by
 have hnoP := ta_bad_noP
 have hstr := ta_bad_str
 have hlis := ta_bad_lis
 have hfar := ta_bad_far
 unfold ptv
 go_enter Tryz.func60, Tryz.ntmps60
 go_wp2
 exact bodyPost_ret (v := .agg #[.int .i64 4, .int .i64 0, .int .i64 0, .int .i64 0, .int .i64 0, .int .i64 0, .int .i64 0, .bool false]) (by simp [results, Tryz.results60, go_sem]) rfl ⟨rfl, by repeat (first | exact Below.refl _ _ | refine Below.alloc ?_ (by simp; try omega) _)⟩
end Go.Proofs.YtlbfffokkhccaaaGreatDoor
namespace Go.Proofs.YtlbfffokkhccaaaGreatDoor
open Go.RowKit
def withB (n b : Int) : Bool := decide (0 ≤ n ∧ n < b)
set_option maxHeartbeats 400000 in
theorem within_any (n b : Int) (w : World) :
 Calls Tryz.prog 43 #[.int .i64 n, .int .i64 b] w fun e w' => e = .returned (.bool (withB n b)) ∧ w = w' := by
 by_cases h1 : 0 ≤ n
 all_goals
  go_enter Tryz.func43, Tryz.ntmps43
  go_wp2
  all_goals go_ret
  all_goals refine ⟨ret_bool ?_, rfl⟩
  all_goals (simp [withB]; try omega)
def bitsOf (n : Int) : Int := if n = 1 then 1 else if n = 2 then 8 else if n = 3 then 16 else if n = 4 then 32 else if n = 5 then 64 else if n = 6 then 64 else 0
set_option maxHeartbeats 400000 in
theorem sizeBits_any (n : Int) (w : World) (h0 : 0 ≤ n) (h1 : n ≤ 6) :
 Calls Tryz.prog 170 #[.int .i64 n] w fun e w' => e = .returned (.int .i64 (bitsOf n)) ∧ w = w' := by
 have h : n = 0 ∨ n = 1 ∨ n = 2 ∨ n = 3 ∨ n = 4 ∨ n = 5 ∨ n = 6 := by omega
 rcases h with rfl | rfl | rfl | rfl | rfl | rfl | rfl
 all_goals
  go_enter Tryz.func170, Tryz.ntmps170
  go_wp2
  go_ret
  exact ⟨ret_int (by decide), rfl⟩
theorem bitsOf_bd (n : Int) : 0 ≤ bitsOf n ∧ bitsOf n ≤ 64 := by unfold bitsOf; split <;> (try split) <;> (try split) <;> (try split) <;> (try split) <;> (try split) <;> omega
def wfI (size count : Int) : Int := (bitsOf size * count + 63) / 64
set_option maxHeartbeats 400000 in
theorem wordsFor_any (size count : Int) (w : World) (a1 : 0 ≤ size) (a2 : size ≤ 6) (c1 : 0 ≤ count) (c2 : count ≤ 1000000000) :
 Calls Tryz.prog 160 #[.int .i64 size, .int .i64 count] w fun e w' => e = .returned (.int .i64 (wfI size count)) ∧ w = w' := by
 have hb := bitsOf_bd size
 have hfin : wfI size count = (count * bitsOf size + 64 - 1) / 64 := by
  rw [wfI, Int.mul_comm]; congr 1; omega
 obtain ⟨b1, b2⟩ := hb
 have m0 : 0 ≤ count * bitsOf size := Int.mul_nonneg c1 b1
 have m1 : count * bitsOf size ≤ 1000000000 * 64 := Int.mul_le_mul c2 b2 b1 (by decide)
 rw [hfin]
 clear hfin
 go_enter Tryz.func160, Tryz.ntmps160
 go_wp2_with (first | (go_at_call 170; refine (sizeBits_any _ _ a1 a2).mono ?_; rintro e w' ⟨rfl, rfl⟩))
 go_ret
 exact ⟨ret_int rfl, rfl⟩
end Go.Proofs.YtlbfffokkhccaaaGreatDoor
namespace Go.Proofs.YtlbfffokkhccaaaGreatDoor
open Go.RowKit
set_option maxHeartbeats 400000 in
theorem offFits_any (n : Int) (w : World) :
 Calls Tryz.prog 237 #[.int .i64 n] w fun e w' => e = .returned (.bool (inB n (-536870912) 536870911)) ∧ w = w' := by
 by_cases h1 : -536870912 ≤ n
 all_goals
  go_enter Tryz.func237, Tryz.ntmps237
  go_wp2
  all_goals go_ret
  all_goals refine ⟨ret_bool ?_, rfl⟩
  all_goals (rw [Bool.eq_iff_iff]; simp [inB]; try omega)
theorem fits_non (w : World) : Calls Tryz.prog 230 #[.agg #[]] w fun e w' => e = .returned (.bool true) ∧ Below w.heap.size w w' := by
 go_enter Tryz.func230, Tryz.ntmps230
 go_wp2
 go_ret
 exact ⟨rfl, by repeat (first | exact Below.refl _ _ | refine Below.alloc ?_ (by simp; try omega) _)⟩
theorem fits_bad (w : World) : Calls Tryz.prog 243 #[.agg #[]] w fun e w' => e = .returned (.bool false) ∧ Below w.heap.size w w' := by
 go_enter Tryz.func243, Tryz.ntmps243
 go_wp2
 go_ret
 exact ⟨rfl, by repeat (first | exact Below.refl _ _ | refine Below.alloc ?_ (by simp; try omega) _)⟩
set_option maxHeartbeats 1000000 in
theorem fits_lis (o s c : Int) (w : World) : Calls Tryz.prog 239 #[.agg #[.int .i64 o, .int .i64 s, .int .i64 c]] w fun e w' => e = .returned (.bool (inB o (-536870912) 536870911 && (withB s 8 && withB c 536870912))) ∧ Below w.heap.size w w' := by
 cases h1 : inB o (-536870912) 536870911 <;> cases h2 : withB s 8
 all_goals
  go_enter Tryz.func239, Tryz.ntmps239
  go_wp2_with (first | (go_at_call 237; refine (offFits_any _ _).mono ?_; rintro e w' ⟨rfl, rfl⟩) | (go_at_call 43; refine (within_any _ _ _).mono ?_; rintro e w' ⟨rfl, rfl⟩))
  go_ret
  exact ⟨ret_bool (by simp), by repeat (first | exact Below.refl _ _ | refine Below.alloc ?_ (by simp; try omega) _)⟩
set_option maxHeartbeats 1000000 in
theorem fits_far (o g : Int) (t : Bool) (w : World) : Calls Tryz.prog 241 #[.agg #[.int .i64 o, .int .i64 g, .bool t]] w fun e w' => e = .returned (.bool (withB o 536870912 && withB g 4294967296)) ∧ Below w.heap.size w w' := by
 cases h1 : withB o 536870912
 all_goals
  go_enter Tryz.func241, Tryz.ntmps241
  go_wp2_with (first | (go_at_call 43; refine (within_any _ _ _).mono ?_; rintro e w' ⟨rfl, rfl⟩))
  go_ret
  exact ⟨ret_bool (by simp), by repeat (first | exact Below.refl _ _ | refine Below.alloc ?_ (by simp; try omega) _)⟩
def zer3 (o d p : Int) : Bool := decide (o = 0 ∧ d = 0 ∧ p = 0)
set_option maxHeartbeats 1000000 in
theorem fits_str (o d p : Int) (w : World) : Calls Tryz.prog 235 #[.agg #[.int .i64 o, .int .i64 d, .int .i64 p]] w fun e w' => e = .returned (.bool (inB o (-536870912) 536870911 && (withB d 65536 && (withB p 65536 && !(zer3 o d p))))) ∧ Below w.heap.size w w' := by
 cases h1 : inB o (-536870912) 536870911 <;> cases h2 : withB d 65536 <;> cases h3 : withB p 65536
 all_goals
  go_enter Tryz.func235, Tryz.ntmps235
  go_wp2_with (first | (go_at_call 237; refine (offFits_any _ _).mono ?_; rintro e w' ⟨rfl, rfl⟩) | (go_at_call 43; refine (within_any _ _ _).mono ?_; rintro e w' ⟨rfl, rfl⟩))
  all_goals go_ret
  all_goals exact ⟨ret_bool (by simp [zer3, *]), by repeat (first | exact Below.refl _ _ | refine Below.alloc ?_ (by simp; try omega) _)⟩
def fitsOf (k o d p s c g : Int) (_t : Bool) : Bool :=
 if k = 0 then true else if k = 1 then inB o (-536870912) 536870911 && (withB d 65536 && (withB p 65536 && !(zer3 o d p)))
 else if k = 2 then inB o (-536870912) 536870911 && (withB s 8 && withB c 536870912) else if k = 3 then withB o 536870912 && withB g 4294967296 else false
def restOf (k o d p s c g : Int) (t : Bool) : Bool :=
 if k = 0 then decide (o = 0 ∧ d = 0 ∧ p = 0 ∧ s = 0 ∧ c = 0 ∧ g = 0 ∧ t = false) else if k = 1 then decide (s = 0 ∧ c = 0 ∧ g = 0 ∧ t = false)
 else if k = 2 then decide (d = 0 ∧ p = 0 ∧ g = 0 ∧ t = false) else if k = 3 then decide (d = 0 ∧ p = 0 ∧ s = 0 ∧ c = 0) else decide (k = 4 ∧ o = 0 ∧ d = 0 ∧ p = 0 ∧ s = 0 ∧ c = 0 ∧ g = 0 ∧ t = false)
def ptOk (k o d p s c g : Int) (t : Bool) : Bool := restOf k o d p s c g t && fitsOf k o d p s c g t
theorem cells8 {w : World} {b : Nat} {a0 a1 a2 a3 a4 a5 a6 a7 : Value} {T : TypeId} (h : w.heap[b]? = some (.cells #[a0, a1, a2, a3, a4, a5, a6, a7] T (0, 0))) :
 w.cell? ⟨b, 0, none⟩ = some a0 ∧ w.cell? ⟨b, 1, none⟩ = some a1 ∧ w.cell? ⟨b, 2, none⟩ = some a2 ∧ w.cell? ⟨b, 3, none⟩ = some a3 ∧ w.cell? ⟨b, 4, none⟩ = some a4 ∧ w.cell? ⟨b, 5, none⟩ = some a5 ∧ w.cell? ⟨b, 6, none⟩ = some a6 ∧ w.cell? ⟨b, 7, none⟩ = some a7 := by
 simp [World.cell?, h]
theorem kept8 {w w' : World} {b : Nat} {o : Obj} (h : w.heap[b]? = some o) (hb : Below w.heap.size w w') : w'.heap[b]? = some o := by
 have hlt : b < w.heap.size := by
  rcases Nat.lt_or_ge b w.heap.size with hlt | hge
  · exact hlt
  · rw [Array.getElem?_eq_none hge] at h; cases h
 exact (hb.block b hlt).trans h
def eqP (k o d p s c g : Int) (t : Bool) (k' o' d' p' s' c' g' : Int) (t' : Bool) : Bool := decide (k = k' ∧ o = o' ∧ d = d' ∧ p = p' ∧ s = s' ∧ c = c' ∧ g = g' ∧ t = t')
theorem ite_chain {a : Prop} [Decidable a] (b : Bool) (w : World) : (if a then Result.ok (Value.bool b) w else Result.ok (Value.bool false) w) = Result.ok (Value.bool (decide a && b)) w := by
 by_cases h : a <;> simp [h]
set_option maxHeartbeats 1000000 in
set_option maxRecDepth 100000 in
theorem eql_pt (k o d p s c g : Int) (t : Bool) (k' o' d' p' s' c' g' : Int) (t' : Bool) (w : World) :
 (binOp .eql 44 (ptv k o d p s c g t) (ptv k' o' d' p' s' c' g' t')).run Tryz.prog w = .ok (.bool (eqP k o d p s c g t k' o' d' p' s' c' g' t')) w := by
 unfold ptv eqP
 rw [run_eql_struct]
 go_simp
 simp only [ite_chain, Bool.and_true]
theorem guard_pt (x y : Operand) (k o d p s c g : Int) (t : Bool) (k' o' d' p' s' c' g' : Int) (t' : Bool) (w : World) :
 (eqGuard .eql 44 x y (ptv k o d p s c g t) (ptv k' o' d' p' s' c' g' t')).run Tryz.prog w = .ok () w := run_eqGuard_agg w _ _ _ _ _ _ (by kernel_rfl)
end Go.Proofs.YtlbfffokkhccaaaGreatDoor
namespace Go.Proofs.YtlbfffokkhccaaaGreatDoor
open Go.RowKit
end Go.Proofs.YtlbfffokkhccaaaGreatDoor
namespace Go.Proofs.YtlbfffokkhccaaaGreatDoor
open Go.RowKit
def ptT (x : Int × Int × Int × Int × Int × Int × Int × Bool) : Value := ptv x.1 x.2.1 x.2.2.1 x.2.2.2.1 x.2.2.2.2.1 x.2.2.2.2.2.1 x.2.2.2.2.2.2.1 x.2.2.2.2.2.2.2
def leI (l : List UInt8) (a : Int) : Int := ((leN l a.toNat 4 : Nat) : Int)
end Go.Proofs.YtlbfffokkhccaaaGreatDoor