/- Texts of the proof of the law FnSend, side by side: part 12. -/
import Derived.Stop.BytesEq
import Derived.Test.YtlbfffokkhccaaaGreatDoorMSend11
set_option maxHeartbeats 8000000
set_option maxRecDepth 100000
namespace Go.Proofs.YtlbfffokkhccaaaGreatDoor
open Go.RowKit Go.Deep
def ptV (n : Nd) (off : Int) : Value :=
 if n.kind = 1 then .iface 168 (.agg #[.int .i64 off, .int .i64 (n.data.size / 8 : Nat), .int .i64 (n.ptrs.length : Nat)])
 else if n.size = 7 then .iface 170 (.agg #[.int .i64 off, .int .i64 7, .int .i64 ((ownN n : Int) - 1)]) else .iface 170 (.agg #[.int .i64 off, .int .i64 n.size, .int .i64 n.count])
theorem form_small {n : Nd} (hf : formN n = true) (ho : ownN n ≤ 300) : n.data.size ≤ 2400 ∧ n.ptrs.length ≤ 300 ∧ n.items.length ≤ 20000 ∧ (n.kind ≠ 0 → n.kind = 1 ∨ n.kind = 2) ∧ (n.kind = 2 → 0 ≤ n.size ∧ n.size ≤ 7 ∧ 0 ≤ n.count ∧ n.count < 12801) ∧ (n.kind = 2 → n.size = 7 → 1 ≤ ownN n ∧ (n.items.length : Int) = n.count ∧ n.data.size = 0 ∧ n.ptrs.length = 0) ∧ (n.kind = 1 → n.data.size % 8 = 0) := by
 have hb : ownB n ≤ ownN n := by unfold ownN; omega
 have hd : n.data.size ≤ 2400 := by unfold ownB at hb; omega
 have hp : n.ptrs.length ≤ 300 := by unfold ownB at hb; omega
 rcases form_cases hf with h | h | ⟨h1, h2, h | h | h⟩
 · exact ⟨hd, hp, by omega, fun e => by omega, fun e => by omega, fun e => by omega, fun e => by omega⟩
 · exact ⟨hd, hp, by omega, fun _ => .inl h.1, fun e => by omega, fun e => by omega, fun _ => by omega⟩
 · exact ⟨hd, hp, by omega, fun _ => .inr h1, fun _ => by omega, fun _ e => by omega, fun e => by omega⟩
 · exact ⟨hd, hp, by omega, fun _ => .inr h1, fun _ => by omega, fun _ e => by omega, fun e => by omega⟩
 · refine ⟨hd, hp, by omega, fun _ => .inr h1, fun _ => by omega, fun _ _ => ⟨?_, by omega, by omega, by omega⟩, fun e => by omega⟩
   unfold ownN
   rw [if_pos ⟨h1, h.1⟩]
   omega
theorem pointerTo_any (m : Nat) (n : Nd) (h : Hd) (off : Int) (w : World) (S : Nat → Prop) (hn : NdAt w S m n h) (hf : formN n = true) (ht : totN m n ≤ 2000000) (ho : ownN n ≤ 300) (hk : n.kind ≠ 0) :
 Calls Tryz.prog 74 #[.agg #[.int .i64 n.kind, .string n.data, .slice h.A n.ptrs.length h.a, .int .i64 n.size, .int .i64 n.count, .slice h.B n.items.length h.b], .int .i64 off] w fun e w' => e = .returned (ptV n off) ∧ Below w.heap.size w w' := by
 obtain ⟨qA, qa, qB, qb⟩ := h
 obtain ⟨hd, hp, _, hkk, hs, h7, h8⟩ := form_small hf ho
 have hb0 : Below w.heap.size w (w.alloc (.cells #[.int .i64 n.kind, .string n.data, .slice qA n.ptrs.length qa, .int .i64 n.size, .int .i64 n.count, .slice qB n.items.length qb] nodeT)) := (Below.refl _ w).alloc (Nat.le_refl _) _
 rcases hkk hk with k1 | k2
 · have hkb : (n.kind == 1) = true := by rw [k1]; rfl
   have HE : Hid (ptV n off = .iface 168 (.agg #[.int .i64 off, .int .i64 (n.data.size / 8 : Nat), .int .i64 (n.ptrs.length : Nat)])) := Lib.hid (by unfold ptV; rw [if_pos k1])
   rw [HE.out]
   have HB := Lib.hid hb0
   have e8 : (n.data.size : Int) / 8 = ((n.data.size / 8 : Nat) : Int) := by omega
   rw [← e8]
   clear hn hf hkk hs h7 h8 hk k1 hb0 e8
   dsimp only
   go_enter Tryz.func74, Tryz.ntmps74
   go_wp2
   go_ret
   exact ⟨rfl, HB.out⟩
 · have hkb : (n.kind == 1) = false := by rw [k2]; rfl
   have HOW := Lib.hid (ownWords_a m n ⟨qA, qa, qB, qb⟩ _ S (hn.below hb0) hf ht)
   have HB := Lib.hid hb0
   have hs' := hs k2
   have k1 : ¬ n.kind = 1 := by omega
   dsimp only at HOW
   by_cases e7 : n.size = 7
   · have hsb : (n.size == 7) = true := by rw [e7]; rfl
     have HE : Hid (ptV n off = .iface 170 (.agg #[.int .i64 off, .int .i64 7, .int .i64 ((ownN n : Int) - 1)])) := Lib.hid (by unfold ptV; rw [if_neg k1, if_pos e7])
     rw [HE.out]
     have h1 := (h7 k2 e7).1
     generalize ownN n = on at *
     clear hn hf hkk hs h7 h8 hk k1 k2 hb0 e7 hs'
     dsimp only
     go_enter Tryz.func74, Tryz.ntmps74
     go_wp2_with fail
     refine HOW.out.mono ?_
     rintro e w1 ⟨rfl, hb1⟩
     have HB1 := Lib.hid (HB.out.trans (hb1.mono HB.out.size))
     clear hb1
     go_wp2
     go_ret
     exact ⟨rfl, HB1.out⟩
   · have hsb : (n.size == 7) = false := by simpa using e7
     have HE : Hid (ptV n off = .iface 170 (.agg #[.int .i64 off, .int .i64 n.size, .int .i64 n.count])) := Lib.hid (by unfold ptV; rw [if_neg k1, if_neg e7])
     rw [HE.out]
     clear hn hf hkk hs h7 h8 hk k1 k2 hb0 e7 hs' HOW
     dsimp only
     go_enter Tryz.func74, Tryz.ntmps74
     go_wp2
     go_ret
     exact ⟨rfl, HB.out⟩
theorem set_node (base b size : Nat) (ss : Segs) (P : Nat → Prop) (w : World) (h : Bun w base b size ss P) (hw8 : WdS ss) (i a : Nat) (hi : i < ss.length) (ha : a < wn (sgS ss i)) (ht : totS ss ≤ 100000) (n : Nd) (hf : formN n = true) (ho : ownN n ≤ 300) (hk : n.kind ≠ 0) (off : Int) (h0 : -100000 ≤ off) (h1 : off ≤ 100000) :
 Calls Tryz.prog 73 #[.pointer (some ⟨b, 0, none⟩), .agg #[.int .i64 (i : Int), .int .i64 (a : Int)], ptV n off] w (SetP base b size ss i a (ptrW n off) P w) := by
 obtain ⟨hd, hp, _, hkk, hs, h7, h8⟩ := form_small hf ho
 unfold ptV ptrW
 split
 · exact set_str base b size ss P w h hw8 i a hi ha ht off _ _ (by omega) (by omega) (by omega) (by omega) (by omega) (by omega)
 · have k2 : n.kind = 2 := by rcases hkk hk with e | e <;> omega
   have := hs k2
   split
   · rename_i e7
     have := h7 k2 e7
     exact set_lis base b size ss P w h hw8 i a hi ha ht off 7 _ (by omega) (by omega) (by omega) (by omega) (by omega) (by omega)
   · exact set_lis base b size ss P w h hw8 i a hi ha ht off _ _ (by omega) (by omega) (by omega) (by omega) (by omega) (by omega)
end Go.Proofs.YtlbfffokkhccaaaGreatDoor
namespace Go.Proofs.YtlbfffokkhccaaaGreatDoor
theorem bytes_eq {a b : ByteArray} (h : a.data.toList = b.data.toList) : a = b := by
 obtain ⟨⟨a⟩⟩ := a
 obtain ⟨⟨b⟩⟩ := b
 simp only at h
 rw [h]
theorem bytes_nil {a b : ByteArray} (h : a.size = 0) (g : b.size = 0) : a = b := bytes_eq (by
 have h1 := data_toList a
 have h2 := data_toList b
 rw [List.eq_nil_of_length_eq_zero (h1.trans h), List.eq_nil_of_length_eq_zero (h2.trans g)])
theorem nd_alike {n m : Nd} (h1 : n.kind = m.kind) (h2 : n.data = m.data) (h3 : n.ptrs = m.ptrs) (h4 : n.size = m.size) (h5 : n.count = m.count) (h6 : n.items = m.items) : n = m := by
 cases n; cases m
 simp only [Nd.kind, Nd.data, Nd.ptrs, Nd.size, Nd.count, Nd.items] at h1 h2 h3 h4 h5 h6
 subst h1 h2 h3 h4 h5 h6
 rfl
theorem nothing_eq {n m : Nd} (hn : formN n = true) (hm : formN m = true) (h : n.kind = 0) (g : m.kind = 0) : n = m := by
 rcases form_cases hn with c | c | c
 · rcases form_cases hm with e | e | e
   · exact nd_alike (by omega) (bytes_nil c.2.1 e.2.1) ((nil_of_len c.2.2.1).trans (nil_of_len e.2.2.1).symm) (by omega) (by omega) ((nil_of_len c.2.2.2.2.2).trans (nil_of_len e.2.2.2.2.2).symm)
   · omega
   · omega
 · omega
 · omega
theorem pt_ok {n : Nd} (hf : formN n = true) (ho : ownN n ≤ 300) (hk : n.kind ≠ 0) : PtOk n := by
 obtain ⟨h1, h2, h3, h4, h5, h6, h7⟩ := form_small hf ho
 exact ⟨h1, h2, h4 hk, h5, fun a b => ⟨(h6 a b).1, ho⟩⟩
open Go.RowKit
theorem number_any (l : List UInt8) (at_ size : Int) (w : World) (hl : l.length = 8) (h0 : 0 ≤ at_) (h1 : 0 ≤ size) (h2 : at_ + size ≤ 8) :
 Calls Tryz.prog 108 #[.agg (wd l), .int .i64 at_, .int .i64 size] w fun e w' => e = .returned (.int .u64 (leN l at_.toNat size.toNat : Nat)) ∧ Below w.heap.size w w' := by
 obtain ⟨a, rfl⟩ := Int.eq_ofNat_of_zero_le h0
 obtain ⟨z, rfl⟩ := Int.eq_ofNat_of_zero_le h1
 have hc := fun i (h : i < 8) => wd_cell w l 87 i (by omega)
 have HC := Lib.hid hc
 have HL := Lib.hid hl
 clear hc hl
 go_enter Tryz.func108, Tryz.ntmps108
 go_wp2
 go_loop [7, 8] (fun n i => ∃ k : Nat, k ≤ z ∧ i = .int .i64 ((a : Int) + z - 1 - k) ∧ n = .int .u64 (leN l (a + z - k) k : Nat)) (fun _ i => (intOf i + 1 - a).toNat)
 case atStart => exact ⟨0, by omega, by simp, by simp [leN]⟩
 case round =>
  obtain ⟨k, hk, rfl, rfl⟩ := hrel
  by_cases hlt : k < z
  · have hcell := HC.out (a + z - 1 - k) (by omega)
    go_wp2
    go_round
    case rel => exact ⟨k + 1, by omega, by go_num, by rw [number_step l a z k hlt (by omega)]⟩
    case measure => simp [intOf]; omega
  · go_wp2
    go_ret
    refine ⟨ret_int ?_, (Below.refl _ _).alloc (Nat.le_refl _) _⟩
    obtain rfl : k = z := by omega
    simp
def ptif (k o d p s c g : Int) (t : Bool) : Value :=
 if k = 0 then .iface 129 (.agg #[]) else if k = 1 then .iface 168 (.agg #[.int .i64 o, .int .i64 d, .int .i64 p])
 else if k = 2 then .iface 170 (.agg #[.int .i64 o, .int .i64 s, .int .i64 c]) else if k = 3 then .iface 172 (.agg #[.int .i64 o, .int .i64 g, .bool t]) else .iface 173 (.agg #[])
theorem ret_val {a b : Value} (h : a = b) : Ending.returned a = .returned b := by rw [h]
theorem ta_noP_noP (x : Value) (w : World) : (Instr.typeAssert (.iface 129 x) 91 129 true).run Tryz.prog w = .ok (.tuple #[x, .bool true]) w := by kernel_rfl
theorem ta_str_noP (x : Value) (w : World) : (Instr.typeAssert (.iface 168 x) 91 129 true).run Tryz.prog w = .ok (.tuple #[.agg #[], .bool false]) w := by kernel_rfl
theorem ta_str_str (x : Value) (w : World) : (Instr.typeAssert (.iface 168 x) 91 168 true).run Tryz.prog w = .ok (.tuple #[x, .bool true]) w := by kernel_rfl
theorem ta_lis_noP (x : Value) (w : World) : (Instr.typeAssert (.iface 170 x) 91 129 true).run Tryz.prog w = .ok (.tuple #[.agg #[], .bool false]) w := by kernel_rfl
theorem ta_lis_str (x : Value) (w : World) : (Instr.typeAssert (.iface 170 x) 91 168 true).run Tryz.prog w = .ok (.tuple #[.agg #[.int .i64 0, .int .i64 0, .int .i64 0], .bool false]) w := by kernel_rfl
theorem ta_lis_lis (x : Value) (w : World) : (Instr.typeAssert (.iface 170 x) 91 170 true).run Tryz.prog w = .ok (.tuple #[x, .bool true]) w := by kernel_rfl
theorem ta_far_noP (x : Value) (w : World) : (Instr.typeAssert (.iface 172 x) 91 129 true).run Tryz.prog w = .ok (.tuple #[.agg #[], .bool false]) w := by kernel_rfl
theorem ta_far_far (x : Value) (w : World) : (Instr.typeAssert (.iface 172 x) 91 172 true).run Tryz.prog w = .ok (.tuple #[x, .bool true]) w := by kernel_rfl
def bitsOf (n : Int) : Int := if n = 1 then 1 else if n = 2 then 8 else if n = 3 then 16 else if n = 4 then 32 else if n = 5 then 64 else if n = 6 then 64 else 0
theorem sizeBits_any (n : Int) (w : World) (h0 : 0 ≤ n) (h1 : n ≤ 6) :
 Calls Tryz.prog 170 #[.int .i64 n] w fun e w' => e = .returned (.int .i64 (bitsOf n)) ∧ w = w' := by
 have h : n = 0 ∨ n = 1 ∨ n = 2 ∨ n = 3 ∨ n = 4 ∨ n = 5 ∨ n = 6 := by omega
 rcases h with rfl | rfl | rfl | rfl | rfl | rfl | rfl
 all_goals
  go_enter Tryz.func170, Tryz.ntmps170
  go_wp2
  go_ret
  exact ⟨ret_int (by decide), rfl⟩
theorem bitsOf_bd (n : Int) : 0 ≤ bitsOf n ∧ bitsOf n ≤ 64 := by unfold bitsOf; split <;> (try split) <;> (try split) <;> (try split) <;> (try split) <;> (try split) <;> omega
def wfI (size count : Int) : Int := (bitsOf size * count + 63) / 64
theorem wordsFor_any (size count : Int) (w : World) (a1 : 0 ≤ size) (a2 : size ≤ 6) (c1 : 0 ≤ count) (c2 : count ≤ 1000000000) :
 Calls Tryz.prog 160 #[.int .i64 size, .int .i64 count] w fun e w' => e = .returned (.int .i64 (wfI size count)) ∧ w = w' := by
 have hb := bitsOf_bd size
 have hfin : wfI size count = (count * bitsOf size + 64 - 1) / 64 := by
  rw [wfI, Int.mul_comm]; congr 1; omega
 obtain ⟨b1, b2⟩ := hb
 have m0 : 0 ≤ count * bitsOf size := Int.mul_nonneg c1 b1
 have m1 : count * bitsOf size ≤ 1000000000 * 64 := Int.mul_le_mul c2 b2 b1 (by decide)
 rw [hfin]
 clear hfin
 go_enter Tryz.func160, Tryz.ntmps160
 go_wp2_with (first | (go_at_call 170; refine (sizeBits_any _ _ a1 a2).mono ?_; rintro e w' ⟨rfl, rfl⟩))
 go_ret
 exact ⟨ret_int rfl, rfl⟩
theorem cells8 {w : World} {b : Nat} {a0 a1 a2 a3 a4 a5 a6 a7 : Value} {T : TypeId} (h : w.heap[b]? = some (.cells #[a0, a1, a2, a3, a4, a5, a6, a7] T (0, 0))) :
 w.cell? ⟨b, 0, none⟩ = some a0 ∧ w.cell? ⟨b, 1, none⟩ = some a1 ∧ w.cell? ⟨b, 2, none⟩ = some a2 ∧ w.cell? ⟨b, 3, none⟩ = some a3 ∧ w.cell? ⟨b, 4, none⟩ = some a4 ∧ w.cell? ⟨b, 5, none⟩ = some a5 ∧ w.cell? ⟨b, 6, none⟩ = some a6 ∧ w.cell? ⟨b, 7, none⟩ = some a7 := by
 simp [World.cell?, h]
theorem kept8 {w w' : World} {b : Nat} {o : Obj} (h : w.heap[b]? = some o) (hb : Below w.heap.size w w') : w'.heap[b]? = some o := by
 have hlt : b < w.heap.size := by
  rcases Nat.lt_or_ge b w.heap.size with hlt | hge
  · exact hlt
  · rw [Array.getElem?_eq_none hge] at h; cases h
 exact (hb.block b hlt).trans h
def leI (l : List UInt8) (a : Int) : Int := ((leN l a.toNat 4 : Nat) : Int)
def wv (a b c d e f g i : UInt8) : Value := .agg #[.int .u8 a.toNat, .int .u8 b.toNat, .int .u8 c.toNat, .int .u8 d.toNat, .int .u8 e.toNat, .int .u8 f.toNat, .int .u8 g.toNat, .int .u8 i.toNat]
def zer8 (a b c d e f g i : UInt8) : Bool := [a, b, c, d, e, f, g, i] == [0, 0, 0, 0, 0, 0, 0, 0]
theorem eql_word (a b c d e f g i : UInt8) (w : World) :
 (binOp .eql 87 (.agg #[.int .u8 a.toNat, .int .u8 b.toNat, .int .u8 c.toNat, .int .u8 d.toNat, .int .u8 e.toNat, .int .u8 f.toNat, .int .u8 g.toNat, .int .u8 i.toNat]) (.agg #[.int .u8 0, .int .u8 0, .int .u8 0, .int .u8 0, .int .u8 0, .int .u8 0, .int .u8 0, .int .u8 0])).run Tryz.prog w = .ok (.bool (zer8 a b c d e f g i)) w :=
 run_eql_bytes w 87 5 8 Tryz.underlying87 Tryz.underlying5 (fun w => by kernel_rfl) [a, b, c, d, e, f, g, i] [0, 0, 0, 0, 0, 0, 0, 0] rfl rfl
theorem guard_word (op : BinOp) (x y : Operand) (xs ys : Array Value) (w : World) : (eqGuard op 87 x y (.agg xs) (.agg ys)).run Tryz.prog w = .ok () w := run_eqGuard_agg w _ _ _ _ _ _ (by kernel_rfl)
theorem zer8_eq (a b c d e f g i : UInt8) : zer8 a b c d e f g i = decide (leN [a, b, c, d, e, f, g, i] 0 4 = 0 ∧ leN [a, b, c, d, e, f, g, i] 4 4 = 0) := by
 have h1 : leN [a, b, c, d, e, f, g, i] 0 4 = a.toNat + 256 * (b.toNat + 256 * (c.toNat + 256 * (d.toNat + 256 * 0))) := rfl
 have h2 : leN [a, b, c, d, e, f, g, i] 4 4 = e.toNat + 256 * (f.toNat + 256 * (g.toNat + 256 * (i.toNat + 256 * 0))) := rfl
 rw [h1, h2, zer8, Bool.eq_iff_iff]
 simp [← UInt8.toNat_inj]
 omega
theorem w64_ok (n : Int) (h : 0 ≤ n ∧ n < 4294967296) : IntKind.i64.wrap n = n ∧ wrap64 n = n := by
 constructor
 · rw [IntKind.wrap_i64]; omega
 · unfold wrap64; omega
def ptI (x : Int × Int × Int × Int × Int × Int × Int × Bool) : Value := ptif x.1 x.2.1 x.2.2.1 x.2.2.2.1 x.2.2.2.2.1 x.2.2.2.2.2.1 x.2.2.2.2.2.2.1 x.2.2.2.2.2.2.2
theorem readPointer_any (a b c d e f g i : UInt8) (w : World) :
 Calls Tryz.prog 61 #[wv a b c d e f g i] w fun e' w' => e' = .returned (ptI (getP (leN [a, b, c, d, e, f, g, i] 0 4) (leN [a, b, c, d, e, f, g, i] 4 4))) ∧ Below w.heap.size w w' := by
 have hl := leN_lt [a, b, c, d, e, f, g, i] 4 0
 have hh := leN_lt [a, b, c, d, e, f, g, i] 4 4
 have hL : ∀ (n : Int) (w : World), (n = 0 ∨ n = 4) → Calls Tryz.prog 108 #[wv a b c d e f g i, .int .i64 n, .int .i64 4] w fun e' w' => e' = .returned (.int .u64 (leI [a, b, c, d, e, f, g, i] n)) ∧ Below w.heap.size w w' :=
  fun n w hn => number_any [a, b, c, d, e, f, g, i] n 4 w rfl (by omega) (by decide) (by omega)
 have e0 : leI [a, b, c, d, e, f, g, i] 0 = ((leN [a, b, c, d, e, f, g, i] 0 4 : Nat) : Int) := rfl
 have e4 : leI [a, b, c, d, e, f, g, i] 4 = ((leN [a, b, c, d, e, f, g, i] 4 4 : Nat) : Int) := rfl
 have hz := zer8_eq a b c d e f g i
 generalize leN [a, b, c, d, e, f, g, i] 0 4 = lo at *
 generalize leN [a, b, c, d, e, f, g, i] 4 4 = hi at *
 generalize leI [a, b, c, d, e, f, g, i] = LE at *
 have he := eql_word a b c d e f g i
 have hg0 := fun op x y w => guard_word op x y #[.int .u8 a.toNat, .int .u8 b.toNat, .int .u8 c.toNat, .int .u8 d.toNat, .int .u8 e.toNat, .int .u8 f.toNat, .int .u8 g.toNat, .int .u8 i.toNat] #[.int .u8 0, .int .u8 0, .int .u8 0, .int .u8 0, .int .u8 0, .int .u8 0, .int .u8 0, .int .u8 0] w
 generalize zer8 a b c d e f g i = z at *
 have HL := Lib.hid hL
 have HZ := Lib.hid hz
 clear hL hz
 have hlo : lo < 4294967296 := hl
 have hhi : hi < 4294967296 := hh
 clear hl hh
 have c0 : lo % 4 = 0 ∨ lo % 4 = 1 ∨ lo % 4 = 2 ∨ lo % 4 = 3 := by omega
 have c4 : lo / 4 % 2 = 0 ∨ lo / 4 % 2 = 1 := by omega
 have U0 := Lib.hid (w64_ok ((hi : Int) % 65536) (by omega)).1
 have U1 := Lib.hid (w64_ok ((hi : Int) / 65536) (by omega)).1
 have U2 := Lib.hid (w64_ok ((hi : Int) % 8) (by omega)).1
 have U3 := Lib.hid (w64_ok ((hi : Int) / 8) (by omega)).1
 have U4 := Lib.hid (w64_ok ((lo : Int) / 8) (by omega)).1
 have U5 := Lib.hid (w64_ok (hi : Int) (by omega)).1
 have cu : IntKind.u32.wrap (lo : Int) = lo := by rw [IntKind.wrap_u32]; omega
 have ch : IntKind.u32.wrap (hi : Int) = hi := by rw [IntKind.wrap_u32]; omega
 have hm : ∃ m : Int, IntKind.i32.wrap (lo : Int) = m ∧ m / 4 = sgn lo ∧ IntKind.i64.wrap (sgn lo) = sgn lo := by
  refine ⟨_, rfl, ?_, ?_⟩
  · rw [IntKind.wrap_i32]; unfold sgn; split <;> omega
  · rw [IntKind.wrap_i64]; unfold sgn; split <;> omega
 obtain ⟨m, m1, m3, m4⟩ := hm
 have a3 := and3_32 lo hlo
 have z3 : bits .and .u32 0 3 = 0 := by decide
 unfold wv at HL ⊢
 by_cases h0 : lo = 0
 · have e0' : LE 0 = 0 := by rw [e0, h0]; rfl
   have cu0 : IntKind.u32.wrap 0 = 0 := by decide
   have ci0 : IntKind.i32.wrap 0 = 0 := by decide
   clear e0 a3 cu m1 m3 m4 c0 c4
   by_cases h1 : hi = 0
   · have e4' : LE 4 = 0 := by rw [e4, h1]; rfl
     have hz : z = true := by rw [HZ.out]; simp [h0, h1]
     subst hz
     clear e4 ch
     have hg : getP lo hi = (0, 0, 0, 0, 0, 0, 0, false) := by simp [getP, h0, h1]
     have HG := Lib.hid hg
     clear hg
     clear h0 h1
     go_enter Tryz.func61, Tryz.ntmps61
     go_wp2
     have hblk := heap_alloc_new w (.cells #[.int .u8 a.toNat, .int .u8 b.toNat, .int .u8 c.toNat, .int .u8 d.toNat, .int .u8 e.toNat, .int .u8 f.toNat, .int .u8 g.toNat, .int .u8 i.toNat] 87 (0, 0))
     obtain ⟨q0, q1, q2, q3, q4, q5, q6, q7⟩ := cells8 hblk
     have HK := Lib.hid hblk
     clear hblk
     go_region_law (first | (go_simp; go_at_call 108; have hx := hb2; refine (HL.out _ _ (by decide)).mono ?_; rintro e' w3 ⟨rfl, hb3⟩) | (go_simp; go_at_call 108; refine (HL.out _ _ (by decide)).mono ?_; rintro e' w2 ⟨rfl, hb2⟩; have hk2 := kept8 (w := (w.alloc _).drew) HK.out hb2; obtain ⟨f0, f1, f2, f3, f4, f5, f6, f7⟩ := cells8 hk2; clear hk2))
     all_goals
      have hk3 := kept8 (kept8 (w := (w.alloc _).drew) HK.out hb2) hb3
      obtain ⟨r0, r1, r2, r3, r4, r5, r6, r7⟩ := cells8 hk3
      have HB1 : Hid (Below w.heap.size w w2) := (((Below.refl w.heap.size w).alloc (Nat.le_refl _) _).drew).trans (hb2.mono (by simp))
      have HB3 : Hid (Below w.heap.size w w3) := HB1.out.trans (hb3.mono HB1.out.size)
      clear hk3 hb2 hb3 q0 q1 q2 q3 q4 q5 q6 q7 f0 f1 f2 f3 f4 f5 f6 f7
      go_wp2
      go_ret
      exact ⟨ret_val (by rw [HG.out]; simp [ptI, ptif]), HB3.out⟩
   · have hz : z = false := by rw [HZ.out]; simp [h0, h1]
     subst hz
     have aw := andw_32 hi hhi
     have u0 := U0.out
     have u1 := U1.out
     have hg : getP lo hi = (1, 0, (hi : Int) % 65536, (hi : Int) / 65536, 0, 0, 0, false) := by simp [getP, h0, h1, sgn]
     have HG := Lib.hid hg
     clear hg
     clear h0 h1
     go_enter Tryz.func61, Tryz.ntmps61
     go_wp2
     have hblk := heap_alloc_new w (.cells #[.int .u8 a.toNat, .int .u8 b.toNat, .int .u8 c.toNat, .int .u8 d.toNat, .int .u8 e.toNat, .int .u8 f.toNat, .int .u8 g.toNat, .int .u8 i.toNat] 87 (0, 0))
     obtain ⟨q0, q1, q2, q3, q4, q5, q6, q7⟩ := cells8 hblk
     have HK := Lib.hid hblk
     clear hblk
     go_region_law (first | (go_simp; go_at_call 108; have hx := hb2; refine (HL.out _ _ (by decide)).mono ?_; rintro e' w3 ⟨rfl, hb3⟩) | (go_simp; go_at_call 108; refine (HL.out _ _ (by decide)).mono ?_; rintro e' w2 ⟨rfl, hb2⟩; have hk2 := kept8 (w := (w.alloc _).drew) HK.out hb2; obtain ⟨f0, f1, f2, f3, f4, f5, f6, f7⟩ := cells8 hk2; clear hk2))
     all_goals
      have hk3 := kept8 (kept8 (w := (w.alloc _).drew) HK.out hb2) hb3
      obtain ⟨r0, r1, r2, r3, r4, r5, r6, r7⟩ := cells8 hk3
      have HB1 : Hid (Below w.heap.size w w2) := (((Below.refl w.heap.size w).alloc (Nat.le_refl _) _).drew).trans (hb2.mono (by simp))
      have HB3 : Hid (Below w.heap.size w w3) := HB1.out.trans (hb3.mono HB1.out.size)
      clear hk3 hb2 hb3 q0 q1 q2 q3 q4 q5 q6 q7 f0 f1 f2 f3 f4 f5 f6 f7
      go_wp2
      go_ret
      exact ⟨ret_val (by rw [HG.out]; simp [ptI, ptif]), HB3.out⟩
 · have hz : z = false := by rw [HZ.out]; simp [h0]
   subst hz
   rcases c0 with c | c | c | c
   all_goals rw [c] at a3
   · have aw := andw_32 hi hhi
     have u0 := U0.out
     have u1 := U1.out
     have hg : getP lo hi = (1, sgn lo, (hi : Int) % 65536, (hi : Int) / 65536, 0, 0, 0, false) := by simp [getP, h0, c]
     have HG := Lib.hid hg
     clear hg
     clear h0 c
     go_enter Tryz.func61, Tryz.ntmps61
     go_wp2
     have hblk := heap_alloc_new w (.cells #[.int .u8 a.toNat, .int .u8 b.toNat, .int .u8 c.toNat, .int .u8 d.toNat, .int .u8 e.toNat, .int .u8 f.toNat, .int .u8 g.toNat, .int .u8 i.toNat] 87 (0, 0))
     obtain ⟨q0, q1, q2, q3, q4, q5, q6, q7⟩ := cells8 hblk
     have HK := Lib.hid hblk
     clear hblk
     go_region_law (first | (go_simp; go_at_call 108; have hx := hb2; refine (HL.out _ _ (by decide)).mono ?_; rintro e' w3 ⟨rfl, hb3⟩) | (go_simp; go_at_call 108; refine (HL.out _ _ (by decide)).mono ?_; rintro e' w2 ⟨rfl, hb2⟩; have hk2 := kept8 (w := (w.alloc _).drew) HK.out hb2; obtain ⟨f0, f1, f2, f3, f4, f5, f6, f7⟩ := cells8 hk2; clear hk2))
     all_goals
      have hk3 := kept8 (kept8 (w := (w.alloc _).drew) HK.out hb2) hb3
      obtain ⟨r0, r1, r2, r3, r4, r5, r6, r7⟩ := cells8 hk3
      have HB1 : Hid (Below w.heap.size w w2) := (((Below.refl w.heap.size w).alloc (Nat.le_refl _) _).drew).trans (hb2.mono (by simp))
      have HB3 : Hid (Below w.heap.size w w3) := HB1.out.trans (hb3.mono HB1.out.size)
      clear hk3 hb2 hb3 q0 q1 q2 q3 q4 q5 q6 q7 f0 f1 f2 f3 f4 f5 f6 f7
      go_wp2
      go_ret
      exact ⟨ret_val (by rw [HG.out]; simp [ptI, ptif]), HB3.out⟩
   · have aw := and7_32 hi hhi
     have u0 := U2.out
     have u1 := U3.out
     have hg : getP lo hi = (2, sgn lo, 0, 0, (hi : Int) % 8, (hi : Int) / 8, 0, false) := by simp [getP, h0, c]
     have HG := Lib.hid hg
     clear hg
     clear h0 c
     go_enter Tryz.func61, Tryz.ntmps61
     go_wp2
     have hblk := heap_alloc_new w (.cells #[.int .u8 a.toNat, .int .u8 b.toNat, .int .u8 c.toNat, .int .u8 d.toNat, .int .u8 e.toNat, .int .u8 f.toNat, .int .u8 g.toNat, .int .u8 i.toNat] 87 (0, 0))
     obtain ⟨q0, q1, q2, q3, q4, q5, q6, q7⟩ := cells8 hblk
     have HK := Lib.hid hblk
     clear hblk
     go_region_law (first | (go_simp; go_at_call 108; have hx := hb2; refine (HL.out _ _ (by decide)).mono ?_; rintro e' w3 ⟨rfl, hb3⟩) | (go_simp; go_at_call 108; refine (HL.out _ _ (by decide)).mono ?_; rintro e' w2 ⟨rfl, hb2⟩; have hk2 := kept8 (w := (w.alloc _).drew) HK.out hb2; obtain ⟨f0, f1, f2, f3, f4, f5, f6, f7⟩ := cells8 hk2; clear hk2))
     all_goals
      have hk3 := kept8 (kept8 (w := (w.alloc _).drew) HK.out hb2) hb3
      obtain ⟨r0, r1, r2, r3, r4, r5, r6, r7⟩ := cells8 hk3
      have HB1 : Hid (Below w.heap.size w w2) := (((Below.refl w.heap.size w).alloc (Nat.le_refl _) _).drew).trans (hb2.mono (by simp))
      have HB3 : Hid (Below w.heap.size w w3) := HB1.out.trans (hb3.mono HB1.out.size)
      clear hk3 hb2 hb3 q0 q1 q2 q3 q4 q5 q6 q7 f0 f1 f2 f3 f4 f5 f6 f7
      go_wp2
      go_ret
      exact ⟨ret_val (by rw [HG.out]; simp [ptI, ptif]), HB3.out⟩
   · have a4 := and4_32 lo hlo
     have u0 := U4.out
     have u1 := U5.out
     rcases c4 with dd | dd
     all_goals rw [dd] at a4
     · have hg : getP lo hi = (3, (lo : Int) / 8, 0, 0, 0, 0, (hi : Int), false) := by simp [getP, h0, c, dd]
       have HG := Lib.hid hg
       clear hg
       clear h0 c dd
       go_enter Tryz.func61, Tryz.ntmps61
       go_wp2
       have hblk := heap_alloc_new w (.cells #[.int .u8 a.toNat, .int .u8 b.toNat, .int .u8 c.toNat, .int .u8 d.toNat, .int .u8 e.toNat, .int .u8 f.toNat, .int .u8 g.toNat, .int .u8 i.toNat] 87 (0, 0))
       obtain ⟨q0, q1, q2, q3, q4, q5, q6, q7⟩ := cells8 hblk
       have HK := Lib.hid hblk
       clear hblk
       go_region_law (first | (go_simp; go_at_call 108; have hx := hb2; refine (HL.out _ _ (by decide)).mono ?_; rintro e' w3 ⟨rfl, hb3⟩) | (go_simp; go_at_call 108; refine (HL.out _ _ (by decide)).mono ?_; rintro e' w2 ⟨rfl, hb2⟩; have hk2 := kept8 (w := (w.alloc _).drew) HK.out hb2; obtain ⟨f0, f1, f2, f3, f4, f5, f6, f7⟩ := cells8 hk2; clear hk2))
       all_goals
        have hk3 := kept8 (kept8 (w := (w.alloc _).drew) HK.out hb2) hb3
        obtain ⟨r0, r1, r2, r3, r4, r5, r6, r7⟩ := cells8 hk3
        have HB1 : Hid (Below w.heap.size w w2) := (((Below.refl w.heap.size w).alloc (Nat.le_refl _) _).drew).trans (hb2.mono (by simp))
        have HB3 : Hid (Below w.heap.size w w3) := HB1.out.trans (hb3.mono HB1.out.size)
        clear hk3 hb2 hb3 q0 q1 q2 q3 q4 q5 q6 q7 f0 f1 f2 f3 f4 f5 f6 f7
        go_wp2
        go_ret
        exact ⟨ret_val (by rw [HG.out]; simp [ptI, ptif]), HB3.out⟩
     · have hg : getP lo hi = (3, (lo : Int) / 8, 0, 0, 0, 0, (hi : Int), true) := by simp [getP, h0, c, dd]
       have HG := Lib.hid hg
       clear hg
       clear h0 c dd
       go_enter Tryz.func61, Tryz.ntmps61
       go_wp2
       have hblk := heap_alloc_new w (.cells #[.int .u8 a.toNat, .int .u8 b.toNat, .int .u8 c.toNat, .int .u8 d.toNat, .int .u8 e.toNat, .int .u8 f.toNat, .int .u8 g.toNat, .int .u8 i.toNat] 87 (0, 0))
       obtain ⟨q0, q1, q2, q3, q4, q5, q6, q7⟩ := cells8 hblk
       have HK := Lib.hid hblk
       clear hblk
       go_region_law (first | (go_simp; go_at_call 108; have hx := hb2; refine (HL.out _ _ (by decide)).mono ?_; rintro e' w3 ⟨rfl, hb3⟩) | (go_simp; go_at_call 108; refine (HL.out _ _ (by decide)).mono ?_; rintro e' w2 ⟨rfl, hb2⟩; have hk2 := kept8 (w := (w.alloc _).drew) HK.out hb2; obtain ⟨f0, f1, f2, f3, f4, f5, f6, f7⟩ := cells8 hk2; clear hk2))
       all_goals
        have hk3 := kept8 (kept8 (w := (w.alloc _).drew) HK.out hb2) hb3
        obtain ⟨r0, r1, r2, r3, r4, r5, r6, r7⟩ := cells8 hk3
        have HB1 : Hid (Below w.heap.size w w2) := (((Below.refl w.heap.size w).alloc (Nat.le_refl _) _).drew).trans (hb2.mono (by simp))
        have HB3 : Hid (Below w.heap.size w w3) := HB1.out.trans (hb3.mono HB1.out.size)
        clear hk3 hb2 hb3 q0 q1 q2 q3 q4 q5 q6 q7 f0 f1 f2 f3 f4 f5 f6 f7
        go_wp2
        go_ret
        exact ⟨ret_val (by rw [HG.out]; simp [ptI, ptif]), HB3.out⟩
   · have hg : getP lo hi = (4, 0, 0, 0, 0, 0, 0, false) := by simp [getP, h0, c]
     have HG := Lib.hid hg
     clear hg
     clear h0 c
     go_enter Tryz.func61, Tryz.ntmps61
     go_wp2
     have hblk := heap_alloc_new w (.cells #[.int .u8 a.toNat, .int .u8 b.toNat, .int .u8 c.toNat, .int .u8 d.toNat, .int .u8 e.toNat, .int .u8 f.toNat, .int .u8 g.toNat, .int .u8 i.toNat] 87 (0, 0))
     obtain ⟨q0, q1, q2, q3, q4, q5, q6, q7⟩ := cells8 hblk
     have HK := Lib.hid hblk
     clear hblk
     go_region_law (first | (go_simp; go_at_call 108; have hx := hb2; refine (HL.out _ _ (by decide)).mono ?_; rintro e' w3 ⟨rfl, hb3⟩) | (go_simp; go_at_call 108; refine (HL.out _ _ (by decide)).mono ?_; rintro e' w2 ⟨rfl, hb2⟩; have hk2 := kept8 (w := (w.alloc _).drew) HK.out hb2; obtain ⟨f0, f1, f2, f3, f4, f5, f6, f7⟩ := cells8 hk2; clear hk2))
     all_goals
      have hk3 := kept8 (kept8 (w := (w.alloc _).drew) HK.out hb2) hb3
      obtain ⟨r0, r1, r2, r3, r4, r5, r6, r7⟩ := cells8 hk3
      have HB1 : Hid (Below w.heap.size w w2) := (((Below.refl w.heap.size w).alloc (Nat.le_refl _) _).drew).trans (hb2.mono (by simp))
      have HB3 : Hid (Below w.heap.size w w3) := HB1.out.trans (hb3.mono HB1.out.size)
      clear hk3 hb2 hb3 q0 q1 q2 q3 q4 q5 q6 q7 f0 f1 f2 f3 f4 f5 f6 f7
      go_wp2
      go_ret
      exact ⟨ret_val (by rw [HG.out]; simp [ptI, ptif]), HB3.out⟩
def sgz (zs : List ByteArray) : Segs := zs.map (·.data.toList)
theorem sgz_get {zs : List ByteArray} {j : Nat} (h : j < zs.length) : sgS (sgz zs) j = zs[j].data.toList := by
 unfold sgS sgz
 rw [List.getElem?_map, List.getElem?_eq_getElem h]; rfl
theorem sgz_lt {zs : List ByteArray} {j p : Nat} (h : p < (sgS (sgz zs) j).length) : j < zs.length := by
 by_cases e : j < zs.length
 · exact e
 · rw [sgS_out (by unfold sgz; rw [List.length_map]; omega)] at h; cases h
theorem has_word {s : Segs} {j a : Nat} {t : List UInt8} (h : HasT s j (8 * a) t) (ht : t.length = 8) : ((sgS s j).drop (8 * a)).take 8 = t := by
 apply List.ext_getElem?
 intro q
 by_cases hq : q < 8
 · rw [List.getElem?_take_of_lt hq, List.getElem?_drop]; exact h q (by omega)
 · rw [List.getElem?_eq_none (by rw [List.length_take]; omega), List.getElem?_eq_none (by omega)]
theorem has_data {zs : List ByteArray} {j c : Nat} {d : ByteArray} (hj : j < zs.length) (h : HasT (sgz zs) j (8 * c) d.data.toList) : zs[j].extract (8 * c) (8 * c + d.size) = d := by
 apply bytes_eq
 rw [Lib.extract_data]
 have hd := data_toList d
 apply List.ext_getElem?
 intro q
 by_cases hq : q < d.size
 · rw [List.getElem?_take_of_lt (by omega), List.getElem?_drop]
   have := h q (by omega)
   unfold byteS at this
   rw [sgz_get hj] at this
   exact this
 · rw [List.getElem?_eq_none (by rw [List.length_take]; omega), List.getElem?_eq_none (by omega)]
def ptG (n : Nd) (off : Int) : Int × Int × Int × Int × Int × Int × Int × Bool :=
 if n.kind = 1 then (1, off, (n.data.size / 8 : Nat), (n.ptrs.length : Nat), 0, 0, 0, false) else (2, off, 0, 0, n.size, if n.size = 7 then (ownN n : Int) - 1 else n.count, 0, false)
def RdW (t : List UInt8) (x : Int × Int × Int × Int × Int × Int × Int × Bool) : Prop := t.length = 8 ∧ getP (leN t 0 4) (leN t 4 4) = x
theorem rd_none : RdW (zer 1) (0, 0, 0, 0, 0, 0, 0, false) := ⟨by decide, by rw [getP, if_pos (by decide)]⟩
theorem rd_ptr {n : Nd} {off : Int} (pn : PtOk n) (ho : -536870912 ≤ off ∧ off ≤ 536870911) (h0 : ¬ (n.kind = 1 ∧ off = 0 ∧ n.data.size / 8 = 0 ∧ n.ptrs.length = 0)) : RdW (ptrW n off) (ptG n off) := by
 refine ⟨ptrW_length n off, ?_⟩
 rw [ptrW_two]
 obtain ⟨hb1, hb2⟩ := pn.bd off
 obtain ⟨h1, h2⟩ := two_of (loP n off) (hiP n) hb1.1 hb1.2 hb2.1 hb2.2
 rw [show w8 (loP n off) (hiP n) = leB (loP n off) 4 ++ leB (hiP n) 4 from rfl]
 generalize leN (leB (loP n off) 4 ++ leB (hiP n) 4) 0 4 = lo at *
 generalize leN (leB (loP n off) 4 ++ leB (hiP n) 4) 4 4 = hi at *
 have hd := pn.data
 have hp := pn.ptrs
 unfold loP at h1
 unfold hiP at h2
 unfold ptG
 have ob := offN_bd off
 rcases pn.kind with k | k
 · rw [if_pos k] at h1 h2
   rw [if_pos k, getP, if_neg (by unfold offN at h1; omega), if_pos (by unfold offN at h1; omega), sgn_off off lo (.inl h1) ho.1 ho.2, show ((hi % 65536 : Nat) : Int) = (n.data.size / 8 : Nat) by omega, show ((hi / 65536 : Nat) : Int) = (n.ptrs.length : Nat) by omega]
 · rw [if_neg (by omega)] at h1 h2
   have hs := pn.size k
   rw [if_neg (by omega), getP, if_neg (by unfold offN at h1; omega), if_neg (by unfold offN at h1; omega), if_pos (by unfold offN at h1; omega), sgn_off off lo (.inr h1) ho.1 ho.2]
   by_cases e : n.size = 7
   · have ho' := pn.own k e
     rw [if_pos e] at h2
     rw [if_pos e, show ((hi % 8 : Nat) : Int) = n.size by omega, show ((hi / 8 : Nat) : Int) = (ownN n : Int) - 1 by omega]
   · rw [if_neg e] at h2
     rw [if_neg e, show ((hi % 8 : Nat) : Int) = n.size by omega, show ((hi / 8 : Nat) : Int) = n.count by omega]
theorem rd_far {pad j : Nat} (hp : pad ≤ 1000) (hj : j ≤ 10) : RdW (farW pad j) (3, (pad : Nat), 0, 0, 0, 0, (j : Nat), false) := by
 refine ⟨farW_length pad j, ?_⟩
 obtain ⟨h1, h2⟩ := two_of ((pad : Int) * 8 + 2) (j : Int) (by omega) (by omega) (by omega) (by omega)
 rw [show farW pad j = leB ((pad : Int) * 8 + 2) 4 ++ leB (j : Int) 4 from rfl]
 generalize leN (leB ((pad : Int) * 8 + 2) 4 ++ leB (j : Int) 4) 0 4 = lo at *
 generalize leN (leB ((pad : Int) * 8 + 2) 4 ++ leB (j : Int) 4) 4 4 = hi at *
 rw [getP, if_neg (by omega), if_neg (by omega), if_neg (by omega), if_pos (by omega), show ((lo / 8 : Nat) : Int) = (pad : Nat) by omega, show (hi : Int) = (j : Nat) by omega, show decide (lo / 4 % 2 = 1) = false by simp; omega]
def tgG (n : Nd) : Int × Int × Int × Int × Int × Int × Int × Bool :=
 if n.count = 0 ∧ itD n = 0 ∧ itP n = 0 then (0, 0, 0, 0, 0, 0, 0, false) else (1, n.count, (itD n : Nat), (itP n : Nat), 0, 0, 0, false)
theorem rd_tag {n : Nd} (hc : 0 ≤ n.count ∧ n.count < 12801) (hi : itD n ≤ 300 ∧ itP n ≤ 300) : RdW (tagW n) (tgG n) := by
 refine ⟨tagW_length n, ?_⟩
 have ob := offN_bd n.count
 obtain ⟨h1, h2⟩ := two_of (offN n.count) ((itD n : Nat) + 65536 * (itP n : Int)) (by omega) (by omega) (by omega) (by omega)
 rw [show tagW n = leB (offN n.count) 4 ++ leB ((itD n : Nat) + 65536 * (itP n : Int)) 4 from rfl]
 generalize leN (leB (offN n.count) 4 ++ leB ((itD n : Nat) + 65536 * (itP n : Int)) 4) 0 4 = lo at *
 generalize leN (leB (offN n.count) 4 ++ leB ((itD n : Nat) + 65536 * (itP n : Int)) 4) 4 4 = hi at *
 unfold tgG
 by_cases e : n.count = 0 ∧ itD n = 0 ∧ itP n = 0
 · rw [if_pos e, getP, if_pos (by unfold offN at h1; omega)]
 · rw [if_neg e, getP, if_neg (by unfold offN at h1; omega), if_pos (by unfold offN at h1; omega), sgn_off n.count lo (.inl h1) (by omega) (by omega), show ((hi % 65536 : Nat) : Int) = (itD n : Nat) by omega, show ((hi / 65536 : Nat) : Int) = (itP n : Nat) by omega]
theorem body_in {s : Segs} {d : Nat} {n : Nd} {j c : Nat} (hw : (sgS s j).length % 8 = 0) (h : BodyR (RepN s d) s n j c) (ho : ownB n ≠ 0) : c + ownB n ≤ wn (sgS s j) := by
 obtain ⟨h1, h2⟩ := h
 have hd := data_toList n.data
 unfold wn
 by_cases hp : n.ptrs.length = 0
 · unfold ownB at ho ⊢
   have := h1.le (by omega)
   omega
 · have := (h2 (n.ptrs.length - 1) (by omega)).le
   unfold ownB
   omega
theorem fill_in {s : Segs} {d : Nat} {n : Nd} {j c : Nat} (hw : (sgS s j).length % 8 = 0) (hf : formN n = true) (h : FillR (RepN s d) s n j c) (ho : ownN n ≠ 0) : c + ownN n ≤ wn (sgS s j) := by
 unfold FillR at h
 by_cases e : n.kind = 2 ∧ n.size = 7
 · rw [if_pos e] at h
   obtain ⟨g1, g2, g3⟩ := own_many hf e
   rw [g2]
   have ht := h.1.le (by rw [tagW_length]; omega)
   rw [tagW_length] at ht
   by_cases hz : n.items.length = 0 ∨ itD n + itP n = 0
   · have : n.items.length * (itD n + itP n) = 0 := by rcases hz with x | x <;> rw [x] <;> simp
     unfold wn
     omega
   · have hl : n.items.length - 1 < n.items.length := by omega
     have hb := h.2 (n.items.length - 1) hl
     have hy := item_own g1 _ (List.getElem_mem hl)
     have := body_in hw hb (by rw [hy]; omega)
     rw [hy] at this
     have e2 : n.items.length * (itD n + itP n) = (n.items.length - 1) * (itD n + itP n) + (itD n + itP n) := by
      obtain ⟨q, hq⟩ : ∃ q, n.items.length = q + 1 := ⟨n.items.length - 1, by omega⟩
      rw [hq, Nat.add_mul, Nat.one_mul, Nat.add_sub_cancel]
     omega
 · rw [if_neg e] at h
   rw [(own_plain hf e).1] at ho ⊢
   exact body_in hw h ho
def wordsB (n : Nat) : Bool := decide (n % 8 = 0 ∧ n ≤ 1600)
theorem isWords_any (s : ByteArray) (w : World) (hs : s.size ≤ maxLen) :
 Calls Tryz.prog 48 #[.string s] w fun e w' => e = .returned (.bool (wordsB s.size)) ∧ w = w' := by
 unfold maxLen at hs
 by_cases h1 : s.size % 8 = 0
 all_goals
  go_enter Tryz.func48, Tryz.ntmps48
  go_wp2
  go_ret
  refine ⟨ret_bool ?_, rfl⟩
  simp [wordsB, h1]
 omega
end Go.Proofs.YtlbfffokkhccaaaGreatDoor
