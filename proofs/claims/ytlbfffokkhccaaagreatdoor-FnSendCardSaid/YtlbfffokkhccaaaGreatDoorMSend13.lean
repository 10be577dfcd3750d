/- Texts of the proof of the law FnSend, side by side: part 13. -/
import Derived.Test.YtlbfffokkhccaaaGreatDoorMSend12
set_option maxHeartbeats 8000000
set_option maxRecDepth 100000
namespace Go.Proofs.YtlbfffokkhccaaaGreatDoor
open Go.RowKit
theorem wordAt_any (s : ByteArray) (i : Int) (w : World) (hs : s.size ≤ maxLen) (h0 : 0 ≤ i) (hi : 8 * i + 8 ≤ s.size) :
 Calls Tryz.prog 62 #[.string s, .int .i64 i] w fun e w' => e = .returned (.agg (wd ((s.data.toList.drop (8 * i.toNat)).take 8))) ∧ Below w.heap.size w w' := by
 obtain ⟨i, rfl⟩ := Int.eq_ofNat_of_zero_le h0
 unfold maxLen at hs
 have ewd : (s.extract (i * 8) s.size).data.toList.take 8 = (s.data.toList.drop (8 * (i : Int).toNat)).take 8 := by
  rw [Lib.extract_data, Nat.mul_comm]
  congr 2
  simp [List.take_of_length_le]
 have hsz : 8 ≤ (s.extract (i * 8) s.size).size := by simp; omega
 have hlen : ((s.extract (i * 8) s.size).data.toList.take 8).length = 8 := by simp; omega
 generalize hl : (s.extract (i * 8) s.size).data.toList.take 8 = l at ewd hlen
 rw [← ewd]
 have HL := Lib.hid hl
 clear ewd hl
 go_enter Tryz.func62, Tryz.ntmps62
 go_wp2
 have e1 : IntKind.i64.wrap ((i : Int) * 8) = (i : Int) * 8 := by rw [IntKind.wrap_i64]; omega
 have e2 : (0 : Int) ≤ (i : Int) * 8 := by omega
 have e3 : (i : Int) * 8 ≤ (s.size : Int) := by omega
 have e4 : ((i : Int) * 8).toNat = i * 8 := by omega
 go_region_law (refine step_copy_string_ge rfl (.tmp 6) (.tmp 10) 22 9 rfl 5 Tryz.underlying22 size5 (w.heap.size + 1) 8 8 (s.extract (i * 8) s.size) _ 87 rfl (by simp [Act.eval, Act.put]) (by simp [Act.eval, Act.put]) (heap_alloc2_new w _ _) hsz ?_; intro w4 hg4 hb4)
 clear e1 e2 e3 e4
 have hA : Hid (w4.heap[w.heap.size]? = some (.cells #[.int .u8 0, .int .u8 0, .int .u8 0, .int .u8 0, .int .u8 0, .int .u8 0, .int .u8 0, .int .u8 0] 87 (0, 0))) :=
  (hb4.out.block w.heap.size (by simp; omega) (by simp)).trans (heap_alloc2_old w _ _)
 have hB : Hid (Below w.heap.size w w4) := ((Below.refl _ _).alloc (Nat.le_refl _) _ |>.alloc (by simp) _ |>.drew).grown hb4.out (by simp; omega) (fun k e => by cases e; simp)
 clear hb4
 have hG : Hid (w4.heap[w.heap.size + 1]? = some (.cells (wd l) 87 (0, 0))) := by rw [← HL.out]; exact hg4.out
 have hlen := Lib.hid hlen
 clear hg4 HL
 go_wp2_with (first | (refine wpList_load_wd rfl 87 (.tmp 5) rfl (w.heap.size + 1) rfl 87 l _ hG.out Tryz.underlying87 rfl (by rw [hlen.out]; exact size46) ?_) | (refine wpList_store_wd rfl 87 (.tmp 4) (.tmp 12) rfl w.heap.size l rfl rfl 87 _ hA.out (by rw [hlen.out]; exact size46) (by rw [hlen.out]; rfl) ?_; intro w5 hg5 hb5))
 refine bodyPost_ret (v := .agg (wd l)) ?_ rfl ⟨rfl, hB.out.grown hb5.out (by have := hB.out.size; omega) (fun k e => by cases e; simp)⟩
 exact results_cell_row rfl _ _ w.heap.size 87 _ (0, 0) _ rfl hg5.out Tryz.underlying87 rfl (by rw [wd_size, hlen.out]; exact size46)
theorem below_drawn {B : Nat} {a w : World} (h : Below B a w) (n : Nat) : Below B a (w.drewN n) := ⟨h.os, h.tape, h.output, h.size, h.block⟩
def Strs (w : World) (A : Option Addr) (ss : List ByteArray) : Prop :=
 (∀ s ∈ ss, s.size ≤ maxLen) ∧ (ss = [] ∨ ∃ a : Addr, A = some a ∧ a.block < w.heap.size ∧ ∀ i (h : i < ss.length), w.cell? (a.add i) = some (.string ss[i]))
theorem Strs.nil (w : World) (A : Option Addr) : Strs w A [] := ⟨(fun _ h => by cases h), .inl rfl⟩
theorem Strs.below {w w' : World} {A : Option Addr} {ss : List ByteArray} (h : Strs w A ss) (hb : Below w.heap.size w w') : Strs w' A ss := by
 refine ⟨h.1, ?_⟩
 rcases h.2 with h0 | ⟨a, ha, hlt, hc⟩
 · exact .inl h0
 · refine .inr ⟨a, ha, Nat.lt_of_lt_of_le hlt hb.size, fun i hi => ?_⟩
   have e : (a.add i).block = a.block := by unfold Addr.add; split <;> rfl
   exact (hb.cell (p := a.add i) (by rw [e]; exact hlt)).trans (hc i hi)
theorem add_block (a : Addr) (i : Nat) : (a.add i).block = a.block := by unfold Addr.add; split <;> rfl
def tot (ss : List ByteArray) : Nat := (ss.map (·.size)).sum
theorem tot_take (ss : List ByteArray) (k : Nat) (h : k < ss.length) : tot (ss.take (k + 1)) = tot (ss.take k) + (ss[k]).size := by
 rw [List.take_succ_eq_append_getElem h, tot, tot, List.map_append, List.sum_append]
 simp
theorem tot_take_le (ss : List ByteArray) (k : Nat) : tot (ss.take k) ≤ tot ss := by
 conv => rhs; rw [← List.take_append_drop k ss]
 rw [tot, tot, List.map_append, List.sum_append]
 exact Nat.le_add_right _ _
theorem infoStr : (Tryz.prog.info? 9).map (fun i => (i.zero, i.size, i.bytes)) = some (some (.string ByteArray.empty), 1, 16) := by kernel_rfl
open Go.RowKit Go.Deep
abbrev rdrT : TypeId := 66
abbrev plV (s a : Int) : Value := .agg #[.int .i64 s, .int .i64 a]
structure Rdr (w : World) (rb : Nat) (A : Option Addr) (cap : Nat) (zs : List ByteArray) (L : Int) : Prop where
 row : w.heap[rb]? = some (.cells #[.slice A zs.length cap, .int .i64 L] rdrT (0, 0))
 strs : Strs w A zs
 off : ∀ a, A = some a → a.block ≠ rb
 len : zs.length ≤ 6
 small : ∀ s ∈ zs, s.size ≤ 1600 ∧ s.size % 8 = 0
theorem Rdr.below {w w' : World} {rb cap : Nat} {A : Option Addr} {zs : List ByteArray} {L : Int} (h : Rdr w rb A cap zs L) (hb : Below w.heap.size w w') : Rdr w' rb A cap zs L :=
 ⟨(hb.block _ (row_lt h.row)).trans h.row, h.strs.below hb, h.off, h.len, h.small⟩
theorem Strs.keeps {w w' : World} {rb : Nat} {A : Option Addr} {zs : List ByteArray} (h : Strs w A zs) (ho : ∀ a, A = some a → a.block ≠ rb) (hk : Keeps w.heap.size rb w w') : Strs w' A zs := by
 refine ⟨h.1, ?_⟩
 rcases h.2 with h0 | ⟨a, ha, hlt, hc⟩
 · exact .inl h0
 · refine .inr ⟨a, ha, Nat.lt_of_lt_of_le hlt hk.size, fun i hi => ?_⟩
   rw [keeps_cell hk (a.add i) (by rw [addr_block]; exact hlt) (by rw [addr_block]; exact ho a ha)]
   exact hc i hi
theorem Rdr.lt {w : World} {rb cap : Nat} {A : Option Addr} {zs : List ByteArray} {L : Int} (h : Rdr w rb A cap zs L) : rb < w.heap.size := row_lt h.row
theorem w64_sm {n : Int} (h0 : -1000000000000 ≤ n) (h1 : n ≤ 1000000000000) : IntKind.i64.wrap n = n ∧ wrap64 n = n := by
 constructor
 · rw [IntKind.wrap_i64]; omega
 · unfold wrap64; omega
theorem behind_a (s a k : Int) (w : World) (h0 : -1000000 ≤ a) (h1 : a ≤ 1000000) (k0 : -1000000 ≤ k) (k1 : k ≤ 1000000) :
 Calls Tryz.prog 118 #[plV s a, .int .i64 k] w fun e w' => e = .returned (plV s (a + k)) ∧ Below w.heap.size w w' := by
 have e1 := (w64_sm (n := a + k) (by omega) (by omega)).1
 have e2 := (w64_sm (n := a + k) (by omega) (by omega)).2
 go_enter Tryz.func118, Tryz.ntmps118
 go_wp2
 refine bodyPost_ret (v := plV s (a + k)) ?_ rfl ⟨rfl, ((Below.refl _ _).alloc (Nat.le_refl _) _).alloc (by simp) _⟩
 have h1 := heap_alloc_new (w.alloc (.cells #[.int .i64 s, .int .i64 a] 58)) (.cells #[.int .i64 s, .int .i64 (a + k)] 58)
 rw [show (w.alloc (.cells #[.int .i64 s, .int .i64 a] 58)).heap.size = w.heap.size + 1 by simp] at h1
 obtain ⟨d0, d1⟩ := cell_pair h1
 simp [results, Tryz.results118, go_sem, d0, d1]
theorem has_a {w : World} {rb cap : Nat} {A : Option Addr} {zs : List ByteArray} {L : Int} (h : Rdr w rb A cap zs L) (j c k : Nat) (hj : j < zs.length) (hc : c + k ≤ (zs[j]).size / 8) :
 Calls Tryz.prog 44 #[.pointer (some ⟨rb, 0, none⟩), plV j c, .int .i64 k] w fun e w' => e = .returned (.bool true) ∧ Below w.heap.size w w' := by
 have hwi : ∀ W : World, Calls Tryz.prog 43 #[.int .i64 j, .int .i64 zs.length] W fun e w' => e = .returned (.bool true) ∧ w' = W := fun W => (within_a j zs.length W).mono (fun e w' ⟨h1, h2⟩ => ⟨by rw [h1]; congr 2; simp [wiB]; omega, h2.symm⟩)
 have hb := (Below.refl w.heap.size w).alloc (Nat.le_refl _) (.cells #[.int .i64 (j : Int), .int .i64 (c : Int)] 58)
 have HB := Lib.hid hb
 have hr := h.below hb
 have hx := heap_alloc_new w (.cells #[.int .i64 (j : Int), .int .i64 (c : Int)] 58)
 obtain ⟨c0, c1⟩ := cell_pair hr.row
 obtain ⟨d0, d1⟩ := cell_pair hx
 obtain ⟨a, rfl, hlt, hcs⟩ := hr.strs.2.resolve_left (by intro e; rw [e] at hj; cases hj)
 have hck := hcs j hj
 have hsm := h.small _ (List.getElem_mem hj)
 have e1 : (c : Int) ≥ 0 := by omega
 have e2 : decide ((k : Int) ≤ ((zs[j]).size : Int) / 8 - (c : Int)) = true := by simp; omega
 have hl6 := h.len
 clear h hr hb hcs hx
 go_enter Tryz.func44, Tryz.ntmps44
 go_wp2_with fail
 generalize w.alloc (.cells #[.int .i64 (j : Int), .int .i64 (c : Int)] 58) = W at *
 go_quiet ((go_at_call 43; exact Calls.quiet_of_same (hwi _)))
 go_wp2
 go_ret
 exact ⟨rfl, below_drawn HB.out nq⟩
theorem spend_a {w : World} {rb cap : Nat} {A : Option Addr} {zs : List ByteArray} {L : Int} (h : Rdr w rb A cap zs L) (k : Int) (hk0 : 0 ≤ k) (hk : k ≤ L) (hL : L ≤ 1000) :
 Calls Tryz.prog 165 #[.pointer (some ⟨rb, 0, none⟩), .int .i64 k] w fun e w' => e = .returned .nilIface ∧ Rdr w' rb A cap zs (L - k) ∧ Keeps w.heap.size rb w w' := by
 obtain ⟨c0, c1⟩ := cell_pair h.row
 have e1 := (w64_sm (n := L - k) (by omega) (by omega)).1
 have e2 := (w64_sm (n := L - k) (by omega) (by omega)).2
 go_enter Tryz.func165, Tryz.ntmps165
 have hfz := row_free h.row 1
 go_wp2
 go_ret
 refine ⟨rfl, ⟨pair_set1 h.row, h.strs.keeps h.off (set_keeps _ _ _ _ _), h.off, h.len, h.small⟩, set_keeps _ _ _ _ _⟩
theorem readPointer_w {t : List UInt8} {x : Int × Int × Int × Int × Int × Int × Int × Bool} (h : RdW t x) (w : World) :
 Calls Tryz.prog 61 #[.agg (wd t)] w fun e w' => e = .returned (ptI x) ∧ Below w.heap.size w w' := by
 obtain ⟨h1, h2⟩ := h
 obtain ⟨a, b, c, d, e, f, g, i, rfl⟩ := len8 h1
 rw [← h2]
 exact readPointer_any a b c d e f g i w
theorem pointerAt_a {w : World} {rb cap : Nat} {A : Option Addr} {zs : List ByteArray} {L : Int} (h : Rdr w rb A cap zs L) (j c : Nat) (hj : j < zs.length) (hc : 8 * c + 8 ≤ (zs[j]).size) {x : Int × Int × Int × Int × Int × Int × Int × Bool} (hx : RdW (((zs[j]).data.toList.drop (8 * c)).take 8) x) :
 Calls Tryz.prog 85 #[.pointer (some ⟨rb, 0, none⟩), plV j c] w fun e w' => e = .returned (ptI x) ∧ Below w.heap.size w w' := by
 have hsm := h.small _ (List.getElem_mem hj)
 have hW : ∀ W : World, Calls Tryz.prog 62 #[.string zs[j], .int .i64 c] W fun e w' => e = .returned (.agg (wd (((zs[j]).data.toList.drop (8 * c)).take 8))) ∧ Below W.heap.size W w' := fun W => wordAt_any zs[j] c W (by unfold maxLen; omega) (by omega) (by omega)
 have hR := fun W : World => readPointer_w hx W
 generalize wd (((zs[j]).data.toList.drop (8 * c)).take 8) = t at *
 generalize ptI x = px at *
 have HW := Lib.hid hW
 have HR := Lib.hid hR
 clear hW hR hx
 have hb := (Below.refl w.heap.size w).alloc (Nat.le_refl _) (.cells #[.int .i64 (j : Int), .int .i64 (c : Int)] 58)
 have HB := Lib.hid hb
 have hr := h.below hb
 have hx := heap_alloc_new w (.cells #[.int .i64 (j : Int), .int .i64 (c : Int)] 58)
 obtain ⟨c0', c1'⟩ := cell_pair hr.row
 obtain ⟨d0', d1'⟩ := cell_pair hx
 obtain ⟨a, rfl, hlt, hcs⟩ := hr.strs.2.resolve_left (by intro e; rw [e] at hj; cases hj)
 have c0 := cell_regrown c0'
 have d0 := cell_regrown d0'
 have d1 := cell_regrown d1'
 have hck := cell_regrown (hcs j hj)
 have hl6 := h.len
 clear h hr hb hcs hx c0' c1' d0' d1'
 go_enter Tryz.func85, Tryz.ntmps85
 go_wp2_with fail
 generalize w.alloc (.cells #[.int .i64 (j : Int), .int .i64 (c : Int)] 58) = W at *
 refine wp_region_quiet_below (by kernel_rfl) (by kernel_rfl) ?_
 repeat (first | go_big_quiet_step (first | (go_at_call 62; exact Calls.regrown_of (HW.out _)) | (go_at_call 61; exact Calls.regrown_of (HR.out _))) | quiet_step (first | (go_at_call 62; exact Calls.regrown_of (HW.out _)) | (go_at_call 61; exact Calls.regrown_of (HR.out _))))
 refine wpQuiet_nil ?_
 intro _ hw'
 obtain ⟨⟨dq, osq⟩, hw''⟩ := hw'
 subst hw''
 have HF := Lib.hid (HB.out.trans ((below_regrown W dq osq).mono HB.out.size))
 generalize «Sort».grow (redrawn W dq) osq = W2 at *
 clear c0 d0 d1 hck
 go_wp2
 go_ret
 exact ⟨rfl, HF.out⟩
theorem bytesAt_a {w : World} {rb cap : Nat} {A : Option Addr} {zs : List ByteArray} {L : Int} (h : Rdr w rb A cap zs L) (j c k : Nat) (hj : j < zs.length) (hc : 8 * c + k ≤ (zs[j]).size) :
 Calls Tryz.prog 172 #[.pointer (some ⟨rb, 0, none⟩), plV j c, .int .i64 k] w fun e w' => e = .returned (.string ((zs[j]).extract (8 * c) (8 * c + k))) ∧ Below w.heap.size w w' := by
 have hsm := h.small _ (List.getElem_mem hj)
 have e1 := (w64_sm (n := (c : Int) * 8) (by omega) (by omega)).1
 have e2 := (w64_sm (n := (c : Int) * 8) (by omega) (by omega)).2
 have e3 := (w64_sm (n := (c : Int) * 8 + k) (by omega) (by omega)).1
 have e4 := (w64_sm (n := (c : Int) * 8 + k) (by omega) (by omega)).2
 have e5 : (0 : Int) ≤ (c : Int) * 8 := by omega
 have e6 : (c : Int) * 8 ≤ (c : Int) * 8 + k := by omega
 have e7 : (c : Int) * 8 + k ≤ ((zs[j]).size : Int) := by omega
 have e8 : ((c : Int) * 8).toNat = 8 * c := by omega
 have e9 : ((c : Int) * 8 + k).toNat = 8 * c + k := by omega
 have hb := (Below.refl w.heap.size w).alloc (Nat.le_refl _) (.cells #[.int .i64 (j : Int), .int .i64 (c : Int)] 58)
 have HB := Lib.hid hb
 have hr := h.below hb
 have hx := heap_alloc_new w (.cells #[.int .i64 (j : Int), .int .i64 (c : Int)] 58)
 obtain ⟨c0, c1⟩ := cell_pair hr.row
 obtain ⟨d0, d1⟩ := cell_pair hx
 obtain ⟨a, rfl, hlt, hcs⟩ := hr.strs.2.resolve_left (by intro e; rw [e] at hj; cases hj)
 have hck := hcs j hj
 have hl6 := h.len
 clear h hr hb hcs hx
 go_enter Tryz.func172, Tryz.ntmps172
 go_wp2_with fail
 generalize w.alloc (.cells #[.int .i64 (j : Int), .int .i64 (c : Int)] 58) = W at *
 go_quiet (fail)
 go_wp2
 go_ret
 exact ⟨rfl, below_drawn HB.out nq⟩
theorem pair_set2 {w : World} {b : Nat} {p v : Value} {T : TypeId} (h : w.heap[b]? = some (.cells #[p, v] T (0, 0))) (x y : Value) : ((w.setCell ⟨b, 0, none⟩ x).setCell ⟨b, 1, none⟩ y).heap[b]? = some (.cells #[x, y] T (0, 0)) := by
 simp [World.setCell, Array.getElem?_modify, h]
theorem keeps_below2 {B : Nat} {w w' : World} (h : Below B w w') (b : Nat) (hb : B ≤ b + 1) (x y : Value) : Below B w ((w'.setCell ⟨b + 1, 0, none⟩ x).setCell ⟨b + 1, 1, none⟩ y) := (h.setCell hb x).setCell hb y
theorem ta_str_far (x : Value) (w : World) : (Instr.typeAssert (.iface 168 x) 91 172 true).run Tryz.prog w = .ok (.tuple #[.agg #[.int .i64 0, .int .i64 0, .bool false], .bool false]) w := by kernel_rfl
theorem ta_lis_far (x : Value) (w : World) : (Instr.typeAssert (.iface 170 x) 91 172 true).run Tryz.prog w = .ok (.tuple #[.agg #[.int .i64 0, .int .i64 0, .bool false], .bool false]) w := by kernel_rfl
abbrev fiV (o g : Int) : Value := .iface 172 (.agg #[.int .i64 o, .int .i64 g, .bool false])
abbrev siV (o d p : Int) : Value := .iface 168 (.agg #[.int .i64 o, .int .i64 d, .int .i64 p])
abbrev liV (o z c : Int) : Value := .iface 170 (.agg #[.int .i64 o, .int .i64 z, .int .i64 c])
theorem offOf_s (o d p : Int) (w : World) :
 Calls Tryz.prog 164 #[siV o d p] w fun e w' => e = .returned (.tuple #[.int .i64 o, .bool true]) ∧ Below w.heap.size w w' := by
 have t1 := ta_str_str
 have t2 := ta_lis_str
 have t3 := ta_lis_lis
 go_enter Tryz.func164, Tryz.ntmps164
 go_wp2
 exact bodyPost_ret (v := .tuple #[.int .i64 o, .bool true]) (by simp [results, Tryz.results164, go_sem]) rfl ⟨rfl, by repeat (first | exact Below.refl _ _ | refine Below.alloc ?_ (by simp) _)⟩
theorem near_s (o d p s a : Int) (w : World) (h0 : -100000 ≤ a) (h1 : a ≤ 100000) (k0 : -100000 ≤ o) (k1 : o ≤ 100000) :
 Calls Tryz.prog 129 #[siV o d p, plV s a] w fun e w' => e = .returned (.tuple #[siV o d p, plV s (a + (1 + o)), .nilIface]) ∧ Below w.heap.size w w' := by
 have e1 := (w64_sm (n := 1 + o) (by omega) (by omega)).1
 have e2 := (w64_sm (n := 1 + o) (by omega) (by omega)).2
 have HO := Lib.hid (offOf_s o d p)
 have HH := Lib.hid (fun W : World => behind_a s a (1 + o) W (by omega) (by omega) (by omega) (by omega))
 generalize a + (1 + o) = b at *
 have hb0 := (Below.refl w.heap.size w).alloc (Nat.le_refl _) (.cells #[.int .i64 s, .int .i64 a] 58)
 have hb1 := hb0.alloc (by simp) (.cells #[.int .i64 0, .int .i64 0] 58)
 have hr0 : ((w.alloc (.cells #[.int .i64 s, .int .i64 a] 58)).alloc (.cells #[.int .i64 0, .int .i64 0] 58)).heap[w.heap.size]? = some (.cells #[.int .i64 s, .int .i64 a] 58 (0, 0)) := heap_alloc2_old w _ _
 have hr1 : ((w.alloc (.cells #[.int .i64 s, .int .i64 a] 58)).alloc (.cells #[.int .i64 0, .int .i64 0] 58)).heap[w.heap.size + 1]? = some (.cells #[.int .i64 0, .int .i64 0] 58 (0, 0)) := heap_alloc2_new w _ _
 have HB := Lib.hid hb1
 have R0 := Lib.hid hr0
 have R1 := Lib.hid hr1
 clear hb0 hb1 hr0 hr1
 go_enter Tryz.func129, Tryz.ntmps129
 go_wp2_with fail
 generalize (w.alloc (.cells #[.int .i64 s, .int .i64 a] 58)).alloc (.cells #[.int .i64 0, .int .i64 0] 58) = W at *
 refine (HO.out _).mono ?_
 rintro e w1 ⟨rfl, hb1⟩
 have HB1 := Lib.hid (HB.out.trans (hb1.mono HB.out.size))
 have r0 := (hb1.block _ (row_lt R0.out)).trans R0.out
 have r1 := (hb1.block _ (row_lt R1.out)).trans R1.out
 have R1' := Lib.hid r1
 obtain ⟨c0, c1⟩ := cell_pair r0
 clear hb1 r0 r1 R0
 go_wp2_with fail
 refine (HH.out _).mono ?_
 rintro e w2 ⟨rfl, hb2⟩
 have HB2 := Lib.hid (HB1.out.trans (hb2.mono HB1.out.size))
 have r1 := (hb2.block _ (row_lt R1'.out)).trans R1'.out
 have R2 := Lib.hid r1
 obtain ⟨d0, d1⟩ := cell_pair r1
 have f0 := row_free r1 0
 have f1 := row_free r1 1
 clear hb2 r1 c0 c1
 go_wp2
 have hq := pair_set2 R2.out (.int .i64 s) (.int .i64 b)
 have HBF := Lib.hid (keeps_below2 HB2.out w.heap.size (by omega) (.int .i64 s) (.int .i64 b))
 generalize ((w2.setCell ⟨w.heap.size + 1, 0, none⟩ (.int .i64 s)).setCell ⟨w.heap.size + 1, 1, none⟩ (.int .i64 b)) = wq at *
 obtain ⟨q0, q1⟩ := cell_pair hq
 exact bodyPost_ret (v := .tuple #[siV o d p, plV s b, .nilIface]) (by simp [results, Tryz.results129, go_sem, q0, q1]) rfl ⟨rfl, HBF.out⟩
theorem offOf_l (o z q : Int) (w : World) :
 Calls Tryz.prog 164 #[liV o z q] w fun e w' => e = .returned (.tuple #[.int .i64 o, .bool true]) ∧ Below w.heap.size w w' := by
 have t1 := ta_str_str
 have t2 := ta_lis_str
 have t3 := ta_lis_lis
 go_enter Tryz.func164, Tryz.ntmps164
 go_wp2
 exact bodyPost_ret (v := .tuple #[.int .i64 o, .bool true]) (by simp [results, Tryz.results164, go_sem]) rfl ⟨rfl, by repeat (first | exact Below.refl _ _ | refine Below.alloc ?_ (by simp) _)⟩
theorem near_l (o z q s a : Int) (w : World) (h0 : -100000 ≤ a) (h1 : a ≤ 100000) (k0 : -100000 ≤ o) (k1 : o ≤ 100000) :
 Calls Tryz.prog 129 #[liV o z q, plV s a] w fun e w' => e = .returned (.tuple #[liV o z q, plV s (a + (1 + o)), .nilIface]) ∧ Below w.heap.size w w' := by
 have e1 := (w64_sm (n := 1 + o) (by omega) (by omega)).1
 have e2 := (w64_sm (n := 1 + o) (by omega) (by omega)).2
 have HO := Lib.hid (offOf_l o z q)
 have HH := Lib.hid (fun W : World => behind_a s a (1 + o) W (by omega) (by omega) (by omega) (by omega))
 generalize a + (1 + o) = b at *
 have hb0 := (Below.refl w.heap.size w).alloc (Nat.le_refl _) (.cells #[.int .i64 s, .int .i64 a] 58)
 have hb1 := hb0.alloc (by simp) (.cells #[.int .i64 0, .int .i64 0] 58)
 have hr0 : ((w.alloc (.cells #[.int .i64 s, .int .i64 a] 58)).alloc (.cells #[.int .i64 0, .int .i64 0] 58)).heap[w.heap.size]? = some (.cells #[.int .i64 s, .int .i64 a] 58 (0, 0)) := heap_alloc2_old w _ _
 have hr1 : ((w.alloc (.cells #[.int .i64 s, .int .i64 a] 58)).alloc (.cells #[.int .i64 0, .int .i64 0] 58)).heap[w.heap.size + 1]? = some (.cells #[.int .i64 0, .int .i64 0] 58 (0, 0)) := heap_alloc2_new w _ _
 have HB := Lib.hid hb1
 have R0 := Lib.hid hr0
 have R1 := Lib.hid hr1
 clear hb0 hb1 hr0 hr1
 go_enter Tryz.func129, Tryz.ntmps129
 go_wp2_with fail
 generalize (w.alloc (.cells #[.int .i64 s, .int .i64 a] 58)).alloc (.cells #[.int .i64 0, .int .i64 0] 58) = W at *
 refine (HO.out _).mono ?_
 rintro e w1 ⟨rfl, hb1⟩
 have HB1 := Lib.hid (HB.out.trans (hb1.mono HB.out.size))
 have r0 := (hb1.block _ (row_lt R0.out)).trans R0.out
 have r1 := (hb1.block _ (row_lt R1.out)).trans R1.out
 have R1' := Lib.hid r1
 obtain ⟨c0, c1⟩ := cell_pair r0
 clear hb1 r0 r1 R0
 go_wp2_with fail
 refine (HH.out _).mono ?_
 rintro e w2 ⟨rfl, hb2⟩
 have HB2 := Lib.hid (HB1.out.trans (hb2.mono HB1.out.size))
 have r1 := (hb2.block _ (row_lt R1'.out)).trans R1'.out
 have R2 := Lib.hid r1
 obtain ⟨d0, d1⟩ := cell_pair r1
 have f0 := row_free r1 0
 have f1 := row_free r1 1
 clear hb2 r1 c0 c1
 go_wp2
 have hq := pair_set2 R2.out (.int .i64 s) (.int .i64 b)
 have HBF := Lib.hid (keeps_below2 HB2.out w.heap.size (by omega) (.int .i64 s) (.int .i64 b))
 generalize ((w2.setCell ⟨w.heap.size + 1, 0, none⟩ (.int .i64 s)).setCell ⟨w.heap.size + 1, 1, none⟩ (.int .i64 b)) = wq at *
 obtain ⟨q0, q1⟩ := cell_pair hq
 exact bodyPost_ret (v := .tuple #[liV o z q, plV s b, .nilIface]) (by simp [results, Tryz.results129, go_sem, q0, q1]) rfl ⟨rfl, HBF.out⟩
theorem follow_s {w : World} (rb : Nat) (o d p s a : Int) (h0 : -100000 ≤ a) (h1 : a ≤ 100000) (k0 : -100000 ≤ o) (k1 : o ≤ 100000) :
 Calls Tryz.prog 86 #[.pointer (some ⟨rb, 0, none⟩), siV o d p, plV s a] w fun e w' => e = .returned (.tuple #[siV o d p, plV s (a + (1 + o)), .nilIface]) ∧ Below w.heap.size w w' := by
 have HN := Lib.hid (fun W : World => near_s o d p s a W h0 h1 k0 k1)
 generalize a + (1 + o) = b at *
 have hb0 := (Below.refl w.heap.size w).alloc (Nat.le_refl _) (.cells #[.int .i64 s, .int .i64 a] 58)
 have hb1 := hb0.alloc (by simp) (.cells #[.int .i64 0, .int .i64 0] 58)
 have hb2 := hb1.alloc (by simp <;> omega) (.cells #[.int .i64 0, .int .i64 0, .bool false] 172)
 have t1 := ta_str_far
 have t2 := ta_lis_far
 have t3 := ta_far_far
 go_enter Tryz.func86, Tryz.ntmps86
 go_wp2_with fail
 have hr1 : (((w.alloc (.cells #[.int .i64 s, .int .i64 a] 58)).alloc (.cells #[.int .i64 0, .int .i64 0] 58)).alloc (.cells #[.int .i64 0, .int .i64 0, .bool false] 172)).heap[w.heap.size + 1]? = some (.cells #[.int .i64 0, .int .i64 0] 58 (0, 0)) := (Below.heap_alloc _ _ _ (by simp)).trans (heap_alloc2_new w _ _)
 generalize ((w.alloc (.cells #[.int .i64 s, .int .i64 a] 58)).alloc (.cells #[.int .i64 0, .int .i64 0] 58)).alloc (.cells #[.int .i64 0, .int .i64 0, .bool false] 172) = W at *
 refine (HN.out _).mono ?_
 rintro e w2 ⟨rfl, hb3⟩
 have HB2 := Lib.hid (hb2.trans (hb3.mono hb2.size))
 have r1 := (hb3.block _ (row_lt hr1)).trans hr1
 have R2 := Lib.hid r1
 obtain ⟨d0, d1⟩ := cell_pair r1
 have f0 := row_free r1 0
 have f1 := row_free r1 1
 clear hb2 hb3 r1 hr1 hb0 hb1
 go_wp2
 have hq := pair_set2 R2.out (.int .i64 s) (.int .i64 b)
 have HBF := Lib.hid (keeps_below2 HB2.out w.heap.size (by omega) (.int .i64 s) (.int .i64 b))
 generalize ((w2.setCell ⟨w.heap.size + 1, 0, none⟩ (.int .i64 s)).setCell ⟨w.heap.size + 1, 1, none⟩ (.int .i64 b)) = wq at *
 obtain ⟨q0, q1⟩ := cell_pair hq
 exact bodyPost_ret (v := .tuple #[siV o d p, plV s b, .nilIface]) (by simp [results, Tryz.results86, go_sem, q0, q1]) rfl ⟨rfl, HBF.out⟩
theorem followFar_s {w : World} {rb cap : Nat} {A : Option Addr} {zs : List ByteArray} {L : Int} (h : Rdr w rb A cap zs L) (o d p s a : Int) (j c : Nat) (hj : j < zs.length) (hc : 8 * c + 8 ≤ (zs[j]).size) {x : Int × Int × Int × Int × Int × Int × Int × Bool} (hx : RdW (((zs[j]).data.toList.drop (8 * c)).take 8) x) (hxv : ptI x = siV o d p) (k0 : -10000 ≤ o) (k1 : o ≤ 10000) :
 Calls Tryz.prog 86 #[.pointer (some ⟨rb, 0, none⟩), fiV c j, plV s a] w fun e w' => e = .returned (.tuple #[siV o d p, plV j (c + (1 + o)), .nilIface]) ∧ Below w.heap.size w w' := by
 have hsm := (h.small _ (List.getElem_mem hj)).1
 have HN := Lib.hid (fun W : World => near_s o d p j c W (by omega) (by omega) (by omega) (by omega))
 have HH := Lib.hid (fun (W : World) (hW : Below w.heap.size w W) => has_a (h.below hW) j c 1 hj (by omega))
 have HP := Lib.hid (fun (W : World) (hW : Below w.heap.size w W) => pointerAt_a (h.below hW) j c hj hc hx)
 rw [hxv] at HP
 generalize (c : Int) + (1 + o) = b at *
 have hb3 := (((((Below.refl w.heap.size w).alloc (Nat.le_refl _) (.cells #[.int .i64 s, .int .i64 a] 58)).alloc (by simp) (.cells #[.int .i64 0, .int .i64 0] 58)).alloc (by simp <;> omega) (.cells #[.int .i64 (c : Int), .int .i64 (j : Int), .bool false] 172)).alloc (by simp <;> omega) (.cells #[.int .i64 (j : Int), .int .i64 (c : Int)] 58))
 have t1 := ta_str_far
 have t2 := ta_lis_far
 have t3 := ta_far_far
 clear h hc hx hxv hsm
 go_enter Tryz.func86, Tryz.ntmps86
 go_wp2_with fail
 have hr1 : ((((w.alloc (.cells #[.int .i64 s, .int .i64 a] 58)).alloc (.cells #[.int .i64 0, .int .i64 0] 58)).alloc (.cells #[.int .i64 (c : Int), .int .i64 (j : Int), .bool false] 172)).alloc (.cells #[.int .i64 (j : Int), .int .i64 (c : Int)] 58)).heap[w.heap.size + 1]? = some (.cells #[.int .i64 0, .int .i64 0] 58 (0, 0)) := (Below.heap_alloc _ _ _ (by simp <;> omega)).trans ((Below.heap_alloc _ _ _ (by simp)).trans (heap_alloc2_new w _ _))
 have hr3 : ((((w.alloc (.cells #[.int .i64 s, .int .i64 a] 58)).alloc (.cells #[.int .i64 0, .int .i64 0] 58)).alloc (.cells #[.int .i64 (c : Int), .int .i64 (j : Int), .bool false] 172)).alloc (.cells #[.int .i64 (j : Int), .int .i64 (c : Int)] 58)).heap[w.heap.size + 1 + 1 + 1]? = some (.cells #[.int .i64 (j : Int), .int .i64 (c : Int)] 58 (0, 0)) := by
  have := heap_alloc_new (((w.alloc (.cells #[.int .i64 s, .int .i64 a] 58)).alloc (.cells #[.int .i64 0, .int .i64 0] 58)).alloc (.cells #[.int .i64 (c : Int), .int .i64 (j : Int), .bool false] 172)) (.cells #[.int .i64 (j : Int), .int .i64 (c : Int)] 58)
  rwa [show (((w.alloc (.cells #[.int .i64 s, .int .i64 a] 58)).alloc (.cells #[.int .i64 0, .int .i64 0] 58)).alloc (.cells #[.int .i64 (c : Int), .int .i64 (j : Int), .bool false] 172)).heap.size = w.heap.size + 1 + 1 + 1 by simp] at this
 generalize (((w.alloc (.cells #[.int .i64 s, .int .i64 a] 58)).alloc (.cells #[.int .i64 0, .int .i64 0] 58)).alloc (.cells #[.int .i64 (c : Int), .int .i64 (j : Int), .bool false] 172)).alloc (.cells #[.int .i64 (j : Int), .int .i64 (c : Int)] 58) = W at *
 refine (HH.out _ hb3).mono ?_
 rintro e w5 ⟨rfl, hb5⟩
 have HB5 := Lib.hid (hb3.trans (hb5.mono hb3.size))
 have r1 := (hb5.block _ (row_lt hr1)).trans hr1
 have r3 := (hb5.block _ (row_lt hr3)).trans hr3
 have R1 := Lib.hid r1
 have R3 := Lib.hid r3
 obtain ⟨c0, c1⟩ := cell_pair r3
 clear hb3 hb5 r1 r3 hr1 hr3
 have hsz5 : (w5.drew).heap.size = w5.heap.size := rfl
 go_wp2_with fail
 go_region_with (first | (go_at_call 85; go_must (refine (HP.out _ (by exact HB5.out.drew)).mono ?_); rintro e w6 ⟨rfl, hb6⟩; have r6 := (hb6.block _ (row_lt R3.out)).trans R3.out; obtain ⟨g0, g1⟩ := cell_pair r6; clear r6) | (go_at_call 129; go_must (refine (HN.out _).mono ?_); rintro e w7 ⟨rfl, hb7⟩; have r7 := (hb7.block _ (row_lt ((hb6.block _ (row_lt R1.out)).trans R1.out))).trans ((hb6.block _ (row_lt R1.out)).trans R1.out); obtain ⟨d0, d1⟩ := cell_pair r7; have f0 := row_free r7 0; have f1 := row_free r7 1))
 all_goals
  have HB7 := HB5.out.drew.trans ((hb6.trans (hb7.mono hb6.size)).mono HB5.out.drew.size)
  have hq := pair_set2 r7 (.int .i64 (j : Int)) (.int .i64 b)
  have HBF := Lib.hid (keeps_below2 HB7 w.heap.size (by omega) (.int .i64 (j : Int)) (.int .i64 b))
  generalize ((w7.setCell ⟨w.heap.size + 1, 0, none⟩ (.int .i64 (j : Int))).setCell ⟨w.heap.size + 1, 1, none⟩ (.int .i64 b)) = wq at *
  obtain ⟨q0, q1⟩ := cell_pair hq
  clear g0 g1 d0 d1 f0 f1 c0 c1 HB7 hb6 hb7
  go_wp2
  exact bodyPost_ret (v := .tuple #[siV o d p, plV j b, .nilIface]) (by simp [results, Tryz.results86, go_sem, q0, q1]) rfl ⟨rfl, HBF.out⟩
theorem follow_l {w : World} (rb : Nat) (o z q s a : Int) (h0 : -100000 ≤ a) (h1 : a ≤ 100000) (k0 : -100000 ≤ o) (k1 : o ≤ 100000) :
 Calls Tryz.prog 86 #[.pointer (some ⟨rb, 0, none⟩), liV o z q, plV s a] w fun e w' => e = .returned (.tuple #[liV o z q, plV s (a + (1 + o)), .nilIface]) ∧ Below w.heap.size w w' := by
 have HN := Lib.hid (fun W : World => near_l o z q s a W h0 h1 k0 k1)
 generalize a + (1 + o) = b at *
 have hb0 := (Below.refl w.heap.size w).alloc (Nat.le_refl _) (.cells #[.int .i64 s, .int .i64 a] 58)
 have hb1 := hb0.alloc (by simp) (.cells #[.int .i64 0, .int .i64 0] 58)
 have hb2 := hb1.alloc (by simp <;> omega) (.cells #[.int .i64 0, .int .i64 0, .bool false] 172)
 have t1 := ta_str_far
 have t2 := ta_lis_far
 have t3 := ta_far_far
 go_enter Tryz.func86, Tryz.ntmps86
 go_wp2_with fail
 have hr1 : (((w.alloc (.cells #[.int .i64 s, .int .i64 a] 58)).alloc (.cells #[.int .i64 0, .int .i64 0] 58)).alloc (.cells #[.int .i64 0, .int .i64 0, .bool false] 172)).heap[w.heap.size + 1]? = some (.cells #[.int .i64 0, .int .i64 0] 58 (0, 0)) := (Below.heap_alloc _ _ _ (by simp)).trans (heap_alloc2_new w _ _)
 generalize ((w.alloc (.cells #[.int .i64 s, .int .i64 a] 58)).alloc (.cells #[.int .i64 0, .int .i64 0] 58)).alloc (.cells #[.int .i64 0, .int .i64 0, .bool false] 172) = W at *
 refine (HN.out _).mono ?_
 rintro e w2 ⟨rfl, hb3⟩
 have HB2 := Lib.hid (hb2.trans (hb3.mono hb2.size))
 have r1 := (hb3.block _ (row_lt hr1)).trans hr1
 have R2 := Lib.hid r1
 obtain ⟨d0, d1⟩ := cell_pair r1
 have f0 := row_free r1 0
 have f1 := row_free r1 1
 clear hb2 hb3 r1 hr1 hb0 hb1
 go_wp2
 have hq := pair_set2 R2.out (.int .i64 s) (.int .i64 b)
 have HBF := Lib.hid (keeps_below2 HB2.out w.heap.size (by omega) (.int .i64 s) (.int .i64 b))
 generalize ((w2.setCell ⟨w.heap.size + 1, 0, none⟩ (.int .i64 s)).setCell ⟨w.heap.size + 1, 1, none⟩ (.int .i64 b)) = wq at *
 obtain ⟨q0, q1⟩ := cell_pair hq
 exact bodyPost_ret (v := .tuple #[liV o z q, plV s b, .nilIface]) (by simp [results, Tryz.results86, go_sem, q0, q1]) rfl ⟨rfl, HBF.out⟩
theorem followFar_l {w : World} {rb cap : Nat} {A : Option Addr} {zs : List ByteArray} {L : Int} (h : Rdr w rb A cap zs L) (o z q s a : Int) (j c : Nat) (hj : j < zs.length) (hc : 8 * c + 8 ≤ (zs[j]).size) {x : Int × Int × Int × Int × Int × Int × Int × Bool} (hx : RdW (((zs[j]).data.toList.drop (8 * c)).take 8) x) (hxv : ptI x = liV o z q) (k0 : -10000 ≤ o) (k1 : o ≤ 10000) :
 Calls Tryz.prog 86 #[.pointer (some ⟨rb, 0, none⟩), fiV c j, plV s a] w fun e w' => e = .returned (.tuple #[liV o z q, plV j (c + (1 + o)), .nilIface]) ∧ Below w.heap.size w w' := by
 have hsm := (h.small _ (List.getElem_mem hj)).1
 have HN := Lib.hid (fun W : World => near_l o z q j c W (by omega) (by omega) (by omega) (by omega))
 have HH := Lib.hid (fun (W : World) (hW : Below w.heap.size w W) => has_a (h.below hW) j c 1 hj (by omega))
 have HP := Lib.hid (fun (W : World) (hW : Below w.heap.size w W) => pointerAt_a (h.below hW) j c hj hc hx)
 rw [hxv] at HP
 generalize (c : Int) + (1 + o) = b at *
 have hb3 := (((((Below.refl w.heap.size w).alloc (Nat.le_refl _) (.cells #[.int .i64 s, .int .i64 a] 58)).alloc (by simp) (.cells #[.int .i64 0, .int .i64 0] 58)).alloc (by simp <;> omega) (.cells #[.int .i64 (c : Int), .int .i64 (j : Int), .bool false] 172)).alloc (by simp <;> omega) (.cells #[.int .i64 (j : Int), .int .i64 (c : Int)] 58))
 have t1 := ta_str_far
 have t2 := ta_lis_far
 have t3 := ta_far_far
 clear h hc hx hxv hsm
 go_enter Tryz.func86, Tryz.ntmps86
 go_wp2_with fail
 have hr1 : ((((w.alloc (.cells #[.int .i64 s, .int .i64 a] 58)).alloc (.cells #[.int .i64 0, .int .i64 0] 58)).alloc (.cells #[.int .i64 (c : Int), .int .i64 (j : Int), .bool false] 172)).alloc (.cells #[.int .i64 (j : Int), .int .i64 (c : Int)] 58)).heap[w.heap.size + 1]? = some (.cells #[.int .i64 0, .int .i64 0] 58 (0, 0)) := (Below.heap_alloc _ _ _ (by simp <;> omega)).trans ((Below.heap_alloc _ _ _ (by simp)).trans (heap_alloc2_new w _ _))
 have hr3 : ((((w.alloc (.cells #[.int .i64 s, .int .i64 a] 58)).alloc (.cells #[.int .i64 0, .int .i64 0] 58)).alloc (.cells #[.int .i64 (c : Int), .int .i64 (j : Int), .bool false] 172)).alloc (.cells #[.int .i64 (j : Int), .int .i64 (c : Int)] 58)).heap[w.heap.size + 1 + 1 + 1]? = some (.cells #[.int .i64 (j : Int), .int .i64 (c : Int)] 58 (0, 0)) := by
  have := heap_alloc_new (((w.alloc (.cells #[.int .i64 s, .int .i64 a] 58)).alloc (.cells #[.int .i64 0, .int .i64 0] 58)).alloc (.cells #[.int .i64 (c : Int), .int .i64 (j : Int), .bool false] 172)) (.cells #[.int .i64 (j : Int), .int .i64 (c : Int)] 58)
  rwa [show (((w.alloc (.cells #[.int .i64 s, .int .i64 a] 58)).alloc (.cells #[.int .i64 0, .int .i64 0] 58)).alloc (.cells #[.int .i64 (c : Int), .int .i64 (j : Int), .bool false] 172)).heap.size = w.heap.size + 1 + 1 + 1 by simp] at this
 generalize (((w.alloc (.cells #[.int .i64 s, .int .i64 a] 58)).alloc (.cells #[.int .i64 0, .int .i64 0] 58)).alloc (.cells #[.int .i64 (c : Int), .int .i64 (j : Int), .bool false] 172)).alloc (.cells #[.int .i64 (j : Int), .int .i64 (c : Int)] 58) = W at *
 refine (HH.out _ hb3).mono ?_
 rintro e w5 ⟨rfl, hb5⟩
 have HB5 := Lib.hid (hb3.trans (hb5.mono hb3.size))
 have r1 := (hb5.block _ (row_lt hr1)).trans hr1
 have r3 := (hb5.block _ (row_lt hr3)).trans hr3
 have R1 := Lib.hid r1
 have R3 := Lib.hid r3
 obtain ⟨c0, c1⟩ := cell_pair r3
 clear hb3 hb5 r1 r3 hr1 hr3
 have hsz5 : (w5.drew).heap.size = w5.heap.size := rfl
 go_wp2_with fail
 go_region_with (first | (go_at_call 85; go_must (refine (HP.out _ (by exact HB5.out.drew)).mono ?_); rintro e w6 ⟨rfl, hb6⟩; have r6 := (hb6.block _ (row_lt R3.out)).trans R3.out; obtain ⟨g0, g1⟩ := cell_pair r6; clear r6) | (go_at_call 129; go_must (refine (HN.out _).mono ?_); rintro e w7 ⟨rfl, hb7⟩; have r7 := (hb7.block _ (row_lt ((hb6.block _ (row_lt R1.out)).trans R1.out))).trans ((hb6.block _ (row_lt R1.out)).trans R1.out); obtain ⟨d0, d1⟩ := cell_pair r7; have f0 := row_free r7 0; have f1 := row_free r7 1))
 all_goals
  have HB7 := HB5.out.drew.trans ((hb6.trans (hb7.mono hb6.size)).mono HB5.out.drew.size)
  have hq := pair_set2 r7 (.int .i64 (j : Int)) (.int .i64 b)
  have HBF := Lib.hid (keeps_below2 HB7 w.heap.size (by omega) (.int .i64 (j : Int)) (.int .i64 b))
  generalize ((w7.setCell ⟨w.heap.size + 1, 0, none⟩ (.int .i64 (j : Int))).setCell ⟨w.heap.size + 1, 1, none⟩ (.int .i64 b)) = wq at *
  obtain ⟨q0, q1⟩ := cell_pair hq
  clear g0 g1 d0 d1 f0 f1 c0 c1 HB7 hb6 hb7
  go_wp2
  exact bodyPost_ret (v := .tuple #[liV o z q, plV j b, .nilIface]) (by simp [results, Tryz.results86, go_sem, q0, q1]) rfl ⟨rfl, HBF.out⟩
end Go.Proofs.YtlbfffokkhccaaaGreatDoor
