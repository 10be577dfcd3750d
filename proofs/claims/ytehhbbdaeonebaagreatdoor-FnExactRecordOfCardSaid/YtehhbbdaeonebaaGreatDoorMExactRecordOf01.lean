/- Texts of the proof of the law FnExactRecordOf, side by side: part 1. -/
import Derived.Deep.OwnRows
import Derived.Lib.BufferWrite
import Derived.Deep.RegionLaw
import Derived.Laws.BitsAllLaws
import Derived.Test.YtehhbbdaeonebaaGreatDoorMExactRecordOf00
set_option maxHeartbeats 8000000
set_option maxRecDepth 100000
namespace Go.Proofs.YtehhbbdaeonebaaGreatDoor
open Go.RowKit
abbrev nodeT : TypeId := 30
abbrev nodesT : TypeId := 28
theorem infoNd : (Tryz.prog.info? nodeT).map (fun i => (i.zero, i.size, i.bytes)) = some (some (.agg #[.int .i64 0, .string ByteArray.empty, .slice none 0 0, .int .i64 0, .int .i64 0, .slice none 0 0]), 6, 88) := by kernel_rfl
theorem row_setN {w : World} {g : Nat} {cs : Array Value} {T : TypeId} (h : w.heap[g]? = some (.cells cs T (0, 0))) (i : Nat) (u : Value) : (w.setCell ⟨g, i, none⟩ u).heap[g]? = some (.cells (cs.setIfInBounds i u) T (0, 0)) := by
 simp [World.setCell, Array.getElem?_modify, h]
theorem add_zero0 (g j : Nat) : (⟨g, 0, none⟩ : Addr).add j = ⟨g, j, none⟩ := by
 unfold Addr.add
 split
 · rename_i h; rw [h]
 · simp
theorem some_at0 {arr : Array Value} {i n : Nat} (hs : arr.size = n) (h : i < n) : ∃ v, arr[i]? = some v := ⟨arr[i]'(by omega), by rw [Array.getElem?_eq_getElem]⟩
theorem arr_step {arr : Array Value} {q : List (Nd × Hd)} {N : Nat} (h : ∀ (j : Nat) (u : Value), (rowOf q)[j]? = some u → arr[j]? = some u) (hs : arr.size = N * 6) (hk : q.length < N) (r : Nd × Hd) :
 ∀ (j : Nat) (u : Value), (rowOf (q ++ [r]))[j]? = some u → ((((((arr.setIfInBounds (q.length * 6) (.int .i64 r.1.kind)).setIfInBounds (q.length * 6 + 1) (.string r.1.data)).setIfInBounds (q.length * 6 + 2) (.slice r.2.A r.1.ptrs.length r.2.a)).setIfInBounds (q.length * 6 + 3) (.int .i64 r.1.size)).setIfInBounds (q.length * 6 + 4) (.int .i64 r.1.count)).setIfInBounds (q.length * 6 + 5) (.slice r.2.B r.1.items.length r.2.b))[j]? = some u := by
 intro j u hj
 have hlt : j < (rowOf (q ++ [r])).length := by
  rcases Nat.lt_or_ge j (rowOf (q ++ [r])).length with h' | h'
  · exact h'
  · rw [List.getElem?_eq_none h'] at hj; cases hj
 rw [rowOf_length] at hlt
 simp only [List.length_append, List.length_cons, List.length_nil] at hlt
 by_cases hj2 : j < q.length * 6
 · rw [rowOf_app, List.getElem?_append_left (by rw [rowOf_length]; exact hj2)] at hj
   rw [Array.getElem?_setIfInBounds_ne (by omega), Array.getElem?_setIfInBounds_ne (by omega), Array.getElem?_setIfInBounds_ne (by omega), Array.getElem?_setIfInBounds_ne (by omega), Array.getElem?_setIfInBounds_ne (by omega), Array.getElem?_setIfInBounds_ne (by omega)]
   exact h j u hj
 · obtain ⟨a0, a1, a2, a3, a4, a5⟩ := rowOf_at (q ++ [r]) q.length r (by simp)
   have hcase : j = q.length * 6 ∨ j = q.length * 6 + 1 ∨ j = q.length * 6 + 2 ∨ j = q.length * 6 + 3 ∨ j = q.length * 6 + 4 ∨ j = q.length * 6 + 5 := by omega
   rcases hcase with e | e | e | e | e | e
   · rw [e, a0] at hj
     cases hj
     rw [e, Array.getElem?_setIfInBounds_ne (by omega), Array.getElem?_setIfInBounds_ne (by omega), Array.getElem?_setIfInBounds_ne (by omega), Array.getElem?_setIfInBounds_ne (by omega), Array.getElem?_setIfInBounds_ne (by omega), Array.getElem?_setIfInBounds_self_of_lt (by omega)]
   · rw [e, a1] at hj
     cases hj
     rw [e, Array.getElem?_setIfInBounds_ne (by omega), Array.getElem?_setIfInBounds_ne (by omega), Array.getElem?_setIfInBounds_ne (by omega), Array.getElem?_setIfInBounds_ne (by omega), Array.getElem?_setIfInBounds_self_of_lt (by simp; omega)]
   · rw [e, a2] at hj
     cases hj
     rw [e, Array.getElem?_setIfInBounds_ne (by omega), Array.getElem?_setIfInBounds_ne (by omega), Array.getElem?_setIfInBounds_ne (by omega), Array.getElem?_setIfInBounds_self_of_lt (by simp; omega)]
   · rw [e, a3] at hj
     cases hj
     rw [e, Array.getElem?_setIfInBounds_ne (by omega), Array.getElem?_setIfInBounds_ne (by omega), Array.getElem?_setIfInBounds_self_of_lt (by simp; omega)]
   · rw [e, a4] at hj
     cases hj
     rw [e, Array.getElem?_setIfInBounds_ne (by omega), Array.getElem?_setIfInBounds_self_of_lt (by simp; omega)]
   · rw [e, a5] at hj
     cases hj
     rw [e, Array.getElem?_setIfInBounds_self_of_lt (by simp; omega)]
structure Upon (B : Nat) (w w' : World) : Prop where
 size : w.heap.size ≤ w'.heap.size
 block : ∀ k, B ≤ k → k < w.heap.size → w'.heap[k]? = w.heap[k]?
theorem Upon.refl (B : Nat) (w : World) : Upon B w w := ⟨Nat.le_refl _, fun _ _ _ => rfl⟩
theorem Upon.setCell {B : Nat} {a w : World} (h : Upon B a w) {p : Addr} (hp : p.block < B) (u : Value) : Upon B a (w.setCell p u) :=
 ⟨by simpa [World.setCell] using h.size, fun k hk hl => (Below.heap_setCell w p u k (by omega)).trans (h.block k hk hl)⟩
def EqS (m : Nat) : Prop := ∀ (A B : Option Addr) (c c' : Nat) (l : List Nd) (w : World) (S S' : Nat → Prop), NdsAt w S m A l → NdsAt w S' m B l → l.length ≤ 2000000 → totL m l ≤ 2000000 →
 Calls Tryz.prog 43 #[.slice A l.length c, .slice B l.length c'] w fun e w' => e = .returned (.bool true) ∧ Below w.heap.size w w'
def EqN (m : Nat) : Prop := ∀ (n : Nd) (h h' : Hd) (w : World) (S S' : Nat → Prop), NdAt w S m n h → NdAt w S' m n h' → totN m n ≤ 2000000 →
 Calls Tryz.prog 13 #[.agg #[.int .i64 n.kind, .string n.data, .slice h.A n.ptrs.length h.a, .int .i64 n.size, .int .i64 n.count, .slice h.B n.items.length h.b], .agg #[.int .i64 n.kind, .string n.data, .slice h'.A n.ptrs.length h'.a, .int .i64 n.size, .int .i64 n.count, .slice h'.B n.items.length h'.b]] w fun e w' => e = .returned (.bool true) ∧ Below w.heap.size w w'
theorem totL_len' {w : World} {S : Nat → Prop} {m : Nat} {A : Option Addr} {l : List Nd} (h : NdsAt w S m A l) (ht : totL m l ≤ 2000000) : l.length ≤ 2000000 := by
 cases m with
 | zero => rw [h.zero]; decide
 | succ m => exact Nat.le_trans (totL_len m l) ht
theorem eqN_of (m : Nat) (hS : EqS m) : EqN m := by
 intro n h h' w S S' hn hn' ht
 have HS := Lib.hid hS
 have hba : Below w.heap.size w ((w.alloc (.cells #[.int .i64 n.kind, .string n.data, .slice h.A n.ptrs.length h.a, .int .i64 n.size, .int .i64 n.count, .slice h.B n.items.length h.b] nodeT)).alloc (.cells #[.int .i64 n.kind, .string n.data, .slice h'.A n.ptrs.length h'.a, .int .i64 n.size, .int .i64 n.count, .slice h'.B n.items.length h'.b] nodeT)) := ((Below.refl _ _).alloc (Nat.le_refl _) _).alloc (by simp) _
 have k1 : ((w.alloc (.cells #[.int .i64 n.kind, .string n.data, .slice h.A n.ptrs.length h.a, .int .i64 n.size, .int .i64 n.count, .slice h.B n.items.length h.b] nodeT)).alloc (.cells #[.int .i64 n.kind, .string n.data, .slice h'.A n.ptrs.length h'.a, .int .i64 n.size, .int .i64 n.count, .slice h'.B n.items.length h'.b] nodeT)).heap[w.heap.size]? = some (.cells #[.int .i64 n.kind, .string n.data, .slice h.A n.ptrs.length h.a, .int .i64 n.size, .int .i64 n.count, .slice h.B n.items.length h.b] nodeT (0, 0)) := (Below.heap_alloc _ _ _ (by simp)).trans (heap_alloc_new w _)
 have k2 : ((w.alloc (.cells #[.int .i64 n.kind, .string n.data, .slice h.A n.ptrs.length h.a, .int .i64 n.size, .int .i64 n.count, .slice h.B n.items.length h.b] nodeT)).alloc (.cells #[.int .i64 n.kind, .string n.data, .slice h'.A n.ptrs.length h'.a, .int .i64 n.size, .int .i64 n.count, .slice h'.B n.items.length h'.b] nodeT)).heap[w.heap.size + 1]? = some (.cells #[.int .i64 n.kind, .string n.data, .slice h'.A n.ptrs.length h'.a, .int .i64 n.size, .int .i64 n.count, .slice h'.B n.items.length h'.b] nodeT (0, 0)) := by have := heap_alloc_new (w.alloc (.cells #[.int .i64 n.kind, .string n.data, .slice h.A n.ptrs.length h.a, .int .i64 n.size, .int .i64 n.count, .slice h.B n.items.length h.b] nodeT)) (.cells #[.int .i64 n.kind, .string n.data, .slice h'.A n.ptrs.length h'.a, .int .i64 n.size, .int .i64 n.count, .slice h'.B n.items.length h'.b] nodeT); rwa [show (w.alloc (.cells #[.int .i64 n.kind, .string n.data, .slice h.A n.ptrs.length h.a, .int .i64 n.size, .int .i64 n.count, .slice h.B n.items.length h.b] nodeT)).heap.size = w.heap.size + 1 by simp] at this
 have HN := Lib.hid (hn.below hba)
 have HN' := Lib.hid (hn'.below hba)
 have hts : ((w.alloc (.cells #[.int .i64 n.kind, .string n.data, .slice h.A n.ptrs.length h.a, .int .i64 n.size, .int .i64 n.count, .slice h.B n.items.length h.b] nodeT)).alloc (.cells #[.int .i64 n.kind, .string n.data, .slice h'.A n.ptrs.length h'.a, .int .i64 n.size, .int .i64 n.count, .slice h'.B n.items.length h'.b] nodeT)).heap.size = w.heap.size + 2 := by simp
 have t1 : totL m n.ptrs ≤ 2000000 := by unfold totN at ht; omega
 have t2 : totL m n.items ≤ 2000000 := by unfold totN at ht; omega
 have HT := Lib.hid (And.intro (And.intro (totL_len' hn.2.1 t1) t1) (And.intro (totL_len' hn.2.2 t2) t2))
 have HBA := Lib.hid hba
 have HK1 := Lib.hid k1
 have HK2 := Lib.hid k2
 have HTS := Lib.hid hts
 clear hS hn hn' hba t1 t2 ht k1 k2 hts
 go_enter Tryz.func13, Tryz.ntmps13
 go_wp2_with fail
 generalize ((w.alloc (.cells #[.int .i64 n.kind, .string n.data, .slice h.A n.ptrs.length h.a, .int .i64 n.size, .int .i64 n.count, .slice h.B n.items.length h.b] nodeT)).alloc (.cells #[.int .i64 n.kind, .string n.data, .slice h'.A n.ptrs.length h'.a, .int .i64 n.size, .int .i64 n.count, .slice h'.B n.items.length h'.b] nodeT)) = W at *
 refine (HS.out h.A h'.A h.a h'.a n.ptrs W S S' HN.out.2.1 HN'.out.2.1 HT.out.1.1 HT.out.1.2).mono ?_
 rintro e w1 ⟨rfl, hb1⟩
 have HB1 := Lib.hid hb1
 obtain ⟨a0, a1, a2, a3, a4, a5⟩ := cells6 ((hb1.block _ (by have := HTS.out; omega)).trans HK1.out)
 obtain ⟨b0, b1, b2, b3, b4, b5⟩ := cells6 ((hb1.block _ (by have := HTS.out; omega)).trans HK2.out)
 clear hb1
 go_wp2_with fail
 refine (HS.out h.B h'.B h.b h'.b n.items w1 S S' (HN.out.below HB1.out).2.2 (HN'.out.below HB1.out).2.2 HT.out.2.1 HT.out.2.2).mono ?_
 rintro e w2 ⟨rfl, hb2⟩
 have HB2 := Lib.hid (HBA.out.trans ((HB1.out.trans (hb2.mono HB1.out.size)).mono (by have := HTS.out; omega)))
 clear hb2
 go_wp2
 go_ret
 exact ⟨rfl, HB2.out⟩
theorem eqS_zero : EqS 0 := by
 intro A B c c' l w S S' hl hl' h1 h2
 obtain rfl := hl.zero
 clear h1 h2
 go_enter Tryz.func43, Tryz.ntmps43
 go_wp2
 go_loop [5] (fun i => i = .int .i64 0) (fun _ => 0)
 case atStart => rfl
 case round =>
  obtain rfl := hrel
  go_wp2
  go_ret
  exact ⟨rfl, Below.refl _ _⟩
theorem eqS_succ (m : Nat) (hN : EqN m) : EqS (m + 1) := by
 intro A B c c' l w S S' h h' hlm ht
 have HF := Lib.hid h
 have HG := Lib.hid h'
 have HT : Hid (∀ k (h : k < l.length), totN m l[k] ≤ 2000000) := Lib.hid fun k h => by have := totL_at (m := m) h; omega
 have HN := Lib.hid hN
 clear h h' hN ht
 go_enter Tryz.func43, Tryz.ntmps43
 go_wp2
 go_loopw [5] (fun i wr => ∃ k : Nat, i = .int .i64 k ∧ k ≤ l.length ∧ Hid (Below w.heap.size w wr)) (fun i _ => l.length - (intOf i).toNat)
 case atStart => exact ⟨0, rfl, by omega, Lib.hid (Below.refl _ _)⟩
 case round =>
  obtain ⟨k, rfl, hk, HB⟩ := hrel
  by_cases hlt : k < l.length
  · obtain ⟨x, hx, rfl, cx, nx⟩ := (HF.out.below HB.out).at_ hlt
    obtain ⟨y, hy, rfl, cy, ny⟩ := (HG.out.below HB.out).at_ hlt
    have htn := HT.out k hlt
    generalize l[k] = n at cx nx cy ny htn
    have hd1 : Below wr.heap.size wr wr.drew := ⟨rfl, rfl, rfl, Nat.le_refl _, fun _ _ => rfl⟩
    have HP := Lib.hid (HN.out n hx hy wr.drew S S' (nx.below hd1) (ny.below hd1) htn)
    have hx1 := cx.lt
    have hx2 := cy.lt
    obtain ⟨c0, c1, c2, c3, c4, c5⟩ := cx
    obtain ⟨d0, d1, d2, d3, d4, d5⟩ := cy
    have hk2 : (k : Int) < (l.length : Int) := by omega
    have hs := HB.out.size
    clear nx ny htn
    go_wp2
    go_region_with (go_at_call 13; refine HP.out.mono ?_; rintro e w2 ⟨rfl, hb2⟩)
    all_goals
     have HB2 := Lib.hid (HB.out.trans ((show Below w.heap.size wr wr.drew from ⟨rfl, rfl, rfl, Nat.le_refl _, fun _ _ => rfl⟩).trans (hb2.mono (by simpa using hs))))
     clear hb2
     go_wp2
     go_roundw
     case rel => exact ⟨k + 1, by go_num, by omega, HB2⟩
     case measure => simp [intOf]; omega
  · obtain rfl : k = l.length := by omega
    go_wp2
    go_ret
    exact ⟨rfl, HB.out⟩
theorem eqS_any : ∀ m, EqS m
 | 0 => eqS_zero
 | m + 1 => eqS_succ m (eqN_of m (eqS_any m))
theorem eqN_any (m : Nat) : EqN m := eqN_of m (eqS_any m)
def noneB (d : ByteArray) (lp : Nat) (s c : Int) (li : Nat) : Bool := d.size == 0 && lp == 0 && s == 0 && c == 0 && li == 0
theorem loop_length (d : ByteArray) (i : Nat) (r : List UInt8) : (ByteArray.toList.loop d i r).length = r.length + (d.size - i) := by
 fun_induction ByteArray.toList.loop d i r with
 | case1 i r h ih => rw [ih]; simp only [List.length_cons]; omega
 | case2 i r h => simp only [List.length_reverse]; omega
theorem toList_isEmpty (d : ByteArray) : d.toList.isEmpty = (d.size == 0) := by
 have h := loop_length d 0 []
 simp only [List.length_nil] at h
 unfold ByteArray.toList
 rw [Bool.eq_iff_iff, List.isEmpty_iff, ← List.length_eq_zero_iff, h]
 simp
theorem isNothing_any (k s c : Int) (d : ByteArray) (A B : Option Addr) (lp cp li ci : Nat) (w : World) :
 Calls Tryz.prog 94 #[.agg #[.int .i64 k, .string d, .slice A lp cp, .int .i64 s, .int .i64 c, .slice B li ci]] w fun e w' => e = .returned (.bool (noneB d lp s c li)) ∧ Below w.heap.size w w' := by
 have HE := toList_isEmpty d
 have HD : Hid (noneB d lp s c li = decide (d.size = 0 ∧ lp = 0 ∧ s = 0 ∧ c = 0 ∧ li = 0)) := Lib.hid (by rw [Bool.eq_iff_iff]; simp [noneB, and_assoc])
 go_enter Tryz.func94, Tryz.ntmps94
 go_wp2
 all_goals go_ret
 all_goals refine ⟨ret_bool ?_, (Below.refl _ _).alloc (Nat.le_refl _) _⟩
 all_goals (rw [HD.out, Bool.eq_iff_iff]; simp_all)
def structB (k : Int) (d : ByteArray) (s c : Int) (li : Nat) : Bool := decide (k = 1 ∧ (d.size : Int) % 8 = 0 ∧ s = 0 ∧ c = 0 ∧ li = 0)
theorem isStruct_any (k s c : Int) (d : ByteArray) (A B : Option Addr) (lp cp li ci : Nat) (w : World) :
 Calls Tryz.prog 123 #[.agg #[.int .i64 k, .string d, .slice A lp cp, .int .i64 s, .int .i64 c, .slice B li ci]] w fun e w' => e = .returned (.bool (structB k d s c li)) ∧ Below w.heap.size w w' := by
 have HD : Hid (noneB ByteArray.empty 0 s c li = decide (s = 0 ∧ c = 0 ∧ li = 0)) := Lib.hid (by rw [Bool.eq_iff_iff]; simp [noneB, and_assoc])
 have HS : Hid (structB k d s c li = (decide (k = 1) && (decide ((d.size : Int) % 8 = 0) && noneB ByteArray.empty 0 s c li))) := Lib.hid (by rw [HD.out, Bool.eq_iff_iff]; simp [structB])
 clear HD
 by_cases hk : k = 1
 all_goals
  by_cases h8 : (d.size : Int) % 8 = 0
  all_goals
   go_enter Tryz.func123, Tryz.ntmps123
   go_wp2_with (go_at_call 94; go_must (refine (isNothing_any _ _ _ _ _ _ _ _ _ _ _).mono ?_); rintro e w2 ⟨rfl, hb2⟩)
   go_ret
   refine ⟨ret_bool (by rw [HS.out]; simp [hk, h8] <;> rfl), ?_⟩
   first
   | exact (((Below.refl _ w).alloc (Nat.le_refl _) _).alloc (by simp) _).trans (hb2.mono (by simp; omega))
   | exact ((Below.refl _ w).alloc (Nat.le_refl _) _).alloc (by simp) _
theorem l4Struct_any (k s c : Int) (d : ByteArray) (A B : Option Addr) (lp cp li ci : Nat) (w : World) :
 Calls Tryz.prog 90 #[.agg #[.int .i64 k, .string d, .slice A lp cp, .int .i64 s, .int .i64 c, .slice B li ci]] w fun e w' => e = .returned (.bool (structB k d s c li)) ∧ Below w.heap.size w w' := by
 have HS : Hid (structB k d s c li = decide (k = 1 ∧ (d.size : Int) % 8 = 0 ∧ s = 0 ∧ c = 0 ∧ li = 0)) := Lib.hid rfl
 go_enter Tryz.func90, Tryz.ntmps90
 go_wp2
 all_goals go_ret
 all_goals refine ⟨ret_bool ?_, (Below.refl _ _).alloc (Nat.le_refl _) _⟩
 all_goals (rw [HS.out, Bool.eq_iff_iff]; simp_all)
def wd (l : List UInt8) : Array Value := (Lib.byteCells l).toArray
theorem wd_size (l : List UInt8) : (wd l).size = l.length := by simp [wd, Lib.byteCells_length]
theorem len8 {l : List UInt8} (h : l.length = 8) : ∃ a b c d e f g i, l = [a, b, c, d, e, f, g, i] := by
 match l, h with
 | [a, b, c, d, e, f, g, i], _ => exact ⟨a, b, c, d, e, f, g, i, rfl⟩
theorem wd8 (a b c d e f g i : UInt8) : wd [a, b, c, d, e, f, g, i] = #[.int .u8 a.toNat, .int .u8 b.toNat, .int .u8 c.toNat, .int .u8 d.toNat, .int .u8 e.toNat, .int .u8 f.toNat, .int .u8 g.toNat, .int .u8 i.toNat] := rfl
theorem run_copy_string_ge {P : Program} (w : World) (dT sT ty elem : TypeId) (g dCap : Nat) (s : ByteArray) (cur : Array Value) (t : TypeId)
 (hu : P.underlying dT = some (.slice elem)) (hs : (P.info? elem).map (·.size) = some 1) (hg : w.heap[g]? = some (.cells cur t (0, 0))) (hle : cur.size ≤ s.size) :
 (Builtin.copy_ #[dT, sT] ty #[.slice (some ⟨g, 0, none⟩) cur.size dCap, .string s]).run P w =
  .ok (goInt cur.size) (w.setRow g (wd (s.data.toList.take cur.size))) := by
 have hlen : (Lib.byteCells (s.data.toList.take cur.size)).length = cur.size := by
  rw [Lib.byteCells_length, List.length_take, ← Lib.size_eq]; omega
 have hst := run_storeCells_at P g 0 t (Lib.byteCells (s.data.toList.take cur.size)) 0 cur w hg (by rw [hlen]; simp) (Lib.byteCells_one _)
 have hmin : Nat.min s.size cur.size = cur.size := Nat.min_eq_right hle
 have htk : List.take cur.size (List.map (fun b : UInt8 => Value.int IntKind.u8 (b.toNat : Int)) s.data.toList) = Lib.byteCells (s.data.toList.take cur.size) := by
  rw [Lib.byteCells, List.map_take]
 rw [hlen] at hst
 have hd : List.drop cur.size cur.toList = [] := List.drop_of_length_le (by simp)
 simp only [Nat.add_zero, Nat.zero_add, List.take_zero, List.nil_append, hd, List.append_nil] at hst
 cases hq : P.info? elem with
 | none => simp [hq] at hs
 | some i =>
  simp [Builtin.copy_, run_underlying hu, Builtin.lenOf, Builtin.firstCells, sizeOf, typeInfo, hq, hmin]
  simp only [← List.map_take] at hst ⊢
  rw [show List.map (fun b : UInt8 => Value.int IntKind.u8 (b.toNat : Int)) (List.take cur.size s.data.toList) = Lib.byteCells (s.data.toList.take cur.size) from rfl, hst]
  simp [Result.andThen, wd]
theorem step_copy_string_ge {P : Program} {ops : Array Oper} {o : Oper} {a : Act} {w : World} {K : Act → World → Prop} {Q : Exit → Act → World → Prop} {E : Prop} (hgd : o.guard = none) (d s : Operand) (dT sT : TypeId)
 (ho : o.op = .call { callee := .builtin .copy, args := #[d, s], argTypes := #[dT, sT] }) (elem : TypeId) (hu : P.underlying dT = some (.slice elem)) (hsz : (P.info? elem).map (·.size) = some 1)
 (g dCap n : Nat) (S : ByteArray) (cur : Array Value) (t : TypeId) (hn : cur.size = n) (hd : a.eval d = .slice (some ⟨g, 0, none⟩) n dCap) (hs : a.eval s = .string S)
 (hg : w.heap[g]? = some (.cells cur t (0, 0))) (hle : n ≤ S.size)
 (h : ∀ w', Hid (w'.heap[g]? = some (.cells (wd (S.data.toList.take n)) t (0, 0))) → Hid (w.grownBy w' (some g)) → K (a.put o.dst (goInt n)) w') :
 if Region.wanted o (yielded ops a.tmps) = true then Oper.wp P o a w K Q else E := by
 subst hn
 have hw : Region.wanted o (yielded ops a.tmps) = true := by simp [Region.wanted, hgd]
 rw [if_pos hw]
 have hrun := run_copy_string_ge (P := P) w dT sT o.type elem g dCap S cur t hu hsz hg hle
 unfold Oper.wp
 simp [execOp, ho, resolve, invoke, builtin, hd, hs, hrun, Result.andThen]
 exact h _ (setRow_heap w g _ _ t _ hg) ⟨rfl, rfl, rfl, by simp [World.setRow], fun k _ hk => setRow_other w g k _ (fun e => hk (by rw [e]))⟩
theorem wd_one (l : List UInt8) : (wd l).all (·.oneCell') = true := by
 rw [Array.all_eq_true_iff_forall_mem]
 intro v hv
 exact Lib.byteCells_one l v (by simpa [wd] using hv)
theorem wpList_store_wd {P : Program} {ops : Array Oper} {rest : List Oper} {o : Oper} {a : Act} {w : World} {Q : Exit → Act → World → Prop} (hgd : o.guard = none) (ty : TypeId) (x y : Operand) (ho : o.op = .store ty x y)
 (g : Nat) (l : List UInt8) (hx : a.eval x = .pointer (some ⟨g, 0, none⟩)) (hy : a.eval y = .agg (wd l))
 (t : TypeId) (old : Array Value) (hg : w.heap[g]? = some (.cells old t (0, 0))) (hi : (P.info? ty).map (·.size) = some l.length) (hold : old.size = l.length)
 (h : ∀ w', Hid (w'.heap[g]? = some (.cells (wd l) t (0, 0))) → Hid (w.grownBy w' (some g)) → wpList P ops Q rest (a.put o.dst undef) w') : wpList P ops Q (o :: rest) a w :=
 wpList_store_row hgd ty x y ho g (wd l) hx hy t old hg (by rw [wd_size]; exact hi) (by rw [wd_size]; exact hold) (wd_one l)
  (h _ (setRow_heap w g _ _ t _ hg) ⟨rfl, rfl, rfl, by simp [World.setRow], fun k _ hk => setRow_other w g k _ (fun e => hk (by rw [e]))⟩)
theorem wpList_load_wd {P : Program} {ops : Array Oper} {rest : List Oper} {o : Oper} {a : Act} {w : World} {Q : Exit → Act → World → Prop} (hgd : o.guard = none) (ty : TypeId) (x : Operand) (ho : o.op = .load ty x)
 (g : Nat) (hx : a.eval x = .pointer (some ⟨g, 0, none⟩)) (t : TypeId) (l : List UInt8) (d : TypeDesc) (hg : w.heap[g]? = some (.cells (wd l) t (0, 0)))
 (hu : P.underlying ty = some d) (hd : (match d with | .struct _ | .array _ _ => true | _ => false) = true) (hi : (P.info? ty).map (·.size) = some l.length)
 (h : wpList P ops Q rest (a.put o.dst (.agg (wd l))) w) : wpList P ops Q (o :: rest) a w :=
 wpList_load_row hgd ty x ho g hx t (wd l) (0, 0) d hg hu hd (by rw [wd_size]; exact hi) h
theorem wrap64_small (n : Nat) (h : n < 9223372036854775808) : wrap64 (n : Int) = n := by unfold wrap64; omega
theorem wd_cell (w : World) (l : List UInt8) (t : TypeId) (i : Nat) (h : i < l.length) : (w.alloc (.cells (wd l) t)).cell? ⟨w.heap.size, i, none⟩ = some (.int .u8 ((l[i]?.getD 0).toNat : Int)) := by
 rw [cell_of_row _ _ _ (wd l) t (0, 0) (heap_alloc_new w _)]
 simp [wd, Lib.byteCells, h]
def leB (n : Int) : Nat → List UInt8
 | 0 => []
 | k + 1 => UInt8.ofNat (n % 256).toNat :: leB (n / 256) k
theorem leB_length (n : Int) (k : Nat) : (leB n k).length = k := by
 induction k generalizing n with
 | zero => rfl
 | succ k ih => simp [leB, ih]
def shr8 (n : Int) : Nat → Int
 | 0 => n
 | k + 1 => shr8 n k / 256
theorem shr8_succ' (n : Int) (k : Nat) : shr8 (n / 256) k = shr8 n k / 256 := by
 induction k with
 | zero => rfl
 | succ k ih => simp [shr8, ih]
theorem leB_snoc (n : Int) (k : Nat) : leB n (k + 1) = leB n k ++ [UInt8.ofNat (shr8 n k % 256).toNat] := by
 induction k generalizing n with
 | zero => rfl
 | succ k ih => rw [leB, ih, leB, List.cons_append, shr8_succ', shr8]
theorem shr8_bd (n : Int) (k : Nat) (h0 : 0 ≤ n) (h1 : n < 18446744073709551616) : 0 ≤ shr8 n k ∧ shr8 n k < 18446744073709551616 := by
 induction k with
 | zero => exact ⟨h0, h1⟩
 | succ k ih => simp only [shr8]; omega
theorem ofNat_toNat_u8 (m : Int) : (((UInt8.ofNat (m % 256).toNat).toNat : Nat) : Int) = m % 256 := by
 rw [UInt8.toNat_ofNat']; omega
def putL (l : List UInt8) (a : Nat) (xs : List UInt8) : List UInt8 := l.take a ++ (xs ++ l.drop (a + xs.length))
theorem putL_length (l : List UInt8) (a : Nat) (xs : List UInt8) (h : a + xs.length ≤ l.length) : (putL l a xs).length = l.length := by simp [putL]; omega
theorem putL_nil (l : List UInt8) (a : Nat) : putL l a [] = l := by simp [putL]
theorem putL_snoc (l : List UInt8) (a : Nat) (xs : List UInt8) (b : UInt8) (h : a + xs.length < l.length) : putL l a (xs ++ [b]) = (putL l a xs).set (a + xs.length) b := by
 have e1 : (l.take a).length = a := by simp; omega
 rw [putL, putL, List.set_append, if_neg (by omega), e1, show a + xs.length - a = xs.length by omega, List.set_append, if_neg (by omega), Nat.sub_self, List.drop_eq_getElem_cons h]
 simp [Nat.add_assoc]
theorem wd_set (l : List UInt8) (i : Nat) (b : UInt8) : (wd l).setIfInBounds i (.int .u8 (b.toNat : Int)) = wd (l.set i b) := by
 simp [wd, Lib.byteCells, List.map_set]
theorem heap_set {w : World} {g i : Nat} {cs : Array Value} {t : TypeId} (u : Value) (h : w.heap[g]? = some (.cells cs t (0, 0))) : (w.setCell ⟨g, i, none⟩ u).heap[g]? = some (.cells (cs.setIfInBounds i u) t (0, 0)) := by
 simp [World.setCell, Array.getElem?_modify, h]
theorem frozen_row {w : World} {g : Nat} {cs : Array Value} {t : TypeId} (h : w.heap[g]? = some (.cells cs t (0, 0))) (i : Nat) : w.frozen? ⟨g, i, none⟩ = false := by
 simp [World.frozen?, h]
theorem wd_cell_row {w : World} {g : Nat} {l : List UInt8} {t : TypeId} (h : w.heap[g]? = some (.cells (wd l) t (0, 0))) (i : Nat) (hi : i < l.length) : w.cell? ⟨g, i, none⟩ = some (.int .u8 ((l[i]?.getD 0).toNat : Int)) := by
 rw [cell_of_row _ _ _ (wd l) t (0, 0) h]
 simp [wd, Lib.byteCells, hi]
theorem heap_set_far {w : World} {g p i : Nat} {o : Obj} (u : Value) (hne : p ≠ g) (h : w.heap[p]? = some o) : (w.setCell ⟨g, i, none⟩ u).heap[p]? = some o :=
 (Below.heap_setCell w ⟨g, i, none⟩ u p hne).trans h
theorem put_step {wr : World} {g : Nat} {t : TypeId} (l : List UInt8) (a : Nat) (n : Int) (k : Nat) (hk : a + k < l.length) (h : wr.heap[g]? = some (.cells (wd (putL l a (leB n k))) t (0, 0))) :
 (wr.setCell ⟨g, a + k, none⟩ (.int .u8 (shr8 n k % 256))).heap[g]? = some (.cells (wd (putL l a (leB n (k + 1)))) t (0, 0)) := by
 rw [heap_set _ h, leB_snoc, putL_snoc _ _ _ _ (by rw [leB_length]; exact hk), leB_length, ← wd_set, ofNat_toNat_u8]
theorem heap_lt {w : World} {g : Nat} {o : Obj} (h : w.heap[g]? = some o) : g < w.heap.size := by
 rcases Nat.lt_or_ge g w.heap.size with hlt | hge
 · exact hlt
 · rw [Array.getElem?_eq_none hge] at h; cases h
theorem heap_alloc_keep {w : World} {g : Nat} {o : Obj} (h : w.heap[g]? = some o) (x : Obj) : (w.alloc x).heap[g]? = some o := (Below.heap_alloc w x g (heap_lt h)).trans h
theorem add_head (g j : Nat) : (⟨g, 0, none⟩ : Addr).add j = ⟨g, j, none⟩ := by unfold Addr.add; split <;> simp_all
theorem convert_wd {P : Program} (w : World) (src dst e : TypeId) (g cap n : Nat) (l : List UInt8) (hn : l.length = n) (hs : P.underlying src = some (.slice e)) (he : P.underlying e = some (.int .u8)) (hd : P.underlying dst = some .string)
 {t : TypeId} {fr : Nat × Nat} {cs : Array Value} (hg : w.heap[g]? = some (.cells cs t fr)) (hc : cs.toList.take n = Lib.byteCells l) :
 (convert src dst (.slice (some ⟨g, 0, none⟩) n cap)).run P w = .ok (.string ⟨l.toArray⟩) w := by
 subst hn
 refine run_convert_bytes_back w src dst e ⟨g, 0, none⟩ cap l hs he hd fun j hj => ?_
 rw [add_head, cell_of_row _ _ _ cs t fr hg]
 have h := congrArg (fun x : List Value => x[j]?) hc
 simp only [List.getElem?_take_of_lt hj, Array.getElem?_toList] at h
 rw [h]
 simp [Lib.byteCells, hj]
theorem convert_nil {P : Program} (w : World) (src dst e : TypeId) (hs : P.underlying src = some (.slice e)) (he : P.underlying e = some (.int .u8)) (hd : P.underlying dst = some .string) :
 (convert src dst (.slice none 0 0)).run P w = .ok (.string ⟨#[]⟩) w := by
 rw [run_convert_bytes_string w src dst e none 0 0 hs he hd]
 rfl
theorem convert_own {P : Program} (w : World) (src dst e : TypeId) (base n : Nat) (l : List UInt8) (v : Value) (hn : l.length = n) (hs : P.underlying src = some (.slice e)) (he : P.underlying e = some (.int .u8)) (hd : P.underlying dst = some .string)
 (hown : w.ownsRow base e 1 v n (Lib.byteCells l)) : (convert src dst v).run P w = .ok (.string ⟨l.toArray⟩) w := by
 rcases hown.2 with ⟨rfl, rfl⟩ | ⟨g, cap, cur, rfl, _, hg, _, _, _, htk⟩
 · obtain rfl : l = [] := List.eq_nil_of_length_eq_zero hn
   exact convert_nil w src dst e hs he hd
 · exact convert_wd w src dst e g cap n l hn hs he hd hg (by simpa using htk)
theorem byteCells_snoc' (l : List UInt8) (b : UInt8) : Lib.byteCells l ++ [Value.int .u8 (b.toNat : Int)] = Lib.byteCells (l ++ [b]) := by simp [Lib.byteCells]
theorem below_append {B : Nat} {w0 w w1 : World} {x : Obj} {e : TypeId} {size n : Nat} {v : Value} {xs : List Value} (hb : Below B w0 w) (hB : B ≤ w.heap.size) (hown : w.ownsRow B e size v n xs) (hg : (w.alloc x).grownBy w1 v.ownBlock) : Below B w0 w1 :=
 (hb.alloc hB x).grown hg (by simp; omega) (fun k hk => (hown.lt k hk).1)
theorem step_append_own {P : Program} {ops : Array Oper} {o : Oper} {a : Act} {w : World} {K : Act → World → Prop} {Q : Exit → Act → World → Prop} {E : Prop} (hgd : o.guard = none) (s x : Operand) (t : TypeId)
 (ho : o.op = .call { callee := .builtin .append, args := #[s, x], argTypes := #[t, t] })
 (base : Nat) (e : TypeId) (i : TypeInfo) (z : Value) (size bytes : Nat) (ht : P.underlying t = some (.slice e)) (hi : P.info? e = some i) (hz : i.zero = some z)
 (hsize : i.size = size) (hby : i.bytes = bytes) (hzs : z.cells.size = size) (hsz : 0 < size)
 (v : Value) (n : Nat) (xs : List Value) (hs : a.eval s = v) (hown : w.ownsRow base e size v n xs)
 (ad : Addr) (m c : Nat) (news : List Value) (hx : a.eval x = .slice (some ad) m c) (hl : news.length = m * size) (hnews : ∀ j u, news[j]? = some u → w.cell? (ad.add j) = some u) (h1 : ∀ u ∈ news, u.oneCell' = true)
 (h63 : n + m ≤ maxLen) (hbytes : (n + m) * bytes ≤ 140737488355328) (hbase : base ≤ w.heap.size)
 (h : ∀ v' w', Hid (w'.ownsRow base e size v' (n + m) (xs ++ news)) → Hid (w.grownBy w' v.ownBlock) → K (a.put o.dst v') w') : if Region.wanted o (yielded ops a.tmps) = true then Oper.wp P o a w K Q else E := by
 have hw : Region.wanted o (yielded ops a.tmps) = true := by simp [Region.wanted, hgd]
 rw [if_pos hw]
 exact wp_append_own w s x t ho base e i z size bytes ht hi hz hsize hby hzs hsz v n xs hs hown ad m c news hx hl hnews h1 h63 hbytes hbase fun v' w' h2 h3 _ => h v' w' h2 h3
theorem cell_two_new' (w : World) (x y : Value) (t : TypeId) : ∀ j u, [x, y][j]? = some u → (w.alloc (.cells #[x, y] t)).cell? ((⟨w.heap.size, 0, none⟩ : Addr).add j) = some u := by
 intro j u hj
 rw [add_head, cell_of_row _ _ _ _ _ (0, 0) (heap_alloc_new w _)]
 match j, hj with
 | 0, hj => simpa using hj
 | 1, hj => simpa using hj
theorem ext_ba {a b : ByteArray} (h : a.data.toList = b.data.toList) : a = b := by
 cases a; cases b; simp at h; simp [h]
end Go.Proofs.YtehhbbdaeonebaaGreatDoor
