/- The specification's drawer of nodes: lists of bits and bytes. -/
import Derived.Test.YtfiiopchfmcjdaaNdCut
import Derived.Test.YtfiiopchfmcjdaaNdFrC
import Derived.Test.YtfiiopchfmcjdaaDrawW
import Derived.Test.YtfiiopchfmcjdaaDrawOne
import Derived.Test.YtfiiopchfmcjdaaNdTo
namespace Go.Proofs.Ytfiiopchfmcjdaa
open Go.RowKit
theorem picked_storeN {w w1 : World} {R n b : Nat} (h : Picked w R n w1) (hR : R < w.heap.size) (hb : w.heap.size ≤ b) (i : Nat) (v : Value) : Picked w R n (w1.setCell ⟨b, i, none⟩ v) := by
  obtain ⟨⟨a, l, c, p, hp, hr, hc⟩, hk⟩ := h
  have hs := set_keeps w1.heap.size b w1 i v
  refine ⟨⟨a, l, c, p, hp, (hs.block R (row_lt hr) (by omega)).trans hr, hc.keeps hs (Nat.le_of_lt (row_lt hr)) (by omega)⟩, ?_⟩
  exact ⟨hs.os.trans hk.os, hs.tape.trans hk.tape, hs.output.trans hk.output, Nat.le_trans hk.size hs.size, fun k hk1 hk2 => (hs.block k (Nat.lt_of_lt_of_le hk1 hk.size) (by omega)).trans (hk.block k hk1 hk2)⟩
theorem store6 {w w1 : World} {R n b : Nat} {T : TypeId} {a0 a1 a2 a3 a4 a5 : Value} (h : w1.heap[b]? = some (.cells #[a0, a1, a2, a3, a4, a5] T (0, 0))) (hp : Picked w R n w1) (hR : R < w.heap.size) (hb : w.heap.size ≤ b) (v0 v1 v2 v3 v4 v5 : Value) :
    ∃ wf, ((((((w1.setCell ⟨b, 0, none⟩ v0).setCell ⟨b, 1, none⟩ v1).setCell ⟨b, 2, none⟩ v2).setCell ⟨b, 3, none⟩ v3).setCell ⟨b, 4, none⟩ v4).setCell ⟨b, 5, none⟩ v5) = wf ∧ wf.heap[b]? = some (.cells #[v0, v1, v2, v3, v4, v5] T (0, 0)) ∧ Picked w R n wf ∧ Upon (b + 1) w1 wf :=
  ⟨_, rfl, row_setN (row_setN (row_setN (row_setN (row_setN (row_setN h 0 v0) 1 v1) 2 v2) 3 v3) 4 v4) 5 v5, picked_storeN (picked_storeN (picked_storeN (picked_storeN (picked_storeN (picked_storeN hp hR hb 0 v0) hR hb 1 v1) hR hb 2 v2) hR hb 3 v3) hR hb 4 v4) hR hb 5 v5,
    ((((((Upon.refl (b + 1) w1).setCell (p := ⟨b, 0, none⟩) (by simp) v0).setCell (p := ⟨b, 1, none⟩) (by simp) v1).setCell (p := ⟨b, 2, none⟩) (by simp) v2).setCell (p := ⟨b, 3, none⟩) (by simp) v3).setCell (p := ⟨b, 4, none⟩) (by simp) v4).setCell (p := ⟨b, 5, none⟩) (by simp) v5⟩
theorem pick_rowN {w w1 : World} {R n b : Nat} {o : Obj} (h : w.heap[b]? = some o) (hp : Picked w R n w1) (hne : b ≠ R) : w1.heap[b]? = some o := (hp.2.block b (row_lt h) hne).trans h
/-- how great a drawn node is, and its own bytes. -/
def SB (T : Nat) (n : Nd) : Prop := (T ≤ 259259 → n.data.size ≤ 1100) ∧ (n.kind = 2 → n.data.size ≤ 1592) ∧ n.items.length ≤ 1000
def TB (M : Nat) (n : Nd) (T : Nat) : Prop := totN M n ≤ T ∧ SB T n
theorem SB.mono {T T' : Nat} {n : Nd} (h : SB T n) (hT : T ≤ T') : SB T' n := ⟨fun h' => h.1 (Nat.le_trans hT h'), h.2⟩
theorem SB.small {T : Nat} {n : Nd} (h : n.data.size ≤ 1100) (hi : n.items.length ≤ 1000) : SB T n := ⟨fun _ => h, fun _ => Nat.le_trans h (by decide), hi⟩
/-- some node, of so many levels, so great at most, the drawer gone on. -/
def NdP (M T : Nat) (R k : Nat) (w : World) (e : Ending) (w' : World) : Prop := ∃ (n : Nd) (h : Hd), e = .returned (.agg #[.int .i64 n.kind, .string n.data, .slice h.A n.ptrs.length h.a, .int .i64 n.size, .int .i64 n.count, .slice h.B n.items.length h.b]) ∧ NdAt w' (FromC w' w.heap.size) M n h ∧ TB M n T ∧ Picked w R k w'
set_option maxHeartbeats 4000000 in
set_option maxRecDepth 100000 in
theorem l13List_any (R n : Nat) (w : World) (h : Rd w R n) (hn : n ≤ 800000) :
    Calls Try.prog 65 #[.pointer (some ⟨R, 0, none⟩)] w (NdP 0 1001 R (n + 40) w) := by
  have hRw := h.lt
  have hq0 := h.self.below ((Below.refl w.heap.size w).alloc (Nat.le_refl _) (.cells #[.int .i64 0, .string { data := #[] }, .slice none 0 0, .int .i64 0, .int .i64 0, .slice none 0 0] nodeT))
  have hr0 := heap_alloc_new w (.cells #[.int .i64 0, .string { data := #[] }, .slice none 0 0, .int .i64 0, .int .i64 0, .slice none 0 0] nodeT)
  have HQ0 := Lib.hid hq0
  have HR0 := Lib.hid hr0
  clear h hq0 hr0
  go_enter Try.func65, Try.ntmps65
  go_wp2_with fail
  refine (pick_any R n _ _ HQ0.out.1 (by omega)).mono ?_
  rintro e w1 ⟨s, ⟨hs0, hs1⟩, rfl, hp1⟩
  have HQ1 := Lib.hid (HQ0.out.then hp1)
  have HR1 := Lib.hid (pick_rowN HR0.out hp1 (by omega))
  have hs5 : s ≤ 5 := by omega
  clear hp1 hs1
  go_wp2_with fail
  refine (pick_any R (n + 1) _ _ HQ1.out.1 (by omega)).mono ?_
  rintro e w2 ⟨c, ⟨hc0, hc1⟩, rfl, hp2⟩
  have HQ2 := Lib.hid (HQ1.out.then hp2)
  have HR2 := Lib.hid (pick_rowN HR1.out hp2 (by omega))
  have hc11 : c ≤ 11 := by omega
  clear hp2 hc1
  have hq3 := HQ2.out.below ((Below.refl w2.heap.size w2).alloc (Nat.le_refl _) (.cells #[.int .i64 2, .string { data := #[] }, .slice none 0 0, .int .i64 s, .int .i64 c, .slice none 0 0] nodeT))
  have HQ3 := Lib.hid hq3
  have HB3 := Lib.hid (heap_alloc_new w2 (.cells #[.int .i64 2, .string { data := #[] }, .slice none 0 0, .int .i64 s, .int .i64 c, .slice none 0 0] nodeT))
  have hlt2 := row_lt HR2.out
  have hwl2 := HQ2.out.2.size
  have hRl := HQ2.out.1.lt
  have HR3 := Lib.hid ((Below.heap_alloc w2 (.cells #[.int .i64 2, .string { data := #[] }, .slice none 0 0, .int .i64 s, .int .i64 c, .slice none 0 0] nodeT) _ hlt2).trans HR2.out)
  clear hq3
  go_wp2_with fail
  refine (l13Words_any R (n + 2) 12 _ HQ3.out.1 (by omega) (by decide)).mono ?_
  rintro e w4 ⟨u, ⟨j, hj, hju⟩, rfl, hp4⟩
  have HQ4 := Lib.hid (HQ3.out.then hp4)
  have hr4 := pick_rowN HR3.out hp4 (by omega)
  have hb4 := pick_rowN HB3.out hp4 (by omega)
  have HR4 := Lib.hid hr4
  have HB4 := Lib.hid hb4
  have HJ := Lib.hid hju
  obtain ⟨c0, c1, c2, c3, c4, c5⟩ := cells6 hb4
  clear hp4 hju hr4 hb4
  go_wp2_with fail
  refine (l1Many_any ⟨#[5]⟩ 96 _ (by decide) (by decide) (by decide) (by decide)).mono ?_
  rintro e w5 ⟨rfl, rfl⟩
  have hrs : (⟨(repL (⟨#[5]⟩ : ByteArray).data.toList (Int.toNat 96)).toArray⟩ : ByteArray).size = 96 := by rw [rep8]; rfl
  generalize (⟨(repL (⟨#[5]⟩ : ByteArray).data.toList (Int.toNat 96)).toArray⟩ : ByteArray) = rp at *
  have hts : (u ++ rp).size = 8 * j + 96 := by rw [getD_size, HJ.out, hrs]
  have f1 : ¬ 9223372036854775807 < u.size + rp.size := by have := HJ.out; omega
  have HTX := Lib.hid hts
  clear hrs hts
  go_wp2_with fail
  have hts := HTX.out
  generalize u ++ rp = tx at *
  refine (l4Cut_a tx s c _ hs0 hs5 hc0 hc11 (by omega) (by omega)).mono ?_
  rintro e w6 ⟨dd, hdd, rfl, hb6⟩
  have HQ6 := Lib.hid (HQ4.out.below hb6)
  have hr6 := (hb6.block _ (row_lt HR4.out)).trans HR4.out
  have hx6 := (hb6.block _ (row_lt HB4.out)).trans HB4.out
  have HX6 := Lib.hid hx6
  have HR6 := Lib.hid hr6
  have HDD := Lib.hid hdd
  clear c0 c1 c2 c3 c4 c5 hts f1 hb6 hdd
  obtain ⟨c0, c1, c2, c3, c4, c5⟩ := cells6 hx6
  have cf := row_free hx6
  have hz0 : ∀ v k, (w6.setCell ⟨w2.heap.size, 1, none⟩ v).cell? ⟨w.heap.size, k, none⟩ = (#[.int .i64 0, .string { data := #[] }, .slice none 0 0, .int .i64 0, .int .i64 0, .slice none 0 0] : Array Value)[k]? := fun v k => cell_of_row _ _ _ _ _ _ ((Below.heap_setCell w6 ⟨w2.heap.size, 1, none⟩ v w.heap.size (by simp; omega)).trans hr6)
  have hzf : ∀ v k, (w6.setCell ⟨w2.heap.size, 1, none⟩ v).frozen? ⟨w.heap.size, k, none⟩ = false := fun v k => row_free ((Below.heap_setCell w6 ⟨w2.heap.size, 1, none⟩ v w.heap.size (by simp; omega)).trans hr6) k
  clear hx6 hr6
  go_wp2_with fail
  obtain ⟨wf, hwf, hrw, hpw, huw⟩ := store6 (w1 := w6.setCell ⟨w2.heap.size, 1, none⟩ (.string dd)) (b := w.heap.size) ((Below.heap_setCell w6 ⟨w2.heap.size, 1, none⟩ (.string dd) w.heap.size (by simp; omega)).trans HR6.out) (picked_storeN HQ6.out hRw (by omega) 1 (.string dd)) hRw (Nat.le_refl _) (.int .i64 2) (.string dd) (.slice none 0 0) (.int .i64 s) (.int .i64 c) (.slice none 0 0)
  rw [hwf]
  obtain ⟨e0, e1, e2, e3, e4, e5⟩ := cells6 hrw
  exact bodyPost_ret (v := .agg #[.int .i64 2, .string dd, .slice none 0 0, .int .i64 s, .int .i64 c, .slice none 0 0])
    (by simp [results, Try.results65, go_sem, e0, e1, e2, e3, e4, e5]) rfl
    ⟨.mk 2 dd [] s c [], ⟨none, 0, none, 0⟩, rfl, ⟨by show dd.size ≤ maxLen; have := HDD.out; unfold maxLen; omega, rfl, rfl⟩, ⟨by show dd.size + 0 + 0 ≤ 1001; exact HDD.out, SB.small (by show dd.size ≤ 1100; have := HDD.out; omega) (show (0 : Nat) ≤ 1000 by decide)⟩, hpw.mono (by omega)⟩
end Go.Proofs.Ytfiiopchfmcjdaa
