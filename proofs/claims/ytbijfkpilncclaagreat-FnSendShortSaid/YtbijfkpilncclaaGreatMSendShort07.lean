/- Texts of the proof of the law FnSendShort, side by side: part 7. -/
import Derived.Maps.AppendAt
import Derived.Test.YtbijfkpilncclaaGreatMSendShort00
import Derived.Test.YtbijfkpilncclaaGreatMSendShort01
import Derived.Test.YtbijfkpilncclaaGreatMSendShort02
import Derived.Test.YtbijfkpilncclaaGreatMSendShort03
import Derived.Test.YtbijfkpilncclaaGreatMSendShort04
import Derived.Test.YtbijfkpilncclaaGreatMSendShort05
import Derived.Test.YtbijfkpilncclaaGreatMSendShort06
namespace Go.Proofs.YtbijfkpilncclaaGreat
open Go.RowKit
theorem picked_storeN {w w1 : World} {R n b : Nat} (h : Picked w R n w1) (hR : R < w.heap.size) (hb : w.heap.size ≤ b) (i : Nat) (v : Value) : Picked w R n (w1.setCell ⟨b, i, none⟩ v) := by
  obtain ⟨⟨a, l, c, p, hp, hr, hc⟩, hk⟩ := h
  have hs := set_keeps w1.heap.size b w1 i v
  refine ⟨⟨a, l, c, p, hp, (hs.block R (row_lt hr) (by omega)).trans hr, hc.keeps hs (Nat.le_of_lt (row_lt hr)) (by omega)⟩, ?_⟩
  exact ⟨hs.os.trans hk.os, hs.tape.trans hk.tape, hs.output.trans hk.output, Nat.le_trans hk.size hs.size, fun k hk1 hk2 => (hs.block k (Nat.lt_of_lt_of_le hk1 hk.size) (by omega)).trans (hk.block k hk1 hk2)⟩
theorem store6 {w w1 : World} {R n b : Nat} {T : TypeId} {a0 a1 a2 a3 a4 a5 : Value} (h : w1.heap[b]? = some (.cells #[a0, a1, a2, a3, a4, a5] T (0, 0))) (hp : Picked w R n w1) (hR : R < w.heap.size) (hb : w.heap.size ≤ b) (v0 v1 v2 v3 v4 v5 : Value) :
    ∃ wf, ((((((w1.setCell ⟨b, 0, none⟩ v0).setCell ⟨b, 1, none⟩ v1).setCell ⟨b, 2, none⟩ v2).setCell ⟨b, 3, none⟩ v3).setCell ⟨b, 4, none⟩ v4).setCell ⟨b, 5, none⟩ v5) = wf ∧ wf.heap[b]? = some (.cells #[v0, v1, v2, v3, v4, v5] T (0, 0)) ∧ Picked w R n wf ∧ Upon (b + 1) w1 wf :=
  ⟨_, rfl, row_setN (row_setN (row_setN (row_setN (row_setN (row_setN h 0 v0) 1 v1) 2 v2) 3 v3) 4 v4) 5 v5, picked_storeN (picked_storeN (picked_storeN (picked_storeN (picked_storeN (picked_storeN hp hR hb 0 v0) hR hb 1 v1) hR hb 2 v2) hR hb 3 v3) hR hb 4 v4) hR hb 5 v5,
    ((((((Upon.refl (b + 1) w1).setCell (p := ⟨b, 0, none⟩) (by simp) v0).setCell (p := ⟨b, 1, none⟩) (by simp) v1).setCell (p := ⟨b, 2, none⟩) (by simp) v2).setCell (p := ⟨b, 3, none⟩) (by simp) v3).setCell (p := ⟨b, 4, none⟩) (by simp) v4).setCell (p := ⟨b, 5, none⟩) (by simp) v5⟩
theorem pick_rowN {w w1 : World} {R n b : Nat} {o : Obj} (h : w.heap[b]? = some o) (hp : Picked w R n w1) (hne : b ≠ R) : w1.heap[b]? = some o := (hp.2.block b (row_lt h) hne).trans h
def SB (T : Nat) (n : Nd) : Prop := (T ≤ 259259 → n.data.size ≤ 1100) ∧ (n.kind = 2 → n.data.size ≤ 1592) ∧ n.items.length ≤ 1000
def TB (M : Nat) (n : Nd) (T : Nat) : Prop := totN M n ≤ T ∧ SB T n
theorem SB.mono {T T' : Nat} {n : Nd} (h : SB T n) (hT : T ≤ T') : SB T' n := ⟨fun h' => h.1 (Nat.le_trans hT h'), h.2⟩
theorem SB.small {T : Nat} {n : Nd} (h : n.data.size ≤ 1100) (hi : n.items.length ≤ 1000) : SB T n := ⟨fun _ => h, fun _ => Nat.le_trans h (by decide), hi⟩
def NdP (M T : Nat) (R k : Nat) (w : World) (e : Ending) (w' : World) : Prop := ∃ (n : Nd) (h : Hd), e = .returned (.agg #[.int .i64 n.kind, .string n.data, .slice h.A n.ptrs.length h.a, .int .i64 n.size, .int .i64 n.count, .slice h.B n.items.length h.b]) ∧ NdAt w' (FromC w' w.heap.size) M n h ∧ TB M n T ∧ Picked w R k w'
set_option maxHeartbeats 4000000 in
set_option maxRecDepth 100000 in
theorem l13List_any (R n : Nat) (w : World) (h : Rd w R n) (hn : n ≤ 800000) :
    Calls Tryz.prog 120 #[.pointer (some ⟨R, 0, none⟩)] w (NdP 0 1001 R (n + 40) w) := by
  have hRw := h.lt
  have hq0 := h.self.below ((Below.refl w.heap.size w).alloc (Nat.le_refl _) (.cells #[.int .i64 0, .string { data := #[] }, .slice none 0 0, .int .i64 0, .int .i64 0, .slice none 0 0] nodeT))
  have hr0 := heap_alloc_new w (.cells #[.int .i64 0, .string { data := #[] }, .slice none 0 0, .int .i64 0, .int .i64 0, .slice none 0 0] nodeT)
  have HQ0 := Lib.hid hq0
  have HR0 := Lib.hid hr0
  clear h hq0 hr0
  go_enter Tryz.func120, Tryz.ntmps120
  go_wp2_with fail
  refine (pick_any R n _ _ HQ0.out.1 (by omega)).mono ?_
  rintro e w1 ⟨s, ⟨hs0, hs1⟩, rfl, hp1⟩
  have HQ1 := Lib.hid (HQ0.out.then hp1)
  have HR1 := Lib.hid (pick_rowN HR0.out hp1 (by omega))
  have hs5 : s ≤ 5 := by omega
  clear hp1 hs1
  go_wp2_with fail
  refine (pick_any R (n + 1) _ _ HQ1.out.1 (by omega)).mono ?_
  rintro e w2 ⟨c, ⟨hc0, hc1⟩, rfl, hp2⟩
  have HQ2 := Lib.hid (HQ1.out.then hp2)
  have HR2 := Lib.hid (pick_rowN HR1.out hp2 (by omega))
  have hc11 : c ≤ 11 := by omega
  clear hp2 hc1
  have hq3 := HQ2.out.below ((Below.refl w2.heap.size w2).alloc (Nat.le_refl _) (.cells #[.int .i64 2, .string { data := #[] }, .slice none 0 0, .int .i64 s, .int .i64 c, .slice none 0 0] nodeT))
  have HQ3 := Lib.hid hq3
  have HB3 := Lib.hid (heap_alloc_new w2 (.cells #[.int .i64 2, .string { data := #[] }, .slice none 0 0, .int .i64 s, .int .i64 c, .slice none 0 0] nodeT))
  have hlt2 := row_lt HR2.out
  have hwl2 := HQ2.out.2.size
  have hRl := HQ2.out.1.lt
  have HR3 := Lib.hid ((Below.heap_alloc w2 (.cells #[.int .i64 2, .string { data := #[] }, .slice none 0 0, .int .i64 s, .int .i64 c, .slice none 0 0] nodeT) _ hlt2).trans HR2.out)
  clear hq3
  go_wp2_with fail
  refine (l13Words_any R (n + 2) 12 _ HQ3.out.1 (by omega) (by decide)).mono ?_
  rintro e w4 ⟨u, ⟨j, hj, hju⟩, rfl, hp4⟩
  have HQ4 := Lib.hid (HQ3.out.then hp4)
  have hr4 := pick_rowN HR3.out hp4 (by omega)
  have hb4 := pick_rowN HB3.out hp4 (by omega)
  have HR4 := Lib.hid hr4
  have HB4 := Lib.hid hb4
  have HJ := Lib.hid hju
  obtain ⟨c0, c1, c2, c3, c4, c5⟩ := cells6 hb4
  clear hp4 hju hr4 hb4
  go_wp2_with fail
  refine (l1Many_any ⟨#[5]⟩ 96 _ (by decide) (by decide) (by decide) (by decide)).mono ?_
  rintro e w5 ⟨rfl, rfl⟩
  have hrs : (⟨(repL (⟨#[5]⟩ : ByteArray).data.toList (Int.toNat 96)).toArray⟩ : ByteArray).size = 96 := by rw [rep8]; rfl
  generalize (⟨(repL (⟨#[5]⟩ : ByteArray).data.toList (Int.toNat 96)).toArray⟩ : ByteArray) = rp at *
  have hts : (u ++ rp).size = 8 * j + 96 := by rw [getD_size, HJ.out, hrs]
  have f1 : ¬ 9223372036854775807 < u.size + rp.size := by have := HJ.out; omega
  have HTX := Lib.hid hts
  clear hrs hts
  go_wp2_with fail
  have hts := HTX.out
  generalize u ++ rp = tx at *
  refine (l4Cut_a tx s c _ hs0 hs5 hc0 hc11 (by omega) (by omega)).mono ?_
  rintro e w6 ⟨dd, hdd, rfl, hb6⟩
  have HQ6 := Lib.hid (HQ4.out.below hb6)
  have hr6 := (hb6.block _ (row_lt HR4.out)).trans HR4.out
  have hx6 := (hb6.block _ (row_lt HB4.out)).trans HB4.out
  have HX6 := Lib.hid hx6
  have HR6 := Lib.hid hr6
  have HDD := Lib.hid hdd
  clear c0 c1 c2 c3 c4 c5 hts f1 hb6 hdd
  obtain ⟨c0, c1, c2, c3, c4, c5⟩ := cells6 hx6
  have cf := row_free hx6
  have hz0 : ∀ v k, (w6.setCell ⟨w2.heap.size, 1, none⟩ v).cell? ⟨w.heap.size, k, none⟩ = (#[.int .i64 0, .string { data := #[] }, .slice none 0 0, .int .i64 0, .int .i64 0, .slice none 0 0] : Array Value)[k]? := fun v k => cell_of_row _ _ _ _ _ _ ((Below.heap_setCell w6 ⟨w2.heap.size, 1, none⟩ v w.heap.size (by simp; omega)).trans hr6)
  have hzf : ∀ v k, (w6.setCell ⟨w2.heap.size, 1, none⟩ v).frozen? ⟨w.heap.size, k, none⟩ = false := fun v k => row_free ((Below.heap_setCell w6 ⟨w2.heap.size, 1, none⟩ v w.heap.size (by simp; omega)).trans hr6) k
  clear hx6 hr6
  go_wp2_with fail
  obtain ⟨wf, hwf, hrw, hpw, huw⟩ := store6 (w1 := w6.setCell ⟨w2.heap.size, 1, none⟩ (.string dd)) (b := w.heap.size) ((Below.heap_setCell w6 ⟨w2.heap.size, 1, none⟩ (.string dd) w.heap.size (by simp; omega)).trans HR6.out) (picked_storeN HQ6.out hRw (by omega) 1 (.string dd)) hRw (Nat.le_refl _) (.int .i64 2) (.string dd) (.slice none 0 0) (.int .i64 s) (.int .i64 c) (.slice none 0 0)
  rw [hwf]
  obtain ⟨e0, e1, e2, e3, e4, e5⟩ := cells6 hrw
  exact bodyPost_ret (v := .agg #[.int .i64 2, .string dd, .slice none 0 0, .int .i64 s, .int .i64 c, .slice none 0 0])
    (by simp [results, Tryz.results120, go_sem, e0, e1, e2, e3, e4, e5]) rfl
    ⟨.mk 2 dd [] s c [], ⟨none, 0, none, 0⟩, rfl, ⟨by show dd.size ≤ maxLen; have := HDD.out; unfold maxLen; omega, rfl, rfl⟩, ⟨by show dd.size + 0 + 0 ≤ 1001; exact HDD.out, SB.small (by show dd.size ≤ 1100; have := HDD.out; omega) (show (0 : Nat) ≤ 1000 by decide)⟩, hpw.mono (by omega)⟩
end Go.Proofs.YtbijfkpilncclaaGreat

namespace Go.Proofs.YtbijfkpilncclaaGreat
open Go.RowKit
theorem NdsAt.map' {w w' : World} {S S' : Nat → Prop} (hS : ∀ k, k < w.heap.size → S k → S' k) (hf : ∀ p n h, S p.block → NdCell w p n h → NdCell w' p n h) : ∀ m A l, NdsAt w S m A l → NdsAt w' S' m A l
  | 0, _, _, h => h
  | m + 1, A, l, ⟨hl, q, hq, hc, hr⟩ => by
    refine ⟨hl, q, hq, ?_, fun r h => ⟨(hr r h).1, NdsAt.map' hS hf m _ _ (hr r h).2.1, NdsAt.map' hS hf m _ _ (hr r h).2.2⟩⟩
    rcases hc with hc | ⟨x, hx, hs, hk⟩
    · exact .inl hc
    · cases q with
      | nil => exact .inl rfl
      | cons r t =>
        have hlt := (hk 0 r rfl).lt
        rw [addr_block] at hlt
        exact .inr ⟨x, hx, hS _ hlt hs, fun k r' h => hf _ _ _ (by rw [addr_block]; exact hs) (hk k r' h)⟩
theorem NdAt.map' {w w' : World} {S S' : Nat → Prop} {m : Nat} {n : Nd} {h : Hd} (hS : ∀ k, k < w.heap.size → S k → S' k) (hf : ∀ p n h, S p.block → NdCell w p n h → NdCell w' p n h) (hn : NdAt w S m n h) : NdAt w' S' m n h := ⟨hn.1, NdsAt.map' hS hf _ _ _ hn.2.1, NdsAt.map' hS hf _ _ _ hn.2.2⟩
theorem own_pickedN {w w' : World} {R n base m z : Nat} {e : TypeId} {v : Value} {xs : List Value} (h : w.ownsRow base e z v m xs) (hp : Picked w R n w') (hR : R < base) : w'.ownsRow base e z v m xs := by
  refine h.kept (row := some R) ⟨hp.2.os, hp.2.tape, hp.2.output, hp.2.size, fun k hk hne => hp.2.block k hk (fun e => hne (by rw [e]))⟩ ?_
  by_cases hv : v.ownBlock = none
  · exact .inl hv
  · refine .inr (fun e => ?_)
    have := (h.lt R (by rw [e])).1
    omega
theorem step_append_nd {ops : Array Oper} {o : Oper} {a : Act} {w : World} {K : Act → World → Prop} {Q : Exit → Act → World → Prop} {E : Prop} (hgd : o.guard = none) (s x : Operand)
    (ho : o.op = .call { callee := .builtin .append, args := #[s, x], argTypes := #[nodesT, nodesT] })
    (base : Nat) (v : Value) (n : Nat) (xs : List Value) (hs : a.eval s = v) (hown : w.ownsRow base nodeT 6 v n xs)
    (ad : Addr) (c : Nat) (r : Nd × Hd) (hx : a.eval x = .slice (some ad) 1 c) (hnews : ∀ j u, (rowOf [r])[j]? = some u → w.cell? (ad.add j) = some u) (hn : n ≤ 1000) (hbase : base ≤ w.heap.size)
    (h : ∀ A' c' w', Hid (w'.ownsRow base nodeT 6 (.slice A' (n + 1) c') (n + 1) (xs ++ rowOf [r])) → Hid (w.grownBy w' v.ownBlock) → Hid ((Value.slice A' (n + 1) c').ownBlock = v.ownBlock ∨ (Value.slice A' (n + 1) c').ownBlock = some w.heap.size) → K (a.put o.dst (.slice A' (n + 1) c')) w') :
    if Region.wanted o (yielded ops a.tmps) = true then Oper.wp Tryz.prog o a w K Q else E := by
  have hw : Region.wanted o (yielded ops a.tmps) = true := by simp [Region.wanted, hgd]
  rw [if_pos hw]
  obtain ⟨i0, hi, hz0, hz1, hz2⟩ := info_parts infoNd
  obtain ⟨v', w', hr, h2, h3, _, h5⟩ := run_append_own_at (P := Tryz.prog) w base nodesT o.type nodeT i0 _ 6 88 Tryz.underlying28 hi hz0 hz1 hz2 rfl (by decide) v n xs hown ad 1 c (rowOf [r]) rfl hnews (rowOf_one _) (by unfold maxLen; omega) (by omega) hbase
  obtain ⟨A', c', rfl⟩ := own_sliceN h2
  unfold Oper.wp execOp
  simp only [ho, resolve, invoke, builtin, Sem.run_bind, Sem.run_pure, Result.andThen_ok, List.map_toArray, List.map_cons, List.map_nil, hs, hx, hr]
  exact h A' c' w' h2 h3 h5
theorem cells_six_new (w : World) (r : Nd × Hd) (t : TypeId) : ∀ j u, (rowOf [r])[j]? = some u → (w.alloc (.cells #[.int .i64 r.1.kind, .string r.1.data, .slice r.2.A r.1.ptrs.length r.2.a, .int .i64 r.1.size, .int .i64 r.1.count, .slice r.2.B r.1.items.length r.2.b] t)).cell? ((⟨w.heap.size, 0, none⟩ : Addr).add j) = some u := by
  intro j u hj
  rw [add_zero0, cell_of_row _ _ _ _ _ (0, 0) (heap_alloc_new w _)]
  simp only [rowOf] at hj
  match j, hj with
  | 0, hj => simpa using hj
  | 1, hj => simpa using hj
  | 2, hj => simpa using hj
  | 3, hj => simpa using hj
  | 4, hj => simpa using hj
  | 5, hj => simpa using hj
end Go.Proofs.YtbijfkpilncclaaGreat

namespace Go.Proofs.YtbijfkpilncclaaGreat
open Go.RowKit Go.Deep
def NRowC (w : World) (B : Nat) (v : Value) (q : List (Nd × Hd)) (M T : Nat) : Prop :=
  w.ownsRow B nodeT 6 v q.length (rowOf q) ∧ ∀ r ∈ q, NdAt w (fun k => FromC w B k ∧ some k ≠ v.ownBlock) M r.1 r.2 ∧ totN M r.1 ≤ T
theorem NRowC.nil (w : World) (B M T : Nat) : NRowC w B (.slice none 0 0) [] M T := ⟨World.ownsRow_nil _ _ _ _, fun r h => by cases h⟩
theorem NRowC.picked {w w' : World} {B M T R n : Nat} {v : Value} {q : List (Nd × Hd)} (h : NRowC w B v q M T) (hp : Picked w R n w') (hR : R < B) : NRowC w' B v q M T :=
  ⟨own_pickedN h.1 hp hR, fun r hr => ⟨(h.2 r hr).1.map' (fun k hk hs => ⟨⟨hs.1.1, clean_of hs.1.2 (hp.2.block k hk (by have := hs.1.1; omega))⟩, hs.2⟩) (fun p _ _ hs hc => hc.block (hp.2.block _ hc.lt (by have := hs.1.1; omega))), (h.2 r hr).2⟩⟩
theorem NRowC.store {w : World} {B M T g i : Nat} {u v : Value} {q : List (Nd × Hd)} (h : NRowC w B v q M T) (hg : g < B) : NRowC (w.setCell ⟨g, i, none⟩ u) B v q M T :=
  ⟨ownsRow_setCell_below h.1 hg u, fun r hr => ⟨(h.2 r hr).1.map' (fun k hk hs => ⟨⟨hs.1.1, clean_set hs.1.2 _ _⟩, hs.2⟩) (fun p _ _ hs hc => hc.block (Below.heap_setCell w ⟨g, i, none⟩ u _ (by have := hs.1.1; show p.block ≠ g; omega))), (h.2 r hr).2⟩⟩
theorem NRowC.drew {w : World} {B M T : Nat} {v : Value} {q : List (Nd × Hd)} (h : NRowC w B v q M T) : NRowC w.drew B v q M T :=
  ⟨h.1.drew, fun r hr => ⟨(h.2 r hr).1.below ⟨rfl, rfl, rfl, Nat.le_refl _, fun _ _ => rfl⟩, (h.2 r hr).2⟩⟩
theorem NRowC.low {w w' : World} {B M T : Nat} {v : Value} {q : List (Nd × Hd)} (h : NRowC w B v q M T) (hb : Below w.heap.size w w') : NRowC w' B v q M T :=
  ⟨h.1.kept (row := none) ⟨hb.os, hb.tape, hb.output, hb.size, fun k hk _ => hb.block k hk⟩ (by
    by_cases hv : v.ownBlock = none
    · exact .inl hv
    · exact .inr (fun e => hv e)), fun r hr => ⟨((h.2 r hr).1.below hb).weak (fun k hs => ⟨⟨hs.1.1, clean_low hs.1.2 hb⟩, hs.2⟩), (h.2 r hr).2⟩⟩
theorem NRowC.alloc {w : World} {B M T : Nat} {v : Value} {q : List (Nd × Hd)} (h : NRowC w B v q M T) (o : Obj) : NRowC (w.alloc o) B v q M T := h.low ((Below.refl _ _).alloc (Nat.le_refl _) o)
theorem NRowC.next {w3 w4 : World} {B H M T : Nat} {v v' : Value} {q : List (Nd × Hd)} {y : Nd} {hy : Hd} (h : NRowC w3 B v q M T) (hny : NdAt w3 (FromC w3 H) M y hy) (hty : totN M y ≤ T) (hBH : B ≤ H) (hvH : ∀ k, v.ownBlock = some k → k < H)
    (hown : w4.ownsRow B nodeT 6 v' (q.length + 1) (rowOf q ++ rowOf [(y, hy)])) (hgrow : w3.grownBy w4 v.ownBlock) (hat : v'.ownBlock = v.ownBlock ∨ v'.ownBlock = some w3.heap.size) : NRowC w4 B v' (q ++ [(y, hy)]) M T := by
  have hS : ∀ k, k < w3.heap.size → (FromC w3 B k ∧ some k ≠ v.ownBlock) → (FromC w4 B k ∧ some k ≠ v'.ownBlock) := fun k hk ⟨h1, h2⟩ => ⟨⟨h1.1, clean_of h1.2 (hgrow.block k hk h2)⟩, by
    rcases hat with h | h
    · rw [h]; exact h2
    · rw [h]; intro e; injection e with e; omega⟩
  refine ⟨by rw [List.length_append, rowOf_app]; exact hown, fun r hr => ?_⟩
  rcases List.mem_append.1 hr with hr | hr
  · exact ⟨(h.2 r hr).1.map' hS (fun p _ _ hs hc => hc.block (hgrow.block _ hc.lt hs.2)), (h.2 r hr).2⟩
  · obtain rfl := List.mem_singleton.1 hr
    have h1 : NdAt w3 (fun k => FromC w3 B k ∧ some k ≠ v.ownBlock) M y hy := hny.weak (fun k hk => ⟨⟨Nat.le_trans hBH hk.1, hk.2⟩, fun e => by have := hvH k e.symm; have := hk.1; omega⟩)
    exact ⟨h1.map' hS (fun p _ _ hs hc => hc.block (hgrow.block _ hc.lt hs.2)), hty⟩
theorem NRowC.nds {w : World} {B M T : Nat} {v : Value} {q : List (Nd × Hd)} (h : NRowC w B v q M T) (hq : q.length ≤ 1000000) : ∃ A cap, v = .slice A q.length cap ∧ NdsAt w (FromC w B) (M + 1) A (q.map (·.1)) ∧ totL (M + 1) (q.map (·.1)) ≤ q.length * (1 + T) := by
  obtain ⟨A, cap, hv, hn⟩ := nds_of_ownC h.1 (by unfold maxLen; omega) (fun r hr => (h.2 r hr).1.weak (fun _ h => h.1))
  refine ⟨A, cap, hv, hn, ?_⟩
  rw [totL_succ]
  have : ∀ q : List (Nd × Hd), (∀ r ∈ q, totN M r.1 ≤ T) → ((q.map (·.1)).map fun n => 1 + totN M n).sum ≤ q.length * (1 + T) := by
    intro q
    induction q with
    | nil => intro _; simp
    | cons a t ih =>
      intro hq
      have h1 := hq a List.mem_cons_self
      have h2 := ih (fun r hr => hq r (List.mem_cons_of_mem _ hr))
      simp only [List.map_cons, List.sum_cons, List.length_cons, Nat.add_mul]
      omega
  exact this q (fun r hr => (h.2 r hr).2)
end Go.Proofs.YtbijfkpilncclaaGreat

namespace Go.Proofs.YtbijfkpilncclaaGreat
open Go.RowKit
end Go.Proofs.YtbijfkpilncclaaGreat

namespace Go.Proofs.YtbijfkpilncclaaGreat
open Go.RowKit
end Go.Proofs.YtbijfkpilncclaaGreat

namespace Go.Proofs.YtbijfkpilncclaaGreat
open Go.RowKit
structure OnlyIn (bs : List Nat) (w w' : World) : Prop where
  os : w'.os = w.os
  tape : w'.tape = w.tape
  output : w'.output = w.output
  size : w.heap.size ≤ w'.heap.size
  block : ∀ k, k < w.heap.size → k ∉ bs → w'.heap[k]? = w.heap[k]?
end Go.Proofs.YtbijfkpilncclaaGreat
