/- The laws' own equality of nodes: a node is equal to its like. -/
import Derived.Test.YtfiiopchfmcjdaaNdTo
namespace Go.Proofs.Ytfiiopchfmcjdaa
open Go.RowKit
def EqS (m : Nat) : Prop := ∀ (A B : Option Addr) (c c' : Nat) (l : List Nd) (w : World) (S S' : Nat → Prop), NdsAt w S m A l → NdsAt w S' m B l → l.length ≤ 2000000 → totL m l ≤ 2000000 →
  Calls Try.prog 39 #[.slice A l.length c, .slice B l.length c'] w fun e w' => e = .returned (.bool true) ∧ Below w.heap.size w w'
def EqN (m : Nat) : Prop := ∀ (n : Nd) (h h' : Hd) (w : World) (S S' : Nat → Prop), NdAt w S m n h → NdAt w S' m n h' → totN m n ≤ 2000000 →
  Calls Try.prog 19 #[.agg #[.int .i64 n.kind, .string n.data, .slice h.A n.ptrs.length h.a, .int .i64 n.size, .int .i64 n.count, .slice h.B n.items.length h.b], .agg #[.int .i64 n.kind, .string n.data, .slice h'.A n.ptrs.length h'.a, .int .i64 n.size, .int .i64 n.count, .slice h'.B n.items.length h'.b]] w fun e w' => e = .returned (.bool true) ∧ Below w.heap.size w w'
theorem totL_len' {w : World} {S : Nat → Prop} {m : Nat} {A : Option Addr} {l : List Nd} (h : NdsAt w S m A l) (ht : totL m l ≤ 2000000) : l.length ≤ 2000000 := by
  cases m with
  | zero => rw [h.zero]; decide
  | succ m => exact Nat.le_trans (totL_len m l) ht
set_option maxHeartbeats 4000000 in
set_option maxRecDepth 100000 in
theorem eqN_of (m : Nat) (hS : EqS m) : EqN m := by
  intro n h h' w S S' hn hn' ht
  have HS := Lib.hid hS
  have hba : Below w.heap.size w ((w.alloc (.cells #[.int .i64 n.kind, .string n.data, .slice h.A n.ptrs.length h.a, .int .i64 n.size, .int .i64 n.count, .slice h.B n.items.length h.b] nodeT)).alloc (.cells #[.int .i64 n.kind, .string n.data, .slice h'.A n.ptrs.length h'.a, .int .i64 n.size, .int .i64 n.count, .slice h'.B n.items.length h'.b] nodeT)) := ((Below.refl _ _).alloc (Nat.le_refl _) _).alloc (by simp) _
  have k1 : ((w.alloc (.cells #[.int .i64 n.kind, .string n.data, .slice h.A n.ptrs.length h.a, .int .i64 n.size, .int .i64 n.count, .slice h.B n.items.length h.b] nodeT)).alloc (.cells #[.int .i64 n.kind, .string n.data, .slice h'.A n.ptrs.length h'.a, .int .i64 n.size, .int .i64 n.count, .slice h'.B n.items.length h'.b] nodeT)).heap[w.heap.size]? = some (.cells #[.int .i64 n.kind, .string n.data, .slice h.A n.ptrs.length h.a, .int .i64 n.size, .int .i64 n.count, .slice h.B n.items.length h.b] nodeT (0, 0)) := (Below.heap_alloc _ _ _ (by simp)).trans (heap_alloc_new w _)
  have k2 : ((w.alloc (.cells #[.int .i64 n.kind, .string n.data, .slice h.A n.ptrs.length h.a, .int .i64 n.size, .int .i64 n.count, .slice h.B n.items.length h.b] nodeT)).alloc (.cells #[.int .i64 n.kind, .string n.data, .slice h'.A n.ptrs.length h'.a, .int .i64 n.size, .int .i64 n.count, .slice h'.B n.items.length h'.b] nodeT)).heap[w.heap.size + 1]? = some (.cells #[.int .i64 n.kind, .string n.data, .slice h'.A n.ptrs.length h'.a, .int .i64 n.size, .int .i64 n.count, .slice h'.B n.items.length h'.b] nodeT (0, 0)) := by have := heap_alloc_new (w.alloc (.cells #[.int .i64 n.kind, .string n.data, .slice h.A n.ptrs.length h.a, .int .i64 n.size, .int .i64 n.count, .slice h.B n.items.length h.b] nodeT)) (.cells #[.int .i64 n.kind, .string n.data, .slice h'.A n.ptrs.length h'.a, .int .i64 n.size, .int .i64 n.count, .slice h'.B n.items.length h'.b] nodeT); rwa [show (w.alloc (.cells #[.int .i64 n.kind, .string n.data, .slice h.A n.ptrs.length h.a, .int .i64 n.size, .int .i64 n.count, .slice h.B n.items.length h.b] nodeT)).heap.size = w.heap.size + 1 by simp] at this
  have HN := Lib.hid (hn.below hba)
  have HN' := Lib.hid (hn'.below hba)
  have hts : ((w.alloc (.cells #[.int .i64 n.kind, .string n.data, .slice h.A n.ptrs.length h.a, .int .i64 n.size, .int .i64 n.count, .slice h.B n.items.length h.b] nodeT)).alloc (.cells #[.int .i64 n.kind, .string n.data, .slice h'.A n.ptrs.length h'.a, .int .i64 n.size, .int .i64 n.count, .slice h'.B n.items.length h'.b] nodeT)).heap.size = w.heap.size + 2 := by simp
  have t1 : totL m n.ptrs ≤ 2000000 := by unfold totN at ht; omega
  have t2 : totL m n.items ≤ 2000000 := by unfold totN at ht; omega
  have HT := Lib.hid (And.intro (And.intro (totL_len' hn.2.1 t1) t1) (And.intro (totL_len' hn.2.2 t2) t2))
  have HBA := Lib.hid hba
  have HK1 := Lib.hid k1
  have HK2 := Lib.hid k2
  have HTS := Lib.hid hts
  clear hS hn hn' hba t1 t2 ht k1 k2 hts
  go_enter Try.func19, Try.ntmps19
  go_wp2_with fail
  generalize ((w.alloc (.cells #[.int .i64 n.kind, .string n.data, .slice h.A n.ptrs.length h.a, .int .i64 n.size, .int .i64 n.count, .slice h.B n.items.length h.b] nodeT)).alloc (.cells #[.int .i64 n.kind, .string n.data, .slice h'.A n.ptrs.length h'.a, .int .i64 n.size, .int .i64 n.count, .slice h'.B n.items.length h'.b] nodeT)) = W at *
  refine (HS.out h.A h'.A h.a h'.a n.ptrs W S S' HN.out.2.1 HN'.out.2.1 HT.out.1.1 HT.out.1.2).mono ?_
  rintro e w1 ⟨rfl, hb1⟩
  have HB1 := Lib.hid hb1
  obtain ⟨a0, a1, a2, a3, a4, a5⟩ := cells6 ((hb1.block _ (by have := HTS.out; omega)).trans HK1.out)
  obtain ⟨b0, b1, b2, b3, b4, b5⟩ := cells6 ((hb1.block _ (by have := HTS.out; omega)).trans HK2.out)
  clear hb1
  go_wp2_with fail
  refine (HS.out h.B h'.B h.b h'.b n.items w1 S S' (HN.out.below HB1.out).2.2 (HN'.out.below HB1.out).2.2 HT.out.2.1 HT.out.2.2).mono ?_
  rintro e w2 ⟨rfl, hb2⟩
  have HB2 := Lib.hid (HBA.out.trans ((HB1.out.trans (hb2.mono HB1.out.size)).mono (by have := HTS.out; omega)))
  clear hb2
  go_wp2
  go_ret
  exact ⟨rfl, HB2.out⟩
theorem eqS_zero : EqS 0 := by
  intro A B c c' l w S S' hl hl' h1 h2
  obtain rfl := hl.zero
  clear h1 h2
  go_enter Try.func39, Try.ntmps39
  go_wp2
  go_loop [5] (fun i => i = .int .i64 0) (fun _ => 0)
  case atStart => rfl
  case round =>
    obtain rfl := hrel
    go_wp2
    go_ret
    exact ⟨rfl, Below.refl _ _⟩
set_option maxHeartbeats 4000000 in
set_option maxRecDepth 100000 in
theorem eqS_succ (m : Nat) (hN : EqN m) : EqS (m + 1) := by
  intro A B c c' l w S S' h h' hlm ht
  have HF := Lib.hid h
  have HG := Lib.hid h'
  have HT : Hid (∀ k (h : k < l.length), totN m l[k] ≤ 2000000) := Lib.hid fun k h => by have := totL_at (m := m) h; omega
  have HN := Lib.hid hN
  clear h h' hN ht
  go_enter Try.func39, Try.ntmps39
  go_wp2
  go_loopw [5] (fun i wr => ∃ k : Nat, i = .int .i64 k ∧ k ≤ l.length ∧ Hid (Below w.heap.size w wr)) (fun i _ => l.length - (intOf i).toNat)
  case atStart => exact ⟨0, rfl, by omega, Lib.hid (Below.refl _ _)⟩
  case round =>
    obtain ⟨k, rfl, hk, HB⟩ := hrel
    by_cases hlt : k < l.length
    · obtain ⟨x, hx, rfl, cx, nx⟩ := (HF.out.below HB.out).at_ hlt
      obtain ⟨y, hy, rfl, cy, ny⟩ := (HG.out.below HB.out).at_ hlt
      have htn := HT.out k hlt
      generalize l[k] = n at cx nx cy ny htn
      have hd1 : Below wr.heap.size wr wr.drew := ⟨rfl, rfl, rfl, Nat.le_refl _, fun _ _ => rfl⟩
      have HP := Lib.hid (HN.out n hx hy wr.drew S S' (nx.below hd1) (ny.below hd1) htn)
      have hx1 := cx.lt
      have hx2 := cy.lt
      obtain ⟨c0, c1, c2, c3, c4, c5⟩ := cx
      obtain ⟨d0, d1, d2, d3, d4, d5⟩ := cy
      have hk2 : (k : Int) < (l.length : Int) := by omega
      have hs := HB.out.size
      clear nx ny htn
      go_wp2
      go_region_with (go_at_call 19; refine HP.out.mono ?_; rintro e w2 ⟨rfl, hb2⟩)
      all_goals
        have HB2 := Lib.hid (HB.out.trans ((show Below w.heap.size wr wr.drew from ⟨rfl, rfl, rfl, Nat.le_refl _, fun _ _ => rfl⟩).trans (hb2.mono (by simpa using hs))))
        clear hb2
        go_wp2
        go_roundw
        case rel => exact ⟨k + 1, by go_num, by omega, HB2⟩
        case measure => simp [intOf]; omega
    · obtain rfl : k = l.length := by omega
      go_wp2
      go_ret
      exact ⟨rfl, HB.out⟩
theorem eqS_any : ∀ m, EqS m
  | 0 => eqS_zero
  | m + 1 => eqS_succ m (eqN_of m (eqS_any m))
theorem eqN_any (m : Nat) : EqN m := eqN_of m (eqS_any m)
end Go.Proofs.Ytfiiopchfmcjdaa
