/- The laws' own sizes of nodes. -/
import Derived.Test.YtfiiopchfmcjdaaNd
import Derived.Deep.RegionWith
namespace Go.Proofs.Ytfiiopchfmcjdaa
open Go.RowKit
theorem cells6 {w : World} {g : Nat} {v0 v1 v2 v3 v4 v5 : Value} {T : TypeId} (h : w.heap[g]? = some (.cells #[v0, v1, v2, v3, v4, v5] T (0, 0))) :
    w.cell? ⟨g, 0, none⟩ = some v0 ∧ w.cell? ⟨g, 1, none⟩ = some v1 ∧ w.cell? ⟨g, 2, none⟩ = some v2 ∧ w.cell? ⟨g, 3, none⟩ = some v3 ∧ w.cell? ⟨g, 4, none⟩ = some v4 ∧ w.cell? ⟨g, 5, none⟩ = some v5 := by
  refine ⟨?_, ?_, ?_, ?_, ?_, ?_⟩ <;> (rw [cell_of_row _ _ _ _ _ _ h]; rfl)
/-- how much is in nodes side by side: a place each, their bytes, and what is within, so many levels down. -/
def totL : Nat → List Nd → Nat
  | 0, _ => 0
  | m + 1, l => (l.map fun n => 1 + (n.data.size + totL m n.ptrs + totL m n.items)).sum
def totN (m : Nat) (n : Nd) : Nat := n.data.size + totL m n.ptrs + totL m n.items
theorem totL_succ (m : Nat) (l : List Nd) : totL (m + 1) l = (l.map fun n => 1 + totN m n).sum := rfl
theorem sum_take_succ (l : List Nd) (f : Nd → Nat) (k : Nat) (h : k < l.length) : ((l.take (k + 1)).map f).sum = ((l.take k).map f).sum + f l[k] := by
  rw [List.take_succ_eq_append_getElem h, List.map_append, List.sum_append]; simp
theorem sum_take_le (l : List Nd) (f : Nd → Nat) (k : Nat) : ((l.take k).map f).sum ≤ (l.map f).sum := by
  conv => rhs; rw [← List.take_append_drop k l, List.map_append, List.sum_append]
  omega
theorem sum_one (l : List Nd) (f : Nd → Nat) : (l.map fun n => 1 + f n).sum = l.length + (l.map f).sum := by
  induction l with
  | nil => rfl
  | cons a t ih => simp only [List.map_cons, List.sum_cons, List.length_cons, ih]; omega
theorem totL_at {m : Nat} {l : List Nd} {k : Nat} (h : k < l.length) : 1 + totN m l[k] ≤ totL (m + 1) l := by
  have h1 := sum_take_succ l (fun n => 1 + totN m n) k h
  have h2 := sum_take_le l (fun n => 1 + totN m n) (k + 1)
  rw [totL_succ]
  omega
theorem totL_len (m : Nat) (l : List Nd) : l.length ≤ totL (m + 1) l := by
  rw [totL_succ, sum_one]; omega
/-- what the sizes' functions answer. -/
def szR (left : Int) (t : Nat) : Int := if left < t then -1 else left - t
theorem szR_neg {left : Int} {t : Nat} (h : left < t) : szR left t = -1 := if_pos h
theorem szR_pos {left : Int} {t : Nat} (h : (t : Int) ≤ left) : szR left t = left - t := if_neg (by omega)
def SzS (m : Nat) : Prop := ∀ (A : Option Addr) (c : Nat) (l : List Nd) (w : World) (left : Int) (S : Nat → Prop), NdsAt w S m A l → 0 ≤ left → left ≤ 2000000 →
  Calls Try.prog 36 #[.slice A l.length c, .int .i64 left] w fun e w' => e = .returned (.int .i64 (szR left (totL m l))) ∧ Below w.heap.size w w'
def SzN (m : Nat) : Prop := ∀ (n : Nd) (h : Hd) (w : World) (left : Int) (S : Nat → Prop), NdAt w S m n h → 0 ≤ left → left ≤ 2000000 →
  Calls Try.prog 16 #[.agg #[.int .i64 n.kind, .string n.data, .slice h.A n.ptrs.length h.a, .int .i64 n.size, .int .i64 n.count, .slice h.B n.items.length h.b], .int .i64 left] w fun e w' => e = .returned (.int .i64 (szR left (totN m n))) ∧ Below w.heap.size w w'
set_option maxHeartbeats 2000000 in
theorem szN_of (m : Nat) (hS : SzS m) : SzN m := by
  intro n h w left S hn h0 h1
  have hdm := hn.1
  have HS := Lib.hid hS
  have HN := Lib.hid (hn.below ((Below.refl _ w).alloc (Nat.le_refl _) (.cells #[.int .i64 n.kind, .string n.data, .slice h.A n.ptrs.length h.a, .int .i64 n.size, .int .i64 n.count, .slice h.B n.items.length h.b] 35)))
  have HR := Lib.hid (heap_alloc_new w (.cells #[.int .i64 n.kind, .string n.data, .slice h.A n.ptrs.length h.a, .int .i64 n.size, .int .i64 n.count, .slice h.B n.items.length h.b] 35))
  have HB := Lib.hid ((Below.refl w.heap.size w).alloc (Nat.le_refl _) (.cells #[.int .i64 n.kind, .string n.data, .slice h.A n.ptrs.length h.a, .int .i64 n.size, .int .i64 n.count, .slice h.B n.items.length h.b] 35))
  have HT : Hid (totN m n = n.data.size + totL m n.ptrs + totL m n.items) := Lib.hid rfl
  unfold maxLen at hdm
  clear hS hn
  by_cases c1 : left - (n.data.size : Int) < 0
  · have HE := Lib.hid (szR_neg (left := left) (t := totN m n) (by rw [HT.out]; omega))
    go_enter Try.func16, Try.ntmps16
    go_wp2
    go_ret
    exact ⟨by rw [HE.out]; rfl, HB.out⟩
  have c1' : 0 ≤ left - (n.data.size : Int) := by omega
  have HP := Lib.hid (HS.out h.A h.a n.ptrs _ (left - (n.data.size : Int)) S HN.out.2.1 c1' (by omega))
  by_cases c2 : left - (n.data.size : Int) < (totL m n.ptrs : Int)
  · have HE := Lib.hid (szR_neg (left := left) (t := totN m n) (by rw [HT.out]; omega))
    rw [szR_neg c2] at HP
    go_enter Try.func16, Try.ntmps16
    go_wp2_with fail
    refine HP.out.mono ?_
    rintro e w1 ⟨rfl, hb1⟩
    have HB1 := Lib.hid (HB.out.trans (hb1.mono (by simp)))
    clear hb1
    go_wp2
    go_ret
    exact ⟨by rw [HE.out]; rfl, HB1.out⟩
  rw [szR_pos (by omega)] at HP
  have c2' : 0 ≤ left - (n.data.size : Int) - (totL m n.ptrs : Int) := by omega
  obtain ⟨left2, hl2⟩ : ∃ z, z = left - (n.data.size : Int) - (totL m n.ptrs : Int) := ⟨_, rfl⟩
  rw [← hl2] at HP c2'
  have h2 : left2 ≤ 2000000 := by omega
  have HL2 := Lib.hid hl2
  clear hl2 c2
  have HQ := Lib.hid (fun (W : World) hb => HS.out h.B h.b n.items W left2 S ((HN.out.2.2).below (w' := W) hb) c2' h2)
  by_cases c3 : left2 < (totL m n.items : Int)
  all_goals
    first
    | (have HE := Lib.hid (szR_neg (left := left) (t := totN m n) (by rw [HT.out]; have := HL2.out; omega)); rw [szR_neg c3] at HQ)
    | (have HE := Lib.hid (szR_pos (left := left) (t := totN m n) (by rw [HT.out]; have := HL2.out; omega)); rw [szR_pos (by omega)] at HQ)
    go_enter Try.func16, Try.ntmps16
    go_wp2_with fail
    refine HP.out.mono ?_
    rintro e w1 ⟨rfl, hb1⟩
    obtain ⟨a0, a1, a2, a3, a4, a5⟩ := cells6 ((hb1.block _ (by simp)).trans HR.out)
    have HB1 := Lib.hid hb1
    clear hb1
    go_wp2_with fail
    refine (HQ.out w1 HB1.out).mono ?_
    rintro e w2 ⟨rfl, hb2⟩
    have HB2 := Lib.hid ((HB.out.trans (HB1.out.mono (by simp))).trans (hb2.mono (by have := HB1.out.size; simp at this; omega)))
    clear hb2
    have c3' : True := trivial
    try (have c4 : 0 ≤ left2 - (totL m n.items : Int) := by omega)
    go_wp2
    go_ret
    first
    | exact ⟨by rw [HE.out]; rfl, HB2.out⟩
    | exact ⟨by rw [HE.out, HL2.out, HT.out]; exact ret_int (by omega), HB2.out⟩
theorem szS_zero : SzS 0 := by
  intro A c l w left S hl h0 h1
  obtain rfl := hl.zero
  have HE := Lib.hid (szR_pos (left := left) (t := totL 0 []) (by simpa [totL] using h0))
  go_enter Try.func36, Try.ntmps36
  go_wp2
  go_loop [1, 5] (fun q i => q = .int .i64 left ∧ i = .int .i64 0) (fun _ _ => 0)
  case atStart => exact ⟨rfl, rfl⟩
  case round =>
    obtain ⟨rfl, rfl⟩ := hrel
    go_wp2
    go_ret
    exact ⟨by rw [HE.out]; simp [totL], Below.refl _ _⟩
set_option maxHeartbeats 2000000 in
theorem szS_succ (m : Nat) (hN : SzN m) : SzS (m + 1) := by
  intro A c l w left S hl h0 h1
  have hlen := hl.len
  unfold maxLen at hlen
  have HL := Lib.hid hl
  have HN := Lib.hid hN
  have HT : Hid (totL (m + 1) l = l.length + (l.map (totN m)).sum) := Lib.hid (by rw [totL_succ, sum_one])
  clear hl hN
  by_cases c1 : left - (l.length : Int) < 0
  · have HE := Lib.hid (szR_neg (left := left) (t := totL (m + 1) l) (by rw [HT.out]; omega))
    go_enter Try.func36, Try.ntmps36
    go_wp2
    go_ret
    exact ⟨by rw [HE.out]; rfl, Below.refl _ _⟩
  have c1' : 0 ≤ left - (l.length : Int) := by omega
  go_enter Try.func36, Try.ntmps36
  go_wp2
  go_loopw [1, 5] (fun q i wr => ∃ (k : Nat) (z : Int), q = .int .i64 z ∧ i = .int .i64 k ∧ k ≤ l.length ∧ 0 ≤ z ∧ z ≤ 2000000 ∧ Hid (z = left - (l.length : Int) - (((l.take k).map (totN m)).sum : Nat)) ∧ Hid (Below w.heap.size w wr)) (fun _ i _ => l.length - (intOf i).toNat)
  case atStart => exact ⟨0, _, rfl, rfl, by omega, c1', by omega, Lib.hid (by simp), Lib.hid (Below.refl _ _)⟩
  case round =>
    obtain ⟨k, z, rfl, rfl, hk, hz0, hz1, HZ, HB⟩ := hrel
    by_cases hlt : k < l.length
    · obtain ⟨x, hd, rfl, hc, hn⟩ := (HL.out.below HB.out).at_ hlt
      have HS := Lib.hid (sum_take_succ l (totN m) k hlt)
      have HW := Lib.hid (sum_take_le l (totN m) (k + 1))
      generalize l[k] = n at hc hn HS
      obtain ⟨d0, d1, d2, d3, d4, d5⟩ := hc
      have HP := Lib.hid (HN.out n hd wr z S hn hz0 hz1)
      clear hn
      by_cases c2 : z < (totN m n : Int)
      · have HE := Lib.hid (szR_neg (left := left) (t := totL (m + 1) l) (by rw [HT.out]; have := HZ.out; have := HS.out; have := HW.out; omega))
        rw [szR_neg c2] at HP
        go_wp2_with fail
        refine HP.out.mono ?_
        rintro e w1 ⟨rfl, hb1⟩
        have HB1 := Lib.hid (HB.out.trans (hb1.mono HB.out.size))
        clear hb1
        go_wp2
        go_ret
        exact ⟨by rw [HE.out]; rfl, HB1.out⟩
      · rw [szR_pos (by omega)] at HP
        have c3 : 0 ≤ z - (totN m n : Int) := by omega
        have HZ2 : Hid (z - (totN m n : Int) = left - (l.length : Int) - (((l.take (k + 1)).map (totN m)).sum : Nat)) := Lib.hid (by rw [HS.out, HZ.out]; omega)
        go_wp2_with fail
        refine HP.out.mono ?_
        rintro e w1 ⟨rfl, hb1⟩
        have HB1 := Lib.hid (HB.out.trans (hb1.mono HB.out.size))
        clear hb1
        go_wp2
        go_roundw
        case rel => exact ⟨k + 1, _, rfl, by go_num, by omega, c3, by omega, HZ2, HB1⟩
        case measure => simp [intOf]; omega
    · obtain rfl : k = l.length := by omega
      rw [List.take_of_length_le (Nat.le_refl _)] at HZ
      have HE := Lib.hid (szR_pos (left := left) (t := totL (m + 1) l) (by rw [HT.out]; have := HZ.out; omega))
      go_wp2
      go_ret
      exact ⟨by rw [HE.out, HT.out]; exact ret_int (by have := HZ.out; omega), HB.out⟩
theorem szS_any : ∀ m, SzS m
  | 0 => szS_zero
  | m + 1 => szS_succ m (szN_of m (szS_any m))
theorem szN_any (m : Nat) : SzN m := szN_of m (szS_any m)
end Go.Proofs.Ytfiiopchfmcjdaa
