/- The exact laws' own functions over layouts: equality, marks. -/
import Derived.Test.YtfgebmmnlneciaaDoorQnLay
import Derived.Test.YtfgebmmnlneciaaDoorToFld
namespace Go.Proofs.YtfgebmmnlneciaaDoor
open Go.RowKit
set_option maxHeartbeats 1000000 in
theorem eqSlot_any (a : Int) (w : World) :
    Calls Tryd.prog 50 #[.agg #[.int .i64 a], .agg #[.int .i64 a]] w fun e w' => e = .returned (.bool true) ∧ Below w.heap.size w w' := by
  go_enter Tryd.func50, Tryd.ntmps50
  go_wp2
  go_ret
  exact ⟨rfl, ((Below.refl _ _).alloc (Nat.le_refl _) _).alloc (by simp) _⟩
set_option maxHeartbeats 4000000 in
set_option maxRecDepth 100000 in
theorem eqSlotS_any (A B : Option Addr) (c c' : Nat) (sl : List Nat) (w : World) (h : SlotsR w A sl) (h' : SlotsR w B sl) (hl : sl.length ≤ 2000) :
    Calls Tryd.prog 31 #[.slice A sl.length c, .slice B sl.length c'] w fun e w' => e = .returned (.bool true) ∧ Below w.heap.size w w' := by
  have HF := Lib.hid h
  have HG := Lib.hid h'
  clear h h'
  go_enter Tryd.func31, Tryd.ntmps31
  go_wp2
  go_loopw [5] (fun i wr => ∃ k : Nat, i = .int .i64 k ∧ k ≤ sl.length ∧ Hid (Below w.heap.size w wr)) (fun i _ => sl.length - (intOf i).toNat)
  case atStart => exact ⟨0, rfl, by omega, Lib.hid (Below.refl _ _)⟩
  case round =>
    obtain ⟨k, rfl, hk, HB⟩ := hrel
    by_cases hlt : k < sl.length
    · obtain ⟨x, rfl, hx⟩ := (HF.out.below HB.out).at_ hlt
      obtain ⟨y, rfl, hy⟩ := (HG.out.below HB.out).at_ hlt
      generalize (((sl.getD k 0 : Nat)) : Int) = z at hx hy
      have hk2 : (k : Int) < (sl.length : Int) := by omega
      have hx1 : (x.add k).block < wr.heap.size := World.block_lt_of_cell? wr _ hx
      have hx2 : (y.add k).block < wr.heap.size := World.block_lt_of_cell? wr _ hy
      have hs := HB.out.size
      go_wp2
      go_region_with (go_at_call 50; refine (eqSlot_any z _).mono ?_; rintro e w2 ⟨rfl, hb2⟩)
      all_goals
        have HB2 := Lib.hid (HB.out.trans ((show Below w.heap.size wr wr.drew from ⟨rfl, rfl, rfl, Nat.le_refl _, fun _ _ => rfl⟩).trans (hb2.mono (by simpa using hs))))
        clear hb2
        go_wp2
        go_roundw
        case rel => exact ⟨k + 1, by go_num, by omega, HB2⟩
        case measure => simp [intOf]; omega
    · obtain rfl : k = sl.length := by omega
      go_wp2
      go_ret
      exact ⟨rfl, HB.out⟩
set_option maxHeartbeats 4000000 in
theorem eqLayout_any (A B : Option Addr) (c c' : Nat) (sl : List Nat) (d p t : Int) (w : World) (h : SlotsR w A sl) (h' : SlotsR w B sl) (hl : sl.length ≤ 2000) :
    Calls Tryd.prog 15 #[.agg #[.int .i64 d, .int .i64 p, .slice A sl.length c, .int .i64 t], .agg #[.int .i64 d, .int .i64 p, .slice B sl.length c', .int .i64 t]] w fun e w' => e = .returned (.bool true) ∧ Below w.heap.size w w' := by
  have hba : Below w.heap.size w ((w.alloc (.cells #[.int .i64 d, .int .i64 p, .slice A sl.length c, .int .i64 t] 26)).alloc (.cells #[.int .i64 d, .int .i64 p, .slice B sl.length c', .int .i64 t] 26)) := ((Below.refl _ _).alloc (Nat.le_refl _) _).alloc (by simp) _
  have HBA := Lib.hid hba
  have k1 := Below.heap_alloc (w.alloc (.cells #[.int .i64 d, .int .i64 p, .slice A sl.length c, .int .i64 t] 26)) (.cells #[.int .i64 d, .int .i64 p, .slice B sl.length c', .int .i64 t] 26) w.heap.size (by simp)
  have HE := Lib.hid (eqSlotS_any A B c c' sl _ (h.below hba) (h'.below hba) hl)
  have HK1 := Lib.hid (k1.trans (heap_alloc_new w _))
  have HK2 := Lib.hid (heap_alloc_new (w.alloc (.cells #[.int .i64 d, .int .i64 p, .slice A sl.length c, .int .i64 t] 26)) (.cells #[.int .i64 d, .int .i64 p, .slice B sl.length c', .int .i64 t] 26))
  clear h h' hba k1
  go_enter Tryd.func15, Tryd.ntmps15
  go_wp2_with fail
  refine HE.out.mono ?_
  rintro e w2 ⟨rfl, hb2⟩
  obtain ⟨a0, a1, a2, a3⟩ := cells4 ((hb2.block _ (by simp; omega)).trans HK1.out)
  obtain ⟨b0, b1, b2, b3⟩ := cells4 ((hb2.block _ (by simp)).trans HK2.out)
  rw [show (w.alloc (.cells #[.int .i64 d, .int .i64 p, .slice A sl.length c, .int .i64 t] 26)).heap.size = w.heap.size + 1 by simp] at b0 b1 b2 b3
  have HB2 := Lib.hid (HBA.out.trans (hb2.mono (by simp; omega)))
  clear hb2
  go_wp2
  go_ret
  exact ⟨rfl, HB2.out⟩
/-- marks from k on. -/
def markL (k n : Nat) : List Nat := (List.range n).map (k + ·)
theorem markL_length (k n : Nat) : (markL k n).length = n := by simp [markL]
theorem markL_at {k n i : Nat} (h : i < n) : (markL k n).getD i 0 = k + i := by simp [markL, List.getD, List.getElem?_range h]
theorem mark_step (k i : Nat) (xs : List Value) (h : i < xs.length) : (slotCells (markL k i) ++ xs.drop i).set i (.int .i64 ((k + i : Nat) : Int)) = slotCells (markL k (i + 1)) ++ xs.drop (i + 1) := by
  have hl : (slotCells (markL k i)).length = i := by simp [slotCells, markL]
  rw [List.set_append_right _ _ (by omega), hl, Nat.sub_self, List.drop_eq_getElem_cons h, List.set_cons_zero]
  have : slotCells (markL k (i + 1)) = slotCells (markL k i) ++ [.int .i64 ((k + i : Nat) : Int)] := by
    unfold slotCells markL
    rw [List.range_succ, List.map_append, List.map_append]
    rfl
  rw [this, List.append_assoc]
  rfl
def MarkP (R : Nat) (v : Value) (k n : Nat) (w : World) (e : Ending) (w' : World) : Prop := e = .returned (.int .i64 ((k + n : Nat) : Int)) ∧ w'.ownsRow R slotT 1 v n (slotCells (markL k n)) ∧ w.grownBy w' v.ownBlock
set_option maxHeartbeats 4000000 in
set_option maxRecDepth 100000 in
theorem markSlotS_any (R : Nat) (v : Value) (n k : Nat) (xs : List Value) (w : World) (h : w.ownsRow R slotT 1 v n xs) (hn : n ≤ 2000) (hk : k ≤ 2000) :
    Calls Tryd.prog 33 #[v, .int .i64 (k : Int)] w (MarkP R v k n w) := by
  have hl1 := h.1
  rw [Nat.mul_one] at hl1
  rcases h.2 with ⟨rfl, rfl⟩ | ⟨g, cap, cur, rfl, hR, hrow, hc, hcm, hcs, htk⟩
  · have HO := Lib.hid h
    obtain rfl : xs = [] := List.eq_nil_of_length_eq_zero hl1
    clear h hl1
    go_enter Tryd.func33, Tryd.ntmps33
    go_wp2
    go_loopw [1, 5] (fun q i wr => q = .int .i64 (k : Int) ∧ i = .int .i64 0 ∧ wr = w) (fun _ _ _ => 0)
    case atStart => exact ⟨rfl, rfl, rfl⟩
    case round =>
      obtain ⟨rfl, rfl, rfl⟩ := hrel
      go_wp2
      go_ret
      exact ⟨ret_int (by omega), HO.out, ⟨rfl, rfl, rfl, Nat.le_refl _, fun _ _ _ => rfl⟩⟩
  · have HO := Lib.hid h
    have HL := Lib.hid hl1
    clear h hrow hcs htk hl1 hc hcm
    obtain ⟨x, hx⟩ : ∃ x : Addr, x = ⟨g, 0, none⟩ := ⟨_, rfl⟩
    have hadd : ∀ j, x.add j = ⟨g, j, none⟩ := fun j => by rw [hx, add_zero_at]
    rw [← hx]
    have HX := Lib.hid hx
    have HADD := Lib.hid hadd
    clear hx hadd
    go_enter Tryd.func33, Tryd.ntmps33
    go_wp2
    go_loopw [1, 5] (fun q i wr => ∃ j : Nat, q = .int .i64 ((k + j : Nat) : Int) ∧ i = .int .i64 j ∧ j ≤ n ∧ Hid (wr.ownsRow R slotT 1 (.slice (some ⟨g, 0, none⟩) n cap) n (slotCells (markL k j) ++ xs.drop j)) ∧ Hid (w.grownBy wr (some g))) (fun _ i _ => n - (intOf i).toNat)
    case atStart => exact ⟨0, rfl, rfl, by omega, Lib.hid (by simpa [markL, slotCells] using HO.out), Lib.hid ⟨rfl, rfl, rfl, Nat.le_refl _, fun _ _ _ => rfl⟩⟩
    case round =>
      obtain ⟨j, rfl, rfl, hj, HR, HG⟩ := hrel
      by_cases hlt : j < n
      · have hc0 := HR.out.cellAt j (by omega)
        have hf0 := HR.out.frozenAt j
        have hlen : (slotCells (markL k j) ++ xs.drop j).length = n := by have := HR.out.1; omega
        rw [List.getElem?_eq_getElem (by omega)] at hc0
        generalize (slotCells (markL k j) ++ xs.drop j)[j]'(by omega) = u at hc0
        have hst := (HR.out.stored j (.int .i64 ((k + j : Nat) : Int))).1
        rw [mark_step k j xs (by have := HL.out; omega)] at hst
        have HST := Lib.hid hst
        have haj := HADD.out j
        have hq0 : 0 ≤ ((k + j : Nat) : Int) := by omega
        have hq1 : ((k + j : Nat) : Int) ≤ 10000 := by omega
        have HQ : Hid (((k + j : Nat) : Int) + 1 = ((k + (j + 1) : Nat) : Int)) := Lib.hid (by omega)
        have HG2 := Lib.hid (grown_trans HG.out (grown_set wr g j (.int .i64 ((k + j : Nat) : Int))))
        clear hst hlen
        generalize ((k + j : Nat) : Int) = qq at *
        go_wp2
        go_roundw
        case rel => exact ⟨j + 1, by rw [HQ.out], by go_num, by omega, HST, HG2⟩
        case measure => simp [intOf]; omega
      · obtain rfl : j = n := by omega
        have hxn : xs.drop j = [] := List.drop_eq_nil_of_le (by have := HL.out; omega)
        rw [hxn, List.append_nil] at HR
        go_wp2
        go_ret
        rw [HX.out]
        exact ⟨rfl, HR.out, HG.out⟩
set_option maxHeartbeats 2000000 in
theorem markLayout_any (R : Nat) (v : Value) (n k : Nat) (d p t : Int) (xs : List Value) (w : World) (hsh : ∃ A c, v = .slice A n c) (h : w.ownsRow R slotT 1 v n xs) (hn : n ≤ 2000) (hk : k ≤ 2000) :
    Calls Tryd.prog 18 #[.agg #[.int .i64 d, .int .i64 p, v, .int .i64 t], .int .i64 (k : Int)] w (MarkP R v k n w) := by
  obtain ⟨A, c, rfl⟩ := hsh
  have HM := Lib.hid (markSlotS_any R (.slice A n c) n k xs _ (h.alloc (.cells #[.int .i64 d, .int .i64 p, .slice A n c, .int .i64 t] 26)) hn hk)
  clear h
  go_enter Tryd.func18, Tryd.ntmps18
  go_wp2_with fail
  refine HM.out.mono ?_
  rintro e w2 ⟨rfl, ho, hg⟩
  have HO := Lib.hid ho
  have HG := Lib.hid ((World.grownBy_alloc w (.cells #[.int .i64 d, .int .i64 p, .slice A n c, .int .i64 t] 26) _).trans hg)
  clear ho hg
  go_wp2
  go_ret
  exact ⟨rfl, HO.out, HG.out⟩
set_option maxHeartbeats 4000000 in
set_option maxRecDepth 100000 in
theorem heldSlotS_any (A : Option Addr) (c n k : Nat) (w : World) (h : SlotsR w A (markL k n)) (hn : n ≤ 2000) (hk : k ≤ 2000) :
    Calls Tryd.prog 34 #[.slice A n c, .int .i64 (k : Int)] w fun e w' => e = .returned (.int .i64 ((k + n : Nat) : Int)) ∧ w = w' := by
  have HS := Lib.hid h
  clear h
  go_enter Tryd.func34, Tryd.ntmps34
  go_wp2
  go_loop [1, 5] (fun q i => ∃ j : Nat, q = .int .i64 ((k + j : Nat) : Int) ∧ i = .int .i64 j ∧ j ≤ n) (fun _ i => n - (intOf i).toNat)
  case atStart => exact ⟨0, rfl, rfl, by omega⟩
  case round =>
    obtain ⟨j, rfl, rfl, hj⟩ := hrel
    by_cases hlt : j < n
    · obtain ⟨x, rfl, hx⟩ := HS.out.at_ (k := j) (by rw [markL_length]; exact hlt)
      rw [markL_at hlt] at hx
      have hk2 : (j : Int) < (n : Int) := by omega
      have hq0 : 0 ≤ ((k + j : Nat) : Int) := by omega
      have hq1 : ((k + j : Nat) : Int) ≤ 10000 := by omega
      have HQ : Hid (((k + j : Nat) : Int) + 1 = ((k + (j + 1) : Nat) : Int)) := Lib.hid (by omega)
      generalize ((k + j : Nat) : Int) = qq at *
      go_wp2
      go_round
      case rel => exact ⟨j + 1, by rw [HQ.out], by go_num, by omega⟩
      case measure => simp [intOf]; omega
    · obtain rfl : j = n := by omega
      go_wp2
      go_ret
      exact ⟨rfl, rfl⟩
set_option maxHeartbeats 2000000 in
theorem heldLayout_any (A : Option Addr) (c n k : Nat) (d p t : Int) (w : World) (h : SlotsR w A (markL k n)) (hn : n ≤ 2000) (hk : k ≤ 2000) :
    Calls Tryd.prog 19 #[.agg #[.int .i64 d, .int .i64 p, .slice A n c, .int .i64 t], .int .i64 (k : Int)] w fun e w' => e = .returned (.int .i64 ((k + n : Nat) : Int)) ∧ Below w.heap.size w w' := by
  have hba : Below w.heap.size w (w.alloc (.cells #[.int .i64 d, .int .i64 p, .slice A n c, .int .i64 t] 26)) := (Below.refl _ _).alloc (Nat.le_refl _) _
  have HM := Lib.hid (heldSlotS_any A c n k _ (h.below hba) hn hk)
  have HB := Lib.hid hba
  have hq : 0 ≤ ((k + n : Nat) : Int) := by omega
  clear h hba
  generalize ((k + n : Nat) : Int) = qq at *
  go_enter Tryd.func19, Tryd.ntmps19
  go_wp2_with fail
  refine HM.out.mono ?_
  rintro e w2 ⟨rfl, rfl⟩
  go_wp2
  go_ret
  exact ⟨rfl, HB.out⟩
def MFP (g n : Nat) (w : World) (e : Ending) (w' : World) : Prop := e = .returned (.int .i64 ((1 + 3 * n : Nat) : Int)) ∧ w.grownBy w' (some g)
set_option maxHeartbeats 4000000 in
set_option maxRecDepth 100000 in
theorem markFieldS_any (g n c : Nat) (arr : Array Value) (w : World) (hr : w.heap[g]? = some (.cells arr fieldT (0, 0))) (hs : arr.size = n * 3) (hn : n ≤ 2000000) :
    Calls Tryd.prog 17 #[.slice (some ⟨g, 0, none⟩) n c, .int .i64 1] w (MFP g n w) := by
  obtain ⟨x, hx⟩ : ∃ x : Addr, x = ⟨g, 0, none⟩ := ⟨_, rfl⟩
  have hadd : ∀ j, x.add j = ⟨g, j, none⟩ := fun j => by rw [hx, add_zero_at]
  rw [← hx]
  have HX := Lib.hid hx
  have HADD := Lib.hid hadd
  have HR := Lib.hid hr
  have HS := Lib.hid hs
  clear hx hadd hr hs
  go_enter Tryd.func17, Tryd.ntmps17
  go_wp2
  go_loopw [1, 5] (fun q i wr => ∃ j : Nat, q = .int .i64 ((1 + 3 * j : Nat) : Int) ∧ i = .int .i64 j ∧ j ≤ n ∧ Hid (∃ ar, wr.heap[g]? = some (.cells ar fieldT (0, 0)) ∧ ar.size = n * 3) ∧ Hid (w.grownBy wr (some g))) (fun _ i _ => n - (intOf i).toNat)
  case atStart => exact ⟨0, rfl, rfl, by omega, Lib.hid ⟨arr, HR.out, HS.out⟩, Lib.hid ⟨rfl, rfl, rfl, Nat.le_refl _, fun _ _ _ => rfl⟩⟩
  case round =>
    obtain ⟨j, rfl, rfl, hj, HA, HG⟩ := hrel
    by_cases hlt : j < n
    · obtain ⟨ar, hrow, hsz⟩ := HA.out
      obtain ⟨v0, hv0⟩ := some_at (i := j * 3) hsz (by omega)
      obtain ⟨v1, hv1⟩ := some_at (i := j * 3 + 1) hsz (by omega)
      obtain ⟨v2, hv2⟩ := some_at (i := j * 3 + 2) hsz (by omega)
      have p0 : wr.cell? ⟨g, j * 3, none⟩ = some v0 := by rw [cell_of_row _ _ _ _ _ _ hrow]; exact hv0
      have p1 : wr.cell? ⟨g, j * 3 + 1, none⟩ = some v1 := by rw [cell_of_row _ _ _ _ _ _ hrow]; exact hv1
      have p2 : wr.cell? ⟨g, j * 3 + 2, none⟩ = some v2 := by rw [cell_of_row _ _ _ _ _ _ hrow]; exact hv2
      have z0 := row_free hrow
      have haj := HADD.out (j * 3)
      have HROW := Lib.hid hrow
      have HSZ := Lib.hid hsz
      have hq0 : 0 ≤ ((1 + 3 * j : Nat) : Int) := by omega
      have hq1 : ((1 + 3 * j : Nat) : Int) ≤ 10000000 := by omega
      have HQ : Hid (((1 + 3 * j : Nat) : Int) + 1 + 1 + 1 = ((1 + 3 * (j + 1) : Nat) : Int)) := Lib.hid (by omega)
      clear hrow hsz hv0 hv1 hv2
      generalize ((1 + 3 * j : Nat) : Int) = qq at *
      obtain ⟨bq, hbq⟩ : ∃ b, ((qq + 1) % 3 == 0) = b := ⟨_, rfl⟩
      have hbt : ((qq + 1).tmod 3 == 0) = bq := by rw [Int.tmod_eq_emod_of_nonneg (by omega)]; exact hbq
      have HG2 := Lib.hid (fun a b c => grown_trans (grown_trans (grown_trans HG.out (grown_set wr g (j * 3) a)) (grown_set _ g (j * 3 + 1) b)) (grown_set _ g (j * 3 + 2) c))
      go_wp2
      go_roundw
      case rel => exact ⟨j + 1, by rw [HQ.out], by go_num, by omega, Lib.hid ⟨_, row_setF (row_setF (row_setF HROW.out (j * 3) _) (j * 3 + 1) _) (j * 3 + 2) _, by simp [HSZ.out]⟩, Lib.hid (HG2.out _ _ _)⟩
      case measure => simp [intOf]; omega
    · obtain rfl : j = n := by omega
      go_wp2
      go_ret
      exact ⟨rfl, HG.out⟩
end Go.Proofs.YtfgebmmnlneciaaDoor
