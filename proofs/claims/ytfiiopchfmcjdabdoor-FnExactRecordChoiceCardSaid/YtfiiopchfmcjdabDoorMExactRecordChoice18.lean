/- Texts of the proof of the law FnExactRecordChoice, side by side: part 18. -/
import Derived.Deep.OwnRows
import Derived.Deep.RegionWith
import Derived.Test.YtfiiopchfmcjdabDoorRows
import Derived.Lib.LaidTab
import Derived.Stop.LaidErr
import Derived.MakeChecks
import Derived.Deep.Slices
import Derived.Deep.Fields
import Derived.ChangeSame
import Derived.Test.YtfiiopchfmcjdabDoorMExactRecordChoice00
import Derived.Test.YtfiiopchfmcjdabDoorMExactRecordChoice01
import Derived.Test.YtfiiopchfmcjdabDoorMExactRecordChoice02
import Derived.Test.YtfiiopchfmcjdabDoorMExactRecordChoice03
import Derived.Test.YtfiiopchfmcjdabDoorMExactRecordChoice04
import Derived.Test.YtfiiopchfmcjdabDoorMExactRecordChoice05
import Derived.Test.YtfiiopchfmcjdabDoorMExactRecordChoice06
import Derived.Test.YtfiiopchfmcjdabDoorMExactRecordChoice07
import Derived.Test.YtfiiopchfmcjdabDoorMExactRecordChoice08
import Derived.Test.YtfiiopchfmcjdabDoorMExactRecordChoice09
import Derived.Test.YtfiiopchfmcjdabDoorMExactRecordChoice10
import Derived.Test.YtfiiopchfmcjdabDoorMExactRecordChoice11
import Derived.Test.YtfiiopchfmcjdabDoorMExactRecordChoice12
import Derived.Test.YtfiiopchfmcjdabDoorMExactRecordChoice13
import Derived.Test.YtfiiopchfmcjdabDoorMExactRecordChoice14
import Derived.Test.YtfiiopchfmcjdabDoorMExactRecordChoice15
import Derived.Test.YtfiiopchfmcjdabDoorMExactRecordChoice16
import Derived.Test.YtfiiopchfmcjdabDoorMExactRecordChoice17
/- The laws' own functions over fields: sizes, copies, equality. -/
namespace Go.Proofs.YtfiiopchfmcjdabDoor
open Go.RowKit
def szF (n : Nat) (left : Int) : Int := if left - n < 0 then -1 else left - n
set_option maxHeartbeats 1000000 in
theorem szFieldS_any (A : Option Addr) (n c : Nat) (left : Int) (w : World) (hn : n ≤ maxLen) (h0 : 0 ≤ left) (h1 : left ≤ 10000000) :
    Calls Tryd.prog 19 #[.slice A n c, .int .i64 left] w fun e w' => e = .returned (.int .i64 (szF n left)) ∧ w = w' := by
  unfold maxLen at hn
  by_cases h : left - n < 0
  · have HE : Hid (szF n left = -1) := Lib.hid (by unfold szF; rw [if_pos h])
    go_enter Tryd.func19, Tryd.ntmps19
    go_wp2
    go_ret
    exact ⟨by rw [HE.out]; rfl, rfl⟩
  · have HE : Hid (szF n left = left - n) := Lib.hid (by unfold szF; rw [if_neg h])
    have h' : 0 ≤ left - n := by omega
    go_enter Tryd.func19, Tryd.ntmps19
    go_wp2
    go_ret
    exact ⟨by rw [HE.out]; rfl, rfl⟩
set_option maxHeartbeats 1000000 in
theorem toField_any (z el : Int) (c : Bool) (w : World) :
    Calls Tryd.prog 49 #[.agg #[.int .i64 z, .bool c, .int .i64 el]] w fun e w' => e = .returned (.agg #[.int .i64 z, .bool c, .int .i64 el]) ∧ Below w.heap.size w w' := by
  go_enter Tryd.func49, Tryd.ntmps49
  go_wp2
  exact bodyPost_ret (v := .agg #[.int .i64 z, .bool c, .int .i64 el]) (by simp [results, Tryd.results49, go_sem]) rfl ⟨rfl, by repeat (first | exact Below.refl _ _ | refine Below.alloc ?_ (by simp; try omega) _ | refine Below.setCell ?_ (by simp) _)⟩
set_option maxHeartbeats 1000000 in
theorem eqField_any (z el : Int) (c : Bool) (w : World) :
    Calls Tryd.prog 53 #[.agg #[.int .i64 z, .bool c, .int .i64 el], .agg #[.int .i64 z, .bool c, .int .i64 el]] w fun e w' => e = .returned (.bool true) ∧ Below w.heap.size w w' := by
  go_enter Tryd.func53, Tryd.ntmps53
  go_wp2
  go_ret
  exact ⟨rfl, ((Below.refl _ _).alloc (Nat.le_refl _) _).alloc (by simp) _⟩
theorem row_setF {w : World} {g : Nat} {cs : Array Value} {T : TypeId} (h : w.heap[g]? = some (.cells cs T (0, 0))) (i : Nat) (u : Value) : (w.setCell ⟨g, i, none⟩ u).heap[g]? = some (.cells (cs.setIfInBounds i u) T (0, 0)) := by
  simp [World.setCell, Array.getElem?_modify, h]
/-- a row whose first k fields are these. -/
def FArr (arr : Array Value) (l : List Fld) (k : Nat) : Prop := ∀ j (h : j < l.length), j < k → arr[j * 3]? = some (.int .i64 (l[j]).size) ∧ arr[j * 3 + 1]? = some (.bool (l[j]).choice) ∧ arr[j * 3 + 2]? = some (.int .i64 (l[j]).els)
theorem farr_step {arr : Array Value} {l : List Fld} {k : Nat} (h : FArr arr l k) (hk : k < l.length) (hs : arr.size = l.length * 3) :
    FArr (((arr.setIfInBounds (k * 3) (.int .i64 (l[k]).size)).setIfInBounds (k * 3 + 1) (.bool (l[k]).choice)).setIfInBounds (k * 3 + 2) (.int .i64 (l[k]).els)) l (k + 1) := by
  intro j hj hjk
  by_cases e : j = k
  · subst e
    refine ⟨?_, ?_, ?_⟩
    · rw [Array.getElem?_setIfInBounds_ne (by omega), Array.getElem?_setIfInBounds_ne (by omega), Array.getElem?_setIfInBounds_self_of_lt (by omega)]
    · rw [Array.getElem?_setIfInBounds_ne (by omega), Array.getElem?_setIfInBounds_self_of_lt (by simp; omega)]
    · rw [Array.getElem?_setIfInBounds_self_of_lt (by simp; omega)]
  · obtain ⟨h0, h1, h2⟩ := h j hj (by omega)
    refine ⟨?_, ?_, ?_⟩
    · rw [Array.getElem?_setIfInBounds_ne (by omega), Array.getElem?_setIfInBounds_ne (by omega), Array.getElem?_setIfInBounds_ne (by omega)]; exact h0
    · rw [Array.getElem?_setIfInBounds_ne (by omega), Array.getElem?_setIfInBounds_ne (by omega), Array.getElem?_setIfInBounds_ne (by omega)]; exact h1
    · rw [Array.getElem?_setIfInBounds_ne (by omega), Array.getElem?_setIfInBounds_ne (by omega), Array.getElem?_setIfInBounds_ne (by omega)]; exact h2
theorem farr_flds {w : World} {g : Nat} {arr : Array Value} {l : List Fld} (hr : w.heap[g]? = some (.cells arr fieldT (0, 0))) (h : FArr arr l l.length) : Flds w (some ⟨g, 0, none⟩) l := by
  refine .inr ⟨_, rfl, row_lt hr, fun k f hk => ?_⟩
  have hlt : k < l.length := by
    rcases Nat.lt_or_ge k l.length with h' | h'
    · exact h'
    · rw [List.getElem?_eq_none h'] at hk; cases hk
  obtain rfl : l[k] = f := by rw [List.getElem?_eq_getElem hlt] at hk; injection hk
  obtain ⟨h0, h1, h2⟩ := h k hlt hlt
  refine ⟨?_, ?_, ?_⟩
  · rw [add_zero_at, cell_of_row _ _ _ _ _ _ hr]; exact h0
  · rw [add_off2 _ _ 1 (by decide), add_zero_at, cell_of_row _ _ _ _ _ _ hr]; exact h1
  · rw [add_off2 _ _ 2 (by decide), add_zero_at, cell_of_row _ _ _ _ _ _ hr]; exact h2
theorem some_at {arr : Array Value} {i n : Nat} (hs : arr.size = n) (h : i < n) : ∃ v, arr[i]? = some v := ⟨arr[i]'(by omega), by rw [Array.getElem?_eq_getElem]⟩
/-- what toFieldS gives. -/
def ToP (l : List Fld) (w : World) (e : Ending) (w' : World) : Prop := ∃ (g : Nat) (arr : Array Value), e = .returned (.slice (some ⟨g, 0, none⟩) l.length l.length) ∧ w.heap.size ≤ g ∧ w'.heap[g]? = some (.cells arr fieldT (0, 0)) ∧ arr.size = l.length * 3 ∧ FArr arr l l.length ∧ Below w.heap.size w w'
theorem ToP.flds {w' : World} {g : Nat} {arr : Array Value} {l : List Fld} (hr : w'.heap[g]? = some (.cells arr fieldT (0, 0))) (h : FArr arr l l.length) : Flds w' (some ⟨g, 0, none⟩) l := farr_flds hr h
set_option maxHeartbeats 4000000 in
set_option maxRecDepth 100000 in
theorem toFieldS_any (A : Option Addr) (c : Nat) (l : List Fld) (w : World) (h : Flds w A l) (hl : l.length ≤ 2000000) :
    Calls Tryd.prog 22 #[.slice A l.length c] w (ToP l w) := by
  obtain ⟨i0, hi, hz0, hz1, hz2⟩ := info_parts infoFld
  have hmk : ∀ w : World, (Instr.makeSlice 51 (.int .i64 (l.length : Int)) (.int .i64 (l.length : Int))).run Tryd.prog w = .ok (.slice (some ⟨w.heap.size, 0, none⟩) l.length l.length) (w.alloc (.cells (madeCells #[.int .i64 0, .bool false, .int .i64 0] (l.length * 3)) fieldT)) := fun w => by
    have := run_make (P := Tryd.prog) w 51 fieldT i0 (.agg #[.int .i64 0, .bool false, .int .i64 0]) Tryd.underlying51 hi hz0 .i64 .i64 (l.length : Int) (l.length : Int) (by omega) (Int.le_refl _) (by rw [hz2]; omega) (by omega)
    rw [hz1] at this
    simp only [Int.toNat_natCast] at this
    exact this
  have HF := Lib.hid h
  clear h
  go_enter Tryd.func22, Tryd.ntmps22
  go_wp2
  have HROW := Lib.hid (heap_alloc_new w (.cells (madeCells #[.int .i64 0, .bool false, .int .i64 0] (l.length * 3)) fieldT))
  obtain ⟨x, hx⟩ : ∃ x : Addr, x = ⟨w.heap.size, 0, none⟩ := ⟨_, rfl⟩
  rw [← hx]
  have HX := Lib.hid hx
  clear hx hmk
  go_loopw [4] (fun i wr => ∃ k : Nat, i = .int .i64 k ∧ k ≤ l.length ∧ Hid (∃ arr, wr.heap[w.heap.size]? = some (.cells arr fieldT (0, 0)) ∧ arr.size = l.length * 3 ∧ FArr arr l k) ∧ Hid (Below w.heap.size w wr)) (fun i _ => l.length - (intOf i).toNat)
  case atStart => exact ⟨0, rfl, by omega, Lib.hid ⟨_, HROW.out, size_madeCells _ _, fun j _ hj => absurd hj (Nat.not_lt_zero _)⟩, Lib.hid ((Below.refl _ _).alloc (Nat.le_refl _) _)⟩
  case round =>
    obtain ⟨k, rfl, hk, HA, HB⟩ := hrel
    by_cases hlt : k < l.length
    · obtain ⟨y, rfl, hy⟩ := (HF.out.below HB.out).at_ hlt
      obtain ⟨arr, hrow, hsz, harr⟩ := HA.out
      have hst := farr_step harr hlt hsz
      obtain ⟨d0, d1, d2⟩ := hy
      generalize l[k] = f at d0 d1 d2 hst
      obtain ⟨z, fc, el⟩ := f
      have hrlt := row_lt hrow
      have HROWK := Lib.hid hrow
      have HST := Lib.hid hst
      have HSZ := Lib.hid hsz
      clear harr hst
      go_wp2_with fail
      refine (toField_any z el fc _).mono ?_
      rintro e w2 ⟨rfl, hb2⟩
      have hrow2 := (hb2.block w.heap.size hrlt).trans HROWK.out
      obtain ⟨v0, hv0⟩ := some_at (i := k * 3) hsz (by omega)
      obtain ⟨v1, hv1⟩ := some_at (i := k * 3 + 1) hsz (by omega)
      obtain ⟨v2, hv2⟩ := some_at (i := k * 3 + 2) hsz (by omega)
      have hadd : x.add (k * 3) = ⟨w.heap.size, k * 3, none⟩ := by rw [HX.out, add_zero_at]
      have p0 : w2.cell? ⟨w.heap.size, k * 3, none⟩ = some v0 := by rw [cell_of_row _ _ _ _ _ _ hrow2]; exact hv0
      have p1 : w2.cell? ⟨w.heap.size, k * 3 + 1, none⟩ = some v1 := by rw [cell_of_row _ _ _ _ _ _ hrow2]; exact hv1
      have p2 : w2.cell? ⟨w.heap.size, k * 3 + 2, none⟩ = some v2 := by rw [cell_of_row _ _ _ _ _ _ hrow2]; exact hv2
      have z0 := row_free hrow2
      have HR2 := Lib.hid hrow2
      have HB2 := Lib.hid (HB.out.trans (hb2.mono HB.out.size))
      clear hrow hsz hrow2 hb2 hv0 hv1 hv2
      go_wp2
      go_roundw
      case rel => exact ⟨k + 1, by go_num, by omega, Lib.hid ⟨_, row_setF (row_setF (row_setF HR2.out (k * 3) _) (k * 3 + 1) _) (k * 3 + 2) _, by simp [HSZ.out], HST.out⟩, Lib.hid (((HB2.out.setCell (p := ⟨w.heap.size, k * 3, none⟩) (Nat.le_refl _) _).setCell (p := ⟨w.heap.size, k * 3 + 1, none⟩) (Nat.le_refl _) _).setCell (p := ⟨w.heap.size, k * 3 + 2, none⟩) (Nat.le_refl _) _)⟩
      case measure => simp [intOf]; omega
    · obtain rfl : k = l.length := by omega
      obtain ⟨arr, hrow, hsz, harr⟩ := HA.out
      have HX2 := HX
      go_wp2
      go_ret
      rw [HX2.out]
      exact ⟨w.heap.size, arr, rfl, Nat.le_refl _, hrow, hsz, harr, HB.out⟩
set_option maxHeartbeats 4000000 in
set_option maxRecDepth 100000 in
theorem eqFieldS_any (A B : Option Addr) (c c' : Nat) (l : List Fld) (w : World) (h : Flds w A l) (h' : Flds w B l) (hl : l.length ≤ 2000000) :
    Calls Tryd.prog 25 #[.slice A l.length c, .slice B l.length c'] w fun e w' => e = .returned (.bool true) ∧ Below w.heap.size w w' := by
  have HF := Lib.hid h
  have HG := Lib.hid h'
  clear h h'
  go_enter Tryd.func25, Tryd.ntmps25
  go_wp2
  go_loopw [5] (fun i wr => ∃ k : Nat, i = .int .i64 k ∧ k ≤ l.length ∧ Hid (Below w.heap.size w wr)) (fun i _ => l.length - (intOf i).toNat)
  case atStart => exact ⟨0, rfl, by omega, Lib.hid (Below.refl _ _)⟩
  case round =>
    obtain ⟨k, rfl, hk, HB⟩ := hrel
    by_cases hlt : k < l.length
    · obtain ⟨x, rfl, hx⟩ := (HF.out.below HB.out).at_ hlt
      obtain ⟨y, rfl, hy⟩ := (HG.out.below HB.out).at_ hlt
      obtain ⟨c0, c1, c2⟩ := hx
      obtain ⟨d0, d1, d2⟩ := hy
      generalize l[k] = f at c0 c1 c2 d0 d1 d2
      obtain ⟨z, fc, el⟩ := f
      have hk2 : (k : Int) < (l.length : Int) := by omega
      have hx1 : (x.add (k * 3)).block < wr.heap.size := World.block_lt_of_cell? wr _ c0
      have hx2 : (y.add (k * 3)).block < wr.heap.size := World.block_lt_of_cell? wr _ d0
      have hs := HB.out.size
      go_wp2
      go_region_with (go_at_call 53; refine (eqField_any z el fc _).mono ?_; rintro e w2 ⟨rfl, hb2⟩)
      all_goals
        have HB2 := Lib.hid (HB.out.trans ((show Below w.heap.size wr wr.drew from ⟨rfl, rfl, rfl, Nat.le_refl _, fun _ _ => rfl⟩).trans (hb2.mono (by simpa using hs))))
        clear hb2
        go_wp2
        go_roundw
        case rel => exact ⟨k + 1, by go_num, by omega, HB2⟩
        case measure => simp [intOf]; omega
    · obtain rfl : k = l.length := by omega
      go_wp2
      go_ret
      exact ⟨rfl, HB.out⟩
end Go.Proofs.YtfiiopchfmcjdabDoor

/- The walk of the exact law of RecordChoice. -/
namespace Go.Proofs.YtfiiopchfmcjdabDoor
open Go.RowKit
theorem szF_big' {n : Nat} (h : 1048576 < n) : szF n 1048576 = -1 := by unfold szF; rw [if_pos (by omega)]
theorem szF_small' {n : Nat} (h : n ≤ 1048576) : szF n 1048576 = 1048576 - n := by unfold szF; rw [if_neg (by omega)]
set_option maxHeartbeats 8000000 in
set_option maxRecDepth 100000 in
theorem walkExactRecordChoice (w : World) (a : Option Addr) (len cap : Nat) (l : List Fld) (hlen : l.length = len) (hfl : Flds w a l) (hm : len ≤ maxLen) (m : Nat) (n : Nd) (h : Hd) (hn : NdAt w Any m n h) (ht : Tab w) :
    Calls Tryd.prog 6 #[.slice a len cap, .agg #[.int .i64 n.kind, .string n.data, .slice h.A n.ptrs.length h.a, .int .i64 n.size, .int .i64 n.count, .slice h.B n.items.length h.b]] w fun e w' => e = .returned (.bool true) ∧ Below w.heap.size w w' := by
  subst hlen
  have h1w : 4 < w.heap.size := World.block_lt_of_cell? w _ ht.t0
  have hb0 := (Below.refl w.heap.size w).alloc (Nat.le_refl _) (.cells #[.int .i64 n.kind, .string n.data, .slice h.A n.ptrs.length h.a, .int .i64 n.size, .int .i64 n.count, .slice h.B n.items.length h.b] 47)
  have HR := Lib.hid (heap_alloc_new w (.cells #[.int .i64 n.kind, .string n.data, .slice h.A n.ptrs.length h.a, .int .i64 n.size, .int .i64 n.count, .slice h.B n.items.length h.b] 47))
  have HB0 := Lib.hid hb0
  have HM := Lib.hid hm
  have HF := Lib.hid hfl
  have HT := Lib.hid ht
  have HN := Lib.hid hn
  clear hfl ht hn hb0 hm
  by_cases hbig : 1048576 < l.length
  · have HS := Lib.hid (szF_big' hbig)
    go_enter Tryd.func6, Tryd.ntmps6
    go_wp2_with (go_at_call 19; go_must (refine (szFieldS_any a l.length cap 1048576 _ HM.out (by decide) (by decide)).mono ?_); rintro e w2 ⟨rfl, rfl⟩; rw [HS.out])
    go_ret
    exact ⟨rfl, HB0.out⟩
  have hsm : l.length ≤ 1048576 := by omega
  have HS := Lib.hid (szF_small' hsm)
  have hl0 : 0 ≤ (1048576 : Int) - (l.length : Nat) := by omega
  have hl1 : (1048576 : Int) - (l.length : Nat) ≤ 1048576 := by omega
  have HLL : Hid (l.length ≤ 1048576) := Lib.hid hsm
  obtain ⟨lf, hlf⟩ : ∃ lf, (1048576 : Int) - (l.length : Nat) = lf := ⟨_, rfl⟩
  rw [hlf] at hl0 hl1
  rw [hlf] at HS
  clear hlf hbig hsm
  have HSIZE : Hid ((w.alloc (.cells #[.int .i64 n.kind, .string n.data, .slice h.A n.ptrs.length h.a, .int .i64 n.size, .int .i64 n.count, .slice h.B n.items.length h.b] 47)).heap.size = w.heap.size + 1) := Lib.hid (by simp)
  go_enter Tryd.func6, Tryd.ntmps6
  go_wp2_with fail
  refine (szFieldS_any a l.length cap 1048576 _ HM.out (by decide) (by decide)).mono ?_
  rintro e w2 ⟨rfl, rfl⟩
  rw [HS.out]
  have hnl : decide (lf < 0) = false := decide_eq_false (by omega)
  obtain ⟨a0, a1, a2, a3, a4, a5⟩ := cells6 HR.out
  go_wp2_with fail
  clear a0 a1 a2 a3 a4 a5
  generalize w.alloc (.cells #[.int .i64 n.kind, .string n.data, .slice h.A n.ptrs.length h.a, .int .i64 n.size, .int .i64 n.count, .slice h.B n.items.length h.b] 47) = W0 at *
  have hlt0 : w.heap.size < W0.heap.size := by have := HSIZE.out; omega
  have HNW := Lib.hid (HN.out.below HB0.out)
  have HFW := Lib.hid (HF.out.below HB0.out)
  have HSZ := Lib.hid (szN_any m n h W0 lf Any HNW.out hl0 (by omega))
  by_cases hbig : lf < (totN m n : Nat)
  · rw [szR_neg hbig] at HSZ
    clear hbig
    refine HSZ.out.mono ?_
    rintro e w3 ⟨rfl, hb3⟩
    have HB3 := Lib.hid (HB0.out.trans (hb3.mono HB0.out.size))
    clear hb3
    go_wp2
    go_ret
    exact ⟨rfl, HB3.out⟩
  have htn : totN m n ≤ 2000000 := by omega
  rw [szR_pos (by omega)] at HSZ
  have hnl2 : decide (lf - (totN m n : Nat) < 0) = false := decide_eq_false (by omega)
  generalize lf - (totN m n : Nat) = lf2 at *
  have HTN := Lib.hid htn
  have HTO : Hid (∀ W : World, Below W0.heap.size W0 W → Calls Tryd.prog 23 #[.agg #[.int .i64 n.kind, .string n.data, .slice h.A n.ptrs.length h.a, .int .i64 n.size, .int .i64 n.count, .slice h.B n.items.length h.b]] W (NewN m n W)) := Lib.hid fun W hb => toN_any m n h W Any (HNW.out.below hb) HTN.out
  clear htn hbig
  refine HSZ.out.mono ?_
  rintro e w3 ⟨rfl, hb3⟩
  have HX3 := Lib.hid hb3
  have hdr : Below w3.heap.size w3 w3.drew := ⟨rfl, rfl, rfl, Nat.le_refl _, fun _ _ => rfl⟩
  have HXD := Lib.hid (hb3.trans (hdr.mono hb3.size))
  obtain ⟨a0, a1, a2, a3, a4, a5⟩ := cells6 ((HX3.out.block _ hlt0).trans HR.out)
  obtain ⟨d0, d1, d2, d3, d4, d5⟩ := cells6 ((HXD.out.block _ hlt0).trans HR.out)
  clear hb3 hdr
  go_wp2_with fail
  go_region_with (first
    | (go_at_call 22; refine (toFieldS_any a cap l _ (HFW.out.below HXD.out) (by have := HLL.out; omega)).mono ?_; rintro e w4 ⟨g4, arr4, rfl, hg4, hr4, -, ha4, hb4⟩; have HF4 := Lib.hid (farr_flds hr4 ha4); have HX4 := Lib.hid (HXD.out.trans (hb4.mono HXD.out.size)); obtain ⟨f0, f1, f2, f3, f4, f5⟩ := cells6 ((HX4.out.block _ hlt0).trans HR.out); clear hr4 ha4 hb4 hg4)
    | (go_at_call 23; refine (HTO.out _ HX4.out).mono ?_; rintro e w5 ⟨h5, rfl, hn5, hb5⟩; have HN5 := Lib.hid hn5; have HF5 := Lib.hid (HF4.out.below hb5); have HX5 := Lib.hid (HX4.out.trans (hb5.mono HX4.out.size)); clear hn5 hb5)
    | (go_at_call 21; refine (specRecordChoice_a _ l.length l m n h5 _ _ (by have := HX5.out.size; omega) HF5.out (by have := HLL.out; omega) HN5.out HTN.out).mono ?_; rintro e w6 ⟨rfl, hb6⟩))
  all_goals
    have HX6 := Lib.hid (HX5.out.trans (hb6.mono HX5.out.size))
    clear hb6 a0 a1 a2 a3 a4 a5 d0 d1 d2 d3 d4 d5 f0 f1 f2 f3 f4 f5 HF4 HF5 HN5
    obtain ⟨a0, a1, a2, a3, a4, a5⟩ := cells6 ((HX6.out.block _ hlt0).trans HR.out)
    have hne : (choN l n != choN l n) = false := by simp
    go_wp2_with fail
    refine (toFieldS_any a cap l _ (HFW.out.below HX6.out) (by have := HLL.out; omega)).mono ?_
    rintro e w7 ⟨g7, arr7, rfl, hg7, hr7, -, ha7, hb7⟩
    have HF7 := Lib.hid (farr_flds hr7 ha7)
    have HX7 := Lib.hid (HX6.out.trans (hb7.mono HX6.out.size))
    clear a0 a1 a2 a3 a4 a5 hr7 ha7 hb7 hg7
    obtain ⟨a0, a1, a2, a3, a4, a5⟩ := cells6 ((HX7.out.block _ hlt0).trans HR.out)
    go_wp2_with fail
    refine (HTO.out _ HX7.out).mono ?_
    rintro e w8 ⟨h8, rfl, hn8, hb8⟩
    have hbx := (Below.refl w8.heap.size w8).alloc (Nat.le_refl _) (.cells #[.int .i64 n.kind, .string n.data, .slice h8.A n.ptrs.length h8.a, .int .i64 n.size, .int .i64 n.count, .slice h8.B n.items.length h8.b] nodeT)
    have HB8 := Lib.hid (heap_alloc_new w8 (.cells #[.int .i64 n.kind, .string n.data, .slice h8.A n.ptrs.length h8.a, .int .i64 n.size, .int .i64 n.count, .slice h8.B n.items.length h8.b] nodeT))
    have HN8 := Lib.hid (hn8.below hbx)
    have HF8 := Lib.hid ((HF7.out.below hb8).below hbx)
    have HX8 := Lib.hid ((HX7.out.trans (hb8.mono HX7.out.size)).trans (hbx.mono (HX7.out.trans (hb8.mono HX7.out.size)).size))
    have HL8 := Lib.hid (row_lt HB8.out)
    clear a0 a1 a2 a3 a4 a5 hn8 hb8 hbx
    go_wp2_with fail
    generalize w8.alloc (.cells #[.int .i64 n.kind, .string n.data, .slice h8.A n.ptrs.length h8.a, .int .i64 n.size, .int .i64 n.count, .slice h8.B n.items.length h8.b] nodeT) = W8 at *
    have HTAB := Lib.hid ((HT.out.below HB0.out h1w).below HX8.out (by omega))
    refine (implRecordChoice_a _ l.length l m n h8 W8 _ HTAB.out (by have := HX8.out.size; omega) HF8.out (by have := HLL.out; omega) HN8.out HTN.out).mono ?_
    rintro e w9 ⟨rfl, hb9⟩
    have HX9 := Lib.hid (HX8.out.trans (hb9.mono HX8.out.size))
    have HF9 := Lib.hid (HF8.out.below hb9)
    have HN9 := Lib.hid (HN8.out.below hb9)
    have HB9 := Lib.hid ((hb9.block _ HL8.out).trans HB8.out)
    clear hb9
    go_wp2_with fail
    refine (toFieldS_any a cap l _ (HFW.out.below HX9.out) (by have := HLL.out; omega)).mono ?_
    rintro e w10 ⟨g10, arr10, rfl, hg10, hr10, -, ha10, hb10⟩
    have HF10 := Lib.hid (farr_flds hr10 ha10)
    have HFA10 := Lib.hid (HF9.out.below hb10)
    have HN10 := Lib.hid (HN9.out.below hb10)
    have HB10 := Lib.hid ((hb10.block _ (row_lt HB9.out)).trans HB9.out)
    have HX10 := Lib.hid (HX9.out.trans (hb10.mono HX9.out.size))
    clear hr10 ha10 hb10 hg10
    go_wp2_with fail
    refine (eqFieldS_any _ _ l.length l.length l _ HFA10.out HF10.out (by have := HLL.out; omega)).mono ?_
    rintro e w11 ⟨rfl, hb11⟩
    have HN11 := Lib.hid (HN10.out.below hb11)
    have hb11' := (hb11.block _ (row_lt HB10.out)).trans HB10.out
    have HB11 := Lib.hid hb11'
    have HX11 := Lib.hid (HX10.out.trans (hb11.mono HX10.out.size))
    have hdr : Below w11.heap.size w11 w11.drew := ⟨rfl, rfl, rfl, Nat.le_refl _, fun _ _ => rfl⟩
    have HXD := Lib.hid (HX11.out.trans (hdr.mono HX11.out.size))
    have HND := Lib.hid (HN11.out.below hdr)
    obtain ⟨a0, a1, a2, a3, a4, a5⟩ := cells6 ((HX11.out.block _ hlt0).trans HR.out)
    obtain ⟨d0, d1, d2, d3, d4, d5⟩ := cells6 ((HXD.out.block _ hlt0).trans HR.out)
    obtain ⟨b0, b1, b2, b3, b4, b5⟩ := cells6 hb11'
    obtain ⟨e0, e1, e2, e3, e4, e5⟩ := cells6 ((hdr.block _ (row_lt hb11')).trans hb11')
    clear hb11 hb11' hdr
    go_wp2_with fail
    go_region_with (first
      | (go_at_call 23; refine (HTO.out _ HXD.out).mono ?_; rintro e w12 ⟨h12, rfl, hn12, hb12⟩; have HN12 := Lib.hid hn12; have HM12 := Lib.hid (HND.out.below hb12); have HX12 := Lib.hid (HXD.out.trans (hb12.mono HXD.out.size)); obtain ⟨f0, f1, f2, f3, f4, f5⟩ := cells6 ((HX12.out.block _ hlt0).trans HR.out); obtain ⟨y0, y1, y2, y3, y4, y5⟩ := cells6 ((hb12.block _ (row_lt HB11.out)).trans HB11.out); clear hn12 hb12)
      | (go_at_call 26; refine (eqN_any m n h8 h12 _ _ _ HM12.out HN12.out HTN.out).mono ?_; rintro e w13 ⟨rfl, hb13⟩))
    all_goals
      have HX13 := Lib.hid (HX12.out.trans (hb13.mono HX12.out.size))
      clear hb13
      go_wp2
      go_ret
      exact ⟨rfl, HB0.out.trans (HX13.out.mono HB0.out.size)⟩
end Go.Proofs.YtfiiopchfmcjdabDoor

/- The table that the program's text lays: five places of it. -/
namespace Go.Proofs.YtfiiopchfmcjdabDoor
open Go.RowKit
def tab64 : List Int := [0, 1, 56, 2, 57, 49, 28, 3, 61, 58, 42, 50, 38, 29, 17, 4, 62, 47, 59, 36, 45, 43, 51, 22, 53, 39, 33, 30, 24, 18, 12, 5, 63, 55, 48, 27, 60, 41, 37, 16, 46, 35, 44, 21, 52, 32, 23, 11, 54, 26, 40, 15, 34, 20, 31, 10, 25, 14, 19, 9, 13, 8, 7, 6]
theorem tab64_eq : (Rows.laid_math_bits_deBruijn64tab (H := Unit)) = Lib.tabData .u8 tab64 := by rfl
theorem tab_of {W : World} (h : laidMetH Tryd.prog [("math/bits.deBruijn32tab", Rows.laid_math_bits_deBruijn32tab), ("math/bits.deBruijn64tab", Rows.laid_math_bits_deBruijn64tab)] W) : Tab W := by
  rw [MakeChecks.laidMetH_plain _ _ _ (by kernel_rfl)] at h
  have h1 := laidMet.tail h
  rw [tab64_eq] at h1
  have hT := Lib.tabIs_of_head (g := 4) (t := 205) (e := 5) (n := 64) (by kernel_rfl) (by kernel_rfl) Tryd.underlying205 Tryd.underlying5 (by kernel_rfl) (by kernel_rfl) h1
  have hg : Tryd.prog.globalNamed "math/bits.deBruijn64tab" = some 4 := by kernel_rfl
  exact ⟨hT.cell hg 0 (by decide), hT.cell hg 7 (by decide), hT.cell hg 15 (by decide), hT.cell hg 31 (by decide), hT.cell hg 63 (by decide)⟩
theorem Tab.lt {W : World} (h : Tab W) : 4 < W.heap.size := World.block_lt_of_cell? W _ h.t0
end Go.Proofs.YtfiiopchfmcjdabDoor

/- An argument of fields; the laws' own functions over fields. -/
namespace Go.Proofs.YtfiiopchfmcjdabDoor
open Go.RowKit Go.ChangeShapes Go.WideShapes Go.Deep
section
variable {H : Type} {enc : TypeId × Value → H} {P : Program} {w : World} {base : Nat} {spare : Nat → Bool} {held : Bool}
theorem open_slice_flds {t e : TypeId} {fs : Array Field} {fuel : Nat} {cs : List Value} {x : DataW H × List MemPlace} (ht : P.underlying t = some (.slice e)) (he : P.underlying e = some (.struct fs))
    (hone : oneCellFields P fs = true) (hC : P.cellsOf e = fs.size) (h : DataW.trod enc P w base spare held fuel t cs = some x) :
    cs = [.slice none 0 0] ∨
    ∃ (a : Addr) (len cap : Nat), cs = [.slice (some a) len cap] ∧ len ≤ cap ∧ cap ≤ maxLen ∧
      ∀ i, i < len → ∀ (j : Nat) (f : Field), fs[j]? = some f → ∃ (v : Value) (n : Nat) (y : DataW H × List MemPlace), w.cell? (a.add (i * fs.size + j)) = some v ∧ DataW.trod enc P w base spare held n f.type [v] = some y := by
  rcases open_slice ht h with ⟨h0, _⟩ | ⟨a, len, cap, m, n, D, Pl, hcs, hb, hl, hm, hmm, hx, hi⟩
  · exact .inl h0
  · refine .inr ⟨a, len, cap, hcs, hl, hm, fun i hil j f hj => ?_⟩
    have him : i < m := by rw [hmm]; split <;> omega
    obtain ⟨cs', hc, ht'⟩ := hi i him
    rw [hC] at hc
    obtain ⟨ys, n', hn', hy, hlen, hyl, hf⟩ := DataW.trod_struct he ht'
    obtain ⟨_, hcl, hat⟩ := World.cells?_some hc
    obtain ⟨ho, hk⟩ := hone_of hone j f hj
    have hjl : j < fs.size := (Array.getElem?_eq_some_iff.1 hj).1
    have hcell := hat j hjl
    have hv : cs'[j]? = some (cs'[j]'(by omega)) := List.getElem?_eq_getElem (by omega)
    have h1 := hf j f hj
    rw [ho, hk] at h1
    have hone' : (cs'.drop j).take 1 = [cs'[j]'(by omega)] := by
      rw [List.drop_eq_getElem_cons (by omega)]
      rfl
    rw [hone'] at h1
    have hys : ys[j]? = some (ys[j]'(by omega)) := List.getElem?_eq_getElem (by omega)
    refine ⟨_, _, _, ?_, h1.trans hys⟩
    rw [← Go.Deep.add_add, hcell, hv]
theorem argF {fuel : Nat} {a : Option Addr} {len cap : Nat} {x : DataW H × List MemPlace} (h : DataW.trod enc Tryd.prog w base spare held fuel 44 [.slice a len cap] = some x) :
    ∃ l : List Fld, l.length = len ∧ Flds w a l ∧ len ≤ maxLen := by
  rcases open_slice_flds Tryd.underlying44 Tryd.underlying91 (by kernel_rfl) (by kernel_rfl) h with hcs | ⟨b, l, c, hcs, hl, hm, hc⟩
  · simp at hcs
    obtain ⟨rfl, rfl, rfl⟩ := hcs
    exact ⟨[], rfl, .inl rfl, by decide⟩
  · simp at hcs
    obtain ⟨rfl, rfl, rfl⟩ := hcs
    have hcell : ∀ i, i < len → ∃ f : Fld, w.cell? (b.add (i * 3)) = some (.int .i64 f.size) ∧ w.cell? (b.add (i * 3 + 1)) = some (.bool f.choice) ∧ w.cell? (b.add (i * 3 + 2)) = some (.int .i64 f.els) := by
      intro i hi
      obtain ⟨v0, n0, y0, c0, t0⟩ := hc i hi 0 _ rfl
      obtain ⟨v1, n1, y1, c1, t1⟩ := hc i hi 1 _ rfl
      obtain ⟨v2, n2, y2, c2, t2⟩ := hc i hi 2 _ rfl
      obtain ⟨z0, e0, _⟩ := DataW.trod_int Tryd.underlying3 t0
      obtain ⟨z1, e1, _⟩ := DataW.trod_bool Tryd.underlying4 t1
      obtain ⟨z2, e2, _⟩ := DataW.trod_int Tryd.underlying3 t2
      injection e0 with e0
      injection e1 with e1
      injection e2 with e2
      subst e0 e1 e2
      exact ⟨⟨z0, z1, z2⟩, c0, c1, c2⟩
    haveI : Inhabited Fld := ⟨⟨0, false, 0⟩⟩
    obtain ⟨g, hg⟩ := choose_lt hcell
    refine ⟨(List.range len).map g, by simp, ?_, Nat.le_trans hl hm⟩
    by_cases h0 : len = 0
    · subst h0; exact .inl rfl
    · refine .inr ⟨b, rfl, ?_, fun k f hk => ?_⟩
      · have := World.block_lt_of_cell? w _ (hg 0 (by omega)).1
        rwa [addr_block] at this
      · rw [List.getElem?_map] at hk
        by_cases hlt : k < len
        · rw [List.getElem?_range hlt] at hk
          injection hk with hk
          subst hk
          obtain ⟨c0, c1, c2⟩ := hg k hlt
          exact ⟨c0, by rw [add_off2 _ _ 1 (by decide)]; exact c1, by rw [add_off2 _ _ 2 (by decide)]; exact c2⟩
        · rw [List.getElem?_eq_none (by simpa using hlt)] at hk; cases hk
end
end Go.Proofs.YtfiiopchfmcjdabDoor
