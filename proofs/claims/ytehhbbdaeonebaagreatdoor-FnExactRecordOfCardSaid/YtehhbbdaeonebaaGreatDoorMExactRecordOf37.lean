/- Texts of the proof of the law FnExactRecordOf, side by side: part 37. -/
import Derived.Laws.StructEq
import Derived.Test.YtehhbbdaeonebaaGreatDoorMExactRecordOf36
set_option maxHeartbeats 8000000
set_option maxRecDepth 100000
namespace Go.Proofs.YtehhbbdaeonebaaGreatDoor
open Go.RowKit Go.Deep
theorem specRecordOf_a (x : Addr) (c : Nat) (l : List Fld) (B : Option Addr) (cb : Nat) (vs : List Vl) (ch : Int) (m : Nat) (w : World) (h1w : 1 < w.heap.size) (hxb : x.block < w.heap.size) (hfl : Flds w (some x) l) (hll : l.length ≤ 10000000) (hvs : ValsAt w Any m B vs) (hvl : vs.length ≤ 10000000) (hsv : sumV vs ≤ 1900000) (hc : l.length ≤ c) (hrg : ∀ k, -9223372036854775808 ≤ (vlK vs k).num ∧ (vlK vs k).num ≤ 9223372036854775807) :
 Calls Tryz.prog 19 #[.slice (some x) l.length c, .slice B vs.length cb, .int .i64 ch] w (NewNb (m + 2) (roN l vs ch) (roB l vs ch) w) := by
 have no : roB l vs ch = false → NewNb (m + 2) (roN l vs ch) (roB l vs ch) w = NewNb (m + 2) noneNd false w := fun h => by
  have e : roN l vs ch = noneNd := by unfold roN; rw [h]; rfl
  rw [h, e]
 cases hyes : fldsOk l
 · rw [no (by unfold roB; rw [hyes]; rfl)]
   exact roS_no x c l B cb vs ch m w h1w hxb hfl hll hvs hvl hsv (m + 2) hyes
 by_cases hlen : vs.length = l.length
 · cases hch : chB l ch
   · rw [no (by unfold roB; rw [hch]; simp)]
     exact roS_choice x c l B cb vs ch m w h1w hxb hfl hll hvs hvl hsv (m + 2) hyes hlen hch
   · by_cases h0 : plcN l l.length = 0
     · exact roS_zero x c l B cb vs ch m w h1w hxb hfl hll hvs hvl hsv hc hrg hyes hlen hch h0 (by unfold chB at hch; rw [if_pos h0] at hch; simpa using hch)
     · exact roS_pos x c l B cb vs ch m w h1w hxb hfl hll hvs hvl hsv hc hrg hyes hlen hch (by
        unfold chB at hch
        rw [if_neg h0] at hch
        have e : inB ch 0 ((plcN l l.length : Int) - 1) = withB ch (plcN l l.length : Int) := by rw [Bool.eq_iff_iff]; simp [inB, withB]; omega
        rw [e, hch])
 · rw [no (by unfold roB; rw [decide_eq_false hlen]; simp)]
   exact roS_len x c l B cb vs ch m w h1w hxb hfl hll hvs hvl hsv (m + 2) hyes hlen
end Go.Proofs.YtehhbbdaeonebaaGreatDoor
namespace Go.Proofs.YtehhbbdaeonebaaGreatDoor
open Go.RowKit
abbrev fieldT : TypeId := 62
theorem add_off2 (x : Addr) (n m : Nat) (hm : 0 < m) : (⟨(x.add n).block, (x.add n).off + m, none⟩ : Addr) = x.add (n + m) := by
 by_cases h : n = 0
 · subst h
   simp only [Addr.add, if_true, Nat.zero_add]
   rw [if_neg (by omega)]
 · simp only [Addr.add, h, if_false]
   rw [if_neg (by omega)]
   simp <;> omega
theorem add_zero_at (g j : Nat) : (⟨g, 0, none⟩ : Addr).add j = ⟨g, j, none⟩ := by
 unfold Addr.add
 split
 · rename_i h; rw [h]
 · simp
theorem infoFld : (Tryz.prog.info? fieldT).map (fun i => (i.zero, i.size, i.bytes)) = some (some (.agg #[.int .i64 0, .bool false, .int .i64 0]), 3, 24) := by kernel_rfl
def szF (n : Nat) (left : Int) : Int := if left - n < 0 then -1 else left - n
theorem szFieldS_any (A : Option Addr) (n c : Nat) (left : Int) (w : World) (hn : n ≤ maxLen) (h0 : 0 ≤ left) (h1 : left ≤ 10000000) :
 Calls Tryz.prog 5 #[.slice A n c, .int .i64 left] w fun e w' => e = .returned (.int .i64 (szF n left)) ∧ w = w' := by
 unfold maxLen at hn
 by_cases h : left - n < 0
 · have HE : Hid (szF n left = -1) := Lib.hid (by unfold szF; rw [if_pos h])
   go_enter Tryz.func5, Tryz.ntmps5
   go_wp2
   go_ret
   exact ⟨by rw [HE.out]; rfl, rfl⟩
 · have HE : Hid (szF n left = left - n) := Lib.hid (by unfold szF; rw [if_neg h])
   have h' : 0 ≤ left - n := by omega
   go_enter Tryz.func5, Tryz.ntmps5
   go_wp2
   go_ret
   exact ⟨by rw [HE.out]; rfl, rfl⟩
theorem toField_any (z el : Int) (c : Bool) (w : World) :
 Calls Tryz.prog 33 #[.agg #[.int .i64 z, .bool c, .int .i64 el]] w fun e w' => e = .returned (.agg #[.int .i64 z, .bool c, .int .i64 el]) ∧ Below w.heap.size w w' := by
 go_enter Tryz.func33, Tryz.ntmps33
 go_wp2
 exact bodyPost_ret (v := .agg #[.int .i64 z, .bool c, .int .i64 el]) (by simp [results, Tryz.results33, go_sem]) rfl ⟨rfl, by repeat (first | exact Below.refl _ _ | refine Below.alloc ?_ (by simp; try omega) _ | refine Below.setCell ?_ (by simp) _)⟩
theorem eqField_any (z el : Int) (c : Bool) (w : World) :
 Calls Tryz.prog 42 #[.agg #[.int .i64 z, .bool c, .int .i64 el], .agg #[.int .i64 z, .bool c, .int .i64 el]] w fun e w' => e = .returned (.bool true) ∧ Below w.heap.size w w' := by
 go_enter Tryz.func42, Tryz.ntmps42
 go_wp2
 go_ret
 exact ⟨rfl, ((Below.refl _ _).alloc (Nat.le_refl _) _).alloc (by simp) _⟩
theorem row_setF {w : World} {g : Nat} {cs : Array Value} {T : TypeId} (h : w.heap[g]? = some (.cells cs T (0, 0))) (i : Nat) (u : Value) : (w.setCell ⟨g, i, none⟩ u).heap[g]? = some (.cells (cs.setIfInBounds i u) T (0, 0)) := by
 simp [World.setCell, Array.getElem?_modify, h]
def FArr (arr : Array Value) (l : List Fld) (k : Nat) : Prop := ∀ j (h : j < l.length), j < k → arr[j * 3]? = some (.int .i64 (l[j]).size) ∧ arr[j * 3 + 1]? = some (.bool (l[j]).choice) ∧ arr[j * 3 + 2]? = some (.int .i64 (l[j]).els)
theorem farr_step {arr : Array Value} {l : List Fld} {k : Nat} (h : FArr arr l k) (hk : k < l.length) (hs : arr.size = l.length * 3) :
 FArr (((arr.setIfInBounds (k * 3) (.int .i64 (l[k]).size)).setIfInBounds (k * 3 + 1) (.bool (l[k]).choice)).setIfInBounds (k * 3 + 2) (.int .i64 (l[k]).els)) l (k + 1) := by
 intro j hj hjk
 by_cases e : j = k
 · subst e
   refine ⟨?_, ?_, ?_⟩
   · rw [Array.getElem?_setIfInBounds_ne (by omega), Array.getElem?_setIfInBounds_ne (by omega), Array.getElem?_setIfInBounds_self_of_lt (by omega)]
   · rw [Array.getElem?_setIfInBounds_ne (by omega), Array.getElem?_setIfInBounds_self_of_lt (by simp; omega)]
   · rw [Array.getElem?_setIfInBounds_self_of_lt (by simp; omega)]
 · obtain ⟨h0, h1, h2⟩ := h j hj (by omega)
   refine ⟨?_, ?_, ?_⟩
   · rw [Array.getElem?_setIfInBounds_ne (by omega), Array.getElem?_setIfInBounds_ne (by omega), Array.getElem?_setIfInBounds_ne (by omega)]; exact h0
   · rw [Array.getElem?_setIfInBounds_ne (by omega), Array.getElem?_setIfInBounds_ne (by omega), Array.getElem?_setIfInBounds_ne (by omega)]; exact h1
   · rw [Array.getElem?_setIfInBounds_ne (by omega), Array.getElem?_setIfInBounds_ne (by omega), Array.getElem?_setIfInBounds_ne (by omega)]; exact h2
theorem farr_flds {w : World} {g : Nat} {arr : Array Value} {l : List Fld} (hr : w.heap[g]? = some (.cells arr fieldT (0, 0))) (h : FArr arr l l.length) : Flds w (some ⟨g, 0, none⟩) l := by
 refine .inr ⟨_, rfl, row_lt hr, fun k f hk => ?_⟩
 have hlt : k < l.length := by
  rcases Nat.lt_or_ge k l.length with h' | h'
  · exact h'
  · rw [List.getElem?_eq_none h'] at hk; cases hk
 obtain rfl : l[k] = f := by rw [List.getElem?_eq_getElem hlt] at hk; injection hk
 obtain ⟨h0, h1, h2⟩ := h k hlt hlt
 refine ⟨?_, ?_, ?_⟩
 · rw [add_zero_at, cell_of_row _ _ _ _ _ _ hr]; exact h0
 · rw [add_off2 _ _ 1 (by decide), add_zero_at, cell_of_row _ _ _ _ _ _ hr]; exact h1
 · rw [add_off2 _ _ 2 (by decide), add_zero_at, cell_of_row _ _ _ _ _ _ hr]; exact h2
theorem some_at {arr : Array Value} {i n : Nat} (hs : arr.size = n) (h : i < n) : ∃ v, arr[i]? = some v := ⟨arr[i]'(by omega), by rw [Array.getElem?_eq_getElem]⟩
def ToP (l : List Fld) (w : World) (e : Ending) (w' : World) : Prop := ∃ (g : Nat) (arr : Array Value), e = .returned (.slice (some ⟨g, 0, none⟩) l.length l.length) ∧ w.heap.size ≤ g ∧ w'.heap[g]? = some (.cells arr fieldT (0, 0)) ∧ arr.size = l.length * 3 ∧ FArr arr l l.length ∧ Below w.heap.size w w'
theorem toFieldS_any (A : Option Addr) (c : Nat) (l : List Fld) (w : World) (h : Flds w A l) (hl : l.length ≤ 2000000) :
 Calls Tryz.prog 8 #[.slice A l.length c] w (ToP l w) := by
 obtain ⟨i0, hi, hz0, hz1, hz2⟩ := info_parts infoFld
 have hmk : ∀ w : World, (Instr.makeSlice 35 (.int .i64 (l.length : Int)) (.int .i64 (l.length : Int))).run Tryz.prog w = .ok (.slice (some ⟨w.heap.size, 0, none⟩) l.length l.length) (w.alloc (.cells (madeCells #[.int .i64 0, .bool false, .int .i64 0] (l.length * 3)) fieldT)) := fun w => by
  have := run_make (P := Tryz.prog) w 35 fieldT i0 (.agg #[.int .i64 0, .bool false, .int .i64 0]) Tryz.underlying35 hi hz0 .i64 .i64 (l.length : Int) (l.length : Int) (by omega) (Int.le_refl _) (by rw [hz2]; omega) (by omega)
  rw [hz1] at this
  simp only [Int.toNat_natCast] at this
  exact this
 have HF := Lib.hid h
 clear h
 go_enter Tryz.func8, Tryz.ntmps8
 go_wp2
 have HROW := Lib.hid (heap_alloc_new w (.cells (madeCells #[.int .i64 0, .bool false, .int .i64 0] (l.length * 3)) fieldT))
 obtain ⟨x, hx⟩ : ∃ x : Addr, x = ⟨w.heap.size, 0, none⟩ := ⟨_, rfl⟩
 rw [← hx]
 have HX := Lib.hid hx
 clear hx hmk
 go_loopw [4] (fun i wr => ∃ k : Nat, i = .int .i64 k ∧ k ≤ l.length ∧ Hid (∃ arr, wr.heap[w.heap.size]? = some (.cells arr fieldT (0, 0)) ∧ arr.size = l.length * 3 ∧ FArr arr l k) ∧ Hid (Below w.heap.size w wr)) (fun i _ => l.length - (intOf i).toNat)
 case atStart => exact ⟨0, rfl, by omega, Lib.hid ⟨_, HROW.out, size_madeCells _ _, fun j _ hj => absurd hj (Nat.not_lt_zero _)⟩, Lib.hid ((Below.refl _ _).alloc (Nat.le_refl _) _)⟩
 case round =>
  obtain ⟨k, rfl, hk, HA, HB⟩ := hrel
  by_cases hlt : k < l.length
  · obtain ⟨y, rfl, hy⟩ := (HF.out.below HB.out).at_ hlt
    obtain ⟨arr, hrow, hsz, harr⟩ := HA.out
    have hst := farr_step harr hlt hsz
    obtain ⟨d0, d1, d2⟩ := hy
    generalize l[k] = f at d0 d1 d2 hst
    obtain ⟨z, fc, el⟩ := f
    have hrlt := row_lt hrow
    have HROWK := Lib.hid hrow
    have HST := Lib.hid hst
    have HSZ := Lib.hid hsz
    clear harr hst
    go_wp2_with fail
    refine (toField_any z el fc _).mono ?_
    rintro e w2 ⟨rfl, hb2⟩
    have hrow2 := (hb2.block w.heap.size hrlt).trans HROWK.out
    obtain ⟨v0, hv0⟩ := some_at (i := k * 3) hsz (by omega)
    obtain ⟨v1, hv1⟩ := some_at (i := k * 3 + 1) hsz (by omega)
    obtain ⟨v2, hv2⟩ := some_at (i := k * 3 + 2) hsz (by omega)
    have hadd : x.add (k * 3) = ⟨w.heap.size, k * 3, none⟩ := by rw [HX.out, add_zero_at]
    have p0 : w2.cell? ⟨w.heap.size, k * 3, none⟩ = some v0 := by rw [cell_of_row _ _ _ _ _ _ hrow2]; exact hv0
    have p1 : w2.cell? ⟨w.heap.size, k * 3 + 1, none⟩ = some v1 := by rw [cell_of_row _ _ _ _ _ _ hrow2]; exact hv1
    have p2 : w2.cell? ⟨w.heap.size, k * 3 + 2, none⟩ = some v2 := by rw [cell_of_row _ _ _ _ _ _ hrow2]; exact hv2
    have z0 := row_free hrow2
    have HR2 := Lib.hid hrow2
    have HB2 := Lib.hid (HB.out.trans (hb2.mono HB.out.size))
    clear hrow hsz hrow2 hb2 hv0 hv1 hv2
    go_wp2
    go_roundw
    case rel => exact ⟨k + 1, by go_num, by omega, Lib.hid ⟨_, row_setF (row_setF (row_setF HR2.out (k * 3) _) (k * 3 + 1) _) (k * 3 + 2) _, by simp [HSZ.out], HST.out⟩, Lib.hid (((HB2.out.setCell (p := ⟨w.heap.size, k * 3, none⟩) (Nat.le_refl _) _).setCell (p := ⟨w.heap.size, k * 3 + 1, none⟩) (Nat.le_refl _) _).setCell (p := ⟨w.heap.size, k * 3 + 2, none⟩) (Nat.le_refl _) _)⟩
    case measure => simp [intOf]; omega
  · obtain rfl : k = l.length := by omega
    obtain ⟨arr, hrow, hsz, harr⟩ := HA.out
    have HX2 := HX
    go_wp2
    go_ret
    rw [HX2.out]
    exact ⟨w.heap.size, arr, rfl, Nat.le_refl _, hrow, hsz, harr, HB.out⟩
theorem eqFieldS_any (A B : Option Addr) (c c' : Nat) (l : List Fld) (w : World) (h : Flds w A l) (h' : Flds w B l) (hl : l.length ≤ 2000000) :
 Calls Tryz.prog 12 #[.slice A l.length c, .slice B l.length c'] w fun e w' => e = .returned (.bool true) ∧ Below w.heap.size w w' := by
 have HF := Lib.hid h
 have HG := Lib.hid h'
 clear h h'
 go_enter Tryz.func12, Tryz.ntmps12
 go_wp2
 go_loopw [5] (fun i wr => ∃ k : Nat, i = .int .i64 k ∧ k ≤ l.length ∧ Hid (Below w.heap.size w wr)) (fun i _ => l.length - (intOf i).toNat)
 case atStart => exact ⟨0, rfl, by omega, Lib.hid (Below.refl _ _)⟩
 case round =>
  obtain ⟨k, rfl, hk, HB⟩ := hrel
  by_cases hlt : k < l.length
  · obtain ⟨x, rfl, hx⟩ := (HF.out.below HB.out).at_ hlt
    obtain ⟨y, rfl, hy⟩ := (HG.out.below HB.out).at_ hlt
    obtain ⟨c0, c1, c2⟩ := hx
    obtain ⟨d0, d1, d2⟩ := hy
    generalize l[k] = f at c0 c1 c2 d0 d1 d2
    obtain ⟨z, fc, el⟩ := f
    have hk2 : (k : Int) < (l.length : Int) := by omega
    have hx1 : (x.add (k * 3)).block < wr.heap.size := World.block_lt_of_cell? wr _ c0
    have hx2 : (y.add (k * 3)).block < wr.heap.size := World.block_lt_of_cell? wr _ d0
    have hs := HB.out.size
    go_wp2
    go_region_with (go_at_call 42; refine (eqField_any z el fc _).mono ?_; rintro e w2 ⟨rfl, hb2⟩)
    all_goals
     have HB2 := Lib.hid (HB.out.trans ((show Below w.heap.size wr wr.drew from ⟨rfl, rfl, rfl, Nat.le_refl _, fun _ _ => rfl⟩).trans (hb2.mono (by simpa using hs))))
     clear hb2
     go_wp2
     go_roundw
     case rel => exact ⟨k + 1, by go_num, by omega, HB2⟩
     case measure => simp [intOf]; omega
  · obtain rfl : k = l.length := by omega
    go_wp2
    go_ret
    exact ⟨rfl, HB.out⟩
def MFP (g n : Nat) (w : World) (e : Ending) (w' : World) : Prop := e = .returned (.int .i64 ((1 + 3 * n : Nat) : Int)) ∧ w.grownBy w' (some g)
theorem markFieldS_any (g n c : Nat) (arr : Array Value) (w : World) (hr : w.heap[g]? = some (.cells arr fieldT (0, 0))) (hs : arr.size = n * 3) (hn : n ≤ 2000000) :
 Calls Tryz.prog 14 #[.slice (some ⟨g, 0, none⟩) n c, .int .i64 1] w (MFP g n w) := by
 obtain ⟨x, hx⟩ : ∃ x : Addr, x = ⟨g, 0, none⟩ := ⟨_, rfl⟩
 have hadd : ∀ j, x.add j = ⟨g, j, none⟩ := fun j => by rw [hx, add_zero_at]
 rw [← hx]
 have HX := Lib.hid hx
 have HADD := Lib.hid hadd
 have HR := Lib.hid hr
 have HS := Lib.hid hs
 clear hx hadd hr hs
 go_enter Tryz.func14, Tryz.ntmps14
 go_wp2
 go_loopw [1, 5] (fun q i wr => ∃ j : Nat, q = .int .i64 ((1 + 3 * j : Nat) : Int) ∧ i = .int .i64 j ∧ j ≤ n ∧ Hid (∃ ar, wr.heap[g]? = some (.cells ar fieldT (0, 0)) ∧ ar.size = n * 3) ∧ Hid (w.grownBy wr (some g))) (fun _ i _ => n - (intOf i).toNat)
 case atStart => exact ⟨0, rfl, rfl, by omega, Lib.hid ⟨arr, HR.out, HS.out⟩, Lib.hid ⟨rfl, rfl, rfl, Nat.le_refl _, fun _ _ _ => rfl⟩⟩
 case round =>
  obtain ⟨j, rfl, rfl, hj, HA, HG⟩ := hrel
  by_cases hlt : j < n
  · obtain ⟨ar, hrow, hsz⟩ := HA.out
    obtain ⟨v0, hv0⟩ := some_at (i := j * 3) hsz (by omega)
    obtain ⟨v1, hv1⟩ := some_at (i := j * 3 + 1) hsz (by omega)
    obtain ⟨v2, hv2⟩ := some_at (i := j * 3 + 2) hsz (by omega)
    have p0 : wr.cell? ⟨g, j * 3, none⟩ = some v0 := by rw [cell_of_row _ _ _ _ _ _ hrow]; exact hv0
    have p1 : wr.cell? ⟨g, j * 3 + 1, none⟩ = some v1 := by rw [cell_of_row _ _ _ _ _ _ hrow]; exact hv1
    have p2 : wr.cell? ⟨g, j * 3 + 2, none⟩ = some v2 := by rw [cell_of_row _ _ _ _ _ _ hrow]; exact hv2
    have z0 := row_free hrow
    have haj := HADD.out (j * 3)
    have HROW := Lib.hid hrow
    have HSZ := Lib.hid hsz
    have hq0 : 0 ≤ ((1 + 3 * j : Nat) : Int) := by omega
    have hq1 : ((1 + 3 * j : Nat) : Int) ≤ 10000000 := by omega
    have HQ : Hid (((1 + 3 * j : Nat) : Int) + 1 + 1 + 1 = ((1 + 3 * (j + 1) : Nat) : Int)) := Lib.hid (by omega)
    clear hrow hsz hv0 hv1 hv2
    generalize ((1 + 3 * j : Nat) : Int) = qq at *
    obtain ⟨bq, hbq⟩ : ∃ b, ((qq + 1) % 3 == 0) = b := ⟨_, rfl⟩
    have hbt : ((qq + 1).tmod 3 == 0) = bq := by rw [Int.tmod_eq_emod_of_nonneg (by omega)]; exact hbq
    have HG2 := Lib.hid (fun a b c => grown_trans (grown_trans (grown_trans HG.out (grown_set wr g (j * 3) a)) (grown_set _ g (j * 3 + 1) b)) (grown_set _ g (j * 3 + 2) c))
    go_wp2
    go_roundw
    case rel => exact ⟨j + 1, by rw [HQ.out], by go_num, by omega, Lib.hid ⟨_, row_setF (row_setF (row_setF HROW.out (j * 3) _) (j * 3 + 1) _) (j * 3 + 2) _, by simp [HSZ.out]⟩, Lib.hid (HG2.out _ _ _)⟩
    case measure => simp [intOf]; omega
  · obtain rfl : j = n := by omega
    go_wp2
    go_ret
    exact ⟨rfl, HG.out⟩
end Go.Proofs.YtehhbbdaeonebaaGreatDoor
