/- impl.FramePut and spec.FramePut answer the same at every argument. -/
import Derived.Test.YtliiffpegfkpbabDoorFrameOk
import Derived.Test.YtliiffpegfkpbabDoorPutW
import Derived.Test.YtliiffpegfkpbabDoorBuilder2
import Derived.Test.YtliiffpegfkpbabDoorBString
namespace Go.Proofs.YtliiffpegfkpbabDoor
open Go.RowKit
theorem sz4 (n : Int) : (⟨(leB n 4).toArray⟩ : ByteArray).size = 4 := by rw [show (⟨(leB n 4).toArray⟩ : ByteArray).size = (leB n 4).length by simp [ByteArray.size], leB_length]
theorem take_leB (n : Int) : (leB n 8).take 4 = leB n 4 := by
  have h := leB_add n 4 4
  rw [show (4 + 4 : Nat) = 8 from rfl] at h
  rw [h, List.take_append_of_le_length (by rw [leB_length]; omega), List.take_of_length_le (by rw [leB_length]; omega)]
set_option maxHeartbeats 1000000 in
theorem putNumber_any (n : Int) (w : World) (h0 : 0 ≤ n) (h1 : n ≤ 1099511627776) :
    Calls Tryd.prog 29 #[.int .i64 n] w fun e w' => e = .returned (.string ⟨(leB n 4).toArray⟩) ∧ Below w.heap.size w w' := by
  have e1 : IntKind.u64.wrap n = n := by rw [IntKind.wrap_u64]; omega
  have hcut : (⟨(leB n 8).toArray⟩ : ByteArray).extract 0 4 = ⟨(leB n 4).toArray⟩ := by
    apply ext_ba; rw [Lib.extract_data]; simp [take_leB]
  have hsz : (⟨(leB n 8).toArray⟩ : ByteArray).size = 8 := by simp [ByteArray.size, leB_length]
  have HC := Lib.hid hcut
  clear hcut
  go_enter Tryd.func29, Tryd.ntmps29
  go_wp2_with fail
  refine (wordOf_any n _ h0 (by omega)).mono ?_
  rintro e w1 ⟨rfl, hb1⟩
  go_wp2_with fail
  refine (text_any (leB n 8) _ (leB_length n 8)).mono ?_
  rintro e w2 ⟨rfl, hb2⟩
  generalize (⟨(leB n 8).toArray⟩ : ByteArray) = u at HC hsz ⊢
  have g1 : (4 : Int) ≤ (u.size : Int) := by omega
  have HS := Lib.hid hsz
  have hc := HC.out
  clear hsz
  go_wp2
  go_ret
  exact ⟨rfl, hb1.trans (hb2.mono hb1.size)⟩
def numsL (ss : List ByteArray) : List UInt8 := ss.flatMap fun s => leB ((s.size / 8 : Nat) : Int) 4
def bodyL (ss : List ByteArray) : List UInt8 := ss.flatMap fun s => s.data.toList
def fillL (n : Nat) : List UInt8 := if n % 2 = 0 then leB 0 4 else []
/-- what FramePut answers. -/
def frameL (ss : List ByteArray) : List UInt8 := if frOk ss = true then leB ((ss.length : Int) - 1) 4 ++ numsL ss ++ fillL ss.length ++ bodyL ss else []
theorem numsL_take (ss : List ByteArray) (k : Nat) (h : k < ss.length) : numsL (ss.take (k + 1)) = numsL (ss.take k) ++ leB (((ss[k]).size / 8 : Nat) : Int) 4 := by
  rw [List.take_succ_eq_append_getElem h, numsL, numsL, List.flatMap_append, List.flatMap_cons, List.flatMap_nil, List.append_nil]
theorem bodyL_take (ss : List ByteArray) (k : Nat) (h : k < ss.length) : bodyL (ss.take (k + 1)) = bodyL (ss.take k) ++ (ss[k]).data.toList := by
  rw [List.take_succ_eq_append_getElem h, bodyL, bodyL, List.flatMap_append, List.flatMap_cons, List.flatMap_nil, List.append_nil]
theorem numsL_length : ∀ ss : List ByteArray, (numsL ss).length = 4 * ss.length
  | [] => rfl
  | s :: r => by rw [numsL, List.flatMap_cons, List.length_append, leB_length, ← numsL, numsL_length r, List.length_cons]; omega
theorem bodyL_length : ∀ ss : List ByteArray, (bodyL ss).length = tot ss
  | [] => rfl
  | s :: r => by rw [bodyL, List.flatMap_cons, List.length_append, ← bodyL, bodyL_length r]; simp [tot]
theorem fillL_length (n : Nat) : (fillL n).length ≤ 4 := by unfold fillL; split <;> simp [leB_length]
set_option maxHeartbeats 400000 in
theorem headBytes_any (n : Nat) (w : World) (h : n ≤ 1000) :
    Calls Tryd.prog 31 #[.int .i64 n] w fun e w' => e = .returned (.int .i64 (((n / 2 + 1) * 8 : Nat) : Int)) ∧ w = w' := by
  go_enter Tryd.func31, Tryd.ntmps31
  go_wp2
  go_ret
  exact ⟨ret_int (by omega), rfl⟩
theorem frOk_parts {ss : List ByteArray} (h : frOk ss = true) : (1 ≤ ss.length ∧ ss.length ≤ 6) ∧ tot ss ≤ 1600 := by
  simp only [frOk, Bool.and_eq_true, decide_eq_true_eq] at h
  exact ⟨h.1, h.2.2⟩
theorem strCells_eq (s : ByteArray) : Lib.strCells s = Lib.byteCells s.data.toList := rfl
theorem cells_app (a b : List UInt8) : Lib.byteCells a ++ Lib.byteCells b = Lib.byteCells (a ++ b) := by simp [Lib.byteCells]
theorem mk_cells (l : List UInt8) : Lib.strCells ⟨l.toArray⟩ = Lib.byteCells l := by simp [Lib.strCells, Lib.byteCells]
theorem tot_get (ss : List ByteArray) (k : Nat) (h : k < ss.length) : (ss[k]).size ≤ tot ss := by
  have h1 := tot_take ss k h
  have h2 := tot_take_le ss (k + 1)
  omega
set_option maxHeartbeats 4000000 in
theorem implFramePut_yes (A : Option Addr) (cap : Nat) (ss : List ByteArray) (w : World) (h : Strs w A ss) (hok : frOk ss = true) :
    Calls Tryd.prog 8 #[.slice A ss.length cap] w fun e w' => e = .returned (.string ⟨(frameL ss).toArray⟩) ∧ Below w.heap.size w w' := by
  obtain ⟨⟨hn1, hn6⟩, htot⟩ := frOk_parts hok
  have HFO : Hid (∀ w : World, Strs w A ss → Calls Tryd.prog 10 #[.slice A ss.length cap] w fun e w' => e = .returned (.bool true) ∧ w = w') := Lib.hid (fun w h => by
    have := implFrameOk_any A cap ss w h (by omega)
    rw [hok] at this; exact this)
  have hfin : frameL ss = leB ((ss.length : Int) - 1) 4 ++ numsL ss ++ fillL ss.length ++ bodyL ss := by rw [frameL, if_pos hok]
  have HF := Lib.hid hfin
  obtain ⟨a, rfl, hlt, hcells⟩ := h.2.resolve_left (by intro h0; rw [h0] at hn1; simp at hn1)
  have HCells := Lib.hid hcells
  have H := Lib.hid h
  clear hfin hok h hcells
  go_enter Tryd.func8, Tryd.ntmps8
  go_wp2_with fail
  refine (HFO.out _ H.out).mono ?_
  rintro e w' ⟨rfl, rfl⟩
  go_wp2_with fail
  refine (putNumber_any _ _ (by omega) (by omega)).mono ?_
  rintro e w1 ⟨rfl, hb1⟩
  have HB0 : Hid (Bld (w.heap.size + 1) w.heap.size [] w1 ∧ Below w.heap.size w w1 ∧ w.heap.size + 1 ≤ w1.heap.size) := by
    refine ⟨Bld.fresh _ ((hb1.block _ (by simp)).trans (heap_alloc_new w _)), ((Below.refl _ w).alloc (Nat.le_refl _) _).trans (hb1.mono (by simp)), ?_⟩
    have := hb1.size
    simpa using this
  clear hb1
  go_wp2_with fail
  refine (writeString_any _ _ _ _ _ HB0.out.1 (by simp) (by rw [sz4]; omega) HB0.out.2.2).mono ?_
  rintro e w2 ⟨rfl, h2, k2⟩
  have HB : Hid (Bld (w.heap.size + 1) w.heap.size (Lib.byteCells (leB ((ss.length : Int) - 1) 4)) w2 ∧ Below w.heap.size w w2 ∧ w.heap.size + 1 ≤ w2.heap.size) := by
    refine ⟨?_, HB0.out.2.1.trans (k2.below (by omega) (Nat.le_refl _)), Nat.le_trans HB0.out.2.2 k2.size⟩
    rw [mk_cells] at h2
    exact h2
  clear h2 k2 HB0
  go_wp2_with fail
  go_loopw [5, 18] (fun _ i wr => ∃ k : Nat, k ≤ ss.length ∧ i = .int .i64 k ∧ Hid (Bld (w.heap.size + 1) w.heap.size (Lib.byteCells (leB ((ss.length : Int) - 1) 4 ++ numsL (ss.take k))) wr ∧ Below w.heap.size w wr ∧ w.heap.size + 1 ≤ wr.heap.size)) (fun _ i _ => ss.length - (intOf i).toNat)
  case atStart => exact ⟨0, by omega, rfl, by simpa [numsL] using HB.out.1, HB.out.2⟩
  case round =>
    obtain ⟨k, hk, rfl, HR⟩ := hrel
    by_cases hk1 : k < ss.length
    · have hc := (HR.out.2.1.cell (p := a.add k) (by rw [add_block]; exact hlt)).trans (HCells.out k hk1)
      have hsz := tot_get ss k hk1
      have hnt := numsL_take ss k hk1
      have HNT := Lib.hid hnt
      obtain ⟨s, hs⟩ : ∃ s, ss[k] = s := ⟨_, rfl⟩
      rw [hs] at hc hsz
      have HS := Lib.hid hs
      have hnl : (numsL (ss.take k)).length ≤ 4 * ss.length := by rw [numsL_length, List.length_take]; omega
      clear hnt hs
      go_wp2_with fail
      refine (putNumber_any _ _ (by omega) (by omega)).mono ?_
      rintro e w3 ⟨rfl, hb3⟩
      have hBld3 : Bld (w.heap.size + 1) w.heap.size (Lib.byteCells (leB ((ss.length : Int) - 1) 4 ++ numsL (ss.take k))) w3 := bld_below HR.out.1 hb3
      have HB3 := Lib.hid hBld3
      have HB4 := Lib.hid (HR.out.2.1.trans (hb3.mono (by have := HR.out.2.2; omega)))
      have HB5 := Lib.hid (Nat.le_trans HR.out.2.2 hb3.size)
      clear hBld3 hb3
      go_wp2_with fail
      refine (writeString_any _ _ _ _ _ HB3.out (by rw [Lib.byteCells_length, List.length_append, leB_length]; omega) (by rw [sz4]; omega) HB5.out).mono ?_
      rintro e w4 ⟨rfl, h4, k4⟩
      have HN : Hid (Bld (w.heap.size + 1) w.heap.size (Lib.byteCells (leB ((ss.length : Int) - 1) 4 ++ numsL (ss.take (k + 1)))) w4 ∧ Below w.heap.size w w4 ∧ w.heap.size + 1 ≤ w4.heap.size) := by
        refine ⟨?_, HB4.out.trans (k4.below (by omega) (Nat.le_refl _)), Nat.le_trans HB5.out k4.size⟩
        rw [mk_cells, cells_app] at h4
        rw [HNT.out, ← List.append_assoc, HS.out]
        exact h4
      clear h4 k4
      go_wp2
      go_roundw
      case rel => exact ⟨k + 1, by omega, by go_num, HN⟩
      case measure => simp [intOf]; omega
    · obtain rfl : k = ss.length := by omega
      clear hk1 hk HB
      have hlen : (Lib.byteCells (leB ((ss.length : Int) - 1) 4 ++ numsL (ss.take ss.length))).length = 4 + 4 * ss.length := by
        rw [Lib.byteCells_length, List.length_append, leB_length, numsL_length, List.take_length]
      have HLen := Lib.hid hlen
      clear hlen
      go_wp2_with fail
      refine (len_any _ _ _ _ HR.out.1).mono ?_
      rintro e w' ⟨rfl, rfl⟩
      rw [HLen.out]
      go_wp2_with fail
      refine (headBytes_any ss.length _ (by omega)).mono ?_
      rintro e w' ⟨rfl, rfl⟩
      by_cases hp : ss.length % 2 = 0
      · have hlt1 : ((4 + 4 * ss.length : Nat) : Int) < (((ss.length / 2 + 1) * 8 : Nat) : Int) := by omega
        have hlt2 : decide (4 + 4 * ss.length < (ss.length / 2 + 1) * 8) = true := by simp; omega
        go_wp2_with fail
        refine (putNumber_any _ _ (by omega) (by omega)).mono ?_
        rintro e w3 ⟨rfl, hb3⟩
        have hBld3 := bld_below HR.out.1 hb3
        have HB3 := Lib.hid hBld3
        have HB4 := Lib.hid (HR.out.2.1.trans (hb3.mono (by have := HR.out.2.2; omega)))
        have HB5 := Lib.hid (Nat.le_trans HR.out.2.2 hb3.size)
        clear hBld3 hb3
        go_wp2_with fail
        refine (writeString_any _ _ _ _ _ HB3.out (by rw [HLen.out]; omega) (by rw [sz4]; omega) HB5.out).mono ?_
        rintro e w4 ⟨rfl, h4, k4⟩
        have HM : Hid (Bld (w.heap.size + 1) w.heap.size (Lib.byteCells (leB ((ss.length : Int) - 1) 4 ++ numsL ss ++ fillL ss.length)) w4 ∧ Below w.heap.size w w4 ∧ w.heap.size + 1 ≤ w4.heap.size) := by
          refine ⟨?_, HB4.out.trans (k4.below (by omega) (Nat.le_refl _)), Nat.le_trans HB5.out k4.size⟩
          rw [mk_cells, cells_app, List.take_length] at h4
          rw [fillL, if_pos hp]
          exact h4
        clear h4 k4 hlt1 hlt2
        go_wp2_with fail
        go_loopw [7, 37] (fun _ i wr => ∃ k : Nat, k ≤ ss.length ∧ i = .int .i64 k ∧ Hid (Bld (w.heap.size + 1) w.heap.size (Lib.byteCells (leB ((ss.length : Int) - 1) 4 ++ numsL ss ++ fillL ss.length ++ bodyL (ss.take k))) wr ∧ Below w.heap.size w wr ∧ w.heap.size + 1 ≤ wr.heap.size)) (fun _ i _ => ss.length - (intOf i).toNat)
        case atStart => exact ⟨0, by omega, rfl, by simpa [bodyL] using HM.out.1, HM.out.2⟩
        case round =>
          obtain ⟨k, hk, rfl, HR⟩ := hrel
          by_cases hk1 : k < ss.length
          · have hc := (HR.out.2.1.cell (p := a.add k) (by rw [add_block]; exact hlt)).trans (HCells.out k hk1)
            have hsz := tot_get ss k hk1
            have hbt := bodyL_take ss k hk1
            have HBT := Lib.hid hbt
            obtain ⟨s, hs⟩ : ∃ s, ss[k] = s := ⟨_, rfl⟩
            rw [hs] at hc hsz
            have HS := Lib.hid hs
            have hbl : (bodyL (ss.take k)).length ≤ 1600 := by rw [bodyL_length]; have := tot_take_le ss k; omega
            have hnl := numsL_length ss
            have hfl := fillL_length ss.length
            have hlen : (Lib.byteCells (leB ((ss.length : Int) - 1) 4 ++ numsL ss ++ fillL ss.length ++ bodyL (ss.take k))).length ≤ 1099511627776 := by
              rw [Lib.byteCells_length, List.length_append, List.length_append, List.length_append, leB_length]; omega
            clear hbt hs hbl hnl hfl
            go_wp2_with fail
            refine (writeString_any _ _ _ _ _ HR.out.1 hlen (by omega) HR.out.2.2).mono ?_
            rintro e w4 ⟨rfl, h4, k4⟩
            have HN : Hid (Bld (w.heap.size + 1) w.heap.size (Lib.byteCells (leB ((ss.length : Int) - 1) 4 ++ numsL ss ++ fillL ss.length ++ bodyL (ss.take (k + 1)))) w4 ∧ Below w.heap.size w w4 ∧ w.heap.size + 1 ≤ w4.heap.size) := by
              refine ⟨?_, HR.out.2.1.trans (k4.below (by omega) (Nat.le_refl _)), Nat.le_trans HR.out.2.2 k4.size⟩
              rw [strCells_eq, cells_app] at h4
              rw [HBT.out, ← List.append_assoc, HS.out]
              exact h4
            clear h4 k4 hlen
            go_wp2
            go_roundw
            case rel => exact ⟨k + 1, by omega, by go_num, HN⟩
            case measure => simp [intOf]; omega
          · obtain rfl : k = ss.length := by omega
            have hbd : Bld (w.heap.size + 1) w.heap.size (Lib.byteCells (frameL ss)) wr := by
              rw [HF.out]
              have := HR.out.1
              rwa [List.take_length] at this
            have HBD := Lib.hid hbd
            clear hbd
            go_wp2_with fail
            refine (string_any w.heap.size w.heap.size (frameL ss) wr (HBD.out.is (by omega) (Nat.le_refl _)) (by have := HR.out.2.2; omega)).mono ?_
            rintro e w5 ⟨rfl, b5⟩
            have B5 := Lib.hid (HR.out.2.1.trans b5)
            clear b5
            go_wp2
            go_ret
            exact ⟨rfl, B5.out⟩
      · have hlt1 : ¬ ((4 + 4 * ss.length : Nat) : Int) < (((ss.length / 2 + 1) * 8 : Nat) : Int) := by omega
        have hlt2 : decide (4 + 4 * ss.length < (ss.length / 2 + 1) * 8) = false := by simp; omega
        have HM : Hid (Bld (w.heap.size + 1) w.heap.size (Lib.byteCells (leB ((ss.length : Int) - 1) 4 ++ numsL ss ++ fillL ss.length)) wr ∧ Below w.heap.size w wr ∧ w.heap.size + 1 ≤ wr.heap.size) := by
          refine ⟨?_, HR.out.2⟩
          have h4 := HR.out.1
          rw [List.take_length] at h4
          rw [fillL, if_neg hp, List.append_nil]
          exact h4
        go_wp2_with fail
        go_loopw [7, 37] (fun _ i wr => ∃ k : Nat, k ≤ ss.length ∧ i = .int .i64 k ∧ Hid (Bld (w.heap.size + 1) w.heap.size (Lib.byteCells (leB ((ss.length : Int) - 1) 4 ++ numsL ss ++ fillL ss.length ++ bodyL (ss.take k))) wr ∧ Below w.heap.size w wr ∧ w.heap.size + 1 ≤ wr.heap.size)) (fun _ i _ => ss.length - (intOf i).toNat)
        case atStart => exact ⟨0, by omega, rfl, by simpa [bodyL] using HM.out.1, HM.out.2⟩
        case round =>
          obtain ⟨k, hk, rfl, HR⟩ := hrel
          by_cases hk1 : k < ss.length
          · have hc := (HR.out.2.1.cell (p := a.add k) (by rw [add_block]; exact hlt)).trans (HCells.out k hk1)
            have hsz := tot_get ss k hk1
            have hbt := bodyL_take ss k hk1
            have HBT := Lib.hid hbt
            obtain ⟨s, hs⟩ : ∃ s, ss[k] = s := ⟨_, rfl⟩
            rw [hs] at hc hsz
            have HS := Lib.hid hs
            have hbl : (bodyL (ss.take k)).length ≤ 1600 := by rw [bodyL_length]; have := tot_take_le ss k; omega
            have hnl := numsL_length ss
            have hfl := fillL_length ss.length
            have hlen : (Lib.byteCells (leB ((ss.length : Int) - 1) 4 ++ numsL ss ++ fillL ss.length ++ bodyL (ss.take k))).length ≤ 1099511627776 := by
              rw [Lib.byteCells_length, List.length_append, List.length_append, List.length_append, leB_length]; omega
            clear hbt hs hbl hnl hfl
            go_wp2_with fail
            refine (writeString_any _ _ _ _ _ HR.out.1 hlen (by omega) HR.out.2.2).mono ?_
            rintro e w4 ⟨rfl, h4, k4⟩
            have HN : Hid (Bld (w.heap.size + 1) w.heap.size (Lib.byteCells (leB ((ss.length : Int) - 1) 4 ++ numsL ss ++ fillL ss.length ++ bodyL (ss.take (k + 1)))) w4 ∧ Below w.heap.size w w4 ∧ w.heap.size + 1 ≤ w4.heap.size) := by
              refine ⟨?_, HR.out.2.1.trans (k4.below (by omega) (Nat.le_refl _)), Nat.le_trans HR.out.2.2 k4.size⟩
              rw [strCells_eq, cells_app] at h4
              rw [HBT.out, ← List.append_assoc, HS.out]
              exact h4
            clear h4 k4 hlen
            go_wp2
            go_roundw
            case rel => exact ⟨k + 1, by omega, by go_num, HN⟩
            case measure => simp [intOf]; omega
          · obtain rfl : k = ss.length := by omega
            have hbd : Bld (w.heap.size + 1) w.heap.size (Lib.byteCells (frameL ss)) wr := by
              rw [HF.out]
              have := HR.out.1
              rwa [List.take_length] at this
            have HBD := Lib.hid hbd
            clear hbd
            go_wp2_with fail
            refine (string_any w.heap.size w.heap.size (frameL ss) wr (HBD.out.is (by omega) (Nat.le_refl _)) (by have := HR.out.2.2; omega)).mono ?_
            rintro e w5 ⟨rfl, b5⟩
            have B5 := Lib.hid (HR.out.2.1.trans b5)
            clear b5
            go_wp2
            go_ret
            exact ⟨rfl, B5.out⟩
end Go.Proofs.YtliiffpegfkpbabDoor
