/- Texts of the proof of the law FnSendShort, side by side: part 31. -/
import Derived.Test.YtbhmklbdfmgmlaaGreatMSendShort00
import Derived.Test.YtbhmklbdfmgmlaaGreatMSendShort01
import Derived.Test.YtbhmklbdfmgmlaaGreatMSendShort02
import Derived.Test.YtbhmklbdfmgmlaaGreatMSendShort03
import Derived.Test.YtbhmklbdfmgmlaaGreatMSendShort04
import Derived.Test.YtbhmklbdfmgmlaaGreatMSendShort05
import Derived.Test.YtbhmklbdfmgmlaaGreatMSendShort06
import Derived.Test.YtbhmklbdfmgmlaaGreatMSendShort07
import Derived.Test.YtbhmklbdfmgmlaaGreatMSendShort08
import Derived.Test.YtbhmklbdfmgmlaaGreatMSendShort09
import Derived.Test.YtbhmklbdfmgmlaaGreatMSendShort10
import Derived.Test.YtbhmklbdfmgmlaaGreatMSendShort11
import Derived.Test.YtbhmklbdfmgmlaaGreatMSendShort12
import Derived.Test.YtbhmklbdfmgmlaaGreatMSendShort13
import Derived.Test.YtbhmklbdfmgmlaaGreatMSendShort14
import Derived.Test.YtbhmklbdfmgmlaaGreatMSendShort15
import Derived.Test.YtbhmklbdfmgmlaaGreatMSendShort16
import Derived.Test.YtbhmklbdfmgmlaaGreatMSendShort17
import Derived.Test.YtbhmklbdfmgmlaaGreatMSendShort18
import Derived.Test.YtbhmklbdfmgmlaaGreatMSendShort19
import Derived.Test.YtbhmklbdfmgmlaaGreatMSendShort20
import Derived.Test.YtbhmklbdfmgmlaaGreatMSendShort21
import Derived.Test.YtbhmklbdfmgmlaaGreatMSendShort22
import Derived.Test.YtbhmklbdfmgmlaaGreatMSendShort23
import Derived.Test.YtbhmklbdfmgmlaaGreatMSendShort24
import Derived.Test.YtbhmklbdfmgmlaaGreatMSendShort25
import Derived.Test.YtbhmklbdfmgmlaaGreatMSendShort26
import Derived.Test.YtbhmklbdfmgmlaaGreatMSendShort27
import Derived.Test.YtbhmklbdfmgmlaaGreatMSendShort28
import Derived.Test.YtbhmklbdfmgmlaaGreatMSendShort29
import Derived.Test.YtbhmklbdfmgmlaaGreatMSendShort30
/- impl.FramePut and spec.FramePut answer the same at every argument. -/
namespace Go.Proofs.YtbhmklbdfmgmlaaGreat
open Go.RowKit
theorem sz4 (n : Int) : (⟨(leB n 4).toArray⟩ : ByteArray).size = 4 := by rw [show (⟨(leB n 4).toArray⟩ : ByteArray).size = (leB n 4).length by simp [ByteArray.size], leB_length]
theorem take_leB (n : Int) : (leB n 8).take 4 = leB n 4 := by
  have h := leB_add n 4 4
  rw [show (4 + 4 : Nat) = 8 from rfl] at h
  rw [h, List.take_append_of_le_length (by rw [leB_length]; omega), List.take_of_length_le (by rw [leB_length]; omega)]
set_option maxHeartbeats 1000000 in
theorem putNumber_any (n : Int) (w : World) (h0 : 0 ≤ n) (h1 : n ≤ 1099511627776) :
    Calls Tryz.prog 44 #[.int .i64 n] w fun e w' => e = .returned (.string ⟨(leB n 4).toArray⟩) ∧ Below w.heap.size w w' := by
  have e1 : IntKind.u64.wrap n = n := by rw [IntKind.wrap_u64]; omega
  have hcut : (⟨(leB n 8).toArray⟩ : ByteArray).extract 0 4 = ⟨(leB n 4).toArray⟩ := by
    apply ext_ba; rw [Lib.extract_data]; simp [take_leB]
  have hsz : (⟨(leB n 8).toArray⟩ : ByteArray).size = 8 := by simp [ByteArray.size, leB_length]
  have HC := Lib.hid hcut
  clear hcut
  go_enter Tryz.func44, Tryz.ntmps44
  go_wp2_with fail
  refine (wordOf_any n _ h0 (by omega)).mono ?_
  rintro e w1 ⟨rfl, hb1⟩
  go_wp2_with fail
  refine (text_any (leB n 8) _ (leB_length n 8)).mono ?_
  rintro e w2 ⟨rfl, hb2⟩
  generalize (⟨(leB n 8).toArray⟩ : ByteArray) = u at HC hsz ⊢
  have g1 : (4 : Int) ≤ (u.size : Int) := by omega
  have HS := Lib.hid hsz
  have hc := HC.out
  clear hsz
  go_wp2
  go_ret
  exact ⟨rfl, hb1.trans (hb2.mono hb1.size)⟩
def numsL (ss : List ByteArray) : List UInt8 := ss.flatMap fun s => leB ((s.size / 8 : Nat) : Int) 4
def bodyL (ss : List ByteArray) : List UInt8 := ss.flatMap fun s => s.data.toList
def fillL (n : Nat) : List UInt8 := if n % 2 = 0 then leB 0 4 else []
/-- what FramePut answers. -/
def frameL (ss : List ByteArray) : List UInt8 := if frOk ss = true then leB ((ss.length : Int) - 1) 4 ++ numsL ss ++ fillL ss.length ++ bodyL ss else []
theorem numsL_take (ss : List ByteArray) (k : Nat) (h : k < ss.length) : numsL (ss.take (k + 1)) = numsL (ss.take k) ++ leB (((ss[k]).size / 8 : Nat) : Int) 4 := by
  rw [List.take_succ_eq_append_getElem h, numsL, numsL, List.flatMap_append, List.flatMap_cons, List.flatMap_nil, List.append_nil]
theorem bodyL_take (ss : List ByteArray) (k : Nat) (h : k < ss.length) : bodyL (ss.take (k + 1)) = bodyL (ss.take k) ++ (ss[k]).data.toList := by
  rw [List.take_succ_eq_append_getElem h, bodyL, bodyL, List.flatMap_append, List.flatMap_cons, List.flatMap_nil, List.append_nil]
theorem numsL_length : ∀ ss : List ByteArray, (numsL ss).length = 4 * ss.length
  | [] => rfl
  | s :: r => by rw [numsL, List.flatMap_cons, List.length_append, leB_length, ← numsL, numsL_length r, List.length_cons]; omega
theorem bodyL_length : ∀ ss : List ByteArray, (bodyL ss).length = tot ss
  | [] => rfl
  | s :: r => by rw [bodyL, List.flatMap_cons, List.length_append, ← bodyL, bodyL_length r]; simp [tot]
theorem fillL_length (n : Nat) : (fillL n).length ≤ 4 := by unfold fillL; split <;> simp [leB_length]
set_option maxHeartbeats 400000 in
theorem headBytes_any (n : Nat) (w : World) (h : n ≤ 1000) :
    Calls Tryz.prog 46 #[.int .i64 n] w fun e w' => e = .returned (.int .i64 (((n / 2 + 1) * 8 : Nat) : Int)) ∧ w = w' := by
  go_enter Tryz.func46, Tryz.ntmps46
  go_wp2
  go_ret
  exact ⟨ret_int (by omega), rfl⟩
theorem frOk_parts {ss : List ByteArray} (h : frOk ss = true) : (1 ≤ ss.length ∧ ss.length ≤ 6) ∧ tot ss ≤ 1600 := by
  simp only [frOk, Bool.and_eq_true, decide_eq_true_eq] at h
  exact ⟨h.1, h.2.2⟩
theorem strCells_eq (s : ByteArray) : Lib.strCells s = Lib.byteCells s.data.toList := rfl
theorem cells_app (a b : List UInt8) : Lib.byteCells a ++ Lib.byteCells b = Lib.byteCells (a ++ b) := by simp [Lib.byteCells]
theorem mk_cells (l : List UInt8) : Lib.strCells ⟨l.toArray⟩ = Lib.byteCells l := by simp [Lib.strCells, Lib.byteCells]
theorem tot_get (ss : List ByteArray) (k : Nat) (h : k < ss.length) : (ss[k]).size ≤ tot ss := by
  have h1 := tot_take ss k h
  have h2 := tot_take_le ss (k + 1)
  omega
set_option maxHeartbeats 4000000 in
theorem implFramePut_yes (A : Option Addr) (cap : Nat) (ss : List ByteArray) (w : World) (h : Strs w A ss) (hok : frOk ss = true) :
    Calls Tryz.prog 16 #[.slice A ss.length cap] w fun e w' => e = .returned (.string ⟨(frameL ss).toArray⟩) ∧ Below w.heap.size w w' := by
  obtain ⟨⟨hn1, hn6⟩, htot⟩ := frOk_parts hok
  have HFO : Hid (∀ w : World, Strs w A ss → Calls Tryz.prog 42 #[.slice A ss.length cap] w fun e w' => e = .returned (.bool true) ∧ w = w') := Lib.hid (fun w h => by
    have := implFrameOk_any A cap ss w h (by omega)
    rw [hok] at this; exact this)
  have hfin : frameL ss = leB ((ss.length : Int) - 1) 4 ++ numsL ss ++ fillL ss.length ++ bodyL ss := by rw [frameL, if_pos hok]
  have HF := Lib.hid hfin
  obtain ⟨a, rfl, hlt, hcells⟩ := h.2.resolve_left (by intro h0; rw [h0] at hn1; simp at hn1)
  have HCells := Lib.hid hcells
  have H := Lib.hid h
  clear hfin hok h hcells
  go_enter Tryz.func16, Tryz.ntmps16
  go_wp2_with fail
  refine (HFO.out _ H.out).mono ?_
  rintro e w' ⟨rfl, rfl⟩
  go_wp2_with fail
  refine (putNumber_any _ _ (by omega) (by omega)).mono ?_
  rintro e w1 ⟨rfl, hb1⟩
  have HB0 : Hid (Bld (w.heap.size + 1) w.heap.size [] w1 ∧ Below w.heap.size w w1 ∧ w.heap.size + 1 ≤ w1.heap.size) := by
    refine ⟨Bld.fresh _ ((hb1.block _ (by simp)).trans (heap_alloc_new w _)), ((Below.refl _ w).alloc (Nat.le_refl _) _).trans (hb1.mono (by simp)), ?_⟩
    have := hb1.size
    simpa using this
  clear hb1
  go_wp2_with fail
  refine (writeString_any _ _ _ _ _ HB0.out.1 (by simp) (by rw [sz4]; omega) HB0.out.2.2).mono ?_
  rintro e w2 ⟨rfl, h2, k2⟩
  have HB : Hid (Bld (w.heap.size + 1) w.heap.size (Lib.byteCells (leB ((ss.length : Int) - 1) 4)) w2 ∧ Below w.heap.size w w2 ∧ w.heap.size + 1 ≤ w2.heap.size) := by
    refine ⟨?_, HB0.out.2.1.trans (k2.below (by omega) (Nat.le_refl _)), Nat.le_trans HB0.out.2.2 k2.size⟩
    rw [mk_cells] at h2
    exact h2
  clear h2 k2 HB0
  go_wp2_with fail
  go_loopw [5, 18] (fun _ i wr => ∃ k : Nat, k ≤ ss.length ∧ i = .int .i64 k ∧ Hid (Bld (w.heap.size + 1) w.heap.size (Lib.byteCells (leB ((ss.length : Int) - 1) 4 ++ numsL (ss.take k))) wr ∧ Below w.heap.size w wr ∧ w.heap.size + 1 ≤ wr.heap.size)) (fun _ i _ => ss.length - (intOf i).toNat)
  case atStart => exact ⟨0, by omega, rfl, by simpa [numsL] using HB.out.1, HB.out.2⟩
  case round =>
    obtain ⟨k, hk, rfl, HR⟩ := hrel
    by_cases hk1 : k < ss.length
    · have hc := (HR.out.2.1.cell (p := a.add k) (by rw [add_block]; exact hlt)).trans (HCells.out k hk1)
      have hsz := tot_get ss k hk1
      have hnt := numsL_take ss k hk1
      have HNT := Lib.hid hnt
      obtain ⟨s, hs⟩ : ∃ s, ss[k] = s := ⟨_, rfl⟩
      rw [hs] at hc hsz
      have HS := Lib.hid hs
      have hnl : (numsL (ss.take k)).length ≤ 4 * ss.length := by rw [numsL_length, List.length_take]; omega
      clear hnt hs
      go_wp2_with fail
      refine (putNumber_any _ _ (by omega) (by omega)).mono ?_
      rintro e w3 ⟨rfl, hb3⟩
      have hBld3 : Bld (w.heap.size + 1) w.heap.size (Lib.byteCells (leB ((ss.length : Int) - 1) 4 ++ numsL (ss.take k))) w3 := bld_below HR.out.1 hb3
      have HB3 := Lib.hid hBld3
      have HB4 := Lib.hid (HR.out.2.1.trans (hb3.mono (by have := HR.out.2.2; omega)))
      have HB5 := Lib.hid (Nat.le_trans HR.out.2.2 hb3.size)
      clear hBld3 hb3
      go_wp2_with fail
      refine (writeString_any _ _ _ _ _ HB3.out (by rw [Lib.byteCells_length, List.length_append, leB_length]; omega) (by rw [sz4]; omega) HB5.out).mono ?_
      rintro e w4 ⟨rfl, h4, k4⟩
      have HN : Hid (Bld (w.heap.size + 1) w.heap.size (Lib.byteCells (leB ((ss.length : Int) - 1) 4 ++ numsL (ss.take (k + 1)))) w4 ∧ Below w.heap.size w w4 ∧ w.heap.size + 1 ≤ w4.heap.size) := by
        refine ⟨?_, HB4.out.trans (k4.below (by omega) (Nat.le_refl _)), Nat.le_trans HB5.out k4.size⟩
        rw [mk_cells, cells_app] at h4
        rw [HNT.out, ← List.append_assoc, HS.out]
        exact h4
      clear h4 k4
      go_wp2
      go_roundw
      case rel => exact ⟨k + 1, by omega, by go_num, HN⟩
      case measure => simp [intOf]; omega
    · obtain rfl : k = ss.length := by omega
      clear hk1 hk HB
      have hlen : (Lib.byteCells (leB ((ss.length : Int) - 1) 4 ++ numsL (ss.take ss.length))).length = 4 + 4 * ss.length := by
        rw [Lib.byteCells_length, List.length_append, leB_length, numsL_length, List.take_length]
      have HLen := Lib.hid hlen
      clear hlen
      go_wp2_with fail
      refine (len_any _ _ _ _ HR.out.1).mono ?_
      rintro e w' ⟨rfl, rfl⟩
      rw [HLen.out]
      go_wp2_with fail
      refine (headBytes_any ss.length _ (by omega)).mono ?_
      rintro e w' ⟨rfl, rfl⟩
      by_cases hp : ss.length % 2 = 0
      · have hlt1 : ((4 + 4 * ss.length : Nat) : Int) < (((ss.length / 2 + 1) * 8 : Nat) : Int) := by omega
        have hlt2 : decide (4 + 4 * ss.length < (ss.length / 2 + 1) * 8) = true := by simp; omega
        go_wp2_with fail
        refine (putNumber_any _ _ (by omega) (by omega)).mono ?_
        rintro e w3 ⟨rfl, hb3⟩
        have hBld3 := bld_below HR.out.1 hb3
        have HB3 := Lib.hid hBld3
        have HB4 := Lib.hid (HR.out.2.1.trans (hb3.mono (by have := HR.out.2.2; omega)))
        have HB5 := Lib.hid (Nat.le_trans HR.out.2.2 hb3.size)
        clear hBld3 hb3
        go_wp2_with fail
        refine (writeString_any _ _ _ _ _ HB3.out (by rw [HLen.out]; omega) (by rw [sz4]; omega) HB5.out).mono ?_
        rintro e w4 ⟨rfl, h4, k4⟩
        have HM : Hid (Bld (w.heap.size + 1) w.heap.size (Lib.byteCells (leB ((ss.length : Int) - 1) 4 ++ numsL ss ++ fillL ss.length)) w4 ∧ Below w.heap.size w w4 ∧ w.heap.size + 1 ≤ w4.heap.size) := by
          refine ⟨?_, HB4.out.trans (k4.below (by omega) (Nat.le_refl _)), Nat.le_trans HB5.out k4.size⟩
          rw [mk_cells, cells_app, List.take_length] at h4
          rw [fillL, if_pos hp]
          exact h4
        clear h4 k4 hlt1 hlt2
        go_wp2_with fail
        go_loopw [7, 37] (fun _ i wr => ∃ k : Nat, k ≤ ss.length ∧ i = .int .i64 k ∧ Hid (Bld (w.heap.size + 1) w.heap.size (Lib.byteCells (leB ((ss.length : Int) - 1) 4 ++ numsL ss ++ fillL ss.length ++ bodyL (ss.take k))) wr ∧ Below w.heap.size w wr ∧ w.heap.size + 1 ≤ wr.heap.size)) (fun _ i _ => ss.length - (intOf i).toNat)
        case atStart => exact ⟨0, by omega, rfl, by simpa [bodyL] using HM.out.1, HM.out.2⟩
        case round =>
          obtain ⟨k, hk, rfl, HR⟩ := hrel
          by_cases hk1 : k < ss.length
          · have hc := (HR.out.2.1.cell (p := a.add k) (by rw [add_block]; exact hlt)).trans (HCells.out k hk1)
            have hsz := tot_get ss k hk1
            have hbt := bodyL_take ss k hk1
            have HBT := Lib.hid hbt
            obtain ⟨s, hs⟩ : ∃ s, ss[k] = s := ⟨_, rfl⟩
            rw [hs] at hc hsz
            have HS := Lib.hid hs
            have hbl : (bodyL (ss.take k)).length ≤ 1600 := by rw [bodyL_length]; have := tot_take_le ss k; omega
            have hnl := numsL_length ss
            have hfl := fillL_length ss.length
            have hlen : (Lib.byteCells (leB ((ss.length : Int) - 1) 4 ++ numsL ss ++ fillL ss.length ++ bodyL (ss.take k))).length ≤ 1099511627776 := by
              rw [Lib.byteCells_length, List.length_append, List.length_append, List.length_append, leB_length]; omega
            clear hbt hs hbl hnl hfl
            go_wp2_with fail
            refine (writeString_any _ _ _ _ _ HR.out.1 hlen (by omega) HR.out.2.2).mono ?_
            rintro e w4 ⟨rfl, h4, k4⟩
            have HN : Hid (Bld (w.heap.size + 1) w.heap.size (Lib.byteCells (leB ((ss.length : Int) - 1) 4 ++ numsL ss ++ fillL ss.length ++ bodyL (ss.take (k + 1)))) w4 ∧ Below w.heap.size w w4 ∧ w.heap.size + 1 ≤ w4.heap.size) := by
              refine ⟨?_, HR.out.2.1.trans (k4.below (by omega) (Nat.le_refl _)), Nat.le_trans HR.out.2.2 k4.size⟩
              rw [strCells_eq, cells_app] at h4
              rw [HBT.out, ← List.append_assoc, HS.out]
              exact h4
            clear h4 k4 hlen
            go_wp2
            go_roundw
            case rel => exact ⟨k + 1, by omega, by go_num, HN⟩
            case measure => simp [intOf]; omega
          · obtain rfl : k = ss.length := by omega
            have hbd : Bld (w.heap.size + 1) w.heap.size (Lib.byteCells (frameL ss)) wr := by
              rw [HF.out]
              have := HR.out.1
              rwa [List.take_length] at this
            have HBD := Lib.hid hbd
            clear hbd
            go_wp2_with fail
            refine (string_any w.heap.size w.heap.size (frameL ss) wr (HBD.out.is (by omega) (Nat.le_refl _)) (by have := HR.out.2.2; omega)).mono ?_
            rintro e w5 ⟨rfl, b5⟩
            have B5 := Lib.hid (HR.out.2.1.trans b5)
            clear b5
            go_wp2
            go_ret
            exact ⟨rfl, B5.out⟩
      · have hlt1 : ¬ ((4 + 4 * ss.length : Nat) : Int) < (((ss.length / 2 + 1) * 8 : Nat) : Int) := by omega
        have hlt2 : decide (4 + 4 * ss.length < (ss.length / 2 + 1) * 8) = false := by simp; omega
        have HM : Hid (Bld (w.heap.size + 1) w.heap.size (Lib.byteCells (leB ((ss.length : Int) - 1) 4 ++ numsL ss ++ fillL ss.length)) wr ∧ Below w.heap.size w wr ∧ w.heap.size + 1 ≤ wr.heap.size) := by
          refine ⟨?_, HR.out.2⟩
          have h4 := HR.out.1
          rw [List.take_length] at h4
          rw [fillL, if_neg hp, List.append_nil]
          exact h4
        go_wp2_with fail
        go_loopw [7, 37] (fun _ i wr => ∃ k : Nat, k ≤ ss.length ∧ i = .int .i64 k ∧ Hid (Bld (w.heap.size + 1) w.heap.size (Lib.byteCells (leB ((ss.length : Int) - 1) 4 ++ numsL ss ++ fillL ss.length ++ bodyL (ss.take k))) wr ∧ Below w.heap.size w wr ∧ w.heap.size + 1 ≤ wr.heap.size)) (fun _ i _ => ss.length - (intOf i).toNat)
        case atStart => exact ⟨0, by omega, rfl, by simpa [bodyL] using HM.out.1, HM.out.2⟩
        case round =>
          obtain ⟨k, hk, rfl, HR⟩ := hrel
          by_cases hk1 : k < ss.length
          · have hc := (HR.out.2.1.cell (p := a.add k) (by rw [add_block]; exact hlt)).trans (HCells.out k hk1)
            have hsz := tot_get ss k hk1
            have hbt := bodyL_take ss k hk1
            have HBT := Lib.hid hbt
            obtain ⟨s, hs⟩ : ∃ s, ss[k] = s := ⟨_, rfl⟩
            rw [hs] at hc hsz
            have HS := Lib.hid hs
            have hbl : (bodyL (ss.take k)).length ≤ 1600 := by rw [bodyL_length]; have := tot_take_le ss k; omega
            have hnl := numsL_length ss
            have hfl := fillL_length ss.length
            have hlen : (Lib.byteCells (leB ((ss.length : Int) - 1) 4 ++ numsL ss ++ fillL ss.length ++ bodyL (ss.take k))).length ≤ 1099511627776 := by
              rw [Lib.byteCells_length, List.length_append, List.length_append, List.length_append, leB_length]; omega
            clear hbt hs hbl hnl hfl
            go_wp2_with fail
            refine (writeString_any _ _ _ _ _ HR.out.1 hlen (by omega) HR.out.2.2).mono ?_
            rintro e w4 ⟨rfl, h4, k4⟩
            have HN : Hid (Bld (w.heap.size + 1) w.heap.size (Lib.byteCells (leB ((ss.length : Int) - 1) 4 ++ numsL ss ++ fillL ss.length ++ bodyL (ss.take (k + 1)))) w4 ∧ Below w.heap.size w w4 ∧ w.heap.size + 1 ≤ w4.heap.size) := by
              refine ⟨?_, HR.out.2.1.trans (k4.below (by omega) (Nat.le_refl _)), Nat.le_trans HR.out.2.2 k4.size⟩
              rw [strCells_eq, cells_app] at h4
              rw [HBT.out, ← List.append_assoc, HS.out]
              exact h4
            clear h4 k4 hlen
            go_wp2
            go_roundw
            case rel => exact ⟨k + 1, by omega, by go_num, HN⟩
            case measure => simp [intOf]; omega
          · obtain rfl : k = ss.length := by omega
            have hbd : Bld (w.heap.size + 1) w.heap.size (Lib.byteCells (frameL ss)) wr := by
              rw [HF.out]
              have := HR.out.1
              rwa [List.take_length] at this
            have HBD := Lib.hid hbd
            clear hbd
            go_wp2_with fail
            refine (string_any w.heap.size w.heap.size (frameL ss) wr (HBD.out.is (by omega) (Nat.le_refl _)) (by have := HR.out.2.2; omega)).mono ?_
            rintro e w5 ⟨rfl, b5⟩
            have B5 := Lib.hid (HR.out.2.1.trans b5)
            clear b5
            go_wp2
            go_ret
            exact ⟨rfl, B5.out⟩
end Go.Proofs.YtbhmklbdfmgmlaaGreat

/- spec.FramePut at every argument, and the law FnExactFramePut walked. -/
namespace Go.Proofs.YtbhmklbdfmgmlaaGreat
open Go.RowKit
theorem str_cat (a b : List UInt8) : (⟨a.toArray⟩ : ByteArray) ++ ⟨b.toArray⟩ = ⟨(a ++ b).toArray⟩ := by
  apply ext_ba; rw [ByteArray.data_append]; simp
theorem mk_sizeF (l : List UInt8) : (⟨l.toArray⟩ : ByteArray).size = l.length := by simp [ByteArray.size]
theorem cat_str (a : List UInt8) (s : ByteArray) : (⟨a.toArray⟩ : ByteArray) ++ s = ⟨(a ++ s.data.toList).toArray⟩ := by
  apply ext_ba; rw [ByteArray.data_append]; simp
set_option maxHeartbeats 1000000 in
theorem implFramePut_no (A : Option Addr) (cap : Nat) (ss : List ByteArray) (w : World) (h : Strs w A ss) (hn : ss.length ≤ 1048576) (hok : frOk ss = false) :
    Calls Tryz.prog 16 #[.slice A ss.length cap] w fun e w' => e = .returned (.string ⟨(frameL ss).toArray⟩) ∧ Below w.heap.size w w' := by
  have hF := implFrameOk_any A cap ss w h hn
  rw [hok] at hF
  have HFO := Lib.hid hF
  have hfin : frameL ss = [] := by rw [frameL, if_neg (by rw [hok]; simp)]
  rw [hfin]
  clear hF hok hfin h hn
  go_enter Tryz.func16, Tryz.ntmps16
  go_wp2_with fail
  refine HFO.out.mono ?_
  rintro e w' ⟨rfl, rfl⟩
  go_wp2
  go_ret
  exact ⟨rfl, Below.refl _ _⟩
theorem implFramePut_any (A : Option Addr) (cap : Nat) (ss : List ByteArray) (w : World) (h : Strs w A ss) (hn : ss.length ≤ 1048576) :
    Calls Tryz.prog 16 #[.slice A ss.length cap] w fun e w' => e = .returned (.string ⟨(frameL ss).toArray⟩) ∧ Below w.heap.size w w' := by
  cases hok : frOk ss
  · exact implFramePut_no A cap ss w h hn hok
  · exact implFramePut_yes A cap ss w h hok
set_option maxHeartbeats 1000000 in
theorem specFramePut_no (A : Option Addr) (cap : Nat) (ss : List ByteArray) (w : World) (h : Strs w A ss) (hn : ss.length ≤ 1048576) (ht : tot ss ≤ 1099511627776) (hok : frOk ss = false) :
    Calls Tryz.prog 23 #[.slice A ss.length cap] w fun e w' => e = .returned (.string ⟨(frameL ss).toArray⟩) ∧ Below w.heap.size w w' := by
  have hF := specFrameOk_any A cap ss w h hn ht
  rw [hok] at hF
  have HFO := Lib.hid hF
  have hfin : frameL ss = [] := by rw [frameL, if_neg (by rw [hok]; simp)]
  rw [hfin]
  clear hF hok hfin h hn
  go_enter Tryz.func23, Tryz.ntmps23
  go_wp2_with fail
  refine HFO.out.mono ?_
  rintro e w' ⟨rfl, rfl⟩
  go_wp2
  go_ret
  exact ⟨rfl, Below.refl _ _⟩
set_option maxHeartbeats 4000000 in
theorem specFramePut_yes (A : Option Addr) (cap : Nat) (ss : List ByteArray) (w : World) (h : Strs w A ss) (hok : frOk ss = true) :
    Calls Tryz.prog 23 #[.slice A ss.length cap] w fun e w' => e = .returned (.string ⟨(frameL ss).toArray⟩) ∧ Below w.heap.size w w' := by
  obtain ⟨⟨hn1, hn6⟩, htot⟩ := frOk_parts hok
  have HFO : Hid (∀ w : World, Strs w A ss → Calls Tryz.prog 59 #[.slice A ss.length cap] w fun e w' => e = .returned (.bool true) ∧ w = w') := Lib.hid (fun w h => by
    have := specFrameOk_any A cap ss w h (by omega) (by omega)
    rw [hok] at this; exact this)
  have hfin : frameL ss = leB ((ss.length : Int) - 1) 4 ++ numsL ss ++ fillL ss.length ++ bodyL ss := by rw [frameL, if_pos hok]
  have HF := Lib.hid hfin
  obtain ⟨a, rfl, hlt, hcells⟩ := h.2.resolve_left (by intro h0; rw [h0] at hn1; simp at hn1)
  have HCells := Lib.hid hcells
  have H := Lib.hid h
  clear hfin hok h hcells
  go_enter Tryz.func23, Tryz.ntmps23
  go_wp2_with fail
  refine (HFO.out _ H.out).mono ?_
  rintro e w' ⟨rfl, rfl⟩
  go_wp2_with fail
  refine (l1Bytes_any _ 4 _ (by decide) (by decide)).mono ?_
  rintro e w1 ⟨rfl, hb1⟩
  have HB := Lib.hid hb1
  clear hb1
  go_wp2_with fail
  go_loopw [3, 4] (fun o i wr => ∃ k : Nat, k ≤ ss.length ∧ i = .int .i64 k ∧ o = .string ⟨(leB ((ss.length : Int) - 1) 4 ++ numsL (ss.take k)).toArray⟩ ∧ Hid (Below w.heap.size w wr)) (fun _ i _ => ss.length - (intOf i).toNat)
  case atStart => exact ⟨0, by omega, rfl, by simp [numsL], HB.out⟩
  case round =>
    obtain ⟨k, hk, rfl, rfl, HR⟩ := hrel
    have hul : (⟨(leB ((ss.length : Int) - 1) 4 ++ numsL (ss.take k)).toArray⟩ : ByteArray).size = 4 + 4 * k := by
      rw [mk_sizeF, List.length_append, leB_length, numsL_length, List.length_take, Nat.min_eq_left hk]
    by_cases hk1 : k < ss.length
    · have hc := (HR.out.cell (p := a.add k) (by rw [add_block]; exact hlt)).trans (HCells.out k hk1)
      have hsz := tot_get ss k hk1
      have hnt := numsL_take ss k hk1
      have HNT := Lib.hid hnt
      obtain ⟨s, hs⟩ : ∃ s, ss[k] = s := ⟨_, rfl⟩
      rw [hs] at hc hsz
      have HS := Lib.hid hs
      clear hnt hs
      have hcat := str_cat (leB ((ss.length : Int) - 1) 4 ++ numsL (ss.take k)) (leB ((s.size / 8 : Nat) : Int) 4)
      have HCat := Lib.hid hcat
      clear hcat
      generalize (⟨(leB ((ss.length : Int) - 1) 4 ++ numsL (ss.take k)).toArray⟩ : ByteArray) = u at hul HCat ⊢
      have hu1 : u.size ≤ 10000 := by omega
      clear hul
      go_wp2_with fail
      refine (l1Bytes_any _ 4 _ (by decide) (by decide)).mono ?_
      rintro e w3 ⟨rfl, hb3⟩
      have HB3 := Lib.hid (HR.out.trans (hb3.mono HR.out.size))
      clear hb3
      have e4 : ((s.size : Int) / 8) = ((s.size / 8 : Nat) : Int) := by omega
      rw [e4]
      have hz4 := sz4 ((s.size / 8 : Nat) : Int)
      have HV := HCat.out
      rw [show (4 : Int).toNat = 4 from rfl]
      generalize (⟨(leB ((s.size / 8 : Nat) : Int) 4).toArray⟩ : ByteArray) = v at hz4 HV ⊢
      have f1 : ¬ 9223372036854775807 < u.size + v.size := by omega
      have HVV := Lib.hid HV
      clear HV e4 HCat hz4
      go_wp2
      go_roundw
      case rel => exact ⟨k + 1, by omega, by go_num, by rw [HVV.out, HNT.out, HS.out, List.append_assoc], HB3.out⟩
      case measure => simp [intOf]; omega
    · obtain rfl : k = ss.length := by omega
      clear hk1 hk HB
      have hcat := str_cat (leB ((ss.length : Int) - 1) 4 ++ numsL ss) (leB 0 4)
      have HCat := Lib.hid hcat
      rw [List.take_length] at hul ⊢
      clear hcat
      generalize hue : (⟨(leB ((ss.length : Int) - 1) 4 ++ numsL ss).toArray⟩ : ByteArray) = u at hul HCat ⊢
      have HUE := Lib.hid hue.symm
      clear hue
      have hu1 : u.size ≤ 10000 := by omega
      by_cases hp : ss.length % 2 = 0
      · have hb : ((u.size : Int) % 8 != 0) = true := by rw [hul]; simp; omega
        clear hul
        go_wp2_with fail
        refine (l1Bytes_any _ 4 _ (by decide) (by decide)).mono ?_
        rintro e w3 ⟨rfl, hb3⟩
        have HW := Lib.hid (HR.out.trans (hb3.mono HR.out.size))
        clear hb3
        have hz4 := sz4 0
        have HV := HCat.out
        rw [show (4 : Int).toNat = 4 from rfl]
        generalize (⟨(leB 0 4).toArray⟩ : ByteArray) = v at hz4 HV ⊢
        have f1 : ¬ 9223372036854775807 < u.size + v.size := by omega
        have HM : Hid (u ++ v = ⟨(leB ((ss.length : Int) - 1) 4 ++ numsL ss ++ fillL ss.length).toArray⟩) := Lib.hid (by rw [HV, fillL, if_pos hp])
        clear HV hz4 HCat hb
        go_wp2_with fail
        go_loopw [3, 5] (fun o i wr => ∃ k : Nat, k ≤ ss.length ∧ i = .int .i64 k ∧ o = .string ⟨(leB ((ss.length : Int) - 1) 4 ++ numsL ss ++ fillL ss.length ++ bodyL (ss.take k)).toArray⟩ ∧ Hid (Below w.heap.size w wr)) (fun _ i _ => ss.length - (intOf i).toNat)
        case atStart => exact ⟨0, by omega, rfl, by rw [HM.out]; simp [bodyL], HW.out⟩
        case round =>
          obtain ⟨k, hk, rfl, rfl, HR2⟩ := hrel
          by_cases hk1 : k < ss.length
          · have hul2 : (⟨(leB ((ss.length : Int) - 1) 4 ++ numsL ss ++ fillL ss.length ++ bodyL (ss.take k)).toArray⟩ : ByteArray).size ≤ 10000 := by
              have h1 := bodyL_length (ss.take k)
              have h2 := tot_take_le ss k
              have h3 := fillL_length ss.length
              have h4 := numsL_length ss
              rw [mk_sizeF, List.length_append, List.length_append, List.length_append, leB_length]
              omega
            have hc := (HR2.out.cell (p := a.add k) (by rw [add_block]; exact hlt)).trans (HCells.out k hk1)
            have hsz := tot_get ss k hk1
            have hbt := bodyL_take ss k hk1
            have HBT := Lib.hid hbt
            obtain ⟨s, hs⟩ : ∃ s, ss[k] = s := ⟨_, rfl⟩
            rw [hs] at hc hsz
            have HS := Lib.hid hs
            clear hbt hs
            have hcat := cat_str (leB ((ss.length : Int) - 1) 4 ++ numsL ss ++ fillL ss.length ++ bodyL (ss.take k)) s
            have HCat := Lib.hid hcat
            clear hcat
            generalize (⟨(leB ((ss.length : Int) - 1) 4 ++ numsL ss ++ fillL ss.length ++ bodyL (ss.take k)).toArray⟩ : ByteArray) = x at hul2 HCat ⊢
            have f1 : ¬ 9223372036854775807 < x.size + s.size := by omega
            go_wp2
            go_roundw
            case rel => exact ⟨k + 1, by omega, by go_num, by rw [HCat.out, HBT.out, HS.out, List.append_assoc], HR2.out⟩
            case measure => simp [intOf]; omega
          · obtain rfl : k = ss.length := by omega
            have hfin : (⟨(leB ((ss.length : Int) - 1) 4 ++ numsL ss ++ fillL ss.length ++ bodyL (ss.take ss.length)).toArray⟩ : ByteArray) = ⟨(frameL ss).toArray⟩ := by rw [HF.out, List.take_length]
            rw [hfin]
            clear hfin
            go_wp2
            go_ret
            exact ⟨rfl, HR2.out⟩
      · have hb : ((u.size : Int) % 8 != 0) = false := by rw [hul]; simp; omega
        have HW := HR
        have HM : Hid (u = ⟨(leB ((ss.length : Int) - 1) 4 ++ numsL ss ++ fillL ss.length).toArray⟩) := Lib.hid (by rw [fillL, if_neg hp, List.append_nil]; exact HUE.out)
        clear hul HCat
        go_wp2_with fail
        go_loopw [3, 5] (fun o i wr => ∃ k : Nat, k ≤ ss.length ∧ i = .int .i64 k ∧ o = .string ⟨(leB ((ss.length : Int) - 1) 4 ++ numsL ss ++ fillL ss.length ++ bodyL (ss.take k)).toArray⟩ ∧ Hid (Below w.heap.size w wr)) (fun _ i _ => ss.length - (intOf i).toNat)
        case atStart => exact ⟨0, by omega, rfl, by rw [HM.out]; simp [bodyL], HW.out⟩
        case round =>
          obtain ⟨k, hk, rfl, rfl, HR2⟩ := hrel
          by_cases hk1 : k < ss.length
          · have hul2 : (⟨(leB ((ss.length : Int) - 1) 4 ++ numsL ss ++ fillL ss.length ++ bodyL (ss.take k)).toArray⟩ : ByteArray).size ≤ 10000 := by
              have h1 := bodyL_length (ss.take k)
              have h2 := tot_take_le ss k
              have h3 := fillL_length ss.length
              have h4 := numsL_length ss
              rw [mk_sizeF, List.length_append, List.length_append, List.length_append, leB_length]
              omega
            have hc := (HR2.out.cell (p := a.add k) (by rw [add_block]; exact hlt)).trans (HCells.out k hk1)
            have hsz := tot_get ss k hk1
            have hbt := bodyL_take ss k hk1
            have HBT := Lib.hid hbt
            obtain ⟨s, hs⟩ : ∃ s, ss[k] = s := ⟨_, rfl⟩
            rw [hs] at hc hsz
            have HS := Lib.hid hs
            clear hbt hs
            have hcat := cat_str (leB ((ss.length : Int) - 1) 4 ++ numsL ss ++ fillL ss.length ++ bodyL (ss.take k)) s
            have HCat := Lib.hid hcat
            clear hcat
            generalize (⟨(leB ((ss.length : Int) - 1) 4 ++ numsL ss ++ fillL ss.length ++ bodyL (ss.take k)).toArray⟩ : ByteArray) = x at hul2 HCat ⊢
            have f1 : ¬ 9223372036854775807 < x.size + s.size := by omega
            go_wp2
            go_roundw
            case rel => exact ⟨k + 1, by omega, by go_num, by rw [HCat.out, HBT.out, HS.out, List.append_assoc], HR2.out⟩
            case measure => simp [intOf]; omega
          · obtain rfl : k = ss.length := by omega
            have hfin : (⟨(leB ((ss.length : Int) - 1) 4 ++ numsL ss ++ fillL ss.length ++ bodyL (ss.take ss.length)).toArray⟩ : ByteArray) = ⟨(frameL ss).toArray⟩ := by rw [HF.out, List.take_length]
            rw [hfin]
            clear hfin
            go_wp2
            go_ret
            exact ⟨rfl, HR2.out⟩
theorem specFramePut_any (A : Option Addr) (cap : Nat) (ss : List ByteArray) (w : World) (h : Strs w A ss) (hn : ss.length ≤ 1048576) (ht : tot ss ≤ 1099511627776) :
    Calls Tryz.prog 23 #[.slice A ss.length cap] w fun e w' => e = .returned (.string ⟨(frameL ss).toArray⟩) ∧ Below w.heap.size w w' := by
  cases hok : frOk ss
  · exact specFramePut_no A cap ss w h hn ht hok
  · exact specFramePut_yes A cap ss w h hok
end Go.Proofs.YtbhmklbdfmgmlaaGreat

/- Packing and unpacking as plain facts on words (lists of bytes). No Go text. -/
namespace Go.Proofs.YtbhmklbdfmgmlaaGreat
/-- all noughts. -/
def zerL (l : List UInt8) : Bool := l.all (· == 0)
/-- no nought. -/
def fullL (l : List UInt8) : Bool := l.all (· != 0)
/-- at most one nought. -/
def fewL (l : List UInt8) : Bool := decide ((l.filter (· == 0)).length ≤ 1)
/-- which bytes are not 0, the lowest bit for the first. -/
def maskN : List UInt8 → Nat
  | [] => 0
  | b :: r => (if b = 0 then 0 else 1) + 2 * maskN r
def nzL (l : List UInt8) : List UInt8 := l.filter (· != 0)
/-- how many at the beginning are such, at most 255. -/
def runN (p : List UInt8 → Bool) (r : List (List UInt8)) : Nat := ((r.take 255).takeWhile p).length
theorem runN_le (p) (r : List (List UInt8)) : runN p r ≤ r.length ∧ runN p r ≤ 255 := by
  have h := (List.takeWhile_sublist p (l := r.take 255)).length_le
  rw [List.length_take] at h
  unfold runN
  omega
theorem takeWhile_length (p : List UInt8 → Bool) : ∀ (l : List (List UInt8)) (n : Nat), n ≤ l.length → (∀ j (h : j < l.length), j < n → p l[j] = true) → (n = l.length ∨ ∃ h : n < l.length, p l[n] = false) → (l.takeWhile p).length = n
  | [], n, h, _, _ => by simp at h; simp [h]
  | x :: r, 0, _, _, h => by
    rcases h with h | ⟨_, h⟩
    · simp at h
    · simp at h; simp [List.takeWhile_cons, h]
  | x :: r, n + 1, hl, hp, h => by
    have h0 := hp 0 (by simp) (by omega)
    simp at h0
    rw [List.takeWhile_cons, if_pos h0, List.length_cons, takeWhile_length p r n (by simpa using hl) (fun j hj hn => by
      have := hp (j + 1) (by simp; omega) (by omega)
      simpa using this) (by
      rcases h with h | ⟨h1, h⟩
      · left; simpa using h
      · right; exact ⟨by simpa using h1, by simpa using h⟩)]
/-- a loop that counts so ends there. -/
theorem runN_eq {p : List UInt8 → Bool} {r : List (List UInt8)} {n : Nat} (h1 : n ≤ r.length) (h2 : n ≤ 255) (h3 : ∀ j (h : j < r.length), j < n → p r[j] = true) (h4 : n = 255 ∨ n = r.length ∨ ∃ h : n < r.length, p r[n] = false) : runN p r = n := by
  unfold runN
  refine takeWhile_length p _ n (by rw [List.length_take]; omega) (fun j hj hn => ?_) ?_
  · rw [List.getElem_take]; exact h3 j _ hn
  · by_cases hn : n = (r.take 255).length
    · exact .inl hn
    · rw [List.length_take] at hn
      refine .inr ⟨by rw [List.length_take]; omega, ?_⟩
      rw [List.getElem_take]
      rcases h4 with h | h | ⟨_, h⟩
      · omega
      · omega
      · exact h
/-- words packed. -/
def packW : List (List UInt8) → List UInt8
  | [] => []
  | w :: r =>
    if zerL w then 0 :: UInt8.ofNat (runN zerL r) :: packW (r.drop (runN zerL r))
    else if fullL w then 255 :: (w ++ (UInt8.ofNat (runN fewL r) :: ((r.take (runN fewL r)).flatten ++ packW (r.drop (runN fewL r)))))
    else UInt8.ofNat (maskN w) :: (nzL w ++ packW r)
termination_by ws => ws.length
decreasing_by all_goals (simp; try omega)
/-- the word that has some bytes where a tag tells so: how many bytes, the tag, the bytes. -/
def spreadN : Nat → Nat → List UInt8 → List UInt8
  | 0, _, _ => []
  | k + 1, t, bs => if t % 2 = 0 then 0 :: spreadN k (t / 2) bs else bs.headD 0 :: spreadN k (t / 2) bs.tail
/-- how many bits are 1. -/
def popN : Nat → Nat → Nat
  | 0, _ => 0
  | k + 1, t => t % 2 + popN k (t / 2)
theorem spreadN_length : ∀ (k t : Nat) (bs : List UInt8), (spreadN k t bs).length = k
  | 0, _, _ => rfl
  | k + 1, t, bs => by rw [spreadN]; split <;> simp [spreadN_length k]
/-- one step of unpacking: what is written, and what is left; none if bytes are missing. -/
def stepU : List UInt8 → Option (List UInt8 × List UInt8)
  | [] => none
  | t :: r =>
    if r.length < popN 8 t.toNat then none else
    if t = 0 then (if r.length = 0 then none else some (List.replicate (8 * ((r.headD 0).toNat + 1)) 0, r.tail))
    else if t = 255 then (if r.length < 9 + 8 * ((r.drop 8).headD 0).toNat then none else some (r.take 8 ++ (r.drop 9).take (8 * ((r.drop 8).headD 0).toNat), (r.drop 9).drop (8 * ((r.drop 8).headD 0).toNat)))
    else some (spreadN 8 t.toNat (r.take (popN 8 t.toNat)), r.drop (popN 8 t.toNat))
theorem stepU_shorter {l o r : List UInt8} (h : stepU l = some (o, r)) : r.length < l.length := by
  cases l with
  | nil => simp [stepU] at h
  | cons t s =>
    rw [stepU] at h
    split at h
    · cases h
    · split at h
      · split at h
        · cases h
        · simp only [Option.some.injEq, Prod.mk.injEq] at h; obtain ⟨_, rfl⟩ := h; simp; omega
      · split at h
        · split at h
          · cases h
          · simp only [Option.some.injEq, Prod.mk.injEq] at h
            obtain ⟨_, rfl⟩ := h
            simp; omega
        · simp only [Option.some.injEq, Prod.mk.injEq] at h
          obtain ⟨_, rfl⟩ := h
          simp; omega
/-- bytes unpacked, with so many steps at most. -/
def unF : Nat → List UInt8 → Option (List UInt8)
  | _, [] => some []
  | 0, _ => none
  | f + 1, t :: r => match stepU (t :: r) with
    | none => none
    | some (o, r') => (unF f r').map (o ++ ·)
def unW (l : List UInt8) : Option (List UInt8) := unF l.length l
theorem unF_more : ∀ (f g : Nat) (l : List UInt8), l.length ≤ f → l.length ≤ g → unF f l = unF g l
  | f, g, [], _, _ => by cases f <;> cases g <;> rfl
  | 0, _, t :: r, h, _ => by simp at h
  | _, 0, t :: r, _, h => by simp at h
  | f + 1, g + 1, t :: r, hf, hg => by
    rw [unF, unF]
    cases hs : stepU (t :: r) with
    | none => rfl
    | some x =>
      obtain ⟨o, r'⟩ := x
      have hsh := stepU_shorter hs
      simp only
      rw [unF_more f g r' (by simp at hsh hf; omega) (by simp at hsh hg; omega)]
theorem unW_nil : unW [] = some [] := rfl
theorem unW_step {l o r : List UInt8} (h : stepU l = some (o, r)) : unW l = (unW r).map (o ++ ·) := by
  cases l with
  | nil => simp [stepU] at h
  | cons t s =>
    have hsh := stepU_shorter h
    rw [unW, List.length_cons, unF, h]
    simp only
    rw [unF_more s.length r.length r (by simp at hsh; omega) (Nat.le_refl _)]
    rfl
theorem unW_bad {l : List UInt8} (h0 : l ≠ []) (h : stepU l = none) : unW l = none := by
  cases l with
  | nil => exact absurd rfl h0
  | cons t s => rw [unW, List.length_cons, unF, h]
theorem stepU_more {l o r : List UInt8} (t : List UInt8) (h : stepU l = some (o, r)) : stepU (l ++ t) = some (o, r ++ t) := by
  cases l with
  | nil => simp [stepU] at h
  | cons x s =>
    rw [stepU] at h
    rw [List.cons_append, stepU]
    split at h
    · cases h
    · rename_i hlen
      rw [if_neg (by simp; omega)]
      split at h
      · rename_i h0
        rw [if_pos h0]
        cases s with
        | nil => simp at h
        | cons c s' =>
          simp only [List.length_cons, List.headD_cons, List.tail_cons, List.cons_append] at h ⊢
          rw [if_neg (by omega)] at h ⊢
          simp only [Option.some.injEq, Prod.mk.injEq] at h ⊢
          obtain ⟨rfl, rfl⟩ := h
          exact ⟨rfl, rfl⟩
      · rename_i h0
        rw [if_neg h0]
        split at h
        · rename_i h255
          rw [if_pos h255]
          split at h
          · cases h
          · rename_i hl
            have e8 : ((s ++ t).drop 8).headD 0 = (s.drop 8).headD 0 := by
              rw [List.drop_append_of_le_length (by omega), List.drop_eq_getElem_cons (show 8 < s.length by omega)]
              rfl
            rw [e8]
            generalize ((s.drop 8).headD 0).toNat = c at hl h ⊢
            rw [if_neg (by simp; omega), List.take_append_of_le_length (by omega), List.drop_append_of_le_length (by omega), List.take_append_of_le_length (by simp; omega), List.drop_append_of_le_length (by simp; omega)]
            simp only [Option.some.injEq, Prod.mk.injEq] at h ⊢
            obtain ⟨rfl, rfl⟩ := h
            exact ⟨rfl, rfl⟩
        · rename_i h255
          rw [if_neg h255]
          simp only [Option.some.injEq, Prod.mk.injEq] at h ⊢
          obtain ⟨rfl, rfl⟩ := h
          rw [List.take_append_of_le_length (by omega), List.drop_append_of_le_length (by omega)]
          exact ⟨rfl, rfl⟩
/-- bytes behind. -/
theorem unF_app (t : List UInt8) : ∀ (f : Nat) (l o : List UInt8), l.length ≤ f → unW l = some o → unW (l ++ t) = (unW t).map (o ++ ·)
  | f, [], o, _, h => by
    rw [unW_nil] at h
    cases h
    simp
  | 0, x :: s, _, h, _ => by simp at h
  | f + 1, x :: s, o, hf, h => by
    cases hs : stepU (x :: s) with
    | none => rw [unW_bad (by simp) hs] at h; cases h
    | some y =>
      obtain ⟨o1, r⟩ := y
      have hsh := stepU_shorter hs
      rw [unW_step hs] at h
      rw [unW_step (stepU_more t hs)]
      cases hr : unW r with
      | none => rw [hr] at h; cases h
      | some o2 =>
        rw [hr] at h
        simp at h
        rw [unF_app t f r o2 (by simp at hsh hf; omega) hr]
        subst h
        cases unW t <;> simp
theorem unW_app {l o : List UInt8} (t : List UInt8) (h : unW l = some o) : unW (l ++ t) = (unW t).map (o ++ ·) := unF_app t l.length l o (Nat.le_refl _) h
end Go.Proofs.YtbhmklbdfmgmlaaGreat
