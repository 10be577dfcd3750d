/- spec.FramePut at every argument, and the law FnExactFramePut walked. -/
import Derived.Test.YtliiffpegfkpbabDoorFramePut
namespace Go.Proofs.YtliiffpegfkpbabDoor
open Go.RowKit
theorem str_cat (a b : List UInt8) : (⟨a.toArray⟩ : ByteArray) ++ ⟨b.toArray⟩ = ⟨(a ++ b).toArray⟩ := by
  apply ext_ba; rw [ByteArray.data_append]; simp
theorem mk_size (l : List UInt8) : (⟨l.toArray⟩ : ByteArray).size = l.length := by simp [ByteArray.size]
theorem cat_str (a : List UInt8) (s : ByteArray) : (⟨a.toArray⟩ : ByteArray) ++ s = ⟨(a ++ s.data.toList).toArray⟩ := by
  apply ext_ba; rw [ByteArray.data_append]; simp
set_option maxHeartbeats 1000000 in
theorem implFramePut_no (A : Option Addr) (cap : Nat) (ss : List ByteArray) (w : World) (h : Strs w A ss) (hn : ss.length ≤ 1048576) (hok : frOk ss = false) :
    Calls Tryd.prog 8 #[.slice A ss.length cap] w fun e w' => e = .returned (.string ⟨(frameL ss).toArray⟩) ∧ Below w.heap.size w w' := by
  have hF := implFrameOk_any A cap ss w h hn
  rw [hok] at hF
  have HFO := Lib.hid hF
  have hfin : frameL ss = [] := by rw [frameL, if_neg (by rw [hok]; simp)]
  rw [hfin]
  clear hF hok hfin h hn
  go_enter Tryd.func8, Tryd.ntmps8
  go_wp2_with fail
  refine HFO.out.mono ?_
  rintro e w' ⟨rfl, rfl⟩
  go_wp2
  go_ret
  exact ⟨rfl, Below.refl _ _⟩
theorem implFramePut_any (A : Option Addr) (cap : Nat) (ss : List ByteArray) (w : World) (h : Strs w A ss) (hn : ss.length ≤ 1048576) :
    Calls Tryd.prog 8 #[.slice A ss.length cap] w fun e w' => e = .returned (.string ⟨(frameL ss).toArray⟩) ∧ Below w.heap.size w w' := by
  cases hok : frOk ss
  · exact implFramePut_no A cap ss w h hn hok
  · exact implFramePut_yes A cap ss w h hok
set_option maxHeartbeats 1000000 in
theorem specFramePut_no (A : Option Addr) (cap : Nat) (ss : List ByteArray) (w : World) (h : Strs w A ss) (hn : ss.length ≤ 1048576) (ht : tot ss ≤ 1099511627776) (hok : frOk ss = false) :
    Calls Tryd.prog 9 #[.slice A ss.length cap] w fun e w' => e = .returned (.string ⟨(frameL ss).toArray⟩) ∧ Below w.heap.size w w' := by
  have hF := specFrameOk_any A cap ss w h hn ht
  rw [hok] at hF
  have HFO := Lib.hid hF
  have hfin : frameL ss = [] := by rw [frameL, if_neg (by rw [hok]; simp)]
  rw [hfin]
  clear hF hok hfin h hn
  go_enter Tryd.func9, Tryd.ntmps9
  go_wp2_with fail
  refine HFO.out.mono ?_
  rintro e w' ⟨rfl, rfl⟩
  go_wp2
  go_ret
  exact ⟨rfl, Below.refl _ _⟩
set_option maxHeartbeats 4000000 in
theorem specFramePut_yes (A : Option Addr) (cap : Nat) (ss : List ByteArray) (w : World) (h : Strs w A ss) (hok : frOk ss = true) :
    Calls Tryd.prog 9 #[.slice A ss.length cap] w fun e w' => e = .returned (.string ⟨(frameL ss).toArray⟩) ∧ Below w.heap.size w w' := by
  obtain ⟨⟨hn1, hn6⟩, htot⟩ := frOk_parts hok
  have HFO : Hid (∀ w : World, Strs w A ss → Calls Tryd.prog 11 #[.slice A ss.length cap] w fun e w' => e = .returned (.bool true) ∧ w = w') := Lib.hid (fun w h => by
    have := specFrameOk_any A cap ss w h (by omega) (by omega)
    rw [hok] at this; exact this)
  have hfin : frameL ss = leB ((ss.length : Int) - 1) 4 ++ numsL ss ++ fillL ss.length ++ bodyL ss := by rw [frameL, if_pos hok]
  have HF := Lib.hid hfin
  obtain ⟨a, rfl, hlt, hcells⟩ := h.2.resolve_left (by intro h0; rw [h0] at hn1; simp at hn1)
  have HCells := Lib.hid hcells
  have H := Lib.hid h
  clear hfin hok h hcells
  go_enter Tryd.func9, Tryd.ntmps9
  go_wp2_with fail
  refine (HFO.out _ H.out).mono ?_
  rintro e w' ⟨rfl, rfl⟩
  go_wp2_with fail
  refine (l1Bytes_any _ 4 _ (by decide) (by decide)).mono ?_
  rintro e w1 ⟨rfl, hb1⟩
  have HB := Lib.hid hb1
  clear hb1
  go_wp2_with fail
  go_loopw [3, 4] (fun o i wr => ∃ k : Nat, k ≤ ss.length ∧ i = .int .i64 k ∧ o = .string ⟨(leB ((ss.length : Int) - 1) 4 ++ numsL (ss.take k)).toArray⟩ ∧ Hid (Below w.heap.size w wr)) (fun _ i _ => ss.length - (intOf i).toNat)
  case atStart => exact ⟨0, by omega, rfl, by simp [numsL], HB.out⟩
  case round =>
    obtain ⟨k, hk, rfl, rfl, HR⟩ := hrel
    have hul : (⟨(leB ((ss.length : Int) - 1) 4 ++ numsL (ss.take k)).toArray⟩ : ByteArray).size = 4 + 4 * k := by
      rw [mk_size, List.length_append, leB_length, numsL_length, List.length_take, Nat.min_eq_left hk]
    by_cases hk1 : k < ss.length
    · have hc := (HR.out.cell (p := a.add k) (by rw [add_block]; exact hlt)).trans (HCells.out k hk1)
      have hsz := tot_get ss k hk1
      have hnt := numsL_take ss k hk1
      have HNT := Lib.hid hnt
      obtain ⟨s, hs⟩ : ∃ s, ss[k] = s := ⟨_, rfl⟩
      rw [hs] at hc hsz
      have HS := Lib.hid hs
      clear hnt hs
      have hcat := str_cat (leB ((ss.length : Int) - 1) 4 ++ numsL (ss.take k)) (leB ((s.size / 8 : Nat) : Int) 4)
      have HCat := Lib.hid hcat
      clear hcat
      generalize (⟨(leB ((ss.length : Int) - 1) 4 ++ numsL (ss.take k)).toArray⟩ : ByteArray) = u at hul HCat ⊢
      have hu1 : u.size ≤ 10000 := by omega
      clear hul
      go_wp2_with fail
      refine (l1Bytes_any _ 4 _ (by decide) (by decide)).mono ?_
      rintro e w3 ⟨rfl, hb3⟩
      have HB3 := Lib.hid (HR.out.trans (hb3.mono HR.out.size))
      clear hb3
      have e4 : ((s.size : Int) / 8) = ((s.size / 8 : Nat) : Int) := by omega
      rw [e4]
      have hz4 := sz4 ((s.size / 8 : Nat) : Int)
      have HV := HCat.out
      rw [show (4 : Int).toNat = 4 from rfl]
      generalize (⟨(leB ((s.size / 8 : Nat) : Int) 4).toArray⟩ : ByteArray) = v at hz4 HV ⊢
      have f1 : ¬ 9223372036854775807 < u.size + v.size := by omega
      have HVV := Lib.hid HV
      clear HV e4 HCat hz4
      go_wp2
      go_roundw
      case rel => exact ⟨k + 1, by omega, by go_num, by rw [HVV.out, HNT.out, HS.out, List.append_assoc], HB3.out⟩
      case measure => simp [intOf]; omega
    · obtain rfl : k = ss.length := by omega
      clear hk1 hk HB
      have hcat := str_cat (leB ((ss.length : Int) - 1) 4 ++ numsL ss) (leB 0 4)
      have HCat := Lib.hid hcat
      rw [List.take_length] at hul ⊢
      clear hcat
      generalize hue : (⟨(leB ((ss.length : Int) - 1) 4 ++ numsL ss).toArray⟩ : ByteArray) = u at hul HCat ⊢
      have HUE := Lib.hid hue.symm
      clear hue
      have hu1 : u.size ≤ 10000 := by omega
      by_cases hp : ss.length % 2 = 0
      · have hb : ((u.size : Int) % 8 != 0) = true := by rw [hul]; simp; omega
        clear hul
        go_wp2_with fail
        refine (l1Bytes_any _ 4 _ (by decide) (by decide)).mono ?_
        rintro e w3 ⟨rfl, hb3⟩
        have HW := Lib.hid (HR.out.trans (hb3.mono HR.out.size))
        clear hb3
        have hz4 := sz4 0
        have HV := HCat.out
        rw [show (4 : Int).toNat = 4 from rfl]
        generalize (⟨(leB 0 4).toArray⟩ : ByteArray) = v at hz4 HV ⊢
        have f1 : ¬ 9223372036854775807 < u.size + v.size := by omega
        have HM : Hid (u ++ v = ⟨(leB ((ss.length : Int) - 1) 4 ++ numsL ss ++ fillL ss.length).toArray⟩) := Lib.hid (by rw [HV, fillL, if_pos hp])
        clear HV hz4 HCat hb
        go_wp2_with fail
        go_loopw [3, 5] (fun o i wr => ∃ k : Nat, k ≤ ss.length ∧ i = .int .i64 k ∧ o = .string ⟨(leB ((ss.length : Int) - 1) 4 ++ numsL ss ++ fillL ss.length ++ bodyL (ss.take k)).toArray⟩ ∧ Hid (Below w.heap.size w wr)) (fun _ i _ => ss.length - (intOf i).toNat)
        case atStart => exact ⟨0, by omega, rfl, by rw [HM.out]; simp [bodyL], HW.out⟩
        case round =>
          obtain ⟨k, hk, rfl, rfl, HR2⟩ := hrel
          by_cases hk1 : k < ss.length
          · have hul2 : (⟨(leB ((ss.length : Int) - 1) 4 ++ numsL ss ++ fillL ss.length ++ bodyL (ss.take k)).toArray⟩ : ByteArray).size ≤ 10000 := by
              have h1 := bodyL_length (ss.take k)
              have h2 := tot_take_le ss k
              have h3 := fillL_length ss.length
              have h4 := numsL_length ss
              rw [mk_size, List.length_append, List.length_append, List.length_append, leB_length]
              omega
            have hc := (HR2.out.cell (p := a.add k) (by rw [add_block]; exact hlt)).trans (HCells.out k hk1)
            have hsz := tot_get ss k hk1
            have hbt := bodyL_take ss k hk1
            have HBT := Lib.hid hbt
            obtain ⟨s, hs⟩ : ∃ s, ss[k] = s := ⟨_, rfl⟩
            rw [hs] at hc hsz
            have HS := Lib.hid hs
            clear hbt hs
            have hcat := cat_str (leB ((ss.length : Int) - 1) 4 ++ numsL ss ++ fillL ss.length ++ bodyL (ss.take k)) s
            have HCat := Lib.hid hcat
            clear hcat
            generalize (⟨(leB ((ss.length : Int) - 1) 4 ++ numsL ss ++ fillL ss.length ++ bodyL (ss.take k)).toArray⟩ : ByteArray) = x at hul2 HCat ⊢
            have f1 : ¬ 9223372036854775807 < x.size + s.size := by omega
            go_wp2
            go_roundw
            case rel => exact ⟨k + 1, by omega, by go_num, by rw [HCat.out, HBT.out, HS.out, List.append_assoc], HR2.out⟩
            case measure => simp [intOf]; omega
          · obtain rfl : k = ss.length := by omega
            have hfin : (⟨(leB ((ss.length : Int) - 1) 4 ++ numsL ss ++ fillL ss.length ++ bodyL (ss.take ss.length)).toArray⟩ : ByteArray) = ⟨(frameL ss).toArray⟩ := by rw [HF.out, List.take_length]
            rw [hfin]
            clear hfin
            go_wp2
            go_ret
            exact ⟨rfl, HR2.out⟩
      · have hb : ((u.size : Int) % 8 != 0) = false := by rw [hul]; simp; omega
        have HW := HR
        have HM : Hid (u = ⟨(leB ((ss.length : Int) - 1) 4 ++ numsL ss ++ fillL ss.length).toArray⟩) := Lib.hid (by rw [fillL, if_neg hp, List.append_nil]; exact HUE.out)
        clear hul HCat
        go_wp2_with fail
        go_loopw [3, 5] (fun o i wr => ∃ k : Nat, k ≤ ss.length ∧ i = .int .i64 k ∧ o = .string ⟨(leB ((ss.length : Int) - 1) 4 ++ numsL ss ++ fillL ss.length ++ bodyL (ss.take k)).toArray⟩ ∧ Hid (Below w.heap.size w wr)) (fun _ i _ => ss.length - (intOf i).toNat)
        case atStart => exact ⟨0, by omega, rfl, by rw [HM.out]; simp [bodyL], HW.out⟩
        case round =>
          obtain ⟨k, hk, rfl, rfl, HR2⟩ := hrel
          by_cases hk1 : k < ss.length
          · have hul2 : (⟨(leB ((ss.length : Int) - 1) 4 ++ numsL ss ++ fillL ss.length ++ bodyL (ss.take k)).toArray⟩ : ByteArray).size ≤ 10000 := by
              have h1 := bodyL_length (ss.take k)
              have h2 := tot_take_le ss k
              have h3 := fillL_length ss.length
              have h4 := numsL_length ss
              rw [mk_size, List.length_append, List.length_append, List.length_append, leB_length]
              omega
            have hc := (HR2.out.cell (p := a.add k) (by rw [add_block]; exact hlt)).trans (HCells.out k hk1)
            have hsz := tot_get ss k hk1
            have hbt := bodyL_take ss k hk1
            have HBT := Lib.hid hbt
            obtain ⟨s, hs⟩ : ∃ s, ss[k] = s := ⟨_, rfl⟩
            rw [hs] at hc hsz
            have HS := Lib.hid hs
            clear hbt hs
            have hcat := cat_str (leB ((ss.length : Int) - 1) 4 ++ numsL ss ++ fillL ss.length ++ bodyL (ss.take k)) s
            have HCat := Lib.hid hcat
            clear hcat
            generalize (⟨(leB ((ss.length : Int) - 1) 4 ++ numsL ss ++ fillL ss.length ++ bodyL (ss.take k)).toArray⟩ : ByteArray) = x at hul2 HCat ⊢
            have f1 : ¬ 9223372036854775807 < x.size + s.size := by omega
            go_wp2
            go_roundw
            case rel => exact ⟨k + 1, by omega, by go_num, by rw [HCat.out, HBT.out, HS.out, List.append_assoc], HR2.out⟩
            case measure => simp [intOf]; omega
          · obtain rfl : k = ss.length := by omega
            have hfin : (⟨(leB ((ss.length : Int) - 1) 4 ++ numsL ss ++ fillL ss.length ++ bodyL (ss.take ss.length)).toArray⟩ : ByteArray) = ⟨(frameL ss).toArray⟩ := by rw [HF.out, List.take_length]
            rw [hfin]
            clear hfin
            go_wp2
            go_ret
            exact ⟨rfl, HR2.out⟩
theorem specFramePut_any (A : Option Addr) (cap : Nat) (ss : List ByteArray) (w : World) (h : Strs w A ss) (hn : ss.length ≤ 1048576) (ht : tot ss ≤ 1099511627776) :
    Calls Tryd.prog 9 #[.slice A ss.length cap] w fun e w' => e = .returned (.string ⟨(frameL ss).toArray⟩) ∧ Below w.heap.size w w' := by
  cases hok : frOk ss
  · exact specFramePut_no A cap ss w h hn ht hok
  · exact specFramePut_yes A cap ss w h hok
end Go.Proofs.YtliiffpegfkpbabDoor
