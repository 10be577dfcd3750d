/- Texts of the proof of the law FnSend, side by side: part 36. -/
import Derived.Test.YtlbfffokkhccaaaGreatDoorMSend35
set_option maxHeartbeats 8000000
set_option maxRecDepth 100000
namespace Go.Proofs.YtlbfffokkhccaaaGreatDoor
open Go.RowKit
theorem str_cat (a b : List UInt8) : (⟨a.toArray⟩ : ByteArray) ++ ⟨b.toArray⟩ = ⟨(a ++ b).toArray⟩ := by
 apply ext_ba; rw [ByteArray.data_append]; simp
theorem mk_sizeF (l : List UInt8) : (⟨l.toArray⟩ : ByteArray).size = l.length := by simp [ByteArray.size]
theorem cat_str (a : List UInt8) (s : ByteArray) : (⟨a.toArray⟩ : ByteArray) ++ s = ⟨(a ++ s.data.toList).toArray⟩ := by
 apply ext_ba; rw [ByteArray.data_append]; simp
theorem implFramePut_no (A : Option Addr) (cap : Nat) (ss : List ByteArray) (w : World) (h : Strs w A ss) (hn : ss.length ≤ 1048576) (hok : frOk ss = false) :
 Calls Tryz.prog 49 #[.slice A ss.length cap] w fun e w' => e = .returned (.string ⟨(frameL ss).toArray⟩) ∧ Below w.heap.size w w' := by
 have hF := implFrameOk_any A cap ss w h hn
 rw [hok] at hF
 have HFO := Lib.hid hF
 have hfin : frameL ss = [] := by rw [frameL, if_neg (by rw [hok]; simp)]
 rw [hfin]
 clear hF hok hfin h hn
 go_enter Tryz.func49, Tryz.ntmps49
 go_wp2_with fail
 refine HFO.out.mono ?_
 rintro e w' ⟨rfl, rfl⟩
 go_wp2
 go_ret
 exact ⟨rfl, Below.refl _ _⟩
theorem implFramePut_any (A : Option Addr) (cap : Nat) (ss : List ByteArray) (w : World) (h : Strs w A ss) (hn : ss.length ≤ 1048576) :
 Calls Tryz.prog 49 #[.slice A ss.length cap] w fun e w' => e = .returned (.string ⟨(frameL ss).toArray⟩) ∧ Below w.heap.size w w' := by
 cases hok : frOk ss
 · exact implFramePut_no A cap ss w h hn hok
 · exact implFramePut_yes A cap ss w h hok
theorem specFramePut_no (A : Option Addr) (cap : Nat) (ss : List ByteArray) (w : World) (h : Strs w A ss) (hn : ss.length ≤ 1048576) (ht : tot ss ≤ 1099511627776) (hok : frOk ss = false) :
 Calls Tryz.prog 51 #[.slice A ss.length cap] w fun e w' => e = .returned (.string ⟨(frameL ss).toArray⟩) ∧ Below w.heap.size w w' := by
 have hF := specFrameOk_any A cap ss w h hn ht
 rw [hok] at hF
 have HFO := Lib.hid hF
 have hfin : frameL ss = [] := by rw [frameL, if_neg (by rw [hok]; simp)]
 rw [hfin]
 clear hF hok hfin h hn
 go_enter Tryz.func51, Tryz.ntmps51
 go_wp2_with fail
 refine HFO.out.mono ?_
 rintro e w' ⟨rfl, rfl⟩
 go_wp2
 go_ret
 exact ⟨rfl, Below.refl _ _⟩
theorem specFramePut_yes (A : Option Addr) (cap : Nat) (ss : List ByteArray) (w : World) (h : Strs w A ss) (hok : frOk ss = true) :
 Calls Tryz.prog 51 #[.slice A ss.length cap] w fun e w' => e = .returned (.string ⟨(frameL ss).toArray⟩) ∧ Below w.heap.size w w' := by
 obtain ⟨⟨hn1, hn6⟩, htot⟩ := frOk_parts hok
 have HFO : Hid (∀ w : World, Strs w A ss → Calls Tryz.prog 80 #[.slice A ss.length cap] w fun e w' => e = .returned (.bool true) ∧ w = w') := Lib.hid (fun w h => by
  have := specFrameOk_any A cap ss w h (by omega) (by omega)
  rw [hok] at this; exact this)
 have hfin : frameL ss = leB ((ss.length : Int) - 1) 4 ++ numsL ss ++ fillL ss.length ++ bodyL ss := by rw [frameL, if_pos hok]
 have HF := Lib.hid hfin
 obtain ⟨a, rfl, hlt, hcells⟩ := h.2.resolve_left (by intro h0; rw [h0] at hn1; simp at hn1)
 have HCells := Lib.hid hcells
 have H := Lib.hid h
 clear hfin hok h hcells
 go_enter Tryz.func51, Tryz.ntmps51
 go_wp2_with fail
 refine (HFO.out _ H.out).mono ?_
 rintro e w' ⟨rfl, rfl⟩
 go_wp2_with fail
 refine (l1Bytes_any _ 4 _ (by decide) (by decide)).mono ?_
 rintro e w1 ⟨rfl, hb1⟩
 have HB := Lib.hid hb1
 clear hb1
 go_wp2_with fail
 go_loopw [3, 4] (fun o i wr => ∃ k : Nat, k ≤ ss.length ∧ i = .int .i64 k ∧ o = .string ⟨(leB ((ss.length : Int) - 1) 4 ++ numsL (ss.take k)).toArray⟩ ∧ Hid (Below w.heap.size w wr)) (fun _ i _ => ss.length - (intOf i).toNat)
 case atStart => exact ⟨0, by omega, rfl, by simp [numsL], HB.out⟩
 case round =>
  obtain ⟨k, hk, rfl, rfl, HR⟩ := hrel
  have hul : (⟨(leB ((ss.length : Int) - 1) 4 ++ numsL (ss.take k)).toArray⟩ : ByteArray).size = 4 + 4 * k := by
   rw [mk_sizeF, List.length_append, leB_length, numsL_length, List.length_take, Nat.min_eq_left hk]
  by_cases hk1 : k < ss.length
  · have hc := (HR.out.cell (p := a.add k) (by rw [add_block]; exact hlt)).trans (HCells.out k hk1)
    have hsz := tot_get ss k hk1
    have hnt := numsL_take ss k hk1
    have HNT := Lib.hid hnt
    obtain ⟨s, hs⟩ : ∃ s, ss[k] = s := ⟨_, rfl⟩
    rw [hs] at hc hsz
    have HS := Lib.hid hs
    clear hnt hs
    have hcat := str_cat (leB ((ss.length : Int) - 1) 4 ++ numsL (ss.take k)) (leB ((s.size / 8 : Nat) : Int) 4)
    have HCat := Lib.hid hcat
    clear hcat
    generalize (⟨(leB ((ss.length : Int) - 1) 4 ++ numsL (ss.take k)).toArray⟩ : ByteArray) = u at hul HCat ⊢
    have hu1 : u.size ≤ 10000 := by omega
    clear hul
    go_wp2_with fail
    refine (l1Bytes_any _ 4 _ (by decide) (by decide)).mono ?_
    rintro e w3 ⟨rfl, hb3⟩
    have HB3 := Lib.hid (HR.out.trans (hb3.mono HR.out.size))
    clear hb3
    have e4 : ((s.size : Int) / 8) = ((s.size / 8 : Nat) : Int) := by omega
    rw [e4]
    have hz4 := sz4 ((s.size / 8 : Nat) : Int)
    have HV := HCat.out
    rw [show (4 : Int).toNat = 4 from rfl]
    generalize (⟨(leB ((s.size / 8 : Nat) : Int) 4).toArray⟩ : ByteArray) = v at hz4 HV ⊢
    have f1 : ¬ 9223372036854775807 < u.size + v.size := by omega
    have HVV := Lib.hid HV
    clear HV e4 HCat hz4
    go_wp2
    go_roundw
    case rel => exact ⟨k + 1, by omega, by go_num, by rw [HVV.out, HNT.out, HS.out, List.append_assoc], HB3.out⟩
    case measure => simp [intOf]; omega
  · obtain rfl : k = ss.length := by omega
    clear hk1 hk HB
    have hcat := str_cat (leB ((ss.length : Int) - 1) 4 ++ numsL ss) (leB 0 4)
    have HCat := Lib.hid hcat
    rw [List.take_length] at hul ⊢
    clear hcat
    generalize hue : (⟨(leB ((ss.length : Int) - 1) 4 ++ numsL ss).toArray⟩ : ByteArray) = u at hul HCat ⊢
    have HUE := Lib.hid hue.symm
    clear hue
    have hu1 : u.size ≤ 10000 := by omega
    by_cases hp : ss.length % 2 = 0
    · have hb : ((u.size : Int) % 8 != 0) = true := by rw [hul]; simp; omega
      clear hul
      go_wp2_with fail
      refine (l1Bytes_any _ 4 _ (by decide) (by decide)).mono ?_
      rintro e w3 ⟨rfl, hb3⟩
      have HW := Lib.hid (HR.out.trans (hb3.mono HR.out.size))
      clear hb3
      have hz4 := sz4 0
      have HV := HCat.out
      rw [show (4 : Int).toNat = 4 from rfl]
      generalize (⟨(leB 0 4).toArray⟩ : ByteArray) = v at hz4 HV ⊢
      have f1 : ¬ 9223372036854775807 < u.size + v.size := by omega
      have HM : Hid (u ++ v = ⟨(leB ((ss.length : Int) - 1) 4 ++ numsL ss ++ fillL ss.length).toArray⟩) := Lib.hid (by rw [HV, fillL, if_pos hp])
      clear HV hz4 HCat hb
      go_wp2_with fail
      go_loopw [3, 5] (fun o i wr => ∃ k : Nat, k ≤ ss.length ∧ i = .int .i64 k ∧ o = .string ⟨(leB ((ss.length : Int) - 1) 4 ++ numsL ss ++ fillL ss.length ++ bodyL (ss.take k)).toArray⟩ ∧ Hid (Below w.heap.size w wr)) (fun _ i _ => ss.length - (intOf i).toNat)
      case atStart => exact ⟨0, by omega, rfl, by rw [HM.out]; simp [bodyL], HW.out⟩
      case round =>
       obtain ⟨k, hk, rfl, rfl, HR2⟩ := hrel
       by_cases hk1 : k < ss.length
       · have hul2 : (⟨(leB ((ss.length : Int) - 1) 4 ++ numsL ss ++ fillL ss.length ++ bodyL (ss.take k)).toArray⟩ : ByteArray).size ≤ 10000 := by
          have h1 := bodyL_length (ss.take k)
          have h2 := tot_take_le ss k
          have h3 := fillL_length ss.length
          have h4 := numsL_length ss
          rw [mk_sizeF, List.length_append, List.length_append, List.length_append, leB_length]
          omega
         have hc := (HR2.out.cell (p := a.add k) (by rw [add_block]; exact hlt)).trans (HCells.out k hk1)
         have hsz := tot_get ss k hk1
         have hbt := bodyL_take ss k hk1
         have HBT := Lib.hid hbt
         obtain ⟨s, hs⟩ : ∃ s, ss[k] = s := ⟨_, rfl⟩
         rw [hs] at hc hsz
         have HS := Lib.hid hs
         clear hbt hs
         have hcat := cat_str (leB ((ss.length : Int) - 1) 4 ++ numsL ss ++ fillL ss.length ++ bodyL (ss.take k)) s
         have HCat := Lib.hid hcat
         clear hcat
         generalize (⟨(leB ((ss.length : Int) - 1) 4 ++ numsL ss ++ fillL ss.length ++ bodyL (ss.take k)).toArray⟩ : ByteArray) = x at hul2 HCat ⊢
         have f1 : ¬ 9223372036854775807 < x.size + s.size := by omega
         go_wp2
         go_roundw
         case rel => exact ⟨k + 1, by omega, by go_num, by rw [HCat.out, HBT.out, HS.out, List.append_assoc], HR2.out⟩
         case measure => simp [intOf]; omega
       · obtain rfl : k = ss.length := by omega
         have hfin : (⟨(leB ((ss.length : Int) - 1) 4 ++ numsL ss ++ fillL ss.length ++ bodyL (ss.take ss.length)).toArray⟩ : ByteArray) = ⟨(frameL ss).toArray⟩ := by rw [HF.out, List.take_length]
         rw [hfin]
         clear hfin
         go_wp2
         go_ret
         exact ⟨rfl, HR2.out⟩
    · have hb : ((u.size : Int) % 8 != 0) = false := by rw [hul]; simp; omega
      have HW := HR
      have HM : Hid (u = ⟨(leB ((ss.length : Int) - 1) 4 ++ numsL ss ++ fillL ss.length).toArray⟩) := Lib.hid (by rw [fillL, if_neg hp, List.append_nil]; exact HUE.out)
      clear hul HCat
      go_wp2_with fail
      go_loopw [3, 5] (fun o i wr => ∃ k : Nat, k ≤ ss.length ∧ i = .int .i64 k ∧ o = .string ⟨(leB ((ss.length : Int) - 1) 4 ++ numsL ss ++ fillL ss.length ++ bodyL (ss.take k)).toArray⟩ ∧ Hid (Below w.heap.size w wr)) (fun _ i _ => ss.length - (intOf i).toNat)
      case atStart => exact ⟨0, by omega, rfl, by rw [HM.out]; simp [bodyL], HW.out⟩
      case round =>
       obtain ⟨k, hk, rfl, rfl, HR2⟩ := hrel
       by_cases hk1 : k < ss.length
       · have hul2 : (⟨(leB ((ss.length : Int) - 1) 4 ++ numsL ss ++ fillL ss.length ++ bodyL (ss.take k)).toArray⟩ : ByteArray).size ≤ 10000 := by
          have h1 := bodyL_length (ss.take k)
          have h2 := tot_take_le ss k
          have h3 := fillL_length ss.length
          have h4 := numsL_length ss
          rw [mk_sizeF, List.length_append, List.length_append, List.length_append, leB_length]
          omega
         have hc := (HR2.out.cell (p := a.add k) (by rw [add_block]; exact hlt)).trans (HCells.out k hk1)
         have hsz := tot_get ss k hk1
         have hbt := bodyL_take ss k hk1
         have HBT := Lib.hid hbt
         obtain ⟨s, hs⟩ : ∃ s, ss[k] = s := ⟨_, rfl⟩
         rw [hs] at hc hsz
         have HS := Lib.hid hs
         clear hbt hs
         have hcat := cat_str (leB ((ss.length : Int) - 1) 4 ++ numsL ss ++ fillL ss.length ++ bodyL (ss.take k)) s
         have HCat := Lib.hid hcat
         clear hcat
         generalize (⟨(leB ((ss.length : Int) - 1) 4 ++ numsL ss ++ fillL ss.length ++ bodyL (ss.take k)).toArray⟩ : ByteArray) = x at hul2 HCat ⊢
         have f1 : ¬ 9223372036854775807 < x.size + s.size := by omega
         go_wp2
         go_roundw
         case rel => exact ⟨k + 1, by omega, by go_num, by rw [HCat.out, HBT.out, HS.out, List.append_assoc], HR2.out⟩
         case measure => simp [intOf]; omega
       · obtain rfl : k = ss.length := by omega
         have hfin : (⟨(leB ((ss.length : Int) - 1) 4 ++ numsL ss ++ fillL ss.length ++ bodyL (ss.take ss.length)).toArray⟩ : ByteArray) = ⟨(frameL ss).toArray⟩ := by rw [HF.out, List.take_length]
         rw [hfin]
         clear hfin
         go_wp2
         go_ret
         exact ⟨rfl, HR2.out⟩
theorem specFramePut_any (A : Option Addr) (cap : Nat) (ss : List ByteArray) (w : World) (h : Strs w A ss) (hn : ss.length ≤ 1048576) (ht : tot ss ≤ 1099511627776) :
 Calls Tryz.prog 51 #[.slice A ss.length cap] w fun e w' => e = .returned (.string ⟨(frameL ss).toArray⟩) ∧ Below w.heap.size w w' := by
 cases hok : frOk ss
 · exact specFramePut_no A cap ss w h hn ht hok
 · exact specFramePut_yes A cap ss w h hok
end Go.Proofs.YtlbfffokkhccaaaGreatDoor
namespace Go.Proofs.YtlbfffokkhccaaaGreatDoor
theorem maskN_lt : ∀ l : List UInt8, maskN l < 2 ^ l.length
 | [] => by simp [maskN]
 | b :: r => by
   have := maskN_lt r
   rw [maskN, List.length_cons, Nat.pow_succ]
   split <;> omega
theorem maskN_c0 (r : List UInt8) : maskN (0 :: r) = 2 * maskN r := by simp [maskN]
theorem maskN_c1 {b : UInt8} (r : List UInt8) (h : b ≠ 0) : maskN (b :: r) = 1 + 2 * maskN r := by simp [maskN, h]
theorem nz_c0 (r : List UInt8) : nzL (0 :: r) = nzL r := by simp [nzL]
theorem nz_c1 {b : UInt8} (r : List UInt8) (h : b ≠ 0) : nzL (b :: r) = b :: nzL r := by simp [nzL, h]
theorem popN_mask : ∀ l : List UInt8, popN l.length (maskN l) = (nzL l).length
 | [] => rfl
 | b :: r => by
   have ih := popN_mask r
   rw [List.length_cons, popN]
   by_cases h : b = 0
   · subst h
     rw [maskN_c0, nz_c0, show (2 * maskN r) % 2 = 0 by omega, show (2 * maskN r) / 2 = maskN r by omega, ih]; omega
   · rw [maskN_c1 r h, nz_c1 r h, show (1 + 2 * maskN r) % 2 = 1 by omega, show (1 + 2 * maskN r) / 2 = maskN r by omega, ih, List.length_cons]; omega
theorem spread_mask : ∀ l : List UInt8, spreadN l.length (maskN l) (nzL l) = l
 | [] => rfl
 | b :: r => by
   have ih := spread_mask r
   rw [List.length_cons, spreadN]
   by_cases h : b = 0
   · subst h
     rw [maskN_c0, nz_c0, if_pos (by omega), show (2 * maskN r) / 2 = maskN r by omega, ih]
   · rw [maskN_c1 r h, nz_c1 r h, if_neg (by omega), show (1 + 2 * maskN r) / 2 = maskN r by omega, List.headD_cons, List.tail_cons, ih]
theorem maskN_zero : ∀ l : List UInt8, maskN l = 0 ↔ zerL l = true
 | [] => by simp [maskN, zerL]
 | b :: r => by
   have ih := maskN_zero r
   rw [zerL, List.all_cons, Bool.and_eq_true, ← zerL, ← ih]
   by_cases h : b = 0
   · subst h
     rw [maskN_c0]
     simp only [beq_self_eq_true, true_and]
     omega
   · rw [maskN_c1 r h]
     simp [h]
theorem maskN_full : ∀ l : List UInt8, maskN l + 1 = 2 ^ l.length ↔ fullL l = true
 | [] => by simp [maskN, fullL]
 | b :: r => by
   have ih := maskN_full r
   have hlt := maskN_lt r
   rw [maskN, fullL, List.all_cons, Bool.and_eq_true, ← fullL, ← ih, List.length_cons, Nat.pow_succ]
   by_cases h : b = 0
   · rw [if_pos h]; simp [h]; omega
   · rw [if_neg h]; simp [h]; omega
theorem mask8_full {l : List UInt8} (h : l.length = 8) : maskN l = 255 ↔ fullL l = true := by
 rw [← maskN_full, h]; omega
theorem nz_full {l : List UInt8} (h : fullL l = true) : nzL l = l := by
 rw [nzL, List.filter_eq_self]
 simpa [fullL] using h
theorem zer_rep {l : List UInt8} (h : zerL l = true) : l = List.replicate l.length 0 := by
 rw [List.eq_replicate_iff]
 exact ⟨rfl, by simpa [zerL] using h⟩
def Wds (ws : List (List UInt8)) : Prop := ∀ w ∈ ws, w.length = 8
theorem Wds.drop {ws : List (List UInt8)} (h : Wds ws) (n : Nat) : Wds (ws.drop n) := fun w hw => h w (List.mem_of_mem_drop hw)
theorem Wds.take {ws : List (List UInt8)} (h : Wds ws) (n : Nat) : Wds (ws.take n) := fun w hw => h w (List.mem_of_mem_take hw)
theorem flat_length {ws : List (List UInt8)} (h : Wds ws) : ws.flatten.length = 8 * ws.length := by
 induction ws with
 | nil => rfl
 | cons w r ih =>
  rw [List.flatten_cons, List.length_append, h w (by simp), ih (fun x hx => h x (by simp [hx])), List.length_cons]; omega
theorem run_all (p : List UInt8 → Bool) (r : List (List UInt8)) : ∀ w ∈ r.take (runN p r), p w = true := by
 intro w hw
 have e : r.take (runN p r) = (r.take 255).takeWhile p := by
  have hpre : (r.take 255).takeWhile p <+: r := (List.takeWhile_prefix p).trans (List.take_prefix 255 r)
  rw [List.prefix_iff_eq_take] at hpre
  exact hpre.symm
 rw [e] at hw
 have h := List.all_takeWhile (p := p) (l := r.take 255)
 exact (List.all_eq_true.1 h) w hw
theorem zer_flat {ws : List (List UInt8)} (h : Wds ws) (hz : ∀ w ∈ ws, zerL w = true) : ws.flatten = List.replicate (8 * ws.length) 0 := by
 induction ws with
 | nil => rfl
 | cons w r ih =>
  rw [List.flatten_cons, ih (fun x hx => h x (by simp [hx])) (fun x hx => hz x (by simp [hx])), zer_rep (hz w (by simp)), h w (by simp), List.replicate_append_replicate, List.length_cons]
  congr 1; omega
theorem ofNat_255 (n : Nat) (h : n ≤ 255) : (UInt8.ofNat n).toNat = n := by rw [UInt8.toNat_ofNat']; omega
theorem step_zero (n : Nat) (h : n ≤ 255) (r : List UInt8) : stepU (0 :: UInt8.ofNat n :: r) = some (List.replicate (8 * (n + 1)) 0, r) := by
 rw [stepU, if_neg (by simp [popN]), if_pos rfl]
 simp [ofNat_255 n h]
theorem pop_255 : popN 8 255 = 8 := by decide
theorem step_full (w : List UInt8) (h8 : w.length = 8) (n : Nat) (h : n ≤ 255) (x r : List UInt8) (hx : x.length = 8 * n) : stepU (255 :: (w ++ (UInt8.ofNat n :: (x ++ r)))) = some (w ++ x, r) := by
 have e : (255 : UInt8).toNat = 255 := rfl
 have d8 : (w ++ (UInt8.ofNat n :: (x ++ r))).drop 8 = UInt8.ofNat n :: (x ++ r) := by rw [List.drop_append_of_le_length (by omega), List.drop_of_length_le (by omega), List.nil_append]
 have d9 : (w ++ (UInt8.ofNat n :: (x ++ r))).drop 9 = x ++ r := by rw [show (9 : Nat) = 8 + 1 from rfl, ← List.drop_drop, d8]; rfl
 rw [stepU, e, pop_255, if_neg (by simp; omega), if_neg (by decide), if_pos rfl, d8, d9, List.headD_cons, ofNat_255 n h, if_neg (by simp; omega), List.take_append_of_le_length (by omega), List.take_of_length_le (by omega), List.take_append_of_le_length (by omega), List.take_of_length_le (by omega), List.drop_append_of_le_length (by omega), List.drop_of_length_le (by omega), List.nil_append]
theorem step_some (w : List UInt8) (h8 : w.length = 8) (hz : zerL w = false) (hf : fullL w = false) (r : List UInt8) : stepU (UInt8.ofNat (maskN w) :: (nzL w ++ r)) = some (w, r) := by
 have hlt := maskN_lt w
 rw [h8] at hlt
 have e := ofNat_255 (maskN w) (by omega)
 have hp := popN_mask w
 have hs := spread_mask w
 rw [h8] at hp hs
 have h0 : UInt8.ofNat (maskN w) ≠ 0 := fun h => by
  have := congrArg UInt8.toNat h
  rw [e] at this
  have := (maskN_zero w).1 this
  rw [hz] at this; cases this
 have h255 : UInt8.ofNat (maskN w) ≠ 255 := fun h => by
  have := congrArg UInt8.toNat h
  rw [e] at this
  have := (mask8_full h8).1 this
  rw [hf] at this; cases this
 rw [stepU, e, hp, if_neg (by simp), if_neg h0, if_neg h255, List.take_append_of_le_length (by omega), List.take_of_length_le (by omega), List.drop_append_of_le_length (by omega), List.drop_of_length_le (by omega), hs, List.nil_append]
theorem unW_packN : ∀ (k : Nat) (ws : List (List UInt8)), ws.length ≤ k → Wds ws → unW (packW ws) = some ws.flatten
 | _, [], _, _ => by rw [packW]; rfl
 | 0, _ :: _, h, _ => by simp at h
 | k + 1, w :: r, hk, hw => by
   have h8 := hw w (by simp)
   have hr : Wds r := fun x hx => hw x (by simp [hx])
   have hkr : r.length ≤ k := by simpa using hk
   rw [packW]
   cases hz : zerL w
   · cases hf : fullL w
     · rw [if_neg (by simp), if_neg (by simp), unW_step (step_some w h8 hz hf _), unW_packN k r hkr hr]
       simp
     · obtain ⟨n1, n2⟩ := runN_le fewL r
       have hx := flat_length (hr.take (runN fewL r))
       rw [List.length_take, Nat.min_eq_left n1] at hx
       rw [if_neg (by simp), if_pos rfl, unW_step (step_full w h8 _ n2 _ _ hx), unW_packN k _ (by simp; omega) (hr.drop _)]
       rw [Option.map_some, List.append_assoc, ← List.flatten_append, List.take_append_drop, List.flatten_cons]
   · obtain ⟨n1, n2⟩ := runN_le zerL r
     rw [if_pos rfl, unW_step (step_zero _ n2 _), unW_packN k _ (by simp; omega) (hr.drop _)]
     have h1 : List.replicate (8 * (runN zerL r + 1)) (0 : UInt8) = w ++ (r.take (runN zerL r)).flatten := by
      rw [zer_flat (hr.take _) (run_all zerL r), List.length_take, Nat.min_eq_left n1, zer_rep hz, h8, List.replicate_append_replicate]
      congr 1; omega
     rw [Option.map_some, h1, List.append_assoc, ← List.flatten_append, List.take_append_drop, List.flatten_cons]
theorem unW_pack {ws : List (List UInt8)} (h : Wds ws) : unW (packW ws) = some ws.flatten := unW_packN ws.length ws (Nat.le_refl _) h
theorem nz_le (w : List UInt8) : (nzL w).length ≤ w.length := List.length_filter_le _ _
theorem pack_lenN : ∀ (k : Nat) (ws : List (List UInt8)), ws.length ≤ k → Wds ws → (packW ws).length ≤ 10 * ws.length
 | _, [], _, _ => by rw [packW]; simp
 | 0, _ :: _, h, _ => by simp at h
 | k + 1, w :: r, hk, hw => by
   have h8 := hw w (by simp)
   have hr : Wds r := fun x hx => hw x (by simp [hx])
   have hkr : r.length ≤ k := by simpa using hk
   rw [packW]
   split
   · obtain ⟨n1, n2⟩ := runN_le zerL r
     have := pack_lenN k (r.drop (runN zerL r)) (by simp; omega) (hr.drop _)
     simp at this ⊢; omega
   · split
     · obtain ⟨n1, n2⟩ := runN_le fewL r
       have := pack_lenN k (r.drop (runN fewL r)) (by simp; omega) (hr.drop _)
       have hx := flat_length (hr.take (runN fewL r))
       rw [List.length_take, Nat.min_eq_left n1] at hx
       rw [List.length_cons, List.length_append, List.length_cons, List.length_append, hx, h8, List.length_cons]
       rw [List.length_drop] at this
       omega
     · have := pack_lenN k r hkr hr
       have h2 := nz_le w
       rw [List.length_cons, List.length_append, List.length_cons]; omega
theorem pack_len {ws : List (List UInt8)} (h : Wds ws) : (packW ws).length ≤ 10 * ws.length := pack_lenN ws.length ws (Nat.le_refl _) h
theorem tw_next (p : List UInt8 → Bool) : ∀ (l : List (List UInt8)) (n : Nat) (h : n < l.length), (l.takeWhile p).length = n → p l[n] = false
 | x :: r, n, h, he => by
   rw [List.takeWhile_cons] at he
   cases hp : p x
   · rw [hp] at he
     simp at he
     subst he
     simpa using hp
   · rw [hp, if_pos rfl, List.length_cons] at he
     obtain ⟨m, rfl⟩ : ∃ m, n = m + 1 := ⟨n - 1, by omega⟩
     have := tw_next p r m (by simpa using h) (by omega)
     simpa using this
theorem filt_len (p : UInt8 → Bool) : ∀ l : List UInt8, (l.filter p).length + (l.filter fun x => !p x).length = l.length
 | [] => rfl
 | x :: r => by
   have := filt_len p r
   rw [List.filter_cons, List.filter_cons]
   cases hp : p x <;> simp [hp] <;> omega
open Go.RowKit
theorem maskN_take (l : List UInt8) : ∀ k, k < l.length → maskN (l.take (k + 1)) = maskN (l.take k) + (if l[k]?.getD 0 = 0 then 0 else 2 ^ k) := by
 induction l with
 | nil => intro k h; simp at h
 | cons b r ih =>
  intro k h
  cases k with
  | zero => simp [maskN]
  | succ k =>
   rw [List.take_succ_cons, List.take_succ_cons, maskN, maskN, ih k (by simpa using h), List.getElem?_cons_succ, Nat.pow_succ]
   by_cases hz : r[k]?.getD 0 = 0
   · rw [if_pos hz, if_pos hz]; omega
   · rw [if_neg hz, if_neg hz]; omega
theorem or_bit_u8 (m k : Nat) (hm : m < 2 ^ k) (hk : k < 8) : bits .or .u8 (m : Int) ((2 ^ k : Nat) : Int) = ((m + 2 ^ k : Nat) : Int) := by
 have h2 : 2 ^ k ≤ 2 ^ 7 := Nat.pow_le_pow_right (by decide) (by omega)
 have e7 : (2 : Nat) ^ 7 = 128 := rfl
 have hor : m ||| 2 ^ k = m + 2 ^ k := by
  have := Nat.two_pow_add_eq_or_of_lt hm 1
  rw [Nat.mul_one] at this
  rw [Nat.or_comm, ← this]
  omega
 show IntKind.u8.wrap ((BitVec.ofInt 8 (m : Int) ||| BitVec.ofInt 8 ((2 ^ k : Nat) : Int)).toNat : Int) = _
 rw [BitVec.toNat_or, BitVec.ofInt_natCast, BitVec.ofInt_natCast, BitVec.toNat_ofNat, BitVec.toNat_ofNat, Nat.mod_eq_of_lt (by omega), Nat.mod_eq_of_lt (by omega), hor, IntKind.wrap_u8]
 omega
theorem shl_bit_u8 (k : Nat) (hk : k < 8) : IntKind.u8.wrap ((2 ^ k : Nat) : Int) = ((2 ^ k : Nat) : Int) := by
 have h : k = 0 ∨ k = 1 ∨ k = 2 ∨ k = 3 ∨ k = 4 ∨ k = 5 ∨ k = 6 ∨ k = 7 := by omega
 rcases h with rfl | rfl | rfl | rfl | rfl | rfl | rfl | rfl <;> rfl
theorem shl2 (k : Nat) (hk : k < 8) : (2 : Int) ^ k % 256 = ((2 ^ k : Nat) : Int) := by
 have h : k = 0 ∨ k = 1 ∨ k = 2 ∨ k = 3 ∨ k = 4 ∨ k = 5 ∨ k = 6 ∨ k = 7 := by omega
 rcases h with rfl | rfl | rfl | rfl | rfl | rfl | rfl | rfl <;> rfl
theorem index_wd (l : List UInt8) (k : Nat) (c : UInt8) (hl : l.length = 8) (hk : k < 8) (hc : l[k]?.getD 0 = c) (W : World) :
 (Instr.index 87 (.agg (wd l)) (.int .i64 (k : Int))).run Tryz.prog W = .ok (.int .u8 (c.toNat : Int)) W := by
 have hkl : k < l.length := by omega
 have hidx : (wd l)[k]? = some (.int .u8 (c.toNat : Int)) := by rw [← hc]; simp [wd, Lib.byteCells, hkl]
 obtain ⟨j, hj, hjs⟩ := Option.map_eq_some_iff.1 size5
 have hs := wd_size l
 have hk2 : k < (wd l).size := by omega
 have hget : (wd l)[k] = .int .u8 (c.toNat : Int) := by rw [Array.getElem?_eq_getElem hk2] at hidx; exact Option.some.inj hidx
 have hag := Tryz.isAgg5
 simp [Instr.index, part, hag, asIntOf, run_underlying Tryz.underlying87, sizeOf, typeInfo, hj, hjs, hk, hidx, hget]
theorem mask_any (l : List UInt8) (w : World) (hl : l.length = 8) :
 Calls Tryz.prog 139 #[.agg (wd l)] w fun e w' => e = .returned (.int .u8 (maskN l : Nat)) ∧ Below w.heap.size w w' := by
 have HL := Lib.hid hl
 have h0 := heap_alloc_new w (.cells (wd l) 87)
 have HW := Lib.hid h0
 clear hl h0
 go_enter Tryz.func139, Tryz.ntmps139
 go_wp2_with (refine wpList_load_wd rfl 87 (.tmp 1) rfl w.heap.size rfl 87 l _ HW.out Tryz.underlying87 rfl (by rw [HL.out]; exact size46) ?_)
 go_loop [3, 7] (fun m i => ∃ k : Nat, k ≤ 8 ∧ i = .int .i64 k ∧ m = .int .u8 (maskN (l.take k) : Nat)) (fun _ i => 8 - (intOf i).toNat)
 case atStart => exact ⟨0, by omega, rfl, rfl⟩
 case round =>
  obtain ⟨k, hk, rfl, rfl⟩ := hrel
  have hm1 := maskN_lt (l.take k)
  have hml : (l.take k).length = k := by rw [List.length_take, HL.out]; omega
  rw [hml] at hm1
  by_cases hk1 : k < 8
  · have hst := maskN_take l k (by rw [HL.out]; exact hk1)
    have hidx := fun c hc W => index_wd l k c HL.out hk1 hc W
    have hor := or_bit_u8 (maskN (l.take k)) k hm1 hk1
    have hsh := shl_bit_u8 k hk1
    have HST := Lib.hid hst
    generalize maskN (l.take k) = M at hor HST ⊢
    have hidx2 := hidx _ rfl
    clear hidx
    generalize l[k]?.getD 0 = c at HST hidx2
    clear hst hm1 hml
    by_cases hz : c = 0
    · have hz1 : ((c.toNat : Int) == 0) = true := by rw [hz]; rfl
      have hz2 : ((c.toNat : Int) != 0) = false := by rw [hz]; rfl
      have HZ := Lib.hid hz
      clear hz hor hsh
      go_wp2
      go_round
      case rel => exact ⟨k + 1, by omega, by go_num, by rw [HST.out, if_pos HZ.out]; rfl⟩
      case measure => simp [intOf]; omega
    · have hz1 : ((c.toNat : Int) == 0) = false := by
       rw [beq_eq_false_iff_ne]; intro h; exact hz (UInt8.toNat_inj.1 (show c.toNat = 0 by omega))
      have hz2 : ((c.toNat : Int) != 0) = true := by simp [bne, hz1]
      have HZ := Lib.hid hz
      clear hz
      go_wp2
      go_round
      case rel => exact ⟨k + 1, by omega, by go_num, by rw [HST.out, if_neg HZ.out, shl2 k hk1, hor]⟩
      case measure => simp [intOf]; omega
  · obtain rfl : k = 8 := by omega
    have hall : l.take 8 = l := List.take_of_length_le (by rw [HL.out]; exact Nat.le_refl _)
    rw [hall]
    clear hm1 hml hall
    go_wp2
    go_ret
    exact ⟨rfl, (Below.refl _ _).alloc (Nat.le_refl _) _⟩
theorem few_pop {l : List UInt8} (hl : l.length = 8) : decide (7 ≤ popN 8 (maskN l)) = fewL l := by
 have h1 := popN_mask l
 rw [hl] at h1
 have h3 := filt_len (· == 0) l
 have h2 : nzL l = l.filter (fun x => !(x == 0)) := rfl
 rw [h1, fewL, h2, decide_eq_decide]
 omega
theorem ones_popA : ((List.range 256).all fun x => Lib.onesCount x == popN 8 x) = true := by decide +kernel
theorem ones_popA' (t : Nat) (h : t < 256) : Lib.onesCount t = popN 8 t := by
 have := List.all_eq_true.1 ones_popA t (List.mem_range.2 h)
 simpa using this
theorem isFull_any (l : List UInt8) (w : World) (hl : l.length = 8) :
 Calls Tryz.prog 175 #[.agg (wd l)] w fun e w' => e = .returned (.bool (fewL l)) ∧ Below w.heap.size w w' := by
 have HL := Lib.hid hl
 have h0 := heap_alloc_new w (.cells (wd l) 87)
 have HW := Lib.hid h0
 have hfp := few_pop hl
 have hml := maskN_lt l
 rw [hl] at hml
 have hm256 : maskN l < 256 := hml
 have hones := fun w => Tryz.bits_OnesCount8 (maskN l : Int) w (by omega) (by omega)
 rw [Int.toNat_natCast, ones_popA' (maskN l) hm256] at hones
 have hfp2 : decide ((7 : Int) ≤ ((popN 8 (maskN l) : Nat) : Int)) = fewL l := by rw [← hfp, decide_eq_decide]; omega
 have HM := Lib.hid (fun w => mask_any l w hl)
 obtain ⟨M, hM⟩ : ∃ M, maskN l = M := ⟨_, rfl⟩
 rw [hM] at HM hones hfp2
 have hpl : popN 8 M ≤ 8 := by rw [← hM, ← hl, popN_mask]; exact List.length_filter_le _ _
 obtain ⟨p, hp⟩ : ∃ p, popN 8 M = p := ⟨_, rfl⟩
 rw [hp] at hones hfp2 hpl
 have HON := Lib.hid hones
 have HF := Lib.hid hfp2
 clear hl h0 hfp hml hm256 hones hM hp hfp2
 go_enter Tryz.func175, Tryz.ntmps175
 go_wp2_with (refine wpList_load_wd rfl 87 (.tmp 1) rfl w.heap.size rfl 87 l _ HW.out Tryz.underlying87 rfl (by rw [HL.out]; exact size46) ?_)
 with_reducible (refine (HM.out _).mono ?_)
 rintro e w1 ⟨rfl, hb1⟩
 have HB1 := Lib.hid (((Below.refl _ w).alloc (Nat.le_refl _) (.cells (wd l) 87)).trans (hb1.mono (by simp)))
 clear hb1
 go_wp2_with fail
 with_reducible (refine (HON.out _).mono ?_)
 rintro e w2 ⟨rfl, rfl⟩
 go_wp2
 go_ret
 exact ⟨ret_bool HF.out, HB1.out⟩
theorem zer8_eqP (a b c d e f g i : UInt8) : zerL [a, b, c, d, e, f, g, i] = ([a, b, c, d, e, f, g, i] == [0, 0, 0, 0, 0, 0, 0, 0]) := by
 rw [Bool.eq_iff_iff]; simp [zerL]
theorem eql_wordP (a b c d e f g i : UInt8) (w : World) :
 (binOp .eql 87 (.agg #[.int .u8 a.toNat, .int .u8 b.toNat, .int .u8 c.toNat, .int .u8 d.toNat, .int .u8 e.toNat, .int .u8 f.toNat, .int .u8 g.toNat, .int .u8 i.toNat]) (.agg #[.int .u8 0, .int .u8 0, .int .u8 0, .int .u8 0, .int .u8 0, .int .u8 0, .int .u8 0, .int .u8 0])).run Tryz.prog w = .ok (.bool (zerL [a, b, c, d, e, f, g, i])) w := by
 rw [zer8_eqP]
 have h2 : ((Op.equalIn 10000 87 (.agg #[.int .u8 a.toNat, .int .u8 b.toNat, .int .u8 c.toNat, .int .u8 d.toNat, .int .u8 e.toNat, .int .u8 f.toNat, .int .u8 g.toNat, .int .u8 i.toNat]) (.agg #[.int .u8 0, .int .u8 0, .int .u8 0, .int .u8 0, .int .u8 0, .int .u8 0, .int .u8 0, .int .u8 0])).run Tryz.prog w) = .ok ([a, b, c, d, e, f, g, i] == [0, 0, 0, 0, 0, 0, 0, 0]) w := run_equalIn_bytes w 9998 87 5 8 Tryz.underlying87 Tryz.underlying5 (fun w => by kernel_rfl) [a, b, c, d, e, f, g, i] [0, 0, 0, 0, 0, 0, 0, 0] rfl rfl
 rw [run_eql_struct, h2]
 rfl
theorem guard_wordA (op : BinOp) (x y : Operand) (xs ys : Array Value) (w : World) : (eqGuard op 87 x y (.agg xs) (.agg ys)).run Tryz.prog w = .ok () w := run_eqGuard_agg w _ _ _ _ _ _ (by kernel_rfl)
theorem noughts1_any (l : List UInt8) (w : World) (hl : l.length = 8) :
 Calls Tryz.prog 174 #[.agg (wd l)] w fun e w' => e = .returned (.bool (zerL l)) ∧ Below w.heap.size w w' := by
 obtain ⟨a, b, c, d, e, f, g, i, rfl⟩ := len8 hl
 have heq := eql_wordP a b c d e f g i
 have hgd := fun x y => guard_wordA .eql x y
 have h0 := heap_alloc_new w (.cells (wd [a, b, c, d, e, f, g, i]) 87)
 rw [wd8] at h0 ⊢
 generalize zerL [a, b, c, d, e, f, g, i] = z at heq
 go_enter Tryz.func174, Tryz.ntmps174
 go_wp2
 go_ret
 exact ⟨rfl, (Below.refl _ _).alloc (Nat.le_refl _) _⟩
theorem or_bit_i64 (m k : Nat) (hm : m < 2 ^ k) (hk : k < 8) : bits .or .i64 (m : Int) ((2 ^ k : Nat) : Int) = ((m + 2 ^ k : Nat) : Int) := by
 have h2 : 2 ^ k ≤ 2 ^ 7 := Nat.pow_le_pow_right (by decide) (by omega)
 have e7 : (2 : Nat) ^ 7 = 128 := rfl
 have hor : m ||| 2 ^ k = m + 2 ^ k := by
  have := Nat.two_pow_add_eq_or_of_lt hm 1
  rw [Nat.mul_one] at this
  rw [Nat.or_comm, ← this]
  omega
 show IntKind.i64.wrap ((BitVec.ofInt 64 (m : Int) ||| BitVec.ofInt 64 ((2 ^ k : Nat) : Int)).toNat : Int) = _
 rw [BitVec.toNat_or, BitVec.ofInt_natCast, BitVec.ofInt_natCast, BitVec.toNat_ofNat, BitVec.toNat_ofNat, Nat.mod_eq_of_lt (by omega), Nat.mod_eq_of_lt (by omega), hor]
 rw [IntKind.wrap_i64]
 omega
theorem shl64 (k : Nat) (hk : k < 8) : IntKind.i64.wrap ((2 : Int) ^ k) = ((2 ^ k : Nat) : Int) := by
 have h : k = 0 ∨ k = 1 ∨ k = 2 ∨ k = 3 ∨ k = 4 ∨ k = 5 ∨ k = 6 ∨ k = 7 := by omega
 rcases h with rfl | rfl | rfl | rfl | rfl | rfl | rfl | rfl <;> rfl
theorem l3Tag_any (s : ByteArray) (w : World) (hs : s.size = 8) :
 Calls Tryz.prog 100 #[.string s] w fun e w' => e = .returned (.int .i64 (maskN s.data.toList : Nat)) ∧ w = w' := by
 have hl : s.data.toList.length = 8 := by simp [hs]
 have HL := Lib.hid hl
 clear hl
 go_enter Tryz.func100, Tryz.ntmps100
 go_wp2
 go_loop [3, 4] (fun m i => ∃ k : Nat, k ≤ 8 ∧ i = .int .i64 k ∧ m = .int .i64 (maskN (s.data.toList.take k) : Nat)) (fun _ i => 8 - (intOf i).toNat)
 case atStart => exact ⟨0, by omega, rfl, rfl⟩
 case round =>
  obtain ⟨k, hk, rfl, rfl⟩ := hrel
  have hm1 := maskN_lt (s.data.toList.take k)
  have hml : (s.data.toList.take k).length = k := by rw [List.length_take, HL.out]; omega
  rw [hml] at hm1
  by_cases hk1 : k < 8
  · have hst := maskN_take s.data.toList k (by rw [HL.out]; exact hk1)
    have hlt : k < s.size := by omega
    rw [bytes_get s k hlt] at hst
    have hor := or_bit_i64 (maskN (s.data.toList.take k)) k hm1 hk1
    have hsh := shl64 k hk1
    have HST := Lib.hid hst
    generalize maskN (s.data.toList.take k) = M at hor HST ⊢
    clear hst hm1 hml
    by_cases hz : s[k] = 0
    · have hz1 : (((s[k]).toNat : Int) == 0) = true := by rw [hz]; rfl
      have hz2 : (((s[k]).toNat : Int) != 0) = false := by rw [hz]; rfl
      have HZ := Lib.hid hz
      clear hz hor hsh
      go_wp2
      go_round
      case rel => exact ⟨k + 1, by omega, by go_num, by rw [HST.out, if_pos HZ.out]; rfl⟩
      case measure => simp [intOf]; omega
    · have hz1 : (((s[k]).toNat : Int) == 0) = false := by
       rw [beq_eq_false_iff_ne]; intro h; exact hz (UInt8.toNat_inj.1 (show (s[k]).toNat = 0 by omega))
      have hz2 : (((s[k]).toNat : Int) != 0) = true := by simp [bne, hz1]
      have HZ := Lib.hid hz
      clear hz
      go_wp2
      go_round
      case rel => exact ⟨k + 1, by omega, by go_num, by rw [HST.out, if_neg HZ.out, ← hor]; simp [hsh]⟩
      case measure => simp [intOf]; omega
  · obtain rfl : k = 8 := by omega
    have hall : s.data.toList.take 8 = s.data.toList := List.take_of_length_le (by rw [HL.out]; exact Nat.le_refl _)
    rw [hall]
    clear hm1 hml hall
    go_wp2
    go_ret
    exact ⟨rfl, rfl⟩
theorem few_take (l : List UInt8) (k : Nat) (h : k < l.length) : ((l.take (k + 1)).filter (· == 0)).length = ((l.take k).filter (· == 0)).length + (if l[k]?.getD 0 = 0 then 1 else 0) := by
 rw [List.take_succ_eq_append_getElem h, List.filter_append, List.length_append, List.getElem?_eq_getElem h, Option.getD_some]
 by_cases hz : l[k] = 0 <;> simp [hz]
theorem l3Few_any (s : ByteArray) (w : World) (hs : s.size = 8) :
 Calls Tryz.prog 102 #[.string s] w fun e w' => e = .returned (.bool (!(fewL s.data.toList))) ∧ w = w' := by
 have hl : s.data.toList.length = 8 := by simp [hs]
 have HL := Lib.hid hl
 clear hl
 go_enter Tryz.func102, Tryz.ntmps102
 go_wp2
 go_loop [3, 4] (fun m i => ∃ k : Nat, k ≤ 8 ∧ i = .int .i64 k ∧ m = .int .i64 (((s.data.toList.take k).filter (· == 0)).length : Nat)) (fun _ i => 8 - (intOf i).toNat)
 case atStart => exact ⟨0, by omega, rfl, rfl⟩
 case round =>
  obtain ⟨k, hk, rfl, rfl⟩ := hrel
  by_cases hk1 : k < 8
  · have hst := few_take s.data.toList k (by rw [HL.out]; exact hk1)
    have hlt : k < s.size := by omega
    rw [bytes_get s k hlt] at hst
    have hle : ((s.data.toList.take k).filter (· == 0)).length ≤ 8 := Nat.le_trans (List.length_filter_le _ _) (by rw [List.length_take]; omega)
    have HST := Lib.hid hst
    generalize ((s.data.toList.take k).filter (· == 0)).length = M at hle HST ⊢
    clear hst
    by_cases hz : s[k] = 0
    · have hz1 : (((s[k]).toNat : Int) == 0) = true := by rw [hz]; rfl
      have HZ := Lib.hid hz
      clear hz
      go_wp2
      go_round
      case rel => exact ⟨k + 1, by omega, by go_num, by rw [HST.out, if_pos HZ.out]; go_num⟩
      case measure => simp [intOf]; omega
    · have hz1 : (((s[k]).toNat : Int) == 0) = false := by
       rw [beq_eq_false_iff_ne]; intro h; exact hz (UInt8.toNat_inj.1 (show (s[k]).toNat = 0 by omega))
      have HZ := Lib.hid hz
      clear hz
      go_wp2
      go_round
      case rel => exact ⟨k + 1, by omega, by go_num, by rw [HST.out, if_neg HZ.out]; rfl⟩
      case measure => simp [intOf]; omega
  · obtain rfl : k = 8 := by omega
    have hall : s.data.toList.take 8 = s.data.toList := List.take_of_length_le (by rw [HL.out]; exact Nat.le_refl _)
    rw [hall]
    clear hall
    go_wp2
    go_ret
    refine ⟨ret_bool ?_, rfl⟩
    rw [fewL]
    generalize (s.data.toList.filter (· == 0)).length = M
    by_cases h : M ≤ 1
    · rw [decide_eq_true h]; simp; omega
    · rw [decide_eq_false h]; simp; omega
end Go.Proofs.YtlbfffokkhccaaaGreatDoor
