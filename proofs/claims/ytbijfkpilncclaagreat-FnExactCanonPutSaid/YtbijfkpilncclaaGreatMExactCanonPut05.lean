/- Texts of the proof of the law FnExactCanonPut, side by side: part 5. -/
import Derived.Test.YtbijfkpilncclaaGreatMExactCanonPut00
import Derived.Test.YtbijfkpilncclaaGreatMExactCanonPut01
import Derived.Test.YtbijfkpilncclaaGreatMExactCanonPut02
import Derived.Test.YtbijfkpilncclaaGreatMExactCanonPut03
import Derived.Test.YtbijfkpilncclaaGreatMExactCanonPut04
/- The specification's word on bytes of lists. -/
namespace Go.Proofs.YtbijfkpilncclaaGreat
open Go.RowKit
theorem bits_rest {d : ByteArray} {b : Int} (_h0 : 0 ≤ b) (hs : (d.size : Int) = (b + 7) / 8) (h8 : b % 8 = 0) : bitsB d b = true := by simp [bitsB, hs, h8]
theorem div_pow (x r : Nat) : ((x : Int) / (2 : Int) ^ r == 0) = decide (x < 2 ^ r) := by
  have h : (2 : Int) ^ r = ((2 ^ r : Nat) : Int) := by simp
  have hp : 0 < 2 ^ r := Nat.two_pow_pos r
  rw [h, Bool.eq_iff_iff]
  generalize 2 ^ r = p at *
  rw [← Int.natCast_ediv]
  simp only [beq_iff_eq, decide_eq_true_eq]
  have := Nat.div_eq_zero_iff (a := x) (b := p)
  omega
set_option maxHeartbeats 4000000 in
set_option maxRecDepth 100000 in
theorem l4Plain_a (k s c : Int) (d : ByteArray) (A B : Option Addr) (lp cp li ci : Nat) (w : World) (h0 : 0 ≤ s) (h5 : s ≤ 5) (c0 : 0 ≤ c) (c1 : c ≤ 12800) (_hdm : d.size ≤ maxLen) :
    Calls Tryz.prog 130 #[.agg #[.int .i64 k, .string d, .slice A lp cp, .int .i64 s, .int .i64 c, .slice B li ci]] w fun e w' => e = .returned (.bool (bitsB d (c * bz s))) ∧ Below w.heap.size w w' := by
  have HBY := Lib.hid (fun W => l4Bytes_a s c W h0 (by omega) c0 c1)
  have HBZ : Hid (byteZ s c = (c * bz s + 7) / 8) := Lib.hid (by unfold byteZ; rw [Int.mul_comm])
  have HR := Lib.hid (heap_alloc_new w (.cells #[.int .i64 k, .string d, .slice A lp cp, .int .i64 s, .int .i64 c, .slice B li ci] nodeT))
  have HBA := Lib.hid ((Below.refl w.heap.size w).alloc (Nat.le_refl _) (.cells #[.int .i64 k, .string d, .slice A lp cp, .int .i64 s, .int .i64 c, .slice B li ci] nodeT))
  have hby : 0 ≤ byteZ s c ∧ byteZ s c ≤ 102401 := by
    have hb := bz_le s
    have h1 := Int.mul_nonneg hb.1 c0
    have h2 := Int.mul_le_mul hb.2 c1 c0 (by omega)
    unfold byteZ; omega
  obtain ⟨by_, hbyd⟩ : ∃ z, z = byteZ s c := ⟨_, rfl⟩
  rw [← hbyd] at HBY HBZ hby
  clear hbyd
  by_cases hne : (d.size : Int) = by_
  · have hneb : ((d.size : Int) != by_) = false := by rw [hne]; simp
    have HSZ : Hid ((d.size : Int) = (c * bz s + 7) / 8) := Lib.hid (by rw [hne, HBZ.out])
    have HNE := Lib.hid hne
    clear hne
    go_enter Tryz.func130, Tryz.ntmps130
    go_wp2_with fail
    generalize w.alloc (.cells #[.int .i64 k, .string d, .slice A lp cp, .int .i64 s, .int .i64 c, .slice B li ci] nodeT) = W at *
    obtain ⟨e0, e1, e2, e3, e4, e5⟩ := cells6 HR.out
    have q1 := cell_regrown e1
    have q3 := cell_regrown e3
    have q4 := cell_regrown e4
    refine wp_region_quiet_below (by kernel_rfl) (by kernel_rfl) ?_
    repeat (first | go_big_quiet_step ((go_at_call 143; with_reducible exact Calls.regrown_of (HBY.out _))) | quiet_step ((go_at_call 143; with_reducible exact Calls.regrown_of (HBY.out _))))
    refine wpQuiet_nil ?_
    intro _ hw'
    obtain ⟨⟨dq, osq⟩, hw''⟩ := hw'
    subst hw''
    have HB2 := Lib.hid (HBA.out.trans ((below_regrown W dq osq).mono HBA.out.size))
    have HR2 := Lib.hid (((below_regrown W dq osq).block _ (row_lt HR.out)).trans HR.out)
    clear q1 q3 q4 e0 e1 e2 e3 e4 e5
    generalize «Sort».grow (redrawn W dq) osq = W2 at *
    obtain ⟨e0, e1, e2, e3, e4, e5⟩ := cells6 HR2.out
    clear HR HBA HBY
    by_cases hs1 : s = 1
    · subst hs1
      have hc1 : c * bz 1 = c := by rw [show bz 1 = 1 from rfl, Int.mul_one]
      rw [hc1] at HSZ
      have HC1 := Lib.hid hc1
      clear hc1
      by_cases h8 : c % 8 = 0
      · have HX := Lib.hid (bits_rest c0 HSZ.out h8)
        go_wp2
        go_ret
        exact ⟨by rw [HC1.out, HX.out]; rfl, HB2.out⟩
      · obtain ⟨j, hj⟩ : ∃ j, d.size = j + 1 := ⟨d.size - 1, by have := HSZ.out; omega⟩
        have hlt : j < d.size := by omega
        have hln : (d.size : Int) - 1 = (j : Int) := by omega
        have hjm : j ≤ 10000000 := by have := HSZ.out; omega
        have HLN := Lib.hid (lastN_eq hj hlt)
        have hx : (d[j]).toNat < 256 := (d[j]).toNat_lt
        have h8b : (c % 8 == 0) = false := by simpa using h8
        have HX : Hid (bitsB d c = decide ((d[j]).toNat < 2 ^ (c % 8).toNat)) := Lib.hid (by
          unfold bitsB
          rw [decide_eq_true HSZ.out, decide_eq_false h8, HLN.out]
          rfl)
        have hw : wrap64 ((d[j]).toNat : Int) = ((d[j]).toNat : Int) := by
          simp only [wrap64]
          omega
        have HW := Lib.hid hw
        have H8 := Lib.hid h8
        clear hj h8 hw
        go_wp2
        go_ret
        refine ⟨?_, HB2.out⟩
        rw [HC1.out, HX.out]
        exact ret_bool (div_pow _ _)
    · have hs1b : (s != 1) = true := by simpa using hs1
      have HX : Hid (bitsB d (c * bz s) = true) := Lib.hid (bits_rest (Int.mul_nonneg c0 (bz_le s).1) HSZ.out (by
        have : s = 0 ∨ s = 2 ∨ s = 3 ∨ s = 4 ∨ s = 5 := by omega
        rcases this with rfl | rfl | rfl | rfl | rfl
        · rw [show bz 0 = 0 from rfl]; omega
        · rw [show bz 2 = 8 from rfl]; omega
        · rw [show bz 3 = 16 from rfl]; omega
        · rw [show bz 4 = 32 from rfl]; omega
        · rw [show bz 5 = 64 from rfl]; omega))
      go_wp2
      go_ret
      exact ⟨by rw [HX.out]; rfl, HB2.out⟩
  · have hneb : ((d.size : Int) != by_) = true := by simpa using hne
    have HX : Hid (bitsB d (c * bz s) = false) := Lib.hid (by unfold bitsB; rw [← HBZ.out, decide_eq_false hne]; rfl)
    clear hne
    go_enter Tryz.func130, Tryz.ntmps130
    go_wp2_with fail
    generalize w.alloc (.cells #[.int .i64 k, .string d, .slice A lp cp, .int .i64 s, .int .i64 c, .slice B li ci] nodeT) = W at *
    obtain ⟨e0, e1, e2, e3, e4, e5⟩ := cells6 HR.out
    have q1 := cell_regrown e1
    have q3 := cell_regrown e3
    have q4 := cell_regrown e4
    refine wp_region_quiet_below (by kernel_rfl) (by kernel_rfl) ?_
    repeat (first | go_big_quiet_step ((go_at_call 143; with_reducible exact Calls.regrown_of (HBY.out _))) | quiet_step ((go_at_call 143; with_reducible exact Calls.regrown_of (HBY.out _))))
    refine wpQuiet_nil ?_
    intro _ hw'
    obtain ⟨⟨dq, osq⟩, hw''⟩ := hw'
    subst hw''
    have HB2 := Lib.hid (HBA.out.trans ((below_regrown W dq osq).mono HBA.out.size))
    clear q1 q3 q4 e0 e1 e2 e3 e4 e5
    generalize «Sort».grow (redrawn W dq) osq = W2 at *
    go_wp2
    go_ret
    exact ⟨by rw [HX.out]; rfl, HB2.out⟩
end Go.Proofs.YtbijfkpilncclaaGreat

/- Bytes of a drawn list, cut to size. -/
namespace Go.Proofs.YtbijfkpilncclaaGreat
open Go.RowKit
def CutP (b : Nat) (w : World) (e : Ending) (w' : World) : Prop := ∃ u : ByteArray, u.size ≤ b ∧ e = .returned (.string u) ∧ Below w.heap.size w w'
set_option maxHeartbeats 4000000 in
set_option maxRecDepth 100000 in
theorem l4Cut_a (d : ByteArray) (s c : Int) (w : World) (h0 : 0 ≤ s) (h5 : s ≤ 5) (c0 : 0 ≤ c) (c1 : c ≤ 11) (hd : 96 ≤ d.size) (hd2 : d.size ≤ 1000) :
    Calls Tryz.prog 140 #[.string d, .int .i64 s, .int .i64 c] w (CutP 1001 w) := by
  have hb := bz_le s
  have hby : 0 ≤ byteZ s c ∧ byteZ s c ≤ 88 := by
    have h1 := Int.mul_nonneg hb.1 c0
    have h2 := Int.mul_le_mul hb.2 c1 c0 (by omega)
    unfold byteZ; omega
  obtain ⟨nn, hnn⟩ := Int.eq_ofNat_of_zero_le hby.1
  have HBY := Lib.hid (l4Bytes_a s c w h0 (by omega) c0 (by omega))
  rw [hnn] at HBY
  have hn88 : nn ≤ 88 := by omega
  obtain ⟨o, hext⟩ : ∃ o, d.extract 0 nn = o := ⟨_, rfl⟩
  have hos : o.size = nn := by rw [← hext, ByteArray.size_extract]; omega
  have hle : (nn : Int) ≤ (d.size : Int) := by omega
  have HOS := Lib.hid hos
  by_cases hs1 : s = 1
  · subst hs1
    by_cases h8 : c % 8 = 0
    · clear hos
      go_enter Tryz.func140, Tryz.ntmps140
      go_wp2_with fail
      refine HBY.out.mono ?_
      rintro e w1 ⟨rfl, hb1⟩
      have HB1 := Lib.hid hb1
      clear hb1
      go_wp2
      go_ret
      exact ⟨o, by have := HOS.out; omega, rfl, HB1.out⟩
    · have hn1 : byteZ 1 c = (c + 7) / 8 := by unfold byteZ; rw [show bz 1 = 1 from rfl, Int.one_mul]
      obtain ⟨j, hj⟩ : ∃ j, nn = j + 1 := ⟨nn - 1, by omega⟩
      have hlt : j < o.size := by omega
      have hle2 : (j : Int) ≤ (o.size : Int) := by omega
      have hln : (nn : Int) - 1 = (j : Int) := by omega
      have hjm : j ≤ 100 := by omega
      have hx : (o[j]).toNat < 256 := (o[j]).toNat_lt
      have HJ := Lib.hid hj
      have hk : c % 8 = 1 ∨ c % 8 = 2 ∨ c % 8 = 3 ∨ c % 8 = 4 ∨ c % 8 = 5 ∨ c % 8 = 6 ∨ c % 8 = 7 := by omega
      clear hos hj h8 hn1 hnn hby hb hd hd2 h0 h5
      rcases hk with hk | hk | hk | hk | hk | hk | hk
      · have hand := and_u8_1 (o[j]).toNat hx
        have hq : (o[j]).toNat % 2 < 256 := by omega
        generalize (o[j]).toNat % 2 = q at hand hq
        go_enter Tryz.func140, Tryz.ntmps140
        go_wp2_with fail
        refine HBY.out.mono ?_
        rintro e w1 ⟨rfl, hb1⟩
        have hcv : (convert 36 9 (.slice (some ⟨w1.heap.size, 0, none⟩) 1 1)).run Tryz.prog (w1.alloc (.cells #[.int .u8 (q : Int)] 5)).drew = .ok (.string ⟨#[UInt8.ofNat q]⟩) (w1.alloc (.cells #[.int .u8 (q : Int)] 5)).drew := conv1n q hq w1.drew
        have HB1 := Lib.hid hb1
        clear hb1
        go_wp2
        go_region
        go_wp2
        go_ret
        exact ⟨o.extract 0 j ++ ⟨#[UInt8.ofNat q]⟩, by have := HOS.out; rw [getD_size, ByteArray.size_extract]; show _ + 1 ≤ _; have := HJ.out; omega, rfl, (HB1.out.alloc HB1.out.size _).drew⟩
      · have hand := and_u8_2 (o[j]).toNat hx
        have hq : (o[j]).toNat % 4 < 256 := by omega
        generalize (o[j]).toNat % 4 = q at hand hq
        go_enter Tryz.func140, Tryz.ntmps140
        go_wp2_with fail
        refine HBY.out.mono ?_
        rintro e w1 ⟨rfl, hb1⟩
        have hcv : (convert 36 9 (.slice (some ⟨w1.heap.size, 0, none⟩) 1 1)).run Tryz.prog (w1.alloc (.cells #[.int .u8 (q : Int)] 5)).drew = .ok (.string ⟨#[UInt8.ofNat q]⟩) (w1.alloc (.cells #[.int .u8 (q : Int)] 5)).drew := conv1n q hq w1.drew
        have HB1 := Lib.hid hb1
        clear hb1
        go_wp2
        go_region
        go_wp2
        go_ret
        exact ⟨o.extract 0 j ++ ⟨#[UInt8.ofNat q]⟩, by have := HOS.out; rw [getD_size, ByteArray.size_extract]; show _ + 1 ≤ _; have := HJ.out; omega, rfl, (HB1.out.alloc HB1.out.size _).drew⟩
      · have hand := and_u8_3 (o[j]).toNat hx
        have hq : (o[j]).toNat % 8 < 256 := by omega
        generalize (o[j]).toNat % 8 = q at hand hq
        go_enter Tryz.func140, Tryz.ntmps140
        go_wp2_with fail
        refine HBY.out.mono ?_
        rintro e w1 ⟨rfl, hb1⟩
        have hcv : (convert 36 9 (.slice (some ⟨w1.heap.size, 0, none⟩) 1 1)).run Tryz.prog (w1.alloc (.cells #[.int .u8 (q : Int)] 5)).drew = .ok (.string ⟨#[UInt8.ofNat q]⟩) (w1.alloc (.cells #[.int .u8 (q : Int)] 5)).drew := conv1n q hq w1.drew
        have HB1 := Lib.hid hb1
        clear hb1
        go_wp2
        go_region
        go_wp2
        go_ret
        exact ⟨o.extract 0 j ++ ⟨#[UInt8.ofNat q]⟩, by have := HOS.out; rw [getD_size, ByteArray.size_extract]; show _ + 1 ≤ _; have := HJ.out; omega, rfl, (HB1.out.alloc HB1.out.size _).drew⟩
      · have hand := and_u8_4 (o[j]).toNat hx
        have hq : (o[j]).toNat % 16 < 256 := by omega
        generalize (o[j]).toNat % 16 = q at hand hq
        go_enter Tryz.func140, Tryz.ntmps140
        go_wp2_with fail
        refine HBY.out.mono ?_
        rintro e w1 ⟨rfl, hb1⟩
        have hcv : (convert 36 9 (.slice (some ⟨w1.heap.size, 0, none⟩) 1 1)).run Tryz.prog (w1.alloc (.cells #[.int .u8 (q : Int)] 5)).drew = .ok (.string ⟨#[UInt8.ofNat q]⟩) (w1.alloc (.cells #[.int .u8 (q : Int)] 5)).drew := conv1n q hq w1.drew
        have HB1 := Lib.hid hb1
        clear hb1
        go_wp2
        go_region
        go_wp2
        go_ret
        exact ⟨o.extract 0 j ++ ⟨#[UInt8.ofNat q]⟩, by have := HOS.out; rw [getD_size, ByteArray.size_extract]; show _ + 1 ≤ _; have := HJ.out; omega, rfl, (HB1.out.alloc HB1.out.size _).drew⟩
      · have hand := and_u8_5 (o[j]).toNat hx
        have hq : (o[j]).toNat % 32 < 256 := by omega
        generalize (o[j]).toNat % 32 = q at hand hq
        go_enter Tryz.func140, Tryz.ntmps140
        go_wp2_with fail
        refine HBY.out.mono ?_
        rintro e w1 ⟨rfl, hb1⟩
        have hcv : (convert 36 9 (.slice (some ⟨w1.heap.size, 0, none⟩) 1 1)).run Tryz.prog (w1.alloc (.cells #[.int .u8 (q : Int)] 5)).drew = .ok (.string ⟨#[UInt8.ofNat q]⟩) (w1.alloc (.cells #[.int .u8 (q : Int)] 5)).drew := conv1n q hq w1.drew
        have HB1 := Lib.hid hb1
        clear hb1
        go_wp2
        go_region
        go_wp2
        go_ret
        exact ⟨o.extract 0 j ++ ⟨#[UInt8.ofNat q]⟩, by have := HOS.out; rw [getD_size, ByteArray.size_extract]; show _ + 1 ≤ _; have := HJ.out; omega, rfl, (HB1.out.alloc HB1.out.size _).drew⟩
      · have hand := and_u8_6 (o[j]).toNat hx
        have hq : (o[j]).toNat % 64 < 256 := by omega
        generalize (o[j]).toNat % 64 = q at hand hq
        go_enter Tryz.func140, Tryz.ntmps140
        go_wp2_with fail
        refine HBY.out.mono ?_
        rintro e w1 ⟨rfl, hb1⟩
        have hcv : (convert 36 9 (.slice (some ⟨w1.heap.size, 0, none⟩) 1 1)).run Tryz.prog (w1.alloc (.cells #[.int .u8 (q : Int)] 5)).drew = .ok (.string ⟨#[UInt8.ofNat q]⟩) (w1.alloc (.cells #[.int .u8 (q : Int)] 5)).drew := conv1n q hq w1.drew
        have HB1 := Lib.hid hb1
        clear hb1
        go_wp2
        go_region
        go_wp2
        go_ret
        exact ⟨o.extract 0 j ++ ⟨#[UInt8.ofNat q]⟩, by have := HOS.out; rw [getD_size, ByteArray.size_extract]; show _ + 1 ≤ _; have := HJ.out; omega, rfl, (HB1.out.alloc HB1.out.size _).drew⟩
      · have hand := and_u8_7 (o[j]).toNat hx
        have hq : (o[j]).toNat % 128 < 256 := by omega
        generalize (o[j]).toNat % 128 = q at hand hq
        go_enter Tryz.func140, Tryz.ntmps140
        go_wp2_with fail
        refine HBY.out.mono ?_
        rintro e w1 ⟨rfl, hb1⟩
        have hcv : (convert 36 9 (.slice (some ⟨w1.heap.size, 0, none⟩) 1 1)).run Tryz.prog (w1.alloc (.cells #[.int .u8 (q : Int)] 5)).drew = .ok (.string ⟨#[UInt8.ofNat q]⟩) (w1.alloc (.cells #[.int .u8 (q : Int)] 5)).drew := conv1n q hq w1.drew
        have HB1 := Lib.hid hb1
        clear hb1
        go_wp2
        go_region
        go_wp2
        go_ret
        exact ⟨o.extract 0 j ++ ⟨#[UInt8.ofNat q]⟩, by have := HOS.out; rw [getD_size, ByteArray.size_extract]; show _ + 1 ≤ _; have := HJ.out; omega, rfl, (HB1.out.alloc HB1.out.size _).drew⟩
  · have hs1b : (s == 1) = false := by simpa using hs1
    clear hos hs1
    go_enter Tryz.func140, Tryz.ntmps140
    go_wp2_with fail
    refine HBY.out.mono ?_
    rintro e w1 ⟨rfl, hb1⟩
    have HB1 := Lib.hid hb1
    clear hb1
    go_wp2
    go_ret
    exact ⟨o, by have := HOS.out; omega, rfl, HB1.out⟩
end Go.Proofs.YtbijfkpilncclaaGreat
