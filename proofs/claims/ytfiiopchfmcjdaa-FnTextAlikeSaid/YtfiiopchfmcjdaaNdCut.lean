/- Bytes of a drawn list, cut to size. -/
import Derived.Test.YtfiiopchfmcjdaaNdBits
import Derived.Test.YtfiiopchfmcjdaaNdPlain
namespace Go.Proofs.Ytfiiopchfmcjdaa
open Go.RowKit
def CutP (b : Nat) (w : World) (e : Ending) (w' : World) : Prop := ∃ u : ByteArray, u.size ≤ b ∧ e = .returned (.string u) ∧ Below w.heap.size w w'
set_option maxHeartbeats 4000000 in
set_option maxRecDepth 100000 in
theorem l4Cut_a (d : ByteArray) (s c : Int) (w : World) (h0 : 0 ≤ s) (h5 : s ≤ 5) (c0 : 0 ≤ c) (c1 : c ≤ 11) (hd : 96 ≤ d.size) (hd2 : d.size ≤ 1000) :
    Calls Try.prog 77 #[.string d, .int .i64 s, .int .i64 c] w (CutP 1001 w) := by
  have hb := bz_le s
  have hby : 0 ≤ byteZ s c ∧ byteZ s c ≤ 88 := by
    have h1 := Int.mul_nonneg hb.1 c0
    have h2 := Int.mul_le_mul hb.2 c1 c0 (by omega)
    unfold byteZ; omega
  obtain ⟨nn, hnn⟩ := Int.eq_ofNat_of_zero_le hby.1
  have HBY := Lib.hid (l4Bytes_a s c w h0 (by omega) c0 (by omega))
  rw [hnn] at HBY
  have hn88 : nn ≤ 88 := by omega
  obtain ⟨o, hext⟩ : ∃ o, d.extract 0 nn = o := ⟨_, rfl⟩
  have hos : o.size = nn := by rw [← hext, ByteArray.size_extract]; omega
  have hle : (nn : Int) ≤ (d.size : Int) := by omega
  have HOS := Lib.hid hos
  by_cases hs1 : s = 1
  · subst hs1
    by_cases h8 : c % 8 = 0
    · clear hos
      go_enter Try.func77, Try.ntmps77
      go_wp2_with fail
      refine HBY.out.mono ?_
      rintro e w1 ⟨rfl, hb1⟩
      have HB1 := Lib.hid hb1
      clear hb1
      go_wp2
      go_ret
      exact ⟨o, by have := HOS.out; omega, rfl, HB1.out⟩
    · have hn1 : byteZ 1 c = (c + 7) / 8 := by unfold byteZ; rw [show bz 1 = 1 from rfl, Int.one_mul]
      obtain ⟨j, hj⟩ : ∃ j, nn = j + 1 := ⟨nn - 1, by omega⟩
      have hlt : j < o.size := by omega
      have hle2 : (j : Int) ≤ (o.size : Int) := by omega
      have hln : (nn : Int) - 1 = (j : Int) := by omega
      have hjm : j ≤ 100 := by omega
      have hx : (o[j]).toNat < 256 := (o[j]).toNat_lt
      have HJ := Lib.hid hj
      have hk : c % 8 = 1 ∨ c % 8 = 2 ∨ c % 8 = 3 ∨ c % 8 = 4 ∨ c % 8 = 5 ∨ c % 8 = 6 ∨ c % 8 = 7 := by omega
      clear hos hj h8 hn1 hnn hby hb hd hd2 h0 h5
      rcases hk with hk | hk | hk | hk | hk | hk | hk
      · have hand := and_u8_1 (o[j]).toNat hx
        have hq : (o[j]).toNat % 2 < 256 := by omega
        generalize (o[j]).toNat % 2 = q at hand hq
        go_enter Try.func77, Try.ntmps77
        go_wp2_with fail
        refine HBY.out.mono ?_
        rintro e w1 ⟨rfl, hb1⟩
        have hcv : (convert 22 9 (.slice (some ⟨w1.heap.size, 0, none⟩) 1 1)).run Try.prog (w1.alloc (.cells #[.int .u8 (q : Int)] 5)).drew = .ok (.string ⟨#[UInt8.ofNat q]⟩) (w1.alloc (.cells #[.int .u8 (q : Int)] 5)).drew := conv1n q hq w1.drew
        have HB1 := Lib.hid hb1
        clear hb1
        go_wp2
        go_region
        go_wp2
        go_ret
        exact ⟨o.extract 0 j ++ ⟨#[UInt8.ofNat q]⟩, by have := HOS.out; rw [getD_size, ByteArray.size_extract]; show _ + 1 ≤ _; have := HJ.out; omega, rfl, (HB1.out.alloc HB1.out.size _).drew⟩
      · have hand := and_u8_2 (o[j]).toNat hx
        have hq : (o[j]).toNat % 4 < 256 := by omega
        generalize (o[j]).toNat % 4 = q at hand hq
        go_enter Try.func77, Try.ntmps77
        go_wp2_with fail
        refine HBY.out.mono ?_
        rintro e w1 ⟨rfl, hb1⟩
        have hcv : (convert 22 9 (.slice (some ⟨w1.heap.size, 0, none⟩) 1 1)).run Try.prog (w1.alloc (.cells #[.int .u8 (q : Int)] 5)).drew = .ok (.string ⟨#[UInt8.ofNat q]⟩) (w1.alloc (.cells #[.int .u8 (q : Int)] 5)).drew := conv1n q hq w1.drew
        have HB1 := Lib.hid hb1
        clear hb1
        go_wp2
        go_region
        go_wp2
        go_ret
        exact ⟨o.extract 0 j ++ ⟨#[UInt8.ofNat q]⟩, by have := HOS.out; rw [getD_size, ByteArray.size_extract]; show _ + 1 ≤ _; have := HJ.out; omega, rfl, (HB1.out.alloc HB1.out.size _).drew⟩
      · have hand := and_u8_3 (o[j]).toNat hx
        have hq : (o[j]).toNat % 8 < 256 := by omega
        generalize (o[j]).toNat % 8 = q at hand hq
        go_enter Try.func77, Try.ntmps77
        go_wp2_with fail
        refine HBY.out.mono ?_
        rintro e w1 ⟨rfl, hb1⟩
        have hcv : (convert 22 9 (.slice (some ⟨w1.heap.size, 0, none⟩) 1 1)).run Try.prog (w1.alloc (.cells #[.int .u8 (q : Int)] 5)).drew = .ok (.string ⟨#[UInt8.ofNat q]⟩) (w1.alloc (.cells #[.int .u8 (q : Int)] 5)).drew := conv1n q hq w1.drew
        have HB1 := Lib.hid hb1
        clear hb1
        go_wp2
        go_region
        go_wp2
        go_ret
        exact ⟨o.extract 0 j ++ ⟨#[UInt8.ofNat q]⟩, by have := HOS.out; rw [getD_size, ByteArray.size_extract]; show _ + 1 ≤ _; have := HJ.out; omega, rfl, (HB1.out.alloc HB1.out.size _).drew⟩
      · have hand := and_u8_4 (o[j]).toNat hx
        have hq : (o[j]).toNat % 16 < 256 := by omega
        generalize (o[j]).toNat % 16 = q at hand hq
        go_enter Try.func77, Try.ntmps77
        go_wp2_with fail
        refine HBY.out.mono ?_
        rintro e w1 ⟨rfl, hb1⟩
        have hcv : (convert 22 9 (.slice (some ⟨w1.heap.size, 0, none⟩) 1 1)).run Try.prog (w1.alloc (.cells #[.int .u8 (q : Int)] 5)).drew = .ok (.string ⟨#[UInt8.ofNat q]⟩) (w1.alloc (.cells #[.int .u8 (q : Int)] 5)).drew := conv1n q hq w1.drew
        have HB1 := Lib.hid hb1
        clear hb1
        go_wp2
        go_region
        go_wp2
        go_ret
        exact ⟨o.extract 0 j ++ ⟨#[UInt8.ofNat q]⟩, by have := HOS.out; rw [getD_size, ByteArray.size_extract]; show _ + 1 ≤ _; have := HJ.out; omega, rfl, (HB1.out.alloc HB1.out.size _).drew⟩
      · have hand := and_u8_5 (o[j]).toNat hx
        have hq : (o[j]).toNat % 32 < 256 := by omega
        generalize (o[j]).toNat % 32 = q at hand hq
        go_enter Try.func77, Try.ntmps77
        go_wp2_with fail
        refine HBY.out.mono ?_
        rintro e w1 ⟨rfl, hb1⟩
        have hcv : (convert 22 9 (.slice (some ⟨w1.heap.size, 0, none⟩) 1 1)).run Try.prog (w1.alloc (.cells #[.int .u8 (q : Int)] 5)).drew = .ok (.string ⟨#[UInt8.ofNat q]⟩) (w1.alloc (.cells #[.int .u8 (q : Int)] 5)).drew := conv1n q hq w1.drew
        have HB1 := Lib.hid hb1
        clear hb1
        go_wp2
        go_region
        go_wp2
        go_ret
        exact ⟨o.extract 0 j ++ ⟨#[UInt8.ofNat q]⟩, by have := HOS.out; rw [getD_size, ByteArray.size_extract]; show _ + 1 ≤ _; have := HJ.out; omega, rfl, (HB1.out.alloc HB1.out.size _).drew⟩
      · have hand := and_u8_6 (o[j]).toNat hx
        have hq : (o[j]).toNat % 64 < 256 := by omega
        generalize (o[j]).toNat % 64 = q at hand hq
        go_enter Try.func77, Try.ntmps77
        go_wp2_with fail
        refine HBY.out.mono ?_
        rintro e w1 ⟨rfl, hb1⟩
        have hcv : (convert 22 9 (.slice (some ⟨w1.heap.size, 0, none⟩) 1 1)).run Try.prog (w1.alloc (.cells #[.int .u8 (q : Int)] 5)).drew = .ok (.string ⟨#[UInt8.ofNat q]⟩) (w1.alloc (.cells #[.int .u8 (q : Int)] 5)).drew := conv1n q hq w1.drew
        have HB1 := Lib.hid hb1
        clear hb1
        go_wp2
        go_region
        go_wp2
        go_ret
        exact ⟨o.extract 0 j ++ ⟨#[UInt8.ofNat q]⟩, by have := HOS.out; rw [getD_size, ByteArray.size_extract]; show _ + 1 ≤ _; have := HJ.out; omega, rfl, (HB1.out.alloc HB1.out.size _).drew⟩
      · have hand := and_u8_7 (o[j]).toNat hx
        have hq : (o[j]).toNat % 128 < 256 := by omega
        generalize (o[j]).toNat % 128 = q at hand hq
        go_enter Try.func77, Try.ntmps77
        go_wp2_with fail
        refine HBY.out.mono ?_
        rintro e w1 ⟨rfl, hb1⟩
        have hcv : (convert 22 9 (.slice (some ⟨w1.heap.size, 0, none⟩) 1 1)).run Try.prog (w1.alloc (.cells #[.int .u8 (q : Int)] 5)).drew = .ok (.string ⟨#[UInt8.ofNat q]⟩) (w1.alloc (.cells #[.int .u8 (q : Int)] 5)).drew := conv1n q hq w1.drew
        have HB1 := Lib.hid hb1
        clear hb1
        go_wp2
        go_region
        go_wp2
        go_ret
        exact ⟨o.extract 0 j ++ ⟨#[UInt8.ofNat q]⟩, by have := HOS.out; rw [getD_size, ByteArray.size_extract]; show _ + 1 ≤ _; have := HJ.out; omega, rfl, (HB1.out.alloc HB1.out.size _).drew⟩
  · have hs1b : (s == 1) = false := by simpa using hs1
    clear hos hs1
    go_enter Try.func77, Try.ntmps77
    go_wp2_with fail
    refine HBY.out.mono ?_
    rintro e w1 ⟨rfl, hb1⟩
    have HB1 := Lib.hid hb1
    clear hb1
    go_wp2
    go_ret
    exact ⟨o, by have := HOS.out; omega, rfl, HB1.out⟩
end Go.Proofs.Ytfiiopchfmcjdaa
