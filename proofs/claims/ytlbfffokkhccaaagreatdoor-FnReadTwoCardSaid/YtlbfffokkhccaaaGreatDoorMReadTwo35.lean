/- Texts of the proof of the law FnReadTwo, side by side: part 35. -/
import Derived.Test.YtlbfffokkhccaaaGreatDoorMReadTwo34
namespace Go.Proofs.YtlbfffokkhccaaaGreatDoor
open Go.RowKit
def loPP (k o : Int) (t : Bool) : Int := if k = 1 then offN o else if k = 2 then offN o + 1 else if k = 3 then (if t then o * 8 + 6 else o * 8 + 2) else 0
def hiPP (k d p s c g : Int) : Int := if k = 1 then d + 65536 * p else if k = 2 then c * 8 + s else if k = 3 then g else 0
def ptW (k o d p s c g : Int) (t : Bool) : List UInt8 := if ptOk k o d p s c g t = true then leB (loPP k o t) 4 ++ leB (hiPP k d p s c g) 4 else []
theorem pt_parts {k o d p s c g : Int} {t : Bool} (h : ptOk k o d p s c g t = true) :
 (k = 0 ∧ o = 0 ∧ d = 0 ∧ p = 0 ∧ s = 0 ∧ c = 0 ∧ g = 0 ∧ t = false) ∨
 (k = 1 ∧ -536870912 ≤ o ∧ o ≤ 536870911 ∧ 0 ≤ d ∧ d < 65536 ∧ 0 ≤ p ∧ p < 65536 ∧ s = 0 ∧ c = 0 ∧ g = 0 ∧ t = false) ∨
 (k = 2 ∧ -536870912 ≤ o ∧ o ≤ 536870911 ∧ d = 0 ∧ p = 0 ∧ 0 ≤ s ∧ s < 8 ∧ 0 ≤ c ∧ c < 536870912 ∧ g = 0 ∧ t = false) ∨
 (k = 3 ∧ 0 ≤ o ∧ o ≤ 536870911 ∧ d = 0 ∧ p = 0 ∧ s = 0 ∧ c = 0 ∧ 0 ≤ g ∧ g < 4294967296) := by
 rcases kinds5 k with rfl | rfl | rfl | rfl | hk
 · simp [ptOk, restOf, fitsOf] at h
   exact .inl ⟨rfl, by omega, by omega, by omega, by omega, by omega, by omega, by simpa using h.2.2.2.2.2.2⟩
 · simp [ptOk, restOf, fitsOf, inB, withB, zer3] at h
   exact .inr (.inl ⟨rfl, by omega, by omega, by omega, by omega, by omega, by omega, by omega, by omega, by omega, by simpa using h.1.2.2.2⟩)
 · simp [ptOk, restOf, fitsOf, inB, withB] at h
   exact .inr (.inr (.inl ⟨rfl, by omega, by omega, by omega, by omega, by omega, by omega, by omega, by omega, by omega, by simpa using h.1.2.2.2⟩))
 · simp [ptOk, restOf, fitsOf, withB] at h
   exact .inr (.inr (.inr ⟨rfl, by omega, by omega, by omega, by omega, by omega, by omega, by omega, by omega⟩))
 · simp [ptOk, fitsOf, hk] at h
theorem mb_noP (x : Value) (w : World) : (method 395 129 x "loop.example/quoin/impl.bits").run Tryz.prog w = .ok (229, x) w := by kernel_rfl
theorem mb_str (x : Value) (w : World) : (method 395 168 x "loop.example/quoin/impl.bits").run Tryz.prog w = .ok (234, x) w := by kernel_rfl
theorem mb_lis (x : Value) (w : World) : (method 395 170 x "loop.example/quoin/impl.bits").run Tryz.prog w = .ok (238, x) w := by kernel_rfl
theorem mb_far (x : Value) (w : World) : (method 395 172 x "loop.example/quoin/impl.bits").run Tryz.prog w = .ok (240, x) w := by kernel_rfl
set_option maxHeartbeats 1000000 in
set_option maxRecDepth 100000 in
theorem implPut_str (o d p : Int) (w : World) (hok : ptOk 1 o d p 0 0 0 false = true) (h0 : -536870912 ≤ o) (h1 : o ≤ 536870911) (hd0 : 0 ≤ d) (hd1 : d < 65536) (hp0 : 0 ≤ p) (hp1 : p < 65536) :
 Calls Tryz.prog 25 #[ptv 1 o d p 0 0 0 false] w fun e w' => e = .returned (.string ⟨(leB (offN o) 4 ++ leB (d + 65536 * p) 4).toArray⟩) ∧ Below w.heap.size w w' := by
 have HOK := Lib.hid (fun w => implPointOk_any 1 o d p 0 0 0 false w)
 have HP := Lib.hid (fun w => pointerOf_any 1 o d p 0 0 0 false w)
 have HF : Hid (ptif 1 o d p 0 0 0 false = .iface 168 (.agg #[.int .i64 o, .int .i64 d, .int .i64 p])) := Lib.hid rfl
 have hme := mb_str (.agg #[.int .i64 o, .int .i64 d, .int .i64 p])
 have hob := offN_bd o
 have hfin := leB_two (offN o) (d + 65536 * p) (by omega) (by omega)
 have HFin := Lib.hid hfin
 have hN0 : 0 ≤ offN o + 4294967296 * (d + 65536 * p) := by omega
 have hN1 : offN o + 4294967296 * (d + 65536 * p) < 18446744073709551616 := by omega
 have HO := Lib.hid hok
 clear hfin hok
 unfold ptv at HOK HP ⊢
 go_enter Tryz.func25, Tryz.ntmps25
 go_wp2_with fail
 refine (HOK.out _).mono ?_
 rintro e w1 ⟨rfl, hb1⟩
 rw [HO.out]
 have hblk := (hb1.block w.heap.size (by simp)).trans (heap_alloc_new w _)
 obtain ⟨c0, c1, c2, c3, c4, c5, c6, c7⟩ := cells8 hblk
 have HB := Lib.hid (((Below.refl w.heap.size w).alloc (Nat.le_refl _) _).trans (hb1.mono (by simp)))
 clear hblk hb1
 go_wp2_with fail
 refine (HP.out _).mono ?_
 rintro e w2 ⟨rfl, hb2⟩
 rw [HF.out]
 replace HB := Lib.hid (then_n HB.out hb2)
 clear hb2
 go_wp2_with fail
 refine (bits_str o d p _ h0 h1 hd0 hd1 hp0 hp1).mono ?_
 rintro e w3 ⟨rfl, hb3⟩
 replace HB := Lib.hid (then_n HB.out hb3)
 clear hb3
 go_wp2_with fail
 refine (wordOf_any _ _ hN0 hN1).mono ?_
 rintro e w4 ⟨rfl, hb4⟩
 replace HB := Lib.hid (then_n HB.out hb4)
 clear hb4
 go_wp2_with fail
 refine (text_any (leB (offN o + 4294967296 * (d + 65536 * p)) 8) _ (leB_length _ 8)).mono ?_
 rintro e w5 ⟨rfl, hb5⟩
 replace HB := Lib.hid (then_n HB.out hb5)
 clear hb5
 rw [HFin.out]
 go_wp2
 go_ret
 exact ⟨rfl, HB.out⟩
set_option maxHeartbeats 1000000 in
set_option maxRecDepth 100000 in
theorem implPut_lis (o z c : Int) (w : World) (hok : ptOk 2 o 0 0 z c 0 false = true) (h0 : -536870912 ≤ o) (h1 : o ≤ 536870911) (hz0 : 0 ≤ z) (hz1 : z < 8) (hc0 : 0 ≤ c) (hc1 : c < 536870912) :
 Calls Tryz.prog 25 #[ptv 2 o 0 0 z c 0 false] w fun e w' => e = .returned (.string ⟨(leB (offN o + 1) 4 ++ leB (c * 8 + z) 4).toArray⟩) ∧ Below w.heap.size w w' := by
 have HOK := Lib.hid (fun w => implPointOk_any 2 o 0 0 z c 0 false w)
 have HP := Lib.hid (fun w => pointerOf_any 2 o 0 0 z c 0 false w)
 have HF : Hid (ptif 2 o 0 0 z c 0 false = .iface 170 (.agg #[.int .i64 o, .int .i64 z, .int .i64 c])) := Lib.hid rfl
 have hme := mb_lis (.agg #[.int .i64 o, .int .i64 z, .int .i64 c])
 have hob := offN_bd o
 have hfin := leB_two (offN o + 1) (c * 8 + z) (by omega) (by omega)
 have HFin := Lib.hid hfin
 have hN0 : 0 ≤ offN o + 1 + 4294967296 * (c * 8 + z) := by omega
 have hN1 : offN o + 1 + 4294967296 * (c * 8 + z) < 18446744073709551616 := by omega
 have HO := Lib.hid hok
 clear hfin hok
 unfold ptv at HOK HP ⊢
 go_enter Tryz.func25, Tryz.ntmps25
 go_wp2_with fail
 refine (HOK.out _).mono ?_
 rintro e w1 ⟨rfl, hb1⟩
 rw [HO.out]
 have hblk := (hb1.block w.heap.size (by simp)).trans (heap_alloc_new w _)
 obtain ⟨c0, c1, c2, c3, c4, c5, c6, c7⟩ := cells8 hblk
 have HB := Lib.hid (((Below.refl w.heap.size w).alloc (Nat.le_refl _) _).trans (hb1.mono (by simp)))
 clear hblk hb1
 go_wp2_with fail
 refine (HP.out _).mono ?_
 rintro e w2 ⟨rfl, hb2⟩
 rw [HF.out]
 replace HB := Lib.hid (then_n HB.out hb2)
 clear hb2
 go_wp2_with fail
 refine (bits_lis o z c _ h0 h1 hz0 hz1 hc0 hc1).mono ?_
 rintro e w3 ⟨rfl, hb3⟩
 replace HB := Lib.hid (then_n HB.out hb3)
 clear hb3
 go_wp2_with fail
 refine (wordOf_any _ _ hN0 hN1).mono ?_
 rintro e w4 ⟨rfl, hb4⟩
 replace HB := Lib.hid (then_n HB.out hb4)
 clear hb4
 go_wp2_with fail
 refine (text_any (leB (offN o + 1 + 4294967296 * (c * 8 + z)) 8) _ (leB_length _ 8)).mono ?_
 rintro e w5 ⟨rfl, hb5⟩
 replace HB := Lib.hid (then_n HB.out hb5)
 clear hb5
 rw [HFin.out]
 go_wp2
 go_ret
 exact ⟨rfl, HB.out⟩
set_option maxHeartbeats 1000000 in
set_option maxRecDepth 100000 in
theorem implPut_far0 (o g : Int) (w : World) (hok : ptOk 3 o 0 0 0 0 g false = true) (h0 : 0 ≤ o) (h1 : o ≤ 536870911) (hg0 : 0 ≤ g) (hg1 : g < 4294967296) :
 Calls Tryz.prog 25 #[ptv 3 o 0 0 0 0 g false] w fun e w' => e = .returned (.string ⟨(leB (o * 8 + 2) 4 ++ leB (g) 4).toArray⟩) ∧ Below w.heap.size w w' := by
 have HOK := Lib.hid (fun w => implPointOk_any 3 o 0 0 0 0 g false w)
 have HP := Lib.hid (fun w => pointerOf_any 3 o 0 0 0 0 g false w)
 have HF : Hid (ptif 3 o 0 0 0 0 g false = .iface 172 (.agg #[.int .i64 o, .int .i64 g, .bool false])) := Lib.hid rfl
 have hme := mb_far (.agg #[.int .i64 o, .int .i64 g, .bool false])
 have hob : True := trivial
 have hfin := leB_two (o * 8 + 2) (g) (by omega) (by omega)
 have HFin := Lib.hid hfin
 have hN0 : 0 ≤ o * 8 + 2 + 4294967296 * g := by omega
 have hN1 : o * 8 + 2 + 4294967296 * g < 18446744073709551616 := by omega
 have HO := Lib.hid hok
 clear hfin hok
 unfold ptv at HOK HP ⊢
 go_enter Tryz.func25, Tryz.ntmps25
 go_wp2_with fail
 refine (HOK.out _).mono ?_
 rintro e w1 ⟨rfl, hb1⟩
 rw [HO.out]
 have hblk := (hb1.block w.heap.size (by simp)).trans (heap_alloc_new w _)
 obtain ⟨c0, c1, c2, c3, c4, c5, c6, c7⟩ := cells8 hblk
 have HB := Lib.hid (((Below.refl w.heap.size w).alloc (Nat.le_refl _) _).trans (hb1.mono (by simp)))
 clear hblk hb1
 go_wp2_with fail
 refine (HP.out _).mono ?_
 rintro e w2 ⟨rfl, hb2⟩
 rw [HF.out]
 replace HB := Lib.hid (then_n HB.out hb2)
 clear hb2
 go_wp2_with fail
 refine (bits_far0 o g _ h0 h1 hg0 hg1).mono ?_
 rintro e w3 ⟨rfl, hb3⟩
 replace HB := Lib.hid (then_n HB.out hb3)
 clear hb3
 go_wp2_with fail
 refine (wordOf_any _ _ hN0 hN1).mono ?_
 rintro e w4 ⟨rfl, hb4⟩
 replace HB := Lib.hid (then_n HB.out hb4)
 clear hb4
 go_wp2_with fail
 refine (text_any (leB (o * 8 + 2 + 4294967296 * g) 8) _ (leB_length _ 8)).mono ?_
 rintro e w5 ⟨rfl, hb5⟩
 replace HB := Lib.hid (then_n HB.out hb5)
 clear hb5
 rw [HFin.out]
 go_wp2
 go_ret
 exact ⟨rfl, HB.out⟩
set_option maxHeartbeats 1000000 in
set_option maxRecDepth 100000 in
theorem implPut_far1 (o g : Int) (w : World) (hok : ptOk 3 o 0 0 0 0 g true = true) (h0 : 0 ≤ o) (h1 : o ≤ 536870911) (hg0 : 0 ≤ g) (hg1 : g < 4294967296) :
 Calls Tryz.prog 25 #[ptv 3 o 0 0 0 0 g true] w fun e w' => e = .returned (.string ⟨(leB (o * 8 + 6) 4 ++ leB (g) 4).toArray⟩) ∧ Below w.heap.size w w' := by
 have HOK := Lib.hid (fun w => implPointOk_any 3 o 0 0 0 0 g true w)
 have HP := Lib.hid (fun w => pointerOf_any 3 o 0 0 0 0 g true w)
 have HF : Hid (ptif 3 o 0 0 0 0 g true = .iface 172 (.agg #[.int .i64 o, .int .i64 g, .bool true])) := Lib.hid rfl
 have hme := mb_far (.agg #[.int .i64 o, .int .i64 g, .bool true])
 have hob : True := trivial
 have hfin := leB_two (o * 8 + 6) (g) (by omega) (by omega)
 have HFin := Lib.hid hfin
 have hN0 : 0 ≤ o * 8 + 6 + 4294967296 * g := by omega
 have hN1 : o * 8 + 6 + 4294967296 * g < 18446744073709551616 := by omega
 have HO := Lib.hid hok
 clear hfin hok
 unfold ptv at HOK HP ⊢
 go_enter Tryz.func25, Tryz.ntmps25
 go_wp2_with fail
 refine (HOK.out _).mono ?_
 rintro e w1 ⟨rfl, hb1⟩
 rw [HO.out]
 have hblk := (hb1.block w.heap.size (by simp)).trans (heap_alloc_new w _)
 obtain ⟨c0, c1, c2, c3, c4, c5, c6, c7⟩ := cells8 hblk
 have HB := Lib.hid (((Below.refl w.heap.size w).alloc (Nat.le_refl _) _).trans (hb1.mono (by simp)))
 clear hblk hb1
 go_wp2_with fail
 refine (HP.out _).mono ?_
 rintro e w2 ⟨rfl, hb2⟩
 rw [HF.out]
 replace HB := Lib.hid (then_n HB.out hb2)
 clear hb2
 go_wp2_with fail
 refine (bits_far1 o g _ h0 h1 hg0 hg1).mono ?_
 rintro e w3 ⟨rfl, hb3⟩
 replace HB := Lib.hid (then_n HB.out hb3)
 clear hb3
 go_wp2_with fail
 refine (wordOf_any _ _ hN0 hN1).mono ?_
 rintro e w4 ⟨rfl, hb4⟩
 replace HB := Lib.hid (then_n HB.out hb4)
 clear hb4
 go_wp2_with fail
 refine (text_any (leB (o * 8 + 6 + 4294967296 * g) 8) _ (leB_length _ 8)).mono ?_
 rintro e w5 ⟨rfl, hb5⟩
 replace HB := Lib.hid (then_n HB.out hb5)
 clear hb5
 rw [HFin.out]
 go_wp2
 go_ret
 exact ⟨rfl, HB.out⟩
set_option maxHeartbeats 1000000 in
set_option maxRecDepth 100000 in
theorem implPut_non  (w : World) (hok : ptOk 0 0 0 0 0 0 0 false = true)  :
 Calls Tryz.prog 25 #[ptv 0 0 0 0 0 0 0 false] w fun e w' => e = .returned (.string ⟨(leB (0) 4 ++ leB (0) 4).toArray⟩) ∧ Below w.heap.size w w' := by
 have HOK := Lib.hid (fun w => implPointOk_any 0 0 0 0 0 0 0 false w)
 have HP := Lib.hid (fun w => pointerOf_any 0 0 0 0 0 0 0 false w)
 have HF : Hid (ptif 0 0 0 0 0 0 0 false = .iface 129 (.agg #[])) := Lib.hid rfl
 have hme := mb_noP (.agg #[])
 have hob : True := trivial
 have hfin : leB 0 8 = leB 0 4 ++ leB 0 4 := rfl
 have HFin := Lib.hid hfin
 have hN0 : (0 : Int) ≤ 0 := by omega
 have hN1 : (0 : Int) < 18446744073709551616 := by omega
 have HO := Lib.hid hok
 clear hfin hok
 unfold ptv at HOK HP ⊢
 go_enter Tryz.func25, Tryz.ntmps25
 go_wp2_with fail
 refine (HOK.out _).mono ?_
 rintro e w1 ⟨rfl, hb1⟩
 rw [HO.out]
 have hblk := (hb1.block w.heap.size (by simp)).trans (heap_alloc_new w _)
 obtain ⟨c0, c1, c2, c3, c4, c5, c6, c7⟩ := cells8 hblk
 have HB := Lib.hid (((Below.refl w.heap.size w).alloc (Nat.le_refl _) _).trans (hb1.mono (by simp)))
 clear hblk hb1
 go_wp2_with fail
 refine (HP.out _).mono ?_
 rintro e w2 ⟨rfl, hb2⟩
 rw [HF.out]
 replace HB := Lib.hid (then_n HB.out hb2)
 clear hb2
 go_wp2_with fail
 refine (bits_non _).mono ?_
 rintro e w3 ⟨rfl, hb3⟩
 replace HB := Lib.hid (then_n HB.out hb3)
 clear hb3
 go_wp2_with fail
 refine (wordOf_any _ _ hN0 hN1).mono ?_
 rintro e w4 ⟨rfl, hb4⟩
 replace HB := Lib.hid (then_n HB.out hb4)
 clear hb4
 go_wp2_with fail
 refine (text_any (leB (0) 8) _ (leB_length _ 8)).mono ?_
 rintro e w5 ⟨rfl, hb5⟩
 replace HB := Lib.hid (then_n HB.out hb5)
 clear hb5
 rw [HFin.out]
 go_wp2
 go_ret
 exact ⟨rfl, HB.out⟩
set_option maxHeartbeats 1000000 in
set_option maxRecDepth 100000 in
theorem implPut_no (k o d p s c g : Int) (t : Bool) (w : World) (hok : ptOk k o d p s c g t = false) :
 Calls Tryz.prog 25 #[ptv k o d p s c g t] w fun e w' => e = .returned (.string ⟨#[]⟩) ∧ Below w.heap.size w w' := by
 have HOK := Lib.hid (fun w => implPointOk_any k o d p s c g t w)
 have HO := Lib.hid hok
 clear hok
 unfold ptv at HOK ⊢
 go_enter Tryz.func25, Tryz.ntmps25
 go_wp2_with fail
 refine (HOK.out _).mono ?_
 rintro e w1 ⟨rfl, hb1⟩
 rw [HO.out]
 have HB := Lib.hid (((Below.refl w.heap.size w).alloc (Nat.le_refl _) _).trans (hb1.mono (by simp)))
 clear hb1
 go_wp2
 go_ret
 exact ⟨rfl, HB.out⟩
theorem implPointPut_any (k o d p s c g : Int) (t : Bool) (w : World) :
 Calls Tryz.prog 25 #[ptv k o d p s c g t] w fun e w' => e = .returned (.string ⟨(ptW k o d p s c g t).toArray⟩) ∧ Below w.heap.size w w' := by
 cases hok : ptOk k o d p s c g t
 · rw [ptW, hok]
   exact implPut_no k o d p s c g t w hok
 · rw [ptW, hok, if_pos rfl]
   rcases pt_parts hok with ⟨rfl, rfl, rfl, rfl, rfl, rfl, rfl, rfl⟩ | ⟨rfl, h0, h1, hd0, hd1, hp0, hp1, rfl, rfl, rfl, rfl⟩ | ⟨rfl, h0, h1, rfl, rfl, hz0, hz1, hc0, hc1, rfl, rfl⟩ | ⟨rfl, h0, h1, rfl, rfl, rfl, rfl, hg0, hg1⟩
   · exact implPut_non w hok
   · exact implPut_str o d p w hok h0 h1 hd0 hd1 hp0 hp1
   · exact implPut_lis o s c w hok h0 h1 hz0 hz1 hc0 hc1
   · cases t
     · exact implPut_far0 o g w hok h0 h1 hg0 hg1
     · exact implPut_far1 o g w hok h0 h1 hg0 hg1
end Go.Proofs.YtlbfffokkhccaaaGreatDoor
namespace Go.Proofs.YtlbfffokkhccaaaGreatDoor
open Go.RowKit
end Go.Proofs.YtlbfffokkhccaaaGreatDoor
namespace Go.Proofs.YtlbfffokkhccaaaGreatDoor
open Go.RowKit
end Go.Proofs.YtlbfffokkhccaaaGreatDoor
namespace Go.Proofs.YtlbfffokkhccaaaGreatDoor
open Go.RowKit
end Go.Proofs.YtlbfffokkhccaaaGreatDoor
namespace Go.Proofs.YtlbfffokkhccaaaGreatDoor
open Go.RowKit
end Go.Proofs.YtlbfffokkhccaaaGreatDoor
namespace Go.Proofs.YtlbfffokkhccaaaGreatDoor
open Go.RowKit
def getG (s : ByteArray) : Int × Int × Int × Int × Int × Int × Int × Bool := if s.size = 8 then getP (leN s.data.toList 0 4) (leN s.data.toList 4 4) else (4, 0, 0, 0, 0, 0, 0, false)
theorem store8 {B : Nat} {w w1 : World} {b : Nat} {T : TypeId} {a0 a1 a2 a3 a4 a5 a6 a7 : Value} (h : w1.heap[b]? = some (.cells #[a0, a1, a2, a3, a4, a5, a6, a7] T (0, 0))) (hb : Below B w w1) (hB : B ≤ b) (v0 v1 v2 v3 v4 v5 v6 v7 : Value) :
 ∃ wf, ((((((((w1.setCell ⟨b, 0, none⟩ v0).setCell ⟨b, 1, none⟩ v1).setCell ⟨b, 2, none⟩ v2).setCell ⟨b, 3, none⟩ v3).setCell ⟨b, 4, none⟩ v4).setCell ⟨b, 5, none⟩ v5).setCell ⟨b, 6, none⟩ v6).setCell ⟨b, 7, none⟩ v7) = wf ∧ wf.heap[b]? = some (.cells #[v0, v1, v2, v3, v4, v5, v6, v7] T (0, 0)) ∧ Below B w wf := by
 have h0 := heap_set (i := 0) v0 h
 have h1 := heap_set (i := 1) v1 h0
 have h2 := heap_set (i := 2) v2 h1
 have h3 := heap_set (i := 3) v3 h2
 have h4 := heap_set (i := 4) v4 h3
 have h5 := heap_set (i := 5) v5 h4
 have h6 := heap_set (i := 6) v6 h5
 have h7 := heap_set (i := 7) v7 h6
 exact ⟨_, rfl, by simpa using h7, ((((((((hb.setCell hB v0).setCell hB v1).setCell hB v2).setCell hB v3).setCell hB v4).setCell hB v5).setCell hB v6).setCell hB v7)⟩
theorem pointOf_get (lo hi : Nat) (w : World) :
 Calls Tryz.prog 60 #[ptI (getP lo hi)] w fun e w' => e = .returned (ptT (getP lo hi)) ∧ Below w.heap.size w w' := by
 have h : (getP lo hi = (0, 0, 0, 0, 0, 0, 0, false)) ∨ (∃ o d p, getP lo hi = (1, o, d, p, 0, 0, 0, false)) ∨ (∃ o s c, getP lo hi = (2, o, 0, 0, s, c, 0, false)) ∨ (∃ o g t, getP lo hi = (3, o, 0, 0, 0, 0, g, t)) ∨ (getP lo hi = (4, 0, 0, 0, 0, 0, 0, false)) := by
  unfold getP
  split
  · exact .inl rfl
  split
  · exact .inr (.inl ⟨_, _, _, rfl⟩)
  split
  · exact .inr (.inr (.inl ⟨_, _, _, rfl⟩))
  split
  · exact .inr (.inr (.inr (.inl ⟨_, _, _, rfl⟩)))
  · exact .inr (.inr (.inr (.inr rfl)))
 rcases h with h | ⟨o, d, p, h⟩ | ⟨o, s, c, h⟩ | ⟨o, g, t, h⟩ | h
 · rw [h]; exact pointOf_noP w
 · rw [h]; exact pointOf_str o d p w
 · rw [h]; exact pointOf_lis o s c w
 · rw [h]; exact pointOf_far o g t w
 · rw [h]; exact pointOf_bad w
set_option maxHeartbeats 1000000 in
set_option maxRecDepth 100000 in
theorem implPointGet_any (s : ByteArray) (w : World) (hs : s.size ≤ maxLen) :
 Calls Tryz.prog 26 #[.string s] w fun e w' => e = .returned (ptT (getG s)) ∧ Below w.heap.size w w' := by
 unfold maxLen at hs
 by_cases h8 : s.size = 8
 · have hg : getG s = getP (leN s.data.toList 0 4) (leN s.data.toList 4 4) := if_pos h8
   have hlen : s.data.toList.length = 8 := by simp [h8]
   have hW := fun w => wordAt_any s 0 w hs (by decide) (by omega)
   have hW2 : ∀ w : World, Calls Tryz.prog 62 #[.string s, .int .i64 0] w fun e w' => e = .returned (.agg (wd s.data.toList)) ∧ Below w.heap.size w w' := fun w => by
    have := hW w
    rwa [show ((s.data.toList.drop (8 * (0 : Int).toNat)).take 8) = s.data.toList by simp [List.take_of_length_le, hlen]] at this
   rw [hg]
   clear hW hg
   generalize s.data.toList = l at *
   obtain ⟨x0, x1, x2, x3, x4, x5, x6, x7, rfl⟩ := len8 hlen
   have hR := readPointer_any x0 x1 x2 x3 x4 x5 x6 x7
   have hP := pointOf_get (leN [x0, x1, x2, x3, x4, x5, x6, x7] 0 4) (leN [x0, x1, x2, x3, x4, x5, x6, x7] 4 4)
   rw [show Value.agg (wd [x0, x1, x2, x3, x4, x5, x6, x7]) = wv x0 x1 x2 x3 x4 x5 x6 x7 from rfl] at hW2
   generalize wv x0 x1 x2 x3 x4 x5 x6 x7 = WV at *
   generalize getP (leN [x0, x1, x2, x3, x4, x5, x6, x7] 0 4) (leN [x0, x1, x2, x3, x4, x5, x6, x7] 4 4) = x at *
   generalize ptI x = PI at *
   obtain ⟨k, o, d, p, z, c, g, t⟩ := x
   unfold ptT ptv at hP ⊢
   simp only at hP ⊢
   have HW := Lib.hid hW2
   have HR := Lib.hid hR
   have HP := Lib.hid hP
   have b8 : ((s.size : Int) == 8) = true := by simp; omega
   clear hW2 hR hP h8 hlen
   go_enter Tryz.func26, Tryz.ntmps26
   go_wp2_with (first | (go_at_call 62; refine (HW.out _).mono ?_; rintro e w2 ⟨rfl, hb2⟩) | (go_at_call 61; refine (HR.out _).mono ?_; rintro e w3 ⟨rfl, hb3⟩) | (go_at_call 60; refine (HP.out _).mono ?_; rintro e w1 ⟨rfl, hb1⟩; have hc := kept8 (kept8 (kept8 (heap_alloc_new w _) hb2) hb3) hb1; obtain ⟨c0, c1, c2, c3, c4, c5, c6, c7⟩ := cells8 hc; have z0 := frozen_row hc 0; have z1 := frozen_row hc 1; have z2 := frozen_row hc 2; have z3 := frozen_row hc 3; have z4 := frozen_row hc 4; have z5 := frozen_row hc 5; have z6 := frozen_row hc 6; have z7 := frozen_row hc 7; have HC := Lib.hid hc; have B2 : Below w.heap.size w w2 := ((Below.refl w.heap.size w).alloc (Nat.le_refl _) _).trans (hb2.mono (by simp)); have B3 := B2.trans (hb3.mono B2.size); have HB : Hid (Below w.heap.size w w1) := B3.trans (hb1.mono B3.size); clear hc hb1 hb2 hb3 B2 B3))
   obtain ⟨wf, hwf, hf, hB⟩ := store8 HC.out HB.out (Nat.le_refl _) (.int .i64 k) (.int .i64 o) (.int .i64 d) (.int .i64 p) (.int .i64 z) (.int .i64 c) (.int .i64 g) (.bool t)
   rw [hwf]
   obtain ⟨g0, g1, g2, g3, g4, g5, g6, g7⟩ := cells8 hf
   exact bodyPost_ret (v := .agg #[.int .i64 k, .int .i64 o, .int .i64 d, .int .i64 p, .int .i64 z, .int .i64 c, .int .i64 g, .bool t]) (by simp [results, Tryz.results26, go_sem, g0, g1, g2, g3, g4, g5, g6, g7]) rfl ⟨rfl, hB⟩
 · have hg : getG s = (4, 0, 0, 0, 0, 0, 0, false) := if_neg h8
   have b8 : ((s.size : Int) == 8) = false := by simp; omega
   rw [hg]
   clear hg h8
   go_enter Tryz.func26, Tryz.ntmps26
   go_wp2
   exact bodyPost_ret (v := .agg #[.int .i64 4, .int .i64 0, .int .i64 0, .int .i64 0, .int .i64 0, .int .i64 0, .int .i64 0, .bool false]) (by simp [results, Tryz.results26, go_sem]) rfl ⟨rfl, by repeat (first | exact Below.refl _ _ | refine Below.alloc ?_ (by simp; try omega) _)⟩
end Go.Proofs.YtlbfffokkhccaaaGreatDoor
namespace Go.Proofs.YtlbfffokkhccaaaGreatDoor
open Go.RowKit
theorem word_back (u : ByteArray) : (∃ k o d p s c g : Int, ∃ t : Bool, getG u = (k, o, d, p, s, c, g, t) ∧ ((k = 4) ∨ (k ≠ 4 ∧ ptOk k o d p s c g t = true ∧ (⟨(ptW k o d p s c g t).toArray⟩ : ByteArray) = u))) := by
 by_cases h8 : u.size = 8
 · have hl : u.data.toList.length = 8 := by simpa using h8
   have hG : getG u = getP (leN u.data.toList 0 4) (leN u.data.toList 4 4) := if_pos h8
   have hw := word_two u.data.toList hl
   have l0 := leN_lt u.data.toList 4 0
   have l4 := leN_lt u.data.toList 4 4
   rw [show (256 : Nat) ^ 4 = 4294967296 from rfl] at l0 l4
   have fin : ∀ (k o d p s c g : Int) (t : Bool), ptOk k o d p s c g t = true → loPP k o t = ((leN u.data.toList 0 4 : Nat) : Int) → hiPP k d p s c g = ((leN u.data.toList 4 4 : Nat) : Int) → (⟨(ptW k o d p s c g t).toArray⟩ : ByteArray) = u := fun k o d p s c g t hok h1 h2 => by
    apply ext_ba
    rw [ptW, if_pos hok, h1, h2, hw]
   rcases getP_put _ _ l0 l4 with ⟨h1, h2, hg⟩ | ⟨o, d, p, hg, ho, hd, hp, hz, e1, e2⟩ | ⟨o, s, c, hg, ho, hs, hc, e1, e2⟩ | ⟨o, g, t, hg, ho, hgg, e1, e2⟩ | hg
   · exact ⟨0, 0, 0, 0, 0, 0, 0, false, hG.trans hg, .inr ⟨by decide, rfl, fin _ _ _ _ _ _ _ _ rfl (by rw [h1]; rfl) (by rw [h2]; rfl)⟩⟩
   · have hok : ptOk 1 o d p 0 0 0 false = true := by simp [ptOk, restOf, fitsOf, inB, withB, zer3]; omega
     exact ⟨1, o, d, p, 0, 0, 0, false, hG.trans hg, .inr ⟨by decide, hok, fin _ _ _ _ _ _ _ _ hok (by rw [loPP, if_pos rfl, e1]) (by rw [hiPP, if_pos rfl, e2])⟩⟩
   · have hok : ptOk 2 o 0 0 s c 0 false = true := by simp [ptOk, restOf, fitsOf, inB, withB]; omega
     exact ⟨2, o, 0, 0, s, c, 0, false, hG.trans hg, .inr ⟨by decide, hok, fin _ _ _ _ _ _ _ _ hok (by rw [loPP, if_neg (by decide), if_pos rfl, e1]) (by rw [hiPP, if_neg (by decide), if_pos rfl, e2])⟩⟩
   · have hok : ptOk 3 o 0 0 0 0 g t = true := by simp [ptOk, restOf, fitsOf, withB]; omega
     exact ⟨3, o, 0, 0, 0, 0, g, t, hG.trans hg, .inr ⟨by decide, hok, fin _ _ _ _ _ _ _ _ hok (by rw [loPP, if_neg (by decide), if_neg (by decide), if_pos rfl, e1]) (by rw [hiPP, if_neg (by decide), if_neg (by decide), if_pos rfl, e2])⟩⟩
   · exact ⟨4, 0, 0, 0, 0, 0, 0, false, hG.trans hg, .inl rfl⟩
 · exact ⟨4, 0, 0, 0, 0, 0, 0, false, if_neg h8, .inl rfl⟩
end Go.Proofs.YtlbfffokkhccaaaGreatDoor
namespace Go.Proofs.YtlbfffokkhccaaaGreatDoor
open Go.RowKit Go.Deep
theorem two_facts {n : Nd} (h : oneB (bldV n 200) = true) (S : ByteArray) (hS : oneS (bldV n 200) = S) (h16 : 16 ≤ S.size) (hle : S.size + 16 ≤ 1600) : nodeOk n = true ∧ n.kind ≠ 0 ∧ ownN n ≠ 0 ∧
 (∃ (k d p z c g : Int) (t : Bool), getG (S.extract 0 8) = (k, 0, d, p, z, c, g, t) ∧ (⟨(ptW k 0 d p z c g t).toArray⟩ : ByteArray) = S.extract 0 8) ∧ (S.extract 0 8).data.toList = ptrW n 0 ∧
 (S.extract 8 S.size).size % 8 = 0 ∧ (S.extract 8 S.size).size ≤ 1576 ∧ ownN n ≤ (S.extract 8 S.size).size / 8 ∧ (∀ x y : List UInt8, x.length = 8 → y.length = 16 → FillR (RepN [x, y, (S.extract 8 S.size).data.toList] 7) [x, y, (S.extract 8 S.size).data.toList] n 2 0) := by
 obtain ⟨hok, s, h1, h2, h3, h4, _, _⟩ := one_rd h
 have hbp : buildP 200 200 n = some [s] := by
  unfold bldV at h1
  rwa [if_pos ⟨hok, by decide, by decide⟩] at h1
 have hSd : S.data.toList = s := by rw [← hS, h4]
 have hSl : s.length = S.size := by rw [← hSd]; rfl
 obtain ⟨hn, _⟩ := node_ok hok
 have fn := ok_formN hn
 have hnw : nodeWords n = wordsN 8 n := by unfold nodeWords; rw [if_pos hok]
 obtain ⟨s', e1, e2⟩ := build_one (size := 200) hok (by have := (node_ok hok).2; omega)
 rw [hbp] at e1
 injection e1 with e1
 injection e1 with e1
 subst e1
 have hk : n.kind ≠ 0 := fun e => by have := (none_words (d := 8) fn e).2; omega
 have ho : ownN n ≠ 0 := fun e => by
  have := words_kids hn
  rw [own_none fn e] at this
  simp at this
  omega
 obtain ⟨t, t1, t2, _, t4⟩ := build_thr hok hk ho (List.replicate 8 0) (List.replicate 16 0) (by simp) (by simp) hbp
 have hpl := ptrW_length n 0
 have hu : (S.extract 0 8).data.toList = ptrW n 0 := by
  rw [Lib.extract_data, hSd, t1]
  simp [hpl]
 have hT : (S.extract 8 S.size).data.toList = t := by
  rw [Lib.extract_data, hSd, t1, List.drop_append_of_le_length (by omega), List.drop_of_length_le (by omega), List.nil_append, List.take_of_length_le]
  rw [t1, List.length_append] at hSl
  omega
 have hTl : (S.extract 8 S.size).size = t.length := by rw [← hT]; rfl
 have hwd := words_kids hn
 have pn := pt_ok fn (by have := (node_ok hok).2; omega) hk
 have hrd : RdW (ptrW n 0) (ptG n 0) := rd_ptr pn (by decide) (fun x => by
  obtain ⟨x1, x2, x3, x4⟩ := x
  have he := (own_plain fn (by omega)).1
  rcases form_cases fn with q | q | q
  · omega
  · apply ho; rw [he]; unfold ownB; omega
  · omega)
 have hg : getG (S.extract 0 8) = ptG n 0 := by
  unfold getG
  rw [if_pos (by rw [← data_toList, hu, hpl]), hu]
  exact hrd.2
 refine ⟨hok, hk, ho, ?_, hu, by rw [hTl]; exact t2, by rw [hTl]; rw [t1, List.length_append] at hSl; omega, by rw [hTl]; exact t4, fun x y hx hy => ?_⟩
 · obtain ⟨k, o, d, p, z, c, g, t, e1, e2⟩ := word_back (S.extract 0 8)
   rw [hg] at e1
   have hko : o = 0 ∧ k ≠ 4 := by
    unfold ptG at e1
    split at e1 <;> (simp only [Prod.mk.injEq] at e1; omega)
   obtain ⟨rfl, hk4⟩ := hko
   rcases e2 with e2 | ⟨_, _, e2⟩
   · exact absurd e2 hk4
   · exact ⟨k, d, p, z, c, g, t, by rw [hg, e1], e2⟩
 · obtain ⟨t', q1, _, q3, _⟩ := build_thr hok hk ho x y hx hy hbp
   rw [t1] at q1
   rw [hT, List.append_cancel_left q1]
   exact q3
end Go.Proofs.YtlbfffokkhccaaaGreatDoor