/- impl.PointPut and spec.PointPut answer the same at every argument: the word of a pointer that is ok, else the empty text. -/
import Derived.Test.YtialmfolgendlabPtBits
import Derived.Test.YtialmfolgendlabPointOk
namespace Go.Proofs.Ytialmfolgendlab
open Go.RowKit
/-- the lower and the upper number of a pointer's word. -/
def loP (k o : Int) (t : Bool) : Int := if k = 1 then offN o else if k = 2 then offN o + 1 else if k = 3 then (if t then o * 8 + 6 else o * 8 + 2) else 0
def hiP (k d p s c g : Int) : Int := if k = 1 then d + 65536 * p else if k = 2 then c * 8 + s else if k = 3 then g else 0
/-- what PointPut answers. -/
def ptW (k o d p s c g : Int) (t : Bool) : List UInt8 := if ptOk k o d p s c g t = true then leB (loP k o t) 4 ++ leB (hiP k d p s c g) 4 else []
theorem pt_parts {k o d p s c g : Int} {t : Bool} (h : ptOk k o d p s c g t = true) :
    (k = 0 ∧ o = 0 ∧ d = 0 ∧ p = 0 ∧ s = 0 ∧ c = 0 ∧ g = 0 ∧ t = false) ∨
    (k = 1 ∧ -536870912 ≤ o ∧ o ≤ 536870911 ∧ 0 ≤ d ∧ d < 65536 ∧ 0 ≤ p ∧ p < 65536 ∧ s = 0 ∧ c = 0 ∧ g = 0 ∧ t = false) ∨
    (k = 2 ∧ -536870912 ≤ o ∧ o ≤ 536870911 ∧ d = 0 ∧ p = 0 ∧ 0 ≤ s ∧ s < 8 ∧ 0 ≤ c ∧ c < 536870912 ∧ g = 0 ∧ t = false) ∨
    (k = 3 ∧ 0 ≤ o ∧ o ≤ 536870911 ∧ d = 0 ∧ p = 0 ∧ s = 0 ∧ c = 0 ∧ 0 ≤ g ∧ g < 4294967296) := by
  rcases kinds5 k with rfl | rfl | rfl | rfl | hk
  · simp [ptOk, restOf, fitsOf] at h
    exact .inl ⟨rfl, by omega, by omega, by omega, by omega, by omega, by omega, by simpa using h.2.2.2.2.2.2⟩
  · simp [ptOk, restOf, fitsOf, inB, withB, zer3] at h
    exact .inr (.inl ⟨rfl, by omega, by omega, by omega, by omega, by omega, by omega, by omega, by omega, by omega, by simpa using h.1.2.2.2⟩)
  · simp [ptOk, restOf, fitsOf, inB, withB] at h
    exact .inr (.inr (.inl ⟨rfl, by omega, by omega, by omega, by omega, by omega, by omega, by omega, by omega, by omega, by simpa using h.1.2.2.2⟩))
  · simp [ptOk, restOf, fitsOf, withB] at h
    exact .inr (.inr (.inr ⟨rfl, by omega, by omega, by omega, by omega, by omega, by omega, by omega, by omega⟩))
  · simp [ptOk, fitsOf, hk] at h
theorem mb_noP (x : Value) (w : World) : (method 216 86 x "loop.example/quoin/impl.bits").run Try.prog w = .ok (89, x) w := by kernel_rfl
theorem mb_str (x : Value) (w : World) : (method 216 88 x "loop.example/quoin/impl.bits").run Try.prog w = .ok (91, x) w := by kernel_rfl
theorem mb_lis (x : Value) (w : World) : (method 216 90 x "loop.example/quoin/impl.bits").run Try.prog w = .ok (95, x) w := by kernel_rfl
theorem mb_far (x : Value) (w : World) : (method 216 92 x "loop.example/quoin/impl.bits").run Try.prog w = .ok (97, x) w := by kernel_rfl
set_option maxHeartbeats 1000000 in
set_option maxRecDepth 100000 in
theorem implPut_str (o d p : Int) (w : World) (hok : ptOk 1 o d p 0 0 0 false = true) (h0 : -536870912 ≤ o) (h1 : o ≤ 536870911) (hd0 : 0 ≤ d) (hd1 : d < 65536) (hp0 : 0 ≤ p) (hp1 : p < 65536) :
    Calls Try.prog 13 #[ptv 1 o d p 0 0 0 false] w fun e w' => e = .returned (.string ⟨(leB (offN o) 4 ++ leB (d + 65536 * p) 4).toArray⟩) ∧ Below w.heap.size w w' := by
  have HOK := Lib.hid (fun w => implPointOk_any 1 o d p 0 0 0 false w)
  have HP := Lib.hid (fun w => pointerOf_any 1 o d p 0 0 0 false w)
  have HF : Hid (ptif 1 o d p 0 0 0 false = .iface 88 (.agg #[.int .i64 o, .int .i64 d, .int .i64 p])) := Lib.hid rfl
  have hme := mb_str (.agg #[.int .i64 o, .int .i64 d, .int .i64 p])
  have hob := offN_bd o
  have hfin := leB_two (offN o) (d + 65536 * p) (by omega) (by omega)
  have HFin := Lib.hid hfin
  have hN0 : 0 ≤ offN o + 4294967296 * (d + 65536 * p) := by omega
  have hN1 : offN o + 4294967296 * (d + 65536 * p) < 18446744073709551616 := by omega
  have HO := Lib.hid hok
  clear hfin hok
  unfold ptv at HOK HP ⊢
  go_enter Try.func13, Try.ntmps13
  go_wp2_with fail
  refine (HOK.out _).mono ?_
  rintro e w1 ⟨rfl, hb1⟩
  rw [HO.out]
  have hblk := (hb1.block w.heap.size (by simp)).trans (heap_alloc_new w _)
  obtain ⟨c0, c1, c2, c3, c4, c5, c6, c7⟩ := cells8 hblk
  have HB := Lib.hid (((Below.refl w.heap.size w).alloc (Nat.le_refl _) _).trans (hb1.mono (by simp)))
  clear hblk hb1
  go_wp2_with fail
  refine (HP.out _).mono ?_
  rintro e w2 ⟨rfl, hb2⟩
  rw [HF.out]
  replace HB := Lib.hid (then_n HB.out hb2)
  clear hb2
  go_wp2_with fail
  refine (bits_str o d p _ h0 h1 hd0 hd1 hp0 hp1).mono ?_
  rintro e w3 ⟨rfl, hb3⟩
  replace HB := Lib.hid (then_n HB.out hb3)
  clear hb3
  go_wp2_with fail
  refine (wordOf_any _ _ hN0 hN1).mono ?_
  rintro e w4 ⟨rfl, hb4⟩
  replace HB := Lib.hid (then_n HB.out hb4)
  clear hb4
  go_wp2_with fail
  refine (text_any (leB (offN o + 4294967296 * (d + 65536 * p)) 8) _ (leB_length _ 8)).mono ?_
  rintro e w5 ⟨rfl, hb5⟩
  replace HB := Lib.hid (then_n HB.out hb5)
  clear hb5
  rw [HFin.out]
  go_wp2
  go_ret
  exact ⟨rfl, HB.out⟩
set_option maxHeartbeats 1000000 in
set_option maxRecDepth 100000 in
theorem implPut_lis (o z c : Int) (w : World) (hok : ptOk 2 o 0 0 z c 0 false = true) (h0 : -536870912 ≤ o) (h1 : o ≤ 536870911) (hz0 : 0 ≤ z) (hz1 : z < 8) (hc0 : 0 ≤ c) (hc1 : c < 536870912) :
    Calls Try.prog 13 #[ptv 2 o 0 0 z c 0 false] w fun e w' => e = .returned (.string ⟨(leB (offN o + 1) 4 ++ leB (c * 8 + z) 4).toArray⟩) ∧ Below w.heap.size w w' := by
  have HOK := Lib.hid (fun w => implPointOk_any 2 o 0 0 z c 0 false w)
  have HP := Lib.hid (fun w => pointerOf_any 2 o 0 0 z c 0 false w)
  have HF : Hid (ptif 2 o 0 0 z c 0 false = .iface 90 (.agg #[.int .i64 o, .int .i64 z, .int .i64 c])) := Lib.hid rfl
  have hme := mb_lis (.agg #[.int .i64 o, .int .i64 z, .int .i64 c])
  have hob := offN_bd o
  have hfin := leB_two (offN o + 1) (c * 8 + z) (by omega) (by omega)
  have HFin := Lib.hid hfin
  have hN0 : 0 ≤ offN o + 1 + 4294967296 * (c * 8 + z) := by omega
  have hN1 : offN o + 1 + 4294967296 * (c * 8 + z) < 18446744073709551616 := by omega
  have HO := Lib.hid hok
  clear hfin hok
  unfold ptv at HOK HP ⊢
  go_enter Try.func13, Try.ntmps13
  go_wp2_with fail
  refine (HOK.out _).mono ?_
  rintro e w1 ⟨rfl, hb1⟩
  rw [HO.out]
  have hblk := (hb1.block w.heap.size (by simp)).trans (heap_alloc_new w _)
  obtain ⟨c0, c1, c2, c3, c4, c5, c6, c7⟩ := cells8 hblk
  have HB := Lib.hid (((Below.refl w.heap.size w).alloc (Nat.le_refl _) _).trans (hb1.mono (by simp)))
  clear hblk hb1
  go_wp2_with fail
  refine (HP.out _).mono ?_
  rintro e w2 ⟨rfl, hb2⟩
  rw [HF.out]
  replace HB := Lib.hid (then_n HB.out hb2)
  clear hb2
  go_wp2_with fail
  refine (bits_lis o z c _ h0 h1 hz0 hz1 hc0 hc1).mono ?_
  rintro e w3 ⟨rfl, hb3⟩
  replace HB := Lib.hid (then_n HB.out hb3)
  clear hb3
  go_wp2_with fail
  refine (wordOf_any _ _ hN0 hN1).mono ?_
  rintro e w4 ⟨rfl, hb4⟩
  replace HB := Lib.hid (then_n HB.out hb4)
  clear hb4
  go_wp2_with fail
  refine (text_any (leB (offN o + 1 + 4294967296 * (c * 8 + z)) 8) _ (leB_length _ 8)).mono ?_
  rintro e w5 ⟨rfl, hb5⟩
  replace HB := Lib.hid (then_n HB.out hb5)
  clear hb5
  rw [HFin.out]
  go_wp2
  go_ret
  exact ⟨rfl, HB.out⟩
set_option maxHeartbeats 1000000 in
set_option maxRecDepth 100000 in
theorem implPut_far0 (o g : Int) (w : World) (hok : ptOk 3 o 0 0 0 0 g false = true) (h0 : 0 ≤ o) (h1 : o ≤ 536870911) (hg0 : 0 ≤ g) (hg1 : g < 4294967296) :
    Calls Try.prog 13 #[ptv 3 o 0 0 0 0 g false] w fun e w' => e = .returned (.string ⟨(leB (o * 8 + 2) 4 ++ leB (g) 4).toArray⟩) ∧ Below w.heap.size w w' := by
  have HOK := Lib.hid (fun w => implPointOk_any 3 o 0 0 0 0 g false w)
  have HP := Lib.hid (fun w => pointerOf_any 3 o 0 0 0 0 g false w)
  have HF : Hid (ptif 3 o 0 0 0 0 g false = .iface 92 (.agg #[.int .i64 o, .int .i64 g, .bool false])) := Lib.hid rfl
  have hme := mb_far (.agg #[.int .i64 o, .int .i64 g, .bool false])
  have hob : True := trivial
  have hfin := leB_two (o * 8 + 2) (g) (by omega) (by omega)
  have HFin := Lib.hid hfin
  have hN0 : 0 ≤ o * 8 + 2 + 4294967296 * g := by omega
  have hN1 : o * 8 + 2 + 4294967296 * g < 18446744073709551616 := by omega
  have HO := Lib.hid hok
  clear hfin hok
  unfold ptv at HOK HP ⊢
  go_enter Try.func13, Try.ntmps13
  go_wp2_with fail
  refine (HOK.out _).mono ?_
  rintro e w1 ⟨rfl, hb1⟩
  rw [HO.out]
  have hblk := (hb1.block w.heap.size (by simp)).trans (heap_alloc_new w _)
  obtain ⟨c0, c1, c2, c3, c4, c5, c6, c7⟩ := cells8 hblk
  have HB := Lib.hid (((Below.refl w.heap.size w).alloc (Nat.le_refl _) _).trans (hb1.mono (by simp)))
  clear hblk hb1
  go_wp2_with fail
  refine (HP.out _).mono ?_
  rintro e w2 ⟨rfl, hb2⟩
  rw [HF.out]
  replace HB := Lib.hid (then_n HB.out hb2)
  clear hb2
  go_wp2_with fail
  refine (bits_far0 o g _ h0 h1 hg0 hg1).mono ?_
  rintro e w3 ⟨rfl, hb3⟩
  replace HB := Lib.hid (then_n HB.out hb3)
  clear hb3
  go_wp2_with fail
  refine (wordOf_any _ _ hN0 hN1).mono ?_
  rintro e w4 ⟨rfl, hb4⟩
  replace HB := Lib.hid (then_n HB.out hb4)
  clear hb4
  go_wp2_with fail
  refine (text_any (leB (o * 8 + 2 + 4294967296 * g) 8) _ (leB_length _ 8)).mono ?_
  rintro e w5 ⟨rfl, hb5⟩
  replace HB := Lib.hid (then_n HB.out hb5)
  clear hb5
  rw [HFin.out]
  go_wp2
  go_ret
  exact ⟨rfl, HB.out⟩
set_option maxHeartbeats 1000000 in
set_option maxRecDepth 100000 in
theorem implPut_far1 (o g : Int) (w : World) (hok : ptOk 3 o 0 0 0 0 g true = true) (h0 : 0 ≤ o) (h1 : o ≤ 536870911) (hg0 : 0 ≤ g) (hg1 : g < 4294967296) :
    Calls Try.prog 13 #[ptv 3 o 0 0 0 0 g true] w fun e w' => e = .returned (.string ⟨(leB (o * 8 + 6) 4 ++ leB (g) 4).toArray⟩) ∧ Below w.heap.size w w' := by
  have HOK := Lib.hid (fun w => implPointOk_any 3 o 0 0 0 0 g true w)
  have HP := Lib.hid (fun w => pointerOf_any 3 o 0 0 0 0 g true w)
  have HF : Hid (ptif 3 o 0 0 0 0 g true = .iface 92 (.agg #[.int .i64 o, .int .i64 g, .bool true])) := Lib.hid rfl
  have hme := mb_far (.agg #[.int .i64 o, .int .i64 g, .bool true])
  have hob : True := trivial
  have hfin := leB_two (o * 8 + 6) (g) (by omega) (by omega)
  have HFin := Lib.hid hfin
  have hN0 : 0 ≤ o * 8 + 6 + 4294967296 * g := by omega
  have hN1 : o * 8 + 6 + 4294967296 * g < 18446744073709551616 := by omega
  have HO := Lib.hid hok
  clear hfin hok
  unfold ptv at HOK HP ⊢
  go_enter Try.func13, Try.ntmps13
  go_wp2_with fail
  refine (HOK.out _).mono ?_
  rintro e w1 ⟨rfl, hb1⟩
  rw [HO.out]
  have hblk := (hb1.block w.heap.size (by simp)).trans (heap_alloc_new w _)
  obtain ⟨c0, c1, c2, c3, c4, c5, c6, c7⟩ := cells8 hblk
  have HB := Lib.hid (((Below.refl w.heap.size w).alloc (Nat.le_refl _) _).trans (hb1.mono (by simp)))
  clear hblk hb1
  go_wp2_with fail
  refine (HP.out _).mono ?_
  rintro e w2 ⟨rfl, hb2⟩
  rw [HF.out]
  replace HB := Lib.hid (then_n HB.out hb2)
  clear hb2
  go_wp2_with fail
  refine (bits_far1 o g _ h0 h1 hg0 hg1).mono ?_
  rintro e w3 ⟨rfl, hb3⟩
  replace HB := Lib.hid (then_n HB.out hb3)
  clear hb3
  go_wp2_with fail
  refine (wordOf_any _ _ hN0 hN1).mono ?_
  rintro e w4 ⟨rfl, hb4⟩
  replace HB := Lib.hid (then_n HB.out hb4)
  clear hb4
  go_wp2_with fail
  refine (text_any (leB (o * 8 + 6 + 4294967296 * g) 8) _ (leB_length _ 8)).mono ?_
  rintro e w5 ⟨rfl, hb5⟩
  replace HB := Lib.hid (then_n HB.out hb5)
  clear hb5
  rw [HFin.out]
  go_wp2
  go_ret
  exact ⟨rfl, HB.out⟩
set_option maxHeartbeats 1000000 in
set_option maxRecDepth 100000 in
theorem implPut_non  (w : World) (hok : ptOk 0 0 0 0 0 0 0 false = true)  :
    Calls Try.prog 13 #[ptv 0 0 0 0 0 0 0 false] w fun e w' => e = .returned (.string ⟨(leB (0) 4 ++ leB (0) 4).toArray⟩) ∧ Below w.heap.size w w' := by
  have HOK := Lib.hid (fun w => implPointOk_any 0 0 0 0 0 0 0 false w)
  have HP := Lib.hid (fun w => pointerOf_any 0 0 0 0 0 0 0 false w)
  have HF : Hid (ptif 0 0 0 0 0 0 0 false = .iface 86 (.agg #[])) := Lib.hid rfl
  have hme := mb_noP (.agg #[])
  have hob : True := trivial
  have hfin : leB 0 8 = leB 0 4 ++ leB 0 4 := rfl
  have HFin := Lib.hid hfin
  have hN0 : (0 : Int) ≤ 0 := by omega
  have hN1 : (0 : Int) < 18446744073709551616 := by omega
  have HO := Lib.hid hok
  clear hfin hok
  unfold ptv at HOK HP ⊢
  go_enter Try.func13, Try.ntmps13
  go_wp2_with fail
  refine (HOK.out _).mono ?_
  rintro e w1 ⟨rfl, hb1⟩
  rw [HO.out]
  have hblk := (hb1.block w.heap.size (by simp)).trans (heap_alloc_new w _)
  obtain ⟨c0, c1, c2, c3, c4, c5, c6, c7⟩ := cells8 hblk
  have HB := Lib.hid (((Below.refl w.heap.size w).alloc (Nat.le_refl _) _).trans (hb1.mono (by simp)))
  clear hblk hb1
  go_wp2_with fail
  refine (HP.out _).mono ?_
  rintro e w2 ⟨rfl, hb2⟩
  rw [HF.out]
  replace HB := Lib.hid (then_n HB.out hb2)
  clear hb2
  go_wp2_with fail
  refine (bits_non _).mono ?_
  rintro e w3 ⟨rfl, hb3⟩
  replace HB := Lib.hid (then_n HB.out hb3)
  clear hb3
  go_wp2_with fail
  refine (wordOf_any _ _ hN0 hN1).mono ?_
  rintro e w4 ⟨rfl, hb4⟩
  replace HB := Lib.hid (then_n HB.out hb4)
  clear hb4
  go_wp2_with fail
  refine (text_any (leB (0) 8) _ (leB_length _ 8)).mono ?_
  rintro e w5 ⟨rfl, hb5⟩
  replace HB := Lib.hid (then_n HB.out hb5)
  clear hb5
  rw [HFin.out]
  go_wp2
  go_ret
  exact ⟨rfl, HB.out⟩
set_option maxHeartbeats 1000000 in
set_option maxRecDepth 100000 in
theorem specPut_str (o d p : Int) (w : World) (hok : ptOk 1 o d p 0 0 0 false = true) (h0 : -536870912 ≤ o) (h1 : o ≤ 536870911) (hd0 : 0 ≤ d) (hd1 : d < 65536) (hp0 : 0 ≤ p) (hp1 : p < 65536) :
    Calls Try.prog 14 #[ptv 1 o d p 0 0 0 false] w fun e w' => e = .returned (.string ⟨(leB (offN o) 4 ++ leB (d + 65536 * p) 4).toArray⟩) ∧ Below w.heap.size w w' := by
  have HOK := Lib.hid (fun w => specPointOk_any 1 o d p 0 0 0 false w)
  have HO := Lib.hid hok
  clear hok
  unfold ptv at HOK ⊢
  go_enter Try.func14, Try.ntmps14
  go_wp2_with fail
  refine (HOK.out _).mono ?_
  rintro e w1 ⟨rfl, hb1⟩
  rw [HO.out]
  have hblk := (hb1.block w.heap.size (by simp)).trans (heap_alloc_new w _)
  obtain ⟨c0, c1, c2, c3, c4, c5, c6, c7⟩ := cells8 hblk
  have HB := Lib.hid (((Below.refl w.heap.size w).alloc (Nat.le_refl _) _).trans (hb1.mono (by simp)))
  clear hblk hb1
  go_wp2_with fail
  refine (l2Put_str o d p _ h0 h1 hd0 hd1 hp0 hp1).mono ?_
  rintro e w2 ⟨rfl, hb2⟩
  replace HB := Lib.hid (then_n HB.out hb2)
  clear hb2
  go_wp2
  go_ret
  exact ⟨rfl, HB.out⟩
set_option maxHeartbeats 1000000 in
set_option maxRecDepth 100000 in
theorem specPut_lis (o z c : Int) (w : World) (hok : ptOk 2 o 0 0 z c 0 false = true) (h0 : -536870912 ≤ o) (h1 : o ≤ 536870911) (hz0 : 0 ≤ z) (hz1 : z < 8) (hc0 : 0 ≤ c) (hc1 : c < 536870912) :
    Calls Try.prog 14 #[ptv 2 o 0 0 z c 0 false] w fun e w' => e = .returned (.string ⟨(leB (offN o + 1) 4 ++ leB (c * 8 + z) 4).toArray⟩) ∧ Below w.heap.size w w' := by
  have HOK := Lib.hid (fun w => specPointOk_any 2 o 0 0 z c 0 false w)
  have HO := Lib.hid hok
  clear hok
  unfold ptv at HOK ⊢
  go_enter Try.func14, Try.ntmps14
  go_wp2_with fail
  refine (HOK.out _).mono ?_
  rintro e w1 ⟨rfl, hb1⟩
  rw [HO.out]
  have hblk := (hb1.block w.heap.size (by simp)).trans (heap_alloc_new w _)
  obtain ⟨c0, c1, c2, c3, c4, c5, c6, c7⟩ := cells8 hblk
  have HB := Lib.hid (((Below.refl w.heap.size w).alloc (Nat.le_refl _) _).trans (hb1.mono (by simp)))
  clear hblk hb1
  go_wp2_with fail
  refine (l2Put_lis o z c _ h0 h1 hz0 hz1 hc0 hc1).mono ?_
  rintro e w2 ⟨rfl, hb2⟩
  replace HB := Lib.hid (then_n HB.out hb2)
  clear hb2
  go_wp2
  go_ret
  exact ⟨rfl, HB.out⟩
set_option maxHeartbeats 1000000 in
set_option maxRecDepth 100000 in
theorem specPut_far0 (o g : Int) (w : World) (hok : ptOk 3 o 0 0 0 0 g false = true) (h0 : 0 ≤ o) (h1 : o ≤ 536870911) :
    Calls Try.prog 14 #[ptv 3 o 0 0 0 0 g false] w fun e w' => e = .returned (.string ⟨(leB (o * 8 + 2) 4 ++ leB g 4).toArray⟩) ∧ Below w.heap.size w w' := by
  have HOK := Lib.hid (fun w => specPointOk_any 3 o 0 0 0 0 g false w)
  have HO := Lib.hid hok
  clear hok
  unfold ptv at HOK ⊢
  go_enter Try.func14, Try.ntmps14
  go_wp2_with fail
  refine (HOK.out _).mono ?_
  rintro e w1 ⟨rfl, hb1⟩
  rw [HO.out]
  have hblk := (hb1.block w.heap.size (by simp)).trans (heap_alloc_new w _)
  obtain ⟨c0, c1, c2, c3, c4, c5, c6, c7⟩ := cells8 hblk
  have HB := Lib.hid (((Below.refl w.heap.size w).alloc (Nat.le_refl _) _).trans (hb1.mono (by simp)))
  clear hblk hb1
  go_wp2_with fail
  refine (l2Put_far0 o g _ h0 h1).mono ?_
  rintro e w2 ⟨rfl, hb2⟩
  replace HB := Lib.hid (then_n HB.out hb2)
  clear hb2
  go_wp2
  go_ret
  exact ⟨rfl, HB.out⟩
set_option maxHeartbeats 1000000 in
set_option maxRecDepth 100000 in
theorem specPut_far1 (o g : Int) (w : World) (hok : ptOk 3 o 0 0 0 0 g true = true) (h0 : 0 ≤ o) (h1 : o ≤ 536870911) :
    Calls Try.prog 14 #[ptv 3 o 0 0 0 0 g true] w fun e w' => e = .returned (.string ⟨(leB (o * 8 + 6) 4 ++ leB g 4).toArray⟩) ∧ Below w.heap.size w w' := by
  have HOK := Lib.hid (fun w => specPointOk_any 3 o 0 0 0 0 g true w)
  have HO := Lib.hid hok
  clear hok
  unfold ptv at HOK ⊢
  go_enter Try.func14, Try.ntmps14
  go_wp2_with fail
  refine (HOK.out _).mono ?_
  rintro e w1 ⟨rfl, hb1⟩
  rw [HO.out]
  have hblk := (hb1.block w.heap.size (by simp)).trans (heap_alloc_new w _)
  obtain ⟨c0, c1, c2, c3, c4, c5, c6, c7⟩ := cells8 hblk
  have HB := Lib.hid (((Below.refl w.heap.size w).alloc (Nat.le_refl _) _).trans (hb1.mono (by simp)))
  clear hblk hb1
  go_wp2_with fail
  refine (l2Put_far1 o g _ h0 h1).mono ?_
  rintro e w2 ⟨rfl, hb2⟩
  replace HB := Lib.hid (then_n HB.out hb2)
  clear hb2
  go_wp2
  go_ret
  exact ⟨rfl, HB.out⟩
set_option maxHeartbeats 1000000 in
set_option maxRecDepth 100000 in
theorem specPut_non  (w : World) (hok : ptOk 0 0 0 0 0 0 0 false = true)  :
    Calls Try.prog 14 #[ptv 0 0 0 0 0 0 0 false] w fun e w' => e = .returned (.string ⟨(leB 0 8).toArray⟩) ∧ Below w.heap.size w w' := by
  have HOK := Lib.hid (fun w => specPointOk_any 0 0 0 0 0 0 0 false w)
  have HO := Lib.hid hok
  clear hok
  unfold ptv at HOK ⊢
  go_enter Try.func14, Try.ntmps14
  go_wp2_with fail
  refine (HOK.out _).mono ?_
  rintro e w1 ⟨rfl, hb1⟩
  rw [HO.out]
  have hblk := (hb1.block w.heap.size (by simp)).trans (heap_alloc_new w _)
  obtain ⟨c0, c1, c2, c3, c4, c5, c6, c7⟩ := cells8 hblk
  have HB := Lib.hid (((Below.refl w.heap.size w).alloc (Nat.le_refl _) _).trans (hb1.mono (by simp)))
  clear hblk hb1
  go_wp2_with fail
  refine (l2Put_non _).mono ?_
  rintro e w2 ⟨rfl, hb2⟩
  replace HB := Lib.hid (then_n HB.out hb2)
  clear hb2
  go_wp2
  go_ret
  exact ⟨rfl, HB.out⟩
set_option maxHeartbeats 1000000 in
set_option maxRecDepth 100000 in
theorem implPut_no (k o d p s c g : Int) (t : Bool) (w : World) (hok : ptOk k o d p s c g t = false) :
    Calls Try.prog 13 #[ptv k o d p s c g t] w fun e w' => e = .returned (.string ⟨#[]⟩) ∧ Below w.heap.size w w' := by
  have HOK := Lib.hid (fun w => implPointOk_any k o d p s c g t w)
  have HO := Lib.hid hok
  clear hok
  unfold ptv at HOK ⊢
  go_enter Try.func13, Try.ntmps13
  go_wp2_with fail
  refine (HOK.out _).mono ?_
  rintro e w1 ⟨rfl, hb1⟩
  rw [HO.out]
  have HB := Lib.hid (((Below.refl w.heap.size w).alloc (Nat.le_refl _) _).trans (hb1.mono (by simp)))
  clear hb1
  go_wp2
  go_ret
  exact ⟨rfl, HB.out⟩
theorem implPointPut_any (k o d p s c g : Int) (t : Bool) (w : World) :
    Calls Try.prog 13 #[ptv k o d p s c g t] w fun e w' => e = .returned (.string ⟨(ptW k o d p s c g t).toArray⟩) ∧ Below w.heap.size w w' := by
  cases hok : ptOk k o d p s c g t
  · rw [ptW, hok]
    exact implPut_no k o d p s c g t w hok
  · rw [ptW, hok, if_pos rfl]
    rcases pt_parts hok with ⟨rfl, rfl, rfl, rfl, rfl, rfl, rfl, rfl⟩ | ⟨rfl, h0, h1, hd0, hd1, hp0, hp1, rfl, rfl, rfl, rfl⟩ | ⟨rfl, h0, h1, rfl, rfl, hz0, hz1, hc0, hc1, rfl, rfl⟩ | ⟨rfl, h0, h1, rfl, rfl, rfl, rfl, hg0, hg1⟩
    · exact implPut_non w hok
    · exact implPut_str o d p w hok h0 h1 hd0 hd1 hp0 hp1
    · exact implPut_lis o s c w hok h0 h1 hz0 hz1 hc0 hc1
    · cases t
      · exact implPut_far0 o g w hok h0 h1 hg0 hg1
      · exact implPut_far1 o g w hok h0 h1 hg0 hg1
set_option maxHeartbeats 1000000 in
set_option maxRecDepth 100000 in
theorem specPut_no (k o d p s c g : Int) (t : Bool) (w : World) (hok : ptOk k o d p s c g t = false) :
    Calls Try.prog 14 #[ptv k o d p s c g t] w fun e w' => e = .returned (.string ⟨#[]⟩) ∧ Below w.heap.size w w' := by
  have HOK := Lib.hid (fun w => specPointOk_any k o d p s c g t w)
  have HO := Lib.hid hok
  clear hok
  unfold ptv at HOK ⊢
  go_enter Try.func14, Try.ntmps14
  go_wp2_with fail
  refine (HOK.out _).mono ?_
  rintro e w1 ⟨rfl, hb1⟩
  rw [HO.out]
  have HB := Lib.hid (((Below.refl w.heap.size w).alloc (Nat.le_refl _) _).trans (hb1.mono (by simp)))
  clear hb1
  go_wp2
  go_ret
  exact ⟨rfl, HB.out⟩
theorem specPointPut_any (k o d p s c g : Int) (t : Bool) (w : World) :
    Calls Try.prog 14 #[ptv k o d p s c g t] w fun e w' => e = .returned (.string ⟨(ptW k o d p s c g t).toArray⟩) ∧ Below w.heap.size w w' := by
  cases hok : ptOk k o d p s c g t
  · rw [ptW, hok]
    exact specPut_no k o d p s c g t w hok
  · rw [ptW, hok, if_pos rfl]
    rcases pt_parts hok with ⟨rfl, rfl, rfl, rfl, rfl, rfl, rfl, rfl⟩ | ⟨rfl, h0, h1, hd0, hd1, hp0, hp1, rfl, rfl, rfl, rfl⟩ | ⟨rfl, h0, h1, rfl, rfl, hz0, hz1, hc0, hc1, rfl, rfl⟩ | ⟨rfl, h0, h1, rfl, rfl, rfl, rfl, hg0, hg1⟩
    · have h := specPut_non w hok
      rw [show leB 0 8 = leB 0 4 ++ leB 0 4 from rfl] at h
      exact h
    · exact specPut_str o d p w hok h0 h1 hd0 hd1 hp0 hp1
    · exact specPut_lis o s c w hok h0 h1 hz0 hz1 hc0 hc1
    · cases t
      · exact specPut_far0 o g w hok h0 h1
      · exact specPut_far1 o g w hok h0 h1
end Go.Proofs.Ytialmfolgendlab
