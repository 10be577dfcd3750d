/- Texts of the proof of the law FnReadTwo, side by side: part 34. -/
import Derived.Test.YtlbfffokkhccaaaGreatDoorMReadTwo33
namespace Go.Proofs.YtlbfffokkhccaaaGreatDoor
open Go.RowKit
theorem or_u64 (k : Nat) (x b : Int) (hx0 : 0 ≤ x) (hx1 : x < 18446744073709551616) (hb0 : 0 ≤ b) (hb1 : b < 18446744073709551616) (hx : x < 2 ^ k) (hm : b % 2 ^ k = 0) : bits .or .u64 x b = x + b := by
 obtain ⟨x, rfl⟩ := Int.eq_ofNat_of_zero_le hx0
 obtain ⟨b, rfl⟩ := Int.eq_ofNat_of_zero_le hb0
 have e : ((2 : Int) ^ k) = ((2 ^ k : Nat) : Int) := by rw [Int.natCast_pow]; rfl
 rw [e] at hx hm
 rw [u64_or_nat x b (by omega) (by omega), Nat.or_comm, nat_join k b x (by omega) (by omega)]
 omega
set_option maxHeartbeats 400000 in
theorem offBits_any (o : Int) (w : World) (_h0 : -536870912 ≤ o) (_h1 : o ≤ 536870911) :
 Calls Tryz.prog 236 #[.int .i64 o] w fun e w' => e = .returned (.int .u64 (offN o)) ∧ w = w' := by
 go_enter Tryz.func236, Tryz.ntmps236
 go_wp2
 go_ret
 exact ⟨ret_int (by unfold offN; omega), rfl⟩
theorem below_dN {B : Nat} {a w : World} (h : Below B a w) (n : Nat) : Below B a (w.drewN n) := ⟨h.os, h.tape, h.output, h.size, h.block⟩
theorem offBits_q (o : Int) (w : World) (h0 : -536870912 ≤ o) (h1 : o ≤ 536870911) :
 Calls Tryz.prog 236 #[.int .i64 o] w fun e w' => e = .returned (.int .u64 (offN o)) ∧ w' = w := (offBits_any o w h0 h1).mono fun _ _ h => ⟨h.1, h.2.symm⟩
set_option maxHeartbeats 1000000 in
theorem bits_str (o d p : Int) (w : World) (h0 : -536870912 ≤ o) (h1 : o ≤ 536870911) (hd0 : 0 ≤ d) (hd1 : d < 65536) (hp0 : 0 ≤ p) (hp1 : p < 65536) :
 Calls Tryz.prog 234 #[.agg #[.int .i64 o, .int .i64 d, .int .i64 p]] w fun e w' => e = .returned (.int .u64 (offN o + 4294967296 * (d + 65536 * p))) ∧ Below w.heap.size w w' := by
 have hb := offN_bd o
 have e1 : IntKind.u64.wrap d = d := by rw [IntKind.wrap_u64]; omega
 have e2 : IntKind.u64.wrap p = p := by rw [IntKind.wrap_u64]; omega
 have e3 : IntKind.u64.wrap (d * 4294967296) = d * 4294967296 := by rw [IntKind.wrap_u64]; omega
 have e4 : IntKind.u64.wrap (p * 281474976710656) = p * 281474976710656 := by rw [IntKind.wrap_u64]; omega
 have q1 : bits .or .u64 (offN o) (d * 4294967296) = offN o + d * 4294967296 := or_u64 32 _ _ (by omega) (by omega) (by omega) (by omega) (by simp only [Int.reducePow]; omega) (by simp only [Int.reducePow]; omega)
 have q2 : bits .or .u64 (offN o + d * 4294967296) (p * 281474976710656) = offN o + d * 4294967296 + p * 281474976710656 := or_u64 48 _ _ (by omega) (by omega) (by omega) (by omega) (by simp only [Int.reducePow]; omega) (by simp only [Int.reducePow]; omega)
 go_enter Tryz.func234, Tryz.ntmps234
 go_wp2_with fail
 go_quiet ((go_at_call 236; exact Calls.quiet_of_same (offBits_q o _ h0 h1)))
 go_wp2
 go_ret
 exact ⟨ret_int (by omega), below_dN ((Below.refl _ _).alloc (Nat.le_refl _) _) _⟩
set_option maxHeartbeats 1000000 in
theorem bits_lis (o z c : Int) (w : World) (h0 : -536870912 ≤ o) (h1 : o ≤ 536870911) (hz0 : 0 ≤ z) (hz1 : z < 8) (hc0 : 0 ≤ c) (hc1 : c < 536870912) :
 Calls Tryz.prog 238 #[.agg #[.int .i64 o, .int .i64 z, .int .i64 c]] w fun e w' => e = .returned (.int .u64 (offN o + 1 + 4294967296 * (c * 8 + z))) ∧ Below w.heap.size w w' := by
 have hb := offN_bd o
 have e1 : IntKind.u64.wrap z = z := by rw [IntKind.wrap_u64]; omega
 have e2 : IntKind.u64.wrap c = c := by rw [IntKind.wrap_u64]; omega
 have e3 : IntKind.u64.wrap (z * 4294967296) = z * 4294967296 := by rw [IntKind.wrap_u64]; omega
 have e4 : IntKind.u64.wrap (c * 34359738368) = c * 34359738368 := by rw [IntKind.wrap_u64]; omega
 have q0 : bits .or .u64 1 (offN o) = 1 + offN o := or_u64 2 _ _ (by omega) (by omega) (by omega) (by omega) (by simp only [Int.reducePow]; omega) (by simp only [Int.reducePow]; unfold offN; omega)
 have q1 : bits .or .u64 (1 + offN o) (z * 4294967296) = 1 + offN o + z * 4294967296 := or_u64 32 _ _ (by omega) (by omega) (by omega) (by omega) (by simp only [Int.reducePow]; unfold offN; omega) (by simp only [Int.reducePow]; omega)
 have q2 : bits .or .u64 (1 + offN o + z * 4294967296) (c * 34359738368) = 1 + offN o + z * 4294967296 + c * 34359738368 := or_u64 35 _ _ (by omega) (by omega) (by omega) (by omega) (by simp only [Int.reducePow]; unfold offN; omega) (by simp only [Int.reducePow]; omega)
 go_enter Tryz.func238, Tryz.ntmps238
 go_wp2_with fail
 go_quiet ((go_at_call 236; exact Calls.quiet_of_same (offBits_q o _ h0 h1)))
 go_wp2
 go_ret
 exact ⟨ret_int (by omega), below_dN ((Below.refl _ _).alloc (Nat.le_refl _) _) _⟩
theorem or_four (a : Int) (h0 : 0 ≤ a) (h1 : a < 18446744073709551610) (hm : a % 8 = 0) : bits .or .u64 (a + 2) 4 = a + 6 := by
 obtain ⟨n, rfl⟩ := Int.eq_ofNat_of_zero_le h0
 have e1 : (n : Int) + 2 = ((n ||| 2 : Nat) : Int) := by rw [nat_join 3 n 2 (by omega) (by omega)]; omega
 have e2 : (n ||| 2) ||| 4 = n + 6 := by rw [Nat.or_assoc, show (2 ||| 4 : Nat) = 6 from rfl, nat_join 3 n 6 (by omega) (by omega)]
 rw [e1, show (4 : Int) = ((4 : Nat) : Int) from rfl, u64_or_nat _ 4 (by rw [nat_join 3 n 2 (by omega) (by omega)]; omega) (by omega), e2]
 omega
set_option maxHeartbeats 1000000 in
theorem bits_far0 (o g : Int) (w : World) (h0 : 0 ≤ o) (h1 : o ≤ 536870911) (hg0 : 0 ≤ g) (hg1 : g < 4294967296) :
 Calls Tryz.prog 240 #[.agg #[.int .i64 o, .int .i64 g, .bool false]] w fun e w' => e = .returned (.int .u64 (o * 8 + 2 + 4294967296 * g)) ∧ Below w.heap.size w w' := by
 have e1 : IntKind.u64.wrap o = o := by rw [IntKind.wrap_u64]; omega
 have e2 : IntKind.u64.wrap g = g := by rw [IntKind.wrap_u64]; omega
 have e3 : IntKind.u64.wrap (o * 8) = o * 8 := by rw [IntKind.wrap_u64]; omega
 have e4 : IntKind.u64.wrap (g * 4294967296) = g * 4294967296 := by rw [IntKind.wrap_u64]; omega
 have q0 : bits .or .u64 2 (o * 8) = 2 + o * 8 := or_u64 3 _ _ (by omega) (by omega) (by omega) (by omega) (by simp only [Int.reducePow]; omega) (by simp only [Int.reducePow]; omega)
 have q1 : bits .or .u64 (2 + o * 8) (g * 4294967296) = 2 + o * 8 + g * 4294967296 := or_u64 32 _ _ (by omega) (by omega) (by omega) (by omega) (by simp only [Int.reducePow]; omega) (by simp only [Int.reducePow]; omega)
 go_enter Tryz.func240, Tryz.ntmps240
 go_wp2
 go_ret
 exact ⟨ret_int (by omega), (Below.refl _ _).alloc (Nat.le_refl _) _⟩
set_option maxHeartbeats 1000000 in
theorem bits_far1 (o g : Int) (w : World) (h0 : 0 ≤ o) (h1 : o ≤ 536870911) (hg0 : 0 ≤ g) (hg1 : g < 4294967296) :
 Calls Tryz.prog 240 #[.agg #[.int .i64 o, .int .i64 g, .bool true]] w fun e w' => e = .returned (.int .u64 (o * 8 + 6 + 4294967296 * g)) ∧ Below w.heap.size w w' := by
 have e1 : IntKind.u64.wrap o = o := by rw [IntKind.wrap_u64]; omega
 have e2 : IntKind.u64.wrap g = g := by rw [IntKind.wrap_u64]; omega
 have e3 : IntKind.u64.wrap (o * 8) = o * 8 := by rw [IntKind.wrap_u64]; omega
 have e4 : IntKind.u64.wrap (g * 4294967296) = g * 4294967296 := by rw [IntKind.wrap_u64]; omega
 have q0 : bits .or .u64 2 (o * 8) = 2 + o * 8 := or_u64 3 _ _ (by omega) (by omega) (by omega) (by omega) (by simp only [Int.reducePow]; omega) (by simp only [Int.reducePow]; omega)
 have q1 : bits .or .u64 (2 + o * 8) (g * 4294967296) = 2 + o * 8 + g * 4294967296 := or_u64 32 _ _ (by omega) (by omega) (by omega) (by omega) (by simp only [Int.reducePow]; omega) (by simp only [Int.reducePow]; omega)
 have q2 : bits .or .u64 (2 + o * 8 + g * 4294967296) 4 = o * 8 + 6 + 4294967296 * g := by
  have := or_four (o * 8 + 4294967296 * g) (by omega) (by omega) (by omega)
  rw [show 2 + o * 8 + g * 4294967296 = o * 8 + 4294967296 * g + 2 by omega, this]; omega
 go_enter Tryz.func240, Tryz.ntmps240
 go_wp2
 go_ret
 exact ⟨rfl, (Below.refl _ _).alloc (Nat.le_refl _) _⟩
set_option maxHeartbeats 1000000 in
theorem bits_non (w : World) : Calls Tryz.prog 229 #[.agg #[]] w fun e w' => e = .returned (.int .u64 0) ∧ Below w.heap.size w w' := by
 go_enter Tryz.func229, Tryz.ntmps229
 go_wp2
 go_ret
 exact ⟨rfl, by repeat (first | exact Below.refl _ _ | refine Below.alloc ?_ (by simp; try omega) _)⟩
end Go.Proofs.YtlbfffokkhccaaaGreatDoor
namespace Go.Proofs.YtlbfffokkhccaaaGreatDoor
open Go.RowKit
theorem meth_noP (x : Value) (w : World) : (method 395 129 x "loop.example/quoin/impl.fits").run Tryz.prog w = .ok (230, x) w := by kernel_rfl
theorem meth_str (x : Value) (w : World) : (method 395 168 x "loop.example/quoin/impl.fits").run Tryz.prog w = .ok (235, x) w := by kernel_rfl
theorem meth_lis (x : Value) (w : World) : (method 395 170 x "loop.example/quoin/impl.fits").run Tryz.prog w = .ok (239, x) w := by kernel_rfl
theorem meth_far (x : Value) (w : World) : (method 395 172 x "loop.example/quoin/impl.fits").run Tryz.prog w = .ok (241, x) w := by kernel_rfl
theorem meth_bad (x : Value) (w : World) : (method 395 173 x "loop.example/quoin/impl.fits").run Tryz.prog w = .ok (243, x) w := by kernel_rfl
set_option maxHeartbeats 1000000 in
set_option maxRecDepth 100000 in
theorem implPointOk_noP (o d p s c g : Int) (t : Bool) (w : World) :
 Calls Tryz.prog 56 #[ptv 0 o d p s c g t] w fun e w' => e = .returned (.bool (eqP 0 0 0 0 0 0 0 false 0 o d p s c g t && fitsOf 0 o d p s c g t)) ∧ Below w.heap.size w w' := by
 have hp := pointerOf_any 0 o d p s c g t
 have HP := Lib.hid hp
 have hpf : ptif 0 o d p s c g t = .iface 129 (.agg #[]) := rfl
 have hfs : fitsOf 0 o d p s c g t = true := rfl
 have HF := Lib.hid hpf
 have hpo := pointOf_noP
 have HO := Lib.hid hpo
 have hg : ∀ (x y : Operand) (w : World), (eqGuard .eql 44 x y (ptv 0 0 0 0 0 0 0 false) (.agg #[.int .i64 0, .int .i64 o, .int .i64 d, .int .i64 p, .int .i64 s, .int .i64 c, .int .i64 g, .bool t])).run Tryz.prog w = .ok () w := fun x y w => guard_pt x y 0 0 0 0 0 0 0 false 0 o d p s c g t w
 have hme : ∀ w : World, (method 395 129 (.agg #[]) "loop.example/quoin/impl.fits").run Tryz.prog w = .ok (230, .agg #[]) w := meth_noP _
 rw [hfs]
 clear hp hpf hpo hfs
 cases hq : eqP 0 0 0 0 0 0 0 false 0 o d p s c g t
 · have he : ∀ w : World, (binOp .eql 44 (ptv 0 0 0 0 0 0 0 false) (.agg #[.int .i64 0, .int .i64 o, .int .i64 d, .int .i64 p, .int .i64 s, .int .i64 c, .int .i64 g, .bool t])).run Tryz.prog w = .ok (.bool false) w := fun w => by
    have h := eql_pt 0 0 0 0 0 0 0 false 0 o d p s c g t w
    rw [hq] at h
    exact h
   rw [Bool.false_and]
   have HQ := Lib.hid hq
   clear hq
   unfold ptv at HP ⊢
   go_enter Tryz.func56, Tryz.ntmps56
   go_wp2_with (go_at_call 58; refine (HP.out _).mono ?_; rintro e w1 ⟨rfl, hb1⟩)
   rw [HF.out]
   have hblk := (hb1.block w.heap.size (by simp)).trans (heap_alloc_new w _)
   obtain ⟨c0, c1, c2, c3, c4, c5, c6, c7⟩ := cells8 hblk
   have HB := Lib.hid (((Below.refl w.heap.size w).alloc (Nat.le_refl _) _).trans (hb1.mono (by simp)))
   have HK := Lib.hid hblk
   clear hblk hb1
   first | go_region_law (first | (go_simp; go_at_call 60; refine (HO.out _).mono ?_; rintro e w2 ⟨rfl, hb2⟩; have hk2 := kept8 (w := w1.drew) HK.out hb2; obtain ⟨f0, f1, f2, f3, f4, f5, f6, f7⟩ := cells8 hk2; clear hk2) | (go_simp; go_at_call 230; refine (fits_non _).mono ?_; rintro e w3 ⟨rfl, hb3⟩)) | fail
   all_goals
    have HB2 : Hid (Below w.heap.size w w2) := HB.out.drew.trans (hb2.mono (by have := HB.out.size; simp; omega))
    clear hb2
    go_wp2
    go_ret
    exact ⟨rfl, HB2.out⟩
 · have he : ∀ w : World, (binOp .eql 44 (ptv 0 0 0 0 0 0 0 false) (.agg #[.int .i64 0, .int .i64 o, .int .i64 d, .int .i64 p, .int .i64 s, .int .i64 c, .int .i64 g, .bool t])).run Tryz.prog w = .ok (.bool true) w := fun w => by
    have h := eql_pt 0 0 0 0 0 0 0 false 0 o d p s c g t w
    rw [hq] at h
    exact h
   rw [Bool.true_and]
   have HQ := Lib.hid hq
   clear hq
   unfold ptv at HP ⊢
   go_enter Tryz.func56, Tryz.ntmps56
   go_wp2_with (go_at_call 58; refine (HP.out _).mono ?_; rintro e w1 ⟨rfl, hb1⟩)
   rw [HF.out]
   have hblk := (hb1.block w.heap.size (by simp)).trans (heap_alloc_new w _)
   obtain ⟨c0, c1, c2, c3, c4, c5, c6, c7⟩ := cells8 hblk
   have HB := Lib.hid (((Below.refl w.heap.size w).alloc (Nat.le_refl _) _).trans (hb1.mono (by simp)))
   have HK := Lib.hid hblk
   clear hblk hb1
   first | go_region_law (first | (go_simp; go_at_call 60; refine (HO.out _).mono ?_; rintro e w2 ⟨rfl, hb2⟩; have hk2 := kept8 (w := w1.drew) HK.out hb2; obtain ⟨f0, f1, f2, f3, f4, f5, f6, f7⟩ := cells8 hk2; clear hk2) | (go_simp; go_at_call 230; refine (fits_non _).mono ?_; rintro e w3 ⟨rfl, hb3⟩)) | fail
   all_goals
    have HB2 : Hid (Below w.heap.size w w2) := HB.out.drew.trans (hb2.mono (by have := HB.out.size; simp; omega))
    have HB3 : Hid (Below w.heap.size w w3) := HB2.out.trans (hb3.mono (by have := HB2.out.size; simp; omega))
    clear hb2 hb3
    go_wp2
    go_ret
    exact ⟨rfl, HB3.out⟩
set_option maxHeartbeats 1000000 in
set_option maxRecDepth 100000 in
theorem implPointOk_str (o d p s c g : Int) (t : Bool) (w : World) :
 Calls Tryz.prog 56 #[ptv 1 o d p s c g t] w fun e w' => e = .returned (.bool (eqP 1 o d p 0 0 0 false 1 o d p s c g t && fitsOf 1 o d p s c g t)) ∧ Below w.heap.size w w' := by
 have hp := pointerOf_any 1 o d p s c g t
 have HP := Lib.hid hp
 have hpf : ptif 1 o d p s c g t = .iface 168 (.agg #[.int .i64 o, .int .i64 d, .int .i64 p]) := rfl
 have hfs : fitsOf 1 o d p s c g t = (inB o (-536870912) 536870911 && (withB d 65536 && (withB p 65536 && !(zer3 o d p)))) := rfl
 have HF := Lib.hid hpf
 have hpo := pointOf_str
 have HO := Lib.hid hpo
 have hg : ∀ (x y : Operand) (w : World), (eqGuard .eql 44 x y (ptv 1 o d p 0 0 0 false) (.agg #[.int .i64 1, .int .i64 o, .int .i64 d, .int .i64 p, .int .i64 s, .int .i64 c, .int .i64 g, .bool t])).run Tryz.prog w = .ok () w := fun x y w => guard_pt x y 1 o d p 0 0 0 false 1 o d p s c g t w
 have hme : ∀ w : World, (method 395 168 (.agg #[.int .i64 o, .int .i64 d, .int .i64 p]) "loop.example/quoin/impl.fits").run Tryz.prog w = .ok (235, .agg #[.int .i64 o, .int .i64 d, .int .i64 p]) w := meth_str _
 rw [hfs]
 clear hp hpf hpo hfs
 cases hq : eqP 1 o d p 0 0 0 false 1 o d p s c g t
 · have he : ∀ w : World, (binOp .eql 44 (ptv 1 o d p 0 0 0 false) (.agg #[.int .i64 1, .int .i64 o, .int .i64 d, .int .i64 p, .int .i64 s, .int .i64 c, .int .i64 g, .bool t])).run Tryz.prog w = .ok (.bool false) w := fun w => by
    have h := eql_pt 1 o d p 0 0 0 false 1 o d p s c g t w
    rw [hq] at h
    exact h
   rw [Bool.false_and]
   have HQ := Lib.hid hq
   clear hq
   unfold ptv at HP ⊢
   go_enter Tryz.func56, Tryz.ntmps56
   go_wp2_with (go_at_call 58; refine (HP.out _).mono ?_; rintro e w1 ⟨rfl, hb1⟩)
   rw [HF.out]
   have hblk := (hb1.block w.heap.size (by simp)).trans (heap_alloc_new w _)
   obtain ⟨c0, c1, c2, c3, c4, c5, c6, c7⟩ := cells8 hblk
   have HB := Lib.hid (((Below.refl w.heap.size w).alloc (Nat.le_refl _) _).trans (hb1.mono (by simp)))
   have HK := Lib.hid hblk
   clear hblk hb1
   first | go_region_law (first | (go_simp; go_at_call 60; refine (HO.out _ _ _ _).mono ?_; rintro e w2 ⟨rfl, hb2⟩; have hk2 := kept8 (w := w1.drew) HK.out hb2; obtain ⟨f0, f1, f2, f3, f4, f5, f6, f7⟩ := cells8 hk2; clear hk2) | (go_simp; go_at_call 235; refine (fits_str _ _ _ _).mono ?_; rintro e w3 ⟨rfl, hb3⟩)) | fail
   all_goals
    have HB2 : Hid (Below w.heap.size w w2) := HB.out.drew.trans (hb2.mono (by have := HB.out.size; simp; omega))
    clear hb2
    go_wp2
    go_ret
    exact ⟨rfl, HB2.out⟩
 · have he : ∀ w : World, (binOp .eql 44 (ptv 1 o d p 0 0 0 false) (.agg #[.int .i64 1, .int .i64 o, .int .i64 d, .int .i64 p, .int .i64 s, .int .i64 c, .int .i64 g, .bool t])).run Tryz.prog w = .ok (.bool true) w := fun w => by
    have h := eql_pt 1 o d p 0 0 0 false 1 o d p s c g t w
    rw [hq] at h
    exact h
   rw [Bool.true_and]
   have HQ := Lib.hid hq
   clear hq
   unfold ptv at HP ⊢
   go_enter Tryz.func56, Tryz.ntmps56
   go_wp2_with (go_at_call 58; refine (HP.out _).mono ?_; rintro e w1 ⟨rfl, hb1⟩)
   rw [HF.out]
   have hblk := (hb1.block w.heap.size (by simp)).trans (heap_alloc_new w _)
   obtain ⟨c0, c1, c2, c3, c4, c5, c6, c7⟩ := cells8 hblk
   have HB := Lib.hid (((Below.refl w.heap.size w).alloc (Nat.le_refl _) _).trans (hb1.mono (by simp)))
   have HK := Lib.hid hblk
   clear hblk hb1
   first | go_region_law (first | (go_simp; go_at_call 60; refine (HO.out _ _ _ _).mono ?_; rintro e w2 ⟨rfl, hb2⟩; have hk2 := kept8 (w := w1.drew) HK.out hb2; obtain ⟨f0, f1, f2, f3, f4, f5, f6, f7⟩ := cells8 hk2; clear hk2) | (go_simp; go_at_call 235; refine (fits_str _ _ _ _).mono ?_; rintro e w3 ⟨rfl, hb3⟩)) | fail
   all_goals
    have HB2 : Hid (Below w.heap.size w w2) := HB.out.drew.trans (hb2.mono (by have := HB.out.size; simp; omega))
    have HB3 : Hid (Below w.heap.size w w3) := HB2.out.trans (hb3.mono (by have := HB2.out.size; simp; omega))
    clear hb2 hb3
    go_wp2
    go_ret
    exact ⟨rfl, HB3.out⟩
set_option maxHeartbeats 1000000 in
set_option maxRecDepth 100000 in
theorem implPointOk_lis (o d p s c g : Int) (t : Bool) (w : World) :
 Calls Tryz.prog 56 #[ptv 2 o d p s c g t] w fun e w' => e = .returned (.bool (eqP 2 o 0 0 s c 0 false 2 o d p s c g t && fitsOf 2 o d p s c g t)) ∧ Below w.heap.size w w' := by
 have hp := pointerOf_any 2 o d p s c g t
 have HP := Lib.hid hp
 have hpf : ptif 2 o d p s c g t = .iface 170 (.agg #[.int .i64 o, .int .i64 s, .int .i64 c]) := rfl
 have hfs : fitsOf 2 o d p s c g t = (inB o (-536870912) 536870911 && (withB s 8 && withB c 536870912)) := rfl
 have HF := Lib.hid hpf
 have hpo := pointOf_lis
 have HO := Lib.hid hpo
 have hg : ∀ (x y : Operand) (w : World), (eqGuard .eql 44 x y (ptv 2 o 0 0 s c 0 false) (.agg #[.int .i64 2, .int .i64 o, .int .i64 d, .int .i64 p, .int .i64 s, .int .i64 c, .int .i64 g, .bool t])).run Tryz.prog w = .ok () w := fun x y w => guard_pt x y 2 o 0 0 s c 0 false 2 o d p s c g t w
 have hme : ∀ w : World, (method 395 170 (.agg #[.int .i64 o, .int .i64 s, .int .i64 c]) "loop.example/quoin/impl.fits").run Tryz.prog w = .ok (239, .agg #[.int .i64 o, .int .i64 s, .int .i64 c]) w := meth_lis _
 rw [hfs]
 clear hp hpf hpo hfs
 cases hq : eqP 2 o 0 0 s c 0 false 2 o d p s c g t
 · have he : ∀ w : World, (binOp .eql 44 (ptv 2 o 0 0 s c 0 false) (.agg #[.int .i64 2, .int .i64 o, .int .i64 d, .int .i64 p, .int .i64 s, .int .i64 c, .int .i64 g, .bool t])).run Tryz.prog w = .ok (.bool false) w := fun w => by
    have h := eql_pt 2 o 0 0 s c 0 false 2 o d p s c g t w
    rw [hq] at h
    exact h
   rw [Bool.false_and]
   have HQ := Lib.hid hq
   clear hq
   unfold ptv at HP ⊢
   go_enter Tryz.func56, Tryz.ntmps56
   go_wp2_with (go_at_call 58; refine (HP.out _).mono ?_; rintro e w1 ⟨rfl, hb1⟩)
   rw [HF.out]
   have hblk := (hb1.block w.heap.size (by simp)).trans (heap_alloc_new w _)
   obtain ⟨c0, c1, c2, c3, c4, c5, c6, c7⟩ := cells8 hblk
   have HB := Lib.hid (((Below.refl w.heap.size w).alloc (Nat.le_refl _) _).trans (hb1.mono (by simp)))
   have HK := Lib.hid hblk
   clear hblk hb1
   first | go_region_law (first | (go_simp; go_at_call 60; refine (HO.out _ _ _ _).mono ?_; rintro e w2 ⟨rfl, hb2⟩; have hk2 := kept8 (w := w1.drew) HK.out hb2; obtain ⟨f0, f1, f2, f3, f4, f5, f6, f7⟩ := cells8 hk2; clear hk2) | (go_simp; go_at_call 239; refine (fits_lis _ _ _ _).mono ?_; rintro e w3 ⟨rfl, hb3⟩)) | fail
   all_goals
    have HB2 : Hid (Below w.heap.size w w2) := HB.out.drew.trans (hb2.mono (by have := HB.out.size; simp; omega))
    clear hb2
    go_wp2
    go_ret
    exact ⟨rfl, HB2.out⟩
 · have he : ∀ w : World, (binOp .eql 44 (ptv 2 o 0 0 s c 0 false) (.agg #[.int .i64 2, .int .i64 o, .int .i64 d, .int .i64 p, .int .i64 s, .int .i64 c, .int .i64 g, .bool t])).run Tryz.prog w = .ok (.bool true) w := fun w => by
    have h := eql_pt 2 o 0 0 s c 0 false 2 o d p s c g t w
    rw [hq] at h
    exact h
   rw [Bool.true_and]
   have HQ := Lib.hid hq
   clear hq
   unfold ptv at HP ⊢
   go_enter Tryz.func56, Tryz.ntmps56
   go_wp2_with (go_at_call 58; refine (HP.out _).mono ?_; rintro e w1 ⟨rfl, hb1⟩)
   rw [HF.out]
   have hblk := (hb1.block w.heap.size (by simp)).trans (heap_alloc_new w _)
   obtain ⟨c0, c1, c2, c3, c4, c5, c6, c7⟩ := cells8 hblk
   have HB := Lib.hid (((Below.refl w.heap.size w).alloc (Nat.le_refl _) _).trans (hb1.mono (by simp)))
   have HK := Lib.hid hblk
   clear hblk hb1
   first | go_region_law (first | (go_simp; go_at_call 60; refine (HO.out _ _ _ _).mono ?_; rintro e w2 ⟨rfl, hb2⟩; have hk2 := kept8 (w := w1.drew) HK.out hb2; obtain ⟨f0, f1, f2, f3, f4, f5, f6, f7⟩ := cells8 hk2; clear hk2) | (go_simp; go_at_call 239; refine (fits_lis _ _ _ _).mono ?_; rintro e w3 ⟨rfl, hb3⟩)) | fail
   all_goals
    have HB2 : Hid (Below w.heap.size w w2) := HB.out.drew.trans (hb2.mono (by have := HB.out.size; simp; omega))
    have HB3 : Hid (Below w.heap.size w w3) := HB2.out.trans (hb3.mono (by have := HB2.out.size; simp; omega))
    clear hb2 hb3
    go_wp2
    go_ret
    exact ⟨rfl, HB3.out⟩
set_option maxHeartbeats 1000000 in
set_option maxRecDepth 100000 in
theorem implPointOk_far (o d p s c g : Int) (t : Bool) (w : World) :
 Calls Tryz.prog 56 #[ptv 3 o d p s c g t] w fun e w' => e = .returned (.bool (eqP 3 o 0 0 0 0 g t 3 o d p s c g t && fitsOf 3 o d p s c g t)) ∧ Below w.heap.size w w' := by
 have hp := pointerOf_any 3 o d p s c g t
 have HP := Lib.hid hp
 have hpf : ptif 3 o d p s c g t = .iface 172 (.agg #[.int .i64 o, .int .i64 g, .bool t]) := rfl
 have hfs : fitsOf 3 o d p s c g t = (withB o 536870912 && withB g 4294967296) := rfl
 have HF := Lib.hid hpf
 have hpo := pointOf_far
 have HO := Lib.hid hpo
 have hg : ∀ (x y : Operand) (w : World), (eqGuard .eql 44 x y (ptv 3 o 0 0 0 0 g t) (.agg #[.int .i64 3, .int .i64 o, .int .i64 d, .int .i64 p, .int .i64 s, .int .i64 c, .int .i64 g, .bool t])).run Tryz.prog w = .ok () w := fun x y w => guard_pt x y 3 o 0 0 0 0 g t 3 o d p s c g t w
 have hme : ∀ w : World, (method 395 172 (.agg #[.int .i64 o, .int .i64 g, .bool t]) "loop.example/quoin/impl.fits").run Tryz.prog w = .ok (241, .agg #[.int .i64 o, .int .i64 g, .bool t]) w := meth_far _
 rw [hfs]
 clear hp hpf hpo hfs
 cases hq : eqP 3 o 0 0 0 0 g t 3 o d p s c g t
 · have he : ∀ w : World, (binOp .eql 44 (ptv 3 o 0 0 0 0 g t) (.agg #[.int .i64 3, .int .i64 o, .int .i64 d, .int .i64 p, .int .i64 s, .int .i64 c, .int .i64 g, .bool t])).run Tryz.prog w = .ok (.bool false) w := fun w => by
    have h := eql_pt 3 o 0 0 0 0 g t 3 o d p s c g t w
    rw [hq] at h
    exact h
   rw [Bool.false_and]
   have HQ := Lib.hid hq
   clear hq
   unfold ptv at HP ⊢
   go_enter Tryz.func56, Tryz.ntmps56
   go_wp2_with (go_at_call 58; refine (HP.out _).mono ?_; rintro e w1 ⟨rfl, hb1⟩)
   rw [HF.out]
   have hblk := (hb1.block w.heap.size (by simp)).trans (heap_alloc_new w _)
   obtain ⟨c0, c1, c2, c3, c4, c5, c6, c7⟩ := cells8 hblk
   have HB := Lib.hid (((Below.refl w.heap.size w).alloc (Nat.le_refl _) _).trans (hb1.mono (by simp)))
   have HK := Lib.hid hblk
   clear hblk hb1
   first | go_region_law (first | (go_simp; go_at_call 60; refine (HO.out _ _ _ _).mono ?_; rintro e w2 ⟨rfl, hb2⟩; have hk2 := kept8 (w := w1.drew) HK.out hb2; obtain ⟨f0, f1, f2, f3, f4, f5, f6, f7⟩ := cells8 hk2; clear hk2) | (go_simp; go_at_call 241; refine (fits_far _ _ _ _).mono ?_; rintro e w3 ⟨rfl, hb3⟩)) | fail
   all_goals
    have HB2 : Hid (Below w.heap.size w w2) := HB.out.drew.trans (hb2.mono (by have := HB.out.size; simp; omega))
    clear hb2
    go_wp2
    go_ret
    exact ⟨rfl, HB2.out⟩
 · have he : ∀ w : World, (binOp .eql 44 (ptv 3 o 0 0 0 0 g t) (.agg #[.int .i64 3, .int .i64 o, .int .i64 d, .int .i64 p, .int .i64 s, .int .i64 c, .int .i64 g, .bool t])).run Tryz.prog w = .ok (.bool true) w := fun w => by
    have h := eql_pt 3 o 0 0 0 0 g t 3 o d p s c g t w
    rw [hq] at h
    exact h
   rw [Bool.true_and]
   have HQ := Lib.hid hq
   clear hq
   unfold ptv at HP ⊢
   go_enter Tryz.func56, Tryz.ntmps56
   go_wp2_with (go_at_call 58; refine (HP.out _).mono ?_; rintro e w1 ⟨rfl, hb1⟩)
   rw [HF.out]
   have hblk := (hb1.block w.heap.size (by simp)).trans (heap_alloc_new w _)
   obtain ⟨c0, c1, c2, c3, c4, c5, c6, c7⟩ := cells8 hblk
   have HB := Lib.hid (((Below.refl w.heap.size w).alloc (Nat.le_refl _) _).trans (hb1.mono (by simp)))
   have HK := Lib.hid hblk
   clear hblk hb1
   first | go_region_law (first | (go_simp; go_at_call 60; refine (HO.out _ _ _ _).mono ?_; rintro e w2 ⟨rfl, hb2⟩; have hk2 := kept8 (w := w1.drew) HK.out hb2; obtain ⟨f0, f1, f2, f3, f4, f5, f6, f7⟩ := cells8 hk2; clear hk2) | (go_simp; go_at_call 241; refine (fits_far _ _ _ _).mono ?_; rintro e w3 ⟨rfl, hb3⟩)) | fail
   all_goals
    have HB2 : Hid (Below w.heap.size w w2) := HB.out.drew.trans (hb2.mono (by have := HB.out.size; simp; omega))
    have HB3 : Hid (Below w.heap.size w w3) := HB2.out.trans (hb3.mono (by have := HB2.out.size; simp; omega))
    clear hb2 hb3
    go_wp2
    go_ret
    exact ⟨rfl, HB3.out⟩
set_option maxHeartbeats 1000000 in
set_option maxRecDepth 100000 in
theorem implPointOk_bad (k : Int) (o d p s c g : Int) (t : Bool) (hk : k ≠ 0 ∧ k ≠ 1 ∧ k ≠ 2 ∧ k ≠ 3) (w : World) :
 Calls Tryz.prog 56 #[ptv k o d p s c g t] w fun e w' => e = .returned (.bool (eqP 4 0 0 0 0 0 0 false k o d p s c g t && fitsOf k o d p s c g t)) ∧ Below w.heap.size w w' := by
 have hp := pointerOf_any k o d p s c g t
 have HP := Lib.hid hp
 have hpf : ptif k o d p s c g t = .iface 173 (.agg #[]) := by simp [ptif, hk]
 have hfs : fitsOf k o d p s c g t = false := by simp [fitsOf, hk]
 have HF := Lib.hid hpf
 have hpo := pointOf_bad
 have HO := Lib.hid hpo
 have hg : ∀ (x y : Operand) (w : World), (eqGuard .eql 44 x y (ptv 4 0 0 0 0 0 0 false) (.agg #[.int .i64 k, .int .i64 o, .int .i64 d, .int .i64 p, .int .i64 s, .int .i64 c, .int .i64 g, .bool t])).run Tryz.prog w = .ok () w := fun x y w => guard_pt x y 4 0 0 0 0 0 0 false k o d p s c g t w
 have hme : ∀ w : World, (method 395 173 (.agg #[]) "loop.example/quoin/impl.fits").run Tryz.prog w = .ok (243, .agg #[]) w := meth_bad _
 rw [hfs]
 clear hp hpf hpo hfs hk
 cases hq : eqP 4 0 0 0 0 0 0 false k o d p s c g t
 · have he : ∀ w : World, (binOp .eql 44 (ptv 4 0 0 0 0 0 0 false) (.agg #[.int .i64 k, .int .i64 o, .int .i64 d, .int .i64 p, .int .i64 s, .int .i64 c, .int .i64 g, .bool t])).run Tryz.prog w = .ok (.bool false) w := fun w => by
    have h := eql_pt 4 0 0 0 0 0 0 false k o d p s c g t w
    rw [hq] at h
    exact h
   rw [Bool.false_and]
   have HQ := Lib.hid hq
   clear hq
   unfold ptv at HP ⊢
   go_enter Tryz.func56, Tryz.ntmps56
   go_wp2_with (go_at_call 58; refine (HP.out _).mono ?_; rintro e w1 ⟨rfl, hb1⟩)
   rw [HF.out]
   have hblk := (hb1.block w.heap.size (by simp)).trans (heap_alloc_new w _)
   obtain ⟨c0, c1, c2, c3, c4, c5, c6, c7⟩ := cells8 hblk
   have HB := Lib.hid (((Below.refl w.heap.size w).alloc (Nat.le_refl _) _).trans (hb1.mono (by simp)))
   have HK := Lib.hid hblk
   clear hblk hb1
   first | go_region_law (first | (go_simp; go_at_call 60; refine (HO.out _).mono ?_; rintro e w2 ⟨rfl, hb2⟩; have hk2 := kept8 (w := w1.drew) HK.out hb2; obtain ⟨f0, f1, f2, f3, f4, f5, f6, f7⟩ := cells8 hk2; clear hk2) | (go_simp; go_at_call 243; refine (fits_bad _).mono ?_; rintro e w3 ⟨rfl, hb3⟩)) | fail
   all_goals
    have HB2 : Hid (Below w.heap.size w w2) := HB.out.drew.trans (hb2.mono (by have := HB.out.size; simp; omega))
    clear hb2
    go_wp2
    go_ret
    exact ⟨rfl, HB2.out⟩
 · have he : ∀ w : World, (binOp .eql 44 (ptv 4 0 0 0 0 0 0 false) (.agg #[.int .i64 k, .int .i64 o, .int .i64 d, .int .i64 p, .int .i64 s, .int .i64 c, .int .i64 g, .bool t])).run Tryz.prog w = .ok (.bool true) w := fun w => by
    have h := eql_pt 4 0 0 0 0 0 0 false k o d p s c g t w
    rw [hq] at h
    exact h
   rw [Bool.true_and]
   have HQ := Lib.hid hq
   clear hq
   unfold ptv at HP ⊢
   go_enter Tryz.func56, Tryz.ntmps56
   go_wp2_with (go_at_call 58; refine (HP.out _).mono ?_; rintro e w1 ⟨rfl, hb1⟩)
   rw [HF.out]
   have hblk := (hb1.block w.heap.size (by simp)).trans (heap_alloc_new w _)
   obtain ⟨c0, c1, c2, c3, c4, c5, c6, c7⟩ := cells8 hblk
   have HB := Lib.hid (((Below.refl w.heap.size w).alloc (Nat.le_refl _) _).trans (hb1.mono (by simp)))
   have HK := Lib.hid hblk
   clear hblk hb1
   first | go_region_law (first | (go_simp; go_at_call 60; refine (HO.out _).mono ?_; rintro e w2 ⟨rfl, hb2⟩; have hk2 := kept8 (w := w1.drew) HK.out hb2; obtain ⟨f0, f1, f2, f3, f4, f5, f6, f7⟩ := cells8 hk2; clear hk2) | (go_simp; go_at_call 243; refine (fits_bad _).mono ?_; rintro e w3 ⟨rfl, hb3⟩)) | fail
   all_goals
    have HB2 : Hid (Below w.heap.size w w2) := HB.out.drew.trans (hb2.mono (by have := HB.out.size; simp; omega))
    have HB3 : Hid (Below w.heap.size w w3) := HB2.out.trans (hb3.mono (by have := HB2.out.size; simp; omega))
    clear hb2 hb3
    go_wp2
    go_ret
    exact ⟨rfl, HB3.out⟩
end Go.Proofs.YtlbfffokkhccaaaGreatDoor
namespace Go.Proofs.YtlbfffokkhccaaaGreatDoor
open Go.RowKit
end Go.Proofs.YtlbfffokkhccaaaGreatDoor
namespace Go.Proofs.YtlbfffokkhccaaaGreatDoor
open Go.RowKit
end Go.Proofs.YtlbfffokkhccaaaGreatDoor
namespace Go.Proofs.YtlbfffokkhccaaaGreatDoor
open Go.RowKit
end Go.Proofs.YtlbfffokkhccaaaGreatDoor
namespace Go.Proofs.YtlbfffokkhccaaaGreatDoor
open Go.RowKit
end Go.Proofs.YtlbfffokkhccaaaGreatDoor
namespace Go.Proofs.YtlbfffokkhccaaaGreatDoor
open Go.RowKit
end Go.Proofs.YtlbfffokkhccaaaGreatDoor
namespace Go.Proofs.YtlbfffokkhccaaaGreatDoor
open Go.RowKit
theorem kinds5 (k : Int) : k = 0 ∨ k = 1 ∨ k = 2 ∨ k = 3 ∨ (k ≠ 0 ∧ k ≠ 1 ∧ k ≠ 2 ∧ k ≠ 3) := by omega
theorem implPointOk_any (k o d p s c g : Int) (t : Bool) (w : World) :
 Calls Tryz.prog 56 #[ptv k o d p s c g t] w fun e w' => e = .returned (.bool (ptOk k o d p s c g t)) ∧ Below w.heap.size w w' := by
 rcases kinds5 k with rfl | rfl | rfl | rfl | hk
 · refine (implPointOk_noP o d p s c g t w).mono fun e w' ⟨h1, h2⟩ => ⟨h1.trans (ret_bool ?_), h2⟩
   cases t <;> (rw [Bool.eq_iff_iff]; simp [ptOk, eqP, fitsOf, restOf]; try omega)
 · refine (implPointOk_str o d p s c g t w).mono fun e w' ⟨h1, h2⟩ => ⟨h1.trans (ret_bool ?_), h2⟩
   cases t <;> (rw [Bool.eq_iff_iff]; simp [ptOk, eqP, fitsOf, restOf]; try omega)
 · refine (implPointOk_lis o d p s c g t w).mono fun e w' ⟨h1, h2⟩ => ⟨h1.trans (ret_bool ?_), h2⟩
   cases t <;> (rw [Bool.eq_iff_iff]; simp [ptOk, eqP, fitsOf, restOf]; try omega)
 · refine (implPointOk_far o d p s c g t w).mono fun e w' ⟨h1, h2⟩ => ⟨h1.trans (ret_bool ?_), h2⟩
   cases t <;> (rw [Bool.eq_iff_iff]; simp [ptOk, eqP, fitsOf, restOf]; try omega)
 · refine (implPointOk_bad k o d p s c g t hk w).mono fun e w' ⟨h1, h2⟩ => ⟨h1.trans (ret_bool ?_), h2⟩
   cases t <;> (rw [Bool.eq_iff_iff]; simp [ptOk, eqP, fitsOf, restOf, hk])
end Go.Proofs.YtlbfffokkhccaaaGreatDoor