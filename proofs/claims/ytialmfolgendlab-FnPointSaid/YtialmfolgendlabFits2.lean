/- impl.PointOk, kind by kind. -/
import Derived.Test.YtialmfolgendlabFits
import Derived.Deep.RegionLaw
import Derived.Deep.RegionWith
import Derived.Deep.DeepMust
namespace Go.Proofs.Ytialmfolgendlab
open Go.RowKit

theorem meth_noP (x : Value) (w : World) : (method 216 86 x "loop.example/quoin/impl.fits").run Try.prog w = .ok (90, x) w := by kernel_rfl
theorem meth_str (x : Value) (w : World) : (method 216 88 x "loop.example/quoin/impl.fits").run Try.prog w = .ok (92, x) w := by kernel_rfl
theorem meth_lis (x : Value) (w : World) : (method 216 90 x "loop.example/quoin/impl.fits").run Try.prog w = .ok (96, x) w := by kernel_rfl
theorem meth_far (x : Value) (w : World) : (method 216 92 x "loop.example/quoin/impl.fits").run Try.prog w = .ok (98, x) w := by kernel_rfl
theorem meth_bad (x : Value) (w : World) : (method 216 93 x "loop.example/quoin/impl.fits").run Try.prog w = .ok (100, x) w := by kernel_rfl
set_option maxHeartbeats 1000000 in
set_option maxRecDepth 100000 in
theorem implPointOk_noP (o d p s c g : Int) (t : Bool) (w : World) :
    Calls Try.prog 15 #[ptv 0 o d p s c g t] w fun e w' => e = .returned (.bool (eqP 0 0 0 0 0 0 0 false 0 o d p s c g t && fitsOf 0 o d p s c g t)) ∧ Below w.heap.size w w' := by
  have hp := pointerOf_any 0 o d p s c g t
  have HP := Lib.hid hp
  have hpf : ptif 0 o d p s c g t = .iface 86 (.agg #[]) := rfl
  have hfs : fitsOf 0 o d p s c g t = true := rfl
  have HF := Lib.hid hpf
  have hpo := pointOf_noP
  have HO := Lib.hid hpo
  have hg : ∀ (x y : Operand) (w : World), (eqGuard .eql 24 x y (ptv 0 0 0 0 0 0 0 false) (.agg #[.int .i64 0, .int .i64 o, .int .i64 d, .int .i64 p, .int .i64 s, .int .i64 c, .int .i64 g, .bool t])).run Try.prog w = .ok () w := fun x y w => guard_pt x y 0 0 0 0 0 0 0 false 0 o d p s c g t w
  have hme : ∀ w : World, (method 216 86 (.agg #[]) "loop.example/quoin/impl.fits").run Try.prog w = .ok (90, .agg #[]) w := meth_noP _
  rw [hfs]
  clear hp hpf hpo hfs
  cases hq : eqP 0 0 0 0 0 0 0 false 0 o d p s c g t
  · have he : ∀ w : World, (binOp .eql 24 (ptv 0 0 0 0 0 0 0 false) (.agg #[.int .i64 0, .int .i64 o, .int .i64 d, .int .i64 p, .int .i64 s, .int .i64 c, .int .i64 g, .bool t])).run Try.prog w = .ok (.bool false) w := fun w => by
      have h := eql_pt 0 0 0 0 0 0 0 false 0 o d p s c g t w
      rw [hq] at h
      exact h
    rw [Bool.false_and]
    have HQ := Lib.hid hq
    clear hq
    unfold ptv at HP ⊢
    go_enter Try.func15, Try.ntmps15
    go_wp2_with (go_at_call 37; refine (HP.out _).mono ?_; rintro e w1 ⟨rfl, hb1⟩)
    rw [HF.out]
    have hblk := (hb1.block w.heap.size (by simp)).trans (heap_alloc_new w _)
    obtain ⟨c0, c1, c2, c3, c4, c5, c6, c7⟩ := cells8 hblk
    have HB := Lib.hid (((Below.refl w.heap.size w).alloc (Nat.le_refl _) _).trans (hb1.mono (by simp)))
    have HK := Lib.hid hblk
    clear hblk hb1
    first | go_region_law (first | (go_simp; go_at_call 40; refine (HO.out _).mono ?_; rintro e w2 ⟨rfl, hb2⟩; have hk2 := kept8 (w := w1.drew) HK.out hb2; obtain ⟨f0, f1, f2, f3, f4, f5, f6, f7⟩ := cells8 hk2; clear hk2) | (go_simp; go_at_call 90; refine (fits_non _).mono ?_; rintro e w3 ⟨rfl, hb3⟩)) | fail
    all_goals
      have HB2 : Hid (Below w.heap.size w w2) := HB.out.drew.trans (hb2.mono (by have := HB.out.size; simp; omega))
      clear hb2
      go_wp2
      go_ret
      exact ⟨rfl, HB2.out⟩
  · have he : ∀ w : World, (binOp .eql 24 (ptv 0 0 0 0 0 0 0 false) (.agg #[.int .i64 0, .int .i64 o, .int .i64 d, .int .i64 p, .int .i64 s, .int .i64 c, .int .i64 g, .bool t])).run Try.prog w = .ok (.bool true) w := fun w => by
      have h := eql_pt 0 0 0 0 0 0 0 false 0 o d p s c g t w
      rw [hq] at h
      exact h
    rw [Bool.true_and]
    have HQ := Lib.hid hq
    clear hq
    unfold ptv at HP ⊢
    go_enter Try.func15, Try.ntmps15
    go_wp2_with (go_at_call 37; refine (HP.out _).mono ?_; rintro e w1 ⟨rfl, hb1⟩)
    rw [HF.out]
    have hblk := (hb1.block w.heap.size (by simp)).trans (heap_alloc_new w _)
    obtain ⟨c0, c1, c2, c3, c4, c5, c6, c7⟩ := cells8 hblk
    have HB := Lib.hid (((Below.refl w.heap.size w).alloc (Nat.le_refl _) _).trans (hb1.mono (by simp)))
    have HK := Lib.hid hblk
    clear hblk hb1
    first | go_region_law (first | (go_simp; go_at_call 40; refine (HO.out _).mono ?_; rintro e w2 ⟨rfl, hb2⟩; have hk2 := kept8 (w := w1.drew) HK.out hb2; obtain ⟨f0, f1, f2, f3, f4, f5, f6, f7⟩ := cells8 hk2; clear hk2) | (go_simp; go_at_call 90; refine (fits_non _).mono ?_; rintro e w3 ⟨rfl, hb3⟩)) | fail
    all_goals
      have HB2 : Hid (Below w.heap.size w w2) := HB.out.drew.trans (hb2.mono (by have := HB.out.size; simp; omega))
      have HB3 : Hid (Below w.heap.size w w3) := HB2.out.trans (hb3.mono (by have := HB2.out.size; simp; omega))
      clear hb2 hb3
      go_wp2
      go_ret
      exact ⟨rfl, HB3.out⟩
set_option maxHeartbeats 1000000 in
set_option maxRecDepth 100000 in
theorem implPointOk_str (o d p s c g : Int) (t : Bool) (w : World) :
    Calls Try.prog 15 #[ptv 1 o d p s c g t] w fun e w' => e = .returned (.bool (eqP 1 o d p 0 0 0 false 1 o d p s c g t && fitsOf 1 o d p s c g t)) ∧ Below w.heap.size w w' := by
  have hp := pointerOf_any 1 o d p s c g t
  have HP := Lib.hid hp
  have hpf : ptif 1 o d p s c g t = .iface 88 (.agg #[.int .i64 o, .int .i64 d, .int .i64 p]) := rfl
  have hfs : fitsOf 1 o d p s c g t = (inB o (-536870912) 536870911 && (withB d 65536 && (withB p 65536 && !(zer3 o d p)))) := rfl
  have HF := Lib.hid hpf
  have hpo := pointOf_str
  have HO := Lib.hid hpo
  have hg : ∀ (x y : Operand) (w : World), (eqGuard .eql 24 x y (ptv 1 o d p 0 0 0 false) (.agg #[.int .i64 1, .int .i64 o, .int .i64 d, .int .i64 p, .int .i64 s, .int .i64 c, .int .i64 g, .bool t])).run Try.prog w = .ok () w := fun x y w => guard_pt x y 1 o d p 0 0 0 false 1 o d p s c g t w
  have hme : ∀ w : World, (method 216 88 (.agg #[.int .i64 o, .int .i64 d, .int .i64 p]) "loop.example/quoin/impl.fits").run Try.prog w = .ok (92, .agg #[.int .i64 o, .int .i64 d, .int .i64 p]) w := meth_str _
  rw [hfs]
  clear hp hpf hpo hfs
  cases hq : eqP 1 o d p 0 0 0 false 1 o d p s c g t
  · have he : ∀ w : World, (binOp .eql 24 (ptv 1 o d p 0 0 0 false) (.agg #[.int .i64 1, .int .i64 o, .int .i64 d, .int .i64 p, .int .i64 s, .int .i64 c, .int .i64 g, .bool t])).run Try.prog w = .ok (.bool false) w := fun w => by
      have h := eql_pt 1 o d p 0 0 0 false 1 o d p s c g t w
      rw [hq] at h
      exact h
    rw [Bool.false_and]
    have HQ := Lib.hid hq
    clear hq
    unfold ptv at HP ⊢
    go_enter Try.func15, Try.ntmps15
    go_wp2_with (go_at_call 37; refine (HP.out _).mono ?_; rintro e w1 ⟨rfl, hb1⟩)
    rw [HF.out]
    have hblk := (hb1.block w.heap.size (by simp)).trans (heap_alloc_new w _)
    obtain ⟨c0, c1, c2, c3, c4, c5, c6, c7⟩ := cells8 hblk
    have HB := Lib.hid (((Below.refl w.heap.size w).alloc (Nat.le_refl _) _).trans (hb1.mono (by simp)))
    have HK := Lib.hid hblk
    clear hblk hb1
    first | go_region_law (first | (go_simp; go_at_call 40; refine (HO.out _ _ _ _).mono ?_; rintro e w2 ⟨rfl, hb2⟩; have hk2 := kept8 (w := w1.drew) HK.out hb2; obtain ⟨f0, f1, f2, f3, f4, f5, f6, f7⟩ := cells8 hk2; clear hk2) | (go_simp; go_at_call 92; refine (fits_str _ _ _ _).mono ?_; rintro e w3 ⟨rfl, hb3⟩)) | fail
    all_goals
      have HB2 : Hid (Below w.heap.size w w2) := HB.out.drew.trans (hb2.mono (by have := HB.out.size; simp; omega))
      clear hb2
      go_wp2
      go_ret
      exact ⟨rfl, HB2.out⟩
  · have he : ∀ w : World, (binOp .eql 24 (ptv 1 o d p 0 0 0 false) (.agg #[.int .i64 1, .int .i64 o, .int .i64 d, .int .i64 p, .int .i64 s, .int .i64 c, .int .i64 g, .bool t])).run Try.prog w = .ok (.bool true) w := fun w => by
      have h := eql_pt 1 o d p 0 0 0 false 1 o d p s c g t w
      rw [hq] at h
      exact h
    rw [Bool.true_and]
    have HQ := Lib.hid hq
    clear hq
    unfold ptv at HP ⊢
    go_enter Try.func15, Try.ntmps15
    go_wp2_with (go_at_call 37; refine (HP.out _).mono ?_; rintro e w1 ⟨rfl, hb1⟩)
    rw [HF.out]
    have hblk := (hb1.block w.heap.size (by simp)).trans (heap_alloc_new w _)
    obtain ⟨c0, c1, c2, c3, c4, c5, c6, c7⟩ := cells8 hblk
    have HB := Lib.hid (((Below.refl w.heap.size w).alloc (Nat.le_refl _) _).trans (hb1.mono (by simp)))
    have HK := Lib.hid hblk
    clear hblk hb1
    first | go_region_law (first | (go_simp; go_at_call 40; refine (HO.out _ _ _ _).mono ?_; rintro e w2 ⟨rfl, hb2⟩; have hk2 := kept8 (w := w1.drew) HK.out hb2; obtain ⟨f0, f1, f2, f3, f4, f5, f6, f7⟩ := cells8 hk2; clear hk2) | (go_simp; go_at_call 92; refine (fits_str _ _ _ _).mono ?_; rintro e w3 ⟨rfl, hb3⟩)) | fail
    all_goals
      have HB2 : Hid (Below w.heap.size w w2) := HB.out.drew.trans (hb2.mono (by have := HB.out.size; simp; omega))
      have HB3 : Hid (Below w.heap.size w w3) := HB2.out.trans (hb3.mono (by have := HB2.out.size; simp; omega))
      clear hb2 hb3
      go_wp2
      go_ret
      exact ⟨rfl, HB3.out⟩
set_option maxHeartbeats 1000000 in
set_option maxRecDepth 100000 in
theorem implPointOk_lis (o d p s c g : Int) (t : Bool) (w : World) :
    Calls Try.prog 15 #[ptv 2 o d p s c g t] w fun e w' => e = .returned (.bool (eqP 2 o 0 0 s c 0 false 2 o d p s c g t && fitsOf 2 o d p s c g t)) ∧ Below w.heap.size w w' := by
  have hp := pointerOf_any 2 o d p s c g t
  have HP := Lib.hid hp
  have hpf : ptif 2 o d p s c g t = .iface 90 (.agg #[.int .i64 o, .int .i64 s, .int .i64 c]) := rfl
  have hfs : fitsOf 2 o d p s c g t = (inB o (-536870912) 536870911 && (withB s 8 && withB c 536870912)) := rfl
  have HF := Lib.hid hpf
  have hpo := pointOf_lis
  have HO := Lib.hid hpo
  have hg : ∀ (x y : Operand) (w : World), (eqGuard .eql 24 x y (ptv 2 o 0 0 s c 0 false) (.agg #[.int .i64 2, .int .i64 o, .int .i64 d, .int .i64 p, .int .i64 s, .int .i64 c, .int .i64 g, .bool t])).run Try.prog w = .ok () w := fun x y w => guard_pt x y 2 o 0 0 s c 0 false 2 o d p s c g t w
  have hme : ∀ w : World, (method 216 90 (.agg #[.int .i64 o, .int .i64 s, .int .i64 c]) "loop.example/quoin/impl.fits").run Try.prog w = .ok (96, .agg #[.int .i64 o, .int .i64 s, .int .i64 c]) w := meth_lis _
  rw [hfs]
  clear hp hpf hpo hfs
  cases hq : eqP 2 o 0 0 s c 0 false 2 o d p s c g t
  · have he : ∀ w : World, (binOp .eql 24 (ptv 2 o 0 0 s c 0 false) (.agg #[.int .i64 2, .int .i64 o, .int .i64 d, .int .i64 p, .int .i64 s, .int .i64 c, .int .i64 g, .bool t])).run Try.prog w = .ok (.bool false) w := fun w => by
      have h := eql_pt 2 o 0 0 s c 0 false 2 o d p s c g t w
      rw [hq] at h
      exact h
    rw [Bool.false_and]
    have HQ := Lib.hid hq
    clear hq
    unfold ptv at HP ⊢
    go_enter Try.func15, Try.ntmps15
    go_wp2_with (go_at_call 37; refine (HP.out _).mono ?_; rintro e w1 ⟨rfl, hb1⟩)
    rw [HF.out]
    have hblk := (hb1.block w.heap.size (by simp)).trans (heap_alloc_new w _)
    obtain ⟨c0, c1, c2, c3, c4, c5, c6, c7⟩ := cells8 hblk
    have HB := Lib.hid (((Below.refl w.heap.size w).alloc (Nat.le_refl _) _).trans (hb1.mono (by simp)))
    have HK := Lib.hid hblk
    clear hblk hb1
    first | go_region_law (first | (go_simp; go_at_call 40; refine (HO.out _ _ _ _).mono ?_; rintro e w2 ⟨rfl, hb2⟩; have hk2 := kept8 (w := w1.drew) HK.out hb2; obtain ⟨f0, f1, f2, f3, f4, f5, f6, f7⟩ := cells8 hk2; clear hk2) | (go_simp; go_at_call 96; refine (fits_lis _ _ _ _).mono ?_; rintro e w3 ⟨rfl, hb3⟩)) | fail
    all_goals
      have HB2 : Hid (Below w.heap.size w w2) := HB.out.drew.trans (hb2.mono (by have := HB.out.size; simp; omega))
      clear hb2
      go_wp2
      go_ret
      exact ⟨rfl, HB2.out⟩
  · have he : ∀ w : World, (binOp .eql 24 (ptv 2 o 0 0 s c 0 false) (.agg #[.int .i64 2, .int .i64 o, .int .i64 d, .int .i64 p, .int .i64 s, .int .i64 c, .int .i64 g, .bool t])).run Try.prog w = .ok (.bool true) w := fun w => by
      have h := eql_pt 2 o 0 0 s c 0 false 2 o d p s c g t w
      rw [hq] at h
      exact h
    rw [Bool.true_and]
    have HQ := Lib.hid hq
    clear hq
    unfold ptv at HP ⊢
    go_enter Try.func15, Try.ntmps15
    go_wp2_with (go_at_call 37; refine (HP.out _).mono ?_; rintro e w1 ⟨rfl, hb1⟩)
    rw [HF.out]
    have hblk := (hb1.block w.heap.size (by simp)).trans (heap_alloc_new w _)
    obtain ⟨c0, c1, c2, c3, c4, c5, c6, c7⟩ := cells8 hblk
    have HB := Lib.hid (((Below.refl w.heap.size w).alloc (Nat.le_refl _) _).trans (hb1.mono (by simp)))
    have HK := Lib.hid hblk
    clear hblk hb1
    first | go_region_law (first | (go_simp; go_at_call 40; refine (HO.out _ _ _ _).mono ?_; rintro e w2 ⟨rfl, hb2⟩; have hk2 := kept8 (w := w1.drew) HK.out hb2; obtain ⟨f0, f1, f2, f3, f4, f5, f6, f7⟩ := cells8 hk2; clear hk2) | (go_simp; go_at_call 96; refine (fits_lis _ _ _ _).mono ?_; rintro e w3 ⟨rfl, hb3⟩)) | fail
    all_goals
      have HB2 : Hid (Below w.heap.size w w2) := HB.out.drew.trans (hb2.mono (by have := HB.out.size; simp; omega))
      have HB3 : Hid (Below w.heap.size w w3) := HB2.out.trans (hb3.mono (by have := HB2.out.size; simp; omega))
      clear hb2 hb3
      go_wp2
      go_ret
      exact ⟨rfl, HB3.out⟩
set_option maxHeartbeats 1000000 in
set_option maxRecDepth 100000 in
theorem implPointOk_far (o d p s c g : Int) (t : Bool) (w : World) :
    Calls Try.prog 15 #[ptv 3 o d p s c g t] w fun e w' => e = .returned (.bool (eqP 3 o 0 0 0 0 g t 3 o d p s c g t && fitsOf 3 o d p s c g t)) ∧ Below w.heap.size w w' := by
  have hp := pointerOf_any 3 o d p s c g t
  have HP := Lib.hid hp
  have hpf : ptif 3 o d p s c g t = .iface 92 (.agg #[.int .i64 o, .int .i64 g, .bool t]) := rfl
  have hfs : fitsOf 3 o d p s c g t = (withB o 536870912 && withB g 4294967296) := rfl
  have HF := Lib.hid hpf
  have hpo := pointOf_far
  have HO := Lib.hid hpo
  have hg : ∀ (x y : Operand) (w : World), (eqGuard .eql 24 x y (ptv 3 o 0 0 0 0 g t) (.agg #[.int .i64 3, .int .i64 o, .int .i64 d, .int .i64 p, .int .i64 s, .int .i64 c, .int .i64 g, .bool t])).run Try.prog w = .ok () w := fun x y w => guard_pt x y 3 o 0 0 0 0 g t 3 o d p s c g t w
  have hme : ∀ w : World, (method 216 92 (.agg #[.int .i64 o, .int .i64 g, .bool t]) "loop.example/quoin/impl.fits").run Try.prog w = .ok (98, .agg #[.int .i64 o, .int .i64 g, .bool t]) w := meth_far _
  rw [hfs]
  clear hp hpf hpo hfs
  cases hq : eqP 3 o 0 0 0 0 g t 3 o d p s c g t
  · have he : ∀ w : World, (binOp .eql 24 (ptv 3 o 0 0 0 0 g t) (.agg #[.int .i64 3, .int .i64 o, .int .i64 d, .int .i64 p, .int .i64 s, .int .i64 c, .int .i64 g, .bool t])).run Try.prog w = .ok (.bool false) w := fun w => by
      have h := eql_pt 3 o 0 0 0 0 g t 3 o d p s c g t w
      rw [hq] at h
      exact h
    rw [Bool.false_and]
    have HQ := Lib.hid hq
    clear hq
    unfold ptv at HP ⊢
    go_enter Try.func15, Try.ntmps15
    go_wp2_with (go_at_call 37; refine (HP.out _).mono ?_; rintro e w1 ⟨rfl, hb1⟩)
    rw [HF.out]
    have hblk := (hb1.block w.heap.size (by simp)).trans (heap_alloc_new w _)
    obtain ⟨c0, c1, c2, c3, c4, c5, c6, c7⟩ := cells8 hblk
    have HB := Lib.hid (((Below.refl w.heap.size w).alloc (Nat.le_refl _) _).trans (hb1.mono (by simp)))
    have HK := Lib.hid hblk
    clear hblk hb1
    first | go_region_law (first | (go_simp; go_at_call 40; refine (HO.out _ _ _ _).mono ?_; rintro e w2 ⟨rfl, hb2⟩; have hk2 := kept8 (w := w1.drew) HK.out hb2; obtain ⟨f0, f1, f2, f3, f4, f5, f6, f7⟩ := cells8 hk2; clear hk2) | (go_simp; go_at_call 98; refine (fits_far _ _ _ _).mono ?_; rintro e w3 ⟨rfl, hb3⟩)) | fail
    all_goals
      have HB2 : Hid (Below w.heap.size w w2) := HB.out.drew.trans (hb2.mono (by have := HB.out.size; simp; omega))
      clear hb2
      go_wp2
      go_ret
      exact ⟨rfl, HB2.out⟩
  · have he : ∀ w : World, (binOp .eql 24 (ptv 3 o 0 0 0 0 g t) (.agg #[.int .i64 3, .int .i64 o, .int .i64 d, .int .i64 p, .int .i64 s, .int .i64 c, .int .i64 g, .bool t])).run Try.prog w = .ok (.bool true) w := fun w => by
      have h := eql_pt 3 o 0 0 0 0 g t 3 o d p s c g t w
      rw [hq] at h
      exact h
    rw [Bool.true_and]
    have HQ := Lib.hid hq
    clear hq
    unfold ptv at HP ⊢
    go_enter Try.func15, Try.ntmps15
    go_wp2_with (go_at_call 37; refine (HP.out _).mono ?_; rintro e w1 ⟨rfl, hb1⟩)
    rw [HF.out]
    have hblk := (hb1.block w.heap.size (by simp)).trans (heap_alloc_new w _)
    obtain ⟨c0, c1, c2, c3, c4, c5, c6, c7⟩ := cells8 hblk
    have HB := Lib.hid (((Below.refl w.heap.size w).alloc (Nat.le_refl _) _).trans (hb1.mono (by simp)))
    have HK := Lib.hid hblk
    clear hblk hb1
    first | go_region_law (first | (go_simp; go_at_call 40; refine (HO.out _ _ _ _).mono ?_; rintro e w2 ⟨rfl, hb2⟩; have hk2 := kept8 (w := w1.drew) HK.out hb2; obtain ⟨f0, f1, f2, f3, f4, f5, f6, f7⟩ := cells8 hk2; clear hk2) | (go_simp; go_at_call 98; refine (fits_far _ _ _ _).mono ?_; rintro e w3 ⟨rfl, hb3⟩)) | fail
    all_goals
      have HB2 : Hid (Below w.heap.size w w2) := HB.out.drew.trans (hb2.mono (by have := HB.out.size; simp; omega))
      have HB3 : Hid (Below w.heap.size w w3) := HB2.out.trans (hb3.mono (by have := HB2.out.size; simp; omega))
      clear hb2 hb3
      go_wp2
      go_ret
      exact ⟨rfl, HB3.out⟩
set_option maxHeartbeats 1000000 in
set_option maxRecDepth 100000 in
theorem implPointOk_bad (k : Int) (o d p s c g : Int) (t : Bool) (hk : k ≠ 0 ∧ k ≠ 1 ∧ k ≠ 2 ∧ k ≠ 3) (w : World) :
    Calls Try.prog 15 #[ptv k o d p s c g t] w fun e w' => e = .returned (.bool (eqP 4 0 0 0 0 0 0 false k o d p s c g t && fitsOf k o d p s c g t)) ∧ Below w.heap.size w w' := by
  have hp := pointerOf_any k o d p s c g t
  have HP := Lib.hid hp
  have hpf : ptif k o d p s c g t = .iface 93 (.agg #[]) := by simp [ptif, hk]
  have hfs : fitsOf k o d p s c g t = false := by simp [fitsOf, hk]
  have HF := Lib.hid hpf
  have hpo := pointOf_bad
  have HO := Lib.hid hpo
  have hg : ∀ (x y : Operand) (w : World), (eqGuard .eql 24 x y (ptv 4 0 0 0 0 0 0 false) (.agg #[.int .i64 k, .int .i64 o, .int .i64 d, .int .i64 p, .int .i64 s, .int .i64 c, .int .i64 g, .bool t])).run Try.prog w = .ok () w := fun x y w => guard_pt x y 4 0 0 0 0 0 0 false k o d p s c g t w
  have hme : ∀ w : World, (method 216 93 (.agg #[]) "loop.example/quoin/impl.fits").run Try.prog w = .ok (100, .agg #[]) w := meth_bad _
  rw [hfs]
  clear hp hpf hpo hfs hk
  cases hq : eqP 4 0 0 0 0 0 0 false k o d p s c g t
  · have he : ∀ w : World, (binOp .eql 24 (ptv 4 0 0 0 0 0 0 false) (.agg #[.int .i64 k, .int .i64 o, .int .i64 d, .int .i64 p, .int .i64 s, .int .i64 c, .int .i64 g, .bool t])).run Try.prog w = .ok (.bool false) w := fun w => by
      have h := eql_pt 4 0 0 0 0 0 0 false k o d p s c g t w
      rw [hq] at h
      exact h
    rw [Bool.false_and]
    have HQ := Lib.hid hq
    clear hq
    unfold ptv at HP ⊢
    go_enter Try.func15, Try.ntmps15
    go_wp2_with (go_at_call 37; refine (HP.out _).mono ?_; rintro e w1 ⟨rfl, hb1⟩)
    rw [HF.out]
    have hblk := (hb1.block w.heap.size (by simp)).trans (heap_alloc_new w _)
    obtain ⟨c0, c1, c2, c3, c4, c5, c6, c7⟩ := cells8 hblk
    have HB := Lib.hid (((Below.refl w.heap.size w).alloc (Nat.le_refl _) _).trans (hb1.mono (by simp)))
    have HK := Lib.hid hblk
    clear hblk hb1
    first | go_region_law (first | (go_simp; go_at_call 40; refine (HO.out _).mono ?_; rintro e w2 ⟨rfl, hb2⟩; have hk2 := kept8 (w := w1.drew) HK.out hb2; obtain ⟨f0, f1, f2, f3, f4, f5, f6, f7⟩ := cells8 hk2; clear hk2) | (go_simp; go_at_call 100; refine (fits_bad _).mono ?_; rintro e w3 ⟨rfl, hb3⟩)) | fail
    all_goals
      have HB2 : Hid (Below w.heap.size w w2) := HB.out.drew.trans (hb2.mono (by have := HB.out.size; simp; omega))
      clear hb2
      go_wp2
      go_ret
      exact ⟨rfl, HB2.out⟩
  · have he : ∀ w : World, (binOp .eql 24 (ptv 4 0 0 0 0 0 0 false) (.agg #[.int .i64 k, .int .i64 o, .int .i64 d, .int .i64 p, .int .i64 s, .int .i64 c, .int .i64 g, .bool t])).run Try.prog w = .ok (.bool true) w := fun w => by
      have h := eql_pt 4 0 0 0 0 0 0 false k o d p s c g t w
      rw [hq] at h
      exact h
    rw [Bool.true_and]
    have HQ := Lib.hid hq
    clear hq
    unfold ptv at HP ⊢
    go_enter Try.func15, Try.ntmps15
    go_wp2_with (go_at_call 37; refine (HP.out _).mono ?_; rintro e w1 ⟨rfl, hb1⟩)
    rw [HF.out]
    have hblk := (hb1.block w.heap.size (by simp)).trans (heap_alloc_new w _)
    obtain ⟨c0, c1, c2, c3, c4, c5, c6, c7⟩ := cells8 hblk
    have HB := Lib.hid (((Below.refl w.heap.size w).alloc (Nat.le_refl _) _).trans (hb1.mono (by simp)))
    have HK := Lib.hid hblk
    clear hblk hb1
    first | go_region_law (first | (go_simp; go_at_call 40; refine (HO.out _).mono ?_; rintro e w2 ⟨rfl, hb2⟩; have hk2 := kept8 (w := w1.drew) HK.out hb2; obtain ⟨f0, f1, f2, f3, f4, f5, f6, f7⟩ := cells8 hk2; clear hk2) | (go_simp; go_at_call 100; refine (fits_bad _).mono ?_; rintro e w3 ⟨rfl, hb3⟩)) | fail
    all_goals
      have HB2 : Hid (Below w.heap.size w w2) := HB.out.drew.trans (hb2.mono (by have := HB.out.size; simp; omega))
      have HB3 : Hid (Below w.heap.size w w3) := HB2.out.trans (hb3.mono (by have := HB2.out.size; simp; omega))
      clear hb2 hb3
      go_wp2
      go_ret
      exact ⟨rfl, HB3.out⟩
end Go.Proofs.Ytialmfolgendlab
