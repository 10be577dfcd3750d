/- The specification's drawer: l13Cut. -/
import Derived.Test.YtliiffpegfkpbabDoorDraw1
import Derived.Test.YtliiffpegfkpbabDoorBytes
import Derived.Test.YtliiffpegfkpbabDoorMath3
import Derived.Deep.RegionWith
import Derived.Lib.ConvBytes
namespace Go.Proofs.YtliiffpegfkpbabDoor
open Go.RowKit
theorem conv1f (c : Nat) (hc : c < 256) (W : World) : (convert 22 9 (.slice (some ⟨W.heap.size, 0, none⟩) 1 1)).run Tryd.prog (W.alloc (.cells #[.int .u8 (c : Int)] 5)) = .ok (.string ⟨#[UInt8.ofNat c]⟩) (W.alloc (.cells #[.int .u8 (c : Int)] 5)) := by
  refine convert_wd _ _ _ 5 W.heap.size 1 1 [UInt8.ofNat c] rfl Tryd.underlying22 Tryd.underlying5 Tryd.underlying9 (heap_alloc_new W _) ?_
  have : (UInt8.ofNat c).toNat = c := by rw [UInt8.toNat_ofNat']; omega
  simp [Lib.byteCells]; omega
theorem Rd.drewd {w : World} {R n : Nat} (h : Rd w R n) : Rd w.drew R n := (h.self.drewN 1).1
set_option maxRecDepth 100000 in
set_option maxHeartbeats 4000000 in
theorem l13Cut_c (R n : Nat) (s : ByteArray) (w : World) (h : Rd w R n) (hn : n ≤ 900000) (hs : s.size ≤ 100000) :
    Calls Tryd.prog 36 #[.pointer (some ⟨R, 0, none⟩), .string s] w (StrP (fun u => u.size ≤ s.size + 1) R (n + 3) w) := by
  go_enter Tryd.func36, Tryd.ntmps36
  go_wp2_with fail
  refine (pick_any R n _ _ h (by omega)).mono ?_
  rintro e w1 ⟨v, ⟨hv0, hv1⟩, rfl, hp1⟩
  obtain ⟨k, rfl⟩ := Int.eq_ofNat_of_zero_le hv0
  have hk : k ≤ s.size := by omega
  clear hv1 hv0
  go_wp2_with fail
  refine (pick_any R (n + 1) _ _ hp1.1 (by omega)).mono ?_
  rintro e w2 ⟨c, ⟨hc0, hc1⟩, rfl, hp2⟩
  have hp12 := hp1.then hp2
  have he1 : (s.extract 0 k).size = k := by simp; omega
  have he2 : (s.extract k s.size).size = s.size - k := by simp
  have HP := Lib.hid hp12
  have hR2 := hp12.1.lt
  have HR2 := Lib.hid hR2
  clear hp1 hp2 hp12 hc1 h
  by_cases h0 : c = 0
  · subst h0
    have HA := Lib.hid he1
    have HB := Lib.hid he2
    clear he1 he2
    go_wp2_with fail
    go_region_with (go_at_call 38; refine (of_any R (n + 2) w2.heap.size 4 4 (fun u => u.size ≤ 1) _ _ (by exact (HP.out.1.below ((Below.refl _ _).alloc (Nat.le_refl _) _)).drewd) (by omega) (by exact Lits.new w2.drew _ _ _) (by
      intro v hv
      simp at hv
      rcases hv with rfl | rfl | rfl | rfl
      all_goals exact ⟨_, rfl, by decide⟩) (by have := HR2.out; omega) (by simp) (by omega) (by omega)).mono ?_; rintro e w3 ⟨x, hx, rfl, hp3⟩; have hx1 : x.size ≤ 1 := hx; have f1 : ¬ 9223372036854775807 < (s.extract 0 k).size + x.size := (by rw [HA.out]; omega); have f2 : ¬ 9223372036854775807 < (s.extract 0 k ++ x).size + (s.extract k s.size).size := (by rw [ByteArray.size_append, HA.out, HB.out]; omega); have HP3 := Lib.hid hp3; clear hp3)
    all_goals
      go_wp2
      go_ret
      exact ⟨_, by show ByteArray.size _ ≤ s.size + 1; rw [ByteArray.size_append, ByteArray.size_append, HA.out, HB.out]; omega, rfl, (((HP.out.below ((Below.refl _ w2).alloc (Nat.le_refl _) _)).drewN 1).then HP3.out).mono (by omega)⟩
  have b0 : (c == 0) = false := by simp; omega
  by_cases h1 : c = 1
  · subst h1
    have HA := Lib.hid he1
    clear he1 he2
    go_wp2
    go_ret
    exact ⟨_, by show ByteArray.size _ ≤ s.size + 1; rw [HA.out]; omega, rfl, HP.out.mono (by omega)⟩
  have b1 : (c == 1) = false := by simp; omega
  by_cases h2 : c = 2
  · subst h2
    by_cases hks : k < s.size
    · have HA := Lib.hid he1
      have he3 : (s.extract (k + 1) s.size).size = s.size - (k + 1) := by simp
      have HB := Lib.hid he3
      clear he1 he2 he3
      have hkw : IntKind.i64.wrap ((k : Int) + 1) = (k : Int) + 1 := by rw [IntKind.wrap_i64]; omega
      go_wp2_with fail
      go_region_with (go_at_call 49; refine (pick_any R (n + 2) _ _ (by exact HP.out.1.drewd) (by omega)).mono ?_; rintro e w3 ⟨x, ⟨hx0, hx1⟩, rfl, hp3⟩; obtain ⟨b, rfl⟩ := Int.eq_ofNat_of_zero_le hx0; have hb : b < 256 := (by omega); have hcv := conv1f b hb w3; have hwb : IntKind.u8.wrap (b : Int) = (b : Int) := (by rw [IntKind.wrap_u8]; omega); have hone : (⟨#[UInt8.ofNat b]⟩ : ByteArray).size = 1 := rfl; have f1 : ¬ 9223372036854775807 < (s.extract 0 k).size + (⟨#[UInt8.ofNat b]⟩ : ByteArray).size := (by rw [HA.out, hone]; omega); have f2 : ¬ 9223372036854775807 < (s.extract 0 k ++ ⟨#[UInt8.ofNat b]⟩).size + (s.extract (k + 1) s.size).size := (by rw [ByteArray.size_append, HA.out, HB.out, hone]; omega); have HP3 := Lib.hid hp3; have HOne := Lib.hid hone; clear hp3 hone hx1)
      all_goals
        go_wp2
        go_ret
        exact ⟨_, by show ByteArray.size _ ≤ s.size + 1; rw [ByteArray.size_append, ByteArray.size_append, HA.out, HB.out, HOne.out]; omega, rfl, (((HP.out.drewN 1).then HP3.out).below ((Below.refl _ w3).alloc (Nat.le_refl _) _)).mono (by omega)⟩
    · obtain rfl : k = s.size := by omega
      clear he1 he2
      go_wp2
      go_ret
      exact ⟨_, Nat.le_succ _, rfl, HP.out.mono (by omega)⟩
  have b2 : (c == 2) = false := by simp; omega
  clear he1 he2
  go_wp2
  go_ret
  exact ⟨_, Nat.le_succ _, rfl, HP.out.mono (by omega)⟩
end Go.Proofs.YtliiffpegfkpbabDoor
