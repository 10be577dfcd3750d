/- The specification's drawer of words: l13Word, l13Words. -/
import Derived.Test.YtfiiopchfmcjdaaDraw1
import Derived.Test.YtfiiopchfmcjdaaMany
import Derived.Test.YtfiiopchfmcjdaaBytes
namespace Go.Proofs.Ytfiiopchfmcjdaa
open Go.RowKit
theorem str8 (n : Int) : (⟨(leB n 8).toArray⟩ : ByteArray).size = 8 := by simp [ByteArray.size, leB_length]
theorem rep8 (l : List UInt8) (k : Nat) : (⟨(repL l k).toArray⟩ : ByteArray).size = l.length * k := by simp [ByteArray.size, repL_length]
set_option maxHeartbeats 2000000 in
theorem l13Word_any (R n : Nat) (w : World) (h : Rd w R n) (hn : n ≤ 999000) :
    Calls Try.prog 78 #[.pointer (some ⟨R, 0, none⟩)] w (StrP (fun u => u.size = 8) R (n + 3) w) := by
  go_enter Try.func78, Try.ntmps78
  go_wp2_with (go_at_call 41; go_must (refine (l1Many_any _ _ _ (by decide) (by decide) (by decide) (by decide)).mono ?_); rintro e w' ⟨rfl, rfl⟩)
  refine (pick_any R n _ _ h (by omega)).mono ?_
  rintro e w1 ⟨v, ⟨hv0, hv1⟩, rfl, hp1⟩
  have hv : v ≤ 255 := by omega
  clear hv1
  go_wp2_with fail
  refine (pick_any R (n + 1) _ _ hp1.1 (by omega)).mono ?_
  rintro e w2 ⟨u, ⟨hu0, hu1⟩, rfl, hp2⟩
  have hu : u ≤ 255 := by omega
  clear hu1
  go_wp2_with fail
  refine (l1Bytes_any _ 8 _ (by decide) (by decide)).mono ?_
  rintro e w3 ⟨rfl, hb3⟩
  go_wp2_with fail
  have hp3 : Picked w R (n + 2) w3 := (hp1.then hp2).below hb3
  have hR := hp3.1.lt
  refine (of_any R (n + 2) w3.heap.size 8 8 (fun u => u.size = 8) _ _ (by exact hp3.1.below ((Below.refl _ _).alloc (Nat.le_refl _) _)) (by omega) (by exact Lits.new _ _ _ _) (by
    intro v hv
    simp at hv
    rcases hv with rfl | rfl | rfl | rfl | rfl | rfl | rfl
    all_goals exact ⟨_, rfl, by simp [ByteArray.size, repL_length, leB_length]⟩) (by omega) (by simp) (by omega) (by omega)).mono ?_
  rintro e w4 ⟨x, hx, rfl, hp4⟩
  go_wp2
  go_ret
  exact ⟨x, hx, rfl, (hp3.below ((Below.refl _ _).alloc (Nat.le_refl _) _)).then hp4⟩

set_option maxHeartbeats 2000000 in
theorem l13Words_any (R n : Nat) (most : Nat) (w : World) (h : Rd w R n) (hn : n ≤ 900000) (hm : most ≤ 10000) :
    Calls Try.prog 76 #[.pointer (some ⟨R, 0, none⟩), .int .i64 most] w (StrP (fun u => ∃ j, j ≤ most ∧ u.size = 8 * j) R (n + 1 + 3 * most) w) := by
  go_enter Try.func76, Try.ntmps76
  go_wp2_with fail
  refine (pick_any R n _ _ h (by omega)).mono ?_
  rintro e w1 ⟨v, ⟨hv0, hv1⟩, rfl, hp1⟩
  obtain ⟨q, rfl⟩ := Int.eq_ofNat_of_zero_le hv0
  have hq : q ≤ most := by omega
  clear hv1
  go_wp2_with fail
  go_loopw [5, 6] (fun o i wr => ∃ (j m : Nat) (u : ByteArray), o = .string u ∧ i = .int .i64 m ∧ j + m = q ∧ Hid (u.size = 8 * j) ∧ Hid (Picked w R (n + 1 + 3 * j) wr)) (fun _ i _ => (intOf i).toNat)
  case atStart => exact ⟨0, q, ByteArray.empty, rfl, rfl, by omega, rfl, hp1⟩
  case round =>
    obtain ⟨j, m, u, rfl, rfl, hjm, HU, HP⟩ := hrel
    have hu := HU.out
    have HJ := Lib.hid hjm
    have hjq : j + m ≤ q := by omega
    have hul : u.size ≤ 80000 := by omega
    clear hu hjm
    by_cases h0 : m = 0
    · subst h0
      go_wp2
      go_ret
      exact ⟨u, ⟨j, by omega, HU.out⟩, rfl, HP.out.mono (by omega)⟩
    · have h1 : 1 ≤ m := by omega
      go_wp2_with fail
      refine (l13Word_any R (n + 1 + 3 * j) _ HP.out.1 (by omega)).mono ?_
      rintro e w2 ⟨x, hx, rfl, hp2⟩
      have f1 : ¬ 9223372036854775807 < u.size + x.size := by omega
      have hs : (u ++ x).size = 8 * (j + 1) := by have := HU.out; simp; omega
      have hp : Picked w R (n + 1 + 3 * (j + 1)) w2 := HP.out.then (hp2.mono (by omega))
      have HX := Lib.hid hx
      have HS := Lib.hid hs
      clear hx hs
      go_wp2
      go_roundw
      case rel => exact ⟨j + 1, m - 1, _, rfl, by go_num, by have := HJ.out; omega, HS, hp⟩
      case measure => simp [intOf]; omega

end Go.Proofs.Ytfiiopchfmcjdaa
