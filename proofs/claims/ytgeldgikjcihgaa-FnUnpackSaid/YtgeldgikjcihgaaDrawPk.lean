/- The specification's draw of words to be packed. -/
import Derived.Test.YtgeldgikjcihgaaDraw2
import Derived.Test.YtgeldgikjcihgaaArgB
namespace Go.Proofs.Ytgeldgikjcihgaa
open Go.RowKit
def DrawPkS (b : Nat) (w : World) (e : Ending) (w' : World) : Prop := ∃ s : ByteArray, s.size ≤ b ∧ e = .returned (.string s) ∧ Below w.heap.size w w'
set_option maxHeartbeats 4000000 in
theorem drawPack_any (a : Option Addr) (len cap : Nat) (w : World) (h : Arg w a len cap) :
    Calls Try.prog 12 #[.slice a len cap] w (DrawPkS 1700 w) := by
  go_enter Try.func12, Try.ntmps12
  go_wp2_with fail
  refine (l1Open_any a len cap _ h.1 h.2.1 h.2.2).mono ?_
  rintro e w1 ⟨R, rfl, hR, hrd, hb1⟩
  go_wp2_with fail
  refine (pick_any R 0 _ _ hrd (by omega)).mono ?_
  rintro e w2 ⟨v, ⟨hv0, hv1⟩, rfl, hp2⟩
  by_cases h0 : v = 0
  · subst h0
    go_wp2_with fail
    refine (pick_any R 1 _ _ hp2.1 (by omega)).mono ?_
    rintro e w3 ⟨k, ⟨hk0, hk1⟩, rfl, hp3⟩
    have hk : k ≤ 39 := by omega
    clear hk1
    go_wp2_with fail
    refine (l1Many_any ⟨#[0]⟩ (8 * k) _ (by omega) (by omega) (by decide) (by rw [show (⟨#[0]⟩ : ByteArray).size = 1 from rfl]; omega)).mono ?_
    rintro e w4 ⟨rfl, rfl⟩
    have hz : (⟨(repL (⟨#[0]⟩ : ByteArray).data.toList (8 * k).toNat).toArray⟩ : ByteArray).size ≤ 312 := by
      rw [mk_size, repL_length, show ((⟨#[0]⟩ : ByteArray).data.toList).length = 1 from rfl]; omega
    generalize (⟨(repL (⟨#[0]⟩ : ByteArray).data.toList (8 * k).toNat).toArray⟩ : ByteArray) = Z at hz ⊢
    go_wp2_with fail
    refine (l13Words_any R 2 3 _ hp3.1 (by omega) (by omega)).mono ?_
    rintro e w5 ⟨s, ⟨j, hj, hs⟩, rfl, hp5⟩
    have hs1 : s.size ≤ 24 := by omega
    clear hs
    have f1 : ¬ 9223372036854775807 < Z.size + s.size := by omega
    have hzs : (Z ++ s).size ≤ 336 := by rw [ByteArray.size_append]; omega
    have HZS := Lib.hid hzs
    clear hzs
    go_wp2_with fail
    refine (pick_any R 12 _ _ hp5.1 (by omega)).mono ?_
    rintro e w6 ⟨u, ⟨hu0, hu1⟩, rfl, hp6⟩
    have hu : u ≤ 4 := by omega
    clear hu1
    go_wp2_with fail
    refine (l1Many_any ⟨#[97, 98, 99, 100, 101, 102, 103, 104]⟩ u _ (by omega) (by omega) (by decide) (by rw [show (⟨#[97, 98, 99, 100, 101, 102, 103, 104]⟩ : ByteArray).size = 8 from rfl]; omega)).mono ?_
    rintro e w7 ⟨rfl, rfl⟩
    have hy : (⟨(repL (⟨#[97, 98, 99, 100, 101, 102, 103, 104]⟩ : ByteArray).data.toList u.toNat).toArray⟩ : ByteArray).size ≤ 32 := by
      rw [mk_size, repL_length, show ((⟨#[97, 98, 99, 100, 101, 102, 103, 104]⟩ : ByteArray).data.toList).length = 8 from rfl]; omega
    generalize (⟨(repL (⟨#[97, 98, 99, 100, 101, 102, 103, 104]⟩ : ByteArray).data.toList u.toNat).toArray⟩ : ByteArray) = Y at hy ⊢
    generalize Z ++ s = X at HZS ⊢
    have hxs := HZS.out
    have f2 : ¬ 9223372036854775807 < X.size + Y.size := by omega
    have HP := Lib.hid (((hp2.then hp3).then hp5).then hp6)
    clear hp2 hp3 hp5 hp6
    go_wp2
    go_ret
    exact ⟨_, by rw [ByteArray.size_append]; omega, rfl, opened_below hR hb1 HP.out⟩
  · have b0 : (v == 0) = false := by simp; omega
    go_wp2_with fail
    refine (l13AnyWords_any R 1 _ hp2.1 (by omega)).mono ?_
    rintro e w3 ⟨s, hs, rfl, hp3⟩
    go_wp2
    go_ret
    exact ⟨s, hs, rfl, opened_below hR hb1 (hp2.then hp3)⟩
end Go.Proofs.Ytgeldgikjcihgaa
