/- The specification's drawer of words: l13AnyWords. -/
import Derived.Test.YtliiffpegfkpbaaDrawW
namespace Go.Proofs.Ytliiffpegfkpbaa
open Go.RowKit
set_option maxHeartbeats 2000000 in
theorem l13AnyWords_any (R n : Nat) (w : World) (h : Rd w R n) (hn : n ≤ 900000) :
    Calls Try.prog 43 #[.pointer (some ⟨R, 0, none⟩)] w (StrP (fun u => u.size ≤ 1700) R (n + 30) w) := by
  go_enter Try.func43, Try.ntmps43
  go_wp2_with fail
  refine (l13Words_any R n 5 _ h (by omega) (by omega)).mono ?_
  rintro e w1 ⟨s, ⟨j, hj, hs⟩, rfl, hp1⟩
  have hs1 : s.size ≤ 40 := by omega
  clear hs
  go_wp2_with fail
  refine (pick_any R (n + 1 + 3 * 5) _ _ hp1.1 (by omega)).mono ?_
  rintro e w2 ⟨v, ⟨hv0, hv1⟩, rfl, hp2⟩
  have hp12 := hp1.then hp2
  by_cases h0 : v = 0
  · subst h0
    have f1 : ¬ 9223372036854775807 < s.size + 1 := by omega
    go_wp2
    go_ret
    exact ⟨_, by have : (⟨#[120]⟩ : ByteArray).size = 1 := rfl
                 simp; omega, rfl, hp12.mono (by omega)⟩
  · have b0 : (v == 0) = false := by simp; omega
    by_cases h1 : v = 1
    · subst h1
      go_wp2_with fail
      refine (l13Word_any R (n + 17) _ hp2.1 (by omega)).mono ?_
      rintro e w3 ⟨x, hx, rfl, hp3⟩
      go_wp2_with fail
      refine (pick_any R (n + 20) _ _ hp3.1 (by omega)).mono ?_
      rintro e w4 ⟨k, ⟨hk0, hk1⟩, rfl, hp4⟩
      have hk : k ≤ 1 := by omega
      have HX := Lib.hid hx
      have hx8 : x.size ≤ 8 := by omega
      clear hx hk1
      go_wp2_with fail
      refine (l1Many_any _ _ _ (by omega) (by omega) (by omega) (by rw [HX.out]; omega)).mono ?_
      rintro e w5 ⟨rfl, rfl⟩
      go_wp2
      go_ret
      refine ⟨_, ?_, rfl, ((hp12.then hp3).then hp4).mono (by omega)⟩
      show ByteArray.size _ ≤ 1700
      rw [rep8]
      have e8 : x.data.toList.length = 8 := by have := HX.out; simpa using this
      rw [e8]
      omega
    · have b1 : (v == 1) = false := by simp; omega
      go_wp2
      go_ret
      exact ⟨_, by omega, rfl, hp12.mono (by omega)⟩
end Go.Proofs.Ytliiffpegfkpbaa
