/- impl.Get: what it answers at every argument. -/
import Derived.Test.YtliiffpegfkpbaaGetDef
import Derived.Test.YtliiffpegfkpbaaWordAt
import Derived.Test.YtliiffpegfkpbaaNumber
namespace Go.Proofs.Ytliiffpegfkpbaa
open Go.RowKit

theorem leN_out (l : List UInt8) : ∀ (k a : Nat), l.length ≤ a → leN l a k = 0
  | 0, _, _ => rfl
  | k + 1, a, h => by
    rw [leN, List.getElem?_eq_none h, leN_out l k (a + 1) (by omega)]
    rfl
/-- the number lies within one word: it is that word's. -/
theorem leN_word (l : List UInt8) (q : Nat) : ∀ (k a : Nat), a + k ≤ 8 → leN ((l.drop (8 * q)).take 8) a k = leN l (8 * q + a) k
  | 0, _, _ => rfl
  | k + 1, a, h => by
    rw [leN, leN, leN_word l q k (a + 1) (by omega), List.getElem?_take_of_lt (by omega), List.getElem?_drop]
    rfl

set_option maxHeartbeats 400000 in
theorem implGet_any (s : ByteArray) (at_ size : Int) (w : World) (hs : s.size ≤ maxLen) :
    Calls Try.prog 14 #[.string s, .int .i64 at_, .int .i64 size] w fun e w' => e = .returned (.int .i64 (getI s.data.toList at_ size)) ∧ Below w.heap.size w w' := by
  have hsl : s.data.toList.length = s.size := by simp
  cases hw : wordsB s.size
  · have hG : getI s.data.toList at_ size = 0 := by rw [getI, hsl, hw, if_neg (by simp)]
    rw [hG]
    clear hG hsl
    go_enter Try.func14, Try.ntmps14
    go_wp2_with (first | (go_at_call 30; refine (isWords_any _ _ hs).mono ?_; rintro e w' ⟨rfl, rfl⟩))
    go_ret
    exact ⟨rfl, Below.refl _ _⟩
  cases hp : placeB at_ size
  · have hG : getI s.data.toList at_ size = 0 := by rw [getI, hp, if_neg (by simp)]
    rw [hG]
    clear hG hsl
    go_enter Try.func14, Try.ntmps14
    go_wp2_with (first | (go_at_call 30; refine (isWords_any _ _ hs).mono ?_; rintro e w' ⟨rfl, rfl⟩) | (go_at_call 31; refine (isPlace_any _ _ _).mono ?_; rintro e w' ⟨rfl, rfl⟩))
    go_ret
    exact ⟨rfl, Below.refl _ _⟩
  have hp' : 0 ≤ at_ ∧ at_ ≤ 1600 ∧ ((size = 1 ∨ size = 2 ∨ size = 4 ∨ size = 8) ∧ at_ % size = 0) := by simpa [placeB] using hp
  obtain ⟨ha0, ha1, hz, hm⟩ := hp'
  have hw8 : s.size % 8 = 0 ∧ s.size ≤ 1600 := by simpa [wordsB] using hw
  obtain ⟨hw1, hw2⟩ := hw8
  obtain ⟨a, rfl⟩ := Int.eq_ofNat_of_zero_le ha0
  have hG : getI s.data.toList a size = wrap64 (leN s.data.toList a size.toNat : Nat) := by rw [getI, hsl, if_pos ⟨hw, hp⟩]; rfl
  by_cases hin : a < s.size
  · have hlen : ((s.data.toList.drop (8 * (a / 8))).take 8).length = 8 := by simp; omega
    have hsum : (a % 8 : Nat) + size ≤ 8 := by rcases hz with rfl | rfl | rfl | rfl <;> omega
    have hz0 : 0 ≤ size := by omega
    have hN := leN_word s.data.toList (a / 8) size.toNat (a % 8) (by omega)
    rw [show 8 * (a / 8) + a % 8 = a by omega] at hN
    rw [← hN] at hG
    have HG := Lib.hid hG
    have HL := Lib.hid hlen
    have HM := Lib.hid hm
    clear hN hG hlen hsl hm
    go_enter Try.func14, Try.ntmps14
    go_wp2_with (first | (go_at_call 30; refine (isWords_any _ _ hs).mono ?_; rintro e w' ⟨rfl, rfl⟩) | (go_at_call 31; refine (isPlace_any _ _ _).mono ?_; rintro e w' ⟨rfl, rfl⟩) | (go_at_call 33; go_must (refine (wordAt_any s _ _ hs (by omega) (by omega)).mono ?_); rintro e w1 ⟨rfl, hb1⟩) | (go_at_call 40; go_must (refine (number_any _ _ _ _ (by exact HL.out) (by omega) (by omega) (by omega)).mono ?_); rintro e w2 ⟨rfl, hb2⟩))
    go_ret
    refine ⟨ret_int ?_, hb1.trans (hb2.mono hb1.size)⟩
    rw [HG.out]
  · have hG0 : getI s.data.toList a size = 0 := by rw [hG, leN_out _ _ _ (by omega)]; simp [wrap64]
    rw [hG0]
    clear hG hG0 hsl
    go_enter Try.func14, Try.ntmps14
    go_wp2_with (first | (go_at_call 30; refine (isWords_any _ _ hs).mono ?_; rintro e w' ⟨rfl, rfl⟩) | (go_at_call 31; refine (isPlace_any _ _ _).mono ?_; rintro e w' ⟨rfl, rfl⟩))
    go_ret
    exact ⟨rfl, Below.refl _ _⟩

end Go.Proofs.Ytliiffpegfkpbaa
