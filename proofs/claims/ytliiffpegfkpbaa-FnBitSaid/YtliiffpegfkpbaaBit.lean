/- impl's word.bit and BitGet, spec.BitGet: what they answer at every argument. -/
import Derived.Test.YtliiffpegfkpbaaMath2
import Derived.Test.YtliiffpegfkpbaaWordAt
import Derived.Test.YtliiffpegfkpbaaWalk1
import Derived.Test.YtliiffpegfkpbaaSpec1
namespace Go.Proofs.Ytliiffpegfkpbaa
open Go.RowKit

/-- a bit of bytes; 0 if there is none. -/
def bitN (l : List UInt8) (i : Nat) : Nat := (l[i / 8]?.getD 0).toNat / 2 ^ (i % 8) % 2

set_option maxHeartbeats 400000 in
theorem bit_any (l : List UInt8) (at_ : Int) (w : World) (hl : l.length = 8) (h0 : 0 ≤ at_) (h1 : at_ < 64) :
    Calls Try.prog 49 #[.agg (wd l), .int .i64 at_] w fun e w' => e = .returned (.int .i64 (bitN l at_.toNat : Nat)) ∧ Below w.heap.size w w' := by
  obtain ⟨a, rfl⟩ := Int.eq_ofNat_of_zero_le h0
  have hc := wd_cell w l 48 (a / 8) (by omega)
  have HL := Lib.hid hl
  clear hl
  go_enter Try.func49, Try.ntmps49
  go_wp2
  go_ret
  refine ⟨ret_int ?_, (Below.refl _ _).alloc (Nat.le_refl _) _⟩
  rw [bit_u8 _ _ (byte_lt l _)]
  rfl
set_option maxHeartbeats 400000 in
theorem isBit_any (s : ByteArray) (at_ : Int) (w : World) (hs : s.size ≤ 1600) :
    Calls Try.prog 46 #[.string s, .int .i64 at_] w fun e w' => e = .returned (.bool (decide (0 ≤ at_ ∧ at_ < 8 * s.size))) ∧ w = w' := by
  by_cases h1 : 0 ≤ at_
  all_goals
    go_enter Try.func46, Try.ntmps46
    go_wp2
    all_goals go_ret
    all_goals refine ⟨ret_bool ?_, rfl⟩
    all_goals (rw [Bool.eq_iff_iff]; simp; omega)

set_option maxHeartbeats 400000 in
theorem specBitGet_yes (s : ByteArray) (a : Nat) (w : World) (hs : s.size ≤ maxLen) (hw : wordsB s.size = true) (hin : a < 8 * s.size) (h16 : s.size ≤ 1600) :
    Calls Try.prog 21 #[.string s, .int .i64 a] w fun e w' => e = .returned (.int .i64 (bitN s.data.toList a : Nat)) ∧ w = w' := by
  have h8 : a / 8 < s.size := by omega
  go_enter Try.func21, Try.ntmps21
  go_wp2_with (first | (go_at_call 36; refine (l1Ok_any _ _ hs).mono ?_; rintro e w' ⟨rfl, rfl⟩))
  go_ret
  refine ⟨ret_int ?_, rfl⟩
  rw [bit_i64 _ _ (s[a / 8]).toNat_lt, bitN, bytes_get s _ h8]

/-- there is such a bit. -/
def bitB (l : List UInt8) (at_ : Int) : Bool := wordsB l.length && decide (0 ≤ at_ ∧ at_ < 8 * l.length)
/-- what BitGet answers. -/
def bitI (l : List UInt8) (at_ : Int) : Int := if bitB l at_ = true then (bitN l at_.toNat : Nat) else 0

set_option maxHeartbeats 400000 in
theorem specBitGet_any (s : ByteArray) (at_ : Int) (w : World) (hs : s.size ≤ maxLen) :
    Calls Try.prog 21 #[.string s, .int .i64 at_] w fun e w' => e = .returned (.int .i64 (bitI s.data.toList at_)) ∧ w = w' := by
  have hsl : s.data.toList.length = s.size := by simp
  cases hw : wordsB s.size
  · have hG : bitI s.data.toList at_ = 0 := by rw [bitI, bitB, hsl, hw, if_neg (by simp)]
    rw [hG]
    clear hG hsl
    go_enter Try.func21, Try.ntmps21
    go_wp2_with (first | (go_at_call 36; refine (l1Ok_any _ _ hs).mono ?_; rintro e w' ⟨rfl, rfl⟩))
    go_ret
    exact ⟨rfl, rfl⟩
  have hw8 : s.size % 8 = 0 ∧ s.size ≤ 1600 := by simpa [wordsB] using hw
  obtain ⟨hw1, hw2⟩ := hw8
  by_cases h0 : at_ < 0
  · have hG : bitI s.data.toList at_ = 0 := by rw [bitI, if_neg (by simp [bitB]; intros; omega)]
    rw [hG]
    clear hG hsl
    go_enter Try.func21, Try.ntmps21
    go_wp2_with (first | (go_at_call 36; refine (l1Ok_any _ _ hs).mono ?_; rintro e w' ⟨rfl, rfl⟩))
    go_ret
    exact ⟨rfl, rfl⟩
  obtain ⟨a, rfl⟩ := Int.eq_ofNat_of_zero_le (show 0 ≤ at_ by omega)
  by_cases h1 : a < 8 * s.size
  · have hG : bitI s.data.toList a = (bitN s.data.toList a : Nat) := by rw [bitI, bitB, hsl, hw, if_pos (by simp; omega)]; rfl
    rw [hG]
    exact specBitGet_yes s a w hs hw h1 hw2
  · have hG : bitI s.data.toList a = 0 := by rw [bitI, bitB, hsl, if_neg (by simp; intros; omega)]
    rw [hG]
    clear hG hsl
    go_enter Try.func21, Try.ntmps21
    go_wp2_with (first | (go_at_call 36; refine (l1Ok_any _ _ hs).mono ?_; rintro e w' ⟨rfl, rfl⟩))
    go_ret
    exact ⟨rfl, rfl⟩

/-- a bit within one word is that word's. -/
theorem bitN_word (l : List UInt8) (a : Nat) : bitN ((l.drop (8 * (a / 64))).take 8) (a % 64) = bitN l a := by
  rw [bitN, bitN, List.getElem?_take_of_lt (by omega), List.getElem?_drop, show 8 * (a / 64) + a % 64 / 8 = a / 8 by omega, show a % 64 % 8 = a % 8 by omega]

set_option maxHeartbeats 400000 in
theorem implBitGet_any (s : ByteArray) (at_ : Int) (w : World) (hs : s.size ≤ maxLen) :
    Calls Try.prog 20 #[.string s, .int .i64 at_] w fun e w' => e = .returned (.int .i64 (bitI s.data.toList at_)) ∧ Below w.heap.size w w' := by
  have hsl : s.data.toList.length = s.size := by simp
  cases hw : wordsB s.size
  · have hG : bitI s.data.toList at_ = 0 := by rw [bitI, bitB, hsl, hw, if_neg (by simp)]
    rw [hG]
    clear hG hsl
    go_enter Try.func20, Try.ntmps20
    go_wp2_with (first | (go_at_call 30; refine (isWords_any _ _ hs).mono ?_; rintro e w' ⟨rfl, rfl⟩))
    go_ret
    exact ⟨rfl, Below.refl _ _⟩
  have hw8 : s.size % 8 = 0 ∧ s.size ≤ 1600 := by simpa [wordsB] using hw
  obtain ⟨hw1, hw2⟩ := hw8
  by_cases hin : 0 ≤ at_ ∧ at_ < 8 * s.size
  · obtain ⟨a, rfl⟩ := Int.eq_ofNat_of_zero_le hin.1
    have hlt : a < 8 * s.size := by omega
    have hG : bitI s.data.toList a = (bitN ((s.data.toList.drop (8 * (a / 64))).take 8) (a % 64) : Nat) := by rw [bitI, bitB, hsl, hw, if_pos (by simp; omega), bitN_word]; rfl
    have hlen : ((s.data.toList.drop (8 * (a / 64))).take 8).length = 8 := by simp; omega
    have hb : decide (0 ≤ (a : Int) ∧ (a : Int) < 8 * s.size) = true := by simp; omega
    have HI := Lib.hid hb
    have HL := Lib.hid hlen
    rw [hG]
    clear hG hsl hlen hin hb
    go_enter Try.func20, Try.ntmps20
    go_wp2_with (first | (go_at_call 30; refine (isWords_any _ _ hs).mono ?_; rintro e w' ⟨rfl, rfl⟩) | (go_at_call 46; refine (isBit_any _ _ _ hw2).mono ?_; rw [HI.out]; rintro e w' ⟨rfl, rfl⟩) | (go_at_call 33; go_must (refine (wordAt_any s _ _ hs (by omega) (by omega)).mono ?_); rintro e w1 ⟨rfl, hb1⟩) | (go_at_call 49; go_must (refine (bit_any _ _ _ (by exact HL.out) (by omega) (by omega)).mono ?_); rintro e w2 ⟨rfl, hb2⟩))
    go_ret
    exact ⟨rfl, hb1.trans (hb2.mono hb1.size)⟩
  · have hG : bitI s.data.toList at_ = 0 := by rw [bitI, bitB, hsl, if_neg (by simp; intros; omega)]
    have hb : decide (0 ≤ at_ ∧ at_ < 8 * s.size) = false := by simpa using hin
    have HI := Lib.hid hb
    rw [hG]
    clear hG hsl hin hb
    go_enter Try.func20, Try.ntmps20
    go_wp2_with (first | (go_at_call 30; refine (isWords_any _ _ hs).mono ?_; rintro e w' ⟨rfl, rfl⟩) | (go_at_call 46; refine (isBit_any _ _ _ hw2).mono ?_; rw [HI.out]; rintro e w' ⟨rfl, rfl⟩))
    go_ret
    exact ⟨rfl, Below.refl _ _⟩

end Go.Proofs.Ytliiffpegfkpbaa
