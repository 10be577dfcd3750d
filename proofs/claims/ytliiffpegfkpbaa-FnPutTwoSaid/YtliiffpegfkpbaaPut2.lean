/- impl.Put and spec.Put answer the same: words with a number put in, at every argument. -/
import Derived.Test.YtliiffpegfkpbaaGet
import Derived.Test.YtliiffpegfkpbaaWordAt
import Derived.Test.YtliiffpegfkpbaaSpec1
import Derived.Test.YtliiffpegfkpbaaPut
import Derived.Test.YtliiffpegfkpbaaText
import Derived.Test.YtliiffpegfkpbaaBytes
namespace Go.Proofs.Ytliiffpegfkpbaa
open Go.RowKit

/-- a number of k bytes is told by its lowest 8 k bits. -/
theorem leB_mod (n m : Int) : ∀ (k : Nat) (c : Int), n = m + c * 256 ^ k → leB n k = leB m k
  | 0, _, _ => rfl
  | k + 1, c, h => by
    have e : n = m + 256 * (c * 256 ^ k) := by rw [h, Int.pow_succ, Int.mul_comm (256 ^ k) 256, ← Int.mul_assoc, Int.mul_comm c 256, Int.mul_assoc]
    rw [leB, leB, leB_mod (n / 256) (m / 256) k c (by omega), show n % 256 = m % 256 by omega]
theorem leB_u64 (n : Int) (k : Nat) (hk : k ≤ 8) : leB (IntKind.u64.wrap n) k = leB n k := by
  rw [IntKind.wrap_u64]
  obtain ⟨j, hj⟩ : ∃ j, 8 = k + j := ⟨8 - k, by omega⟩
  refine (leB_mod n _ k (n / 18446744073709551616 * 256 ^ j) ?_).symm
  have h8 : (18446744073709551616 : Int) = 256 ^ j * 256 ^ k := by
    rw [← Int.pow_add, show j + k = 8 by omega]; rfl
  rw [Int.mul_assoc, ← h8]
  omega
/-- bytes put within one word of words. -/
theorem putL_word (l : List UInt8) (q r : Nat) (xs : List UInt8) (h1 : r + xs.length ≤ 8) (h2 : 8 * q + 8 ≤ l.length) :
    putL l (8 * q) (putL ((l.drop (8 * q)).take 8) r xs) = putL l (8 * q + r) xs := by
  have hl : ((l.drop (8 * q)).take 8).length = 8 := by simp; omega
  have hp : (putL ((l.drop (8 * q)).take 8) r xs).length = 8 := by rw [putL_length _ _ _ (by omega), hl]
  rw [putL, hp, putL, putL]
  have e1 : l.take (8 * q) ++ ((l.drop (8 * q)).take 8).take r = l.take (8 * q + r) := by
    rw [List.take_take, Nat.min_eq_left (by omega), ← List.take_add]
  have e2 : ((l.drop (8 * q)).take 8).drop (r + xs.length) ++ l.drop (8 * q + 8) = l.drop (8 * q + r + xs.length) := by
    have h := List.take_append_drop (8 - (r + xs.length)) (l.drop (8 * q + r + xs.length))
    rw [List.drop_drop, show 8 * q + r + xs.length + (8 - (r + xs.length)) = 8 * q + 8 by omega] at h
    rw [List.drop_take, List.drop_drop, show 8 * q + (r + xs.length) = 8 * q + r + xs.length by omega]
    exact h
  simp only [← List.append_assoc]
  rw [e1]
  simp only [List.append_assoc]
  rw [e2]

/-- Put may put. -/
def putOk (l : List UInt8) (at_ size n : Int) : Bool := placeB at_ size && (decide (at_ < l.length) && fitsB n size)
/-- what Put answers: the text. -/
def putT (l : List UInt8) (at_ size n : Int) : List UInt8 := if wordsB l.length = true then (if putOk l at_ size n = true then putL l at_.toNat (leB n size.toNat) else l) else []
/-- what Put answers: whether. -/
def putB (l : List UInt8) (at_ size n : Int) : Bool := wordsB l.length && putOk l at_ size n
theorem ba_eta (s : ByteArray) : (⟨s.data.toList.toArray⟩ : ByteArray) = s := by cases s; simp

set_option maxHeartbeats 1000000 in
theorem implPut_any (s : ByteArray) (at_ size n : Int) (w : World) (hs : s.size ≤ maxLen) (hn : -9223372036854775808 ≤ n ∧ n ≤ 9223372036854775807) :
    Calls Try.prog 12 #[.string s, .int .i64 at_, .int .i64 size, .int .i64 n] w fun e w' =>
      e = .returned (.tuple #[.string ⟨(putT s.data.toList at_ size n).toArray⟩, .bool (putB s.data.toList at_ size n)]) ∧ Below w.heap.size w w' := by
  have hsl : s.data.toList.length = s.size := by simp
  cases hw : wordsB s.size
  · have hT : putT s.data.toList at_ size n = [] := by rw [putT, hsl, hw, if_neg (by simp)]
    have hB : putB s.data.toList at_ size n = false := by rw [putB, hsl, hw, Bool.false_and]
    rw [hT, hB]
    clear hT hB hsl
    go_enter Try.func12, Try.ntmps12
    go_wp2_with (first | (go_at_call 30; refine (isWords_any _ _ hs).mono ?_; rintro e w' ⟨rfl, rfl⟩))
    go_ret2
    exact ⟨rfl, Below.refl _ _⟩
  have hno : putOk s.data.toList at_ size n = false → putT s.data.toList at_ size n = s.data.toList ∧ putB s.data.toList at_ size n = false := fun h => by
    rw [putT, putB, hsl, hw, h, if_pos rfl, if_neg (by simp)]; exact ⟨rfl, rfl⟩
  cases hp : placeB at_ size
  · obtain ⟨hT, hB⟩ := hno (by rw [putOk, hp, Bool.false_and])
    rw [hT, hB, ba_eta]
    clear hT hB hno hsl
    go_enter Try.func12, Try.ntmps12
    go_wp2_with (first | (go_at_call 30; refine (isWords_any _ _ hs).mono ?_; rintro e w' ⟨rfl, rfl⟩) | (go_at_call 31; refine (isPlace_any _ _ _).mono ?_; rintro e w' ⟨rfl, rfl⟩))
    go_ret2
    exact ⟨rfl, Below.refl _ _⟩
  have hp' : 0 ≤ at_ ∧ at_ ≤ 1600 ∧ ((size = 1 ∨ size = 2 ∨ size = 4 ∨ size = 8) ∧ at_ % size = 0) := by simpa [placeB] using hp
  obtain ⟨ha0, ha1, hz, hm⟩ := hp'
  have hw8 : s.size % 8 = 0 ∧ s.size ≤ 1600 := by simpa [wordsB] using hw
  obtain ⟨hw1, hw2⟩ := hw8
  obtain ⟨a, rfl⟩ := Int.eq_ofNat_of_zero_le ha0
  by_cases hin : a < s.size
  · cases hf : fitsB n size
    · obtain ⟨hT, hB⟩ := hno (by rw [putOk, hf, Bool.and_false, Bool.and_false])
      rw [hT, hB, ba_eta]
      clear hT hB hno hsl hm
      go_enter Try.func12, Try.ntmps12
      go_wp2_with (first | (go_at_call 30; refine (isWords_any _ _ hs).mono ?_; rintro e w' ⟨rfl, rfl⟩) | (go_at_call 31; refine (isPlace_any _ _ _).mono ?_; rintro e w' ⟨rfl, rfl⟩) | (go_at_call 32; refine (fitsBytes_any _ _ _ hz hn).mono ?_; rintro e w' ⟨rfl, rfl⟩))
      go_ret2
      exact ⟨rfl, Below.refl _ _⟩
    · have hok : putOk s.data.toList a size n = true := by rw [putOk, hp, hf, hsl]; simpa using hin
      have hT : putT s.data.toList a size n = putL s.data.toList a (leB n size.toNat) := by rw [putT, hsl, hw, hok, if_pos rfl, if_pos rfl]; rfl
      have hB : putB s.data.toList a size n = true := by rw [putB, hsl, hw, hok]; rfl
      have hlen : ((s.data.toList.drop (8 * (a / 8))).take 8).length = 8 := by simp; omega
      have hsum : (a % 8 : Nat) + size ≤ 8 := by rcases hz with rfl | rfl | rfl | rfl <;> omega
      have hz0 : 0 ≤ size := by omega
      have hN := putL_word s.data.toList (a / 8) (a % 8) (leB n size.toNat) (by rw [leB_length]; omega) (by rw [hsl]; omega)
      rw [show 8 * (a / 8) + a % 8 = a by omega, ← leB_u64 n size.toNat (by omega)] at hN
      rw [hT, hB, ← leB_u64 n size.toNat (by omega), ← hN]
      have hpl : (putL ((s.data.toList.drop (8 * (a / 8))).take 8) (a % 8) (leB (IntKind.u64.wrap n) size.toNat)).length = 8 := by rw [putL_length _ _ _ (by rw [leB_length]; omega), hlen]
      have HL := Lib.hid hlen
      have HP := Lib.hid hpl
      have HM := Lib.hid hm
      have hm0 : 0 ≤ IntKind.u64.wrap n := wrap_u64_nonneg n
      have hm1 : IntKind.u64.wrap n < 18446744073709551616 := by rw [IntKind.wrap_u64]; omega
      clear hN hT hB hlen hsl hm hok hno hpl
      go_enter Try.func12, Try.ntmps12
      go_wp2_with (first | (go_at_call 30; refine (isWords_any _ _ hs).mono ?_; rintro e w' ⟨rfl, rfl⟩) | (go_at_call 31; refine (isPlace_any _ _ _).mono ?_; rintro e w' ⟨rfl, rfl⟩) | (go_at_call 32; refine (fitsBytes_any _ _ _ hz hn).mono ?_; rintro e w' ⟨rfl, rfl⟩) | (go_at_call 33; go_must (refine (wordAt_any s _ _ hs (by omega) (by omega)).mono ?_); rintro e w1 ⟨rfl, hb1⟩) | (go_at_call 34; go_must (refine (put_any _ _ _ _ _ (by exact HL.out) (by omega) (by omega) (by omega) (by omega) (by omega)).mono ?_); rintro e w2 ⟨rfl, hb2⟩) | (refine wpList_store_wd rfl 48 (.tmp 10) (.tmp 40) rfl w2.heap.size (putL ((s.data.toList.drop (8 * (a / 8))).take 8) (a % 8) (leB (IntKind.u64.wrap n) size.toNat)) rfl rfl 48 _ (heap_alloc_new w2 _) (by rw [HP.out]; exact size46) (by rw [HP.out]; rfl) ?_; intro w3 hg3 hb3) | (refine wpList_load_wd rfl 48 (.tmp 10) rfl w2.heap.size rfl 48 _ _ hg3.out Try.underlying48 rfl (by rw [HP.out]; exact size46) ?_) | (go_at_call 35; go_must (refine (withWord_any s _ _ _ hs (by omega) (by omega) HP.out).mono ?_); rintro e w4 ⟨rfl, hb4⟩))
      go_ret2
      refine ⟨rfl, ?_⟩
      have hB2 : Below w.heap.size w w2 := hb1.trans (hb2.mono hb1.size)
      exact ((hB2.alloc hB2.size _).grown hb3.out (by have := hB2.size; simp; omega) (fun k e => by cases e; exact hB2.size)).trans (hb4.mono (by have := hB2.size; have := hb3.out.size; simp at this; omega))
  · obtain ⟨hT, hB⟩ := hno (by rw [putOk, hsl]; simp; intros; omega)
    rw [hT, hB, ba_eta]
    clear hT hB hno hsl hm
    go_enter Try.func12, Try.ntmps12
    go_wp2_with (first | (go_at_call 30; refine (isWords_any _ _ hs).mono ?_; rintro e w' ⟨rfl, rfl⟩) | (go_at_call 31; refine (isPlace_any _ _ _).mono ?_; rintro e w' ⟨rfl, rfl⟩))
    go_ret2
    exact ⟨rfl, Below.refl _ _⟩

theorem inB_01 (n : Int) : inB n 0 1 = decide (n = 0 ∨ n = 1) := by rw [Bool.eq_iff_iff]; simp [inB]; omega
set_option maxHeartbeats 400000 in
theorem l1Fits_any (n size : Int) (w : World) (hz : size = 1 ∨ size = 2 ∨ size = 4 ∨ size = 8) :
    Calls Try.prog 38 #[.int .i64 n, .int .i64 size] w fun e w' => e = .returned (.bool (fitsB n size)) ∧ w = w' := by
  rcases hz with rfl | rfl | rfl | rfl
  all_goals
    go_enter Try.func38, Try.ntmps38
    go_wp2_with (first | (go_at_call 41; refine (l1In_any _ _ _ _).mono ?_; rintro e w' ⟨rfl, rfl⟩))
    go_ret
    refine ⟨ret_bool ?_, rfl⟩
    rw [Bool.eq_iff_iff]; simp [fitsB, inB]; try omega

end Go.Proofs.Ytliiffpegfkpbaa
