/- impl's word.text and withWord: the bytes of a word; words with another one at a place which is there. -/
import Derived.Test.YtliiffpegfkpbaaWText
import Derived.Test.YtliiffpegfkpbaaWalk1
namespace Go.Proofs.Ytliiffpegfkpbaa
open Go.RowKit

theorem ba_append (a b : ByteArray) : (a ++ b).data.toList = a.data.toList ++ b.data.toList := by simp
theorem put_string (s : ByteArray) (a : Nat) (l : List UInt8) (n : Nat) (hn : l.length = n) (h : a + n ≤ s.size) :
    s.extract 0 a ++ ⟨l.toArray⟩ ++ s.extract (a + n) s.size = ⟨(putL s.data.toList a l).toArray⟩ := by
  subst hn
  apply ext_ba
  rw [ba_append, ba_append, Lib.extract_data, Lib.extract_data]
  simp [putL, List.take_of_length_le]

theorem add_size (s : ByteArray) (a b : Nat) (h : a ≤ b) (hb : b ≤ s.size) : (s.extract a b).size = b - a := by simp; omega

set_option maxHeartbeats 1000000 in
theorem withWord_any (s : ByteArray) (i : Int) (l : List UInt8) (w : World) (hs : s.size ≤ maxLen) (h0 : 0 ≤ i) (hi : 8 * i + 8 ≤ s.size) (hl : l.length = 8) :
    Calls Try.prog 35 #[.string s, .int .i64 i, .agg (wd l)] w fun e w' => e = .returned (.string ⟨(putL s.data.toList (8 * i.toNat) l).toArray⟩) ∧ Below w.heap.size w w' := by
  obtain ⟨i, rfl⟩ := Int.eq_ofNat_of_zero_le h0
  unfold maxLen at hs
  obtain ⟨b0, b1, b2, b3, b4, b5, b6, b7, rfl⟩ := len8 hl
  have hfin := put_string s (8 * (i : Int).toNat) [b0, b1, b2, b3, b4, b5, b6, b7] 8 rfl (by omega)
  rw [← hfin, wd8, show 8 * (i : Int).toNat = i * 8 by omega]
  clear hfin hl
  have e1 : IntKind.i64.wrap ((i : Int) * 8) = (i : Int) * 8 := by rw [IntKind.wrap_i64]; omega
  have e2 : (0 : Int) ≤ (i : Int) * 8 := by omega
  have e3 : (i : Int) * 8 ≤ (s.size : Int) := by omega
  have e4 : ((i : Int) * 8).toNat = i * 8 := by omega
  have e5 : IntKind.i64.wrap ((i : Int) * 8 + 8) = (i : Int) * 8 + 8 := by rw [IntKind.wrap_i64]; omega
  have e6 : (0 : Int) ≤ (i : Int) * 8 + 8 := by omega
  have e7 : (i : Int) * 8 + 8 ≤ (s.size : Int) := by omega
  have e8 : ((i : Int) * 8 + 8).toNat = i * 8 + 8 := by omega
  have em : min (i * 8) s.size = i * 8 := by omega
  have f1 : ¬ 9223372036854775807 < i * 8 + 8 := by omega
  have f2 : ¬ 9223372036854775807 < i * 8 + 8 + (s.size - (i * 8 + 8)) := by omega
  go_enter Try.func35, Try.ntmps35
  go_wp2
  go_region_law (first | (go_simp; go_at_call 61; refine (text_lit _ _ _ _ _ _ _ _ _).mono ?_; rintro e w5 ⟨rfl, hb5⟩))
  all_goals
    clear e1 e2 e3 e4 e5 e6 e7 e8 em f1 f2
    have hB : Hid (Below w.heap.size w w5) := ((Below.refl w.heap.size w).alloc (Nat.le_refl _) _).drew.trans (hb5.mono (by simp))
    clear hb5
    go_wp2
    go_ret
    exact ⟨rfl, hB.out⟩
end Go.Proofs.Ytliiffpegfkpbaa
