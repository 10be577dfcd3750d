/- What was put is got, and put back: on lists of bytes. -/
import Derived.Test.YtliiffpegfkpbaaPut2
import Derived.Test.YtliiffpegfkpbaaMathGet
namespace Go.Proofs.Ytliiffpegfkpbaa
open Go.RowKit
theorem leB_wrap64 (N : Nat) (k : Nat) (hk : k ≤ 8) : leB (wrap64 (N : Int)) k = leB (N : Int) k := by
  have h : IntKind.u64.wrap (wrap64 (N : Int)) = IntKind.u64.wrap (N : Int) := by
    rw [IntKind.wrap_u64, IntKind.wrap_u64]; unfold wrap64; omega
  rw [← leB_u64 (wrap64 (N : Int)) k hk, h, leB_u64 _ k hk]
theorem putB_parts {l : List UInt8} {a z n : Int} (h : putB l a z n = true) :
    (l.length % 8 = 0 ∧ l.length ≤ 1600) ∧ placeB a z = true ∧ fitsB n z = true ∧ 0 ≤ a ∧ a.toNat + z.toNat ≤ l.length ∧ (z = 1 ∨ z = 2 ∨ z = 4 ∨ z = 8) := by
  simp only [putB, putOk, Bool.and_eq_true, decide_eq_true_eq] at h
  obtain ⟨hw, hp, hin, hf⟩ := h
  have hw8 : l.length % 8 = 0 ∧ l.length ≤ 1600 := by simpa [wordsB] using hw
  have hp' : 0 ≤ a ∧ a ≤ 1600 ∧ ((z = 1 ∨ z = 2 ∨ z = 4 ∨ z = 8) ∧ a % z = 0) := by simpa [placeB] using hp
  obtain ⟨ha0, ha1, hz, hm⟩ := hp'
  refine ⟨hw8, hp, hf, ha0, ?_, hz⟩
  rcases hz with rfl | rfl | rfl | rfl <;> omega
theorem putT_eq {l : List UInt8} {a z n : Int} (h : putB l a z n = true) : putT l a z n = putL l a.toNat (leB n z.toNat) := by
  simp only [putB, Bool.and_eq_true] at h
  rw [putT, if_pos h.1, if_pos h.2]
theorem putT_length {l : List UInt8} {a z n : Int} (h : putB l a z n = true) : (putT l a z n).length = l.length := by
  obtain ⟨_, _, _, _, hin, _⟩ := putB_parts h
  rw [putT_eq h, putL_length _ _ _ (by rw [leB_length]; exact hin)]
theorem getI_eq {l : List UInt8} {a z : Int} (hw : l.length % 8 = 0 ∧ l.length ≤ 1600) (hp : placeB a z = true) : getI l a z = wrap64 (leN l a.toNat z.toNat : Nat) := by
  rw [getI, if_pos ⟨by simpa [wordsB] using hw, hp⟩]
theorem put_got {l : List UInt8} {a z n : Int} (h : putB l a z n = true) (hn : -9223372036854775808 ≤ n ∧ n ≤ 9223372036854775807) : getI (putT l a z n) a z = n := by
  have hl := putT_length h
  obtain ⟨hw, hp, hf, ha, hin, hz⟩ := putB_parts h
  rw [getI_eq (by rw [hl]; exact hw) hp, putT_eq h, leN_putL _ _ _ _ hin]
  have hf' : z = 8 ∨ (0 ≤ n ∧ n < 256 ^ z.toNat) := by simpa [fitsB] using hf
  obtain ⟨hn0, hn1⟩ := hn
  rcases hz with rfl | rfl | rfl | rfl
  · have e : (256 : Int) ^ (1 : Int).toNat = 256 := rfl
    rw [e] at hf' ⊢
    unfold wrap64; omega
  · have e : (256 : Int) ^ (2 : Int).toNat = 65536 := rfl
    rw [e] at hf' ⊢
    unfold wrap64; omega
  · have e : (256 : Int) ^ (4 : Int).toNat = 4294967296 := rfl
    rw [e] at hf' ⊢
    unfold wrap64; omega
  · have e : (256 : Int) ^ (8 : Int).toNat = 18446744073709551616 := rfl
    rw [e]
    unfold wrap64; omega
theorem got_fits {l : List UInt8} {a z : Int} (hw : l.length % 8 = 0 ∧ l.length ≤ 1600) (hp : placeB a z = true) (hz : z = 1 ∨ z = 2 ∨ z = 4 ∨ z = 8) : fitsB (getI l a z) z = true := by
  have hlt := leN_lt l z.toNat a.toNat
  rw [getI_eq hw hp]
  rcases hz with rfl | rfl | rfl | rfl
  · have e : (256 : Nat) ^ (1 : Int).toNat = 256 := rfl
    have e2 : (256 : Int) ^ (1 : Int).toNat = 256 := rfl
    rw [e] at hlt
    generalize leN l a.toNat (1 : Int).toNat = N at hlt ⊢
    rw [wrap64_small _ (by omega), fitsB, e2]
    simp; omega
  · have e : (256 : Nat) ^ (2 : Int).toNat = 65536 := rfl
    have e2 : (256 : Int) ^ (2 : Int).toNat = 65536 := rfl
    rw [e] at hlt
    generalize leN l a.toNat (2 : Int).toNat = N at hlt ⊢
    rw [wrap64_small _ (by omega), fitsB, e2]
    simp; omega
  · have e : (256 : Nat) ^ (4 : Int).toNat = 4294967296 := rfl
    have e2 : (256 : Int) ^ (4 : Int).toNat = 4294967296 := rfl
    rw [e] at hlt
    generalize leN l a.toNat (4 : Int).toNat = N at hlt ⊢
    rw [wrap64_small _ (by omega), fitsB, e2]
    simp; omega
  · simp [fitsB]
theorem put_backB {l : List UInt8} {a z n : Int} (h : putB l a z n = true) : putB (putT l a z n) a z (getI l a z) = true := by
  have hl := putT_length h
  have h' := h
  obtain ⟨hw, hp, hf, ha, hin, hz⟩ := putB_parts h
  simp only [putB, putOk, Bool.and_eq_true, decide_eq_true_eq] at h' ⊢
  rw [hl]
  exact ⟨h'.1, h'.2.1, h'.2.2.1, got_fits hw hp hz⟩
theorem put_backT {l : List UInt8} {a z n : Int} (h : putB l a z n = true) : putT (putT l a z n) a z (getI l a z) = l := by
  obtain ⟨hw, hp, hf, ha, hin, hz⟩ := putB_parts h
  rw [putT_eq (put_backB h), putT_eq h, getI_eq hw hp, leB_wrap64 _ _ (by omega), leB_leN _ _ _ hin]
  have := putL_back l a.toNat (leB n z.toNat) (by rw [leB_length]; exact hin)
  rw [leB_length] at this
  exact this
theorem getI_bd (l : List UInt8) (a z : Int) : -9223372036854775808 ≤ getI l a z ∧ getI l a z ≤ 9223372036854775807 := by
  rw [getI]
  split
  · unfold wrap64; omega
  · omega
theorem putT_bd (l : List UInt8) (a z n : Int) (b : Nat) (h : l.length ≤ b) : (putT l a z n).length ≤ b := by
  cases hB : putB l a z n
  · rw [putT]
    split
    · rename_i h1
      rw [putB, h1, Bool.true_and] at hB
      rw [if_neg (by rw [hB]; simp)]
      exact h
    · simp
  · rw [putT_length hB]; exact h
end Go.Proofs.Ytliiffpegfkpbaa
