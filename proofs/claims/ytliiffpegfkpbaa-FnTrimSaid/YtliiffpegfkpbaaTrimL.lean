/- impl.Trim as spec.Trim; the laws FnExactTrim and FnTrim walked. -/
import Derived.Test.YtliiffpegfkpbaaTrimI
import Derived.Test.YtliiffpegfkpbaaGet
import Derived.Test.YtliiffpegfkpbaaDraw3
import Derived.Test.YtliiffpegfkpbaaPutGet
namespace Go.Proofs.Ytliiffpegfkpbaa
open Go.RowKit
theorem trim_string (s : ByteArray) (hw : wordsB s.size = true) : s.extract 0 (8 * nzN (wordsQ s.data.toList)) = ⟨(trimB s.data.toList).toArray⟩ := by
  have hsl : s.data.toList.length = s.size := by simp
  apply ext_ba
  rw [Lib.extract_data, nzN_words, trimB, hsl, if_pos hw]
  simp
set_option maxHeartbeats 1000000 in
theorem implTrim_any (s : ByteArray) (w : World) (hs : s.size ≤ maxLen) :
    Calls Try.prog 23 #[.string s] w fun e w' => e = .returned (.string ⟨(trimB s.data.toList).toArray⟩) ∧ Below w.heap.size w w' := by
  cases hw : wordsB s.size
  · have hsl : s.data.toList.length = s.size := by simp
    have hT : trimB s.data.toList = [] := by rw [trimB, hsl, hw, if_neg (by simp)]
    rw [hT]
    clear hsl hT
    go_enter Try.func23, Try.ntmps23
    go_wp2_with (go_at_call 30; refine (isWords_any _ _ hs).mono ?_; rintro e w' ⟨rfl, rfl⟩)
    go_ret
    exact ⟨rfl, Below.refl _ _⟩
  · rw [← trim_string s hw]
    exact callsIn_wide.1 (trim_in s w hs hw)
theorem leN_zero (l : List UInt8) : ∀ (k a : Nat), leN l a k = 0 ↔ ∀ i, i < k → l[a + i]?.getD 0 = 0
  | 0, _ => by simp [leN]
  | k + 1, a => by
    have ih := leN_zero l k (a + 1)
    rw [leN]
    constructor
    · intro h i hi
      have h1 : (l[a]?.getD 0).toNat = 0 := by omega
      have h2 : leN l (a + 1) k = 0 := by omega
      cases i with
      | zero => exact UInt8.toNat_inj.1 (by simpa using h1)
      | succ j => have := ih.1 h2 j (by omega); rwa [show a + (j + 1) = a + 1 + j by omega]
    · intro h
      have h1 := h 0 (by omega)
      have h2 := ih.2 (fun i hi => by have := h (i + 1) (by omega); rwa [show a + (i + 1) = a + 1 + i by omega] at this)
      simp only [Nat.add_zero] at h1
      rw [h1, h2]; rfl
theorem zer_word (l : List UInt8) (q : Nat) (h : 8 * q + 8 ≤ l.length) : zerB ((l.drop (8 * q)).take 8) = true ↔ leN l (8 * q) 8 = 0 := by
  rw [leN_zero, zerB, List.all_eq_true]
  constructor
  · intro hz i hi
    have hm : ((l.drop (8 * q)).take 8)[i]? = l[8 * q + i]? := by rw [List.getElem?_take_of_lt (by omega), List.getElem?_drop]
    rw [← hm]
    have hlt : i < ((l.drop (8 * q)).take 8).length := by simp; omega
    rw [List.getElem?_eq_getElem hlt]
    have := hz _ (List.getElem_mem hlt)
    simpa using this
  · intro hz x hx
    obtain ⟨i, hi, rfl⟩ := List.mem_iff_getElem.1 hx
    have hi8 : i < 8 := by simp at hi; omega
    have hm : ((l.drop (8 * q)).take 8)[i]? = l[8 * q + i]? := by rw [List.getElem?_take_of_lt (by omega), List.getElem?_drop]
    have := hz i hi8
    rw [← hm, List.getElem?_eq_getElem hi] at this
    simpa using this
theorem trimN_idem (l : List UInt8) : ∀ k, trimN l (trimN l k) = trimN l k
  | 0 => rfl
  | k + 1 => by
    rw [trimN]
    split
    · exact trimN_idem l k
    · rename_i h; rw [trimN, if_neg h]
theorem trimN_zero (l : List UInt8) : ∀ (k q : Nat), trimN l k ≤ q → q < k → zerB ((l.drop (8 * q)).take 8) = true
  | 0, _, _, h => absurd h (by omega)
  | k + 1, q, h1, h2 => by
    rw [trimN] at h1
    split at h1
    · rename_i hz
      by_cases he : q = k
      · rw [he]; exact hz
      · exact trimN_zero l k q h1 (by omega)
    · omega
theorem trimN_top (l : List UInt8) : ∀ (k : Nat), 0 < trimN l k → zerB ((l.drop (8 * (trimN l k - 1))).take 8) = false
  | 0, h => absurd h (by simp [trimN])
  | k + 1, h => by
    rw [trimN] at h ⊢
    split at h
    · rename_i hz; rw [if_pos hz]; exact trimN_top l k h
    · rename_i hz; rw [if_neg hz]; simpa using hz
theorem trimN_congr (l m : List UInt8) : ∀ k, (∀ q, q < k → (l.drop (8 * q)).take 8 = (m.drop (8 * q)).take 8) → trimN l k = trimN m k
  | 0, _ => rfl
  | k + 1, h => by rw [trimN, trimN, h k (by omega), trimN_congr l m k (fun q hq => h q (by omega))]
theorem word_take (l : List UInt8) (t q : Nat) (h : q < t) : ((l.take (8 * t)).drop (8 * q)).take 8 = (l.drop (8 * q)).take 8 := by
  rw [List.drop_take, List.take_take, Nat.min_eq_left (by omega)]
/-- what is left of words that Trim has cut. -/
theorem trim_law {l : List UInt8} (hw : wordsB l.length = true) :
    (∃ t, trimB l = l.take (8 * t) ∧ 8 * t ≤ l.length ∧ trimB (trimB l) = trimB l ∧ (0 < t → getI (trimB l) ((8 * t : Nat) - 8 : Int) 8 ≠ 0) ∧
      ∀ q : Nat, 8 * q < l.length → getI (trimB l) (8 * (q : Int)) 8 = getI l (8 * (q : Int)) 8) := by
  have hw8 : l.length % 8 = 0 ∧ l.length ≤ 1600 := by simpa [wordsB] using hw
  obtain ⟨t, ht⟩ : ∃ t, trimN l (l.length / 8) = t := ⟨_, rfl⟩
  have htl : t ≤ l.length / 8 := ht ▸ trimN_le l _
  have hT : trimB l = l.take (8 * t) := by rw [trimB, if_pos hw, ht]
  have hlen : (l.take (8 * t)).length = 8 * t := by simp; omega
  have hwt : wordsB (l.take (8 * t)).length = true := by rw [hlen]; simp [wordsB]; omega
  have hw8t : (l.take (8 * t)).length % 8 = 0 ∧ (l.take (8 * t)).length ≤ 1600 := by rw [hlen]; omega
  have hpl : ∀ q : Nat, 8 * q < 1600 → placeB (8 * (q : Int)) 8 = true := fun q hq => by simp [placeB]; omega
  have hget : ∀ (m : List UInt8) (q : Nat), (m.length % 8 = 0 ∧ m.length ≤ 1600) → 8 * q < 1600 → getI m (8 * (q : Int)) 8 = wrap64 ((leN m (8 * q) 8 : Nat) : Int) := fun m q hm hq => by
    rw [getI_eq hm (hpl q hq), show (8 * (q : Int)).toNat = 8 * q by omega, show (8 : Int).toNat = 8 from rfl]
  have hsame : ∀ q, q < t → leN (l.take (8 * t)) (8 * q) 8 = leN l (8 * q) 8 := fun q hq => leN_congr _ _ 8 _ _ (fun i hi => by rw [List.getElem?_take_of_lt (by omega)])
  refine ⟨t, hT, by omega, ?_, ?_, ?_⟩
  · have h2 : trimN (l.take (8 * t)) t = t := by
      rw [trimN_congr (l.take (8 * t)) l t (fun q hq => word_take l t q hq), ← ht, trimN_idem]
    rw [hT, trimB, hwt, if_pos rfl, hlen, show 8 * t / 8 = t by omega, h2, List.take_of_length_le (by omega)]
  · intro hpos
    have htop := trimN_top l (l.length / 8) (by omega)
    rw [ht] at htop
    have hne : leN l (8 * (t - 1)) 8 ≠ 0 := fun h => by
      have := (zer_word l (t - 1) (by omega)).2 h
      rw [this] at htop; cases htop
    have hlt := leN_lt l 8 (8 * (t - 1))
    rw [hT, show ((8 * t : Nat) - 8 : Int) = 8 * ((t - 1 : Nat) : Int) by omega, hget _ _ hw8t (by omega), hsame _ (by omega)]
    rw [show (256 : Nat) ^ 8 = 18446744073709551616 from rfl] at hlt
    generalize leN l (8 * (t - 1)) 8 = n at hne hlt
    unfold wrap64; omega
  · intro q hq
    rw [hT, hget _ _ hw8t (by omega), hget l q hw8 (by omega)]
    by_cases hqt : q < t
    · rw [hsame q hqt]
    · have hz := trimN_zero l (l.length / 8) q (by omega) (by omega)
      have hz2 := (zer_word l q (by omega)).1 hz
      rw [hz2, leN_out _ _ _ (by omega)]
end Go.Proofs.Ytliiffpegfkpbaa
