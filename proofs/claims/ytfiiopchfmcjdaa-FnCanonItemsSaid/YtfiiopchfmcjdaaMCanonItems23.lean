/- Texts of the proof of the law FnCanonItems, side by side: part 23. -/
import Derived.Test.YtfiiopchfmcjdaaMCanonItems00
import Derived.Test.YtfiiopchfmcjdaaMCanonItems01
import Derived.Test.YtfiiopchfmcjdaaMCanonItems02
import Derived.Test.YtfiiopchfmcjdaaMCanonItems03
import Derived.Test.YtfiiopchfmcjdaaMCanonItems04
import Derived.Test.YtfiiopchfmcjdaaMCanonItems05
import Derived.Test.YtfiiopchfmcjdaaMCanonItems06
import Derived.Test.YtfiiopchfmcjdaaMCanonItems07
import Derived.Test.YtfiiopchfmcjdaaMCanonItems08
import Derived.Test.YtfiiopchfmcjdaaMCanonItems09
import Derived.Test.YtfiiopchfmcjdaaMCanonItems10
import Derived.Test.YtfiiopchfmcjdaaMCanonItems11
import Derived.Test.YtfiiopchfmcjdaaMCanonItems12
import Derived.Test.YtfiiopchfmcjdaaMCanonItems13
import Derived.Test.YtfiiopchfmcjdaaMCanonItems14
import Derived.Test.YtfiiopchfmcjdaaMCanonItems15
import Derived.Test.YtfiiopchfmcjdaaMCanonItems16
import Derived.Test.YtfiiopchfmcjdaaMCanonItems17
import Derived.Test.YtfiiopchfmcjdaaMCanonItems18
import Derived.Test.YtfiiopchfmcjdaaMCanonItems19
import Derived.Test.YtfiiopchfmcjdaaMCanonItems20
import Derived.Test.YtfiiopchfmcjdaaMCanonItems21
import Derived.Test.YtfiiopchfmcjdaaMCanonItems22
/- Items of the one form need their last word and their last pointer, purely. -/
namespace Go.Proofs.Ytfiiopchfmcjdaa
open Go.RowKit
theorem leN_zero2 (l : List UInt8) : ∀ (k a : Nat), leN l a k = 0 → ∀ i, i < k → l[a + i]?.getD 0 = 0
  | 0, _, _, i, hi => absurd hi (by omega)
  | k + 1, a, h, i, hi => by
    rw [leN] at h
    have h1 : (l[a]?.getD 0).toNat = 0 := by omega
    have h2 : leN l (a + 1) k = 0 := by omega
    cases i with
    | zero => exact UInt8.toNat_inj.1 (by simpa using h1)
    | succ j => have := leN_zero2 l k (a + 1) h2 j (by omega); rwa [show a + (j + 1) = a + 1 + j by omega]
theorem zer_word2 (l : List UInt8) (q : Nat) (h : 8 * q + 8 ≤ l.length) (hz : leN l (8 * q) 8 = 0) : zerB ((l.drop (8 * q)).take 8) = true := by
  refine zer_of_all fun x hx => ?_
  obtain ⟨i, hi, rfl⟩ := List.mem_iff_getElem.1 hx
  have hi8 : i < 8 := by simp at hi; omega
  have hm : ((l.drop (8 * q)).take 8)[i]? = l[8 * q + i]? := by rw [List.getElem?_take_of_lt (by omega), List.getElem?_drop]
  have := leN_zero2 l 8 (8 * q) hz i hi8
  rw [← hm, List.getElem?_eq_getElem hi] at this
  simpa using this
/-- what an item has in its last word. -/
def lastW (D : Nat) (y : Nd) : Bool := getI y.data.data.toList ((D : Int) - 8) 8 != 0
def lastP (P : Nat) (y : Nd) : Bool := (y.ptrs[P - 1]?.getD noneNd).kind != 0
theorem trim_last {d : ByteArray} (h : 0 < tw d.data.toList) (hs : (trimD d).size ≤ 1600) : getI (trimD d).data.toList (((trimD d).size : Nat) - 8 : Int) 8 ≠ 0 := by
  have h1 := tw_top _ h
  have h2 := trimD_size d
  rw [trimD_list]
  generalize ht : tw d.data.toList = t at *
  have h3 := trimL_length d.data.toList
  rw [ht] at h3
  unfold getI
  have hw : wordsB (trimL d.data.toList).length = true := by unfold wordsB; rw [decide_eq_true_eq, h3]; omega
  have hp : placeB (((trimD d).size : Nat) - 8 : Int) 8 = true := by unfold placeB; rw [decide_eq_true_eq, h2]; omega
  rw [if_pos ⟨hw, hp⟩, h2, show (((8 * t : Nat) : Int) - 8).toNat = 8 * (t - 1) by omega, show (8 : Int).toNat = 8 from rfl]
  have h4 := leN_lt (trimL d.data.toList) 8 (8 * (t - 1))
  have h5 : leN (trimL d.data.toList) (8 * (t - 1)) 8 ≠ 0 := by
    intro hz
    have := zer_word2 _ _ (by omega) hz
    have hcut : ((trimL d.data.toList).drop (8 * (t - 1))).take 8 = (d.data.toList.drop (8 * (t - 1))).take 8 := by
      unfold trimL
      rw [ht, List.drop_take, List.take_take, show min 8 (8 * t - 8 * (t - 1)) = 8 by omega]
    rw [hcut, h1] at this
    cases this
  generalize leN (trimL d.data.toList) (8 * (t - 1)) 8 = z at *
  unfold wrap64
  have : (256 : Nat) ^ 8 = 18446744073709551616 := by decide
  omega
theorem items_law {n : Nd} (hok : nodeOk n = true) (hk : (canN n).kind = 2) : ∃ D P : Nat, D ≤ 1592 ∧ (canN n).items.length = n.items.length ∧
    (∀ y ∈ (canN n).items, y.data.size = D ∧ y.ptrs.length = P) ∧ (D = 0 ∨ (canN n).items.any (lastW D) = true) ∧ (P = 0 ∨ (canN n).items.any (lastP P) = true) := by
  have hkn : n.kind = 2 := by rw [← canN_kind]; exact hk
  have hf := (ok_kids (node_ok hok).1).1
  have hit : ∀ y ∈ n.items, y.kind = 1 ∧ y.size = 0 ∧ y.count = 0 ∧ y.items = [] ∧ nodeOk y = true := by
    intro y hy
    obtain ⟨k1, k2, k3⟩ := item_form hf y hy
    rcases form_cases k1 with hc | hc | hc
    · omega
    · exact ⟨k2, hc.2.2.1, hc.2.2.2.1, k3, ok_item hok y hy⟩
    · omega
  rw [can_lis hkn]
  show ∃ D P : Nat, D ≤ 1592 ∧ (evenL (n.items.map canN)).length = n.items.length ∧ (∀ y ∈ evenL (n.items.map canN), y.data.size = D ∧ y.ptrs.length = P) ∧ (D = 0 ∨ (evenL (n.items.map canN)).any (lastW D) = true) ∧ (P = 0 ∨ (evenL (n.items.map canN)).any (lastP P) = true)
  have hD1 : topD (n.items.map canN) ≤ 1592 := topD_le fun z hz => by
    obtain ⟨y, hy, rfl⟩ := List.mem_map.1 hz
    obtain ⟨k1, k3, k4, k5, k6⟩ := hit y hy
    rw [can_data8 k1 k3 k4 k5]
    have l2 := tw_le y.data.data.toList
    have l3 : y.data.data.toList.length = y.data.size := by simp
    have := ok_data k6 k1
    omega
  refine ⟨topD (n.items.map canN), topP (n.items.map canN), hD1, by unfold evenL; rw [List.length_map, List.length_map], ?_, ?_, ?_⟩
  · intro y hy
    obtain ⟨z, hz, rfl⟩ := List.mem_map.1 hy
    exact ⟨even_data (le_topD _ _ hz), even_ptrs (le_topP _ _ hz)⟩
  · rcases topD_at (n.items.map canN) with h0 | ⟨z, hz, he⟩
    · exact .inl h0
    · by_cases h0 : topD (n.items.map canN) = 0
      · exact .inl h0
      right
      rw [List.any_eq_true]
      refine ⟨evenN (topD (n.items.map canN)) (topP (n.items.map canN)) z, List.mem_map.2 ⟨z, hz, rfl⟩, ?_⟩
      obtain ⟨y, hy, rfl⟩ := List.mem_map.1 hz
      obtain ⟨k1, k3, k4, k5, k6⟩ := hit y hy
      have h8 := can_data8 k1 k3 k4 k5
      unfold lastW
      rw [← he] at h0 hD1 ⊢
      have hdat : (evenN (canN y).data.size (topP (n.items.map canN)) (canN y)).data = trimD y.data := by
        show (canN y).data ++ zeroD ((canN y).data.size - (canN y).data.size) = _
        rw [Nat.sub_self, can_str k1 k3 k4 k5]
        show trimD y.data ++ zeroD 0 = _
        apply ext_d
        simp [zeroD]
      rw [hdat]
      have hsz : (canN y).data.size = (trimD y.data).size := by rw [can_str k1 k3 k4 k5]; rfl
      rw [hsz] at h0 hD1 h8 ⊢
      have := trim_last (d := y.data) (by omega) (by omega)
      simpa using this
  · rcases topP_at (n.items.map canN) with h0 | ⟨z, hz, he⟩
    · exact .inl h0
    · by_cases h0 : topP (n.items.map canN) = 0
      · exact .inl h0
      right
      rw [List.any_eq_true]
      refine ⟨evenN (topD (n.items.map canN)) (topP (n.items.map canN)) z, List.mem_map.2 ⟨z, hz, rfl⟩, ?_⟩
      obtain ⟨y, hy, rfl⟩ := List.mem_map.1 hz
      obtain ⟨k1, k3, k4, k5, k6⟩ := hit y hy
      unfold lastP
      rw [← he] at h0 ⊢
      have hpt : (canN y).ptrs = endP (y.ptrs.map canN) := by rw [can_str k1 k3 k4 k5]; rfl
      show (((canN y).ptrs ++ List.replicate _ noneNd)[(canN y).ptrs.length - 1]?.getD noneNd).kind != 0
      rw [List.getElem?_append_left (by omega), hpt, endP_length]
      have hpos : 0 < endC (y.ptrs.map canN) := by rw [hpt, endP_length] at h0; omega
      unfold endP
      rw [List.getElem?_take_of_lt (by omega)]
      have := endK_top (y.ptrs.map canN) (y.ptrs.map canN).length hpos
      unfold endC
      simpa using this
end Go.Proofs.Ytfiiopchfmcjdaa

/- impl's word.number. -/
namespace Go.Proofs.Ytfiiopchfmcjdaa
open Go.RowKit

set_option maxHeartbeats 400000 in
theorem number_any (l : List UInt8) (at_ size : Int) (w : World) (hl : l.length = 8) (h0 : 0 ≤ at_) (h1 : 0 ≤ size) (h2 : at_ + size ≤ 8) :
    Calls Try.prog 31 #[.agg (wd l), .int .i64 at_, .int .i64 size] w fun e w' => e = .returned (.int .u64 (leN l at_.toNat size.toNat : Nat)) ∧ Below w.heap.size w w' := by
  obtain ⟨a, rfl⟩ := Int.eq_ofNat_of_zero_le h0
  obtain ⟨z, rfl⟩ := Int.eq_ofNat_of_zero_le h1
  have hc := fun i (h : i < 8) => wd_cell w l 51 i (by omega)
  have HC := Lib.hid hc
  have HL := Lib.hid hl
  clear hc hl
  go_enter Try.func31, Try.ntmps31
  go_wp2
  go_loop [7, 8] (fun n i => ∃ k : Nat, k ≤ z ∧ i = .int .i64 ((a : Int) + z - 1 - k) ∧ n = .int .u64 (leN l (a + z - k) k : Nat)) (fun _ i => (intOf i + 1 - a).toNat)
  case atStart => exact ⟨0, by omega, by simp, by simp [leN]⟩
  case round =>
    obtain ⟨k, hk, rfl, rfl⟩ := hrel
    by_cases hlt : k < z
    · have hcell := HC.out (a + z - 1 - k) (by omega)
      go_wp2
      go_round
      case rel => exact ⟨k + 1, by omega, by go_num, by rw [number_step l a z k hlt (by omega)]⟩
      case measure => simp [intOf]; omega
    · go_wp2
      go_ret
      refine ⟨ret_int ?_, (Below.refl _ _).alloc (Nat.le_refl _) _⟩
      obtain rfl : k = z := by omega
      simp

end Go.Proofs.Ytfiiopchfmcjdaa

/- impl.Get: what it answers at every argument. -/
namespace Go.Proofs.Ytfiiopchfmcjdaa
open Go.RowKit

theorem leN_out (l : List UInt8) : ∀ (k a : Nat), l.length ≤ a → leN l a k = 0
  | 0, _, _ => rfl
  | k + 1, a, h => by
    rw [leN, List.getElem?_eq_none h, leN_out l k (a + 1) (by omega)]
    rfl
/-- the number lies within one word: it is that word's. -/
theorem leN_word (l : List UInt8) (q : Nat) : ∀ (k a : Nat), a + k ≤ 8 → leN ((l.drop (8 * q)).take 8) a k = leN l (8 * q + a) k
  | 0, _, _ => rfl
  | k + 1, a, h => by
    rw [leN, leN, leN_word l q k (a + 1) (by omega), List.getElem?_take_of_lt (by omega), List.getElem?_drop]
    rfl

set_option maxHeartbeats 400000 in
theorem implGet_any (s : ByteArray) (at_ size : Int) (w : World) (hs : s.size ≤ maxLen) :
    Calls Try.prog 11 #[.string s, .int .i64 at_, .int .i64 size] w fun e w' => e = .returned (.int .i64 (getI s.data.toList at_ size)) ∧ Below w.heap.size w w' := by
  have hsl : s.data.toList.length = s.size := by simp
  cases hw : wordsB s.size
  · have hG : getI s.data.toList at_ size = 0 := by rw [getI, hsl, hw, if_neg (by simp)]
    rw [hG]
    clear hG hsl
    go_enter Try.func11, Try.ntmps11
    go_wp2_with (first | (go_at_call 28; refine (isWords_any _ _ hs).mono ?_; rintro e w' ⟨rfl, rfl⟩))
    go_ret
    exact ⟨rfl, Below.refl _ _⟩
  cases hp : placeB at_ size
  · have hG : getI s.data.toList at_ size = 0 := by rw [getI, hp, if_neg (by simp)]
    rw [hG]
    clear hG hsl
    go_enter Try.func11, Try.ntmps11
    go_wp2_with (first | (go_at_call 28; refine (isWords_any _ _ hs).mono ?_; rintro e w' ⟨rfl, rfl⟩) | (go_at_call 29; refine (isPlace_any _ _ _).mono ?_; rintro e w' ⟨rfl, rfl⟩))
    go_ret
    exact ⟨rfl, Below.refl _ _⟩
  have hp' : 0 ≤ at_ ∧ at_ ≤ 1600 ∧ ((size = 1 ∨ size = 2 ∨ size = 4 ∨ size = 8) ∧ at_ % size = 0) := by simpa [placeB] using hp
  obtain ⟨ha0, ha1, hz, hm⟩ := hp'
  have hw8 : s.size % 8 = 0 ∧ s.size ≤ 1600 := by simpa [wordsB] using hw
  obtain ⟨hw1, hw2⟩ := hw8
  obtain ⟨a, rfl⟩ := Int.eq_ofNat_of_zero_le ha0
  have hG : getI s.data.toList a size = wrap64 (leN s.data.toList a size.toNat : Nat) := by rw [getI, hsl, if_pos ⟨hw, hp⟩]; rfl
  by_cases hin : a < s.size
  · have hlen : ((s.data.toList.drop (8 * (a / 8))).take 8).length = 8 := by simp; omega
    have hsum : (a % 8 : Nat) + size ≤ 8 := by rcases hz with rfl | rfl | rfl | rfl <;> omega
    have hz0 : 0 ≤ size := by omega
    have hN := leN_word s.data.toList (a / 8) size.toNat (a % 8) (by omega)
    rw [show 8 * (a / 8) + a % 8 = a by omega] at hN
    rw [← hN] at hG
    have HG := Lib.hid hG
    have HL := Lib.hid hlen
    have HM := Lib.hid hm
    clear hN hG hlen hsl hm
    go_enter Try.func11, Try.ntmps11
    go_wp2_with (first | (go_at_call 28; refine (isWords_any _ _ hs).mono ?_; rintro e w' ⟨rfl, rfl⟩) | (go_at_call 29; refine (isPlace_any _ _ _).mono ?_; rintro e w' ⟨rfl, rfl⟩) | (go_at_call 30; go_must (refine (wordAt_any s _ _ hs (by omega) (by omega)).mono ?_); rintro e w1 ⟨rfl, hb1⟩) | (go_at_call 31; go_must (refine (number_any _ _ _ _ (by exact HL.out) (by omega) (by omega) (by omega)).mono ?_); rintro e w2 ⟨rfl, hb2⟩))
    go_ret
    refine ⟨ret_int ?_, hb1.trans (hb2.mono hb1.size)⟩
    rw [HG.out]
  · have hG0 : getI s.data.toList a size = 0 := by rw [hG, leN_out _ _ _ (by omega)]; simp [wrap64]
    rw [hG0]
    clear hG hG0 hsl
    go_enter Try.func11, Try.ntmps11
    go_wp2_with (first | (go_at_call 28; refine (isWords_any _ _ hs).mono ?_; rintro e w' ⟨rfl, rfl⟩) | (go_at_call 29; refine (isPlace_any _ _ _).mono ?_; rintro e w' ⟨rfl, rfl⟩))
    go_ret
    exact ⟨rfl, Below.refl _ _⟩

end Go.Proofs.Ytfiiopchfmcjdaa
