/- Texts of the proof of the law FnExactCanonPut, side by side: part 11. -/
import Derived.Test.YtbijfkpilncclaaGreatMExactCanonPut00
import Derived.Test.YtbijfkpilncclaaGreatMExactCanonPut01
import Derived.Test.YtbijfkpilncclaaGreatMExactCanonPut02
import Derived.Test.YtbijfkpilncclaaGreatMExactCanonPut03
import Derived.Test.YtbijfkpilncclaaGreatMExactCanonPut04
import Derived.Test.YtbijfkpilncclaaGreatMExactCanonPut05
import Derived.Test.YtbijfkpilncclaaGreatMExactCanonPut06
import Derived.Test.YtbijfkpilncclaaGreatMExactCanonPut07
import Derived.Test.YtbijfkpilncclaaGreatMExactCanonPut08
import Derived.Test.YtbijfkpilncclaaGreatMExactCanonPut09
import Derived.Test.YtbijfkpilncclaaGreatMExactCanonPut10
/- The one form of a node, purely. -/
namespace Go.Proofs.YtbijfkpilncclaaGreat
open Go.RowKit
def noneNd : Nd := .mk 0 ⟨#[]⟩ [] 0 0 []
/-- how many of the first k nodes are left when what is nothing is taken from their end. -/
def endK (l : List Nd) : Nat → Nat
  | 0 => 0
  | k + 1 => if (l[k]?.getD noneNd).kind = 0 then endK l k else k + 1
theorem endK_le (l : List Nd) : ∀ k, endK l k ≤ k
  | 0 => Nat.le_refl _
  | k + 1 => by
    unfold endK
    split
    · have := endK_le l k; omega
    · omega
theorem endK_idem (l : List Nd) : ∀ k, endK l (endK l k) = endK l k
  | 0 => rfl
  | k + 1 => by
    rw [endK]
    split
    · exact endK_idem l k
    · rename_i h; rw [endK, if_neg h]
theorem endK_zero (l : List Nd) : ∀ (k q : Nat), endK l k ≤ q → q < k → (l[q]?.getD noneNd).kind = 0
  | 0, _, _, h => absurd h (by omega)
  | k + 1, q, h1, h2 => by
    rw [endK] at h1
    split at h1
    · rename_i hz
      by_cases he : q = k
      · rw [he]; exact hz
      · exact endK_zero l k q h1 (by omega)
    · omega
theorem endK_top (l : List Nd) : ∀ (k : Nat), 0 < endK l k → (l[endK l k - 1]?.getD noneNd).kind ≠ 0
  | 0, h => absurd h (by simp [endK])
  | k + 1, h => by
    rw [endK] at h ⊢
    split at h
    · rename_i hz; rw [if_pos hz]; exact endK_top l k h
    · rename_i hz; rw [if_neg hz]; simpa using hz
theorem endK_congr (l m : List Nd) : ∀ k, (∀ q, q < k → (l[q]?.getD noneNd).kind = (m[q]?.getD noneNd).kind) → endK l k = endK m k
  | 0, _ => rfl
  | k + 1, h => by rw [endK, endK, h k (by omega), endK_congr l m k (fun q hq => h q (by omega))]
theorem endK_more (l : List Nd) (t : Nat) : ∀ k, (∀ q, t ≤ q → q < t + k → (l[q]?.getD noneNd).kind = 0) → endK l (t + k) = endK l t
  | 0, _ => rfl
  | k + 1, h => by rw [← Nat.add_assoc, endK, if_pos (h (t + k) (by omega) (by omega)), endK_more l t k (fun q h1 h2 => h q h1 (by omega))]
def endC (l : List Nd) : Nat := endK l l.length
def endP (l : List Nd) : List Nd := l.take (endC l)
theorem endC_le (l : List Nd) : endC l ≤ l.length := endK_le l _
theorem endP_length (l : List Nd) : (endP l).length = endC l := by unfold endP; rw [List.length_take]; have := endC_le l; omega
theorem endP_mem {l : List Nd} {n : Nd} (h : n ∈ endP l) : n ∈ l := List.mem_of_mem_take h
theorem endP_nil : endP [] = [] := rfl
theorem endP_pad (l : List Nd) (k : Nat) : endP (endP l ++ List.replicate k noneNd) = endP l := by
  have hl := endP_length l
  have hlen : (endP l ++ List.replicate k noneNd).length = endC l + k := by rw [List.length_append, hl, List.length_replicate]
  have h1 : endC (endP l ++ List.replicate k noneNd) = endC l := by
    have he : endC (endP l ++ List.replicate k noneNd) = endK (endP l ++ List.replicate k noneNd) (endC l + k) := by
      show endK _ (endP l ++ List.replicate k noneNd).length = _
      rw [hlen]
    rw [he]
    rw [endK_more _ (endC l) k]
    · rw [endK_congr _ l]
      · exact endK_idem l _
      · intro q hq
        rw [List.getElem?_append_left (by rw [hl]; exact hq)]
        unfold endP
        rw [List.getElem?_take_of_lt hq]
    · intro q h1 h2
      rw [List.getElem?_append_right (by rw [hl]; exact h1), hl, List.getElem?_replicate, if_pos (by omega)]
      rfl
  have h2 : endP (endP l ++ List.replicate k noneNd) = (endP l ++ List.replicate k noneNd).take (endC l) := by rw [← h1]; rfl
  rw [h2, List.take_append_of_le_length (by rw [hl]; exact Nat.le_refl _), List.take_of_length_le (by rw [hl]; exact Nat.le_refl _)]
theorem endP_idem (l : List Nd) : endP (endP l) = endP l := by
  have := endP_pad l 0
  simpa using this
def topD : List Nd → Nat
  | [] => 0
  | n :: t => max n.data.size (topD t)
def topP : List Nd → Nat
  | [] => 0
  | n :: t => max n.ptrs.length (topP t)
theorem topD_snoc : ∀ (l : List Nd) (x : Nd), topD (l ++ [x]) = max (topD l) x.data.size
  | [], x => by simp [topD]
  | n :: t, x => by rw [List.cons_append, topD, topD, topD_snoc t x]; omega
theorem topP_snoc : ∀ (l : List Nd) (x : Nd), topP (l ++ [x]) = max (topP l) x.ptrs.length
  | [], x => by simp [topP]
  | n :: t, x => by rw [List.cons_append, topP, topP, topP_snoc t x]; omega
theorem le_topD : ∀ (l : List Nd), ∀ n ∈ l, n.data.size ≤ topD l
  | [], _, h => by cases h
  | a :: t, n, h => by
    rw [topD]
    rcases List.mem_cons.1 h with rfl | h
    · omega
    · have := le_topD t n h; omega
theorem le_topP : ∀ (l : List Nd), ∀ n ∈ l, n.ptrs.length ≤ topP l
  | [], _, h => by cases h
  | a :: t, n, h => by
    rw [topP]
    rcases List.mem_cons.1 h with rfl | h
    · omega
    · have := le_topP t n h; omega
theorem topD_at : ∀ (l : List Nd), topD l = 0 ∨ ∃ n ∈ l, n.data.size = topD l
  | [] => .inl rfl
  | a :: t => by
    rw [topD]
    rcases Nat.lt_or_ge a.data.size (topD t) with h | h
    · rcases topD_at t with h0 | ⟨n, hn, he⟩
      · omega
      · exact .inr ⟨n, List.mem_cons_of_mem _ hn, by omega⟩
    · exact .inr ⟨a, List.mem_cons_self, by omega⟩
theorem topP_at : ∀ (l : List Nd), topP l = 0 ∨ ∃ n ∈ l, n.ptrs.length = topP l
  | [] => .inl rfl
  | a :: t => by
    rw [topP]
    rcases Nat.lt_or_ge a.ptrs.length (topP t) with h | h
    · rcases topP_at t with h0 | ⟨n, hn, he⟩
      · omega
      · exact .inr ⟨n, List.mem_cons_of_mem _ hn, by omega⟩
    · exact .inr ⟨a, List.mem_cons_self, by omega⟩
theorem topD_le {l : List Nd} {b : Nat} (h : ∀ n ∈ l, n.data.size ≤ b) : topD l ≤ b := by
  rcases topD_at l with h0 | ⟨n, hn, he⟩
  · omega
  · rw [← he]; exact h n hn
theorem topP_le {l : List Nd} {b : Nat} (h : ∀ n ∈ l, n.ptrs.length ≤ b) : topP l ≤ b := by
  rcases topP_at l with h0 | ⟨n, hn, he⟩
  · omega
  · rw [← he]; exact h n hn
def evenN (D P : Nat) (n : Nd) : Nd := .mk n.kind (n.data ++ zeroD (D - n.data.size)) (n.ptrs ++ List.replicate (P - n.ptrs.length) noneNd) n.size n.count n.items
def evenL (l : List Nd) : List Nd := l.map (evenN (topD l) (topP l))
theorem evenL_nil : evenL [] = [] := rfl
def formT (k : Int) (d : ByteArray) (p : List Nd) (s c : Int) (i : List Nd) : Nd := if k = 1 then .mk k (trimD d) (endP p) s c (evenL i) else .mk k d p s c (evenL i)
mutual
/-- the one form of a node. -/
def canN : Nd → Nd
  | .mk k d p s c i => formT k d (canL p) s c (canL i)
def canL : List Nd → List Nd
  | [] => []
  | n :: t => canN n :: canL t
end
theorem canL_map : ∀ l : List Nd, canL l = l.map canN
  | [] => by rw [canL]; rfl
  | n :: t => by rw [canL, canL_map t]; rfl
theorem canN_eq (n : Nd) : canN n = formT n.kind n.data (n.ptrs.map canN) n.size n.count (n.items.map canN) := by
  cases n with
  | mk k d p s c i => rw [canN, canL_map, canL_map]; rfl
theorem canN_kind (n : Nd) : (canN n).kind = n.kind := by
  rw [canN_eq]
  unfold formT
  split <;> rfl
theorem can_none : canN noneNd = noneNd := by
  rw [canN_eq]
  rfl
theorem data_nil {d : ByteArray} (h : d.size = 0) : d = ⟨#[]⟩ := by
  cases d with
  | mk a =>
    have : a = #[] := by
      apply Array.eq_empty_of_size_eq_zero
      exact h
    rw [this]
theorem none_eq {n : Nd} (h : formN n = true) (hk : n.kind = 0) : n = noneNd := by
  rcases form_cases h with hc | hc | hc
  · obtain ⟨h0, h1, h2, h3, h4, h5⟩ := hc
    cases n with
    | mk k d p s c i =>
      simp only [Nd.kind, Nd.data, Nd.ptrs, Nd.size, Nd.count, Nd.items] at *
      rw [h0, data_nil h1, nil_of_len h2, h3, h4, nil_of_len h5]
      rfl
  · omega
  · omega
theorem none_form : formN noneNd = true := by decide
theorem none_ok : ∀ d, okN d noneNd = true
  | 0 => by simp [okN, none_form]; rfl
  | d + 1 => by simp [okN, none_form]; left; rfl
theorem noneNd_words : ∀ d, wordsN d noneNd = 0
  | 0 => rfl
  | d + 1 => by simp [wordsN, ptrsL, ownN, ownB, noneNd, Nd.ptrs, Nd.items, Nd.data, Nd.kind]; decide
/-- what the one form is, by the form that a node has. -/
theorem can_str {n : Nd} (h1 : n.kind = 1) (h3 : n.size = 0) (h4 : n.count = 0) (h5 : n.items = []) : canN n = .mk 1 (trimD n.data) (endP (n.ptrs.map canN)) 0 0 [] := by
  rw [canN_eq, h1, h3, h4, h5]
  rfl
theorem can_lis {n : Nd} (h1 : n.kind = 2) : canN n = .mk 2 n.data (n.ptrs.map canN) n.size n.count (evenL (n.items.map canN)) := by
  rw [canN_eq, h1]
  rfl
theorem map_id {l : List Nd} {f : Nd → Nd} (h : ∀ n ∈ l, f n = n) : l.map f = l := by
  conv => rhs; rw [← List.map_id l]
  exact List.map_congr_left h
theorem can_item_kind {l : List Nd} (hi : itemsB l = true) : ∀ y ∈ l, y.kind = 1 ∧ y.data.size % 8 = 0 ∧ y.size = 0 ∧ y.count = 0 ∧ y.items = [] ∧ y.data.size = (l.headD default).data.size ∧ y.ptrs.length = (l.headD default).ptrs.length := by
  intro y hy
  have h1 := List.all_eq_true.1 hi y hy
  unfold itemB at h1
  simp only [Bool.and_eq_true, decide_eq_true_eq, structB] at h1
  obtain ⟨⟨h2, h3, h4, h5, h6⟩, h7, h8⟩ := h1
  exact ⟨h2, by omega, h4, h5, nil_of_len h6, h7, h8⟩
theorem endC_congr {l m : List Nd} (hl : l.length = m.length) (h : ∀ q, q < l.length → (l[q]?.getD noneNd).kind = (m[q]?.getD noneNd).kind) : endC l = endC m := by
  unfold endC
  rw [← hl]
  exact endK_congr l m _ h
/-- up to some place behind the end, there is nothing. -/
theorem take_even {Q : List Nd} {P : Nat} (h1 : endC Q ≤ P) (h2 : P ≤ Q.length) (hn : ∀ q ∈ Q, q.kind = 0 → q = noneNd) : Q.take P = endP Q ++ List.replicate (P - endC Q) noneNd := by
  have hs : Q.take P = Q.take (endC Q) ++ (Q.drop (endC Q)).take (P - endC Q) := by
    conv => lhs; rw [show P = endC Q + (P - endC Q) by omega]
    rw [List.take_add]
  rw [hs]
  unfold endP
  congr 1
  apply List.eq_replicate_iff.2
  refine ⟨by simp; omega, ?_⟩
  intro x hx
  obtain ⟨i, hi, rfl⟩ := List.mem_iff_getElem.1 hx
  have hil : i < P - endC Q := by simp at hi; omega
  rw [List.getElem_take, List.getElem_drop]
  refine hn _ (List.getElem_mem _) ?_
  have hz := endK_zero Q Q.length (endC Q + i) (by unfold endC; omega) (by omega)
  rw [List.getElem?_eq_getElem (by omega)] at hz
  exact hz
theorem even_data {D P : Nat} {n : Nd} (h : n.data.size ≤ D) : (evenN D P n).data.size = D := by
  show (n.data ++ zeroD _).size = D
  rw [getD_size, zeroD_size]; omega
theorem even_ptrs {D P : Nat} {n : Nd} (h : n.ptrs.length ≤ P) : (evenN D P n).ptrs.length = P := by
  show (n.ptrs ++ List.replicate _ noneNd).length = P
  rw [List.length_append, List.length_replicate]; omega
theorem can_data8 {n : Nd} (h1 : n.kind = 1) (h3 : n.size = 0) (h4 : n.count = 0) (h5 : n.items = []) : (canN n).data.size = 8 * tw n.data.data.toList := by
  rw [can_str h1 h3 h4 h5]; exact trimD_size _
theorem topD_8 {l : List Nd} (h : ∀ n ∈ l, n.data.size % 8 = 0) : topD l % 8 = 0 := by
  rcases topD_at l with h0 | ⟨n, hn, he⟩
  · omega
  · rw [← he]; exact h n hn
/-- an item of the one form has the one form of the item. -/
theorem can_even {y : Nd} {D P : Nat} (h1 : y.kind = 1) (h3 : y.size = 0) (h4 : y.count = 0) (h5 : y.items = []) (h8 : D % 8 = 0) (hD : (canN y).data.size ≤ D) (hc : ∀ p ∈ y.ptrs, canN (canN p) = canN p) : canN (evenN D P (canN y)) = canN y := by
  have hd := can_data8 h1 h3 h4 h5
  rw [can_str h1 h3 h4 h5] at hD hd ⊢
  have hd' : (trimD y.data).size = 8 * tw y.data.data.toList := trimD_size _
  have hD' : (trimD y.data).size ≤ D := hD
  unfold evenN
  rw [can_str rfl rfl rfl rfl]
  show Nd.mk 1 (trimD (trimD y.data ++ zeroD (D - (trimD y.data).size))) (endP ((endP (y.ptrs.map canN) ++ List.replicate (P - (endP (y.ptrs.map canN)).length) noneNd).map canN)) 0 0 [] = _
  rw [show D - (trimD y.data).size = 8 * (D / 8 - tw y.data.data.toList) by omega, trimD_pad, List.map_append, List.map_replicate, can_none]
  rw [map_id (f := canN) (l := endP (y.ptrs.map canN)), endP_pad]
  intro n hn
  obtain ⟨p, hp, rfl⟩ := List.mem_map.1 (endP_mem hn)
  exact hc p hp
theorem can_can : ∀ (d : Nat) (n : Nd), okN d n = true → canN (canN n) = canN n
  | 0, n, h => by
    have hf := (ok_kids h).1
    simp only [okN, Bool.and_eq_true, decide_eq_true_eq] at h
    rw [none_eq hf h.2, can_none, can_none]
  | d + 1, n, h => by
    obtain ⟨hf, hk⟩ := ok_kids h
    have ih : ∀ p ∈ n.ptrs, canN (canN p) = canN p := fun p hp => can_can d p (hk p (List.mem_append_left _ hp))
    have ihi : ∀ y ∈ n.items, ∀ p ∈ y.ptrs, canN (canN p) = canN p := fun y hy p hp => can_can d p (hk p (List.mem_append_right _ (List.mem_flatMap.2 ⟨y, hy, hp⟩)))
    have hmm : (n.ptrs.map canN).map canN = n.ptrs.map canN := map_id fun x hx => by
      obtain ⟨p, hp, rfl⟩ := List.mem_map.1 hx
      exact ih p hp
    rcases form_cases hf with hc | hc | hc
    · rw [none_eq hf hc.1, can_none, can_none]
    · obtain ⟨h1, h2, h3, h4, h5⟩ := hc
      rw [can_str h1 h3 h4 (nil_of_len h5), can_str rfl rfl rfl rfl]
      show Nd.mk 1 (trimD (trimD n.data)) (endP ((endP (n.ptrs.map canN)).map canN)) 0 0 [] = _
      rw [trimD_idem, map_id (f := canN) (l := endP (n.ptrs.map canN)), endP_idem]
      intro x hx
      obtain ⟨p, hp, rfl⟩ := List.mem_map.1 (endP_mem hx)
      exact ih p hp
    · obtain ⟨h1, h2, h3⟩ := hc
      rw [can_lis h1, can_lis rfl]
      show Nd.mk 2 n.data ((n.ptrs.map canN).map canN) n.size n.count (evenL ((evenL (n.items.map canN)).map canN)) = _
      rw [hmm]
      congr 2
      unfold evenL
      rw [List.map_map]
      conv => rhs; rw [← List.map_id (n.items.map canN)]
      have hit : ∀ x ∈ n.items.map canN, canN (evenN (topD (n.items.map canN)) (topP (n.items.map canN)) x) = x := by
        intro x hx
        have hxl := le_topD _ x hx
        obtain ⟨y, hy, rfl⟩ := List.mem_map.1 hx
        rcases h3 with hc | hc | hc
        · rw [nil_of_len hc.2.2.2.2] at hy; cases hy
        · rw [nil_of_len hc.2.2.2] at hy; cases hy
        · have hi := hc.2.2.2.2
          obtain ⟨k1, k2, k3, k4, k5, _, _⟩ := can_item_kind hi y hy
          refine can_even k1 k3 k4 k5 (topD_8 ?_) hxl (ihi y hy)
          intro z hz
          obtain ⟨y2, hy2, rfl⟩ := List.mem_map.1 hz
          obtain ⟨k1, k2, k3, k4, k5, _, _⟩ := can_item_kind hi y2 hy2
          rw [can_data8 k1 k3 k4 k5]; omega
      rw [List.map_congr_left (g := id) (fun x hx => by simpa using hit x hx), List.map_id]
/-- the one form is ok. -/
theorem form_str {n : Nd} (h1 : n.kind = 1) (h2 : n.data.size % 8 = 0) (h3 : n.size = 0) (h4 : n.count = 0) (h5 : n.items = []) : formN n = true := by
  unfold formN strN structB
  rw [h5]
  have : (n.data.size : Int) % 8 = 0 := by omega
  simp [h1, h3, h4, this]
theorem form_can {n : Nd} (h : formN n = true) : formN (canN n) = true := by
  rcases form_cases h with hc | hc | hc
  · rw [none_eq h hc.1, can_none]; exact none_form
  · obtain ⟨h1, h2, h3, h4, h5⟩ := hc
    rw [can_str h1 h3 h4 (nil_of_len h5)]
    exact form_str rfl (by show (trimD n.data).size % 8 = 0; rw [trimD_size]; omega) rfl rfl rfl
  · obtain ⟨h1, h2, h3⟩ := hc
    rw [can_lis h1]
    have hw : wiB n.count 12801 = true := by simpa [wiB] using h2
    unfold formN
    rw [Bool.or_eq_true, Bool.or_eq_true]
    right; right
    show listB 2 n.size n.count n.data (n.ptrs.map canN).length (evenL (n.items.map canN)).length (itemsB (evenL (n.items.map canN))) = true
    have hle : (evenL (n.items.map canN)).length = n.items.length := by unfold evenL; rw [List.length_map, List.length_map]
    unfold listB
    rw [hw, List.length_map, hle]
    rcases h3 with ⟨a1, a2, a3, a4, a5⟩ | ⟨a1, a2, a3, a4⟩ | ⟨a1, a2, a3, a4, a5⟩
    · rw [if_pos ⟨a1, a2⟩]
      simp [a3, a4, a5]
    · rw [if_neg (by omega), if_pos a1]
      simp [a2, a3, a4]
    · rw [if_neg (by omega), if_neg (by omega), if_pos a1]
      have hi : itemsB (evenL (n.items.map canN)) = true := by
        unfold itemsB
        rw [List.all_eq_true]
        have hall : ∀ z ∈ evenL (n.items.map canN), z.kind = 1 ∧ z.size = 0 ∧ z.count = 0 ∧ z.items = [] ∧ z.data.size = topD (n.items.map canN) ∧ z.ptrs.length = topP (n.items.map canN) := by
          intro z hz
          obtain ⟨x, hx, rfl⟩ := List.mem_map.1 hz
          have hd := le_topD _ x hx
          have hp := le_topP _ x hx
          obtain ⟨y, hy, rfl⟩ := List.mem_map.1 hx
          obtain ⟨k1, k2, k3, k4, k5, _, _⟩ := can_item_kind a5 y hy
          refine ⟨?_, ?_, ?_, ?_, even_data hd, even_ptrs hp⟩ <;> rw [can_str k1 k3 k4 k5] <;> rfl
        have h8 : topD (n.items.map canN) % 8 = 0 := topD_8 fun z hz => by
          obtain ⟨y2, hy2, rfl⟩ := List.mem_map.1 hz
          obtain ⟨k1, k2, k3, k4, k5, _, _⟩ := can_item_kind a5 y2 hy2
          rw [can_data8 k1 k3 k4 k5]; omega
        intro z hz
        obtain ⟨z1, z2, z3, z4, z5, z6⟩ := hall z hz
        have hh : (evenL (n.items.map canN)).headD default ∈ evenL (n.items.map canN) := by
          generalize evenL (n.items.map canN) = l at hz
          cases l with
          | nil => cases hz
          | cons a t => exact List.mem_cons_self
        obtain ⟨_, _, _, _, y5, y6⟩ := hall _ hh
        unfold itemB structB
        rw [z4]
        have : (z.data.size : Int) % 8 = 0 := by omega
        simp only [Bool.and_eq_true, decide_eq_true_eq]
        exact ⟨⟨z1, this, z2, z3, rfl⟩, by omega, by omega⟩
      simp [a2, a3, a4, hi]
/-- what the one form points to. -/
theorem can_ptrs {n : Nd} (h : formN n = true) : ∀ x ∈ ptrsL (canN n), x = noneNd ∨ ∃ p ∈ ptrsL n, x = canN p := by
  intro x hx
  unfold ptrsL at hx
  rcases form_cases h with hc | hc | hc
  · rw [none_eq h hc.1, can_none] at hx; cases hx
  · obtain ⟨h1, h2, h3, h4, h5⟩ := hc
    rw [can_str h1 h3 h4 (nil_of_len h5)] at hx
    have hx' : x ∈ endP (n.ptrs.map canN) := by simpa [Nd.ptrs, Nd.items] using hx
    obtain ⟨p, hp, rfl⟩ := List.mem_map.1 (endP_mem hx')
    exact .inr ⟨p, List.mem_append_left _ hp, rfl⟩
  · obtain ⟨h1, h2, h3⟩ := hc
    rw [can_lis h1] at hx
    rcases List.mem_append.1 hx with hx | hx
    · obtain ⟨p, hp, rfl⟩ := List.mem_map.1 hx
      exact .inr ⟨p, List.mem_append_left _ hp, rfl⟩
    · obtain ⟨z, hz, hxz⟩ := List.mem_flatMap.1 hx
      obtain ⟨c, hcz, rfl⟩ := List.mem_map.1 hz
      obtain ⟨y, hy, rfl⟩ := List.mem_map.1 hcz
      rcases List.mem_append.1 (show x ∈ (canN y).ptrs ++ List.replicate _ noneNd from hxz) with hxy | hxy
      · obtain ⟨k1, k2, k3⟩ := item_form h y hy
        rcases form_cases k1 with hc | hc | hc
        · omega
        · rw [can_str hc.1 hc.2.2.1 hc.2.2.2.1 k3] at hxy
          obtain ⟨p, hp, rfl⟩ := List.mem_map.1 (endP_mem hxy)
          exact .inr ⟨p, List.mem_append_right _ (List.mem_flatMap.2 ⟨y, hy, hp⟩), rfl⟩
        · omega
      · exact .inl (List.mem_replicate.1 hxy).2
theorem ok_can : ∀ (d : Nat) (n : Nd), okN d n = true → okN d (canN n) = true
  | 0, n, h => by
    have hf := (ok_kids h).1
    simp only [okN, Bool.and_eq_true, decide_eq_true_eq] at h
    rw [none_eq hf h.2, can_none]; exact none_ok 0
  | d + 1, n, h => by
    obtain ⟨hf, hk⟩ := ok_kids h
    show (formN (canN n) && (decide ((canN n).kind = 0) || (ptrsL (canN n)).all (okN d))) = true
    rw [form_can hf, Bool.true_and, Bool.or_eq_true]
    right
    rw [List.all_eq_true]
    intro x hx
    rcases can_ptrs hf x hx with rfl | ⟨p, hp, rfl⟩
    · exact none_ok d
    · exact ok_can d p (hk p hp)
theorem sum_rep0 {f : Nd → Nat} (h : f noneNd = 0) (k : Nat) : ((List.replicate k noneNd).map f).sum = 0 := by
  rw [List.map_replicate, h, List.sum_replicate_nat]; simp
theorem own_str (d : ByteArray) (p : List Nd) : ownN (.mk 1 d p 0 0 []) = (d.size + 7) / 8 + p.length := by simp [ownN, ownB, Nd.data, Nd.ptrs, Nd.kind, Nd.items]
theorem words_can : ∀ (d : Nat) (n : Nd), okN d n = true → wordsN d (canN n) ≤ wordsN d n
  | 0, _, _ => Nat.le_refl _
  | d + 1, n, h => by
    obtain ⟨hf, hk⟩ := ok_kids h
    have ih : ((n.ptrs.map canN).map (wordsN d)).sum ≤ (n.ptrs.map (wordsN d)).sum := by
      rw [List.map_map]
      exact sum_le _ _ _ fun p hp => words_can d p (hk p (List.mem_append_left _ hp))
    show ownN (canN n) + ((ptrsL (canN n)).map (wordsN d)).sum ≤ ownN n + ((ptrsL n).map (wordsN d)).sum
    rcases form_cases hf with hc | hc | hc
    · rw [none_eq hf hc.1, can_none]; exact Nat.le_refl _
    · obtain ⟨h1, h2, h3, h4, h5⟩ := hc
      have h5' := nil_of_len h5
      have e1 : ptrsL (canN n) = endP (n.ptrs.map canN) := by rw [can_str h1 h3 h4 h5']; simp [ptrsL, Nd.ptrs, Nd.items]
      have e2 : ptrsL n = n.ptrs := by unfold ptrsL; rw [h5']; simp
      have e3 : ownN (canN n) = (trimD n.data).size / 8 + (endP (n.ptrs.map canN)).length := by
        rw [can_str h1 h3 h4 h5', own_str, trimD_size]; omega
      have e4 : ownN n = n.data.size / 8 + n.ptrs.length := by
        unfold ownN ownB
        rw [h5', if_neg (by omega)]
        simp only [List.map_nil, List.sum_nil]; omega
      rw [e1, e2, e3, e4]
      have l1 := trimD_size n.data
      have l2 := tw_le n.data.data.toList
      have l3 : n.data.data.toList.length = n.data.size := by simp
      have l4 := endC_le (n.ptrs.map canN)
      have l5 := endP_length (n.ptrs.map canN)
      have l6 : (n.ptrs.map canN).length = n.ptrs.length := by rw [List.length_map]
      have l7 : ((endP (n.ptrs.map canN)).map (wordsN d)).sum ≤ ((n.ptrs.map canN).map (wordsN d)).sum := sum_take_le _ _ _
      omega
    · obtain ⟨h1, h2, h3⟩ := hc
      have e1 : ptrsL (canN n) = n.ptrs.map canN ++ (evenL (n.items.map canN)).flatMap Nd.ptrs := by rw [can_lis h1]; rfl
      have e3 : ownN (canN n) = ownB (.mk 2 n.data (n.ptrs.map canN) n.size n.count (evenL (n.items.map canN))) + (if n.kind = 2 ∧ n.size = 7 then 1 else 0) + ((evenL (n.items.map canN)).map ownB).sum := by
        rw [can_lis h1]; unfold ownN; rw [h1]; rfl
      have e4 : ownB (.mk 2 n.data (n.ptrs.map canN) n.size n.count (evenL (n.items.map canN))) = ownB n := by unfold ownB; simp [Nd.data, Nd.ptrs]
      have e5 : ((evenL (n.items.map canN)).map ownB).sum + (((evenL (n.items.map canN)).flatMap Nd.ptrs).map (wordsN d)).sum ≤ (n.items.map ownB).sum + ((n.items.flatMap Nd.ptrs).map (wordsN d)).sum := by
        rcases h3 with hc | hc | hc
        · rw [nil_of_len hc.2.2.2.2]; exact Nat.le_refl _
        · rw [nil_of_len hc.2.2.2]; exact Nat.le_refl _
        · have hi := hc.2.2.2.2
          have hb := can_item_kind hi
          have hD : topD (n.items.map canN) ≤ (n.items.headD default).data.size := topD_le fun z hz => by
            obtain ⟨y, hy, rfl⟩ := List.mem_map.1 hz
            obtain ⟨k1, k2, k3, k4, k5, k6, _⟩ := hb y hy
            rw [can_data8 k1 k3 k4 k5]
            have l2 := tw_le y.data.data.toList
            have l3 : y.data.data.toList.length = y.data.size := by simp
            omega
          have hP : topP (n.items.map canN) ≤ (n.items.headD default).ptrs.length := topP_le fun z hz => by
            obtain ⟨y, hy, rfl⟩ := List.mem_map.1 hz
            obtain ⟨k1, k2, k3, k4, k5, _, k7⟩ := hb y hy
            rw [can_str k1 k3 k4 k5]
            show (endP (y.ptrs.map canN)).length ≤ _
            have l4 := endC_le (y.ptrs.map canN)
            rw [endP_length]
            rw [List.length_map] at l4
            omega
          have hm : ∀ y ∈ n.items, (evenN (topD (n.items.map canN)) (topP (n.items.map canN)) (canN y)).data.size = topD (n.items.map canN) ∧ (evenN (topD (n.items.map canN)) (topP (n.items.map canN)) (canN y)).ptrs.length = topP (n.items.map canN) := fun y hy =>
            ⟨even_data (le_topD _ _ (List.mem_map.2 ⟨y, hy, rfl⟩)), even_ptrs (le_topP _ _ (List.mem_map.2 ⟨y, hy, rfl⟩))⟩
          have hk2 : ∀ y ∈ n.items, ∀ p ∈ y.ptrs, okN d p = true := fun y hy p hp => hk p (List.mem_append_right _ (List.mem_flatMap.2 ⟨y, hy, hp⟩))
          unfold evenL
          generalize topD (n.items.map canN) = D at *
          generalize topP (n.items.map canN) = P at *
          have hone : ∀ y ∈ n.items, ownB (evenN D P (canN y)) + ((evenN D P (canN y)).ptrs.map (wordsN d)).sum ≤ ownB y + (y.ptrs.map (wordsN d)).sum := by
            intro y hy
            obtain ⟨m1, m2⟩ := hm y hy
            obtain ⟨k1, k2, k3, k4, k5, k6, k7⟩ := hb y hy
            have q1 : ownB (evenN D P (canN y)) ≤ ownB y := by unfold ownB; rw [m1, m2]; omega
            have q2 : ((evenN D P (canN y)).ptrs.map (wordsN d)).sum ≤ (y.ptrs.map (wordsN d)).sum := by
              show (((canN y).ptrs ++ List.replicate _ noneNd).map (wordsN d)).sum ≤ _
              rw [List.map_append, List.sum_append, sum_rep0 (noneNd_words d), Nat.add_zero, can_str k1 k3 k4 k5]
              refine Nat.le_trans (sum_take_le (y.ptrs.map canN) _ (endC (y.ptrs.map canN))) ?_
              rw [List.map_map]
              exact sum_le _ _ _ fun p hp => words_can d p (hk2 y hy p hp)
            omega
          clear hm hk2 hb hD hP hi hc hk ih e1 e3 e4
          generalize n.items = l at *
          induction l with
          | nil => exact Nat.le_refl _
          | cons a t iht =>
            have g1 := hone a List.mem_cons_self
            have g2 := iht (fun y hy => hone y (List.mem_cons_of_mem _ hy))
            simp only [List.map_cons, List.sum_cons, List.flatMap_cons, List.map_append, List.sum_append] at g2 ⊢
            omega
      rw [e1, e3, e4]
      unfold ownN ptrsL
      rw [List.map_append, List.sum_append, List.map_append, List.sum_append]
      omega
theorem nodeOk_can {n : Nd} (h : nodeOk n = true) : nodeOk (canN n) = true := by
  obtain ⟨h1, h2⟩ := node_ok h
  exact ok_node (ok_can 8 n h1) (Nat.le_trans (words_can 8 n h1) h2)
theorem words_canL {n : Nd} (h : nodeOk n = true) : nodeWords (canN n) ≤ nodeWords n := by
  unfold nodeWords
  rw [if_pos h, if_pos (nodeOk_can h)]
  exact words_can 8 n (node_ok h).1
theorem can_can_ok {n : Nd} (h : nodeOk n = true) : canN (canN n) = canN n := can_can 8 n (node_ok h).1
end Go.Proofs.YtbijfkpilncclaaGreat


/- The one form of a node, purely: items, cut; how great it is. -/
namespace Go.Proofs.YtbijfkpilncclaaGreat
open Go.RowKit
theorem can_kind0 {p : Nd} (h : formN p = true) (hk : (canN p).kind = 0) : canN p = noneNd := by
  rw [canN_kind] at hk
  rw [none_eq h hk, can_none]
/-- an item of the one form, as it is cut. -/
theorem even_cut {y : Nd} {D P : Nat} (k1 : y.kind = 1) (k3 : y.size = 0) (k4 : y.count = 0) (k5 : y.items = []) (h8 : y.data.size % 8 = 0) (hD8 : D % 8 = 0) (hD1 : (canN y).data.size ≤ D) (hD2 : D ≤ y.data.size) (hP1 : endC (y.ptrs.map canN) ≤ P) (hP2 : P ≤ y.ptrs.length) (hn : ∀ p ∈ y.ptrs, formN p = true) :
    evenN D P (canN y) = .mk 1 (y.data.extract 0 D) ((y.ptrs.map canN).take P) 0 0 [] := by
  have hd := can_data8 k1 k3 k4 k5
  rw [take_even hP1 (by rw [List.length_map]; exact hP2) (fun q hq h0 => by
    obtain ⟨p, hp, rfl⟩ := List.mem_map.1 hq
    exact can_kind0 (hn p hp) h0)]
  rw [show D = 8 * (D / 8) by omega, trimD_cut (j := D / 8) h8 (by omega) (by omega)]
  rw [can_str k1 k3 k4 k5] at hd ⊢
  have hd' : (trimD y.data).size = 8 * tw y.data.data.toList := hd
  show Nd.mk 1 (trimD y.data ++ zeroD (8 * (D / 8) - (trimD y.data).size)) (endP (y.ptrs.map canN) ++ List.replicate (P - (endP (y.ptrs.map canN)).length) noneNd) 0 0 [] = _
  rw [endP_length, show 8 * (D / 8) - (trimD y.data).size = 8 * (D / 8 - tw y.data.data.toList) by omega]
mutual
/-- how great a node is, with all within. -/
def sizN : Nd → Nat
  | .mk _ d p _ _ i => d.size + sizL p + sizL i
def sizL : List Nd → Nat
  | [] => 0
  | n :: t => 1 + sizN n + sizL t
end
theorem sizL_map : ∀ l : List Nd, sizL l = (l.map fun n => 1 + sizN n).sum
  | [] => by rw [sizL]; rfl
  | n :: t => by rw [sizL, sizL_map t]; simp
theorem sizN_eq (n : Nd) : sizN n = n.data.size + sizL n.ptrs + sizL n.items := by
  cases n with
  | mk k d p s c i => rw [sizN]; rfl
theorem sizL_nil : sizL [] = 0 := by rw [sizL]
theorem totL_siz {w : World} {S : Nat → Prop} : ∀ (m : Nat) (A : Option Addr) (l : List Nd), NdsAt w S m A l → totL m l = sizL l
  | 0, A, l, h => by rw [h.zero, sizL_nil]; rfl
  | m + 1, A, l, h => by
    rw [totL_succ, sizL_map]
    congr 1
    apply List.map_congr_left
    intro n hn
    obtain ⟨hd, h1⟩ := h.mem n hn
    unfold totN
    rw [sizN_eq, totL_siz m _ _ h1.2.1, totL_siz m _ _ h1.2.2]
theorem totN_siz {w : World} {S : Nat → Prop} {m : Nat} {n : Nd} {h : Hd} (hn : NdAt w S m n h) : totN m n = sizN n := by
  unfold totN
  rw [sizN_eq, totL_siz m _ _ hn.2.1, totL_siz m _ _ hn.2.2]
theorem sizL_app (a b : List Nd) : sizL (a ++ b) = sizL a + sizL b := by rw [sizL_map, sizL_map, sizL_map, List.map_append, List.sum_append]
theorem sizL_take (l : List Nd) (k : Nat) : sizL (l.take k) ≤ sizL l := by
  conv => rhs; rw [← List.take_append_drop k l]
  rw [sizL_app]; omega
theorem sizL_le {l : List Nd} {f : Nd → Nd} (h : ∀ n ∈ l, sizN (f n) ≤ sizN n) : sizL (l.map f) ≤ sizL l := by
  rw [sizL_map, sizL_map, List.map_map]
  exact sum_le _ _ _ fun n hn => by have := h n hn; show 1 + sizN (f n) ≤ 1 + sizN n; omega
/-- the items of the one form, as they are cut. -/
theorem evenL_cut {n : Nd} (hf : formN n = true) (hk : ∀ p ∈ ptrsL n, formN p = true) : evenL (n.items.map canN) = n.items.map (fun y => .mk 1 (y.data.extract 0 (topD (n.items.map canN))) ((y.ptrs.map canN).take (topP (n.items.map canN))) 0 0 []) ∧
    ∀ y ∈ n.items, y.kind = 1 ∧ y.data.size % 8 = 0 ∧ y.size = 0 ∧ y.count = 0 ∧ y.items = [] ∧ topD (n.items.map canN) ≤ y.data.size ∧ topP (n.items.map canN) ≤ y.ptrs.length := by
  rcases form_cases hf with hc | hc | hc
  · rw [nil_of_len hc.2.2.2.2.2]; exact ⟨rfl, fun y h => by cases h⟩
  · rw [nil_of_len hc.2.2.2.2]; exact ⟨rfl, fun y h => by cases h⟩
  · obtain ⟨h1, h2, hc | hc | hc⟩ := hc
    · rw [nil_of_len hc.2.2.2.2]; exact ⟨rfl, fun y h => by cases h⟩
    · rw [nil_of_len hc.2.2.2]; exact ⟨rfl, fun y h => by cases h⟩
    · have hi := hc.2.2.2.2
      have hb := can_item_kind hi
      have hD : topD (n.items.map canN) ≤ (n.items.headD default).data.size := topD_le fun z hz => by
        obtain ⟨y, hy, rfl⟩ := List.mem_map.1 hz
        obtain ⟨k1, k2, k3, k4, k5, k6, _⟩ := hb y hy
        rw [can_data8 k1 k3 k4 k5]
        have l2 := tw_le y.data.data.toList
        have l3 : y.data.data.toList.length = y.data.size := by simp
        omega
      have hP : topP (n.items.map canN) ≤ (n.items.headD default).ptrs.length := topP_le fun z hz => by
        obtain ⟨y, hy, rfl⟩ := List.mem_map.1 hz
        obtain ⟨k1, k2, k3, k4, k5, _, k7⟩ := hb y hy
        rw [can_str k1 k3 k4 k5]
        show (endP (y.ptrs.map canN)).length ≤ _
        have l4 := endC_le (y.ptrs.map canN)
        rw [endP_length]
        rw [List.length_map] at l4
        omega
      have h8 : topD (n.items.map canN) % 8 = 0 := topD_8 fun z hz => by
        obtain ⟨y2, hy2, rfl⟩ := List.mem_map.1 hz
        obtain ⟨k1, k2, k3, k4, k5, _, _⟩ := hb y2 hy2
        rw [can_data8 k1 k3 k4 k5]; omega
      refine ⟨?_, fun y hy => ?_⟩
      · show (n.items.map canN).map (evenN (topD (n.items.map canN)) (topP (n.items.map canN))) = _
        rw [List.map_map]
        apply List.map_congr_left
        intro y hy
        obtain ⟨k1, k2, k3, k4, k5, k6, k7⟩ := hb y hy
        have hy1 := le_topD _ _ (List.mem_map.2 ⟨y, hy, rfl⟩ : canN y ∈ n.items.map canN)
        have hy2 := le_topP _ _ (List.mem_map.2 ⟨y, hy, rfl⟩ : canN y ∈ n.items.map canN)
        have hy3 : (canN y).ptrs.length = endC (y.ptrs.map canN) := by rw [can_str k1 k3 k4 k5]; exact endP_length _
        exact even_cut k1 k3 k4 k5 k2 h8 hy1 (by omega) (by omega) (by omega) (fun p hp => hk p (List.mem_append_right _ (List.mem_flatMap.2 ⟨y, hy, hp⟩)))
      · obtain ⟨k1, k2, k3, k4, k5, k6, k7⟩ := hb y hy
        exact ⟨k1, k2, k3, k4, k5, by omega, by omega⟩
theorem siz_can : ∀ (d : Nat) (n : Nd), okN d n = true → sizN (canN n) ≤ sizN n
  | 0, n, h => by
    have hf := (ok_kids h).1
    simp only [okN, Bool.and_eq_true, decide_eq_true_eq] at h
    rw [none_eq hf h.2, can_none]; exact Nat.le_refl _
  | d + 1, n, h => by
    obtain ⟨hf, hk⟩ := ok_kids h
    have hp : sizL (n.ptrs.map canN) ≤ sizL n.ptrs := sizL_le fun p hp => siz_can d p (hk p (List.mem_append_left _ hp))
    rcases form_cases hf with hc | hc | hc
    · rw [none_eq hf hc.1, can_none]; exact Nat.le_refl _
    · obtain ⟨h1, h2, h3, h4, h5⟩ := hc
      rw [can_str h1 h3 h4 (nil_of_len h5), sizN_eq, sizN_eq n]
      show (trimD n.data).size + sizL (endP (n.ptrs.map canN)) + sizL [] ≤ _
      have l1 := trimD_size n.data
      have l2 := tw_le n.data.data.toList
      have l3 : n.data.data.toList.length = n.data.size := by simp
      have l4 : sizL (endP (n.ptrs.map canN)) ≤ sizL (n.ptrs.map canN) := sizL_take _ _
      rw [sizL_nil]
      omega
    · have h1 := hc.1
      obtain ⟨he, hb⟩ := evenL_cut hf (fun p hp => (ok_kids (hk p hp)).1)
      rw [can_lis h1, sizN_eq, sizN_eq n]
      show n.data.size + sizL (n.ptrs.map canN) + sizL (evenL (n.items.map canN)) ≤ _
      have : sizL (evenL (n.items.map canN)) ≤ sizL n.items := by
        rw [he]
        refine sizL_le fun y hy => ?_
        obtain ⟨k1, k2, k3, k4, k5, k6, k7⟩ := hb y hy
        rw [sizN_eq, sizN_eq y, k5]
        show (y.data.extract 0 _).size + sizL ((y.ptrs.map canN).take _) + sizL [] ≤ _
        have l1 : (y.data.extract 0 (topD (n.items.map canN))).size ≤ y.data.size := by simp [ByteArray.size_extract]; omega
        have l2 := sizL_take (y.ptrs.map canN) (topP (n.items.map canN))
        have l3 : sizL (y.ptrs.map canN) ≤ sizL y.ptrs := sizL_le fun p hp => siz_can d p (hk p (List.mem_append_right _ (List.mem_flatMap.2 ⟨y, hy, hp⟩)))
        omega
      omega
/-- within what is ok no words are more than 1600 bytes. -/
theorem ok_data {n : Nd} (h : nodeOk n = true) (hk : n.kind = 1) : n.data.size % 8 = 0 ∧ n.data.size ≤ 1592 := by
  obtain ⟨h1, h2⟩ := node_ok h
  have hf := (ok_kids h1).1
  rw [words_kids h1] at h2
  have h3 : (n.data.size + 7) / 8 ≤ ownN n := by unfold ownN ownB; omega
  rcases form_cases hf with hc | hc | hc
  · omega
  · exact ⟨by have := hc.2.1; omega, by have := hc.2.1; omega⟩
  · omega
end Go.Proofs.YtbijfkpilncclaaGreat
