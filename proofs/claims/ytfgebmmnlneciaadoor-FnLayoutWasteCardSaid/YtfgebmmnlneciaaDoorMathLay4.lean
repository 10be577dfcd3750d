/- Where fields stand: a field more; nothing wasted; all of one size. No Go text. -/
import Derived.Test.YtfgebmmnlneciaaDoorMathLay3
namespace Go.Proofs.YtfgebmmnlneciaaDoor
theorem room_words (s : LS) : ∀ k, s.words ≤ (roomF k s).2.words
  | 0 => Nat.le_succ _
  | k + 1 => by
    by_cases h0 : s.hole (k + 1) = 0
    · rw [room_miss k s h0]; exact room_words s k
    · rw [room_hit k s h0]; exact Nat.le_refl _
/-- a field more takes nothing back. -/
structure More (s t : PS) : Prop where
  words : s.ls.words ≤ t.ls.words
  ptrs : s.ptrs ≤ t.ptrs
  many : s.many ≤ t.many
  tag : 2 ≤ s.many → t.tag = s.tag
theorem More.refl (s : PS) : More s s := ⟨Nat.le_refl _, Nat.le_refl _, Nat.le_refl _, fun _ => rfl⟩
theorem More.trans {s t u : PS} (h : More s t) (k : More t u) : More s u := ⟨Nat.le_trans h.words k.words, Nat.le_trans h.ptrs k.ptrs, Nat.le_trans h.many k.many, fun hm => (k.tag (Nat.le_trans hm h.many)).trans (h.tag hm)⟩
theorem tag_more (c : Bool) (s : PS) : More s (tagF c s) := by
  cases c with
  | false => exact More.refl s
  | true =>
    by_cases h : s.many + 1 = 2
    · have he : tagF true s = { s with many := s.many + 1, ls := (roomF 2 s.ls).2, tag := (roomF 2 s.ls).1 } := by unfold tagF; rw [if_pos rfl, if_pos h]
      rw [he]
      exact ⟨room_words _ _, Nat.le_refl _, Nat.le_succ _, fun hm => by omega⟩
    · have he : tagF true s = { s with many := s.many + 1 } := by unfold tagF; rw [if_pos rfl, if_neg h]
      rw [he]
      exact ⟨Nat.le_refl _, Nat.le_refl _, Nat.le_succ _, fun _ => rfl⟩
theorem share_more (k : Nat) (s : PS) : More s (shareF k s).2 := by
  unfold shareF
  cases s.shared.find? (fun r => r.1 ≤ k) with
  | some r => exact More.refl s
  | none => exact ⟨room_words _ _, Nat.le_refl _, Nat.le_refl _, fun _ => rfl⟩
theorem sharePtr_more (s : PS) : More s (sharePtrF s).2 := by
  unfold sharePtrF
  by_cases h : s.point < 0
  · rw [if_pos h]; exact ⟨Nat.le_refl _, Nat.le_succ _, Nat.le_refl _, fun _ => rfl⟩
  · rw [if_neg h]; exact More.refl s
theorem place_more (f : Fld) (s : PS) : More s (placeF f s).2 := by
  refine (tag_more f.choice s).trans ?_
  unfold placeF
  by_cases hp : f.size = 6
  · rw [if_pos hp]
    cases hc : f.choice with
    | true => rw [if_pos rfl]; exact sharePtr_more _
    | false => rw [if_neg (by simp)]; exact ⟨Nat.le_refl _, Nat.le_succ _, Nat.le_refl _, fun _ => rfl⟩
  · rw [if_neg hp]
    cases hc : f.choice with
    | true => rw [if_pos rfl]; exact share_more _ _
    | false => rw [if_neg (by simp)]; exact ⟨room_words _ _, Nat.le_refl _, Nat.le_refl _, fun _ => rfl⟩
theorem lay_more : ∀ (l : List Fld) (s : PS), More s (layF l s).2
  | [], s => More.refl s
  | f :: r, s => (place_more f s).trans (lay_more r _)
/-- the first so many of fields. -/
theorem lay_prefix (l : List Fld) (k : Nat) (hk : k ≤ l.length) :
    (layF (l.take k) ps0).1 = ((layF l ps0).1).take k ∧ More (layF (l.take k) ps0).2 (layF l ps0).2 ∧ ((layF (l.take k) ps0).2.tag < 0 ∨ (layF (l.take k) ps0).2.tag = (layF l ps0).2.tag) := by
  have h := lay_append (l.take k) (l.drop k) ps0
  rw [List.take_append_drop] at h
  have h1 : (layF l ps0).1 = (layF (l.take k) ps0).1 ++ (layF (l.drop k) (layF (l.take k) ps0).2).1 := by rw [h]
  have h2 : (layF l ps0).2 = (layF (l.drop k) (layF (l.take k) ps0).2).2 := by rw [h]
  have hm : More (layF (l.take k) ps0).2 (layF l ps0).2 := by rw [h2]; exact lay_more _ _
  refine ⟨?_, hm, ?_⟩
  · have hlen : (layF (l.take k) ps0).1.length = k := by rw [lay_length, List.length_take]; omega
    rw [h1, List.take_append_of_le_length (by omega)]
    exact (List.take_of_length_le (by omega)).symm
  · obtain ⟨N, g⟩ := lay_ginv (l.take k)
    by_cases ht : (layF (l.take k) ps0).2.tag < 0
    · exact .inl ht
    · exact .inr (hm.tag (g.tagm.1 (by omega))).symm
/-- what is left in holes. -/
def hs (h : Nat → Nat) (i : Nat) : Nat := if h i = 0 then 0 else 2 ^ (6 - i)
def hsum (h : Nat → Nat) : Nat := hs h 1 + hs h 2 + hs h 3 + hs h 4 + hs h 5 + hs h 6
theorem hs_le (h : Nat → Nat) (i : Nat) : hs h i ≤ 2 ^ (6 - i) := by
  unfold hs
  split
  · exact Nat.zero_le _
  · exact Nat.le_refl _
theorem hsum_lt (h : Nat → Nat) : hsum h < 64 := by
  have h1 := hs_le h 1; have h2 := hs_le h 2; have h3 := hs_le h 3; have h4 := hs_le h 4; have h5 := hs_le h 5; have h6 := hs_le h 6
  simp only [Nat.reduceSub, Nat.reducePow] at *
  unfold hsum; omega
theorem hs_upd_other (h : Nat → Nat) (k v i : Nat) (hi : i ≠ k) : hs (upd h k v) i = hs h i := by unfold hs; rw [upd_other _ _ _ _ hi]
theorem hs_upd_new (h : Nat → Nat) (k v : Nat) (hv : v ≠ 0) : hs (upd h k v) k = 2 ^ (6 - k) := by unfold hs; rw [upd_same, if_neg hv]
theorem hs_upd_nil (h : Nat → Nat) (k : Nat) : hs (upd h k 0) k = 0 := by unfold hs; rw [upd_same, if_pos rfl]
theorem hs_zero {h : Nat → Nat} {k : Nat} (h0 : h k = 0) : hs h k = 0 := by unfold hs; rw [if_pos h0]
theorem hs_full {h : Nat → Nat} {k : Nat} (h0 : h k ≠ 0) : hs h k = 2 ^ (6 - k) := by unfold hs; rw [if_neg h0]
theorem hsum_upd (h : Nat → Nat) (k v : Nat) (hk : 1 ≤ k) (hk6 : k ≤ 6) : hsum (upd h k v) + hs h k = hsum h + hs (upd h k v) k := by
  have hkk : k = 1 ∨ k = 2 ∨ k = 3 ∨ k = 4 ∨ k = 5 ∨ k = 6 := by omega
  unfold hsum
  rcases hkk with rfl | rfl | rfl | rfl | rfl | rfl
  · rw [hs_upd_other h 1 v 2 (by decide), hs_upd_other h 1 v 3 (by decide), hs_upd_other h 1 v 4 (by decide), hs_upd_other h 1 v 5 (by decide), hs_upd_other h 1 v 6 (by decide)]; omega
  · rw [hs_upd_other h 2 v 1 (by decide), hs_upd_other h 2 v 3 (by decide), hs_upd_other h 2 v 4 (by decide), hs_upd_other h 2 v 5 (by decide), hs_upd_other h 2 v 6 (by decide)]; omega
  · rw [hs_upd_other h 3 v 1 (by decide), hs_upd_other h 3 v 2 (by decide), hs_upd_other h 3 v 4 (by decide), hs_upd_other h 3 v 5 (by decide), hs_upd_other h 3 v 6 (by decide)]; omega
  · rw [hs_upd_other h 4 v 1 (by decide), hs_upd_other h 4 v 2 (by decide), hs_upd_other h 4 v 3 (by decide), hs_upd_other h 4 v 5 (by decide), hs_upd_other h 4 v 6 (by decide)]; omega
  · rw [hs_upd_other h 5 v 1 (by decide), hs_upd_other h 5 v 2 (by decide), hs_upd_other h 5 v 3 (by decide), hs_upd_other h 5 v 4 (by decide), hs_upd_other h 5 v 6 (by decide)]; omega
  · rw [hs_upd_other h 6 v 1 (by decide), hs_upd_other h 6 v 2 (by decide), hs_upd_other h 6 v 3 (by decide), hs_upd_other h 6 v 4 (by decide), hs_upd_other h 6 v 5 (by decide)]; omega
theorem room_sum (s : LS) : ∀ k, k ≤ 6 → 64 * (roomF k s).2.words + hsum s.hole = 64 * s.words + hsum (roomF k s).2.hole + 2 ^ (6 - k)
  | 0, _ => by show 64 * (s.words + 1) + hsum s.hole = 64 * s.words + hsum s.hole + 64; omega
  | k + 1, hk => by
    have hp := two_pow6 hk
    by_cases h0 : s.hole (k + 1) = 0
    · have ih := room_sum s k (by omega)
      rw [room_miss k s h0]
      show 64 * (roomF k s).2.words + hsum s.hole = 64 * s.words + hsum (upd (roomF k s).2.hole (k + 1) (2 * (roomF k s).1 + 1)) + 2 ^ (6 - (k + 1))
      have hu := hsum_upd (roomF k s).2.hole (k + 1) (2 * (roomF k s).1 + 1) (by omega) hk
      rw [hs_upd_new _ _ _ (by omega), hs_zero (by rw [room_above s (k + 1) k (Nat.lt_succ_self k)]; exact h0)] at hu
      omega
    · rw [room_hit k s h0]
      show 64 * s.words + hsum s.hole = 64 * s.words + hsum (upd s.hole (k + 1) 0) + 2 ^ (6 - (k + 1))
      have hu := hsum_upd s.hole (k + 1) 0 (by omega) hk
      rw [hs_upd_nil, hs_full h0] at hu
      omega
/-- bits and pointers of fields. -/
def sumBits : List Fld → Nat
  | [] => 0
  | f :: r => (if f.size = 6 then 0 else 2 ^ (6 - kOf f.size)) + sumBits r
def sumPtrs : List Fld → Nat
  | [] => 0
  | f :: r => (if f.size = 6 then 1 else 0) + sumPtrs r
theorem lay_sum : ∀ (l : List Fld) (s : PS), (∀ f ∈ l, f.choice = false) → 64 * (layF l s).2.ls.words + hsum s.ls.hole = 64 * s.ls.words + hsum (layF l s).2.ls.hole + sumBits l ∧ (layF l s).2.ptrs = s.ptrs + sumPtrs l ∧ (layF l s).2.tag = s.tag
  | [], s, _ => ⟨rfl, rfl, rfl⟩
  | f :: r, s, h => by
    have hc := h f (List.mem_cons_self ..)
    have ht : tagF f.choice s = s := by rw [hc]; rfl
    obtain ⟨i1, i2, i3⟩ := lay_sum r (placeF f s).2 (fun g hg => h g (List.mem_cons_of_mem _ hg))
    by_cases hp : f.size = 6
    · have he : placeF f s = ptrF s := by unfold placeF; rw [if_pos hp, hc]; rfl
      rw [he] at i1 i2 i3
      show 64 * (layF r (placeF f s).2).2.ls.words + _ = _ + hsum (layF r (placeF f s).2).2.ls.hole + ((if f.size = 6 then 0 else 2 ^ (6 - kOf f.size)) + sumBits r) ∧ (layF r (placeF f s).2).2.ptrs = s.ptrs + ((if f.size = 6 then 1 else 0) + sumPtrs r) ∧ (layF r (placeF f s).2).2.tag = s.tag
      rw [he, if_pos hp, if_pos hp]
      refine ⟨?_, ?_, i3⟩
      · rw [Nat.zero_add]; exact i1
      · rw [i2]; show s.ptrs + 1 + sumPtrs r = _; omega
    · have he : placeF f s = dataF (kOf f.size) s := by unfold placeF; rw [if_neg hp, hc]; rfl
      have hr := room_sum s.ls (kOf f.size) (kOf_le _)
      rw [he] at i1 i2 i3
      show 64 * (layF r (placeF f s).2).2.ls.words + _ = _ + hsum (layF r (placeF f s).2).2.ls.hole + ((if f.size = 6 then 0 else 2 ^ (6 - kOf f.size)) + sumBits r) ∧ (layF r (placeF f s).2).2.ptrs = s.ptrs + ((if f.size = 6 then 1 else 0) + sumPtrs r) ∧ (layF r (placeF f s).2).2.tag = s.tag
      rw [he, if_neg hp, if_neg hp]
      refine ⟨?_, ?_, i3⟩
      · have i1' : 64 * (layF r (dataF (kOf f.size) s).2).2.ls.words + hsum (roomF (kOf f.size) s.ls).2.hole = 64 * (roomF (kOf f.size) s.ls).2.words + hsum (layF r (dataF (kOf f.size) s).2).2.ls.hole + sumBits r := i1
        omega
      · rw [i2, Nat.zero_add]; rfl
theorem lay_waste (l : List Fld) (h : ∀ f ∈ l, f.choice = false) : sumBits l ≤ 64 * (layF l ps0).2.ls.words ∧ 64 * (layF l ps0).2.ls.words - sumBits l < 64 ∧ (layF l ps0).2.ptrs = sumPtrs l ∧ (layF l ps0).2.tag = -1 := by
  obtain ⟨h1, h2, h3⟩ := lay_sum l ps0 h
  have h4 := hsum_lt (layF l ps0).2.ls.hole
  have h5 : hsum ps0.ls.hole = 0 := rfl
  have h6 : ps0.ls.words = 0 := rfl
  have h7 : ps0.ptrs = 0 := rfl
  refine ⟨by omega, by omega, by omega, h3⟩
def same12 (z : Int) : List Fld := List.replicate 12 ⟨z, false, 0⟩
theorem lay_same (z : Int) (h0 : 1 ≤ z) (h1 : z ≤ 6) : (layF (same12 z) ps0).1 = List.range 12 ∧ (layF (same12 z) ps0).2.tag = -1 := by
  have hz : z = 1 ∨ z = 2 ∨ z = 3 ∨ z = 4 ∨ z = 5 ∨ z = 6 := by omega
  rcases hz with rfl | rfl | rfl | rfl | rfl | rfl
  all_goals exact ⟨by decide, by decide⟩
end Go.Proofs.YtfgebmmnlneciaaDoor
