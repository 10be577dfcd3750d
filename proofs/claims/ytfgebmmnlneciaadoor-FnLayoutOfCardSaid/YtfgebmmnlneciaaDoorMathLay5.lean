/- Fields' places, told by their bits: what the laws on layouts ask. -/
import Derived.Test.YtfgebmmnlneciaaDoorMathLay3
namespace Go.Proofs.YtfgebmmnlneciaaDoor
/-- the place of a field, and its bits. -/
def atF (l : List Fld) (k : Nat) : Nat := (layF l ps0).1.getD k 0
def frF (z : Int) (a : Nat) : Int := (a : Int) * bitsOf z
def toF (z : Int) (a : Nat) : Int := (a : Int) * bitsOf z + bitsOf z
theorem bits_pow {z : Int} (h1 : 1 ≤ z) (h2 : z ≤ 6) (h6 : z ≠ 6) : bitsOf z = ((2 ^ (6 - kOf z) : Nat) : Int) := by
  have : z = 1 ∨ z = 2 ∨ z = 3 ∨ z = 4 ∨ z = 5 := by omega
  rcases this with rfl | rfl | rfl | rfl | rfl <;> decide
theorem in_bits {z : Int} (h1 : 1 ≤ z) (h2 : z ≤ 6) (h6 : z ≠ 6) (a b : Nat) : inS (kOf z) a b ↔ (frF z a ≤ b ∧ (b : Int) < toF z a) := by
  unfold inS frF toF
  rw [bits_pow h1 h2 h6, Nat.add_mul, Nat.one_mul]
  generalize 2 ^ (6 - kOf z) = p
  rw [← Int.natCast_mul]
  omega
theorem fr_nn {z : Int} (h1 : 1 ≤ z) (h2 : z ≤ 6) (h6 : z ≠ 6) (a : Nat) : 0 ≤ frF z a ∧ 1 ≤ bitsOf z ∧ bitsOf z ≤ 64 := by
  have hb : 1 ≤ bitsOf z ∧ bitsOf z ≤ 64 := by
    have : z = 1 ∨ z = 2 ∨ z = 3 ∨ z = 4 ∨ z = 5 := by omega
    rcases this with rfl | rfl | rfl | rfl | rfl <;> decide
  refine ⟨?_, hb⟩
  unfold frF
  rw [bits_pow h1 h2 h6, ← Int.natCast_mul]
  omega
/-- two runs of bits that meet have a bit in common. -/
theorem meet_bit {z y : Int} (h1 : 1 ≤ z) (h2 : z ≤ 6) (h6 : z ≠ 6) (k1 : 1 ≤ y) (k2 : y ≤ 6) (k6 : y ≠ 6) {a c : Nat} (hm : frF z a < toF y c) (hm' : frF y c < toF z a) : ∃ b, inS (kOf z) a b ∧ inS (kOf y) c b := by
  obtain ⟨z0, z1, z2⟩ := fr_nn h1 h2 h6 a
  obtain ⟨y0, y1, y2⟩ := fr_nn k1 k2 k6 c
  have ez : toF z a = frF z a + bitsOf z := rfl
  have ey : toF y c = frF y c + bitsOf y := rfl
  by_cases h : frF z a ≤ frF y c
  · refine ⟨(frF y c).toNat, (in_bits h1 h2 h6 _ _).2 ?_, (in_bits k1 k2 k6 _ _).2 ?_⟩ <;> omega
  · refine ⟨(frF z a).toNat, (in_bits h1 h2 h6 _ _).2 ?_, (in_bits k1 k2 k6 _ _).2 ?_⟩ <;> omega
theorem zip_at (l : List Fld) (k : Nat) (hk : k < l.length) : ∃ h, (l.zip (layF l ps0).1)[k]'h = (l[k], atF l k) := by
  have hl := lay_length l ps0
  refine ⟨by simp [hl]; exact hk, ?_⟩
  rw [List.getElem_zip, atF, List.getD, List.getElem?_eq_getElem (by omega)]
  rfl
theorem zip_mem (l : List Fld) (k : Nat) (hk : k < l.length) : (l[k], atF l k) ∈ l.zip (layF l ps0).1 := by
  obtain ⟨h, e⟩ := zip_at l k hk
  rw [← e]
  exact List.getElem_mem h
theorem zip_pair {R : Fld × Nat → Fld × Nat → Prop} (l : List Fld) (h : (l.zip (layF l ps0).1).Pairwise R) {k i : Nat} (hki : k < i) (hi : i < l.length) : R (l[k]'(by omega), atF l k) (l[i], atF l i) := by
  obtain ⟨h1, e1⟩ := zip_at l k (by omega)
  obtain ⟨h2, e2⟩ := zip_at l i hi
  rw [← e1, ← e2]
  exact List.pairwise_iff_getElem.1 h k i h1 h2 hki
theorem pair_eq {α : Type} {R : α → α → Prop} {l : List α} (h : l.Pairwise R) {x y : α} (hx : x ∈ l) (hy : y ∈ l) (h1 : ¬ R x y) (h2 : ¬ R y x) : x = y := by
  obtain ⟨i, hi, rfl⟩ := List.mem_iff_getElem.1 hx
  obtain ⟨j, hj, rfl⟩ := List.mem_iff_getElem.1 hy
  rcases Nat.lt_trichotomy i j with h' | h' | h'
  · exact absurd (List.pairwise_iff_getElem.1 h i j hi hj h') h1
  · subst h'; rfl
  · exact absurd (List.pairwise_iff_getElem.1 h j i hj hi h') h2
/-- what the laws ask of a layout's places. -/
structure LayOk (l : List Fld) : Prop where
  size : ∀ k (hk : k < l.length), 1 ≤ (l[k]).size ∧ (l[k]).size ≤ 6
  within : ∀ k (hk : k < l.length), (l[k]).size ≠ 6 → toF (l[k]).size (atF l k) ≤ 64 * ((layF l ps0).2.ls.words : Int)
  tag : 0 ≤ (layF l ps0).2.tag → ∀ k (hk : k < l.length), (l[k]).size ≠ 6 → ¬ (frF (l[k]).size (atF l k) < 16 * (layF l ps0).2.tag + 16 ∧ 16 * (layF l ps0).2.tag < toF (l[k]).size (atF l k))
  tagIn : 0 ≤ (layF l ps0).2.tag → 16 * (layF l ps0).2.tag + 16 ≤ 64 * ((layF l ps0).2.ls.words : Int)
  pair : ∀ k i (hki : k < i) (hi : i < l.length), (l[i]).size ≠ 6 → (l[k]'(by omega)).size ≠ 6 → ¬ ((l[i]).choice = true ∧ (l[k]'(by omega)).choice = true) → ¬ (frF (l[i]).size (atF l i) < toF (l[k]'(by omega)).size (atF l k) ∧ frF (l[k]'(by omega)).size (atF l k) < toF (l[i]).size (atF l i))
  ptr : ∀ k (hk : k < l.length), (l[k]).size = 6 → atF l k < (layF l ps0).2.ptrs
  ptrs : ∀ k i (hki : k < i) (hi : i < l.length), (l[i]).size = 6 → (l[k]'(by omega)).size = 6 → ¬ ((l[i]).choice = true ∧ (l[k]'(by omega)).choice = true) → atF l i ≠ atF l k
  share : ∀ k i (hki : k < i) (hi : i < l.length), (l[i]).size ≠ 6 → (l[k]'(by omega)).size ≠ 6 → (l[i]).choice = true → (l[k]'(by omega)).choice = true → frF (l[i]).size (atF l i) < toF (l[k]'(by omega)).size (atF l k) → frF (l[k]'(by omega)).size (atF l k) < toF (l[i]).size (atF l i) → frF (l[i]).size (atF l i) = frF (l[k]'(by omega)).size (atF l k)
  shareP : ∀ k i (hki : k < i) (hi : i < l.length), (l[i]).size = 6 → (l[k]'(by omega)).size = 6 → (l[i]).choice = true → (l[k]'(by omega)).choice = true → atF l i = atF l k
  many : 0 ≤ (layF l ps0).2.tag ↔ 2 ≤ (l.filter fun f => f.choice).length
theorem room_start {z : Int} (h1 : 1 ≤ z) (h2 : z ≤ 6) (h6 : z ≠ 6) {a r c : Nat} (hr : r ≤ kOf z) (e : a = c * 2 ^ (kOf z - r)) : frF z a = ((c * 2 ^ (6 - r) : Nat) : Int) := by
  unfold frF
  rw [bits_pow h1 h2 h6, ← Int.natCast_mul, e, Nat.mul_assoc, ← Nat.pow_add]
  have := kOf_le z
  rw [show kOf z - r + (6 - kOf z) = 6 - r by omega]
theorem zip_filter : ∀ (l : List Fld) (m : List Nat), m.length = l.length → ((l.zip m).filter fun x => x.1.choice).length = (l.filter fun f => f.choice).length
  | [], _, _ => by simp
  | f :: l, a :: m, h => by
    have ih := zip_filter l m (by simpa using h)
    rw [List.zip_cons_cons, List.filter_cons, List.filter_cons]
    cases hf : f.choice
    · simpa [hf] using ih
    · simp [hf, ih]
  | _ :: _, [], h => by simp at h
theorem layOk (l : List Fld) (hs : ∀ k (hk : k < l.length), 1 ≤ (l[k]).size ∧ (l[k]).size ≤ 6) : LayOk l := by
  obtain ⟨N, g⟩ := lay_ginv l
  have used : ∀ k (hk : k < l.length), (l[k]).size ≠ 6 → ∀ b, inS (kOf (l[k]).size) (atF l k) b → b < 64 * (layF l ps0).2.ls.words := fun k hk h6 b hb =>
    (g.dused _ (zip_mem l k hk) h6 b hb).1
  refine ⟨hs, ?_, ?_, ?_, ?_, ?_, ?_, ?_, ?_, ?_⟩
  · intro k hk h6
    obtain ⟨h1, h2⟩ := hs k hk
    obtain ⟨z0, z1, z2⟩ := fr_nn h1 h2 h6 (atF l k)
    have e : toF (l[k]).size (atF l k) = frF (l[k]).size (atF l k) + bitsOf (l[k]).size := rfl
    have := used k hk h6 (toF (l[k]).size (atF l k) - 1).toNat ((in_bits h1 h2 h6 _ _).2 (by omega))
    omega
  · intro ht k hk h6 hm
    obtain ⟨h1, h2⟩ := hs k hk
    obtain ⟨z0, z1, z2⟩ := fr_nn h1 h2 h6 (atF l k)
    have e : toF (l[k]).size (atF l k) = frF (l[k]).size (atF l k) + bitsOf (l[k]).size := rfl
    by_cases hc : frF (l[k]).size (atF l k) ≤ 16 * (layF l ps0).2.tag
    · refine g.tagD ht _ (zip_mem l k hk) h6 (16 * (layF l ps0).2.tag).toNat ?_ ((in_bits h1 h2 h6 (atF l k) _).2 (by omega))
      unfold inS
      simp only [show (2 : Nat) ^ (6 - 2) = 16 from rfl]
      omega
    · refine g.tagD ht _ (zip_mem l k hk) h6 (frF (l[k]).size (atF l k)).toNat ?_ ((in_bits h1 h2 h6 (atF l k) _).2 (by omega))
      unfold inS
      simp only [show (2 : Nat) ^ (6 - 2) = 16 from rfl]
      omega
  · intro ht
    have := (g.nused _ (g.tagN ht (16 * (layF l ps0).2.tag.toNat + 15) (by unfold inS; simp only [show (2 : Nat) ^ (6 - 2) = 16 from rfl]; omega))).1
    omega
  · intro k i hki hi h6 k6 hb hm
    obtain ⟨h1, h2⟩ := hs i hi
    obtain ⟨k1, k2⟩ := hs k (by omega)
    obtain ⟨b, b1, b2⟩ := meet_bit h1 h2 h6 k1 k2 k6 hm.1 hm.2
    exact zip_pair l g.dapart hki hi k6 h6 (fun hh => hb ⟨hh.2, hh.1⟩) b b2 b1
  · intro k hk h6
    exact g.ptr _ (zip_mem l k hk) (fun h => h h6)
  · intro k i hki hi h6 k6 hb he
    exact zip_pair l g.papart hki hi (fun h => h k6) (fun h => h h6) (fun hh => hb ⟨hh.2, hh.1⟩) he.symm
  · intro k i hki hi h6 k6 ci ck m1 m2
    obtain ⟨h1, h2⟩ := hs i hi
    obtain ⟨k1, k2⟩ := hs k (by omega)
    obtain ⟨b, b1, b2⟩ := meet_bit h1 h2 h6 k1 k2 k6 m1 m2
    obtain ⟨r, hr, r1, r2⟩ := g.dC _ (zip_mem l i hi) h6 ci
    obtain ⟨q, hq, q1, q2⟩ := g.dC _ (zip_mem l k (by omega)) k6 ck
    simp only at r1 r2 q1 q2
    have br : inS r.1 r.2 b := in_room (kOf_le _) r1 (by rw [r2] at b1; exact b1)
    have bq : inS q.1 q.2 b := in_room (kOf_le _) q1 (by rw [q2] at b2; exact b2)
    have : r = q := pair_eq g.sapart hr hq (fun h => h b br bq) (fun h => h b bq br)
    subst this
    rw [room_start h1 h2 h6 r1 r2, room_start k1 k2 k6 q1 q2]
  · intro k i hki hi h6 k6 ci ck
    have a := g.ptrC _ (zip_mem l i hi) (fun h => h h6) ci
    have b := g.ptrC _ (zip_mem l k (by omega)) (fun h => h k6) ck
    simp only at a b
    omega
  · rw [g.tagm, g.many, zip_filter l _ (lay_length l ps0)]
end Go.Proofs.YtfgebmmnlneciaaDoor
