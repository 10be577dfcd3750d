/- Where fields stand: each alone, but choices. No Go text. -/
import Derived.Test.YtfgebmmnlneciaaDoorMathLay2
namespace Go.Proofs.YtfgebmmnlneciaaDoor
def dat (f : Fld) : Prop := f.size ≠ 6
def both (f g : Fld) : Prop := f.choice = true ∧ g.choice = true
/-- what was laid out, and where: what holds of a plan. N: bits that stand alone. -/
structure GInv (s : PS) (D : List (Fld × Nat)) (N : Nat → Prop) : Prop where
  inv : LInv s.ls
  sh6 : ∀ r ∈ s.shared, r.1 ≤ 6
  nused : ∀ b, N b → UsedB s.ls b
  cused : ∀ r ∈ s.shared, ∀ b, inS r.1 r.2 b → UsedB s.ls b ∧ ¬ N b
  sapart : s.shared.Pairwise (fun r q => ∀ b, inS r.1 r.2 b → ¬ inS q.1 q.2 b)
  tagN : 0 ≤ s.tag → ∀ b, inS 2 s.tag.toNat b → N b
  dN : ∀ x ∈ D, dat x.1 → x.1.choice = false → ∀ b, inS (kOf x.1.size) x.2 b → N b
  dC : ∀ x ∈ D, dat x.1 → x.1.choice = true → ∃ r ∈ s.shared, r.1 ≤ kOf x.1.size ∧ x.2 = r.2 * 2 ^ (kOf x.1.size - r.1)
  dapart : D.Pairwise (fun x y => dat x.1 → dat y.1 → ¬ both x.1 y.1 → ∀ b, inS (kOf x.1.size) x.2 b → ¬ inS (kOf y.1.size) y.2 b)
  tagD : 0 ≤ s.tag → ∀ x ∈ D, dat x.1 → ∀ b, inS 2 s.tag.toNat b → ¬ inS (kOf x.1.size) x.2 b
  ptr : ∀ x ∈ D, ¬ dat x.1 → x.2 < s.ptrs
  ptrC : ∀ x ∈ D, ¬ dat x.1 → x.1.choice = true → (x.2 : Int) = s.point
  ptrN : ∀ x ∈ D, ¬ dat x.1 → x.1.choice = false → (x.2 : Int) ≠ s.point
  point : -1 ≤ s.point ∧ s.point < s.ptrs
  papart : D.Pairwise (fun x y => ¬ dat x.1 → ¬ dat y.1 → ¬ both x.1 y.1 → x.2 ≠ y.2)
  tagm : 0 ≤ s.tag ↔ 2 ≤ s.many
  tagb : -1 ≤ s.tag
  many : s.many = (D.filter fun x => x.1.choice).length
theorem ginv0 : GInv ps0 [] (fun _ => False) :=
  ⟨linv0, (fun _ h => by cases h), (fun _ h => h.elim), (fun _ h => by cases h), List.Pairwise.nil, (fun h => absurd h (by decide)), (fun _ h => by cases h), (fun _ h => by cases h), List.Pairwise.nil, (fun h => absurd h (by decide)), (fun _ h => by cases h), (fun _ h => by cases h), (fun _ h => by cases h), by decide, List.Pairwise.nil, by decide, by decide, rfl⟩
/-- a choice's bits lie in its room. -/
theorem in_room {k r a b : Nat} (hk : k ≤ 6) (hr : r ≤ k) (h : inS k (a * 2 ^ (k - r)) b) : inS r a b := by
  unfold inS at *
  have e : 2 ^ (6 - r) = 2 ^ (k - r) * 2 ^ (6 - k) := by rw [← Nat.pow_add]; congr 1; omega
  have e1 : a * 2 ^ (6 - r) = a * 2 ^ (k - r) * 2 ^ (6 - k) := by rw [e, Nat.mul_assoc]
  have e2 : (a + 1) * 2 ^ (6 - r) = (a * 2 ^ (k - r) + 2 ^ (k - r)) * 2 ^ (6 - k) := by rw [e, ← Nat.mul_assoc]; congr 1; rw [Nat.add_mul, Nat.one_mul]
  have hp : 1 ≤ 2 ^ (k - r) := Nat.pow_pos (by decide)
  have e3 : (a * 2 ^ (k - r) + 1) * 2 ^ (6 - k) ≤ (a * 2 ^ (k - r) + 2 ^ (k - r)) * 2 ^ (6 - k) := Nat.mul_le_mul_right _ (by omega)
  omega
theorem first_in (k a : Nat) : inS k a (a * 2 ^ (6 - k)) := by
  unfold inS
  refine ⟨Nat.le_refl _, Nat.mul_lt_mul_of_pos_right (by omega) (Nat.pow_pos (by decide))⟩
theorem filter_snoc (D : List (Fld × Nat)) (x : Fld × Nat) : ((D ++ [x]).filter fun x => x.1.choice).length = (D.filter fun x => x.1.choice).length + (if x.1.choice then 1 else 0) := by
  rw [List.filter_append, List.length_append]
  cases h : x.1.choice <;> simp [h]
/-- the plan behind the tag, ahead of the field: the count is one ahead. -/
structure GMid (s : PS) (D : List (Fld × Nat)) (N : Nat → Prop) (c : Bool) : Prop where
  inv : LInv s.ls
  sh6 : ∀ r ∈ s.shared, r.1 ≤ 6
  nused : ∀ b, N b → UsedB s.ls b
  cused : ∀ r ∈ s.shared, ∀ b, inS r.1 r.2 b → UsedB s.ls b ∧ ¬ N b
  sapart : s.shared.Pairwise (fun r q => ∀ b, inS r.1 r.2 b → ¬ inS q.1 q.2 b)
  tagN : 0 ≤ s.tag → ∀ b, inS 2 s.tag.toNat b → N b
  dN : ∀ x ∈ D, dat x.1 → x.1.choice = false → ∀ b, inS (kOf x.1.size) x.2 b → N b
  dC : ∀ x ∈ D, dat x.1 → x.1.choice = true → ∃ r ∈ s.shared, r.1 ≤ kOf x.1.size ∧ x.2 = r.2 * 2 ^ (kOf x.1.size - r.1)
  dapart : D.Pairwise (fun x y => dat x.1 → dat y.1 → ¬ both x.1 y.1 → ∀ b, inS (kOf x.1.size) x.2 b → ¬ inS (kOf y.1.size) y.2 b)
  tagD : 0 ≤ s.tag → ∀ x ∈ D, dat x.1 → ∀ b, inS 2 s.tag.toNat b → ¬ inS (kOf x.1.size) x.2 b
  ptr : ∀ x ∈ D, ¬ dat x.1 → x.2 < s.ptrs
  ptrC : ∀ x ∈ D, ¬ dat x.1 → x.1.choice = true → (x.2 : Int) = s.point
  ptrN : ∀ x ∈ D, ¬ dat x.1 → x.1.choice = false → (x.2 : Int) ≠ s.point
  point : -1 ≤ s.point ∧ s.point < s.ptrs
  papart : D.Pairwise (fun x y => ¬ dat x.1 → ¬ dat y.1 → ¬ both x.1 y.1 → x.2 ≠ y.2)
  tagm : 0 ≤ s.tag ↔ 2 ≤ s.many
  tagb : -1 ≤ s.tag
  many : s.many = (D.filter fun x => x.1.choice).length + (if c then 1 else 0)
theorem GInv.dused {s : PS} {D : List (Fld × Nat)} {N : Nat → Prop} (h : GInv s D N) : ∀ x ∈ D, dat x.1 → ∀ b, inS (kOf x.1.size) x.2 b → UsedB s.ls b := by
  intro x hx hd b hb
  cases hc : x.1.choice with
  | false => exact h.nused b (h.dN x hx hd hc b hb)
  | true =>
    obtain ⟨r, hr, hrk, he⟩ := h.dC x hx hd hc
    rw [he] at hb
    exact (h.cused r hr b (in_room (kOf_le _) hrk hb)).1
theorem GMid.dused {s : PS} {D : List (Fld × Nat)} {N : Nat → Prop} {c : Bool} (h : GMid s D N c) : ∀ x ∈ D, dat x.1 → ∀ b, inS (kOf x.1.size) x.2 b → UsedB s.ls b := by
  intro x hx hd b hb
  cases hc : x.1.choice with
  | false => exact h.nused b (h.dN x hx hd hc b hb)
  | true =>
    obtain ⟨r, hr, hrk, he⟩ := h.dC x hx hd hc
    rw [he] at hb
    exact (h.cused r hr b (in_room (kOf_le _) hrk hb)).1
theorem tag_inv {s : PS} {D : List (Fld × Nat)} {N : Nat → Prop} (h : GInv s D N) (c : Bool) : ∃ N', GMid (tagF c s) D N' c := by
  cases c with
  | false => exact ⟨N, ⟨h.inv, h.sh6, h.nused, h.cused, h.sapart, h.tagN, h.dN, h.dC, h.dapart, h.tagD, h.ptr, h.ptrC, h.ptrN, h.point, h.papart, h.tagm, h.tagb, by show s.many = _; rw [h.many]; rfl⟩⟩
  | true =>
    by_cases hm : s.many + 1 = 2
    · obtain ⟨r1, r2, r3⟩ := room_used (k := 2) (by decide) h.inv
      have he : tagF true s = { s with many := s.many + 1, ls := (roomF 2 s.ls).2, tag := (roomF 2 s.ls).1 } := by unfold tagF; rw [if_pos rfl, if_pos hm]
      rw [he]
      refine ⟨fun b => N b ∨ inS 2 (roomF 2 s.ls).1 b, ⟨r1, h.sh6, ?_, ?_, h.sapart, ?_, ?_, h.dC, h.dapart, ?_, h.ptr, h.ptrC, h.ptrN, h.point, h.papart, ?_, ?_, ?_⟩⟩
      · rintro b (hb | hb)
        · exact r3 b (h.nused b hb)
        · exact (r2 b hb).1
      · intro r hr b hb
        obtain ⟨c1, c2⟩ := h.cused r hr b hb
        exact ⟨r3 b c1, fun hn => hn.elim c2 (fun hi => (r2 b hi).2 c1)⟩
      · intro _ b hb
        right
        simpa using hb
      · intro x hx hd hc b hb
        exact .inl (h.dN x hx hd hc b hb)
      · intro _ x hx hd b hb hi
        have hb' : inS 2 (roomF 2 s.ls).1 b := by simpa using hb
        exact (r2 b hb').2 (h.dused x hx hd b hi)
      · show (0 : Int) ≤ ((roomF 2 s.ls).1 : Int) ↔ 2 ≤ s.many + 1
        omega
      · show (-1 : Int) ≤ ((roomF 2 s.ls).1 : Int)
        omega
      · show s.many + 1 = _
        rw [h.many]; rfl
    · have he : tagF true s = { s with many := s.many + 1 } := by unfold tagF; rw [if_pos rfl, if_neg hm]
      rw [he]
      refine ⟨N, ⟨h.inv, h.sh6, h.nused, h.cused, h.sapart, h.tagN, h.dN, h.dC, h.dapart, h.tagD, h.ptr, h.ptrC, h.ptrN, h.point, h.papart, ?_, h.tagb, ?_⟩⟩
      · show 0 ≤ s.tag ↔ 2 ≤ s.many + 1
        rw [h.tagm]; omega
      · show s.many + 1 = _
        rw [h.many]; rfl
theorem pw_snoc {α : Type} {R : α → α → Prop} {l : List α} {x : α} (h : l.Pairwise R) (hx : ∀ y ∈ l, R y x) : (l ++ [x]).Pairwise R := by
  rw [List.pairwise_append]
  exact ⟨h, List.pairwise_singleton _ _, fun a ha b hb => by
    have e : b = x := by simpa using hb
    rw [e]; exact hx a ha⟩
theorem place_inv {s : PS} {D : List (Fld × Nat)} {N : Nat → Prop} (h : GInv s D N) (f : Fld) : ∃ N', GInv (placeF f s).2 (D ++ [(f, (placeF f s).1)]) N' := by
  obtain ⟨M, m⟩ := tag_inv h f.choice
  have hmem : ∀ {p : Fld × Nat → Prop} {a : Nat}, (∀ x ∈ D, p x) → p (f, a) → ∀ x ∈ D ++ [(f, a)], p x := fun h1 h2 x hx => by
    rcases List.mem_append.1 hx with hx | hx
    · exact h1 x hx
    · obtain rfl : x = _ := by simpa using hx
      exact h2
  have hmany : ∀ (a : Nat), (tagF f.choice s).many = ((D ++ [(f, a)]).filter fun x => x.1.choice).length := fun a => by rw [filter_snoc, m.many]
  unfold placeF
  by_cases hp : f.size = 6
  · have hnd : ¬ dat f := fun hd => hd hp
    rw [if_pos hp]
    cases hc : f.choice with
    | false =>
      rw [hc] at m hmany
      rw [if_neg (by simp)]
      refine ⟨M, ⟨m.inv, m.sh6, m.nused, m.cused, m.sapart, m.tagN, ?_, ?_, ?_, ?_, ?_, ?_, ?_, ?_, ?_, m.tagm, m.tagb, hmany _⟩⟩
      · exact hmem m.dN (fun hd => absurd hd hnd)
      · exact hmem m.dC (fun hd => absurd hd hnd)
      · exact pw_snoc m.dapart (fun y _ _ hd => absurd hd hnd)
      · intro ht; exact hmem (m.tagD ht) (fun hd => absurd hd hnd)
      · refine hmem (fun x hx hd => ?_) (fun _ => ?_)
        · have := m.ptr x hx hd; show x.2 < (tagF false s).ptrs + 1; omega
        · show (tagF false s).ptrs < (tagF false s).ptrs + 1; omega
      · exact hmem m.ptrC (fun _ hcc => by rw [hc] at hcc; cases hcc)
      · refine hmem m.ptrN (fun _ _ => ?_)
        have := m.point.2
        show ((tagF false s).ptrs : Int) ≠ (tagF false s).point
        omega
      · have := m.point
        exact ⟨this.1, by show (tagF false s).point < (((tagF false s).ptrs + 1 : Nat) : Int); omega⟩
      · refine pw_snoc m.papart (fun y hy hyd _ _ => ?_)
        have := m.ptr y hy hyd
        show y.2 ≠ (tagF false s).ptrs
        omega
    | true =>
      rw [hc] at m hmany
      rw [if_pos rfl]
      unfold sharePtrF
      by_cases hq : (tagF true s).point < 0
      · rw [if_pos hq]
        refine ⟨M, ⟨m.inv, m.sh6, m.nused, m.cused, m.sapart, m.tagN, ?_, ?_, ?_, ?_, ?_, ?_, ?_, ?_, ?_, m.tagm, m.tagb, hmany _⟩⟩
        · exact hmem m.dN (fun hd => absurd hd hnd)
        · exact hmem m.dC (fun hd => absurd hd hnd)
        · exact pw_snoc m.dapart (fun y _ _ hd => absurd hd hnd)
        · intro ht; exact hmem (m.tagD ht) (fun hd => absurd hd hnd)
        · refine hmem (fun x hx hd => ?_) (fun _ => ?_)
          · have := m.ptr x hx hd; show x.2 < (tagF true s).ptrs + 1; omega
          · show (tagF true s).ptrs < (tagF true s).ptrs + 1; omega
        · refine hmem (fun x hx hd hxc => ?_) (fun _ _ => rfl)
          have := m.ptrC x hx hd hxc; omega
        · refine hmem (fun x hx hd hxc => ?_) (fun _ hcc => by rw [hc] at hcc; cases hcc)
          have := m.ptr x hx hd
          show (x.2 : Int) ≠ ((tagF true s).ptrs : Int)
          omega
        · exact ⟨by show (-1 : Int) ≤ ((tagF true s).ptrs : Int); omega, by show ((tagF true s).ptrs : Int) < (((tagF true s).ptrs + 1 : Nat) : Int); omega⟩
        · refine pw_snoc m.papart (fun y hy hyd _ _ => ?_)
          have := m.ptr y hy hyd
          show y.2 ≠ (tagF true s).ptrs
          omega
      · rw [if_neg hq]
        have hpt := m.point
        refine ⟨M, ⟨m.inv, m.sh6, m.nused, m.cused, m.sapart, m.tagN, ?_, ?_, ?_, ?_, ?_, ?_, ?_, m.point, ?_, m.tagm, m.tagb, hmany _⟩⟩
        · exact hmem m.dN (fun hd => absurd hd hnd)
        · exact hmem m.dC (fun hd => absurd hd hnd)
        · exact pw_snoc m.dapart (fun y _ _ hd => absurd hd hnd)
        · intro ht; exact hmem (m.tagD ht) (fun hd => absurd hd hnd)
        · refine hmem m.ptr (fun _ => ?_)
          show (tagF true s).point.toNat < (tagF true s).ptrs; omega
        · refine hmem m.ptrC (fun _ _ => ?_)
          show (((tagF true s).point.toNat : Nat) : Int) = (tagF true s).point; omega
        · exact hmem m.ptrN (fun _ hcc => by rw [hc] at hcc; cases hcc)
        · refine pw_snoc m.papart (fun y hy hyd _ hb => ?_)
          have hyc : y.1.choice = false := by
            cases hy' : y.1.choice with
            | false => rfl
            | true => exact absurd ⟨hy', hc⟩ hb
          have := m.ptrN y hy hyd hyc
          show y.2 ≠ (tagF true s).point.toNat
          omega
  · have hd : dat f := hp
    rw [if_neg hp]
    have hk := kOf_le f.size
    cases hc : f.choice with
    | false =>
      rw [hc] at m hmany
      rw [if_neg (by simp)]
      obtain ⟨r1, r2, r3⟩ := room_used hk m.inv
      refine ⟨fun b => M b ∨ inS (kOf f.size) (roomF (kOf f.size) (tagF false s).ls).1 b, ⟨r1, m.sh6, ?_, ?_, m.sapart, ?_, ?_, ?_, ?_, ?_, ?_, ?_, ?_, m.point, ?_, m.tagm, m.tagb, hmany _⟩⟩
      · rintro b (hb | hb)
        · exact r3 b (m.nused b hb)
        · exact (r2 b hb).1
      · intro r hr b hb
        obtain ⟨c1, c2⟩ := m.cused r hr b hb
        exact ⟨r3 b c1, fun hn => hn.elim c2 (fun hi => (r2 b hi).2 c1)⟩
      · intro ht b hb; exact .inl (m.tagN ht b hb)
      · exact hmem (fun x hx hxd hxc b hb => .inl (m.dN x hx hxd hxc b hb)) (fun _ _ b hb => .inr hb)
      · exact hmem m.dC (fun _ hcc => by rw [hc] at hcc; cases hcc)
      · exact pw_snoc m.dapart (fun y hy hyd _ _ b hb hi => (r2 b hi).2 (m.dused y hy hyd b hb))
      · intro ht
        exact hmem (m.tagD ht) (fun _ b hb hi => (r2 b hi).2 (m.nused b (m.tagN ht b hb)))
      · exact hmem m.ptr (fun hnd => absurd hd hnd)
      · exact hmem m.ptrC (fun hnd => absurd hd hnd)
      · exact hmem m.ptrN (fun hnd => absurd hd hnd)
      · exact pw_snoc m.papart (fun y _ _ hnd => absurd hd hnd)
    | true =>
      rw [hc] at m hmany
      rw [if_pos rfl]
      unfold shareF
      cases hf : (tagF true s).shared.find? (fun r => r.1 ≤ kOf f.size) with
      | some r =>
        have hrm := List.mem_of_find?_eq_some hf
        have hrk : r.1 ≤ kOf f.size := by simpa using List.find?_some hf
        refine ⟨M, ⟨m.inv, m.sh6, m.nused, m.cused, m.sapart, m.tagN, ?_, ?_, ?_, ?_, ?_, ?_, ?_, m.point, ?_, m.tagm, m.tagb, hmany _⟩⟩
        · exact hmem m.dN (fun _ hcc => by rw [hc] at hcc; cases hcc)
        · exact hmem m.dC (fun _ _ => ⟨r, hrm, hrk, rfl⟩)
        · refine pw_snoc m.dapart (fun y hy hyd _ hb b hbi hi => ?_)
          have hyc : y.1.choice = false := by
            cases hy' : y.1.choice with
            | false => rfl
            | true => exact absurd ⟨hy', hc⟩ hb
          exact (m.cused r hrm b (in_room hk hrk hi)).2 (m.dN y hy hyd hyc b hbi)
        · intro ht
          exact hmem (m.tagD ht) (fun _ b hb hi => (m.cused r hrm b (in_room hk hrk hi)).2 (m.tagN ht b hb))
        · exact hmem m.ptr (fun hnd => absurd hd hnd)
        · exact hmem m.ptrC (fun hnd => absurd hd hnd)
        · exact hmem m.ptrN (fun hnd => absurd hd hnd)
        · exact pw_snoc m.papart (fun y _ _ hnd => absurd hd hnd)
      | none =>
        obtain ⟨r1, r2, r3⟩ := room_used hk m.inv
        have hsm : ∀ {p : Nat × Nat → Prop}, (∀ r ∈ (tagF true s).shared, p r) → p (kOf f.size, (roomF (kOf f.size) (tagF true s).ls).1) → ∀ r ∈ (tagF true s).shared ++ [(kOf f.size, (roomF (kOf f.size) (tagF true s).ls).1)], p r := fun h1 h2 r hr => by
          rcases List.mem_append.1 hr with hr | hr
          · exact h1 r hr
          · obtain rfl : r = _ := by simpa using hr
            exact h2
        refine ⟨M, ⟨r1, hsm m.sh6 hk, fun b hb => r3 b (m.nused b hb), hsm (fun r hr b hb => ⟨r3 b (m.cused r hr b hb).1, (m.cused r hr b hb).2⟩) (fun b hb => ⟨(r2 b hb).1, fun hn => (r2 b hb).2 (m.nused b hn)⟩), ?_, m.tagN, ?_, ?_, ?_, ?_, ?_, ?_, ?_, m.point, ?_, m.tagm, m.tagb, hmany _⟩⟩
        · exact pw_snoc m.sapart (fun r hr b hb hi => (r2 b hi).2 (m.cused r hr b hb).1)
        · exact hmem m.dN (fun _ hcc => by rw [hc] at hcc; cases hcc)
        · refine hmem (fun x hx hxd hxc => ?_) (fun _ _ => ⟨_, List.mem_append_right _ (List.mem_singleton.2 rfl), Nat.le_refl _, by simp⟩)
          obtain ⟨r, hr, hrest⟩ := m.dC x hx hxd hxc
          exact ⟨r, List.mem_append_left _ hr, hrest⟩
        · exact pw_snoc m.dapart (fun y hy hyd _ _ b hb hi => (r2 b hi).2 (m.dused y hy hyd b hb))
        · intro ht
          exact hmem (m.tagD ht) (fun _ b hb hi => (r2 b hi).2 (m.nused b (m.tagN ht b hb)))
        · exact hmem m.ptr (fun hnd => absurd hd hnd)
        · exact hmem m.ptrC (fun hnd => absurd hd hnd)
        · exact hmem m.ptrN (fun hnd => absurd hd hnd)
        · exact pw_snoc m.papart (fun y _ _ hnd => absurd hd hnd)
theorem lay_inv : ∀ (l : List Fld) (s : PS) (D : List (Fld × Nat)) (N : Nat → Prop), GInv s D N → ∃ N', GInv (layF l s).2 (D ++ l.zip (layF l s).1) N'
  | [], s, D, N, h => ⟨N, by simpa [layF] using h⟩
  | f :: r, s, D, N, h => by
    obtain ⟨N1, h1⟩ := place_inv h f
    obtain ⟨N2, h2⟩ := lay_inv r _ _ N1 h1
    refine ⟨N2, ?_⟩
    have : D ++ (f :: r).zip (layF (f :: r) s).1 = D ++ [(f, (placeF f s).1)] ++ r.zip (layF r (placeF f s).2).1 := by
      rw [List.append_assoc]; rfl
    rw [this]
    exact h2
theorem lay_ginv (l : List Fld) : ∃ N, GInv (layF l ps0).2 (l.zip (layF l ps0).1) N := by
  have := lay_inv l ps0 [] _ ginv0
  simpa using this
end Go.Proofs.YtfgebmmnlneciaaDoor
