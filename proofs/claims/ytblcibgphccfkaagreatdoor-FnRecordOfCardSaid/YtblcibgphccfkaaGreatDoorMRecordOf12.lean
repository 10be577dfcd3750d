/- Texts of the proof of the law FnRecordOf, side by side: part 12. -/
import Derived.Test.YtblcibgphccfkaaGreatDoorMRecordOf11
set_option maxHeartbeats 8000000
set_option maxRecDepth 100000
namespace Go.Proofs.YtblcibgphccfkaaGreatDoor
def dat (f : Fld) : Prop := f.size ≠ 6
def both (f g : Fld) : Prop := f.choice = true ∧ g.choice = true
structure GInv (s : PS) (D : List (Fld × Nat)) (N : Nat → Prop) : Prop where
 inv : LInv s.ls
 sh6 : ∀ r ∈ s.shared, r.1 ≤ 6
 nused : ∀ b, N b → UsedB s.ls b
 cused : ∀ r ∈ s.shared, ∀ b, inS r.1 r.2 b → UsedB s.ls b ∧ ¬ N b
 sapart : s.shared.Pairwise (fun r q => ∀ b, inS r.1 r.2 b → ¬ inS q.1 q.2 b)
 tagN : 0 ≤ s.tag → ∀ b, inS 2 s.tag.toNat b → N b
 dN : ∀ x ∈ D, dat x.1 → x.1.choice = false → ∀ b, inS (kOf x.1.size) x.2 b → N b
 dC : ∀ x ∈ D, dat x.1 → x.1.choice = true → ∃ r ∈ s.shared, r.1 ≤ kOf x.1.size ∧ x.2 = r.2 * 2 ^ (kOf x.1.size - r.1)
 dapart : D.Pairwise (fun x y => dat x.1 → dat y.1 → ¬ both x.1 y.1 → ∀ b, inS (kOf x.1.size) x.2 b → ¬ inS (kOf y.1.size) y.2 b)
 tagD : 0 ≤ s.tag → ∀ x ∈ D, dat x.1 → ∀ b, inS 2 s.tag.toNat b → ¬ inS (kOf x.1.size) x.2 b
 ptr : ∀ x ∈ D, ¬ dat x.1 → x.2 < s.ptrs
 ptrC : ∀ x ∈ D, ¬ dat x.1 → x.1.choice = true → (x.2 : Int) = s.point
 ptrN : ∀ x ∈ D, ¬ dat x.1 → x.1.choice = false → (x.2 : Int) ≠ s.point
 point : -1 ≤ s.point ∧ s.point < s.ptrs
 papart : D.Pairwise (fun x y => ¬ dat x.1 → ¬ dat y.1 → ¬ both x.1 y.1 → x.2 ≠ y.2)
 tagm : 0 ≤ s.tag ↔ 2 ≤ s.many
 tagb : -1 ≤ s.tag
 many : s.many = (D.filter fun x => x.1.choice).length
theorem ginv0 : GInv ps0 [] (fun _ => False) :=
 ⟨linv0, (fun _ h => by cases h), (fun _ h => h.elim), (fun _ h => by cases h), List.Pairwise.nil, (fun h => absurd h (by decide)), (fun _ h => by cases h), (fun _ h => by cases h), List.Pairwise.nil, (fun h => absurd h (by decide)), (fun _ h => by cases h), (fun _ h => by cases h), (fun _ h => by cases h), by decide, List.Pairwise.nil, by decide, by decide, rfl⟩
theorem in_room {k r a b : Nat} (hk : k ≤ 6) (hr : r ≤ k) (h : inS k (a * 2 ^ (k - r)) b) : inS r a b := by
 unfold inS at *
 have e : 2 ^ (6 - r) = 2 ^ (k - r) * 2 ^ (6 - k) := by rw [← Nat.pow_add]; congr 1; omega
 have e1 : a * 2 ^ (6 - r) = a * 2 ^ (k - r) * 2 ^ (6 - k) := by rw [e, Nat.mul_assoc]
 have e2 : (a + 1) * 2 ^ (6 - r) = (a * 2 ^ (k - r) + 2 ^ (k - r)) * 2 ^ (6 - k) := by rw [e, ← Nat.mul_assoc]; congr 1; rw [Nat.add_mul, Nat.one_mul]
 have hp : 1 ≤ 2 ^ (k - r) := Nat.pow_pos (by decide)
 have e3 : (a * 2 ^ (k - r) + 1) * 2 ^ (6 - k) ≤ (a * 2 ^ (k - r) + 2 ^ (k - r)) * 2 ^ (6 - k) := Nat.mul_le_mul_right _ (by omega)
 omega
theorem filter_snoc (D : List (Fld × Nat)) (x : Fld × Nat) : ((D ++ [x]).filter fun x => x.1.choice).length = (D.filter fun x => x.1.choice).length + (if x.1.choice then 1 else 0) := by
 rw [List.filter_append, List.length_append]
 cases h : x.1.choice <;> simp [h]
structure GMid (s : PS) (D : List (Fld × Nat)) (N : Nat → Prop) (c : Bool) : Prop where
 inv : LInv s.ls
 sh6 : ∀ r ∈ s.shared, r.1 ≤ 6
 nused : ∀ b, N b → UsedB s.ls b
 cused : ∀ r ∈ s.shared, ∀ b, inS r.1 r.2 b → UsedB s.ls b ∧ ¬ N b
 sapart : s.shared.Pairwise (fun r q => ∀ b, inS r.1 r.2 b → ¬ inS q.1 q.2 b)
 tagN : 0 ≤ s.tag → ∀ b, inS 2 s.tag.toNat b → N b
 dN : ∀ x ∈ D, dat x.1 → x.1.choice = false → ∀ b, inS (kOf x.1.size) x.2 b → N b
 dC : ∀ x ∈ D, dat x.1 → x.1.choice = true → ∃ r ∈ s.shared, r.1 ≤ kOf x.1.size ∧ x.2 = r.2 * 2 ^ (kOf x.1.size - r.1)
 dapart : D.Pairwise (fun x y => dat x.1 → dat y.1 → ¬ both x.1 y.1 → ∀ b, inS (kOf x.1.size) x.2 b → ¬ inS (kOf y.1.size) y.2 b)
 tagD : 0 ≤ s.tag → ∀ x ∈ D, dat x.1 → ∀ b, inS 2 s.tag.toNat b → ¬ inS (kOf x.1.size) x.2 b
 ptr : ∀ x ∈ D, ¬ dat x.1 → x.2 < s.ptrs
 ptrC : ∀ x ∈ D, ¬ dat x.1 → x.1.choice = true → (x.2 : Int) = s.point
 ptrN : ∀ x ∈ D, ¬ dat x.1 → x.1.choice = false → (x.2 : Int) ≠ s.point
 point : -1 ≤ s.point ∧ s.point < s.ptrs
 papart : D.Pairwise (fun x y => ¬ dat x.1 → ¬ dat y.1 → ¬ both x.1 y.1 → x.2 ≠ y.2)
 tagm : 0 ≤ s.tag ↔ 2 ≤ s.many
 tagb : -1 ≤ s.tag
 many : s.many = (D.filter fun x => x.1.choice).length + (if c then 1 else 0)
theorem GInv.dused {s : PS} {D : List (Fld × Nat)} {N : Nat → Prop} (h : GInv s D N) : ∀ x ∈ D, dat x.1 → ∀ b, inS (kOf x.1.size) x.2 b → UsedB s.ls b := by
 intro x hx hd b hb
 cases hc : x.1.choice with
 | false => exact h.nused b (h.dN x hx hd hc b hb)
 | true =>
  obtain ⟨r, hr, hrk, he⟩ := h.dC x hx hd hc
  rw [he] at hb
  exact (h.cused r hr b (in_room (kOf_le _) hrk hb)).1
theorem GMid.dused {s : PS} {D : List (Fld × Nat)} {N : Nat → Prop} {c : Bool} (h : GMid s D N c) : ∀ x ∈ D, dat x.1 → ∀ b, inS (kOf x.1.size) x.2 b → UsedB s.ls b := by
 intro x hx hd b hb
 cases hc : x.1.choice with
 | false => exact h.nused b (h.dN x hx hd hc b hb)
 | true =>
  obtain ⟨r, hr, hrk, he⟩ := h.dC x hx hd hc
  rw [he] at hb
  exact (h.cused r hr b (in_room (kOf_le _) hrk hb)).1
theorem tag_inv {s : PS} {D : List (Fld × Nat)} {N : Nat → Prop} (h : GInv s D N) (c : Bool) : ∃ N', GMid (tagF c s) D N' c := by
 cases c with
 | false => exact ⟨N, ⟨h.inv, h.sh6, h.nused, h.cused, h.sapart, h.tagN, h.dN, h.dC, h.dapart, h.tagD, h.ptr, h.ptrC, h.ptrN, h.point, h.papart, h.tagm, h.tagb, by show s.many = _; rw [h.many]; rfl⟩⟩
 | true =>
  by_cases hm : s.many + 1 = 2
  · obtain ⟨r1, r2, r3⟩ := room_used (k := 2) (by decide) h.inv
    have he : tagF true s = { s with many := s.many + 1, ls := (roomF 2 s.ls).2, tag := (roomF 2 s.ls).1 } := by unfold tagF; rw [if_pos rfl, if_pos hm]
    rw [he]
    refine ⟨fun b => N b ∨ inS 2 (roomF 2 s.ls).1 b, ⟨r1, h.sh6, ?_, ?_, h.sapart, ?_, ?_, h.dC, h.dapart, ?_, h.ptr, h.ptrC, h.ptrN, h.point, h.papart, ?_, ?_, ?_⟩⟩
    · rintro b (hb | hb)
      · exact r3 b (h.nused b hb)
      · exact (r2 b hb).1
    · intro r hr b hb
      obtain ⟨c1, c2⟩ := h.cused r hr b hb
      exact ⟨r3 b c1, fun hn => hn.elim c2 (fun hi => (r2 b hi).2 c1)⟩
    · intro _ b hb
      right
      simpa using hb
    · intro x hx hd hc b hb
      exact .inl (h.dN x hx hd hc b hb)
    · intro _ x hx hd b hb hi
      have hb' : inS 2 (roomF 2 s.ls).1 b := by simpa using hb
      exact (r2 b hb').2 (h.dused x hx hd b hi)
    · show (0 : Int) ≤ ((roomF 2 s.ls).1 : Int) ↔ 2 ≤ s.many + 1
      omega
    · show (-1 : Int) ≤ ((roomF 2 s.ls).1 : Int)
      omega
    · show s.many + 1 = _
      rw [h.many]; rfl
  · have he : tagF true s = { s with many := s.many + 1 } := by unfold tagF; rw [if_pos rfl, if_neg hm]
    rw [he]
    refine ⟨N, ⟨h.inv, h.sh6, h.nused, h.cused, h.sapart, h.tagN, h.dN, h.dC, h.dapart, h.tagD, h.ptr, h.ptrC, h.ptrN, h.point, h.papart, ?_, h.tagb, ?_⟩⟩
    · show 0 ≤ s.tag ↔ 2 ≤ s.many + 1
      rw [h.tagm]; omega
    · show s.many + 1 = _
      rw [h.many]; rfl
theorem pw_snoc {α : Type} {R : α → α → Prop} {l : List α} {x : α} (h : l.Pairwise R) (hx : ∀ y ∈ l, R y x) : (l ++ [x]).Pairwise R := by
 rw [List.pairwise_append]
 exact ⟨h, List.pairwise_singleton _ _, fun a ha b hb => by
  have e : b = x := by simpa using hb
  rw [e]; exact hx a ha⟩
theorem place_inv {s : PS} {D : List (Fld × Nat)} {N : Nat → Prop} (h : GInv s D N) (f : Fld) : ∃ N', GInv (placeF f s).2 (D ++ [(f, (placeF f s).1)]) N' := by
 obtain ⟨M, m⟩ := tag_inv h f.choice
 have hmem : ∀ {p : Fld × Nat → Prop} {a : Nat}, (∀ x ∈ D, p x) → p (f, a) → ∀ x ∈ D ++ [(f, a)], p x := fun h1 h2 x hx => by
  rcases List.mem_append.1 hx with hx | hx
  · exact h1 x hx
  · obtain rfl : x = _ := by simpa using hx
    exact h2
 have hmany : ∀ (a : Nat), (tagF f.choice s).many = ((D ++ [(f, a)]).filter fun x => x.1.choice).length := fun a => by rw [filter_snoc, m.many]
 unfold placeF
 by_cases hp : f.size = 6
 · have hnd : ¬ dat f := fun hd => hd hp
   rw [if_pos hp]
   cases hc : f.choice with
   | false =>
    rw [hc] at m hmany
    rw [if_neg (by simp)]
    refine ⟨M, ⟨m.inv, m.sh6, m.nused, m.cused, m.sapart, m.tagN, ?_, ?_, ?_, ?_, ?_, ?_, ?_, ?_, ?_, m.tagm, m.tagb, hmany _⟩⟩
    · exact hmem m.dN (fun hd => absurd hd hnd)
    · exact hmem m.dC (fun hd => absurd hd hnd)
    · exact pw_snoc m.dapart (fun y _ _ hd => absurd hd hnd)
    · intro ht; exact hmem (m.tagD ht) (fun hd => absurd hd hnd)
    · refine hmem (fun x hx hd => ?_) (fun _ => ?_)
      · have := m.ptr x hx hd; show x.2 < (tagF false s).ptrs + 1; omega
      · show (tagF false s).ptrs < (tagF false s).ptrs + 1; omega
    · exact hmem m.ptrC (fun _ hcc => by rw [hc] at hcc; cases hcc)
    · refine hmem m.ptrN (fun _ _ => ?_)
      have := m.point.2
      show ((tagF false s).ptrs : Int) ≠ (tagF false s).point
      omega
    · have := m.point
      exact ⟨this.1, by show (tagF false s).point < (((tagF false s).ptrs + 1 : Nat) : Int); omega⟩
    · refine pw_snoc m.papart (fun y hy hyd _ _ => ?_)
      have := m.ptr y hy hyd
      show y.2 ≠ (tagF false s).ptrs
      omega
   | true =>
    rw [hc] at m hmany
    rw [if_pos rfl]
    unfold sharePtrF
    by_cases hq : (tagF true s).point < 0
    · rw [if_pos hq]
      refine ⟨M, ⟨m.inv, m.sh6, m.nused, m.cused, m.sapart, m.tagN, ?_, ?_, ?_, ?_, ?_, ?_, ?_, ?_, ?_, m.tagm, m.tagb, hmany _⟩⟩
      · exact hmem m.dN (fun hd => absurd hd hnd)
      · exact hmem m.dC (fun hd => absurd hd hnd)
      · exact pw_snoc m.dapart (fun y _ _ hd => absurd hd hnd)
      · intro ht; exact hmem (m.tagD ht) (fun hd => absurd hd hnd)
      · refine hmem (fun x hx hd => ?_) (fun _ => ?_)
        · have := m.ptr x hx hd; show x.2 < (tagF true s).ptrs + 1; omega
        · show (tagF true s).ptrs < (tagF true s).ptrs + 1; omega
      · refine hmem (fun x hx hd hxc => ?_) (fun _ _ => rfl)
        have := m.ptrC x hx hd hxc; omega
      · refine hmem (fun x hx hd hxc => ?_) (fun _ hcc => by rw [hc] at hcc; cases hcc)
        have := m.ptr x hx hd
        show (x.2 : Int) ≠ ((tagF true s).ptrs : Int)
        omega
      · exact ⟨by show (-1 : Int) ≤ ((tagF true s).ptrs : Int); omega, by show ((tagF true s).ptrs : Int) < (((tagF true s).ptrs + 1 : Nat) : Int); omega⟩
      · refine pw_snoc m.papart (fun y hy hyd _ _ => ?_)
        have := m.ptr y hy hyd
        show y.2 ≠ (tagF true s).ptrs
        omega
    · rw [if_neg hq]
      have hpt := m.point
      refine ⟨M, ⟨m.inv, m.sh6, m.nused, m.cused, m.sapart, m.tagN, ?_, ?_, ?_, ?_, ?_, ?_, ?_, m.point, ?_, m.tagm, m.tagb, hmany _⟩⟩
      · exact hmem m.dN (fun hd => absurd hd hnd)
      · exact hmem m.dC (fun hd => absurd hd hnd)
      · exact pw_snoc m.dapart (fun y _ _ hd => absurd hd hnd)
      · intro ht; exact hmem (m.tagD ht) (fun hd => absurd hd hnd)
      · refine hmem m.ptr (fun _ => ?_)
        show (tagF true s).point.toNat < (tagF true s).ptrs; omega
      · refine hmem m.ptrC (fun _ _ => ?_)
        show (((tagF true s).point.toNat : Nat) : Int) = (tagF true s).point; omega
      · exact hmem m.ptrN (fun _ hcc => by rw [hc] at hcc; cases hcc)
      · refine pw_snoc m.papart (fun y hy hyd _ hb => ?_)
        have hyc : y.1.choice = false := by
         cases hy' : y.1.choice with
         | false => rfl
         | true => exact absurd ⟨hy', hc⟩ hb
        have := m.ptrN y hy hyd hyc
        show y.2 ≠ (tagF true s).point.toNat
        omega
 · have hd : dat f := hp
   rw [if_neg hp]
   have hk := kOf_le f.size
   cases hc : f.choice with
   | false =>
    rw [hc] at m hmany
    rw [if_neg (by simp)]
    obtain ⟨r1, r2, r3⟩ := room_used hk m.inv
    refine ⟨fun b => M b ∨ inS (kOf f.size) (roomF (kOf f.size) (tagF false s).ls).1 b, ⟨r1, m.sh6, ?_, ?_, m.sapart, ?_, ?_, ?_, ?_, ?_, ?_, ?_, ?_, m.point, ?_, m.tagm, m.tagb, hmany _⟩⟩
    · rintro b (hb | hb)
      · exact r3 b (m.nused b hb)
      · exact (r2 b hb).1
    · intro r hr b hb
      obtain ⟨c1, c2⟩ := m.cused r hr b hb
      exact ⟨r3 b c1, fun hn => hn.elim c2 (fun hi => (r2 b hi).2 c1)⟩
    · intro ht b hb; exact .inl (m.tagN ht b hb)
    · exact hmem (fun x hx hxd hxc b hb => .inl (m.dN x hx hxd hxc b hb)) (fun _ _ b hb => .inr hb)
    · exact hmem m.dC (fun _ hcc => by rw [hc] at hcc; cases hcc)
    · exact pw_snoc m.dapart (fun y hy hyd _ _ b hb hi => (r2 b hi).2 (m.dused y hy hyd b hb))
    · intro ht
      exact hmem (m.tagD ht) (fun _ b hb hi => (r2 b hi).2 (m.nused b (m.tagN ht b hb)))
    · exact hmem m.ptr (fun hnd => absurd hd hnd)
    · exact hmem m.ptrC (fun hnd => absurd hd hnd)
    · exact hmem m.ptrN (fun hnd => absurd hd hnd)
    · exact pw_snoc m.papart (fun y _ _ hnd => absurd hd hnd)
   | true =>
    rw [hc] at m hmany
    rw [if_pos rfl]
    unfold shareF
    cases hf : (tagF true s).shared.find? (fun r => r.1 ≤ kOf f.size) with
    | some r =>
     have hrm := List.mem_of_find?_eq_some hf
     have hrk : r.1 ≤ kOf f.size := by simpa using List.find?_some hf
     refine ⟨M, ⟨m.inv, m.sh6, m.nused, m.cused, m.sapart, m.tagN, ?_, ?_, ?_, ?_, ?_, ?_, ?_, m.point, ?_, m.tagm, m.tagb, hmany _⟩⟩
     · exact hmem m.dN (fun _ hcc => by rw [hc] at hcc; cases hcc)
     · exact hmem m.dC (fun _ _ => ⟨r, hrm, hrk, rfl⟩)
     · refine pw_snoc m.dapart (fun y hy hyd _ hb b hbi hi => ?_)
       have hyc : y.1.choice = false := by
        cases hy' : y.1.choice with
        | false => rfl
        | true => exact absurd ⟨hy', hc⟩ hb
       exact (m.cused r hrm b (in_room hk hrk hi)).2 (m.dN y hy hyd hyc b hbi)
     · intro ht
       exact hmem (m.tagD ht) (fun _ b hb hi => (m.cused r hrm b (in_room hk hrk hi)).2 (m.tagN ht b hb))
     · exact hmem m.ptr (fun hnd => absurd hd hnd)
     · exact hmem m.ptrC (fun hnd => absurd hd hnd)
     · exact hmem m.ptrN (fun hnd => absurd hd hnd)
     · exact pw_snoc m.papart (fun y _ _ hnd => absurd hd hnd)
    | none =>
     obtain ⟨r1, r2, r3⟩ := room_used hk m.inv
     have hsm : ∀ {p : Nat × Nat → Prop}, (∀ r ∈ (tagF true s).shared, p r) → p (kOf f.size, (roomF (kOf f.size) (tagF true s).ls).1) → ∀ r ∈ (tagF true s).shared ++ [(kOf f.size, (roomF (kOf f.size) (tagF true s).ls).1)], p r := fun h1 h2 r hr => by
      rcases List.mem_append.1 hr with hr | hr
      · exact h1 r hr
      · obtain rfl : r = _ := by simpa using hr
        exact h2
     refine ⟨M, ⟨r1, hsm m.sh6 hk, fun b hb => r3 b (m.nused b hb), hsm (fun r hr b hb => ⟨r3 b (m.cused r hr b hb).1, (m.cused r hr b hb).2⟩) (fun b hb => ⟨(r2 b hb).1, fun hn => (r2 b hb).2 (m.nused b hn)⟩), ?_, m.tagN, ?_, ?_, ?_, ?_, ?_, ?_, ?_, m.point, ?_, m.tagm, m.tagb, hmany _⟩⟩
     · exact pw_snoc m.sapart (fun r hr b hb hi => (r2 b hi).2 (m.cused r hr b hb).1)
     · exact hmem m.dN (fun _ hcc => by rw [hc] at hcc; cases hcc)
     · refine hmem (fun x hx hxd hxc => ?_) (fun _ _ => ⟨_, List.mem_append_right _ (List.mem_singleton.2 rfl), Nat.le_refl _, by simp⟩)
       obtain ⟨r, hr, hrest⟩ := m.dC x hx hxd hxc
       exact ⟨r, List.mem_append_left _ hr, hrest⟩
     · exact pw_snoc m.dapart (fun y hy hyd _ _ b hb hi => (r2 b hi).2 (m.dused y hy hyd b hb))
     · intro ht
       exact hmem (m.tagD ht) (fun _ b hb hi => (r2 b hi).2 (m.nused b (m.tagN ht b hb)))
     · exact hmem m.ptr (fun hnd => absurd hd hnd)
     · exact hmem m.ptrC (fun hnd => absurd hd hnd)
     · exact hmem m.ptrN (fun hnd => absurd hd hnd)
     · exact pw_snoc m.papart (fun y _ _ hnd => absurd hd hnd)
theorem lay_inv : ∀ (l : List Fld) (s : PS) (D : List (Fld × Nat)) (N : Nat → Prop), GInv s D N → ∃ N', GInv (layF l s).2 (D ++ l.zip (layF l s).1) N'
 | [], s, D, N, h => ⟨N, by simpa [layF] using h⟩
 | f :: r, s, D, N, h => by
   obtain ⟨N1, h1⟩ := place_inv h f
   obtain ⟨N2, h2⟩ := lay_inv r _ _ N1 h1
   refine ⟨N2, ?_⟩
   have : D ++ (f :: r).zip (layF (f :: r) s).1 = D ++ [(f, (placeF f s).1)] ++ r.zip (layF r (placeF f s).2).1 := by
    rw [List.append_assoc]; rfl
   rw [this]
   exact h2
theorem lay_ginv (l : List Fld) : ∃ N, GInv (layF l ps0).2 (l.zip (layF l ps0).1) N := by
 have := lay_inv l ps0 [] _ ginv0
 simpa using this
def atF (l : List Fld) (k : Nat) : Nat := (layF l ps0).1.getD k 0
def frF (z : Int) (a : Nat) : Int := (a : Int) * bitsOf z
def toF (z : Int) (a : Nat) : Int := (a : Int) * bitsOf z + bitsOf z
theorem bits_pow {z : Int} (h1 : 1 ≤ z) (h2 : z ≤ 6) (h6 : z ≠ 6) : bitsOf z = ((2 ^ (6 - kOf z) : Nat) : Int) := by
 have : z = 1 ∨ z = 2 ∨ z = 3 ∨ z = 4 ∨ z = 5 := by omega
 rcases this with rfl | rfl | rfl | rfl | rfl <;> decide
theorem in_bits {z : Int} (h1 : 1 ≤ z) (h2 : z ≤ 6) (h6 : z ≠ 6) (a b : Nat) : inS (kOf z) a b ↔ (frF z a ≤ b ∧ (b : Int) < toF z a) := by
 unfold inS frF toF
 rw [bits_pow h1 h2 h6, Nat.add_mul, Nat.one_mul]
 generalize 2 ^ (6 - kOf z) = p
 rw [← Int.natCast_mul]
 omega
theorem fr_nn {z : Int} (h1 : 1 ≤ z) (h2 : z ≤ 6) (h6 : z ≠ 6) (a : Nat) : 0 ≤ frF z a ∧ 1 ≤ bitsOf z ∧ bitsOf z ≤ 64 := by
 have hb : 1 ≤ bitsOf z ∧ bitsOf z ≤ 64 := by
  have : z = 1 ∨ z = 2 ∨ z = 3 ∨ z = 4 ∨ z = 5 := by omega
  rcases this with rfl | rfl | rfl | rfl | rfl <;> decide
 refine ⟨?_, hb⟩
 unfold frF
 rw [bits_pow h1 h2 h6, ← Int.natCast_mul]
 omega
theorem meet_bit {z y : Int} (h1 : 1 ≤ z) (h2 : z ≤ 6) (h6 : z ≠ 6) (k1 : 1 ≤ y) (k2 : y ≤ 6) (k6 : y ≠ 6) {a c : Nat} (hm : frF z a < toF y c) (hm' : frF y c < toF z a) : ∃ b, inS (kOf z) a b ∧ inS (kOf y) c b := by
 obtain ⟨z0, z1, z2⟩ := fr_nn h1 h2 h6 a
 obtain ⟨y0, y1, y2⟩ := fr_nn k1 k2 k6 c
 have ez : toF z a = frF z a + bitsOf z := rfl
 have ey : toF y c = frF y c + bitsOf y := rfl
 by_cases h : frF z a ≤ frF y c
 · refine ⟨(frF y c).toNat, (in_bits h1 h2 h6 _ _).2 ?_, (in_bits k1 k2 k6 _ _).2 ?_⟩ <;> omega
 · refine ⟨(frF z a).toNat, (in_bits h1 h2 h6 _ _).2 ?_, (in_bits k1 k2 k6 _ _).2 ?_⟩ <;> omega
theorem zip_at (l : List Fld) (k : Nat) (hk : k < l.length) : ∃ h, (l.zip (layF l ps0).1)[k]'h = (l[k], atF l k) := by
 have hl := lay_length l ps0
 refine ⟨by simp [hl]; exact hk, ?_⟩
 rw [List.getElem_zip, atF, List.getD, List.getElem?_eq_getElem (by omega)]
 rfl
theorem zip_mem (l : List Fld) (k : Nat) (hk : k < l.length) : (l[k], atF l k) ∈ l.zip (layF l ps0).1 := by
 obtain ⟨h, e⟩ := zip_at l k hk
 rw [← e]
 exact List.getElem_mem h
theorem zip_pair {R : Fld × Nat → Fld × Nat → Prop} (l : List Fld) (h : (l.zip (layF l ps0).1).Pairwise R) {k i : Nat} (hki : k < i) (hi : i < l.length) : R (l[k]'(by omega), atF l k) (l[i], atF l i) := by
 obtain ⟨h1, e1⟩ := zip_at l k (by omega)
 obtain ⟨h2, e2⟩ := zip_at l i hi
 rw [← e1, ← e2]
 exact List.pairwise_iff_getElem.1 h k i h1 h2 hki
theorem pair_eq {α : Type} {R : α → α → Prop} {l : List α} (h : l.Pairwise R) {x y : α} (hx : x ∈ l) (hy : y ∈ l) (h1 : ¬ R x y) (h2 : ¬ R y x) : x = y := by
 obtain ⟨i, hi, rfl⟩ := List.mem_iff_getElem.1 hx
 obtain ⟨j, hj, rfl⟩ := List.mem_iff_getElem.1 hy
 rcases Nat.lt_trichotomy i j with h' | h' | h'
 · exact absurd (List.pairwise_iff_getElem.1 h i j hi hj h') h1
 · subst h'; rfl
 · exact absurd (List.pairwise_iff_getElem.1 h j i hj hi h') h2
structure LayOk (l : List Fld) : Prop where
 size : ∀ k (hk : k < l.length), 1 ≤ (l[k]).size ∧ (l[k]).size ≤ 6
 within : ∀ k (hk : k < l.length), (l[k]).size ≠ 6 → toF (l[k]).size (atF l k) ≤ 64 * ((layF l ps0).2.ls.words : Int)
 tag : 0 ≤ (layF l ps0).2.tag → ∀ k (hk : k < l.length), (l[k]).size ≠ 6 → ¬ (frF (l[k]).size (atF l k) < 16 * (layF l ps0).2.tag + 16 ∧ 16 * (layF l ps0).2.tag < toF (l[k]).size (atF l k))
 tagIn : 0 ≤ (layF l ps0).2.tag → 16 * (layF l ps0).2.tag + 16 ≤ 64 * ((layF l ps0).2.ls.words : Int)
 pair : ∀ k i (hki : k < i) (hi : i < l.length), (l[i]).size ≠ 6 → (l[k]'(by omega)).size ≠ 6 → ¬ ((l[i]).choice = true ∧ (l[k]'(by omega)).choice = true) → ¬ (frF (l[i]).size (atF l i) < toF (l[k]'(by omega)).size (atF l k) ∧ frF (l[k]'(by omega)).size (atF l k) < toF (l[i]).size (atF l i))
 ptr : ∀ k (hk : k < l.length), (l[k]).size = 6 → atF l k < (layF l ps0).2.ptrs
 ptrs : ∀ k i (hki : k < i) (hi : i < l.length), (l[i]).size = 6 → (l[k]'(by omega)).size = 6 → ¬ ((l[i]).choice = true ∧ (l[k]'(by omega)).choice = true) → atF l i ≠ atF l k
 share : ∀ k i (hki : k < i) (hi : i < l.length), (l[i]).size ≠ 6 → (l[k]'(by omega)).size ≠ 6 → (l[i]).choice = true → (l[k]'(by omega)).choice = true → frF (l[i]).size (atF l i) < toF (l[k]'(by omega)).size (atF l k) → frF (l[k]'(by omega)).size (atF l k) < toF (l[i]).size (atF l i) → frF (l[i]).size (atF l i) = frF (l[k]'(by omega)).size (atF l k)
 shareP : ∀ k i (hki : k < i) (hi : i < l.length), (l[i]).size = 6 → (l[k]'(by omega)).size = 6 → (l[i]).choice = true → (l[k]'(by omega)).choice = true → atF l i = atF l k
 many : 0 ≤ (layF l ps0).2.tag ↔ 2 ≤ (l.filter fun f => f.choice).length
theorem room_start {z : Int} (h1 : 1 ≤ z) (h2 : z ≤ 6) (h6 : z ≠ 6) {a r c : Nat} (hr : r ≤ kOf z) (e : a = c * 2 ^ (kOf z - r)) : frF z a = ((c * 2 ^ (6 - r) : Nat) : Int) := by
 unfold frF
 rw [bits_pow h1 h2 h6, ← Int.natCast_mul, e, Nat.mul_assoc, ← Nat.pow_add]
 have := kOf_le z
 rw [show kOf z - r + (6 - kOf z) = 6 - r by omega]
theorem zip_filter : ∀ (l : List Fld) (m : List Nat), m.length = l.length → ((l.zip m).filter fun x => x.1.choice).length = (l.filter fun f => f.choice).length
 | [], _, _ => by simp
 | f :: l, a :: m, h => by
   have ih := zip_filter l m (by simpa using h)
   rw [List.zip_cons_cons, List.filter_cons, List.filter_cons]
   cases hf : f.choice
   · simpa [hf] using ih
   · simp [hf, ih]
 | _ :: _, [], h => by simp at h
theorem layOk (l : List Fld) (hs : ∀ k (hk : k < l.length), 1 ≤ (l[k]).size ∧ (l[k]).size ≤ 6) : LayOk l := by
 obtain ⟨N, g⟩ := lay_ginv l
 have used : ∀ k (hk : k < l.length), (l[k]).size ≠ 6 → ∀ b, inS (kOf (l[k]).size) (atF l k) b → b < 64 * (layF l ps0).2.ls.words := fun k hk h6 b hb =>
  (g.dused _ (zip_mem l k hk) h6 b hb).1
 refine ⟨hs, ?_, ?_, ?_, ?_, ?_, ?_, ?_, ?_, ?_⟩
 · intro k hk h6
   obtain ⟨h1, h2⟩ := hs k hk
   obtain ⟨z0, z1, z2⟩ := fr_nn h1 h2 h6 (atF l k)
   have e : toF (l[k]).size (atF l k) = frF (l[k]).size (atF l k) + bitsOf (l[k]).size := rfl
   have := used k hk h6 (toF (l[k]).size (atF l k) - 1).toNat ((in_bits h1 h2 h6 _ _).2 (by omega))
   omega
 · intro ht k hk h6 hm
   obtain ⟨h1, h2⟩ := hs k hk
   obtain ⟨z0, z1, z2⟩ := fr_nn h1 h2 h6 (atF l k)
   have e : toF (l[k]).size (atF l k) = frF (l[k]).size (atF l k) + bitsOf (l[k]).size := rfl
   by_cases hc : frF (l[k]).size (atF l k) ≤ 16 * (layF l ps0).2.tag
   · refine g.tagD ht _ (zip_mem l k hk) h6 (16 * (layF l ps0).2.tag).toNat ?_ ((in_bits h1 h2 h6 (atF l k) _).2 (by omega))
     unfold inS
     simp only [show (2 : Nat) ^ (6 - 2) = 16 from rfl]
     omega
   · refine g.tagD ht _ (zip_mem l k hk) h6 (frF (l[k]).size (atF l k)).toNat ?_ ((in_bits h1 h2 h6 (atF l k) _).2 (by omega))
     unfold inS
     simp only [show (2 : Nat) ^ (6 - 2) = 16 from rfl]
     omega
 · intro ht
   have := (g.nused _ (g.tagN ht (16 * (layF l ps0).2.tag.toNat + 15) (by unfold inS; simp only [show (2 : Nat) ^ (6 - 2) = 16 from rfl]; omega))).1
   omega
 · intro k i hki hi h6 k6 hb hm
   obtain ⟨h1, h2⟩ := hs i hi
   obtain ⟨k1, k2⟩ := hs k (by omega)
   obtain ⟨b, b1, b2⟩ := meet_bit h1 h2 h6 k1 k2 k6 hm.1 hm.2
   exact zip_pair l g.dapart hki hi k6 h6 (fun hh => hb ⟨hh.2, hh.1⟩) b b2 b1
 · intro k hk h6
   exact g.ptr _ (zip_mem l k hk) (fun h => h h6)
 · intro k i hki hi h6 k6 hb he
   exact zip_pair l g.papart hki hi (fun h => h k6) (fun h => h h6) (fun hh => hb ⟨hh.2, hh.1⟩) he.symm
 · intro k i hki hi h6 k6 ci ck m1 m2
   obtain ⟨h1, h2⟩ := hs i hi
   obtain ⟨k1, k2⟩ := hs k (by omega)
   obtain ⟨b, b1, b2⟩ := meet_bit h1 h2 h6 k1 k2 k6 m1 m2
   obtain ⟨r, hr, r1, r2⟩ := g.dC _ (zip_mem l i hi) h6 ci
   obtain ⟨q, hq, q1, q2⟩ := g.dC _ (zip_mem l k (by omega)) k6 ck
   simp only at r1 r2 q1 q2
   have br : inS r.1 r.2 b := in_room (kOf_le _) r1 (by rw [r2] at b1; exact b1)
   have bq : inS q.1 q.2 b := in_room (kOf_le _) q1 (by rw [q2] at b2; exact b2)
   have : r = q := pair_eq g.sapart hr hq (fun h => h b br bq) (fun h => h b bq br)
   subst this
   rw [room_start h1 h2 h6 r1 r2, room_start k1 k2 k6 q1 q2]
 · intro k i hki hi h6 k6 ci ck
   have a := g.ptrC _ (zip_mem l i hi) (fun h => h h6) ci
   have b := g.ptrC _ (zip_mem l k (by omega)) (fun h => h k6) ck
   simp only at a b
   omega
 · rw [g.tagm, g.many, zip_filter l _ (lay_length l ps0)]
open Go.RowKit
def bitN (l : List UInt8) (i : Nat) : Nat := (l[i / 8]?.getD 0).toNat / 2 ^ (i % 8) % 2
theorem bit_any (l : List UInt8) (at_ : Int) (w : World) (hl : l.length = 8) (h0 : 0 ≤ at_) (h1 : at_ < 64) :
 Calls Tryz.prog 149 #[.agg (wd l), .int .i64 at_] w fun e w' => e = .returned (.int .i64 (bitN l at_.toNat : Nat)) ∧ Below w.heap.size w w' := by
 obtain ⟨a, rfl⟩ := Int.eq_ofNat_of_zero_le h0
 have hc := wd_cell w l 180 (a / 8) (by omega)
 have HL := Lib.hid hl
 clear hl
 go_enter Tryz.func149, Tryz.ntmps149
 go_wp2
 go_ret
 refine ⟨ret_int ?_, (Below.refl _ _).alloc (Nat.le_refl _) _⟩
 rw [bit_u8 _ _ (byte_lt l _)]
 rfl
theorem isBit_any (s : ByteArray) (at_ : Int) (w : World) (hs : s.size ≤ 1600) :
 Calls Tryz.prog 147 #[.string s, .int .i64 at_] w fun e w' => e = .returned (.bool (decide (0 ≤ at_ ∧ at_ < 8 * s.size))) ∧ w = w' := by
 by_cases h1 : 0 ≤ at_
 all_goals
  go_enter Tryz.func147, Tryz.ntmps147
  go_wp2
  all_goals go_ret
  all_goals refine ⟨ret_bool ?_, rfl⟩
  all_goals (rw [Bool.eq_iff_iff]; simp; omega)
theorem specBitGet_yes (s : ByteArray) (a : Nat) (w : World) (hs : s.size ≤ maxLen) (hw : wordsB s.size = true) (hin : a < 8 * s.size) (h16 : s.size ≤ 1600) :
 Calls Tryz.prog 66 #[.string s, .int .i64 a] w fun e w' => e = .returned (.int .i64 (bitN s.data.toList a : Nat)) ∧ w = w' := by
 have h8 : a / 8 < s.size := by omega
 go_enter Tryz.func66, Tryz.ntmps66
 go_wp2_with (first | (go_at_call 104; refine (l1Ok_any _ _ hs).mono ?_; rintro e w' ⟨rfl, rfl⟩))
 go_ret
 refine ⟨ret_int ?_, rfl⟩
 rw [bit_i64 _ _ (s[a / 8]).toNat_lt, bitN, bytes_get s _ h8]
def bitB (l : List UInt8) (at_ : Int) : Bool := wordsB l.length && decide (0 ≤ at_ ∧ at_ < 8 * l.length)
def bitI (l : List UInt8) (at_ : Int) : Int := if bitB l at_ = true then (bitN l at_.toNat : Nat) else 0
theorem bitN_word (l : List UInt8) (a : Nat) : bitN ((l.drop (8 * (a / 64))).take 8) (a % 64) = bitN l a := by
 rw [bitN, bitN, List.getElem?_take_of_lt (by omega), List.getElem?_drop, show 8 * (a / 64) + a % 64 / 8 = a / 8 by omega, show a % 64 % 8 = a % 8 by omega]
theorem implBitGet_any (s : ByteArray) (at_ : Int) (w : World) (hs : s.size ≤ maxLen) :
 Calls Tryz.prog 125 #[.string s, .int .i64 at_] w fun e w' => e = .returned (.int .i64 (bitI s.data.toList at_)) ∧ Below w.heap.size w w' := by
 have hsl : s.data.toList.length = s.size := by simp
 cases hw : wordsB s.size
 · have hG : bitI s.data.toList at_ = 0 := by rw [bitI, bitB, hsl, hw, if_neg (by simp)]
   rw [hG]
   clear hG hsl
   go_enter Tryz.func125, Tryz.ntmps125
   go_wp2_with (first | (go_at_call 142; refine (isWords_any _ _ hs).mono ?_; rintro e w' ⟨rfl, rfl⟩))
   go_ret
   exact ⟨rfl, Below.refl _ _⟩
 have hw8 : s.size % 8 = 0 ∧ s.size ≤ 1600 := by simpa [wordsB] using hw
 obtain ⟨hw1, hw2⟩ := hw8
 by_cases hin : 0 ≤ at_ ∧ at_ < 8 * s.size
 · obtain ⟨a, rfl⟩ := Int.eq_ofNat_of_zero_le hin.1
   have hlt : a < 8 * s.size := by omega
   have hG : bitI s.data.toList a = (bitN ((s.data.toList.drop (8 * (a / 64))).take 8) (a % 64) : Nat) := by rw [bitI, bitB, hsl, hw, if_pos (by simp; omega), bitN_word]; rfl
   have hlen : ((s.data.toList.drop (8 * (a / 64))).take 8).length = 8 := by simp; omega
   have hb : decide (0 ≤ (a : Int) ∧ (a : Int) < 8 * s.size) = true := by simp; omega
   have HI := Lib.hid hb
   have HL := Lib.hid hlen
   rw [hG]
   clear hG hsl hlen hin hb
   go_enter Tryz.func125, Tryz.ntmps125
   go_wp2_with (first | (go_at_call 142; refine (isWords_any _ _ hs).mono ?_; rintro e w' ⟨rfl, rfl⟩) | (go_at_call 147; refine (isBit_any _ _ _ hw2).mono ?_; rw [HI.out]; rintro e w' ⟨rfl, rfl⟩) | (go_at_call 148; go_must (refine (wordAt_any s _ _ hs (by omega) (by omega)).mono ?_); rintro e w1 ⟨rfl, hb1⟩) | (go_at_call 149; go_must (refine (bit_any _ _ _ (by exact HL.out) (by omega) (by omega)).mono ?_); rintro e w2 ⟨rfl, hb2⟩))
   go_ret
   exact ⟨rfl, hb1.trans (hb2.mono hb1.size)⟩
 · have hG : bitI s.data.toList at_ = 0 := by rw [bitI, bitB, hsl, if_neg (by simp; intros; omega)]
   have hb : decide (0 ≤ at_ ∧ at_ < 8 * s.size) = false := by simpa using hin
   have HI := Lib.hid hb
   rw [hG]
   clear hG hsl hin hb
   go_enter Tryz.func125, Tryz.ntmps125
   go_wp2_with (first | (go_at_call 142; refine (isWords_any _ _ hs).mono ?_; rintro e w' ⟨rfl, rfl⟩) | (go_at_call 147; refine (isBit_any _ _ _ hw2).mono ?_; rw [HI.out]; rintro e w' ⟨rfl, rfl⟩))
   go_ret
   exact ⟨rfl, Below.refl _ _⟩
open Go.RowKit Go.Deep
abbrev byR (n : Nd) : List UInt8 := n.data.data.toList
def plcN (l : List Fld) (k : Nat) : Nat := (l.take k).countP (fun f => f.choice)
def wdF (z : Int) : Int := if z = 2 then 1 else if z = 3 then 2 else if z = 4 then 4 else 8
def rawI (f : Fld) (s : Nat) (n : Nd) : Int := if f.size = 1 then bitI (byR n) (s : Int) else getI (byR n) ((s : Int) * wdF f.size) (wdF f.size)
def fldK (l : List Fld) (k : Nat) : Fld := l[k]?.getD ⟨0, false, 0⟩
theorem fldK_at {l : List Fld} {k : Nat} (h : k < l.length) : fldK l k = l[k] := by unfold fldK; rw [List.getElem?_eq_getElem h]; rfl
def tellsB (l : List Fld) (k : Nat) : Bool := (fldK l k).choice && decide (0 ≤ tagL l)
def seenB (l : List Fld) (n : Nd) (k : Nat) : Bool := !tellsB l k || decide (choN l n = (plcN l k : Int))
def rgB (l : List Fld) (n : Nd) (a : Int) : Bool := recB l n && (withB a l.length && seenB l n a.toNat)
def fNum (l : List Fld) (n : Nd) (k : Nat) : Int := if (fldK l k).size = 6 then 0 else xorI (rawI (fldK l k) (atF l k) n) (fldK l k).els
def fNod (l : List Fld) (n : Nd) (k : Nat) : Nd := if (fldK l k).size = 6 then n.ptrs[atF l k]?.getD noneNd else noneNd
def rgN (l : List Fld) (n : Nd) (a : Int) : Int := if rgB l n a = true then fNum l n a.toNat else 0
def rgY (l : List Fld) (n : Nd) (a : Int) : Nd := if rgB l n a = true then fNod l n a.toNat else noneNd
theorem atF_le {l : List Fld} (hok : fldsOk l = true) {k : Nat} (hk : k < l.length) : atF l k ≤ 2000 := by
 have hl := fldsOk_len hok
 refine lay_bd_at l pbd0 (by omega) _ ?_
 unfold atF
 rw [List.getD, List.getElem?_eq_getElem (by rw [lay_length]; exact hk)]
 exact List.getElem_mem _
theorem fld_ok_at {l : List Fld} (h : fldsOk l = true) {k : Nat} (hk : k < l.length) : fldOk l[k] = true := by
 unfold fldsOk at h
 rw [Bool.and_eq_true] at h
 exact List.all_eq_true.mp h.1 _ (List.getElem_mem hk)
theorem els_six {f : Fld} (h : fldOk f = true) (h6 : f.size = 6) : f.els = 0 := by
 unfold fldOk fitB at h
 rw [h6] at h
 simpa [inB] using h
theorem wdF_or (z : Int) : wdF z = 1 ∨ wdF z = 2 ∨ wdF z = 4 ∨ wdF z = 8 := by
 unfold wdF
 split
 · exact .inl rfl
 · split
   · exact .inr (.inl rfl)
   · split
     · exact .inr (.inr (.inl rfl))
     · exact .inr (.inr (.inr rfl))
theorem plc_succ {l : List Fld} {j : Nat} (h : j < l.length) : plcN l (j + 1) = plcN l j + (if (l[j]).choice then 1 else 0) := by
 unfold plcN
 rw [List.take_succ_eq_append_getElem h, List.countP_append, List.countP_singleton]
theorem plc_le (l : List Fld) (k : Nat) : plcN l k ≤ k := by
 unfold plcN
 exact Nat.le_trans List.countP_le_length (by rw [List.length_take]; omega)
theorem placeOf_a (A : Option Addr) (c : Nat) (l : List Fld) (k : Nat) (hk : k < l.length) (hc : l.length ≤ c) (w : World) (h : Flds w A l) (hl : l.length ≤ 12) :
 Calls Tryz.prog 30 #[.slice A l.length c, .int .i64 (k : Int)] w fun e w' => e = .returned (.int .i64 (plcN l k : Nat)) ∧ Below w.heap.size w w' := by
 have HF := Lib.hid h
 obtain ⟨x, rfl, hxb, -⟩ := h.at2 hk
 have hkc : k ≤ c := by omega
 have hk12 : k ≤ 12 := by omega
 clear h
 go_enter Tryz.func30, Tryz.ntmps30
 go_wp2
 go_loopw [5, 12] (fun q i wr => ∃ (j u : Nat), i = .int .i64 (j : Int) ∧ q = .int .i64 (u : Int) ∧ j ≤ k ∧ u ≤ 12 ∧ Hid (u = plcN l j) ∧ Hid (Below w.heap.size w wr)) (fun _ i _ => k - (intOf i).toNat)
 case atStart => exact ⟨0, 0, rfl, rfl, by omega, by omega, Lib.hid rfl, Lib.hid (Below.refl _ _)⟩
 case round =>
  obtain ⟨j, u, rfl, rfl, hj, hu, HU, HB⟩ := hrel
  by_cases hlt : j < k
  · obtain ⟨x', hx', hxb', hx⟩ := (HF.out.below HB.out).at2 (k := j) (by omega)
    obtain rfl := Option.some.inj hx'
    have HTK := Lib.hid (plc_succ (l := l) (j := j) (by omega))
    have HP := Lib.hid (plc_le l (j + 1))
    generalize l[j] = f at hx HTK
    obtain ⟨z, fc, el⟩ := f
    obtain ⟨c0, c1, c2⟩ := hx
    have HB2 := Lib.hid (HB.out.alloc HB.out.size (.cells #[.int .i64 z, .bool fc, .int .i64 el] 41))
    cases fc
    · go_wp2
      go_roundw
      case rel => exact ⟨j + 1, u, by go_num, rfl, by omega, by omega, Lib.hid (by rw [HTK.out, HU.out]; rfl), HB2⟩
      case measure => simp [intOf]; omega
    · have hu1 : u + 1 ≤ 12 := by have h1 := HP.out; have h2 := HTK.out; have h3 := HU.out; simp at h2; omega
      go_wp2
      go_roundw
      case rel => exact ⟨j + 1, u + 1, by go_num, by go_num, by omega, hu1, Lib.hid (by rw [HTK.out, HU.out]; rfl), HB2⟩
      case measure => simp [intOf]; omega
  · obtain rfl : j = k := by omega
    go_wp2
    go_ret
    exact ⟨by rw [← HU.out]; rfl, HB.out⟩
theorem l8Choice_a (A : Option Addr) (c : Nat) (l : List Fld) (k : Nat) (hk : k < l.length) (w : World) (h : Flds w A l) (hl : l.length ≤ 12) :
 Calls Tryz.prog 37 #[.slice A l.length c, .int .i64 (k : Int)] w fun e w' => e = .returned (.int .i64 (plcN l k : Nat)) ∧ Below w.heap.size w w' := by
 have HF := Lib.hid h
 obtain ⟨x, rfl, hxb, -⟩ := h.at2 hk
 have hk12 : k ≤ 12 := by omega
 clear h
 go_enter Tryz.func37, Tryz.ntmps37
 go_wp2
 go_loopw [5, 6] (fun q i wr => ∃ (j u : Nat), i = .int .i64 (j : Int) ∧ q = .int .i64 (u : Int) ∧ j ≤ k ∧ u ≤ 12 ∧ Hid (u = plcN l j) ∧ Hid (Below w.heap.size w wr)) (fun _ i _ => k - (intOf i).toNat)
 case atStart => exact ⟨0, 0, rfl, rfl, by omega, by omega, Lib.hid rfl, Lib.hid (Below.refl _ _)⟩
 case round =>
  obtain ⟨j, u, rfl, rfl, hj, hu, HU, HB⟩ := hrel
  by_cases hlt : j < k
  · obtain ⟨x', hx', hxb', hx⟩ := (HF.out.below HB.out).at2 (k := j) (by omega)
    obtain rfl := Option.some.inj hx'
    have HTK := Lib.hid (plc_succ (l := l) (j := j) (by omega))
    have HP := Lib.hid (plc_le l (j + 1))
    generalize l[j] = f at hx HTK
    obtain ⟨z, fc, el⟩ := f
    obtain ⟨c0, c1, c2⟩ := hx
    have hjl : j < l.length := by omega
    cases fc
    · go_wp2
      go_roundw
      case rel => exact ⟨j + 1, u, by go_num, rfl, by omega, by omega, Lib.hid (by rw [HTK.out, HU.out]; rfl), HB⟩
      case measure => simp [intOf]; omega
    · have hu1 : u + 1 ≤ 12 := by have h1 := HP.out; have h2 := HTK.out; have h3 := HU.out; simp at h2; omega
      go_wp2
      go_roundw
      case rel => exact ⟨j + 1, u + 1, by go_num, by go_num, by omega, hu1, Lib.hid (by rw [HTK.out, HU.out]; rfl), HB⟩
      case measure => simp [intOf]; omega
  · obtain rfl : j = k := by omega
    go_wp2
    go_ret
    exact ⟨by rw [← HU.out]; rfl, HB.out⟩
theorem tells_eq {l : List Fld} {k : Nat} (hk : k < l.length) : tellsB l k = ((l[k]).choice && decide (0 ≤ tagL l)) := by unfold tellsB; rw [fldK_at hk]
theorem tells_a (g : Nat) (x : Addr) (c : Nat) (l : List Fld) (v1 : Value) (n : Nd) (h : Hd) (k : Nat) (hk : k < l.length) (w : World) (hr : RecAt w g (some x) l.length c l v1 n h) (hf : FldAt w (x.add (k * 3)) l[k]) (hl : l.length ≤ 12) :
 Calls Tryz.prog 28 #[.pointer (some ⟨g, 0, none⟩), .int .i64 (k : Int)] w fun e w' => e = .returned (.bool (tellsB l k)) ∧ Below w.heap.size w w' := by
 obtain ⟨a0, a1, a2, a3, a4, a5, a6, a7, a8, a9, a10⟩ := cells11 hr
 rw [tells_eq hk]
 generalize l[k] = f at *
 obtain ⟨z, fc, el⟩ := f
 obtain ⟨c0, c1, c2⟩ := hf
 clear hr
 cases fc
 · go_enter Tryz.func28, Tryz.ntmps28
   go_wp2
   go_ret
   exact ⟨rfl, Below.refl _ _⟩
 · go_enter Tryz.func28, Tryz.ntmps28
   go_wp2
   go_ret
   exact ⟨by simp, Below.refl _ _⟩
end Go.Proofs.YtblcibgphccfkaaGreatDoor
