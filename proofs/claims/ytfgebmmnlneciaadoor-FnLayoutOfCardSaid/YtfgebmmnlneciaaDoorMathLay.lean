/- Where fields stand: the plain mathematics. No Go text. -/
import Derived.WalkKit
namespace Go.Proofs.YtfgebmmnlneciaaDoor
/-- a field. -/
structure Fld where
  size : Int
  choice : Bool
  els : Int
/-- words in use, and a hole of each depth below a word (0: none). -/
structure LS where
  words : Nat
  hole : Nat → Nat
def upd (h : Nat → Nat) (k v : Nat) : Nat → Nat := fun i => if i = k then v else h i
theorem upd_same (h : Nat → Nat) (k v : Nat) : upd h k v k = v := by simp [upd]
theorem upd_other (h : Nat → Nat) (k v i : Nat) (hi : i ≠ k) : upd h k v i = h i := by simp [upd, hi]
/-- room of a depth. -/
def roomF : Nat → LS → Nat × LS
  | 0, s => (s.words, ⟨s.words + 1, s.hole⟩)
  | k + 1, s => if s.hole (k + 1) ≠ 0 then (s.hole (k + 1), ⟨s.words, upd s.hole (k + 1) 0⟩) else (2 * (roomF k s).1, ⟨(roomF k s).2.words, upd (roomF k s).2.hole (k + 1) (2 * (roomF k s).1 + 1)⟩)
theorem room_hit (k : Nat) (s : LS) (h : s.hole (k + 1) ≠ 0) : roomF (k + 1) s = (s.hole (k + 1), ⟨s.words, upd s.hole (k + 1) 0⟩) := by rw [roomF, if_pos h]
theorem room_miss (k : Nat) (s : LS) (h : s.hole (k + 1) = 0) : roomF (k + 1) s = (2 * (roomF k s).1, ⟨(roomF k s).2.words, upd (roomF k s).2.hole (k + 1) (2 * (roomF k s).1 + 1)⟩) := by rw [roomF, if_neg (by simp [h])]
theorem room_above (s : LS) (i : Nat) : ∀ k, k < i → (roomF k s).2.hole i = s.hole i
  | 0, _ => rfl
  | k + 1, h => by
    by_cases h0 : s.hole (k + 1) = 0
    · rw [room_miss k s h0]
      show upd _ _ _ i = _
      rw [upd_other _ _ _ _ (by omega), room_above s i k (by omega)]
    · rw [room_hit k s h0]
      exact upd_other _ _ _ _ (by omega)
/-- bounds: so many words at most. -/
def LBd (n : Nat) (s : LS) : Prop := s.words ≤ n ∧ ∀ i, s.hole i < 2 ^ i * (n + 1)
theorem LBd.mono {n m : Nat} {s : LS} (h : LBd n s) (hm : n ≤ m) : LBd m s := ⟨Nat.le_trans h.1 hm, fun i => Nat.lt_of_lt_of_le (h.2 i) (Nat.mul_le_mul_left _ (by omega))⟩
theorem room_bd_aux (n : Nat) (s : LS) (h : LBd n s) : ∀ k, (roomF k s).1 < 2 ^ k * (n + 1) ∧ (roomF k s).2.words ≤ n + 1 ∧ (∀ i, (roomF k s).2.hole i < 2 ^ i * (n + 1))
  | 0 => by
    refine ⟨?_, ?_, h.2⟩
    · show s.words < _; have := h.1; omega
    · show s.words + 1 ≤ _; have := h.1; omega
  | k + 1 => by
    obtain ⟨i1, i2, i3⟩ := room_bd_aux n s h k
    by_cases h0 : s.hole (k + 1) = 0
    · rw [room_miss k s h0]
      refine ⟨?_, i2, fun i => ?_⟩
      · show 2 * (roomF k s).1 < _
        rw [Nat.pow_succ]
        have : 2 ^ k * 2 * (n + 1) = 2 * (2 ^ k * (n + 1)) := by rw [Nat.mul_comm (2 ^ k) 2, Nat.mul_assoc]
        omega
      · show upd _ _ _ i < _
        by_cases hi : i = k + 1
        · subst hi
          rw [upd_same, Nat.pow_succ]
          have : 2 ^ k * 2 * (n + 1) = 2 * (2 ^ k * (n + 1)) := by rw [Nat.mul_comm (2 ^ k) 2, Nat.mul_assoc]
          omega
        · rw [upd_other _ _ _ _ hi]; exact i3 i
    · rw [room_hit k s h0]
      refine ⟨h.2 _, by show s.words ≤ _; have := h.1; omega, fun i => ?_⟩
      show upd _ _ _ i < _
      by_cases hi : i = k + 1
      · subst hi
        rw [upd_same]
        exact Nat.lt_of_le_of_lt (Nat.zero_le _) (h.2 (k + 1))
      · rw [upd_other _ _ _ _ hi]; exact h.2 i
theorem room_bd {n : Nat} {s : LS} (h : LBd n s) (k : Nat) : (roomF k s).1 < 2 ^ k * (n + 1) ∧ LBd (n + 1) (roomF k s).2 := by
  obtain ⟨i1, i2, i3⟩ := room_bd_aux n s h k
  exact ⟨i1, i2, fun i => Nat.lt_of_lt_of_le (i3 i) (Nat.mul_le_mul_left _ (by omega))⟩
/-- as the specification takes it: a hole, or none. -/
def holeF : Nat → LS → Option Nat × LS
  | 0, s => (none, s)
  | k + 1, s => if s.hole (k + 1) ≠ 0 then (some (s.hole (k + 1)), ⟨s.words, upd s.hole (k + 1) 0⟩) else
      match holeF k s with
      | (none, _) => (none, s)
      | (some a, t) => (some (2 * a), ⟨t.words, upd t.hole (k + 1) (2 * a + 1)⟩)
def freshF (k : Nat) (s : LS) : LS := ⟨s.words + 1, fun i => if 1 ≤ i ∧ i ≤ k then 2 ^ i * s.words + 1 else s.hole i⟩
theorem room_of_hole (s : LS) : ∀ k, roomF k s = (match holeF k s with | (some a, t) => (a, t) | (none, _) => (2 ^ k * s.words, freshF k s))
  | 0 => by
    simp only [roomF, holeF, freshF]
    refine Prod.ext (by simp) ?_
    simp only [LS.mk.injEq, true_and]
    funext i
    rw [if_neg (by omega)]
  | k + 1 => by
    by_cases h0 : s.hole (k + 1) = 0
    · rw [room_miss k s h0, room_of_hole s k, holeF, if_neg (by simp [h0])]
      cases h : holeF k s with
      | mk o t =>
        cases o with
        | none =>
          simp only
          refine Prod.ext ?_ ?_
          · simp only [Nat.pow_succ]; rw [Nat.mul_comm (2 ^ k) 2, Nat.mul_assoc]
          · simp only [freshF, LS.mk.injEq, true_and]
            funext i
            by_cases hi : i = k + 1
            · subst hi
              rw [upd_same, if_pos ⟨by omega, Nat.le_refl _⟩, Nat.pow_succ, Nat.mul_comm (2 ^ k) 2, Nat.mul_assoc]
            · rw [upd_other _ _ _ _ hi]
              by_cases hc : 1 ≤ i ∧ i ≤ k
              · rw [if_pos hc, if_pos ⟨hc.1, by omega⟩]
              · rw [if_neg hc, if_neg (by omega)]
        | some a => rfl
    · rw [room_hit k s h0, holeF, if_pos h0]
theorem hole_none (s : LS) : ∀ k, (holeF k s).1 = none → (holeF k s).2 = s
  | 0, _ => rfl
  | k + 1, h => by
    rw [holeF] at h ⊢
    by_cases h0 : s.hole (k + 1) ≠ 0
    · rw [if_pos h0] at h; cases h
    · rw [if_neg h0] at h ⊢
      cases hh : holeF k s with
      | mk o t =>
        rw [hh] at h
        cases o with
        | none => rfl
        | some a => cases h
/-- the state of a plan. -/
structure PS where
  ls : LS
  ptrs : Nat
  tag : Int
  many : Nat
  shared : List (Nat × Nat)
  point : Int
/-- the depth of a size of data. -/
def kOf (size : Int) : Nat := if size = 1 then 6 else if size = 2 then 3 else if size = 3 then 2 else if size = 4 then 1 else 0
def bitsOf (size : Int) : Int := if size = 1 then 1 else if size = 2 then 8 else if size = 3 then 16 else if size = 4 then 32 else if size = 5 then 64 else 0
def shareF (k : Nat) (s : PS) : Nat × PS :=
  match s.shared.find? (fun r => r.1 ≤ k) with
  | some r => (r.2 * 2 ^ (k - r.1), s)
  | none => ((roomF k s.ls).1, { s with ls := (roomF k s.ls).2, shared := s.shared ++ [(k, (roomF k s.ls).1)] })
def ptrF (s : PS) : Nat × PS := (s.ptrs, { s with ptrs := s.ptrs + 1 })
def sharePtrF (s : PS) : Nat × PS := if s.point < 0 then (s.ptrs, { s with ptrs := s.ptrs + 1, point := s.ptrs }) else (s.point.toNat, s)
def tagF (c : Bool) (s : PS) : PS :=
  if c then (if s.many + 1 = 2 then { s with many := s.many + 1, ls := (roomF 2 s.ls).2, tag := (roomF 2 s.ls).1 } else { s with many := s.many + 1 }) else s
def dataF (k : Nat) (s : PS) : Nat × PS := ((roomF k s.ls).1, { s with ls := (roomF k s.ls).2 })
def placeF (f : Fld) (s : PS) : Nat × PS :=
  if f.size = 6 then (if f.choice then sharePtrF (tagF f.choice s) else ptrF (tagF f.choice s))
  else if f.choice then shareF (kOf f.size) (tagF f.choice s) else dataF (kOf f.size) (tagF f.choice s)
def layF : List Fld → PS → List Nat × PS
  | [], s => ([], s)
  | f :: r, s => ((placeF f s).1 :: (layF r (placeF f s).2).1, (layF r (placeF f s).2).2)
def ps0 : PS := ⟨⟨0, fun _ => 0⟩, 0, -1, 0, [], -1⟩
theorem lay_snoc (f : Fld) : ∀ (l : List Fld) (s : PS), layF (l ++ [f]) s = ((layF l s).1 ++ [(placeF f (layF l s).2).1], (placeF f (layF l s).2).2)
  | [], s => rfl
  | g :: r, s => by
    rw [List.cons_append]
    show (_ :: (layF (r ++ [f]) (placeF g s).2).1, (layF (r ++ [f]) (placeF g s).2).2) = _
    rw [lay_snoc f r]
    rfl
theorem lay_length : ∀ (l : List Fld) (s : PS), (layF l s).1.length = l.length
  | [], _ => rfl
  | f :: r, s => by show _ + 1 = _; rw [lay_length r]; rfl
theorem lay_append : ∀ (l m : List Fld) (s : PS), layF (l ++ m) s = ((layF l s).1 ++ (layF m (layF l s).2).1, (layF m (layF l s).2).2)
  | [], m, s => rfl
  | f :: r, m, s => by
    rw [List.cons_append]
    show (_ :: (layF (r ++ m) (placeF f s).2).1, (layF (r ++ m) (placeF f s).2).2) = _
    rw [lay_append r m]
    rfl
/-- bounds of a plan behind so many fields. -/
structure PBd (n : Nat) (s : PS) : Prop where
  ls : LBd (2 * n) s.ls
  ptrs : s.ptrs ≤ n
  tag : -1 ≤ s.tag ∧ s.tag < 4 * (2 * n + 1)
  many : s.many ≤ n
  len : s.shared.length ≤ n
  shared : ∀ r ∈ s.shared, r.1 ≤ 6 ∧ r.2 < 2 ^ r.1 * (2 * n + 1)
  point : -1 ≤ s.point ∧ s.point < s.ptrs
theorem pbd0 : PBd 0 ps0 := ⟨⟨Nat.le_refl _, fun i => by show 0 < _; exact Nat.mul_pos (Nat.pow_pos (by decide)) (by decide)⟩, Nat.le_refl _, by decide, Nat.le_refl _, Nat.le_refl _, (fun _ h => by cases h), by decide⟩
/-- bounds between the tag and the field. -/
structure PBm (n : Nat) (s : PS) : Prop where
  ls : LBd (2 * n + 1) s.ls
  ptrs : s.ptrs ≤ n
  tag : -1 ≤ s.tag ∧ s.tag < 4 * (2 * n + 2)
  many : s.many ≤ n + 1
  len : s.shared.length ≤ n
  shared : ∀ r ∈ s.shared, r.1 ≤ 6 ∧ r.2 < 2 ^ r.1 * (2 * n + 1)
  point : -1 ≤ s.point ∧ s.point < s.ptrs
theorem tag_bd {n : Nat} {s : PS} (h : PBd n s) (c : Bool) : PBm n (tagF c s) := by
  have hr := room_bd h.ls 2
  obtain ⟨h1, h2, h3, h4, h5, h6, h7⟩ := h
  unfold tagF
  cases c with
  | false =>
    rw [if_neg (by simp)]
    exact ⟨h1.mono (by omega), h2, ⟨h3.1, by omega⟩, by omega, h5, h6, h7⟩
  | true =>
    rw [if_pos rfl]
    by_cases hm : s.many + 1 = 2
    · rw [if_pos hm]
      refine ⟨hr.2, h2, ⟨by show (-1 : Int) ≤ ((roomF 2 s.ls).1 : Int); omega, ?_⟩, by show s.many + 1 ≤ _; omega, h5, h6, h7⟩
      show ((roomF 2 s.ls).1 : Int) < _
      have := hr.1
      simp only [show (2 : Nat) ^ 2 = 4 from rfl] at this
      omega
    · rw [if_neg hm]
      exact ⟨h1.mono (by omega), h2, ⟨h3.1, by dsimp only; omega⟩, by show s.many + 1 ≤ _; omega, h5, h6, h7⟩
theorem kOf_le (z : Int) : kOf z ≤ 6 := by unfold kOf; split <;> (try split) <;> (try split) <;> (try split) <;> omega
theorem room_bd7 {n : Nat} {s : LS} (h : LBd n s) {k : Nat} (hk : k ≤ 6) : (roomF k s).1 < 64 * (n + 1) := by
  have := (room_bd h k).1
  have h2 : 2 ^ k ≤ 2 ^ 6 := Nat.pow_le_pow_right (by decide) hk
  have h3 := Nat.mul_le_mul_right (n + 1) h2
  simp only [show (2 : Nat) ^ 6 = 64 from rfl] at h3
  omega
theorem share_pow {k r : Nat} (h : r ≤ k) : 2 ^ r * 2 ^ (k - r) = 2 ^ k := by rw [← Nat.pow_add]; congr 1; omega
theorem shared_bd {k r a m : Nat} (h : r ≤ k) (hk : k ≤ 6) (ha : a < 2 ^ r * m) : a * 2 ^ (k - r) < 64 * m := by
  have h1 : a * 2 ^ (k - r) < 2 ^ r * m * 2 ^ (k - r) := Nat.mul_lt_mul_of_pos_right ha (Nat.pow_pos (by decide))
  have h2 : 2 ^ r * m * 2 ^ (k - r) = 2 ^ k * m := by rw [Nat.mul_right_comm, share_pow h]
  have h3 : 2 ^ k * m ≤ 2 ^ 6 * m := Nat.mul_le_mul_right _ (Nat.pow_le_pow_right (by decide) hk)
  simp only [show (2 : Nat) ^ 6 = 64 from rfl] at h3
  omega
theorem place_bd {n : Nat} {s : PS} (h : PBd n s) (f : Fld) : PBd (n + 1) (placeF f s).2 ∧ (placeF f s).1 ≤ 64 * (2 * n + 2) := by
  have hm := tag_bd h f.choice
  obtain ⟨h1, h2, h3, h4, h5, h6, h7⟩ := hm
  have hk := kOf_le f.size
  have hr := room_bd h1 (kOf f.size)
  have hr7 := room_bd7 h1 hk
  have hsh : ∀ r ∈ (tagF f.choice s).shared, r.1 ≤ 6 ∧ r.2 < 2 ^ r.1 * (2 * (n + 1) + 1) := fun r hrm => ⟨(h6 r hrm).1, Nat.lt_of_lt_of_le (h6 r hrm).2 (Nat.mul_le_mul_left _ (by omega))⟩
  unfold placeF
  by_cases hp : f.size = 6
  · rw [if_pos hp]
    cases hc : f.choice with
    | false =>
      rw [if_neg (by simp)]
      rw [hc] at h1 h2 h3 h4 h5 h6 h7 hsh
      exact ⟨⟨h1.mono (by omega), by show (tagF false s).ptrs + 1 ≤ _; omega, ⟨h3.1, by have := h3.2; show (tagF false s).tag < _; omega⟩, by show (tagF false s).many ≤ _; omega, by show (tagF false s).shared.length ≤ _; omega, hsh, ⟨h7.1, by have := h7.2; show (tagF false s).point < (((tagF false s).ptrs + 1 : Nat) : Int); omega⟩⟩, by show (tagF false s).ptrs ≤ _; omega⟩
    | true =>
      rw [if_pos rfl]
      rw [hc] at h1 h2 h3 h4 h5 h6 h7 hsh
      unfold sharePtrF
      by_cases hq : (tagF true s).point < 0
      · rw [if_pos hq]
        exact ⟨⟨h1.mono (by omega), by show (tagF true s).ptrs + 1 ≤ _; omega, ⟨h3.1, by have := h3.2; show (tagF true s).tag < _; omega⟩, by show (tagF true s).many ≤ _; omega, by show (tagF true s).shared.length ≤ _; omega, hsh, ⟨by show (-1 : Int) ≤ ((tagF true s).ptrs : Int); omega, by show ((tagF true s).ptrs : Int) < (((tagF true s).ptrs + 1 : Nat) : Int); omega⟩⟩, by show (tagF true s).ptrs ≤ _; omega⟩
      · rw [if_neg hq]
        exact ⟨⟨h1.mono (by omega), by dsimp only; omega, ⟨h3.1, by have := h3.2; dsimp only; omega⟩, by dsimp only; omega, by dsimp only; omega, hsh, h7⟩, by show (tagF true s).point.toNat ≤ _; omega⟩
  · rw [if_neg hp]
    cases hc : f.choice with
    | false =>
      rw [if_neg (by simp)]
      rw [hc] at h1 h2 h3 h4 h5 h6 h7 hsh hr hr7
      exact ⟨⟨hr.2, by show (tagF false s).ptrs ≤ _; omega, ⟨h3.1, by have := h3.2; show (tagF false s).tag < _; omega⟩, by show (tagF false s).many ≤ _; omega, by show (tagF false s).shared.length ≤ _; omega, hsh, h7⟩, by show (roomF _ _).1 ≤ _; omega⟩
    | true =>
      rw [if_pos rfl]
      rw [hc] at h1 h2 h3 h4 h5 h6 h7 hsh hr hr7
      unfold shareF
      cases hf : (tagF true s).shared.find? (fun r => r.1 ≤ kOf f.size) with
      | none =>
        refine ⟨⟨hr.2, by show (tagF true s).ptrs ≤ _; omega, ⟨h3.1, by have := h3.2; show (tagF true s).tag < _; omega⟩, by show (tagF true s).many ≤ _; omega, by show (_ ++ [_]).length ≤ _; simp; omega, ?_, h7⟩, by show (roomF _ _).1 ≤ _; omega⟩
        intro r hrm
        rcases List.mem_append.1 hrm with hrm | hrm
        · exact hsh r hrm
        · obtain rfl : r = (kOf f.size, (roomF (kOf f.size) (tagF true s).ls).1) := by simpa using hrm
          exact ⟨hk, Nat.lt_of_lt_of_le hr.1 (Nat.mul_le_mul_left _ (by omega))⟩
      | some r =>
        have hrm := List.mem_of_find?_eq_some hf
        have hrk : r.1 ≤ kOf f.size := by simpa using List.find?_some hf
        refine ⟨⟨h1.mono (by omega), by dsimp only; omega, ⟨h3.1, by have := h3.2; dsimp only; omega⟩, by dsimp only; omega, by dsimp only; omega, hsh, h7⟩, ?_⟩
        show r.2 * 2 ^ (kOf f.size - r.1) ≤ _
        have := shared_bd hrk hk (h6 r hrm).2
        omega
theorem lay_bd : ∀ (l : List Fld) {n : Nat} {s : PS}, PBd n s → PBd (n + l.length) (layF l s).2
  | [], _, _, h => h
  | f :: r, n, s, h => by
    have := lay_bd r (place_bd h f).1
    rw [show n + (f :: r).length = n + 1 + r.length by simp; omega]
    exact this
theorem lay_bd_at : ∀ (l : List Fld) {n : Nat} {s : PS}, PBd n s → n + l.length ≤ 13 → ∀ a ∈ (layF l s).1, a ≤ 2000
  | [], _, _, _, _ => fun _ h => by cases h
  | f :: r, n, s, h, hn => fun a ha => by
    have hp := place_bd h f
    simp at hn
    rcases List.mem_cons.1 ha with rfl | ha
    · have := hp.2; omega
    · exact lay_bd_at r hp.1 (by omega) a ha
end Go.Proofs.YtfgebmmnlneciaaDoor
