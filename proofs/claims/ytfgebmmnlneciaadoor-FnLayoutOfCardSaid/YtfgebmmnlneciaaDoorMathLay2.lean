/- Where fields stand: no two rooms meet. No Go text. -/
import Derived.Test.YtfgebmmnlneciaaDoorMathLay
namespace Go.Proofs.YtfgebmmnlneciaaDoor
/-- the bits of a room of a depth. -/
def inS (k a b : Nat) : Prop := a * 2 ^ (6 - k) ≤ b ∧ b < (a + 1) * 2 ^ (6 - k)
def FreeB (s : LS) (b : Nat) : Prop := ∃ k, 1 ≤ k ∧ k ≤ 6 ∧ s.hole k ≠ 0 ∧ inS k (s.hole k) b
structure LInv (s : LS) : Prop where
  apart : ∀ k k', 1 ≤ k → k ≤ 6 → 1 ≤ k' → k' ≤ 6 → k ≠ k' → s.hole k ≠ 0 → s.hole k' ≠ 0 → ∀ b, inS k (s.hole k) b → ¬ inS k' (s.hole k') b
  within : ∀ b, FreeB s b → b < 64 * s.words
theorem two_pow6 {k : Nat} (hk : k + 1 ≤ 6) : 2 ^ (6 - k) = 2 * 2 ^ (6 - (k + 1)) := by
  rw [show 6 - k = (6 - (k + 1)) + 1 by omega, Nat.pow_succ, Nat.mul_comm]
theorem halves {k h b : Nat} (hk : k + 1 ≤ 6) : inS k h b ↔ inS (k + 1) (2 * h) b ∨ inS (k + 1) (2 * h + 1) b := by
  unfold inS
  rw [two_pow6 hk]
  generalize 2 ^ (6 - (k + 1)) = p
  have e1 : h * (2 * p) = 2 * h * p := by rw [← Nat.mul_assoc, Nat.mul_comm h 2]
  have e2 : (h + 1) * (2 * p) = (2 * h + 1 + 1) * p := by rw [← Nat.mul_assoc]; congr 1; omega
  rw [e1, e2]
  have e3 : 2 * h * p ≤ (2 * h + 1) * p := Nat.mul_le_mul_right _ (by omega)
  have e4 : (2 * h + 1) * p ≤ (2 * h + 1 + 1) * p := Nat.mul_le_mul_right _ (by omega)
  omega
theorem halves_apart {k h b : Nat} (h1 : inS k (2 * h) b) (h2 : inS k (2 * h + 1) b) : False := by
  unfold inS at h1 h2
  omega
theorem room_inv : ∀ (k : Nat) (s : LS), k ≤ 6 → LInv s → LInv (roomF k s).2 ∧ s.words ≤ (roomF k s).2.words ∧ (∀ b, (FreeB (roomF k s).2 b ∨ inS k (roomF k s).1 b) ↔ (FreeB s b ∨ (64 * s.words ≤ b ∧ b < 64 * (roomF k s).2.words))) ∧ (∀ b, FreeB (roomF k s).2 b → ¬ inS k (roomF k s).1 b)
  | 0, s, _, h => by
    have hi : ∀ b, inS 0 s.words b ↔ (64 * s.words ≤ b ∧ b < 64 * (s.words + 1)) := fun b => by unfold inS; simp only [Nat.sub_zero, show (2 : Nat) ^ 6 = 64 from rfl]; omega
    have hf : ∀ b, FreeB (roomF 0 s).2 b ↔ FreeB s b := fun b => Iff.rfl
    refine ⟨⟨h.apart, fun b hb => ?_⟩, Nat.le_succ _, fun b => ?_, fun b hb => ?_⟩
    · have := h.within b hb; show b < 64 * (s.words + 1); omega
    · show (FreeB s b ∨ inS 0 s.words b) ↔ (FreeB s b ∨ (64 * s.words ≤ b ∧ b < 64 * (s.words + 1)))
      rw [hi]
    · intro hin
      have h1 := h.within b hb
      have h2 := (hi b).1 hin
      omega
  | k + 1, s, hk, h => by
    by_cases h0 : s.hole (k + 1) = 0
    · obtain ⟨i1, i2, i3, i4⟩ := room_inv k s (by omega) h
      have ha : (roomF k s).2.hole (k + 1) = 0 := by rw [room_above s (k + 1) k (Nat.lt_succ_self k)]; exact h0
      rw [room_miss k s h0]
      generalize roomF k s = r at *
      obtain ⟨a, t⟩ := r
      simp only at *
      have hup : ∀ i, i ≠ k + 1 → (LS.mk t.words (upd t.hole (k + 1) (2 * a + 1))).hole i = t.hole i := fun i hi => upd_other _ _ _ _ hi
      have hus : (LS.mk t.words (upd t.hole (k + 1) (2 * a + 1))).hole (k + 1) = 2 * a + 1 := upd_same _ _ _
      have hfree : ∀ b, FreeB ⟨t.words, upd t.hole (k + 1) (2 * a + 1)⟩ b ↔ (FreeB t b ∨ inS (k + 1) (2 * a + 1) b) := by
        intro b
        constructor
        · rintro ⟨i, hi1, hi6, hne, hin⟩
          by_cases e : i = k + 1
          · subst e; right; rw [hus] at hin; exact hin
          · left; rw [hup i e] at hne hin; exact ⟨i, hi1, hi6, hne, hin⟩
        · rintro (⟨i, hi1, hi6, hne, hin⟩ | hin)
          · have e : i ≠ k + 1 := fun e => hne (by rw [e]; exact ha)
            exact ⟨i, hi1, hi6, by rw [hup i e]; exact hne, by rw [hup i e]; exact hin⟩
          · exact ⟨k + 1, by omega, hk, by rw [hus]; omega, by rw [hus]; exact hin⟩
      refine ⟨⟨?_, ?_⟩, i2, ?_, ?_⟩
      · intro i j hi1 hi6 hj1 hj6 hij hni hnj b hbi hbj
        by_cases ei : i = k + 1
        · subst ei
          have ej : j ≠ k + 1 := fun e => hij e.symm
          rw [hus] at hbi
          rw [hup j ej] at hnj hbj
          exact i4 b ⟨j, hj1, hj6, hnj, hbj⟩ ((halves hk).2 (.inr hbi))
        · by_cases ej : j = k + 1
          · subst ej
            rw [hus] at hbj
            rw [hup i ei] at hni hbi
            exact i4 b ⟨i, hi1, hi6, hni, hbi⟩ ((halves hk).2 (.inr hbj))
          · rw [hup i ei] at hni hbi
            rw [hup j ej] at hnj hbj
            exact i1.apart i j hi1 hi6 hj1 hj6 hij hni hnj b hbi hbj
      · intro b hb
        rcases (hfree b).1 hb with hb | hb
        · exact i1.within b hb
        · rcases (i3 b).1 (.inr ((halves hk).2 (.inr hb))) with hs | hs
          · have := h.within b hs; show b < 64 * t.words; omega
          · exact hs.2
      · intro b
        rw [hfree b, ← i3 b, halves hk]
        constructor
        · rintro ((hb | hb) | hb)
          · exact .inl hb
          · exact .inr (.inr hb)
          · exact .inr (.inl hb)
        · rintro (hb | hb | hb)
          · exact .inl (.inl hb)
          · exact .inr hb
          · exact .inl (.inr hb)
      · intro b hb hin
        rcases (hfree b).1 hb with hb | hb
        · exact i4 b hb ((halves hk).2 (.inl hin))
        · exact halves_apart hin hb
    · rw [room_hit k s h0]
      have hup : ∀ i, i ≠ k + 1 → (LS.mk s.words (upd s.hole (k + 1) 0)).hole i = s.hole i := fun i hi => upd_other _ _ _ _ hi
      have hus : (LS.mk s.words (upd s.hole (k + 1) 0)).hole (k + 1) = 0 := upd_same _ _ _
      have hfree : ∀ b, FreeB ⟨s.words, upd s.hole (k + 1) 0⟩ b → ∃ i, 1 ≤ i ∧ i ≤ 6 ∧ i ≠ k + 1 ∧ s.hole i ≠ 0 ∧ inS i (s.hole i) b := by
        rintro b ⟨i, hi1, hi6, hne, hin⟩
        have e : i ≠ k + 1 := fun e => hne (by rw [e]; exact hus)
        exact ⟨i, hi1, hi6, e, by rw [hup i e] at hne; exact hne, by rw [hup i e] at hin; exact hin⟩
      refine ⟨⟨?_, ?_⟩, Nat.le_refl _, ?_, ?_⟩
      · intro i j hi1 hi6 hj1 hj6 hij hni hnj b hbi hbj
        have ei : i ≠ k + 1 := fun e => hni (by rw [e]; exact hus)
        have ej : j ≠ k + 1 := fun e => hnj (by rw [e]; exact hus)
        rw [hup i ei] at hni hbi
        rw [hup j ej] at hnj hbj
        exact h.apart i j hi1 hi6 hj1 hj6 hij hni hnj b hbi hbj
      · intro b hb
        obtain ⟨i, hi1, hi6, _, hn, hin⟩ := hfree b hb
        exact h.within b ⟨i, hi1, hi6, hn, hin⟩
      · intro b
        show (FreeB ⟨s.words, upd s.hole (k + 1) 0⟩ b ∨ inS (k + 1) (s.hole (k + 1)) b) ↔ (FreeB s b ∨ (64 * s.words ≤ b ∧ b < 64 * s.words))
        constructor
        · rintro (hb | hb)
          · obtain ⟨i, hi1, hi6, _, hn, hin⟩ := hfree b hb
            exact .inl ⟨i, hi1, hi6, hn, hin⟩
          · exact .inl ⟨k + 1, by omega, hk, h0, hb⟩
        · rintro (⟨i, hi1, hi6, hn, hin⟩ | hb)
          · by_cases e : i = k + 1
            · subst e; exact .inr hin
            · exact .inl ⟨i, hi1, hi6, by rw [hup i e]; exact hn, by rw [hup i e]; exact hin⟩
          · omega
      · intro b hb hin
        obtain ⟨i, hi1, hi6, e, hn, hin'⟩ := hfree b hb
        exact h.apart i (k + 1) hi1 hi6 (by omega) hk e hn h0 b hin' hin
/-- a bit in use. -/
def UsedB (s : LS) (b : Nat) : Prop := b < 64 * s.words ∧ ¬ FreeB s b
theorem room_used {k : Nat} {s : LS} (hk : k ≤ 6) (h : LInv s) : LInv (roomF k s).2 ∧ (∀ b, inS k (roomF k s).1 b → UsedB (roomF k s).2 b ∧ ¬ UsedB s b) ∧ (∀ b, UsedB s b → UsedB (roomF k s).2 b) := by
  obtain ⟨i1, i2, i3, i4⟩ := room_inv k s hk h
  refine ⟨i1, fun b hb => ⟨⟨?_, fun hf => i4 b hf hb⟩, fun hu => ?_⟩, fun b hb => ⟨by have := hb.1; omega, fun hf => ?_⟩⟩
  · rcases (i3 b).1 (.inr hb) with hs | hs
    · have := h.within b hs; omega
    · exact hs.2
  · rcases (i3 b).1 (.inr hb) with hs | hs
    · exact hu.2 hs
    · have := hu.1; omega
  · rcases (i3 b).1 (.inl hf) with hs | hs
    · exact hb.2 hs
    · have := hb.1; omega
theorem linv0 : LInv ⟨0, fun _ => 0⟩ := ⟨fun _ _ _ _ _ _ _ h => absurd rfl h, fun b ⟨_, _, _, h, _⟩ => absurd rfl h⟩
end Go.Proofs.YtfgebmmnlneciaaDoor
