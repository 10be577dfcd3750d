/- Packing and unpacking as plain facts on words (lists of bytes). No Go text. -/
import Derived.Test.YtgeldgikjcihgaaMath1
namespace Go.Proofs.Ytgeldgikjcihgaa
/-- all noughts. -/
def zerL (l : List UInt8) : Bool := l.all (· == 0)
/-- no nought. -/
def fullL (l : List UInt8) : Bool := l.all (· != 0)
/-- at most one nought. -/
def fewL (l : List UInt8) : Bool := decide ((l.filter (· == 0)).length ≤ 1)
/-- which bytes are not 0, the lowest bit for the first. -/
def maskN : List UInt8 → Nat
  | [] => 0
  | b :: r => (if b = 0 then 0 else 1) + 2 * maskN r
def nzL (l : List UInt8) : List UInt8 := l.filter (· != 0)
/-- how many at the beginning are such, at most 255. -/
def runN (p : List UInt8 → Bool) (r : List (List UInt8)) : Nat := ((r.take 255).takeWhile p).length
theorem runN_le (p) (r : List (List UInt8)) : runN p r ≤ r.length ∧ runN p r ≤ 255 := by
  have h := (List.takeWhile_sublist p (l := r.take 255)).length_le
  rw [List.length_take] at h
  unfold runN
  omega
theorem takeWhile_length (p : List UInt8 → Bool) : ∀ (l : List (List UInt8)) (n : Nat), n ≤ l.length → (∀ j (h : j < l.length), j < n → p l[j] = true) → (n = l.length ∨ ∃ h : n < l.length, p l[n] = false) → (l.takeWhile p).length = n
  | [], n, h, _, _ => by simp at h; simp [h]
  | x :: r, 0, _, _, h => by
    rcases h with h | ⟨_, h⟩
    · simp at h
    · simp at h; simp [List.takeWhile_cons, h]
  | x :: r, n + 1, hl, hp, h => by
    have h0 := hp 0 (by simp) (by omega)
    simp at h0
    rw [List.takeWhile_cons, if_pos h0, List.length_cons, takeWhile_length p r n (by simpa using hl) (fun j hj hn => by
      have := hp (j + 1) (by simp; omega) (by omega)
      simpa using this) (by
      rcases h with h | ⟨h1, h⟩
      · left; simpa using h
      · right; exact ⟨by simpa using h1, by simpa using h⟩)]
/-- a loop that counts so ends there. -/
theorem runN_eq {p : List UInt8 → Bool} {r : List (List UInt8)} {n : Nat} (h1 : n ≤ r.length) (h2 : n ≤ 255) (h3 : ∀ j (h : j < r.length), j < n → p r[j] = true) (h4 : n = 255 ∨ n = r.length ∨ ∃ h : n < r.length, p r[n] = false) : runN p r = n := by
  unfold runN
  refine takeWhile_length p _ n (by rw [List.length_take]; omega) (fun j hj hn => ?_) ?_
  · rw [List.getElem_take]; exact h3 j _ hn
  · by_cases hn : n = (r.take 255).length
    · exact .inl hn
    · rw [List.length_take] at hn
      refine .inr ⟨by rw [List.length_take]; omega, ?_⟩
      rw [List.getElem_take]
      rcases h4 with h | h | ⟨_, h⟩
      · omega
      · omega
      · exact h
/-- words packed. -/
def packW : List (List UInt8) → List UInt8
  | [] => []
  | w :: r =>
    if zerL w then 0 :: UInt8.ofNat (runN zerL r) :: packW (r.drop (runN zerL r))
    else if fullL w then 255 :: (w ++ (UInt8.ofNat (runN fewL r) :: ((r.take (runN fewL r)).flatten ++ packW (r.drop (runN fewL r)))))
    else UInt8.ofNat (maskN w) :: (nzL w ++ packW r)
termination_by ws => ws.length
decreasing_by all_goals (simp; try omega)
/-- the word that has some bytes where a tag tells so: how many bytes, the tag, the bytes. -/
def spreadN : Nat → Nat → List UInt8 → List UInt8
  | 0, _, _ => []
  | k + 1, t, bs => if t % 2 = 0 then 0 :: spreadN k (t / 2) bs else bs.headD 0 :: spreadN k (t / 2) bs.tail
/-- how many bits are 1. -/
def popN : Nat → Nat → Nat
  | 0, _ => 0
  | k + 1, t => t % 2 + popN k (t / 2)
theorem spreadN_length : ∀ (k t : Nat) (bs : List UInt8), (spreadN k t bs).length = k
  | 0, _, _ => rfl
  | k + 1, t, bs => by rw [spreadN]; split <;> simp [spreadN_length k]
/-- one step of unpacking: what is written, and what is left; none if bytes are missing. -/
def stepU : List UInt8 → Option (List UInt8 × List UInt8)
  | [] => none
  | t :: r =>
    if r.length < popN 8 t.toNat then none else
    if t = 0 then (if r.length = 0 then none else some (List.replicate (8 * ((r.headD 0).toNat + 1)) 0, r.tail))
    else if t = 255 then (if r.length < 9 + 8 * ((r.drop 8).headD 0).toNat then none else some (r.take 8 ++ (r.drop 9).take (8 * ((r.drop 8).headD 0).toNat), (r.drop 9).drop (8 * ((r.drop 8).headD 0).toNat)))
    else some (spreadN 8 t.toNat (r.take (popN 8 t.toNat)), r.drop (popN 8 t.toNat))
theorem stepU_shorter {l o r : List UInt8} (h : stepU l = some (o, r)) : r.length < l.length := by
  cases l with
  | nil => simp [stepU] at h
  | cons t s =>
    rw [stepU] at h
    split at h
    · cases h
    · split at h
      · split at h
        · cases h
        · simp only [Option.some.injEq, Prod.mk.injEq] at h; obtain ⟨_, rfl⟩ := h; simp; omega
      · split at h
        · split at h
          · cases h
          · simp only [Option.some.injEq, Prod.mk.injEq] at h
            obtain ⟨_, rfl⟩ := h
            simp; omega
        · simp only [Option.some.injEq, Prod.mk.injEq] at h
          obtain ⟨_, rfl⟩ := h
          simp; omega
/-- bytes unpacked, with so many steps at most. -/
def unF : Nat → List UInt8 → Option (List UInt8)
  | _, [] => some []
  | 0, _ => none
  | f + 1, t :: r => match stepU (t :: r) with
    | none => none
    | some (o, r') => (unF f r').map (o ++ ·)
def unW (l : List UInt8) : Option (List UInt8) := unF l.length l
theorem unF_more : ∀ (f g : Nat) (l : List UInt8), l.length ≤ f → l.length ≤ g → unF f l = unF g l
  | f, g, [], _, _ => by cases f <;> cases g <;> rfl
  | 0, _, t :: r, h, _ => by simp at h
  | _, 0, t :: r, _, h => by simp at h
  | f + 1, g + 1, t :: r, hf, hg => by
    rw [unF, unF]
    cases hs : stepU (t :: r) with
    | none => rfl
    | some x =>
      obtain ⟨o, r'⟩ := x
      have hsh := stepU_shorter hs
      simp only
      rw [unF_more f g r' (by simp at hsh hf; omega) (by simp at hsh hg; omega)]
theorem unW_nil : unW [] = some [] := rfl
theorem unW_step {l o r : List UInt8} (h : stepU l = some (o, r)) : unW l = (unW r).map (o ++ ·) := by
  cases l with
  | nil => simp [stepU] at h
  | cons t s =>
    have hsh := stepU_shorter h
    rw [unW, List.length_cons, unF, h]
    simp only
    rw [unF_more s.length r.length r (by simp at hsh; omega) (Nat.le_refl _)]
    rfl
theorem unW_bad {l : List UInt8} (h0 : l ≠ []) (h : stepU l = none) : unW l = none := by
  cases l with
  | nil => exact absurd rfl h0
  | cons t s => rw [unW, List.length_cons, unF, h]
theorem stepU_more {l o r : List UInt8} (t : List UInt8) (h : stepU l = some (o, r)) : stepU (l ++ t) = some (o, r ++ t) := by
  cases l with
  | nil => simp [stepU] at h
  | cons x s =>
    rw [stepU] at h
    rw [List.cons_append, stepU]
    split at h
    · cases h
    · rename_i hlen
      rw [if_neg (by simp; omega)]
      split at h
      · rename_i h0
        rw [if_pos h0]
        cases s with
        | nil => simp at h
        | cons c s' =>
          simp only [List.length_cons, List.headD_cons, List.tail_cons, List.cons_append] at h ⊢
          rw [if_neg (by omega)] at h ⊢
          simp only [Option.some.injEq, Prod.mk.injEq] at h ⊢
          obtain ⟨rfl, rfl⟩ := h
          exact ⟨rfl, rfl⟩
      · rename_i h0
        rw [if_neg h0]
        split at h
        · rename_i h255
          rw [if_pos h255]
          split at h
          · cases h
          · rename_i hl
            have e8 : ((s ++ t).drop 8).headD 0 = (s.drop 8).headD 0 := by
              rw [List.drop_append_of_le_length (by omega), List.drop_eq_getElem_cons (show 8 < s.length by omega)]
              rfl
            rw [e8]
            generalize ((s.drop 8).headD 0).toNat = c at hl h ⊢
            rw [if_neg (by simp; omega), List.take_append_of_le_length (by omega), List.drop_append_of_le_length (by omega), List.take_append_of_le_length (by simp; omega), List.drop_append_of_le_length (by simp; omega)]
            simp only [Option.some.injEq, Prod.mk.injEq] at h ⊢
            obtain ⟨rfl, rfl⟩ := h
            exact ⟨rfl, rfl⟩
        · rename_i h255
          rw [if_neg h255]
          simp only [Option.some.injEq, Prod.mk.injEq] at h ⊢
          obtain ⟨rfl, rfl⟩ := h
          rw [List.take_append_of_le_length (by omega), List.drop_append_of_le_length (by omega)]
          exact ⟨rfl, rfl⟩
/-- bytes behind. -/
theorem unF_app (t : List UInt8) : ∀ (f : Nat) (l o : List UInt8), l.length ≤ f → unW l = some o → unW (l ++ t) = (unW t).map (o ++ ·)
  | f, [], o, _, h => by
    rw [unW_nil] at h
    cases h
    simp
  | 0, x :: s, _, h, _ => by simp at h
  | f + 1, x :: s, o, hf, h => by
    cases hs : stepU (x :: s) with
    | none => rw [unW_bad (by simp) hs] at h; cases h
    | some y =>
      obtain ⟨o1, r⟩ := y
      have hsh := stepU_shorter hs
      rw [unW_step hs] at h
      rw [unW_step (stepU_more t hs)]
      cases hr : unW r with
      | none => rw [hr] at h; cases h
      | some o2 =>
        rw [hr] at h
        simp at h
        rw [unF_app t f r o2 (by simp at hsh hf; omega) hr]
        subst h
        cases unW t <;> simp
theorem unW_app {l o : List UInt8} (t : List UInt8) (h : unW l = some o) : unW (l ++ t) = (unW t).map (o ++ ·) := unF_app t l.length l o (Nat.le_refl _) h
end Go.Proofs.Ytgeldgikjcihgaa
