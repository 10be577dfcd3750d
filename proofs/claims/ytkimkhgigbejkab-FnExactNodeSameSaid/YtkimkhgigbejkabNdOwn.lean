/- How many words a node takes by itself. -/
import Derived.Test.YtkimkhgigbejkabNdHas
namespace Go.Proofs.Ytkimkhgigbejkab
open Go.RowKit
/-- words of bytes, and pointers. -/
def ownB (n : Nd) : Nat := (n.data.size + 7) / 8 + n.ptrs.length
/-- how many words a node takes, without what is within. -/
def ownN (n : Nd) : Nat := ownB n + (if n.kind = 2 ∧ n.size = 7 then 1 else 0) + (n.items.map ownB).sum
theorem ownB_tot (m : Nat) (n : Nd) (w : World) (S : Nat → Prop) (h : Hd) (hn : NdAt w S m n h) : ownB n ≤ n.data.size + totL m n.ptrs + 1 := by
  have : n.ptrs.length ≤ totL m n.ptrs := by
    cases m with
    | zero => rw [hn.2.1.zero]; simp
    | succ m => exact totL_len m _
  unfold ownB; omega
theorem own_take (l : List Nd) (k : Nat) (h : k < l.length) : ((l.take (k + 1)).map ownB).sum = ((l.take k).map ownB).sum + ownB l[k] := sum_take_succ l ownB k h
/-- which forms there are. -/
theorem form_cases {n : Nd} (h : formN n = true) :
    (n.kind = 0 ∧ n.data.size = 0 ∧ n.ptrs.length = 0 ∧ n.size = 0 ∧ n.count = 0 ∧ n.items.length = 0) ∨
    (n.kind = 1 ∧ (n.data.size : Int) % 8 = 0 ∧ n.size = 0 ∧ n.count = 0 ∧ n.items.length = 0) ∨
    (n.kind = 2 ∧ (0 ≤ n.count ∧ n.count < 12801) ∧ ((0 ≤ n.size ∧ n.size ≤ 5 ∧ bitsB n.data (n.count * bz n.size) = true ∧ n.ptrs.length = 0 ∧ n.items.length = 0) ∨ (n.size = 6 ∧ n.data.size = 0 ∧ (n.ptrs.length : Int) = n.count ∧ n.items.length = 0) ∨ (n.size = 7 ∧ n.data.size = 0 ∧ n.ptrs.length = 0 ∧ (n.items.length : Int) = n.count ∧ itemsB n.items = true))) := by
  unfold formN noneN strN listN at h
  rw [Bool.or_eq_true, Bool.or_eq_true] at h
  rcases h with h | h | h
  · left; simpa [noneB, and_assoc] using h
  · right; left; simpa [structB] using h
  · right; right
    unfold listB at h
    rw [Bool.and_eq_true, Bool.and_eq_true] at h
    obtain ⟨h1, h2, h3⟩ := h
    refine ⟨by simpa using h1, by simpa [wiB] using h2, ?_⟩
    split at h3
    · rename_i hs
      left
      refine ⟨hs.1, hs.2, ?_⟩
      simpa using h3
    · split at h3
      · rename_i hs
        right; left
        refine ⟨hs, ?_⟩
        simpa using h3
      · split at h3
        · rename_i hs
          right; right
          refine ⟨hs, ?_⟩
          simpa [and_assoc] using h3
        · cases h3
theorem items_str {l : List Nd} (h : itemsB l = true) : ∀ n ∈ l, n.kind = 1 ∧ (n.data.size : Int) % 8 = 0 ∧ n.items.length = 0 := by
  intro n hn
  have := List.all_eq_true.1 h n hn
  unfold itemB at this
  rw [Bool.and_eq_true] at this
  have h1 := this.1
  simp [structB] at h1
  exact ⟨h1.1, h1.2.1, by simpa using h1.2.2.2.2⟩
theorem form_item {n : Nd} (h : formN n = true) : ∀ x ∈ n.items, x.kind = 1 ∧ (x.data.size : Int) % 8 = 0 ∧ x.items.length = 0 := by
  intro x hx
  have hne : n.items.length ≠ 0 := by
    intro h0
    rw [List.eq_nil_of_length_eq_zero h0] at hx
    cases hx
  rcases form_cases h with h | h | ⟨_, _, h | h | h⟩
  · omega
  · omega
  · omega
  · omega
  · exact items_str h.2.2.2.2 x hx
theorem NdsAt.mem {w : World} {S : Nat → Prop} {m : Nat} {A : Option Addr} {l : List Nd} (h : NdsAt w S (m + 1) A l) : ∀ n ∈ l, ∃ h, NdAt w S m n h := by
  obtain ⟨_, q, rfl, _, hr⟩ := h
  intro n hn
  obtain ⟨r, hr1, rfl⟩ := List.mem_map.1 hn
  exact ⟨r.2, hr r hr1⟩
theorem len_tot {w : World} {S : Nat → Prop} {m : Nat} {A : Option Addr} {l : List Nd} (h : NdsAt w S m A l) : l.length ≤ totL m l := by
  cases m with
  | zero => rw [h.zero]; simp
  | succ m => exact totL_len m l
theorem ownB_le {w : World} {S : Nat → Prop} {m : Nat} {n : Nd} {h : Hd} (hn : NdAt w S m n h) : ownB n ≤ totN m n := by
  have := len_tot hn.2.1
  unfold ownB totN
  omega
theorem sum_le (l : List Nd) (f g : Nd → Nat) (h : ∀ n ∈ l, f n ≤ g n) : (l.map f).sum ≤ (l.map g).sum := by
  induction l with
  | nil => simp
  | cons a t ih =>
    have h1 := h a (List.mem_cons_self)
    have h2 := ih (fun n hn => h n (List.mem_cons_of_mem _ hn))
    simp only [List.map_cons, List.sum_cons]
    omega
theorem own_sum {w : World} {S : Nat → Prop} {m : Nat} {A : Option Addr} {l : List Nd} (h : NdsAt w S m A l) : (l.map ownB).sum ≤ totL m l := by
  cases m with
  | zero => rw [h.zero]; simp
  | succ m =>
    rw [totL_succ]
    refine sum_le l _ _ fun n hn => ?_
    obtain ⟨hd, h1⟩ := h.mem n hn
    have := ownB_le h1
    omega
theorem item_small {w : World} {S : Nat → Prop} {m : Nat} {A : Option Addr} {l : List Nd} (h : NdsAt w S m A l) : ∀ n ∈ l, n.data.size ≤ totL m l ∧ n.ptrs.length ≤ totL m l := by
  intro n hn
  cases m with
  | zero => rw [h.zero] at hn; cases hn
  | succ m =>
    obtain ⟨hd, h1⟩ := h.mem n hn
    obtain ⟨k, hk, rfl⟩ := List.mem_iff_getElem.1 hn
    have := totL_at (m := m) hk
    have hl := len_tot h1.2.1
    unfold totN at this
    omega
end Go.Proofs.Ytkimkhgigbejkab
