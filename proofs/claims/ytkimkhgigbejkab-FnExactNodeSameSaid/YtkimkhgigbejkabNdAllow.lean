/- The program's measure of a node: whether it is ok, and its words. -/
import Derived.Test.YtkimkhgigbejkabNdPtrs
namespace Go.Proofs.Ytkimkhgigbejkab
open Go.RowKit
/-- a node is ok, so many deep at most. -/
def okN : Nat → Nd → Bool
  | 0, n => formN n && decide (n.kind = 0)
  | d + 1, n => formN n && (decide (n.kind = 0) || (ptrsL n).all (okN d))
/-- how many words a node takes that is ok, so many deep at most. -/
def wordsN : Nat → Nd → Nat
  | 0, _ => 0
  | d + 1, n => ownN n + ((ptrsL n).map (wordsN d)).sum
theorem ok_form {d : Nat} {n : Nd} (h : formN n = false) : okN d n = false := by
  cases d <;> simp [okN, h]
theorem nil_of_len {α : Type} {l : List α} (h : l.length = 0) : l = [] := List.eq_nil_of_length_eq_zero h
theorem none_words {d : Nat} {n : Nd} (h : formN n = true) (hk : n.kind = 0) : okN d n = true ∧ wordsN d n = 0 := by
  rcases form_cases h with hc | hc | hc
  · obtain ⟨_, h1, h2, _, _, h5⟩ := hc
    have e1 : ptrsL n = [] := by unfold ptrsL; rw [nil_of_len h2, nil_of_len h5]; rfl
    have e2 : ownN n = 0 := by unfold ownN ownB; rw [h1, h2, nil_of_len h5, hk]; rfl
    cases d
    · exact ⟨by simp [okN, h, hk], rfl⟩
    · exact ⟨by simp [okN, h, hk], by simp [wordsN, e1, e2]⟩
  · omega
  · omega
theorem cell_single {w : World} {b : Nat} {v : Value} {T : TypeId} {p : Addr} {n : Nd} {h : Hd} (hb : w.heap[b]? = some (.cells #[v] T (0, 0))) (hc : NdCell w p n h) : p.block ≠ b := by
  intro e
  have h1 := hc.c1
  rw [e, cell_of_row _ _ _ _ _ _ hb] at h1
  simp at h1
theorem NdsAt.keeps {w w' : World} {S : Nat → Prop} {m b : Nat} {A : Option Addr} {l : List Nd} {v : Value} {T : TypeId} (h : NdsAt w S m A l) (hb : w.heap[b]? = some (.cells #[v] T (0, 0))) (hk : Keeps w.heap.size b w w') : NdsAt w' S m A l :=
  NdsAt.map (fun _ h => h) (fun p _ _ _ hc => hc.block (hk.block _ hc.lt (cell_single hb hc))) _ _ _ h
theorem NdAt.keeps {w w' : World} {S : Nat → Prop} {m b : Nat} {n : Nd} {h : Hd} {v : Value} {T : TypeId} (hn : NdAt w S m n h) (hb : w.heap[b]? = some (.cells #[v] T (0, 0))) (hk : Keeps w.heap.size b w w') : NdAt w' S m n h :=
  ⟨hn.1, hn.2.1.keeps hb hk, hn.2.2.keeps hb hk⟩
theorem totL_eq {w : World} {S : Nat → Prop} : ∀ (m : Nat) (A : Option Addr) (l : List Nd), NdsAt w S m A l → totL (m + 1) l = totL m l
  | 0, A, l, h => by rw [h.zero]; rfl
  | m + 1, A, l, h => by
    rw [totL_succ (m + 1), totL_succ m]
    congr 1
    apply List.map_congr_left
    intro n hn
    obtain ⟨hd, h1⟩ := h.mem n hn
    unfold totN
    rw [totL_eq m _ _ h1.2.1, totL_eq m _ _ h1.2.2]
theorem flat_tot (l : List Nd) (m : Nat) : totL (m + 1) (l.flatMap Nd.ptrs) = (l.map fun y => totL (m + 1) y.ptrs).sum := by
  induction l with
  | nil => rfl
  | cons a t ih => rw [List.flatMap_cons, totL_succ, List.map_append, List.sum_append, ← totL_succ, ← totL_succ, ih]; rfl
theorem tot_ptrs {w : World} {S : Nat → Prop} {m : Nat} {n : Nd} {h : Hd} (hn : NdAt w S m n h) : totL m (ptrsL n) ≤ totN m n := by
  cases m with
  | zero => exact Nat.zero_le _
  | succ m =>
    have h1 : totL (m + 1) (ptrsL n) = totL (m + 1) n.ptrs + (n.items.map fun y => totL (m + 1) y.ptrs).sum := by
      unfold ptrsL
      rw [totL_succ, List.map_append, List.sum_append, ← totL_succ, ← totL_succ, flat_tot]
    have h2 : (n.items.map fun y => totL (m + 1) y.ptrs).sum ≤ totL (m + 1) n.items := by
      rw [totL_succ]
      refine sum_le _ _ _ fun y hy => ?_
      obtain ⟨hd, h3⟩ := hn.2.2.mem y hy
      rw [totL_eq m _ _ h3.2.1]
      unfold totN
      omega
    rw [h1]
    unfold totN
    omega
theorem ptrs_len {w : World} {S : Nat → Prop} {m : Nat} {n : Nd} {h : Hd} (hn : NdAt w S m n h) : (ptrsL n).length ≤ totL m (ptrsL n) := by
  cases m with
  | zero =>
    unfold ptrsL
    rw [hn.2.1.zero, hn.2.2.zero]
    simp
  | succ m => exact totL_len m _
theorem own_bound {w : World} {S : Nat → Prop} {m : Nat} {n : Nd} {h : Hd} (hn : NdAt w S m n h) (ht : totN m n ≤ 2000000) : ownN n ≤ 3000000 := by
  have h1 : ownB n ≤ n.data.size + n.ptrs.length := by unfold ownB; omega
  have h2 := own_sum hn.2.2
  have h3 := len_tot hn.2.1
  unfold ownN
  unfold totN at ht
  split <;> omega
theorem own_le_words {d : Nat} {n : Nd} : ownN n ≤ wordsN (d + 1) n := by simp [wordsN]
end Go.Proofs.Ytkimkhgigbejkab
