/- Pure facts on nodes that are ok: what is within is ok, words and cost alone and within. No Go text. -/
import Derived.Test.YtabipkpgmlmkcaaNdCost
namespace Go.Proofs.Ytabipkpgmlmkcaa
open Go.RowKit
theorem ok_up : ∀ (d : Nat) (n : Nd), okN d n = true → okN (d + 1) n = true
  | 0, n, h => by
    have hf := (ok_kids h).1
    simp only [okN, Bool.and_eq_true, decide_eq_true_eq] at h
    exact (none_words (d := 1) hf h.2).1
  | d + 1, n, h => by
    have hk := ok_kids h
    have h' := h
    simp only [okN, Bool.and_eq_true, Bool.or_eq_true, decide_eq_true_eq, List.all_eq_true] at h'
    show (formN n && (decide (n.kind = 0) || (ptrsL n).all (okN (d + 1)))) = true
    simp only [Bool.and_eq_true, Bool.or_eq_true, decide_eq_true_eq, List.all_eq_true]
    exact ⟨h'.1, .inr fun p hp => ok_up d p (hk.2 p hp)⟩
theorem map_congr_sum {l : List Nd} {f g : Nd → Nat} (h : ∀ p ∈ l, f p = g p) : (l.map f).sum = (l.map g).sum := by rw [List.map_congr_left h]
theorem words_up : ∀ (d : Nat) (n : Nd), okN d n = true → wordsN (d + 1) n = wordsN d n
  | 0, n, h => by
    have hf := (ok_kids h).1
    simp only [okN, Bool.and_eq_true, decide_eq_true_eq] at h
    rw [(none_words (d := 1) hf h.2).2]; rfl
  | d + 1, n, h => by
    have hk := (ok_kids h).2
    rw [words_kids (ok_up _ _ h), words_kids h]
    exact congrArg (ownN n + ·) (map_congr_sum fun p hp => words_up d p (hk p hp))
theorem cost_up : ∀ (d : Nat) (n : Nd), okN d n = true → costN (d + 1) n = costN d n
  | 0, n, h => by
    have hw := words_up 0 n h
    have h1 := words_kids h
    have hc := cost_kids (ok_up _ _ h)
    have hc0 := cost_kids h
    have hp : ptrsL n = [] := by
      have hl := ptrs_own n
      have : wordsN 0 n = 0 := rfl
      exact List.eq_nil_of_length_eq_zero (by omega)
    rw [hc, hc0, hp]
  | d + 1, n, h => by
    have hk := (ok_kids h).2
    rw [cost_kids (ok_up _ _ h), cost_kids h]
    exact congrArg (lcN n + ·) (map_congr_sum fun p hp => cost_up d p (hk p hp))
theorem node_ok {n : Nd} (h : nodeOk n = true) : okN 8 n = true ∧ wordsN 8 n ≤ 199 := by
  unfold nodeOk at h
  rw [Bool.and_eq_true, decide_eq_true_eq] at h
  exact h
theorem ok_node {n : Nd} (h : okN 8 n = true) (hw : wordsN 8 n ≤ 199) : nodeOk n = true := by
  unfold nodeOk
  rw [h, decide_eq_true hw]; rfl
theorem ok_ptrs {n : Nd} (h : nodeOk n = true) : ∀ p ∈ ptrsL n, nodeOk p = true := by
  obtain ⟨h1, h2⟩ := node_ok h
  intro p hp
  have hk := (ok_kids h1).2 p hp
  refine ok_node (ok_up 7 p hk) ?_
  rw [words_up 7 p hk]
  exact Nat.le_trans (words_mem h1 hp) h2
theorem ok_ptr {n : Nd} (h : nodeOk n = true) : ∀ p ∈ n.ptrs, nodeOk p = true := fun p hp => ok_ptrs h p (List.mem_append_left _ hp)
/-- an item as a node by itself. -/
theorem item_form {n : Nd} (h : formN n = true) : ∀ y ∈ n.items, formN y = true ∧ y.kind = 1 ∧ y.items = [] := by
  intro y hy
  have hi : itemsB n.items = true := by
    rcases form_cases h with hc | hc | hc
    · rw [nil_of_len hc.2.2.2.2.2] at hy; cases hy
    · rw [nil_of_len hc.2.2.2.2] at hy; cases hy
    · rcases hc.2.2 with hc | hc | hc
      · rw [nil_of_len hc.2.2.2.2] at hy; cases hy
      · rw [nil_of_len hc.2.2.2] at hy; cases hy
      · exact hc.2.2.2.2
  have h1 := (List.all_eq_true.1 hi) y hy
  unfold itemB at h1
  rw [Bool.and_eq_true] at h1
  have h2 := h1.1
  refine ⟨?_, ?_, ?_⟩
  · unfold formN strN
    rw [h2]; simp
  · unfold structB at h2; simp only [decide_eq_true_eq] at h2; exact h2.1
  · unfold structB at h2; simp only [decide_eq_true_eq] at h2; exact nil_of_len (by omega)
theorem own_item {n y : Nd} (hy : y ∈ n.items) (hk : y.kind = 1) (hi : y.items = []) : ownN y ≤ ownN n := by
  have h1 : ownB y ≤ (n.items.map ownB).sum := sum_mem hy
  have h2 : ownN y = ownB y := by unfold ownN; rw [hi, if_neg (by omega)]; simp
  rw [h2]
  unfold ownN
  omega
theorem ptrs_sub {n y : Nd} (hy : y ∈ n.items) (f : Nd → Nat) : (y.ptrs.map f).sum ≤ ((ptrsL n).map f).sum := by
  have h1 : (y.ptrs.map f).sum ≤ ((n.items.flatMap Nd.ptrs).map f).sum := by
    generalize n.items = l at hy
    induction l with
    | nil => cases hy
    | cons a t ih =>
      rw [List.flatMap_cons, List.map_append, List.sum_append]
      rcases List.mem_cons.1 hy with rfl | h
      · omega
      · have := ih h; omega
  unfold ptrsL
  rw [List.map_append, List.sum_append]
  omega
theorem ok_item {n : Nd} (h : nodeOk n = true) : ∀ y ∈ n.items, nodeOk y = true := by
  obtain ⟨h1, h2⟩ := node_ok h
  intro y hy
  obtain ⟨hf, hk⟩ := ok_kids h1
  obtain ⟨hfy, hky, hiy⟩ := item_form hf y hy
  have hp : ptrsL y = y.ptrs := by unfold ptrsL; rw [hiy]; simp
  have hok : okN 8 y = true := by
    show (formN y && (decide (y.kind = 0) || (ptrsL y).all (okN 7))) = true
    rw [hfy, Bool.true_and, hp]
    have : y.ptrs.all (okN 7) = true := List.all_eq_true.2 fun p hpp => hk p (List.mem_append_right _ (List.mem_flatMap.2 ⟨y, hy, hpp⟩))
    rw [this, Bool.or_true]
  refine ok_node hok (Nat.le_trans ?_ h2)
  rw [words_kids hok, words_kids h1, hp]
  have e1 := own_item hy hky hiy
  have e2 := ptrs_sub hy (wordsN 7)
  show ownN y + (y.ptrs.map (wordsN 7)).sum ≤ ownN n + ((ptrsL n).map (wordsN 7)).sum
  omega
/-- a struct of one pointer. -/
def oneN (n : Nd) : Nd := .mk 1 ByteArray.empty [n] 0 0 []
theorem one_ptrs (n : Nd) : ptrsL (oneN n) = [n] := by simp [ptrsL, oneN, Nd.ptrs, Nd.items]
theorem one_own (n : Nd) : ownN (oneN n) = 1 := by simp [ownN, ownB, oneN, Nd.ptrs, Nd.items, Nd.kind, Nd.data]
theorem one_lc (n : Nd) : lcN (oneN n) = 1 := by unfold lcN; rw [one_own, if_neg (by simp [oneN, Nd.kind])]
theorem one_words {n : Nd} (h : nodeOk n = true) (hx : nodeOk (oneN n) = true) : nodeWords (oneN n) = nodeWords n + 1 := by
  have h8 := (node_ok hx).1
  have h7 := (ok_kids h8).2 n (by rw [one_ptrs]; exact List.mem_singleton.2 rfl)
  unfold nodeWords
  rw [if_pos h, if_pos hx, words_kids h8, one_ptrs, one_own, words_up 7 n h7]
  simp; omega
theorem one_cost {n : Nd} (h : nodeOk n = true) (hx : nodeOk (oneN n) = true) : nodeCost (oneN n) = nodeCost n + 1 := by
  have h8 := (node_ok hx).1
  have h7 := (ok_kids h8).2 n (by rw [one_ptrs]; exact List.mem_singleton.2 rfl)
  unfold nodeCost
  rw [if_pos h, if_pos hx, cost_kids h8, one_ptrs, one_lc, cost_up 7 n h7]
  simp; omega
theorem lc_own {n : Nd} (h : formN n = true) : ownN n ≤ lcN n := by
  have h0 := lcN_eq h
  obtain ⟨h1, h2⟩ := form_count h
  split at h0
  · rename_i hk
    unfold lcZ at h0
    split at h0
    · rename_i hs
      have : ownN n = 0 := by
        rcases form_cases h with hc | hc | hc
        · omega
        · omega
        · rcases hc.2.2 with hc | hc | hc
          · have hb := hc.2.2.1
            rw [hs] at hb
            have hd : n.data.size = 0 := by
              simp [bitsB, bz] at hb
              rw [hb]; rfl
            unfold ownN ownB
            rw [nil_of_len hc.2.2.2.1, nil_of_len hc.2.2.2.2, hd, if_neg (by omega)]
            rfl
          · omega
          · omega
      omega
    · split at h0 <;> omega
  · omega
theorem cost_ge : ∀ (d : Nat) (n : Nd), okN d n = true → wordsN d n ≤ costN d n
  | 0, _, _ => Nat.le_refl _
  | d + 1, n, h => by
    obtain ⟨hf, hk⟩ := ok_kids h
    have h1 := lc_own hf
    have h2 : ((ptrsL n).map (wordsN d)).sum ≤ ((ptrsL n).map (costN d)).sum := sum_le _ _ _ (fun p hp => cost_ge d p (hk p hp))
    show ownN n + _ ≤ lcN n + _
    omega
theorem cost_words {n : Nd} (h : nodeOk n = true) : nodeWords n ≤ nodeCost n := by
  unfold nodeWords nodeCost
  rw [if_pos h, if_pos h]
  exact cost_ge 8 n (node_ok h).1
end Go.Proofs.Ytabipkpgmlmkcaa
