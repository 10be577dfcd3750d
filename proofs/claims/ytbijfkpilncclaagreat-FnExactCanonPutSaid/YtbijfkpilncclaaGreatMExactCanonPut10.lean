/- Texts of the proof of the law FnExactCanonPut, side by side: part 10. -/
import Derived.Deep.QuietTactic
import Derived.BigQuiet
import Derived.Test.YtbijfkpilncclaaGreatMExactCanonPut00
import Derived.Test.YtbijfkpilncclaaGreatMExactCanonPut01
import Derived.Test.YtbijfkpilncclaaGreatMExactCanonPut02
import Derived.Test.YtbijfkpilncclaaGreatMExactCanonPut03
import Derived.Test.YtbijfkpilncclaaGreatMExactCanonPut04
import Derived.Test.YtbijfkpilncclaaGreatMExactCanonPut05
import Derived.Test.YtbijfkpilncclaaGreatMExactCanonPut06
import Derived.Test.YtbijfkpilncclaaGreatMExactCanonPut07
import Derived.Test.YtbijfkpilncclaaGreatMExactCanonPut08
import Derived.Test.YtbijfkpilncclaaGreatMExactCanonPut09
/- What reading a node costs: the program's word. -/
namespace Go.Proofs.YtbijfkpilncclaaGreat
open Go.RowKit
def lcZ (s c : Int) (v : Int) : Int := if s = 0 then c else if s = 7 ∧ v = 1 then 1 + c else v
/-- what a node costs by itself. -/
def lcN (n : Nd) : Nat := if n.kind = 2 then (lcZ n.size n.count (ownN n : Nat)).toNat else ownN n
def costN : Nat → Nd → Nat
  | 0, _ => 0
  | d + 1, n => lcN n + ((ptrsL n).map (costN d)).sum
theorem form_count {n : Nd} (h : formN n = true) : 0 ≤ n.count ∧ n.count ≤ 12800 := by
  rcases form_cases h with hc | hc | hc <;> omega
theorem lcZ_bd {s c v : Int} (h0 : 0 ≤ c) (h1 : c ≤ 12800) (h2 : 0 ≤ v) : 0 ≤ lcZ s c v ∧ lcZ s c v ≤ v + 12801 := by
  unfold lcZ
  split
  · omega
  · split <;> omega
theorem lcN_eq {n : Nd} (h : formN n = true) : ((lcN n : Nat) : Int) = if n.kind = 2 then lcZ n.size n.count (ownN n : Nat) else (ownN n : Nat) := by
  obtain ⟨h1, h2⟩ := form_count h
  have := lcZ_bd (s := n.size) h1 h2 (show (0 : Int) ≤ (ownN n : Nat) by omega)
  unfold lcN
  split <;> omega
theorem lcN_le {n : Nd} (h : formN n = true) : lcN n ≤ ownN n + 12801 := by
  have h0 := lcN_eq h
  obtain ⟨h1, h2⟩ := form_count h
  have := lcZ_bd (s := n.size) h1 h2 (show (0 : Int) ≤ (ownN n : Nat) by omega)
  split at h0 <;> omega
theorem sum_leL (l : List Nd) (f g : Nd → Nat) (h : ∀ n ∈ l, f n ≤ g n) : (l.map f).sum ≤ (l.map g).sum := sum_le l f g h
theorem sum_mem {l : List Nd} {f : Nd → Nat} {n : Nd} (h : n ∈ l) : f n ≤ (l.map f).sum := by
  induction l with
  | nil => cases h
  | cons a t ih =>
    simp only [List.map_cons, List.sum_cons]
    rcases List.mem_cons.1 h with rfl | h
    · omega
    · have := ih h; omega
theorem ptrs_own (n : Nd) : (ptrsL n).length ≤ ownN n := by
  have h1 : n.ptrs.length ≤ ownB n := by unfold ownB; omega
  have h2 : (n.items.map fun y => y.ptrs.length).sum ≤ (n.items.map ownB).sum := sum_le _ _ _ (fun y _ => by unfold ownB; omega)
  unfold ptrsL ownN
  rw [List.length_append, ptrsL_sum]
  omega
theorem ok_kids {d : Nat} {n : Nd} (h : okN d n = true) : formN n = true ∧ ∀ p ∈ ptrsL n, okN (d - 1) p = true := by
  cases d with
  | zero =>
    simp only [okN, Bool.and_eq_true, decide_eq_true_eq] at h
    refine ⟨h.1, fun p hp => ?_⟩
    have h1 : ptrsL n = [] := by
      rcases form_cases h.1 with hc | hc | hc
      · unfold ptrsL; rw [nil_of_len hc.2.2.1, nil_of_len hc.2.2.2.2.2]; rfl
      · omega
      · omega
    rw [h1] at hp; cases hp
  | succ d =>
    simp only [okN, Bool.and_eq_true, Bool.or_eq_true, decide_eq_true_eq, List.all_eq_true] at h
    refine ⟨h.1, fun p hp => ?_⟩
    rcases h.2 with hk | hk
    · have h1 : ptrsL n = [] := by
        rcases form_cases h.1 with hc | hc | hc
        · unfold ptrsL; rw [nil_of_len hc.2.2.1, nil_of_len hc.2.2.2.2.2]; rfl
        · omega
        · omega
      rw [h1] at hp; cases hp
    · exact hk p hp
theorem words_kids {d : Nat} {n : Nd} (h : okN d n = true) : wordsN d n = ownN n + ((ptrsL n).map (wordsN (d - 1))).sum := by
  cases d with
  | zero =>
    simp only [okN, Bool.and_eq_true, decide_eq_true_eq] at h
    have := none_words (d := 1) h.1 h.2
    rw [wordsN] at this
    show 0 = ownN n + _
    have h1 : ptrsL n = [] := by
      rcases form_cases h.1 with hc | hc | hc
      · unfold ptrsL; rw [nil_of_len hc.2.2.1, nil_of_len hc.2.2.2.2.2]; rfl
      · omega
      · omega
    rw [h1]; simp; omega
  | succ d => rfl
theorem cost_kids {d : Nat} {n : Nd} (h : okN d n = true) : costN d n = lcN n + ((ptrsL n).map (costN (d - 1))).sum := by
  cases d with
  | zero =>
    have hw := words_kids h
    simp only [okN, Bool.and_eq_true, decide_eq_true_eq] at h
    have h1 : ptrsL n = [] := by
      rcases form_cases h.1 with hc | hc | hc
      · unfold ptrsL; rw [nil_of_len hc.2.2.1, nil_of_len hc.2.2.2.2.2]; rfl
      · omega
      · omega
    have h2 : lcN n = 0 := by
      unfold lcN
      rw [if_neg (by omega)]
      simp only [wordsN] at hw
      omega
    rw [h1, h2]; rfl
  | succ d => rfl
/-- a cost is not much more than the words. -/
theorem cost_le : ∀ (d : Nat) (n : Nd), okN d n = true → costN d n ≤ 13000 + 13001 * wordsN d n := by
  intro d
  induction d with
  | zero => intro n h; exact Nat.zero_le _
  | succ d ih =>
    intro n h
    obtain ⟨hf, hk⟩ := ok_kids h
    have h1 := lcN_le hf
    have h2 : ((ptrsL n).map (costN d)).sum ≤ ((ptrsL n).map fun p => 13000 + 13001 * wordsN d p).sum := sum_le _ _ _ (fun p hp => ih p (hk p hp))
    have h3 : ∀ l : List Nd, (l.map fun p => 13000 + 13001 * wordsN d p).sum = 13000 * l.length + 13001 * (l.map (wordsN d)).sum := by
      intro l
      induction l with
      | nil => rfl
      | cons a t ih => simp only [List.map_cons, List.sum_cons, List.length_cons, ih]; omega
    rw [h3] at h2
    have h4 := ptrs_own n
    show lcN n + _ ≤ 13000 + 13001 * (ownN n + _)
    omega
theorem words_mem {d : Nat} {n p : Nd} (h : okN d n = true) (hp : p ∈ ptrsL n) : wordsN (d - 1) p ≤ wordsN d n := by
  rw [words_kids h]
  have := sum_mem (f := wordsN (d - 1)) hp
  omega
def nodeCost (n : Nd) : Nat := if nodeOk n then costN 8 n else 0
end Go.Proofs.YtbijfkpilncclaaGreat

/- Pure facts on nodes that are ok: what is within is ok, words and cost alone and within. No Go text. -/
namespace Go.Proofs.YtbijfkpilncclaaGreat
open Go.RowKit
theorem ok_up : ∀ (d : Nat) (n : Nd), okN d n = true → okN (d + 1) n = true
  | 0, n, h => by
    have hf := (ok_kids h).1
    simp only [okN, Bool.and_eq_true, decide_eq_true_eq] at h
    exact (none_words (d := 1) hf h.2).1
  | d + 1, n, h => by
    have hk := ok_kids h
    have h' := h
    simp only [okN, Bool.and_eq_true, Bool.or_eq_true, decide_eq_true_eq, List.all_eq_true] at h'
    show (formN n && (decide (n.kind = 0) || (ptrsL n).all (okN (d + 1)))) = true
    simp only [Bool.and_eq_true, Bool.or_eq_true, decide_eq_true_eq, List.all_eq_true]
    exact ⟨h'.1, .inr fun p hp => ok_up d p (hk.2 p hp)⟩
theorem map_congr_sum {l : List Nd} {f g : Nd → Nat} (h : ∀ p ∈ l, f p = g p) : (l.map f).sum = (l.map g).sum := by rw [List.map_congr_left h]
theorem words_up : ∀ (d : Nat) (n : Nd), okN d n = true → wordsN (d + 1) n = wordsN d n
  | 0, n, h => by
    have hf := (ok_kids h).1
    simp only [okN, Bool.and_eq_true, decide_eq_true_eq] at h
    rw [(none_words (d := 1) hf h.2).2]; rfl
  | d + 1, n, h => by
    have hk := (ok_kids h).2
    rw [words_kids (ok_up _ _ h), words_kids h]
    exact congrArg (ownN n + ·) (map_congr_sum fun p hp => words_up d p (hk p hp))
theorem cost_up : ∀ (d : Nat) (n : Nd), okN d n = true → costN (d + 1) n = costN d n
  | 0, n, h => by
    have hw := words_up 0 n h
    have h1 := words_kids h
    have hc := cost_kids (ok_up _ _ h)
    have hc0 := cost_kids h
    have hp : ptrsL n = [] := by
      have hl := ptrs_own n
      have : wordsN 0 n = 0 := rfl
      exact List.eq_nil_of_length_eq_zero (by omega)
    rw [hc, hc0, hp]
  | d + 1, n, h => by
    have hk := (ok_kids h).2
    rw [cost_kids (ok_up _ _ h), cost_kids h]
    exact congrArg (lcN n + ·) (map_congr_sum fun p hp => cost_up d p (hk p hp))
theorem node_ok {n : Nd} (h : nodeOk n = true) : okN 8 n = true ∧ wordsN 8 n ≤ 199 := by
  unfold nodeOk at h
  rw [Bool.and_eq_true, decide_eq_true_eq] at h
  exact h
theorem ok_node {n : Nd} (h : okN 8 n = true) (hw : wordsN 8 n ≤ 199) : nodeOk n = true := by
  unfold nodeOk
  rw [h, decide_eq_true hw]; rfl
theorem ok_ptrs {n : Nd} (h : nodeOk n = true) : ∀ p ∈ ptrsL n, nodeOk p = true := by
  obtain ⟨h1, h2⟩ := node_ok h
  intro p hp
  have hk := (ok_kids h1).2 p hp
  refine ok_node (ok_up 7 p hk) ?_
  rw [words_up 7 p hk]
  exact Nat.le_trans (words_mem h1 hp) h2
theorem ok_ptr {n : Nd} (h : nodeOk n = true) : ∀ p ∈ n.ptrs, nodeOk p = true := fun p hp => ok_ptrs h p (List.mem_append_left _ hp)
/-- an item as a node by itself. -/
theorem item_form {n : Nd} (h : formN n = true) : ∀ y ∈ n.items, formN y = true ∧ y.kind = 1 ∧ y.items = [] := by
  intro y hy
  have hi : itemsB n.items = true := by
    rcases form_cases h with hc | hc | hc
    · rw [nil_of_len hc.2.2.2.2.2] at hy; cases hy
    · rw [nil_of_len hc.2.2.2.2] at hy; cases hy
    · rcases hc.2.2 with hc | hc | hc
      · rw [nil_of_len hc.2.2.2.2] at hy; cases hy
      · rw [nil_of_len hc.2.2.2] at hy; cases hy
      · exact hc.2.2.2.2
  have h1 := (List.all_eq_true.1 hi) y hy
  unfold itemB at h1
  rw [Bool.and_eq_true] at h1
  have h2 := h1.1
  refine ⟨?_, ?_, ?_⟩
  · unfold formN strN
    rw [h2]; simp
  · unfold structB at h2; simp only [decide_eq_true_eq] at h2; exact h2.1
  · unfold structB at h2; simp only [decide_eq_true_eq] at h2; exact nil_of_len (by omega)
theorem own_item {n y : Nd} (hy : y ∈ n.items) (hk : y.kind = 1) (hi : y.items = []) : ownN y ≤ ownN n := by
  have h1 : ownB y ≤ (n.items.map ownB).sum := sum_mem hy
  have h2 : ownN y = ownB y := by unfold ownN; rw [hi, if_neg (by omega)]; simp
  rw [h2]
  unfold ownN
  omega
theorem ptrs_sub {n y : Nd} (hy : y ∈ n.items) (f : Nd → Nat) : (y.ptrs.map f).sum ≤ ((ptrsL n).map f).sum := by
  have h1 : (y.ptrs.map f).sum ≤ ((n.items.flatMap Nd.ptrs).map f).sum := by
    generalize n.items = l at hy
    induction l with
    | nil => cases hy
    | cons a t ih =>
      rw [List.flatMap_cons, List.map_append, List.sum_append]
      rcases List.mem_cons.1 hy with rfl | h
      · omega
      · have := ih h; omega
  unfold ptrsL
  rw [List.map_append, List.sum_append]
  omega
theorem ok_item {n : Nd} (h : nodeOk n = true) : ∀ y ∈ n.items, nodeOk y = true := by
  obtain ⟨h1, h2⟩ := node_ok h
  intro y hy
  obtain ⟨hf, hk⟩ := ok_kids h1
  obtain ⟨hfy, hky, hiy⟩ := item_form hf y hy
  have hp : ptrsL y = y.ptrs := by unfold ptrsL; rw [hiy]; simp
  have hok : okN 8 y = true := by
    show (formN y && (decide (y.kind = 0) || (ptrsL y).all (okN 7))) = true
    rw [hfy, Bool.true_and, hp]
    have : y.ptrs.all (okN 7) = true := List.all_eq_true.2 fun p hpp => hk p (List.mem_append_right _ (List.mem_flatMap.2 ⟨y, hy, hpp⟩))
    rw [this, Bool.or_true]
  refine ok_node hok (Nat.le_trans ?_ h2)
  rw [words_kids hok, words_kids h1, hp]
  have e1 := own_item hy hky hiy
  have e2 := ptrs_sub hy (wordsN 7)
  show ownN y + (y.ptrs.map (wordsN 7)).sum ≤ ownN n + ((ptrsL n).map (wordsN 7)).sum
  omega
/-- a struct of one pointer. -/
def oneN (n : Nd) : Nd := .mk 1 ByteArray.empty [n] 0 0 []
theorem one_ptrs (n : Nd) : ptrsL (oneN n) = [n] := by simp [ptrsL, oneN, Nd.ptrs, Nd.items]
theorem one_own (n : Nd) : ownN (oneN n) = 1 := by simp [ownN, ownB, oneN, Nd.ptrs, Nd.items, Nd.kind, Nd.data]
theorem one_lc (n : Nd) : lcN (oneN n) = 1 := by unfold lcN; rw [one_own, if_neg (by simp [oneN, Nd.kind])]
theorem one_words {n : Nd} (h : nodeOk n = true) (hx : nodeOk (oneN n) = true) : nodeWords (oneN n) = nodeWords n + 1 := by
  have h8 := (node_ok hx).1
  have h7 := (ok_kids h8).2 n (by rw [one_ptrs]; exact List.mem_singleton.2 rfl)
  unfold nodeWords
  rw [if_pos h, if_pos hx, words_kids h8, one_ptrs, one_own, words_up 7 n h7]
  simp; omega
theorem one_cost {n : Nd} (h : nodeOk n = true) (hx : nodeOk (oneN n) = true) : nodeCost (oneN n) = nodeCost n + 1 := by
  have h8 := (node_ok hx).1
  have h7 := (ok_kids h8).2 n (by rw [one_ptrs]; exact List.mem_singleton.2 rfl)
  unfold nodeCost
  rw [if_pos h, if_pos hx, cost_kids h8, one_ptrs, one_lc, cost_up 7 n h7]
  simp; omega
theorem lc_own {n : Nd} (h : formN n = true) : ownN n ≤ lcN n := by
  have h0 := lcN_eq h
  obtain ⟨h1, h2⟩ := form_count h
  split at h0
  · rename_i hk
    unfold lcZ at h0
    split at h0
    · rename_i hs
      have : ownN n = 0 := by
        rcases form_cases h with hc | hc | hc
        · omega
        · omega
        · rcases hc.2.2 with hc | hc | hc
          · have hb := hc.2.2.1
            rw [hs] at hb
            have hd : n.data.size = 0 := by
              simp [bitsB, bz] at hb
              rw [hb]; rfl
            unfold ownN ownB
            rw [nil_of_len hc.2.2.2.1, nil_of_len hc.2.2.2.2, hd, if_neg (by omega)]
            rfl
          · omega
          · omega
      omega
    · split at h0 <;> omega
  · omega
theorem cost_ge : ∀ (d : Nat) (n : Nd), okN d n = true → wordsN d n ≤ costN d n
  | 0, _, _ => Nat.le_refl _
  | d + 1, n, h => by
    obtain ⟨hf, hk⟩ := ok_kids h
    have h1 := lc_own hf
    have h2 : ((ptrsL n).map (wordsN d)).sum ≤ ((ptrsL n).map (costN d)).sum := sum_le _ _ _ (fun p hp => cost_ge d p (hk p hp))
    show ownN n + _ ≤ lcN n + _
    omega
theorem cost_words {n : Nd} (h : nodeOk n = true) : nodeWords n ≤ nodeCost n := by
  unfold nodeWords nodeCost
  rw [if_pos h, if_pos h]
  exact cost_ge 8 n (node_ok h).1
end Go.Proofs.YtbijfkpilncclaaGreat

/- the specification's l1Zero. -/
namespace Go.Proofs.YtbijfkpilncclaaGreat
open Go.RowKit
def zerB (l : List UInt8) : Bool := l.all (· == 0)
set_option maxHeartbeats 400000 in
theorem l1Zero_any (s : ByteArray) (w : World) (hs : s.size ≤ maxLen) :
    Calls Tryz.prog 62 #[.string s] w fun e w' => e = .returned (.bool (zerB s.data.toList)) ∧ w = w' := by
  unfold maxLen at hs
  have hl : s.data.toList.length = s.size := by simp
  have HL := Lib.hid hl
  clear hl
  go_enter Tryz.func62, Tryz.ntmps62
  go_wp2
  go_loop [3] (fun i => ∃ k : Nat, k ≤ s.size ∧ i = .int .i64 (k : Int) ∧ ∀ j, j < k → s.data.toList[j]?.getD 0 = 0) (fun i => (s.size - intOf i).toNat)
  case atStart => exact ⟨0, by omega, by simp, fun j hj => by omega⟩
  case round =>
    obtain ⟨k, hk, rfl, hz⟩ := hrel
    have HZ := Lib.hid hz
    clear hz
    by_cases hlt : k < s.size
    · have hg := bytes_get s k hlt
      have HG := Lib.hid hg
      clear hg
      by_cases hb : s[k] = 0
      · have hb' : (((s[k]).toNat : Int) == 0) = true := by simp [hb]
        have HB := Lib.hid hb
        clear hb
        go_wp2
        go_round
        case rel =>
          refine ⟨k + 1, by omega, by go_num, fun j hj => ?_⟩
          by_cases hjk : j < k
          · exact HZ.out j hjk
          · obtain rfl : j = k := by omega
            rw [HG.out, HB.out]
        case measure => simp [intOf]; omega
      · have hb' : (((s[k]).toNat : Int) == 0) = false := by
          rw [beq_eq_false_iff_ne]
          intro h
          exact hb (UInt8.toNat_inj.1 (by simpa using h))
        have HB := Lib.hid hb
        clear hb
        go_wp2
        go_ret
        refine ⟨ret_bool ?_, rfl⟩
        rw [eq_comm, zerB, List.all_eq_false]
        refine ⟨s[k], ?_, by simpa using HB.out⟩
        rw [← HG.out, List.getElem?_eq_getElem (by rw [HL.out]; exact hlt)]
        exact List.getElem_mem _
    · go_wp2
      go_ret
      refine ⟨ret_bool ?_, rfl⟩
      rw [eq_comm, zerB, List.all_eq_true]
      intro x hx
      obtain ⟨j, hj, rfl⟩ := List.mem_iff_getElem.1 hx
      have := HZ.out j (by rw [HL.out] at hj; omega)
      rw [List.getElem?_eq_getElem hj] at this
      simpa using this
/-- how many of the first k words are left when words of noughts are taken from their end. -/
def trimN (l : List UInt8) : Nat → Nat
  | 0 => 0
  | k + 1 => if zerB ((l.drop (8 * k)).take 8) then trimN l k else k + 1
theorem trimN_le (l : List UInt8) : ∀ k, trimN l k ≤ k
  | 0 => Nat.le_refl _
  | k + 1 => by
    unfold trimN
    split
    · have := trimN_le l k; omega
    · omega
end Go.Proofs.YtbijfkpilncclaaGreat

/- Words without noughts at the end, purely. -/
namespace Go.Proofs.YtbijfkpilncclaaGreat
open Go.RowKit
theorem trimQ_idem (l : List UInt8) : ∀ k, trimN l (trimN l k) = trimN l k
  | 0 => rfl
  | k + 1 => by
    rw [trimN]
    split
    · exact trimQ_idem l k
    · rename_i h; rw [trimN, if_neg h]
theorem trimQ_zero (l : List UInt8) : ∀ (k q : Nat), trimN l k ≤ q → q < k → zerB ((l.drop (8 * q)).take 8) = true
  | 0, _, _, h => absurd h (by omega)
  | k + 1, q, h1, h2 => by
    rw [trimN] at h1
    split at h1
    · rename_i hz
      by_cases he : q = k
      · rw [he]; exact hz
      · exact trimQ_zero l k q h1 (by omega)
    · omega
theorem trimQ_top (l : List UInt8) : ∀ (k : Nat), 0 < trimN l k → zerB ((l.drop (8 * (trimN l k - 1))).take 8) = false
  | 0, h => absurd h (by simp [trimN])
  | k + 1, h => by
    rw [trimN] at h ⊢
    split at h
    · rename_i hz; rw [if_pos hz]; exact trimQ_top l k h
    · rename_i hz; rw [if_neg hz]; simpa using hz
theorem trimQ_congr (l m : List UInt8) : ∀ k, (∀ q, q < k → (l.drop (8 * q)).take 8 = (m.drop (8 * q)).take 8) → trimN l k = trimN m k
  | 0, _ => rfl
  | k + 1, h => by rw [trimN, trimN, h k (by omega), trimQ_congr l m k (fun q hq => h q (by omega))]
theorem trimQ_more (l : List UInt8) (t : Nat) : ∀ k, (∀ q, t ≤ q → q < t + k → zerB ((l.drop (8 * q)).take 8) = true) → trimN l (t + k) = trimN l t
  | 0, _ => rfl
  | k + 1, h => by rw [← Nat.add_assoc, trimN, if_pos (h (t + k) (by omega) (by omega)), trimQ_more l t k (fun q h1 h2 => h q h1 (by omega))]
/-- how many words are left; the words that are left. -/
def tw (l : List UInt8) : Nat := trimN l (l.length / 8)
def trimL (l : List UInt8) : List UInt8 := l.take (8 * tw l)
theorem tw_le (l : List UInt8) : tw l ≤ l.length / 8 := trimN_le l _
theorem trimL_length (l : List UInt8) : (trimL l).length = 8 * tw l := by
  have := tw_le l
  unfold trimL
  rw [List.length_take]
  omega
theorem zer_of_all {l : List UInt8} (h : ∀ x ∈ l, x = 0) : zerB l = true := by
  unfold zerB
  rw [List.all_eq_true]
  intro x hx
  rw [h x hx]; rfl
theorem zer_all {l : List UInt8} (h : zerB l = true) : ∀ x ∈ l, x = 0 := by
  unfold zerB at h
  rw [List.all_eq_true] at h
  intro x hx
  simpa using h x hx
/-- behind what is left are noughts. -/
theorem trimL_cut {l : List UInt8} {j : Nat} (h8 : l.length % 8 = 0) (h1 : tw l ≤ j) (h2 : 8 * j ≤ l.length) : l.take (8 * j) = trimL l ++ List.replicate (8 * (j - tw l)) 0 := by
  have hs : l.take (8 * j) = l.take (8 * tw l) ++ (l.drop (8 * tw l)).take (8 * (j - tw l)) := by
    rw [show 8 * j = 8 * tw l + 8 * (j - tw l) by omega, List.take_add]
  rw [hs]
  unfold trimL
  congr 1
  apply List.eq_replicate_iff.2
  refine ⟨by simp; omega, ?_⟩
  intro x hx
  obtain ⟨i, hi, rfl⟩ := List.mem_iff_getElem.1 hx
  have hil : i < 8 * (j - tw l) := by simp at hi; omega
  have hq := trimQ_zero l (l.length / 8) (tw l + i / 8) (by unfold tw; omega) (by omega)
  refine zer_all hq _ ?_
  rw [List.getElem_take, List.getElem_drop]
  refine List.mem_iff_getElem?.2 ⟨i % 8, ?_⟩
  rw [List.getElem?_take_of_lt (Nat.mod_lt _ (by decide)), List.getElem?_drop]
  rw [show 8 * (tw l + i / 8) + i % 8 = 8 * tw l + i by omega]
  exact List.getElem?_eq_getElem _
/-- with noughts behind it is left as it is. -/
theorem trimL_pad (l : List UInt8) (k : Nat) : trimL (trimL l ++ List.replicate (8 * k) 0) = trimL l := by
  have hl := trimL_length l
  have hlen : (trimL l ++ List.replicate (8 * k) (0 : UInt8)).length / 8 = tw l + k := by rw [List.length_append, hl, List.length_replicate]; omega
  have h1 : tw (trimL l ++ List.replicate (8 * k) 0) = tw l := by
    unfold tw at hlen ⊢
    rw [hlen]
    rw [trimQ_more _ (trimN l (l.length / 8)) k]
    · rw [trimQ_congr _ l]
      · exact trimQ_idem l _
      · intro q hq
        have hq8 : 8 * q + 8 ≤ (trimL l).length := by rw [hl]; unfold tw; omega
        rw [List.drop_append_of_le_length (by omega), List.take_append_of_le_length (by rw [List.length_drop]; omega)]
        unfold trimL tw
        rw [List.drop_take, List.take_take, Nat.min_eq_left (by omega)]
    · intro q h1 h2
      apply zer_of_all
      intro x hx
      have hx2 := List.mem_of_mem_take hx
      rw [List.drop_append, List.drop_of_length_le (by rw [hl]; unfold tw; omega), List.nil_append] at hx2
      exact (List.mem_replicate.1 (List.mem_of_mem_drop hx2)).2
  have h2 : trimL (trimL l ++ List.replicate (8 * k) 0) = (trimL l ++ List.replicate (8 * k) 0).take (8 * tw l) := by rw [← h1]; rfl
  rw [h2, List.take_append_of_le_length (by rw [hl]; exact Nat.le_refl _), List.take_of_length_le (by rw [hl]; exact Nat.le_refl _)]
theorem trimL_idem (l : List UInt8) : trimL (trimL l) = trimL l := by
  have := trimL_pad l 0
  simpa using this
/-- the last word that is left is none of noughts. -/
theorem tw_top (l : List UInt8) (h : 0 < tw l) : zerB ((l.drop (8 * (tw l - 1))).take 8) = false := trimQ_top l _ h
def trimD (d : ByteArray) : ByteArray := ⟨(trimL d.data.toList).toArray⟩
def zeroD (n : Nat) : ByteArray := ⟨(List.replicate n 0).toArray⟩
theorem trimD_list (d : ByteArray) : (trimD d).data.toList = trimL d.data.toList := by simp [trimD]
theorem trimD_size (d : ByteArray) : (trimD d).size = 8 * tw d.data.toList := by
  have := trimL_length d.data.toList
  show (trimL d.data.toList).toArray.size = _
  simpa using this
theorem ext_d {a b : ByteArray} (h : a.data.toList = b.data.toList) : a = b := by
  cases a; cases b; simp_all
theorem zeroD_size (n : Nat) : (zeroD n).size = n := by show (List.replicate n (0 : UInt8)).toArray.size = n; simp
theorem trimD_pad (d : ByteArray) (k : Nat) : trimD (trimD d ++ zeroD (8 * k)) = trimD d := by
  apply ext_d
  rw [trimD_list, trimD_list, ByteArray.data_append, Array.toList_append, trimD_list]
  show trimL (trimL d.data.toList ++ List.replicate (8 * k) 0) = _
  exact trimL_pad _ _
theorem trimD_idem (d : ByteArray) : trimD (trimD d) = trimD d := by
  apply ext_d
  rw [trimD_list, trimD_list, trimL_idem]
theorem trimD_cut {d : ByteArray} {j : Nat} (h8 : d.size % 8 = 0) (h1 : tw d.data.toList ≤ j) (h2 : 8 * j ≤ d.size) : d.extract 0 (8 * j) = trimD d ++ zeroD (8 * (j - tw d.data.toList)) := by
  have hl : d.data.toList.length = d.size := by simp
  apply ext_d
  rw [ByteArray.data_append, Array.toList_append, trimD_list]
  show _ = trimL d.data.toList ++ List.replicate _ 0
  rw [← trimL_cut (by rw [hl]; exact h8) h1 (by rw [hl]; exact h2)]
  simp [ByteArray.data_extract]
end Go.Proofs.YtbijfkpilncclaaGreat
