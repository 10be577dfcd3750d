/- A slice of strings in memory, and the plain counts of its bytes. -/
import Derived.Test.YtliiffpegfkpbabDoorIn
import Derived.Laws.OwnMore
import Derived.OwnWalk
import Derived.Deep.QuietTactic
import Derived.BigQuiet
namespace Go.Proofs.YtliiffpegfkpbabDoor
open Go.RowKit

theorem below_drawn {B : Nat} {a w : World} (h : Below B a w) (n : Nat) : Below B a (w.drewN n) := ⟨h.os, h.tape, h.output, h.size, h.block⟩
/-- a slice value that reads as these strings. -/
def Strs (w : World) (A : Option Addr) (ss : List ByteArray) : Prop :=
  (∀ s ∈ ss, s.size ≤ maxLen) ∧ (ss = [] ∨ ∃ a : Addr, A = some a ∧ a.block < w.heap.size ∧ ∀ i (h : i < ss.length), w.cell? (a.add i) = some (.string ss[i]))
theorem Strs.nil (w : World) (A : Option Addr) : Strs w A [] := ⟨(fun _ h => by cases h), .inl rfl⟩
theorem Strs.below {w w' : World} {A : Option Addr} {ss : List ByteArray} (h : Strs w A ss) (hb : Below w.heap.size w w') : Strs w' A ss := by
  refine ⟨h.1, ?_⟩
  rcases h.2 with h0 | ⟨a, ha, hlt, hc⟩
  · exact .inl h0
  · refine .inr ⟨a, ha, Nat.lt_of_lt_of_le hlt hb.size, fun i hi => ?_⟩
    have e : (a.add i).block = a.block := by unfold Addr.add; split <;> rfl
    exact (hb.cell (p := a.add i) (by rw [e]; exact hlt)).trans (hc i hi)

theorem add_block (a : Addr) (i : Nat) : (a.add i).block = a.block := by unfold Addr.add; split <;> rfl
/-- what the reader tells of an argument. -/
theorem Strs.opened {w : World} {a : Addr} {l c : Nat} {zs : List ByteArray} (hl : l ≤ c) (hz : zs.length = c) (hc : ∀ i, i < zs.length → w.cell? (a.add i) = some (.string (zs.getD i ByteArray.empty))) (hs : ∀ s ∈ zs, s.size ≤ maxLen) :
    (zs.take l).length = l ∧ Strs w (some a) (zs.take l) := by
  refine ⟨by simp; omega, fun s h => hs s (List.mem_of_mem_take h), ?_⟩
  by_cases h0 : l = 0
  · exact .inl (by rw [h0]; rfl)
  · refine .inr ⟨a, rfl, ?_, fun i hi => ?_⟩
    · have h := World.block_lt_of_cell? w _ (hc 0 (by omega))
      rwa [add_block] at h
    · have hi' : i < l := by simp at hi; omega
      rw [hc i (by omega), List.getElem_take, List.getD, List.getElem?_eq_getElem (by omega)]
      rfl

/-- what szStringS answers, behind the count. -/
def szGo : Int → List ByteArray → Int
  | left, [] => left
  | left, s :: r => if left - s.size < 0 then -1 else szGo (left - s.size) r
def szS (left : Int) (ss : List ByteArray) : Int := if left - ss.length < 0 then -1 else szGo (left - ss.length) ss
theorem szGo_drop (left : Int) (ss : List ByteArray) (k : Nat) (h : k < ss.length) : szGo left (ss.drop k) = if left - (ss[k]).size < 0 then -1 else szGo (left - (ss[k]).size) (ss.drop (k + 1)) := by
  rw [List.drop_eq_getElem_cons h, szGo]

/-- how many bytes they have together. -/
def tot (ss : List ByteArray) : Nat := (ss.map (·.size)).sum
theorem szGo_tot : ∀ (ss : List ByteArray) (left : Int), 0 ≤ szGo left ss → 0 ≤ left → (tot ss : Int) ≤ left
  | [], left, _, h => by simpa [tot] using h
  | s :: r, left, h, h0 => by
    rw [szGo] at h
    by_cases hn : left - s.size < 0
    · rw [if_pos hn] at h; omega
    · rw [if_neg hn] at h
      have := szGo_tot r _ h (by omega)
      simp only [tot, List.map_cons, List.sum_cons] at this ⊢
      omega
theorem szS_tot (ss : List ByteArray) (left : Int) (h : 0 ≤ szS left ss) : ((tot ss : Int) ≤ left ∧ (ss.length : Int) ≤ left) := by
  rw [szS] at h
  by_cases hn : left - ss.length < 0
  · rw [if_pos hn] at h; omega
  · rw [if_neg hn] at h
    have := szGo_tot ss _ h (by omega)
    omega
theorem szGo_lo : ∀ (ss : List ByteArray) (left : Int), 0 ≤ left → -1 ≤ szGo left ss ∧ szGo left ss ≤ left
  | [], left, h => by simp [szGo]; omega
  | s :: r, left, h => by
    rw [szGo]
    by_cases hn : left - s.size < 0
    · rw [if_pos hn]; omega
    · rw [if_neg hn]
      have := szGo_lo r (left - s.size) (by omega)
      omega
theorem szS_lo (ss : List ByteArray) (left : Int) (h : 0 ≤ left) : -1 ≤ szS left ss ∧ szS left ss ≤ left := by
  rw [szS]
  by_cases hn : left - ss.length < 0
  · rw [if_pos hn]; omega
  · rw [if_neg hn]
    have := szGo_lo ss (left - ss.length) (by omega)
    omega
theorem tot_take (ss : List ByteArray) (k : Nat) (h : k < ss.length) : tot (ss.take (k + 1)) = tot (ss.take k) + (ss[k]).size := by
  rw [List.take_succ_eq_append_getElem h, tot, tot, List.map_append, List.sum_append]
  simp
theorem tot_take_le (ss : List ByteArray) (k : Nat) : tot (ss.take k) ≤ tot ss := by
  conv => rhs; rw [← List.take_append_drop k ss]
  rw [tot, tot, List.map_append, List.sum_append]
  exact Nat.le_add_right _ _

theorem infoStr : (Tryd.prog.info? 9).map (fun i => (i.zero, i.size, i.bytes)) = some (some (.string ByteArray.empty), 1, 16) := by kernel_rfl
/-- the cells of a copy under way: the first k strings stand. -/
def Upto (xs : List Value) (ss : List ByteArray) (k : Nat) : Prop := xs.length = ss.length ∧ ∀ i (h : i < ss.length), i < k → xs[i]? = some (.string ss[i])
theorem Upto.step {xs : List Value} {ss : List ByteArray} {k : Nat} (h : Upto xs ss k) (hk : k < ss.length) : Upto (xs.set k (.string ss[k])) ss (k + 1) := by
  refine ⟨by simp [h.1], fun i hi hlt => ?_⟩
  by_cases hik : k = i
  · subst hik
    rw [List.getElem?_set, if_pos rfl, if_pos (by rw [h.1]; exact hk)]
  · rw [List.getElem?_set, if_neg hik]
    exact h.2 i hi (by omega)
theorem Upto.strs {w : World} {base e g cap : Nat} {xs : List Value} {ss : List ByteArray} (h : Upto xs ss ss.length) (hs : ∀ s ∈ ss, s.size ≤ maxLen) (hown : w.ownsRow base e 1 (.slice (some ⟨g, 0, none⟩) ss.length cap) ss.length xs) : Strs w (some ⟨g, 0, none⟩) ss := by
  refine ⟨hs, .inr ⟨_, rfl, (hown.lt g rfl).2, fun i hi => ?_⟩⟩
  exact hown.cells rfl i _ (h.2 i hi hi)

end Go.Proofs.YtliiffpegfkpbabDoor
