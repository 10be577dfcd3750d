/- The laws' helpers on slices of strings: szStringS, toStringS, eqStringS: what they answer. -/
import Derived.Test.YtialmfolgendlabIn
import Derived.Laws.OwnMore
import Derived.OwnWalk
import Derived.Deep.QuietTactic
import Derived.BigQuiet
namespace Go.Proofs.Ytialmfolgendlab
open Go.RowKit

theorem below_drawn {B : Nat} {a w : World} (h : Below B a w) (n : Nat) : Below B a (w.drewN n) := ⟨h.os, h.tape, h.output, h.size, h.block⟩
/-- a slice value that reads as these strings. -/
def Strs (w : World) (A : Option Addr) (ss : List ByteArray) : Prop :=
  (∀ s ∈ ss, s.size ≤ maxLen) ∧ (ss = [] ∨ ∃ a : Addr, A = some a ∧ a.block < w.heap.size ∧ ∀ i (h : i < ss.length), w.cell? (a.add i) = some (.string ss[i]))
theorem Strs.nil (w : World) (A : Option Addr) : Strs w A [] := ⟨(fun _ h => by cases h), .inl rfl⟩
theorem Strs.below {w w' : World} {A : Option Addr} {ss : List ByteArray} (h : Strs w A ss) (hb : Below w.heap.size w w') : Strs w' A ss := by
  refine ⟨h.1, ?_⟩
  rcases h.2 with h0 | ⟨a, ha, hlt, hc⟩
  · exact .inl h0
  · refine .inr ⟨a, ha, Nat.lt_of_lt_of_le hlt hb.size, fun i hi => ?_⟩
    have e : (a.add i).block = a.block := by unfold Addr.add; split <;> rfl
    exact (hb.cell (p := a.add i) (by rw [e]; exact hlt)).trans (hc i hi)

theorem add_block (a : Addr) (i : Nat) : (a.add i).block = a.block := by unfold Addr.add; split <;> rfl
/-- what the reader tells of an argument. -/
theorem Strs.opened {w : World} {a : Addr} {l c : Nat} {zs : List ByteArray} (hl : l ≤ c) (hz : zs.length = c) (hc : ∀ i, i < zs.length → w.cell? (a.add i) = some (.string (zs.getD i ByteArray.empty))) (hs : ∀ s ∈ zs, s.size ≤ maxLen) :
    (zs.take l).length = l ∧ Strs w (some a) (zs.take l) := by
  refine ⟨by simp; omega, fun s h => hs s (List.mem_of_mem_take h), ?_⟩
  by_cases h0 : l = 0
  · exact .inl (by rw [h0]; rfl)
  · refine .inr ⟨a, rfl, ?_, fun i hi => ?_⟩
    · have h := World.block_lt_of_cell? w _ (hc 0 (by omega))
      rwa [add_block] at h
    · have hi' : i < l := by simp at hi; omega
      rw [hc i (by omega), List.getElem_take, List.getD, List.getElem?_eq_getElem (by omega)]
      rfl

/-- what szStringS answers, behind the count. -/
def szGo : Int → List ByteArray → Int
  | left, [] => left
  | left, s :: r => if left - s.size < 0 then -1 else szGo (left - s.size) r
def szS (left : Int) (ss : List ByteArray) : Int := if left - ss.length < 0 then -1 else szGo (left - ss.length) ss
theorem szGo_drop (left : Int) (ss : List ByteArray) (k : Nat) (h : k < ss.length) : szGo left (ss.drop k) = if left - (ss[k]).size < 0 then -1 else szGo (left - (ss[k]).size) (ss.drop (k + 1)) := by
  rw [List.drop_eq_getElem_cons h, szGo]

set_option maxHeartbeats 400000 in
theorem szStringS_any (A : Option Addr) (cap : Nat) (ss : List ByteArray) (left : Int) (w : World) (h : Strs w A ss) (hn : ss.length ≤ maxLen) (h0 : 0 ≤ left) (h1 : left ≤ 1048576) :
    Calls Try.prog 29 #[.slice A ss.length cap, .int .i64 left] w fun e w' => e = .returned (.int .i64 (szS left ss)) ∧ w = w' := by
  have hn' := hn
  unfold maxLen at hn'
  have hfin : left - ss.length < 0 → szS left ss = -1 := fun hlt => by rw [szS, if_pos hlt]
  have hfin2 : ¬ left - ss.length < 0 → szS left ss = szGo (left - ss.length) ss := fun hlt => by rw [szS, if_neg hlt]
  by_cases hlt : left - ss.length < 0
  · rw [hfin hlt]
    clear hfin hfin2
    go_enter Try.func29, Try.ntmps29
    go_wp2
    go_ret
    exact ⟨rfl, rfl⟩
  · rw [hfin2 hlt]
    clear hfin hfin2
    have hlt : (ss.length : Int) ≤ left := by omega
    have H := Lib.hid h
    clear h
    go_enter Try.func29, Try.ntmps29
    go_wp2
    go_loop [1, 5] (fun m i => ∃ (k : Nat) (l : Int), k ≤ ss.length ∧ i = .int .i64 k ∧ m = .int .i64 l ∧ 0 ≤ l ∧ l ≤ 1048576 ∧ Hid (szGo l (ss.drop k) = szGo (left - ss.length) ss)) (fun _ i => ss.length - (intOf i).toNat)
    case atStart => exact ⟨0, _, by omega, rfl, rfl, by omega, by omega, rfl⟩
    case round =>
      obtain ⟨k, l, hk, rfl, rfl, hl0, hl1, HS⟩ := hrel
      by_cases hk1 : k < ss.length
      · obtain ⟨a, rfl, _, hc⟩ := H.out.2.resolve_left (by intro h; rw [h] at hk1; simp at hk1)
        have hck := hc k hk1
        have hsz := H.out.1 ss[k] (List.getElem_mem hk1)
        unfold maxLen at hsz
        have hstep := szGo_drop l ss k hk1
        have HT := Lib.hid hstep
        clear hc hstep
        by_cases hneg : l - (ss[k]).size < 0
        · go_wp2
          go_ret
          refine ⟨ret_int ?_, rfl⟩
          rw [← HS.out, HT.out, if_pos hneg]
        · have hneg : ((ss[k]).size : Int) ≤ l := by omega
          have hs' : szGo (l - (ss[k]).size) (ss.drop (k + 1)) = szGo (left - ss.length) ss := by rw [← HS.out, HT.out, if_neg (by omega)]
          have HS' := Lib.hid hs'
          clear hs'
          go_wp2
          go_round
          case rel => exact ⟨k + 1, _, by omega, by go_num, rfl, by omega, by omega, HS'.out⟩
          case measure => simp [intOf]; omega
      · go_wp2
        go_ret
        refine ⟨ret_int ?_, rfl⟩
        rw [← HS.out, List.drop_of_length_le (by omega), szGo]

/-- how many bytes they have together. -/
def tot (ss : List ByteArray) : Nat := (ss.map (·.size)).sum
theorem szGo_tot : ∀ (ss : List ByteArray) (left : Int), 0 ≤ szGo left ss → 0 ≤ left → (tot ss : Int) ≤ left
  | [], left, _, h => by simpa [tot] using h
  | s :: r, left, h, h0 => by
    rw [szGo] at h
    by_cases hn : left - s.size < 0
    · rw [if_pos hn] at h; omega
    · rw [if_neg hn] at h
      have := szGo_tot r _ h (by omega)
      simp only [tot, List.map_cons, List.sum_cons] at this ⊢
      omega
theorem szS_tot (ss : List ByteArray) (left : Int) (h : 0 ≤ szS left ss) : ((tot ss : Int) ≤ left ∧ (ss.length : Int) ≤ left) := by
  rw [szS] at h
  by_cases hn : left - ss.length < 0
  · rw [if_pos hn] at h; omega
  · rw [if_neg hn] at h
    have := szGo_tot ss _ h (by omega)
    omega
theorem szGo_lo : ∀ (ss : List ByteArray) (left : Int), 0 ≤ left → -1 ≤ szGo left ss ∧ szGo left ss ≤ left
  | [], left, h => by simp [szGo]; omega
  | s :: r, left, h => by
    rw [szGo]
    by_cases hn : left - s.size < 0
    · rw [if_pos hn]; omega
    · rw [if_neg hn]
      have := szGo_lo r (left - s.size) (by omega)
      omega
theorem szS_lo (ss : List ByteArray) (left : Int) (h : 0 ≤ left) : -1 ≤ szS left ss ∧ szS left ss ≤ left := by
  rw [szS]
  by_cases hn : left - ss.length < 0
  · rw [if_pos hn]; omega
  · rw [if_neg hn]
    have := szGo_lo ss (left - ss.length) (by omega)
    omega
theorem tot_take (ss : List ByteArray) (k : Nat) (h : k < ss.length) : tot (ss.take (k + 1)) = tot (ss.take k) + (ss[k]).size := by
  rw [List.take_succ_eq_append_getElem h, tot, tot, List.map_append, List.sum_append]
  simp
theorem tot_take_le (ss : List ByteArray) (k : Nat) : tot (ss.take k) ≤ tot ss := by
  conv => rhs; rw [← List.take_append_drop k ss]
  rw [tot, tot, List.map_append, List.sum_append]
  exact Nat.le_add_right _ _

theorem infoStr : (Try.prog.info? 9).map (fun i => (i.zero, i.size, i.bytes)) = some (some (.string ByteArray.empty), 1, 16) := by kernel_rfl
/-- the cells of a copy under way: the first k strings stand. -/
def Upto (xs : List Value) (ss : List ByteArray) (k : Nat) : Prop := xs.length = ss.length ∧ ∀ i (h : i < ss.length), i < k → xs[i]? = some (.string ss[i])
theorem Upto.step {xs : List Value} {ss : List ByteArray} {k : Nat} (h : Upto xs ss k) (hk : k < ss.length) : Upto (xs.set k (.string ss[k])) ss (k + 1) := by
  refine ⟨by simp [h.1], fun i hi hlt => ?_⟩
  by_cases hik : k = i
  · subst hik
    rw [List.getElem?_set, if_pos rfl, if_pos (by rw [h.1]; exact hk)]
  · rw [List.getElem?_set, if_neg hik]
    exact h.2 i hi (by omega)
theorem Upto.strs {w : World} {base e g cap : Nat} {xs : List Value} {ss : List ByteArray} (h : Upto xs ss ss.length) (hs : ∀ s ∈ ss, s.size ≤ maxLen) (hown : w.ownsRow base e 1 (.slice (some ⟨g, 0, none⟩) ss.length cap) ss.length xs) : Strs w (some ⟨g, 0, none⟩) ss := by
  refine ⟨hs, .inr ⟨_, rfl, (hown.lt g rfl).2, fun i hi => ?_⟩⟩
  exact hown.cells rfl i _ (h.2 i hi hi)

set_option maxHeartbeats 400000 in
theorem toStringS_any (A : Option Addr) (cap : Nat) (ss : List ByteArray) (w : World) (h : Strs w A ss) (hn : ss.length ≤ 1048576) :
    Calls Try.prog 31 #[.slice A ss.length cap] w fun e w' => e = .returned (.slice (some ⟨w.heap.size, 0, none⟩) ss.length ss.length) ∧ Strs w' (some ⟨w.heap.size, 0, none⟩) ss ∧ Below w.heap.size w w' := by
  obtain ⟨i0, hi, hz0, hz1, hz2⟩ := info_parts infoStr
  have H := Lib.hid h
  clear h
  go_enter Try.func31, Try.ntmps31
  go_wp2_with (at_make; refine wpList_make_full w rfl (.tmp 6) (.tmp 6) 36 rfl w.heap.size 9 i0 _ 1 Try.underlying36 hi hz0 hz1 .i64 .i64 _ _ ss.length rfl rfl rfl rfl (by rw [hz2]; omega) (by unfold maxLen; omega) (Nat.le_refl _) ?_; intro w1 hown hgrow)
  have HO := Lib.hid hown
  have HB := Lib.hid ((Below.refl w.heap.size w).grown hgrow (Nat.le_refl _) (fun k e => by cases e))
  clear hown hgrow
  go_loopw [4] (fun i wr => ∃ (k : Nat) (xs : List Value), k ≤ ss.length ∧ i = .int .i64 k ∧ Hid (wr.ownsRow w.heap.size 9 1 (.slice (some ⟨w.heap.size, 0, none⟩) ss.length ss.length) ss.length xs) ∧ Hid (Upto xs ss k) ∧ Hid (Below w.heap.size w wr)) (fun i _ => ss.length - (intOf i).toNat)
  case atStart => exact ⟨0, _, by omega, rfl, HO.out, ⟨by simp [size_madeCells], fun i _ h => by omega⟩, HB.out⟩
  case round =>
    obtain ⟨k, xs, hk, rfl, HOw, HU, HBw⟩ := hrel
    by_cases hk1 : k < ss.length
    · obtain ⟨a, rfl, hlt, hc⟩ := (H.out.below HBw.out).2.resolve_left (by intro h; rw [h] at hk1; simp at hk1)
      have hck := hc k hk1
      have hcell := HOw.out.cellAt k (by omega)
      have hx : k < xs.length := by rw [HU.out.1]; exact hk1
      rw [List.getElem?_eq_getElem hx] at hcell
      have hfr := HOw.out.frozenAt k
      clear hc hlt
      go_wp2
      have hst := HOw.out.stored k (.string ss[k])
      have hrow' := hst.1
      have hB' := HBw.out.grown hst.2 HBw.out.size (fun k e => by cases e; exact Nat.le_refl _)
      have hU' := HU.out.step hk1
      go_roundw
      case rel => exact ⟨k + 1, _, by omega, by go_num, hrow', hU', hB'⟩
      case measure => simp [intOf]; omega
    · obtain rfl : k = ss.length := by omega
      go_wp2
      go_ret
      exact ⟨rfl, HU.out.strs H.out.1 HOw.out, HBw.out⟩

set_option maxHeartbeats 400000 in
theorem eqStringS_same (A B : Option Addr) (c d : Nat) (ss : List ByteArray) (w : World) (h : Strs w A ss) (k : Strs w B ss) (hn : ss.length ≤ 1048576) :
    Calls Try.prog 33 #[.slice A ss.length c, .slice B ss.length d] w fun e w' => e = .returned (.bool true) ∧ Below w.heap.size w w' := by
  have H := Lib.hid h
  have K := Lib.hid k
  clear h k
  go_enter Try.func33, Try.ntmps33
  go_wp2
  go_loopw [5] (fun i wr => ∃ k : Nat, k ≤ ss.length ∧ i = .int .i64 k ∧ Hid (Below w.heap.size w wr)) (fun i _ => ss.length - (intOf i).toNat)
  case atStart => exact ⟨0, by omega, rfl, Below.refl _ _⟩
  case round =>
    obtain ⟨k, hk, rfl, HB⟩ := hrel
    by_cases hk1 : k < ss.length
    · obtain ⟨a, rfl, _, hc⟩ := (H.out.below HB.out).2.resolve_left (by intro h; rw [h] at hk1; simp at hk1)
      obtain ⟨b, rfl, _, hd⟩ := (K.out.below HB.out).2.resolve_left (by intro h; rw [h] at hk1; simp at hk1)
      have hck := hc k hk1
      have hdk := hd k hk1
      clear hc hd
      have i0 : (0 : Int) ≤ k := by omega
      have i1 : (k : Int) < ss.length := by omega
      go_wp2
      go_quiet (fail)
      go_wp2
      go_roundw
      case rel => exact ⟨k + 1, by omega, by go_num, below_drawn HB.out _⟩
      case measure => simp [intOf]; omega
    · go_wp2
      go_ret
      exact ⟨rfl, HB.out⟩
end Go.Proofs.Ytialmfolgendlab
