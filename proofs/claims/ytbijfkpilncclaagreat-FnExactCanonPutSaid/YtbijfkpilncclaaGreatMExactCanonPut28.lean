/- Texts of the proof of the law FnExactCanonPut, side by side: part 28. -/
import Derived.Laws.OwnMore
import Derived.OwnWalk
import Derived.Deep.QuietTactic
import Derived.BigQuiet
import Derived.Lib.AppendZerosOnto
import Derived.Deep.DeepMust
import Derived.Maps.AppendAt
import Derived.Outline
import Derived.Test.YtbijfkpilncclaaGreatMExactCanonPut00
import Derived.Test.YtbijfkpilncclaaGreatMExactCanonPut01
import Derived.Test.YtbijfkpilncclaaGreatMExactCanonPut02
import Derived.Test.YtbijfkpilncclaaGreatMExactCanonPut03
import Derived.Test.YtbijfkpilncclaaGreatMExactCanonPut04
import Derived.Test.YtbijfkpilncclaaGreatMExactCanonPut05
import Derived.Test.YtbijfkpilncclaaGreatMExactCanonPut06
import Derived.Test.YtbijfkpilncclaaGreatMExactCanonPut07
import Derived.Test.YtbijfkpilncclaaGreatMExactCanonPut08
import Derived.Test.YtbijfkpilncclaaGreatMExactCanonPut09
import Derived.Test.YtbijfkpilncclaaGreatMExactCanonPut10
import Derived.Test.YtbijfkpilncclaaGreatMExactCanonPut11
import Derived.Test.YtbijfkpilncclaaGreatMExactCanonPut12
import Derived.Test.YtbijfkpilncclaaGreatMExactCanonPut13
import Derived.Test.YtbijfkpilncclaaGreatMExactCanonPut14
import Derived.Test.YtbijfkpilncclaaGreatMExactCanonPut15
import Derived.Test.YtbijfkpilncclaaGreatMExactCanonPut16
import Derived.Test.YtbijfkpilncclaaGreatMExactCanonPut17
import Derived.Test.YtbijfkpilncclaaGreatMExactCanonPut18
import Derived.Test.YtbijfkpilncclaaGreatMExactCanonPut19
import Derived.Test.YtbijfkpilncclaaGreatMExactCanonPut20
import Derived.Test.YtbijfkpilncclaaGreatMExactCanonPut21
import Derived.Test.YtbijfkpilncclaaGreatMExactCanonPut22
import Derived.Test.YtbijfkpilncclaaGreatMExactCanonPut23
import Derived.Test.YtbijfkpilncclaaGreatMExactCanonPut24
import Derived.Test.YtbijfkpilncclaaGreatMExactCanonPut25
import Derived.Test.YtbijfkpilncclaaGreatMExactCanonPut26
import Derived.Test.YtbijfkpilncclaaGreatMExactCanonPut27
/- A slice of strings in memory, and the plain counts of its bytes. -/
namespace Go.Proofs.YtbijfkpilncclaaGreat
open Go.RowKit

theorem below_drawn {B : Nat} {a w : World} (h : Below B a w) (n : Nat) : Below B a (w.drewN n) := ⟨h.os, h.tape, h.output, h.size, h.block⟩
/-- a slice value that reads as these strings. -/
def Strs (w : World) (A : Option Addr) (ss : List ByteArray) : Prop :=
  (∀ s ∈ ss, s.size ≤ maxLen) ∧ (ss = [] ∨ ∃ a : Addr, A = some a ∧ a.block < w.heap.size ∧ ∀ i (h : i < ss.length), w.cell? (a.add i) = some (.string ss[i]))
theorem Strs.nil (w : World) (A : Option Addr) : Strs w A [] := ⟨(fun _ h => by cases h), .inl rfl⟩
theorem Strs.below {w w' : World} {A : Option Addr} {ss : List ByteArray} (h : Strs w A ss) (hb : Below w.heap.size w w') : Strs w' A ss := by
  refine ⟨h.1, ?_⟩
  rcases h.2 with h0 | ⟨a, ha, hlt, hc⟩
  · exact .inl h0
  · refine .inr ⟨a, ha, Nat.lt_of_lt_of_le hlt hb.size, fun i hi => ?_⟩
    have e : (a.add i).block = a.block := by unfold Addr.add; split <;> rfl
    exact (hb.cell (p := a.add i) (by rw [e]; exact hlt)).trans (hc i hi)

theorem add_block (a : Addr) (i : Nat) : (a.add i).block = a.block := by unfold Addr.add; split <;> rfl
/-- what the reader tells of an argument. -/
theorem Strs.opened {w : World} {a : Addr} {l c : Nat} {zs : List ByteArray} (hl : l ≤ c) (hz : zs.length = c) (hc : ∀ i, i < zs.length → w.cell? (a.add i) = some (.string (zs.getD i ByteArray.empty))) (hs : ∀ s ∈ zs, s.size ≤ maxLen) :
    (zs.take l).length = l ∧ Strs w (some a) (zs.take l) := by
  refine ⟨by simp; omega, fun s h => hs s (List.mem_of_mem_take h), ?_⟩
  by_cases h0 : l = 0
  · exact .inl (by rw [h0]; rfl)
  · refine .inr ⟨a, rfl, ?_, fun i hi => ?_⟩
    · have h := World.block_lt_of_cell? w _ (hc 0 (by omega))
      rwa [add_block] at h
    · have hi' : i < l := by simp at hi; omega
      rw [hc i (by omega), List.getElem_take, List.getD, List.getElem?_eq_getElem (by omega)]
      rfl

/-- what szStringS answers, behind the count. -/
def szGo : Int → List ByteArray → Int
  | left, [] => left
  | left, s :: r => if left - s.size < 0 then -1 else szGo (left - s.size) r
def szS (left : Int) (ss : List ByteArray) : Int := if left - ss.length < 0 then -1 else szGo (left - ss.length) ss
theorem szGo_drop (left : Int) (ss : List ByteArray) (k : Nat) (h : k < ss.length) : szGo left (ss.drop k) = if left - (ss[k]).size < 0 then -1 else szGo (left - (ss[k]).size) (ss.drop (k + 1)) := by
  rw [List.drop_eq_getElem_cons h, szGo]

/-- how many bytes they have together. -/
def tot (ss : List ByteArray) : Nat := (ss.map (·.size)).sum
theorem szGo_tot : ∀ (ss : List ByteArray) (left : Int), 0 ≤ szGo left ss → 0 ≤ left → (tot ss : Int) ≤ left
  | [], left, _, h => by simpa [tot] using h
  | s :: r, left, h, h0 => by
    rw [szGo] at h
    by_cases hn : left - s.size < 0
    · rw [if_pos hn] at h; omega
    · rw [if_neg hn] at h
      have := szGo_tot r _ h (by omega)
      simp only [tot, List.map_cons, List.sum_cons] at this ⊢
      omega
theorem szS_tot (ss : List ByteArray) (left : Int) (h : 0 ≤ szS left ss) : ((tot ss : Int) ≤ left ∧ (ss.length : Int) ≤ left) := by
  rw [szS] at h
  by_cases hn : left - ss.length < 0
  · rw [if_pos hn] at h; omega
  · rw [if_neg hn] at h
    have := szGo_tot ss _ h (by omega)
    omega
theorem szGo_lo : ∀ (ss : List ByteArray) (left : Int), 0 ≤ left → -1 ≤ szGo left ss ∧ szGo left ss ≤ left
  | [], left, h => by simp [szGo]; omega
  | s :: r, left, h => by
    rw [szGo]
    by_cases hn : left - s.size < 0
    · rw [if_pos hn]; omega
    · rw [if_neg hn]
      have := szGo_lo r (left - s.size) (by omega)
      omega
theorem szS_lo (ss : List ByteArray) (left : Int) (h : 0 ≤ left) : -1 ≤ szS left ss ∧ szS left ss ≤ left := by
  rw [szS]
  by_cases hn : left - ss.length < 0
  · rw [if_pos hn]; omega
  · rw [if_neg hn]
    have := szGo_lo ss (left - ss.length) (by omega)
    omega
theorem tot_take (ss : List ByteArray) (k : Nat) (h : k < ss.length) : tot (ss.take (k + 1)) = tot (ss.take k) + (ss[k]).size := by
  rw [List.take_succ_eq_append_getElem h, tot, tot, List.map_append, List.sum_append]
  simp
theorem tot_take_le (ss : List ByteArray) (k : Nat) : tot (ss.take k) ≤ tot ss := by
  conv => rhs; rw [← List.take_append_drop k ss]
  rw [tot, tot, List.map_append, List.sum_append]
  exact Nat.le_add_right _ _

theorem infoStr : (Tryz.prog.info? 9).map (fun i => (i.zero, i.size, i.bytes)) = some (some (.string ByteArray.empty), 1, 16) := by kernel_rfl
/-- the cells of a copy under way: the first k strings stand. -/
def Upto (xs : List Value) (ss : List ByteArray) (k : Nat) : Prop := xs.length = ss.length ∧ ∀ i (h : i < ss.length), i < k → xs[i]? = some (.string ss[i])
theorem Upto.step {xs : List Value} {ss : List ByteArray} {k : Nat} (h : Upto xs ss k) (hk : k < ss.length) : Upto (xs.set k (.string ss[k])) ss (k + 1) := by
  refine ⟨by simp [h.1], fun i hi hlt => ?_⟩
  by_cases hik : k = i
  · subst hik
    rw [List.getElem?_set, if_pos rfl, if_pos (by rw [h.1]; exact hk)]
  · rw [List.getElem?_set, if_neg hik]
    exact h.2 i hi (by omega)
theorem Upto.strs {w : World} {base e g cap : Nat} {xs : List Value} {ss : List ByteArray} (h : Upto xs ss ss.length) (hs : ∀ s ∈ ss, s.size ≤ maxLen) (hown : w.ownsRow base e 1 (.slice (some ⟨g, 0, none⟩) ss.length cap) ss.length xs) : Strs w (some ⟨g, 0, none⟩) ss := by
  refine ⟨hs, .inr ⟨_, rfl, (hown.lt g rfl).2, fun i hi => ?_⟩⟩
  exact hown.cells rfl i _ (h.2 i hi hi)

end Go.Proofs.YtbijfkpilncclaaGreat

/- impl.FrameOk and spec.FrameOk answer the same of segments that are together of at most 2^40 bytes. -/
namespace Go.Proofs.YtbijfkpilncclaaGreat
open Go.RowKit

/-- segments are ok. -/
def frOk (ss : List ByteArray) : Bool := decide (1 ≤ ss.length ∧ ss.length ≤ 6) && (ss.all (fun s => decide (s.size % 8 = 0)) && decide (tot ss ≤ 1600))
/-- how many words they have together. -/
def wds (ss : List ByteArray) : Nat := (ss.map (·.size / 8)).sum
theorem wds_take (ss : List ByteArray) (k : Nat) (h : k < ss.length) : wds (ss.take (k + 1)) = wds (ss.take k) + (ss[k]).size / 8 := by
  rw [List.take_succ_eq_append_getElem h, wds, wds, List.map_append, List.sum_append]
  simp
theorem wds_tot : ∀ (ss : List ByteArray), ss.all (fun s => decide (s.size % 8 = 0)) = true → 8 * wds ss = tot ss
  | [], _ => rfl
  | s :: r, h => by
    simp only [List.all_cons, Bool.and_eq_true, decide_eq_true_eq] at h
    have := wds_tot r h.2
    simp only [wds, tot, List.map_cons, List.sum_cons] at this ⊢
    omega
theorem wds_le (ss : List ByteArray) : wds ss ≤ tot ss := by
  induction ss with
  | nil => exact Nat.le_refl _
  | cons s r ih => simp only [wds, tot, List.map_cons, List.sum_cons] at ih ⊢; omega
theorem all_falseF {ss : List ByteArray} {k : Nat} (h : k < ss.length) (hn : ¬ (ss[k]).size % 8 = 0) : ss.all (fun s => decide (s.size % 8 = 0)) = false := by
  rw [List.all_eq_false]
  exact ⟨ss[k], List.getElem_mem h, by simpa using hn⟩
theorem all_upto {ss : List ByteArray} {k : Nat} (hk : k < ss.length) (h : (ss.take k).all (fun s => decide (s.size % 8 = 0)) = true) (hm : (ss[k]).size % 8 = 0) : (ss.take (k + 1)).all (fun s => decide (s.size % 8 = 0)) = true := by
  rw [List.take_succ_eq_append_getElem hk, List.all_append, h]
  simpa using hm

set_option maxHeartbeats 400000 in
theorem specFrameOk_any (A : Option Addr) (cap : Nat) (ss : List ByteArray) (w : World) (h : Strs w A ss) (hn : ss.length ≤ 1048576) (ht : tot ss ≤ 1099511627776) :
    Calls Tryz.prog 59 #[.slice A ss.length cap] w fun e w' => e = .returned (.bool (frOk ss)) ∧ w = w' := by
  have H := Lib.hid h
  clear h
  go_enter Tryz.func59, Tryz.ntmps59
  go_wp2
  go_loop [3, 4] (fun m i => ∃ k : Nat, k ≤ ss.length ∧ i = .int .i64 k ∧ m = .int .i64 (wds (ss.take k) : Nat) ∧ Hid ((ss.take k).all (fun s => decide (s.size % 8 = 0)) = true)) (fun _ i => ss.length - (intOf i).toNat)
  case atStart => exact ⟨0, by omega, rfl, by simp [wds], by simp [Hid]⟩
  case round =>
    obtain ⟨k, hk, rfl, rfl, HA⟩ := hrel
    have hw1 : wds (ss.take k) ≤ 1099511627776 := Nat.le_trans (wds_le _) (Nat.le_trans (tot_take_le ss k) ht)
    by_cases hk1 : k < ss.length
    · obtain ⟨a, rfl, _, hc⟩ := H.out.2.resolve_left (by intro h; rw [h] at hk1; simp at hk1)
      have hck := hc k hk1
      have hsz := H.out.1 ss[k] (List.getElem_mem hk1)
      unfold maxLen at hsz
      have hsz2 : (ss[k]).size ≤ 1099511627776 := by
        have h1 := tot_take ss k hk1
        have h2 := tot_take_le ss (k + 1)
        omega
      clear hc
      by_cases hm : (ss[k]).size % 8 = 0
      · have hA' := all_upto hk1 HA.out hm
        have HA' := Lib.hid hA'
        have hwt := wds_take ss k hk1
        have HW := Lib.hid hwt
        have hm0 : (((ss[k]).size : Int) % 8 != 0) = false := by simp; omega
        clear hA' hwt hm
        go_wp2
        go_round
        case rel => exact ⟨k + 1, by omega, by go_num, by rw [HW.out]; go_num, HA'.out⟩
        case measure => simp [intOf]; omega
      · have hm0 : (((ss[k]).size : Int) % 8 != 0) = true := by simp; omega
        have hf := all_falseF hk1 hm
        have HF := Lib.hid hf
        clear hf hm
        go_wp2
        go_ret
        exact ⟨ret_bool (by rw [frOk, HF.out]; simp), rfl⟩
    · obtain rfl : k = ss.length := by omega
      have hall : ss.all (fun s => decide (s.size % 8 = 0)) = true := by have := HA.out; rwa [List.take_of_length_le (Nat.le_refl _)] at this
      have hwt := wds_tot ss hall
      rw [List.take_of_length_le (Nat.le_refl _)] at hw1
      have hfin : frOk ss = (inB ss.length 1 6 && decide ((wds ss : Int) ≤ 200)) := by
        rw [frOk, hall, Bool.true_and, inB, Bool.eq_iff_iff]
        simp
        omega
      have HF := Lib.hid hfin
      clear hall hwt hfin
      cases hin : inB ss.length 1 6
      all_goals
        go_wp2_with (go_at_call 57; refine (l1In_any _ _ _ _).mono ?_; rintro e w' ⟨rfl, rfl⟩)
        all_goals go_ret
        all_goals refine ⟨ret_bool ?_, rfl⟩
        all_goals (rw [HF.out, hin]; simp; try assumption)

set_option maxHeartbeats 400000 in
theorem implFrameOk_any (A : Option Addr) (cap : Nat) (ss : List ByteArray) (w : World) (h : Strs w A ss) (hn : ss.length ≤ 1048576) :
    Calls Tryz.prog 42 #[.slice A ss.length cap] w fun e w' => e = .returned (.bool (frOk ss)) ∧ w = w' := by
  have H := Lib.hid h
  clear h
  by_cases h1 : ss.length < 1
  · have hf : frOk ss = false := by rw [frOk, decide_eq_false (by omega), Bool.false_and]
    rw [hf]
    clear hf
    go_enter Tryz.func42, Tryz.ntmps42
    go_wp2
    go_ret
    exact ⟨rfl, rfl⟩
  have h1 : 1 ≤ ss.length := by omega
  by_cases h6 : 6 < ss.length
  · have hf : frOk ss = false := by rw [frOk, decide_eq_false (by omega), Bool.false_and]
    rw [hf]
    clear hf
    go_enter Tryz.func42, Tryz.ntmps42
    go_wp2
    go_ret
    exact ⟨rfl, rfl⟩
  have h6 : ss.length ≤ 6 := by omega
  go_enter Tryz.func42, Tryz.ntmps42
  go_wp2
  go_loop [3, 5, 16] (fun m _ i => ∃ k : Nat, k ≤ ss.length ∧ i = .int .i64 k ∧ m = .int .i64 (tot (ss.take k) : Nat) ∧ tot (ss.take k) ≤ 1600 * k ∧ Hid ((ss.take k).all (fun s => decide (s.size % 8 = 0)) = true)) (fun _ _ i => ss.length - (intOf i).toNat)
  case atStart => exact ⟨0, by omega, rfl, by simp [tot], by simp [tot], by simp [Hid]⟩
  case round =>
    obtain ⟨k, hk, rfl, rfl, hT, HA⟩ := hrel
    by_cases hk1 : k < ss.length
    · obtain ⟨a, rfl, _, hc⟩ := H.out.2.resolve_left (by intro h; rw [h] at hk1; simp at hk1)
      have hck := hc k hk1
      have hsz := H.out.1 ss[k] (List.getElem_mem hk1)
      clear hc
      cases hw : wordsB (ss[k]).size
      · have hf : frOk ss = false := by
          rw [Bool.eq_false_iff]
          intro hok
          simp only [frOk, Bool.and_eq_true, decide_eq_true_eq] at hok
          obtain ⟨_, ha, ht⟩ := hok
          have hm : (ss[k]).size % 8 = 0 := by simpa using List.all_eq_true.1 ha ss[k] (List.getElem_mem hk1)
          have h1 := tot_take ss k hk1
          have h2 := tot_take_le ss (k + 1)
          have : wordsB (ss[k]).size = true := by rw [wordsB, decide_eq_true]; omega
          rw [this] at hw
          cases hw
        have HF := Lib.hid hf
        clear hf
        go_wp2_with (go_at_call 27; refine (isWords_any _ _ hsz).mono ?_; rintro e w' ⟨rfl, rfl⟩)
        go_ret
        exact ⟨ret_bool HF.out.symm, rfl⟩
      · have hw8 : (ss[k]).size % 8 = 0 ∧ (ss[k]).size ≤ 1600 := by simpa [wordsB] using hw
        obtain ⟨hm, hle⟩ := hw8
        have hA' := all_upto hk1 HA.out hm
        have HA' := Lib.hid hA'
        have htt := tot_take ss k hk1
        have hT' : tot (ss.take (k + 1)) ≤ 1600 * (k + 1) := by omega
        have HT' := Lib.hid hT'
        have HTT := Lib.hid htt
        clear hA' htt hm hT'
        go_wp2_with (go_at_call 27; refine (isWords_any _ _ hsz).mono ?_; rintro e w' ⟨rfl, rfl⟩)
        go_round
        case rel => exact ⟨k + 1, by omega, by go_num, by rw [HTT.out]; go_num, HT'.out, HA'.out⟩
        case measure => simp [intOf]; omega
    · obtain rfl : k = ss.length := by omega
      have hall : ss.all (fun s => decide (s.size % 8 = 0)) = true := by have := HA.out; rwa [List.take_of_length_le (Nat.le_refl _)] at this
      have hfin : frOk ss = decide ((tot ss : Int) ≤ 1600) := by
        rw [frOk, hall, Bool.true_and, decide_eq_true (show 1 ≤ ss.length ∧ ss.length ≤ 6 by omega), Bool.true_and, Bool.eq_iff_iff]
        simp
        omega
      have HF := Lib.hid hfin
      clear hall hfin
      go_wp2
      go_ret
      refine ⟨ret_bool ?_, rfl⟩
      rw [HF.out]

end Go.Proofs.YtbijfkpilncclaaGreat

/- One segment has room for all: plainly. No Go text. -/
namespace Go.Proofs.YtbijfkpilncclaaGreat
/-- what a writer of nodes does where there is room. -/
def OneW (L size : Nat) (wr : Wr) (Q : Nd → Prop) (f : Nd → Nat) : Prop := ∀ p s a, Q p → s.length % 8 = 0 → a < wn s → wn s + f p ≤ size → wn s + f p ≤ L → ∃ s1, wr p [s] 0 a = some [s1] ∧ s1.length = s.length + 8 * f p
theorem ptrs_one {L size : Nat} {wr : Wr} {Q : Nd → Prop} {f : Nd → Nat} (hw : OneW L size wr Q f) : ∀ (l : List Nd) (s : List UInt8) (a : Nat), (∀ p ∈ l, Q p) → s.length % 8 = 0 → a + l.length ≤ wn s → wn s + (l.map f).sum ≤ size → wn s + (l.map f).sum ≤ L → ∃ s1, ptrsP wr l [s] 0 a = some [s1] ∧ s1.length = s.length + 8 * (l.map f).sum
  | [], s, a, _, _, _, _, _ => ⟨s, rfl, by simp⟩
  | p :: t, s, a, hq, h8, ha, h1, h2 => by
    simp only [List.length_cons] at ha
    simp only [List.map_cons, List.sum_cons] at h1 h2 ⊢
    obtain ⟨s1, e1, l1⟩ := hw p s a (hq p (List.mem_cons_self ..)) h8 (by omega) (by omega) (by omega)
    have e : wn s1 = wn s + f p := by unfold wn; omega
    obtain ⟨s2, e2, l2⟩ := ptrs_one hw t s1 (a + 1) (fun q hm => hq q (List.mem_cons_of_mem _ hm)) (by omega) (by omega) (by omega) (by omega)
    exact ⟨s2, by simp only [ptrsP, e1, Option.bind_some]; exact e2, by omega⟩
theorem put_one (s t : List UInt8) (a : Nat) : putS [s] 0 a t = [spl s (8 * a) t] := rfl
theorem body_one {L size : Nat} {wr : Wr} {Q : Nd → Prop} {f : Nd → Nat} (hw : OneW L size wr Q f) {n : Nd} {s : List UInt8} {a : Nat} (hq : ∀ p ∈ n.ptrs, Q p) (h8 : s.length % 8 = 0) (ha : a + ownB n ≤ wn s) (h1 : wn s + (n.ptrs.map f).sum ≤ size) (h2 : wn s + (n.ptrs.map f).sum ≤ L) : ∃ s1, bodyP wr n [s] 0 a = some [s1] ∧ s1.length = s.length + 8 * (n.ptrs.map f).sum := by
  unfold bodyP
  rw [put_one]
  have hl : (spl s (8 * a) n.data.data.toList).length = s.length := spl_length (by have h8 := wds_len (ss := [s]) (fun i => by cases i with | zero => exact h8 | succ i => rfl) 0; rw [data_toList]; unfold ownB at ha; have : sgS [s] 0 = s := rfl; rw [this] at h8; omega)
  have hwn : wn (spl s (8 * a) n.data.data.toList) = wn s := by unfold wn; rw [hl]
  obtain ⟨s1, e1, l1⟩ := ptrs_one hw n.ptrs (spl s (8 * a) n.data.data.toList) (a + (n.data.size + 7) / 8) hq (by omega) (by rw [hwn]; unfold ownB at ha; omega) (by omega) (by omega)
  rw [hl] at l1
  exact ⟨s1, e1, l1⟩
theorem items_one {L size : Nat} {wr : Wr} {Q : Nd → Prop} {f : Nd → Nat} (hw : OneW L size wr Q f) (each : Nat) : ∀ (l : List Nd) (s : List UInt8) (a : Nat), (∀ y ∈ l, ownB y = each ∧ ∀ p ∈ y.ptrs, Q p) → s.length % 8 = 0 → a + l.length * each ≤ wn s → wn s + (l.map fun y => (y.ptrs.map f).sum).sum ≤ size → wn s + (l.map fun y => (y.ptrs.map f).sum).sum ≤ L → ∃ s1, itemsP wr each l [s] 0 a = some [s1] ∧ s1.length = s.length + 8 * (l.map fun y => (y.ptrs.map f).sum).sum
  | [], s, a, _, _, _, _, _ => ⟨s, rfl, by simp⟩
  | y :: t, s, a, hq, h8, ha, h1, h2 => by
    simp only [List.length_cons, Nat.add_mul, Nat.one_mul] at ha
    simp only [List.map_cons, List.sum_cons] at h1 h2 ⊢
    obtain ⟨hy, hyp⟩ := hq y (List.mem_cons_self ..)
    obtain ⟨s1, e1, l1⟩ := body_one (a := a) hw hyp h8 (by rw [hy]; omega) (show wn s + (y.ptrs.map f).sum ≤ size by omega) (show wn s + (y.ptrs.map f).sum ≤ L by omega)
    have e : wn s1 = wn s + (y.ptrs.map f).sum := by unfold wn; omega
    obtain ⟨s2, e2, l2⟩ := items_one hw each t s1 (a + each) (fun q hm => hq q (List.mem_cons_of_mem _ hm)) (by omega) (by omega) (by omega) (by omega)
    exact ⟨s2, by simp only [itemsP, e1, Option.bind_some]; exact e2, by omega⟩
theorem fill_one {L size : Nat} {wr : Wr} {Q : Nd → Prop} {f : Nd → Nat} (hw : OneW L size wr Q f) {n : Nd} {s : List UInt8} {a : Nat} (hf : formN n = true) (hq : ∀ p ∈ ptrsL n, Q p) (h8 : s.length % 8 = 0) (ha : a + ownN n ≤ wn s) (h1 : wn s + ((ptrsL n).map f).sum ≤ size) (h2 : wn s + ((ptrsL n).map f).sum ≤ L) : ∃ s1, fillP wr n [s] 0 a = some [s1] ∧ s1.length = s.length + 8 * ((ptrsL n).map f).sum := by
  have hsum : ((ptrsL n).map f).sum = (n.ptrs.map f).sum + (n.items.map fun y => (y.ptrs.map f).sum).sum := by unfold ptrsL; rw [List.map_append, List.sum_append, flat_sum]
  unfold fillP
  split
  · rename_i hm
    obtain ⟨g1, g2, g3⟩ := own_many hf hm
    have e0 : (n.ptrs.map f).sum = 0 := by rw [g3]; rfl
    rw [put_one]
    have hl : (spl s (8 * a) (tagW n)).length = s.length := spl_length (by rw [tagW_length]; unfold wn at ha; omega)
    have hwn : wn (spl s (8 * a) (tagW n)) = wn s := by unfold wn; rw [hl]
    obtain ⟨s1, e1, l1⟩ := items_one hw (itD n + itP n) n.items (spl s (8 * a) (tagW n)) (a + 1) (fun y hy => ⟨item_own g1 y hy, fun p hp => hq p (List.mem_append_right _ (List.mem_flatMap.2 ⟨y, hy, hp⟩))⟩) (by omega) (by omega) (by omega) (by omega)
    exact ⟨s1, e1, by omega⟩
  · rename_i hm
    obtain ⟨g1, g2⟩ := own_plain hf hm
    have e0 : (n.items.map fun y => (y.ptrs.map f).sum).sum = 0 := by rw [g2]; rfl
    obtain ⟨s1, e1, l1⟩ := body_one (a := a) hw (fun p hp => hq p (List.mem_append_left _ hp)) h8 (by omega) (show wn s + (n.ptrs.map f).sum ≤ size by omega) (show wn s + (n.ptrs.map f).sum ≤ L by omega)
    exact ⟨s1, e1, by omega⟩
theorem own_none {n : Nd} (hf : formN n = true) (ho : ownN n = 0) : ptrsL n = [] := by
  by_cases hm : n.kind = 2 ∧ n.size = 7
  · have := (own_many hf hm).2.1; omega
  · obtain ⟨g1, g2⟩ := own_plain hf hm
    have : n.ptrs.length = 0 := by unfold ownB at g1; omega
    unfold ptrsL
    rw [g2, List.eq_nil_of_length_eq_zero this]
    rfl
theorem wr_one (L size : Nat) : ∀ d, OneW L size (wrP L size d) (fun n => okN d n = true) (wordsN d)
  | 0 => fun p s a _ _ _ _ _ => ⟨s, rfl, rfl⟩
  | d + 1 => fun n s a hn h8 ha h1 h2 => by
    have hf := ok_formN hn
    simp only [wrP]
    split
    · rename_i hk0
      exact ⟨s, rfl, by rw [(none_words (d := d + 1) hf hk0).2]; rfl⟩
    · rename_i hk0
      have e3 : wordsN (d + 1) n = ownN n + ((ptrsL n).map (wordsN d)).sum := rfl
      split
      · rename_i hp
        refine ⟨_, by rw [put_one], ?_⟩
        rw [spl_length (by rw [ptrW_length]; unfold wn at ha; omega), e3, hp, own_none hf hp]
        rfl
      · rename_i hp
        have hr : roomP L size n [s] 0 a = some ([spl (s ++ zer (ownN n)) (8 * a) (ptrW n ((wn s : Int) - a - 1))], 0, wn s) := by
          unfold roomP
          have hs : sgS [s] 0 = s := rfl
          have ht : totS [s] = wn s := by simp [totS]
          rw [hs, ht, if_pos (by omega), if_pos (by omega)]
          rfl
        rw [hr, Option.bind_some]
        have hl : (spl (s ++ zer (ownN n)) (8 * a) (ptrW n ((wn s : Int) - a - 1))).length = s.length + 8 * ownN n := by
          rw [spl_length (by rw [ptrW_length, List.length_append]; unfold wn at ha; omega), List.length_append, zer_length]
        have hwn : wn (spl (s ++ zer (ownN n)) (8 * a) (ptrW n ((wn s : Int) - a - 1))) = wn s + ownN n := by unfold wn at hl ⊢; rw [hl]; omega
        obtain ⟨s1, g1, g2⟩ := fill_one (wr_one L size d) hf (ok_within hn hk0) (s := spl (s ++ zer (ownN n)) (8 * a) (ptrW n ((wn s : Int) - a - 1))) (a := wn s) (by omega) (by omega) (by omega) (by omega)
        exact ⟨s1, g1, by omega⟩
theorem build_one {n : Nd} {size : Nat} (h : nodeOk n = true) (hs : nodeWords n + 1 ≤ size) : ∃ s, buildP 200 size n = some [s] ∧ s.length = 8 * (nodeWords n + 1) := by
  obtain ⟨h1, h2⟩ := node_ok h
  have e : nodeWords n = wordsN 8 n := by unfold nodeWords; rw [if_pos h]
  rw [e] at hs ⊢
  obtain ⟨s, g1, g2⟩ := wr_one 200 size 8 n (zer 1) 0 h1 (by decide) (by decide) (by rw [show wn (zer 1) = 1 by decide]; omega) (by rw [show wn (zer 1) = 1 by decide]; omega)
  exact ⟨s, g1, by rw [g2, zer_length]; omega⟩
end Go.Proofs.YtbijfkpilncclaaGreat

/- Words of noughts behind a segment's words. -/
namespace Go.Proofs.YtbijfkpilncclaaGreat
open Go.RowKit
abbrev wdsT : TypeId := 88
theorem infoWd : (Tryz.prog.info? wdT).map (fun i => (i.zero, i.size, i.bytes)) = some (some (.agg #[.int .u8 0, .int .u8 0, .int .u8 0, .int .u8 0, .int .u8 0, .int .u8 0, .int .u8 0, .int .u8 0]), 8, 8) := by kernel_rfl
abbrev zWd : Value := .agg #[.int .u8 0, .int .u8 0, .int .u8 0, .int .u8 0, .int .u8 0, .int .u8 0, .int .u8 0, .int .u8 0]
def zrow (k : Nat) : List Value := List.replicate (8 * k) (.int .u8 0)
theorem zrow_len (k : Nat) : (zrow k).length = k * 8 := by simp [zrow]; omega
theorem zrow_one (k : Nat) : ∀ u ∈ zrow k, u.oneCell' = true := fun u h => by rw [List.eq_of_mem_replicate h]; rfl
theorem zero_cellsW (k : Nat) : (Builtin.zeroCells zWd.cells k).toList = zrow k := by
  have hz : zWd.cells = #[.int .u8 0, .int .u8 0, .int .u8 0, .int .u8 0, .int .u8 0, .int .u8 0, .int .u8 0, .int .u8 0] := rfl
  rw [hz]
  apply List.ext_getElem?
  intro j
  rw [Array.getElem?_toList]
  unfold Builtin.zeroCells zrow
  rw [Array.getElem?_map, List.getElem?_replicate]
  by_cases hj : j < k * 8
  · rw [Array.getElem?_range, if_pos (by simpa using hj), if_pos (by omega)]
    simp only [Option.map_some]
    have hm : j % 8 = 0 ∨ j % 8 = 1 ∨ j % 8 = 2 ∨ j % 8 = 3 ∨ j % 8 = 4 ∨ j % 8 = 5 ∨ j % 8 = 6 ∨ j % 8 = 7 := by omega
    show some (#[Value.int .u8 0, .int .u8 0, .int .u8 0, .int .u8 0, .int .u8 0, .int .u8 0, .int .u8 0, .int .u8 0][j % 8]!) = _
    rcases hm with e | e | e | e | e | e | e | e <;> rw [e] <;> rfl
  · rw [Array.getElem?_range, if_neg (by simpa using hj), if_neg (by omega)]
    rfl
theorem run_append_zw (ty : TypeId) (w : World) (base : Nat) (hbase : base ≤ w.heap.size) (v : Value) (n : Nat) (xs : List Value) (hown : w.ownsRow base wdT 8 v n xs) (k : Nat) (hb : n + k ≤ 3000000) :
    ∃ v' w', (Builtin.append_ #[wdsT, 3] ty #[v, .int .i64 (k : Int)]).run Tryz.prog w = .ok v' w' ∧ w'.ownsRow base wdT 8 v' (n + k) (xs ++ zrow k) ∧ w.grownBy w' v.ownBlock ∧ (v'.ownBlock = v.ownBlock ∨ v'.ownBlock = some w.heap.size) := by
  obtain ⟨i0, hi, hz0, hz1, hz2⟩ := info_parts infoWd
  have hu : Tryz.prog.underlying wdsT = some (.slice wdT) := Tryz.underlying88
  have hti : Tryz.prog.underlying 3 = some (.int .i64) := Tryz.underlying3
  have hrl : (zrow k).length = k * 8 := zrow_len k
  have hlen : (xs ++ zrow k).length = (n + k) * 8 := by rw [List.length_append, hown.1, hrl, Nat.add_mul]
  have hzs : (Builtin.zeroCells zWd.cells k).size = k * 8 := by rw [size_zeroCells]; rfl
  have grown : ∀ (old : Nat), old < n + k → ∀ (row : Option Nat),
      (w.drew.alloc (.cells (xs.toArray ++ Builtin.zeroCells zWd.cells k ++ Builtin.zeroCells zWd.cells (grownCap w (n + k) old wdT - (n + k))) wdT)).ownsRow base wdT 8
        (.slice (some ⟨w.heap.size, 0, none⟩) (n + k) (grownCap w (n + k) old wdT)) (n + k) (xs ++ zrow k) ∧
      w.grownBy (w.drew.alloc (.cells (xs.toArray ++ Builtin.zeroCells zWd.cells k ++ Builtin.zeroCells zWd.cells (grownCap w (n + k) old wdT - (n + k))) wdT)) row := by
    intro old ho row
    have hge := grownCap_ge w (n + k) old wdT
    have hcm : grownCap w (n + k) old wdT ≤ maxLen := grownCap_le_maxLen w (n + k) old wdT (by unfold maxLen; omega)
    refine ⟨⟨hlen, .inr ⟨w.heap.size, _, _, rfl, hbase, heap_alloc_new w.drew _, hge, hcm, ?_, ?_⟩⟩, ⟨rfl, rfl, rfl, by simp, fun j hj _ => Below.heap_alloc w.drew _ j hj⟩⟩
    · have h1 : (Builtin.zeroCells zWd.cells (grownCap w (n + k) old wdT - (n + k))).size = (grownCap w (n + k) old wdT - (n + k)) * 8 := by rw [size_zeroCells]; rfl
      have h2 := hown.1
      simp only [Array.size_append, List.size_toArray, hzs, h1]
      omega
    · simp only [Array.toList_append, List.append_assoc, zero_cellsW]
      rw [← List.append_assoc, ← hlen]
      exact List.take_left
  rcases hown.2 with ⟨rfl, rfl⟩ | ⟨g, cap, cur, rfl, hbg, hg, hnc, hcm, hcs, htake⟩
  · have hx : xs = [] := List.eq_nil_of_length_eq_zero (by simpa using hown.1)
    subst hx
    by_cases hm : k = 0
    · subst hm
      refine ⟨.slice none 0 0, w, ?_, World.ownsRow_nil w base wdT 8, ⟨rfl, rfl, rfl, Nat.le_refl _, fun _ _ _ => rfl⟩, .inl rfl⟩
      simp [Builtin.append_, run_underlying hu, run_underlying hti, sizeOf, typeInfo, hi, asInt, asIntOf, IntKind.wrap_i64]
    · have hr := Lib.run_append_nil_zeros (P := Tryz.prog) w wdsT 3 ty wdT i0 _ .i64 .i64 hu hti hi hz0 k (by omega) (by rw [hz1]; decide) (by omega) (by rw [hz2]; omega)
      have hgr := grown 0 (by omega) (Value.ownBlock (.slice none 0 0))
      simp only [Nat.zero_add, List.nil_append, Array.empty_append] at hgr ⊢
      exact ⟨_, _, hr, hgr.1, hgr.2, Or.inr rfl⟩
  · by_cases hroom : n + k ≤ cap
    · have hst := run_storeCells_at Tryz.prog g (n * 8) wdT (zrow k) 0 cur w hg (by rw [hrl, hcs]; omega) (zrow_one _)
      simp only [Nat.add_zero] at hst
      have hr : (Builtin.append_ #[wdsT, 3] ty #[.slice (some ⟨g, 0, none⟩) n cap, .int .i64 (k : Int)]).run Tryz.prog w = .ok (.slice (some ⟨g, 0, none⟩) (n + k) cap) (w.setRow g (cur.toList.take (n * 8) ++ zrow k ++ cur.toList.drop (n * 8 + (zrow k).length)).toArray) := by
        have hw : IntKind.i64.wrap (k : Int) = k := by rw [IntKind.wrap_i64]; omega
        have hneg : ¬ ((k : Int) < 0) := by omega
        have h48i : ¬ (281474976710656 < (k : Int) * 8) := by omega
        by_cases hk0 : k = 0
        · subst hk0
          have hst0 := hst
          simp [zrow, storeCells] at hst0
          simp [Builtin.append_, run_underlying hu, run_underlying hti, sizeOf, typeInfo, hi, hz2, asInt, asIntOf, hnc, IntKind.wrap_i64, storeCells, zrow]
          exact hst0
        · have hns : ¬ (k * 8 = 0) := by omega
          simp [Builtin.append_, run_underlying hu, run_underlying hti, sizeOf, typeInfo, zeroValue, hi, hz0, hz1, hz2, asInt, asIntOf, hw, hneg, h48i, hns, hroom, Addr.add_lit, zero_cellsW, hst]
      refine ⟨_, _, hr, ⟨hlen, .inr ⟨g, cap, _, rfl, hbg, setRow_heap w g cur _ wdT _ hg, hroom, hcm, ?_, ?_⟩⟩, ⟨rfl, rfl, rfl, by simp, fun k _ hk => setRow_other w g k _ (fun e => hk (by simp [Value.ownBlock, e]))⟩, Or.inl rfl⟩
      · simp only [List.size_toArray, List.length_append, List.length_take, List.length_drop, Array.length_toList]
        omega
      · rw [htake, ← hlen]
        exact List.take_left
    · have holds : ∀ j u, xs[j]? = some u → w.cell? ((⟨g, 0, none⟩ : Addr).add j) = some u := hown.cells (g := g) rfl
      have hold : (Builtin.firstCells i0.size n (.slice (some ⟨g, 0, none⟩) n cap)).run Tryz.prog w.drew = .ok xs.toArray w.drew := by
        rw [hz1]
        exact run_firstCells_some (P := Tryz.prog) w.drew 8 n ⟨g, 0, none⟩ n cap xs hown.1 (by simpa using holds)
      have hr := Lib.run_append_grow_zeros (P := Tryz.prog) w wdsT 3 ty wdT i0 _ .i64 .i64 hu hti hi hz0 (some ⟨g, 0, none⟩) n cap xs hold k (by omega) (by rw [hz1]; decide) (by omega) (by omega) (by rw [hz2]; omega) (by rw [hz2]; exact growslice_fits (by omega) (by omega))
      have hgr := grown cap (by omega) (Value.ownBlock (.slice (some ⟨g, 0, none⟩) n cap))
      exact ⟨_, _, hr, hgr.1, hgr.2, Or.inr rfl⟩
theorem own_sliceW {w : World} {B T sz n : Nat} {v : Value} {xs : List Value} (h : w.ownsRow B T sz v n xs) : ∃ A c, v = .slice A n c := by
  rcases h.2 with ⟨rfl, rfl⟩ | ⟨g, cap, _, rfl, _⟩
  · exact ⟨none, 0, rfl⟩
  · exact ⟨_, cap, rfl⟩
theorem wpList_append_zw {ops : Array Oper} {rest : List Oper} {o : Oper} {a : Act} {w : World} {Q : Exit → Act → World → Prop} (hgd : o.guard = none) (s x : Operand)
    (ho : o.op = .call { callee := .builtin .append, args := #[s, x], argTypes := #[wdsT, 3] }) (base : Nat) (hbase : base ≤ w.heap.size)
    (v : Value) (n : Nat) (xs : List Value) (hs : a.eval s = v) (hown : w.ownsRow base wdT 8 v n xs) (k : Nat) (hx : a.eval x = .int .i64 (k : Int)) (hb : n + k ≤ 3000000)
    (h : ∀ A' c' w', Hid (w'.ownsRow base wdT 8 (.slice A' (n + k) c') (n + k) (xs ++ zrow k)) → Hid (w.grownBy w' v.ownBlock) → Hid ((Value.slice A' (n + k) c').ownBlock = v.ownBlock ∨ (Value.slice A' (n + k) c').ownBlock = some w.heap.size) → wpList Tryz.prog ops Q rest (a.put o.dst (.slice A' (n + k) c')) w') :
    wpList Tryz.prog ops Q (o :: rest) a w :=
  wpList_plain hgd fun K hK => by
    obtain ⟨v', w', hr, h2, h3, h5⟩ := run_append_zw o.type w base hbase v n xs hown k hb
    obtain ⟨A', c', rfl⟩ := own_sliceW h2
    unfold Oper.wp execOp
    simp only [ho, resolve, invoke, builtin, Sem.run_bind, Sem.run_pure, Result.andThen_ok, List.map_toArray, List.map_cons, List.map_nil, hs, hx, hr]
    exact hK _ _ (h A' c' w' h2 h3 h5)
end Go.Proofs.YtbijfkpilncclaaGreat

/- The program's builder: a segment more, words more, whether there is room. -/
namespace Go.Proofs.YtbijfkpilncclaaGreat
open Go.RowKit Go.Deep
abbrev tmT : TypeId := 113
theorem infoPs : (Tryz.prog.info? psgT).map (fun i => (i.zero, i.size, i.bytes)) = some (some (.pointer none), 1, 8) := by kernel_rfl
/-- too much. -/
def Too (P : Nat → Prop) (w : World) (e : Ending) (w' : World) : Prop := e = .panicked [{ v := .iface tmT (.agg #[]), recovered := false }] ∧ KP P w w'
def OpenB (base b size : Nat) (ss : Segs) (P : Nat → Prop) (w : World) (e : Ending) (w' : World) : Prop :=
  e = .returned (.int .i64 (ss.length : Int)) ∧ KP P w w' ∧ Bun w' base b size (ss ++ [[]]) (fun k => P k ∨ w.heap.size ≤ k)
theorem range_len (n : Nat) (g : Nat → Nat) : ((List.range n).map fun i => Value.pointer (some ⟨g i, 0, none⟩)).length = n := by simp
set_option maxHeartbeats 2000000 in
set_option maxRecDepth 100000 in
theorem open_full (base b size : Nat) (ss : Segs) (P : Nat → Prop) (w : World) (h : Bun w base b size ss P) (h6 : ss.length = 6) :
    Calls Tryz.prog 40 #[.pointer (some ⟨b, 0, none⟩)] w (Too P w) := by
  obtain ⟨row, g, v, hB, hP⟩ := h
  obtain ⟨r, cap, rfl, hrow⟩ := hB.row (i := 0) (by omega)
  obtain ⟨c0, c1, c2⟩ := cells3 hB.hb
  rw [h6] at c0
  clear hB hP hrow h6
  go_enter Tryz.func40, Tryz.ntmps40
  go_wp2
  exact ⟨rfl, rfl, KP.refl _ _⟩
theorem cell_second (w : World) (o : Obj) (v : Value) (T : TypeId) : ∀ (j : Nat) (u : Value), [v][j]? = some u → ((w.alloc o).alloc (.cells #[v] T)).cell? ((⟨w.heap.size + 1, 0, none⟩ : Addr).add j) = some u := by
  intro j u h
  have := cell_one_new (w.alloc o) v T j u h
  simpa using this
set_option maxHeartbeats 2000000 in
set_option maxRecDepth 100000 in
theorem open_more (base b size : Nat) (ss : Segs) (P : Nat → Prop) (w : World) (h : Bun w base b size ss P) (h6 : ss.length < 6) :
    Calls Tryz.prog 40 #[.pointer (some ⟨b, 0, none⟩)] w (OpenB base b size ss P w) := by
  obtain ⟨i0, hi, hz0, hz1, hz2⟩ := info_parts infoPs
  obtain ⟨row, g, v, hB, hP⟩ := h
  obtain ⟨A, cap, rfl⟩ := own_sliceW hB.hr
  have hbl := hB.lt b (.inl rfl)
  have hb1 : ((ss.length : Int) == 6) = false := by simp; omega
  have hwa : Below w.heap.size w ((w.alloc (.cells #[.slice none 0 0] sgT)).alloc (.cells #[.pointer (some ⟨w.heap.size, 0, none⟩)] psgT)) := ((Below.refl _ w).alloc (Nat.le_refl _) _).alloc (by simp) _
  have hwn : ((w.alloc (.cells #[.slice none 0 0] sgT)).alloc (.cells #[.pointer (some ⟨w.heap.size, 0, none⟩)] psgT)).heap[w.heap.size]? = some (.cells #[.slice none 0 0] sgT (0, 0)) := heap_alloc_keep (heap_alloc_new w _) _
  obtain ⟨c0, c1, c2⟩ := cells3 hB.hb
  have HR := Lib.hid (own_keepB hB.hr (fun k e => hwa.block k (hB.hr.lt k e).2))
  have HB := Lib.hid hB
  have HWA := Lib.hid hwa
  have HWN := Lib.hid hwn
  have HP := Lib.hid hP
  have HL := Lib.hid h6
  clear hB hP hwa hwn
  go_enter Tryz.func40, Tryz.ntmps40
  go_wp2_with (at_builtin; refine wpList_append_own_at _ rfl (.tmp 15) (.tmp 17) 55 rfl base psgT i0 (.pointer none) 1 8 Tryz.underlying55 hi hz0 hz1 hz2 rfl (by decide) _ ss.length _ rfl ((HB.out.hr.alloc _).alloc _) ⟨w.heap.size + 1, 0, none⟩ 1 1 [.pointer (some ⟨w.heap.size, 0, none⟩)] ?c0 rfl ?c1 (by simp [Value.oneCell']) (by unfold maxLen; omega) (by omega) (by simp; omega) ?_)
  case c0 => rfl
  case c1 => exact cell_second _ _ _ _
  intro v' w1 hown' hgrow _ hat
  obtain ⟨A', c', rfl⟩ := own_sliceW hown'
  have hB1 := HB.out.more (by omega) HWA.out HWN.out _ hown' hgrow
  have hb1 := hB1.hb
  have hbr : (w1.setCell ⟨b, 0, none⟩ (.slice A' (ss.length + 1) c')).heap[b]? = some (.cells #[.slice A' (ss.length + 1) c', .int .i64 size, .int .i64 (totS ss : Nat)] buT (0, 0)) := hb1
  have hk1 : KP P w w1 := ⟨hgrow.os.trans HWA.out.os, hgrow.tape.trans HWA.out.tape, hgrow.output.trans HWA.out.output, Nat.le_trans HWA.out.size hgrow.size, fun k hk hn => (hgrow.block k (by simp; omega) (fun e => hn (HP.out k (.inr (.inl e.symm))))).trans (HWA.out.block k hk)⟩
  have hk2 : KP P w (w1.setCell ⟨b, 0, none⟩ (.slice A' (ss.length + 1) c')) := hk1.trans (KP.set (HP.out b (.inl rfl)) w1 0 _) (fun _ _ h => h)
  have hfin : Bun (w1.setCell ⟨b, 0, none⟩ (.slice A' (ss.length + 1) c')) base b size (ss ++ [[]]) (fun k => P k ∨ w.heap.size ≤ k) := by
    refine ⟨_, _, _, by rw [totS_app]; exact hB1, ?_⟩
    rintro k (rfl | e | ⟨i, hi, e | e⟩)
    · exact .inl (HP.out _ (.inl rfl))
    · rcases hat with e2 | e2
      · exact .inl (HP.out _ (.inr (.inl (by rw [← e2]; exact e))))
      · rw [e2] at e; injection e with e; right; omega
    · rw [e]; dsimp only; split
      · exact .inr (Nat.le_refl _)
      · exact .inl (HP.out _ (.inr (.inr ⟨i, by simp at hi; omega, .inl rfl⟩)))
    · dsimp only at e; split at e
      · cases e
      · exact .inl (HP.out _ (.inr (.inr ⟨i, by simp at hi; omega, .inr e⟩)))
  have cb := cells3 hbr
  have hfr : w1.frozen? ⟨b, 0, none⟩ = false ∧ (∃ u, w1.cell? ⟨b, 0, none⟩ = some u) := by
    have h1 : w1.heap[b]? = some (.cells #[.slice A ss.length cap, .int .i64 size, .int .i64 (totS ss : Nat)] buT (0, 0)) := (hgrow.block b (by simp; omega) (fun e => by obtain ⟨c, hc⟩ := own_T HB.out.hr e.symm; exact ne_T HB.out.hb hc (by decide) rfl)).trans ((HWA.out.block b hbl.2).trans HB.out.hb)
    exact ⟨row_free h1 0, _, (cells3 h1).1⟩
  obtain ⟨hf0, u0, hu0⟩ := hfr
  have HK := Lib.hid hk2
  have HF := Lib.hid hfin
  have hc0 := cb.1
  clear hb1 hbr hk1 hk2 hfin cb hown' hgrow hat hB1 c0 c1 c2
  go_wp2
  go_ret
  exact ⟨rfl, HK.out, HF.out⟩
end Go.Proofs.YtbijfkpilncclaaGreat
