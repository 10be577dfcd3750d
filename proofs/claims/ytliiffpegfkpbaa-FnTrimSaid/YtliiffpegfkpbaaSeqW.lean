/- impl.wordsOf: what it yields: the words of a text, one by one, for every loop body that leaves the text's box as it was. -/
import Derived.RangeFuncNested
import Derived.RangeFuncBound
import Derived.RangeFuncCalls
import Derived.RangeFuncLeaves
import Derived.Shelf.Abstract
import Derived.Shelf.RegionOpen
import Derived.WalkKit
import Derived.OwnWalkIn
import Derived.TacticsInMore
import Derived.LoopNIn
import Derived.LoopIn
import Derived.Test.YtliiffpegfkpbaaWordAt
import Derived.Test.YtliiffpegfkpbaaMath2
namespace Go.Proofs.Ytliiffpegfkpbaa
open Go.RowKit Go.Shelf
attribute [local go_sem] Oper.semAt_some
/-- a word. -/
abbrev W8 := { l : List UInt8 // l.length = 8 }
def wordQ (l : List UInt8) (i : Nat) : W8 := ⟨(l.drop (8 * i) ++ [0, 0, 0, 0, 0, 0, 0, 0]).take 8, by simp⟩
theorem wordQ_in (l : List UInt8) (i : Nat) (h : 8 * i + 8 ≤ l.length) : (wordQ l i).1 = (l.drop (8 * i)).take 8 := by
  show List.take 8 (l.drop (8 * i) ++ [0, 0, 0, 0, 0, 0, 0, 0]) = _
  rw [List.take_append_of_le_length (by simp; omega)]
/-- the words of a text. -/
def wordsQ (l : List UInt8) : List W8 := (List.range (l.length / 8)).map (wordQ l)
theorem wordsQ_length (l : List UInt8) : (wordsQ l).length = l.length / 8 := by simp [wordsQ]
theorem upto_snoc (l : List UInt8) (k : Nat) : (List.range (k + 1)).map (wordQ l) = (List.range k).map (wordQ l) ++ [wordQ l k] := by rw [List.range_succ, List.map_append]; rfl
theorem upto_pre (l : List UInt8) (k : Nat) (h : k ≤ l.length / 8) : (List.range k).map (wordQ l) <+: wordsQ l := by
  obtain ⟨j, hj⟩ : ∃ j, l.length / 8 = k + j := ⟨l.length / 8 - k, by omega⟩
  rw [wordsQ, hj, List.range_add, List.map_append]
  exact List.prefix_append _ _
/-- what a round must keep: the text's box. -/
def KeepBox (Bn : Nat) (A B : World) : Prop := B.heap[Bn]? = A.heap[Bn]?
theorem grown_of_below {w w' : World} (h : Below w.heap.size w w') : w.grownBy w' none := ⟨h.os, h.tape, h.output, h.size, fun k hk _ => h.block k hk⟩

set_option maxRecDepth 100000 in
set_option maxHeartbeats 2000000 in
theorem words1_in (n : Nat) (_hn : 1 ≤ n) (l Bn : Nat) (s : ByteArray) (hs : s.size ≤ maxLen) (J Jx : List W8 → World → Prop) (W : World) (hJ : AbidesFrom W.heap.size J)
    (hY : ∀ pre x W1, J pre W1 → pre.length < s.size / 8 → YieldAt Fence.wide (n - 1) Try.prog l #[.agg (wd x.1)] W1 fun e W' =>
      (e = .returned (.bool true) ∧ J (pre ++ [x]) W' ∧ KeepBox Bn W1 W') ∨ (e = .returned (.bool false) ∧ Jx (pre ++ [x]) W'))
    (hBn : W.heap[Bn]? = some (.cells #[.string s] 9 (0, 0))) (h0 : J [] W) :
    CallsIn Fence.wide n Try.prog 65 #[.func (.yield l) #[] #[], .pointer (some ⟨Bn, 0, none⟩)] W fun e W' => (∃ v, e = .returned v) ∧
      ((∃ ys, ys = wordsQ s.data.toList ∧ J ys W') ∨ (∃ pre, pre <+: wordsQ s.data.toList ∧ Jx pre W')) := by
  have hs' := hs
  unfold maxLen at hs'
  have hsl : s.data.toList.length = s.size := by simp
  have HSL := Lib.hid hsl
  clear hsl
  have hBlt := (Array.getElem?_eq_some_iff.1 hBn).1
  have hc0 := Boxed.cell (t := 9) hBn
  refine callsIn_of_wp Try.func65 rfl trivial ?_ rfl
  simp only [Try.ntmps65, List.size_toArray, List.length_cons, List.length_nil, Nat.reduceAdd, Nat.reduceSub, Array.replicate_succ, Array.replicate_zero, List.push_toArray, List.append_toArray, List.nil_append, List.cons_append]
  gi_wp2
  gi_loopw [3, 7] (fun _ i wr => ∃ k : Nat, k ≤ s.size / 8 ∧ i = .int .i64 k ∧ J ((List.range k).map (wordQ s.data.toList)) wr ∧ Hid (wr.heap[Bn]? = some (.cells #[.string s] 9 (0, 0)))) (fun _ i _ => s.size / 8 - (intOf i).toNat)
  case atStart => exact ⟨0, by omega, rfl, h0, hBn⟩
  case round =>
    obtain ⟨k, hk, rfl, hJs, HB⟩ := hrel
    by_cases hk1 : k < s.size / 8
    · have hcell := Boxed.cell (t := 9) HB.out
      have hlt1 : decide ((k : Int) < (s.size : Int) / 8) = true := by simp; omega
      gi_wp2_with fail
      have hwq := wordQ_in s.data.toList k (by rw [HSL.out]; omega)
      have HWQ := Lib.hid hwq
      clear hwq
      refine ⟨trivial, (callsIn_wide.2 (wordAt_any s k _ hs (by omega) (by omega))).mono ?_⟩
      rintro e w1 ⟨rfl, hb1⟩
      rw [Int.toNat_natCast, ← HWQ.out]
      have hJ1 := hJ _ _ _ none hJs (grown_of_below hb1) (fun r e => by cases e)
      have HB1 : Hid (w1.heap[Bn]? = some (.cells #[.string s] 9 (0, 0))) := Lib.hid ((hb1.block Bn (Array.getElem?_eq_some_iff.1 HB.out).1).trans HB.out)
      obtain ⟨fn, tmps, assign, body, hy, hR⟩ := hY _ (wordQ s.data.toList k) w1 hJ1 (by simpa using hk1)
      clear hb1 hcell
      generalize hx : wd (wordQ s.data.toList k).1 = x at hy ⊢
      have HX := Lib.hid hx
      clear hx
      gi_wp2
      refine hR.mono ?_
      rintro e W3 (⟨rfl, hJ3, hk3⟩ | ⟨rfl, hJx3⟩)
      · gi_wp2
        go_roundw
        case rel => exact ⟨k + 1, by omega, by go_num, by rw [upto_snoc]; exact hJ3, hk3.trans HB1.out⟩
        case measure => simp [intOf]; omega
      · gi_wp2
        refine bodyPost_ret (results_none rfl _ _ _) rfl ?_
        exact ⟨⟨_, rfl⟩, .inr ⟨_, by rw [← upto_snoc]; exact upto_pre _ _ (by rw [HSL.out]; omega), hJx3⟩⟩
    · obtain rfl : k = s.size / 8 := by omega
      have hlt1 : decide (((s.size / 8 : Nat) : Int) < (s.size : Int) / 8) = false := by simp
      gi_wp2
      go_end0
      exact ⟨⟨_, rfl⟩, .inl ⟨_, by rw [wordsQ, HSL.out], hJs⟩⟩
/-- wordsOf yields the words of its text. -/
theorem words_stops (n : Nat) (hn : 1 ≤ n) (Bn : Nat) (s : ByteArray) (hs : s.size ≤ maxLen) (w : World) (hBn : w.heap[Bn]? = some (.cells #[.string s] 9 (0, 0))) :
    SeqStopsK Fence.wide n Try.prog 65 #[.pointer (some ⟨Bn, 0, none⟩)] (fun x : W8 => #[Value.agg (wd x.1)]) (KeepBox Bn) (fun ys => ys = wordsQ s.data.toList) (fun pre => pre <+: wordsQ s.data.toList) (s.size / 8) w := fun l J Jx W hW hJ _ hY h0 =>
  words1_in n hn l Bn s hs J Jx W hJ hY ((hW.block Bn (Array.getElem?_eq_some_iff.1 hBn).1).trans hBn) h0
end Go.Proofs.Ytliiffpegfkpbaa
