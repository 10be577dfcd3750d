/- Texts of the proof of the law FnExactCanonPut, side by side: part 13. -/
import Derived.RangeFuncNested
import Derived.RangeFuncBound
import Derived.RangeFuncCalls
import Derived.RangeFuncLeaves
import Derived.Shelf.Abstract
import Derived.Shelf.RegionOpen
import Derived.WalkKit
import Derived.OwnWalkIn
import Derived.TacticsInMore
import Derived.LoopNIn
import Derived.LoopIn
import Derived.Deep.RegionLaw
import Derived.Deep.RegionWith
import Derived.Deep.DeepMust
import Derived.WalkSpells
import Derived.WalkLawsBesides
import Derived.Deep.QuietTactic
import Derived.BigQuiet
import Derived.Lib.Hide
import Derived.Stop.BytesEq
import Derived.Test.YtbijfkpilncclaaGreatMExactCanonPut00
import Derived.Test.YtbijfkpilncclaaGreatMExactCanonPut01
import Derived.Test.YtbijfkpilncclaaGreatMExactCanonPut02
import Derived.Test.YtbijfkpilncclaaGreatMExactCanonPut03
import Derived.Test.YtbijfkpilncclaaGreatMExactCanonPut04
import Derived.Test.YtbijfkpilncclaaGreatMExactCanonPut05
import Derived.Test.YtbijfkpilncclaaGreatMExactCanonPut06
import Derived.Test.YtbijfkpilncclaaGreatMExactCanonPut07
import Derived.Test.YtbijfkpilncclaaGreatMExactCanonPut08
import Derived.Test.YtbijfkpilncclaaGreatMExactCanonPut09
import Derived.Test.YtbijfkpilncclaaGreatMExactCanonPut10
import Derived.Test.YtbijfkpilncclaaGreatMExactCanonPut11
import Derived.Test.YtbijfkpilncclaaGreatMExactCanonPut12
/- impl.wordsOf: what it yields: the words of a text, one by one, for every loop body that leaves the text's box as it was. -/
namespace Go.Proofs.YtbijfkpilncclaaGreat
open Go.RowKit Go.Shelf
attribute [local go_sem] Oper.semAt_some
/-- a word. -/
abbrev W8 := { l : List UInt8 // l.length = 8 }
def wordQ (l : List UInt8) (i : Nat) : W8 := ⟨(l.drop (8 * i) ++ [0, 0, 0, 0, 0, 0, 0, 0]).take 8, by simp⟩
theorem wordQ_in (l : List UInt8) (i : Nat) (h : 8 * i + 8 ≤ l.length) : (wordQ l i).1 = (l.drop (8 * i)).take 8 := by
  show List.take 8 (l.drop (8 * i) ++ [0, 0, 0, 0, 0, 0, 0, 0]) = _
  rw [List.take_append_of_le_length (by simp; omega)]
/-- the words of a text. -/
def wordsQ (l : List UInt8) : List W8 := (List.range (l.length / 8)).map (wordQ l)
theorem wordsQ_length (l : List UInt8) : (wordsQ l).length = l.length / 8 := by simp [wordsQ]
theorem upto_snoc (l : List UInt8) (k : Nat) : (List.range (k + 1)).map (wordQ l) = (List.range k).map (wordQ l) ++ [wordQ l k] := by rw [List.range_succ, List.map_append]; rfl
theorem upto_pre (l : List UInt8) (k : Nat) (h : k ≤ l.length / 8) : (List.range k).map (wordQ l) <+: wordsQ l := by
  obtain ⟨j, hj⟩ : ∃ j, l.length / 8 = k + j := ⟨l.length / 8 - k, by omega⟩
  rw [wordsQ, hj, List.range_add, List.map_append]
  exact List.prefix_append _ _
/-- what a round must keep: the text's box. -/
def KeepBox (Bn : Nat) (A B : World) : Prop := B.heap[Bn]? = A.heap[Bn]?
theorem grown_of_below {w w' : World} (h : Below w.heap.size w w') : w.grownBy w' none := ⟨h.os, h.tape, h.output, h.size, fun k hk _ => h.block k hk⟩

set_option maxRecDepth 100000 in
set_option maxHeartbeats 2000000 in
theorem words1_in (n : Nat) (_hn : 1 ≤ n) (l Bn : Nat) (s : ByteArray) (hs : s.size ≤ maxLen) (J Jx : List W8 → World → Prop) (W : World) (hJ : AbidesFrom W.heap.size J)
    (hY : ∀ pre x W1, J pre W1 → pre.length < s.size / 8 → YieldAt Fence.wide (n - 1) Tryz.prog l #[.agg (wd x.1)] W1 fun e W' =>
      (e = .returned (.bool true) ∧ J (pre ++ [x]) W' ∧ KeepBox Bn W1 W') ∨ (e = .returned (.bool false) ∧ Jx (pre ++ [x]) W'))
    (hBn : W.heap[Bn]? = some (.cells #[.string s] 9 (0, 0))) (h0 : J [] W) :
    CallsIn Fence.wide n Tryz.prog 99 #[.func (.yield l) #[] #[], .pointer (some ⟨Bn, 0, none⟩)] W fun e W' => (∃ v, e = .returned v) ∧
      ((∃ ys, ys = wordsQ s.data.toList ∧ J ys W') ∨ (∃ pre, pre <+: wordsQ s.data.toList ∧ Jx pre W')) := by
  have hs' := hs
  unfold maxLen at hs'
  have hsl : s.data.toList.length = s.size := by simp
  have HSL := Lib.hid hsl
  clear hsl
  have hBlt := (Array.getElem?_eq_some_iff.1 hBn).1
  have hc0 := Boxed.cell (t := 9) hBn
  refine callsIn_of_wp Tryz.func99 rfl trivial ?_ rfl
  simp only [Tryz.ntmps99, List.size_toArray, List.length_cons, List.length_nil, Nat.reduceAdd, Nat.reduceSub, Array.replicate_succ, Array.replicate_zero, List.push_toArray, List.append_toArray, List.nil_append, List.cons_append]
  gi_wp2
  gi_loopw [3, 7] (fun _ i wr => ∃ k : Nat, k ≤ s.size / 8 ∧ i = .int .i64 k ∧ J ((List.range k).map (wordQ s.data.toList)) wr ∧ Hid (wr.heap[Bn]? = some (.cells #[.string s] 9 (0, 0)))) (fun _ i _ => s.size / 8 - (intOf i).toNat)
  case atStart => exact ⟨0, by omega, rfl, h0, hBn⟩
  case round =>
    obtain ⟨k, hk, rfl, hJs, HB⟩ := hrel
    by_cases hk1 : k < s.size / 8
    · have hcell := Boxed.cell (t := 9) HB.out
      have hlt1 : decide ((k : Int) < (s.size : Int) / 8) = true := by simp; omega
      gi_wp2_with fail
      have hwq := wordQ_in s.data.toList k (by rw [HSL.out]; omega)
      have HWQ := Lib.hid hwq
      clear hwq
      refine ⟨trivial, (callsIn_wide.2 (wordAt_any s k _ hs (by omega) (by omega))).mono ?_⟩
      rintro e w1 ⟨rfl, hb1⟩
      rw [Int.toNat_natCast, ← HWQ.out]
      have hJ1 := hJ _ _ _ none hJs (grown_of_below hb1) (fun r e => by cases e)
      have HB1 : Hid (w1.heap[Bn]? = some (.cells #[.string s] 9 (0, 0))) := Lib.hid ((hb1.block Bn (Array.getElem?_eq_some_iff.1 HB.out).1).trans HB.out)
      obtain ⟨fn, tmps, assign, body, hy, hR⟩ := hY _ (wordQ s.data.toList k) w1 hJ1 (by simpa using hk1)
      clear hb1 hcell
      generalize hx : wd (wordQ s.data.toList k).1 = x at hy ⊢
      have HX := Lib.hid hx
      clear hx
      gi_wp2
      refine hR.mono ?_
      rintro e W3 (⟨rfl, hJ3, hk3⟩ | ⟨rfl, hJx3⟩)
      · gi_wp2
        go_roundw
        case rel => exact ⟨k + 1, by omega, by go_num, by rw [upto_snoc]; exact hJ3, hk3.trans HB1.out⟩
        case measure => simp [intOf]; omega
      · gi_wp2
        refine bodyPost_ret (results_none rfl _ _ _) rfl ?_
        exact ⟨⟨_, rfl⟩, .inr ⟨_, by rw [← upto_snoc]; exact upto_pre _ _ (by rw [HSL.out]; omega), hJx3⟩⟩
    · obtain rfl : k = s.size / 8 := by omega
      have hlt1 : decide (((s.size / 8 : Nat) : Int) < (s.size : Int) / 8) = false := by simp
      gi_wp2
      go_end0
      exact ⟨⟨_, rfl⟩, .inl ⟨_, by rw [wordsQ, HSL.out], hJs⟩⟩
/-- wordsOf yields the words of its text. -/
theorem words_stops (n : Nat) (hn : 1 ≤ n) (Bn : Nat) (s : ByteArray) (hs : s.size ≤ maxLen) (w : World) (hBn : w.heap[Bn]? = some (.cells #[.string s] 9 (0, 0))) :
    SeqStopsK Fence.wide n Tryz.prog 99 #[.pointer (some ⟨Bn, 0, none⟩)] (fun x : W8 => #[Value.agg (wd x.1)]) (KeepBox Bn) (fun ys => ys = wordsQ s.data.toList) (fun pre => pre <+: wordsQ s.data.toList) (s.size / 8) w := fun l J Jx W hW hJ _ hY h0 =>
  words1_in n hn l Bn s hs J Jx W hJ hY ((hW.block Bn (Array.getElem?_eq_some_iff.1 hBn).1).trans hBn) h0
end Go.Proofs.YtbijfkpilncclaaGreat

/- the specification's l1Trim. -/
namespace Go.Proofs.YtbijfkpilncclaaGreat
open Go.RowKit
def zerS (u : ByteArray) : Bool := zerB u.data.toList
theorem l1ZeroS (s : ByteArray) (w : World) (hs : s.size ≤ maxLen) :
    Calls Tryz.prog 62 #[.string s] w fun e w' => e = .returned (.bool (zerS s)) ∧ w = w' := l1Zero_any s w hs
def sizeV : Value → Nat
  | .string u => u.size
  | _ => 0
theorem ret_str {a b : ByteArray} (h : a.data.toList = b.data.toList) : Ending.returned (.string a) = .returned (.string b) := by
  obtain ⟨⟨x⟩⟩ := a
  obtain ⟨⟨y⟩⟩ := b
  simp only at h
  rw [h]
set_option maxHeartbeats 1000000 in
theorem l1Trim_any (s : ByteArray) (K : Nat) (w : World) (hs : s.size ≤ maxLen) (h8 : s.size = 8 * K) :
    Calls Tryz.prog 70 #[.string s] w fun e w' => e = .returned (.string ⟨(s.data.toList.take (8 * trimN s.data.toList K)).toArray⟩) ∧ w = w' := by
  have hs' := hs
  unfold maxLen at hs
  have hl : s.data.toList.length = s.size := by simp
  have H0 := Lib.hid hl
  have H8 := Lib.hid h8
  have hl0 : s.data.toList = s.data.toList.take (8 * K) := by rw [List.take_of_length_le (by omega)]
  have HL0 := Lib.hid hl0
  clear hl h8 hl0
  generalize hl : s.data.toList = l at *
  have HLL := Lib.hid hl
  clear hl
  go_enter Tryz.func70, Tryz.ntmps70
  go_wp2
  go_loop [0] (fun t => ∃ (k : Nat) (u : ByteArray), t = .string u ∧ u.size ≤ s.size ∧ u.data.toList = l.take (8 * k) ∧ u.size = 8 * k ∧ trimN l K = trimN l k) sizeV
  case atStart => exact ⟨K, s, rfl, Nat.le_refl _, HLL.out.trans HL0.out, H8.out, rfl⟩
  case round =>
    obtain ⟨k, u, rfl, hus, hul, huk, htr⟩ := hrel
    have HU := Lib.hid hul
    have HT := Lib.hid htr
    clear hul htr
    cases k with
    | zero =>
      have hn : ¬ (8 : Int) ≤ (u.size : Int) := by omega
      have HK := Lib.hid huk
      clear huk
      go_wp2
      go_ret
      exact ⟨ret_str (by rw [HU.out, HT.out]; rfl), rfl⟩
    | succ m =>
      have f1 : (8 : Int) ≤ (u.size : Int) := by omega
      have e1 : IntKind.i64.wrap ((u.size : Int) - 8) = (u.size : Int) - 8 := by rw [IntKind.wrap_i64]; omega
      have e2 : (0 : Int) ≤ (u.size : Int) - 8 := by omega
      have e3 : (u.size : Int) - 8 ≤ (u.size : Int) := by omega
      have e4 : ((u.size : Int) - 8).toNat = u.size - 8 := by omega
      have hzl : (u.extract (u.size - 8) u.size).data.toList = (l.drop (8 * m)).take 8 := by
        rw [Lib.extract_data, HU.out, List.drop_take, huk, List.take_take]
        congr 1 <;> omega
      have hext : (u.extract 0 (u.size - 8)).data.toList = l.take (8 * m) := by
        rw [Lib.extract_data, HU.out, List.drop_zero, List.take_take]
        congr 1; omega
      have hul2 : (u.extract 0 (u.size - 8)).size = 8 * m := by simp; omega
      have hue : (u.extract (u.size - 8) u.size).size ≤ maxLen := by unfold maxLen; simp; omega
      cases hz : zerS (u.extract (u.size - 8) u.size)
      · have hT2 : trimN l (m + 1) = m + 1 := by rw [zerS, hzl] at hz; simp [trimN, hz]
        have H2 := Lib.hid hT2
        have HE := Lib.hid hext
        have HK := Lib.hid huk
        clear hT2 hzl hext hul2 huk
        go_wp2_with (go_at_call 62; refine (l1ZeroS _ _ hue).mono ?_; rintro e w' ⟨rfl, rfl⟩)
        all_goals
          go_ret
          exact ⟨ret_str (by rw [HU.out, HT.out, H2.out]), rfl⟩
      · have hT2 : trimN l (m + 1) = trimN l m := by rw [zerS, hzl] at hz; simp [trimN, hz]
        have H2 := Lib.hid hT2
        have HE := Lib.hid hext
        have HS := Lib.hid hul2
        have HK := Lib.hid huk
        clear hT2 hzl hext hul2 huk
        go_wp2_with (go_at_call 62; refine (l1ZeroS _ _ hue).mono ?_; rintro e w' ⟨rfl, rfl⟩)
        all_goals
          go_round
          case rel => exact ⟨m, _, rfl, by rw [HS.out]; have := HK.out; omega, HE.out, HS.out, HT.out.trans H2.out⟩
          case measure => (simp only [sizeV]; rw [HS.out]; have := HK.out; omega)
end Go.Proofs.YtbijfkpilncclaaGreat

/- impl.isPlace. -/
namespace Go.Proofs.YtbijfkpilncclaaGreat
open Go.RowKit

def widthB (size : Int) : Bool := decide (size = 1 ∨ size = 2 ∨ size = 4 ∨ size = 8)
def placeB (at_ size : Int) : Bool := decide (0 ≤ at_ ∧ at_ ≤ 1600 ∧ ((size = 1 ∨ size = 2 ∨ size = 4 ∨ size = 8) ∧ at_ % size = 0))
end Go.Proofs.YtbijfkpilncclaaGreat

/- impl.fitsBytes. -/
namespace Go.Proofs.YtbijfkpilncclaaGreat
open Go.RowKit
def fitsB (n size : Int) : Bool := decide (size = 8 ∨ (0 ≤ n ∧ n < 256 ^ size.toNat))
end Go.Proofs.YtbijfkpilncclaaGreat

/- the specification's l1Ok, l1Size, l1Get and Get: what they answer. -/
namespace Go.Proofs.YtbijfkpilncclaaGreat
open Go.RowKit

end Go.Proofs.YtbijfkpilncclaaGreat

/- what Get answers. -/
namespace Go.Proofs.YtbijfkpilncclaaGreat
open Go.RowKit
/-- what Get answers. -/
def getI (l : List UInt8) (at_ size : Int) : Int := if wordsB l.length = true ∧ placeB at_ size = true then wrap64 (leN l at_.toNat size.toNat : Nat) else 0
end Go.Proofs.YtbijfkpilncclaaGreat

/- The specification's l1Size and l1Fits. -/
namespace Go.Proofs.YtbijfkpilncclaaGreat
open Go.RowKit
def sizeB (n : Int) : Bool := decide (n = 1 ∨ n = 2 ∨ n = 4 ∨ n = 8)
end Go.Proofs.YtbijfkpilncclaaGreat

/- the specification's l1Ok, l1Size, l1Get and Get: what they answer. -/
namespace Go.Proofs.YtbijfkpilncclaaGreat
open Go.RowKit

set_option maxHeartbeats 400000 in
theorem l1Ok_any (s : ByteArray) (w : World) (hs : s.size ≤ maxLen) :
    Calls Tryz.prog 24 #[.string s] w fun e w' => e = .returned (.bool (wordsB s.size)) ∧ w = w' := by
  unfold maxLen at hs
  by_cases h1 : s.size % 8 = 0
  all_goals
    go_enter Tryz.func24, Tryz.ntmps24
    go_wp2
    go_ret
    refine ⟨ret_bool ?_, rfl⟩
    simp [wordsB, h1]
  omega

theorem placeB_eq (at_ size : Int) : placeB at_ size = (sizeB size && (inB at_ 0 1600 && decide (at_ % size = 0))) := by
  rw [Bool.eq_iff_iff]; simp [placeB, sizeB, inB, and_assoc, and_comm, and_left_comm]

end Go.Proofs.YtbijfkpilncclaaGreat

/- the specification's Trim. -/
namespace Go.Proofs.YtbijfkpilncclaaGreat
open Go.RowKit
/-- what Trim answers. -/
def trimB (l : List UInt8) : List UInt8 := if wordsB l.length = true then l.take (8 * trimN l (l.length / 8)) else []
end Go.Proofs.YtbijfkpilncclaaGreat

/- impl.Trim: what it answers at every argument. -/
namespace Go.Proofs.YtbijfkpilncclaaGreat
open Go.RowKit Go.Shelf
attribute [local go_sem] Oper.semAt_some
/-- how many words are left, noughts at the end taken away (the last word first). -/
def nzR : List W8 → Nat
  | [] => 0
  | x :: r => if zerB x.1 then nzR r else r.length + 1
def nzN (l : List W8) : Nat := nzR l.reverse
theorem nzN_nil : nzN [] = 0 := rfl
theorem nzN_snoc (l : List W8) (x : W8) : nzN (l ++ [x]) = if zerB x.1 then nzN l else l.length + 1 := by
  rw [nzN, List.reverse_append]; simp [nzR, nzN]
theorem nzR_le : ∀ l : List W8, nzR l ≤ l.length
  | [] => Nat.le_refl _
  | x :: r => by
    have := nzR_le r
    rw [nzR]
    split <;> simp <;> omega
theorem nzN_le (l : List W8) : nzN l ≤ l.length := by have := nzR_le l.reverse; rw [nzN]; simpa using this
theorem nzN_trim (l : List UInt8) : ∀ k, k ≤ l.length / 8 → nzN ((List.range k).map (wordQ l)) = trimN l k
  | 0, _ => rfl
  | k + 1, h => by
    rw [upto_snoc, nzN_snoc, nzN_trim l k (by omega), wordQ_in l k (by omega), trimN]
    simp
theorem nzN_words (l : List UInt8) : nzN (wordsQ l) = trimN l (l.length / 8) := nzN_trim l _ (Nat.le_refl _)
theorem zer8_of (a b c d e f g i : UInt8) : zerB [a, b, c, d, e, f, g, i] = ([a, b, c, d, e, f, g, i] == [0, 0, 0, 0, 0, 0, 0, 0]) := by
  rw [Bool.eq_iff_iff]; simp [zerB]
theorem neq_word (a b c d e f g i : UInt8) (w : World) :
    (binOp .neq 91 (.agg #[.int .u8 a.toNat, .int .u8 b.toNat, .int .u8 c.toNat, .int .u8 d.toNat, .int .u8 e.toNat, .int .u8 f.toNat, .int .u8 g.toNat, .int .u8 i.toNat]) (.agg #[.int .u8 0, .int .u8 0, .int .u8 0, .int .u8 0, .int .u8 0, .int .u8 0, .int .u8 0, .int .u8 0])).run Tryz.prog w = .ok (.bool (!(zerB [a, b, c, d, e, f, g, i]))) w := by
  rw [zer8_of]
  have h2 : ((Op.equalIn 10000 91 (.agg #[.int .u8 a.toNat, .int .u8 b.toNat, .int .u8 c.toNat, .int .u8 d.toNat, .int .u8 e.toNat, .int .u8 f.toNat, .int .u8 g.toNat, .int .u8 i.toNat]) (.agg #[.int .u8 0, .int .u8 0, .int .u8 0, .int .u8 0, .int .u8 0, .int .u8 0, .int .u8 0, .int .u8 0])).run Tryz.prog w) = .ok ([a, b, c, d, e, f, g, i] == [0, 0, 0, 0, 0, 0, 0, 0]) w := run_equalIn_bytes w 9998 91 5 8 Tryz.underlying91 Tryz.underlying5 (fun w => by kernel_rfl) [a, b, c, d, e, f, g, i] [0, 0, 0, 0, 0, 0, 0, 0] rfl rfl
  rw [run_neq_struct, h2]
  rfl
theorem guard_word' (op : BinOp) (x y : Operand) (xs ys : Array Value) (w : World) : (eqGuard op 91 x y (.agg xs) (.agg ys)).run Tryz.prog w = .ok () w := run_eqGuard_agg w _ _ _ _ _ _ (by kernel_rfl)
theorem wordsOf_in (n : Nat) (s : ByteArray) (w : World) :
    CallsIn Fence.wide n Tryz.prog 65 #[.string s] w fun e w' => e = .returned (.func (.func 99) #[] #[.pointer (some ⟨w.heap.size, 0, none⟩)]) ∧ w' = w.alloc (.cells #[.string s] 9) := by
  refine callsIn_of_wp Tryz.func65 rfl trivial ?_ rfl
  simp only [Tryz.ntmps65, List.size_toArray, List.length_cons, List.length_nil, Nat.reduceAdd, Nat.reduceSub, Array.replicate_succ, Array.replicate_zero, List.push_toArray, List.append_toArray, List.nil_append, List.cons_append]
  gi_wp2
  go_ret
  exact ⟨rfl, rfl⟩
theorem box_bytes {w : World} {B : Nat} {x : W8} {T : TypeId} (h : w.heap[B]? = some (.cells (wd x.1) T (0, 0))) :
    ∃ b0 b1 b2 b3 b4 b5 b6 b7 : UInt8, x.1 = [b0, b1, b2, b3, b4, b5, b6, b7] ∧
      w.cell? ⟨B, 0, none⟩ = some (.int .u8 b0.toNat) ∧ w.cell? ⟨B, 1, none⟩ = some (.int .u8 b1.toNat) ∧ w.cell? ⟨B, 2, none⟩ = some (.int .u8 b2.toNat) ∧ w.cell? ⟨B, 3, none⟩ = some (.int .u8 b3.toNat) ∧
      w.cell? ⟨B, 4, none⟩ = some (.int .u8 b4.toNat) ∧ w.cell? ⟨B, 5, none⟩ = some (.int .u8 b5.toNat) ∧ w.cell? ⟨B, 6, none⟩ = some (.int .u8 b6.toNat) ∧ w.cell? ⟨B, 7, none⟩ = some (.int .u8 b7.toNat) := by
  obtain ⟨b0, b1, b2, b3, b4, b5, b6, b7, hx⟩ := len8 x.2
  rw [hx, wd8] at h
  refine ⟨b0, b1, b2, b3, b4, b5, b6, b7, hx, ?_, ?_, ?_, ?_, ?_, ?_, ?_, ?_⟩
  all_goals (rw [cell_of_row _ _ _ _ _ _ h]; rfl)
set_option maxRecDepth 100000 in
set_option maxHeartbeats 4000000 in
theorem trim_in (s : ByteArray) (w : World) (hs : s.size ≤ maxLen) (hw : wordsB s.size = true) :
    CallsIn Fence.wide 6 Tryz.prog 134 #[.string s] w fun e w' => e = .returned (.string (s.extract 0 (8 * nzN (wordsQ s.data.toList)))) ∧ Below w.heap.size w w' := by
  have hw8 : s.size % 8 = 0 ∧ s.size ≤ 1600 := by simpa [wordsB] using hw
  obtain ⟨hw1, hw2⟩ := hw8
  have hle := nzN_le (wordsQ s.data.toList)
  rw [wordsQ_length] at hle
  have hsl : s.data.toList.length = s.size := by simp
  rw [hsl] at hle
  clear hsl
  refine callsIn_of_wp_marks Tryz.func134 rfl trivial ?_ rfl
  simp only [Tryz.ntmps134, List.size_toArray, List.length_cons, List.length_nil, Nat.reduceAdd, Nat.reduceSub, Array.replicate_succ, Array.replicate_zero, List.push_toArray, List.append_toArray, List.nil_append, List.cons_append]
  gi_wp2_with fail
  refine ⟨trivial, (callsIn_wide.2 (isWords_any s _ hs)).mono ?_⟩
  rintro e w' ⟨rfl, rfl⟩
  rw [hw]
  gi_wp2_with fail
  refine ⟨trivial, (wordsOf_in _ s _).mono ?_⟩
  rintro e w' ⟨rfl, rfl⟩
  gi_wp2_with fail
  have bAt := ((Boxed.new w 3 (.int .i64 0)).alloc (.cells #[.int .i64 0] 3)).alloc (.cells #[.string s] 9)
  have bEnd := (Boxed.new (w.alloc (.cells #[.int .i64 0] 3)) 3 (.int .i64 0)).alloc (.cells #[.string s] 9)
  have bTx := Boxed.new ((w.alloc (.cells #[.int .i64 0] 3)).alloc (.cells #[.int .i64 0] 3)) 9 (.string s)
  simp only [World.size_alloc] at bEnd bTx
  have hB0 : Below w.heap.size w (((w.alloc (.cells #[.int .i64 0] 3)).alloc (.cells #[.int .i64 0] 3)).alloc (.cells #[.string s] 9)) := (((Below.refl _ w).alloc (Nat.le_refl _) _).alloc (by simp) _).alloc (by simp; omega) _
  have hsz : (((w.alloc (.cells #[.int .i64 0] 3)).alloc (.cells #[.int .i64 0] 3)).alloc (.cells #[.string s] 9)).heap.size = w.heap.size + 3 := by simp
  obtain ⟨W0, hW0⟩ : ∃ W0, (((w.alloc (.cells #[.int .i64 0] 3)).alloc (.cells #[.int .i64 0] 3)).alloc (.cells #[.string s] 9)) = W0 := ⟨_, rfl⟩
  rw [hW0] at bAt bEnd bTx hB0 hsz ⊢
  clear hW0
  refine wpIn_rangeFunc_ownH rfl (by decide) (gf := 99) (lb := #[.pointer (some ⟨w.heap.size + 1 + 1, 0, none⟩)]) rfl trivial (enters_of Tryz.func99 (by kernel_rfl) rfl)
    (words_stops 5 (by decide) (w.heap.size + 1 + 1) s hs W0 bTx) (fun h k => k.trans h) (fun W l o o' hl h _ _ => (grownBy_putObj' W l o').block _ (by have := (Array.getElem?_eq_some_iff.1 h).1; omega) (by intro e; cases e; omega)) (Below.refl _ _) (fun _ => rfl)
    (fun pre W => (Boxed W w.heap.size 3 (.int .i64 ((8 * pre.length : Nat) : Int)) ∧ Boxed W (w.heap.size + 1) 3 (.int .i64 ((8 * nzN pre : Nat) : Int)) ∧ Boxed W (w.heap.size + 1 + 1) 9 (.string s)) ∧ Below w.heap.size w W)
    (fun _ _ _ => False)
    (OwnFrom.and (OwnFrom.and (Own.from (boxed_own _ _ _) _) (OwnFrom.and (Own.from (boxed_own _ _ _) _) (Own.from (boxed_own _ _ _) _))) (ownFrom_below (Nat.le_refl _) (by omega)))
    (fun _ _ _ _ _ hs _ _ => hs)
    ⟨⟨bAt, bEnd, bTx⟩, hB0⟩
    (fun x a' W => ∃ Bx, w.heap.size + 1 + 1 < Bx ∧ W.heap[Bx]? = some (.cells (wd x.1) 91 (0, 0)) ∧ a' = { tmps := #[.string s, undef, .string ByteArray.empty, .pointer (some ⟨w.heap.size, 0, none⟩), .pointer (some ⟨w.heap.size + 1, 0, none⟩), .pointer (some ⟨Bx, 0, none⟩), .string s, .bool true, .bool false, .string s, .func (.func 99) #[] #[.pointer (some ⟨w.heap.size + 1 + 1, 0, none⟩)], .agg (wd x.1), undef, undef, undef, undef, undef, undef, undef, undef, undef], defers := [] })
    (fun x a' _ X Y row hs hg hr => by
      obtain ⟨Bx, h1, h2, h3⟩ := hs
      refine ⟨Bx, h1, (hg.block Bx (Array.getElem?_eq_some_iff.1 h2).1 (fun e => ?_)).trans h2, h3⟩
      obtain ⟨_, o, ho, hcl⟩ := hr Bx e.symm
      rw [h2] at ho; cases ho; cases hcl)
    ?assign ?body ?done ?stop
  case assign =>
    rintro l pre x W K ⟨⟨bA1, bE1, bT1⟩, hB1⟩ hK
    obtain ⟨b0, b1, b2, b3, b4, b5, b6, b7, hx⟩ := len8 x.2
    simp only [hx, wd8] at hK ⊢
    gi_wp2
    exact hK _ _ ((KeepsOthers.alloc _ _).from _) (Below.heap_alloc W _ _ bT1.lt) ⟨⟨bA1.alloc _, bE1.alloc _, bT1.alloc _⟩, hB1.alloc hB1.size _⟩ ⟨W.heap.size, bT1.lt, heap_alloc_new W _, rfl⟩
  case body =>
    rintro l pre x a' W hl ⟨r, hr⟩ ⟨⟨bA1, bE1, bT1⟩, hB1⟩ ⟨Bx, hBx, bX, rfl⟩ hlt
    obtain ⟨b0, b1, b2, b3, b4, b5, b6, b7, hx, c0, c1, c2, c3, c4, c5, c6, c7⟩ := box_bytes bX
    have hneq := neq_word b0 b1 b2 b3 b4 b5 b6 b7
    rw [← hx] at hneq
    have hgd := fun x y => guard_word' .neq x y
    have cA := bA1.cell
    have fA := bA1.frozen
    have fE := bE1.frozen
    have hp : pre.length ≤ 1600 := by omega
    have hv : ((8 * pre.length : Nat) : Int) + 8 = ((8 * (pre ++ [x]).length : Nat) : Int) := by rw [List.length_append, List.length_singleton]; omega
    have HV := Lib.hid hv
    have hnz := nzN_snoc pre x
    have HNZ := Lib.hid hnz
    have HX := Lib.hid hx
    clear hv hnz hx
    have cE := bE1.cell
    have hvv : (8 : Int) * (pre.length : Int) + 8 = ((8 * (pre ++ [x]).length : Nat) : Int) := by rw [List.length_append, List.length_singleton]; omega
    have HVV := Lib.hid hvv
    have bA2 : Boxed (W.setCell ⟨w.heap.size, 0, none⟩ (.int .i64 (8 * (pre.length : Int) + 8))) w.heap.size 3 (.int .i64 ((8 * (pre ++ [x]).length : Nat) : Int)) := by rw [← HVV.out]; exact bA1.set _
    have bE2 : Boxed (W.setCell ⟨w.heap.size, 0, none⟩ (.int .i64 (8 * (pre.length : Int) + 8))) (w.heap.size + 1) 3 (.int .i64 ((8 * nzN pre : Nat) : Int)) := bE1.other (by omega) _
    have bT2 : Boxed (W.setCell ⟨w.heap.size, 0, none⟩ (.int .i64 (8 * (pre.length : Int) + 8))) (w.heap.size + 1 + 1) 9 (.string s) := bT1.other (by omega) _
    have hB2 : Below w.heap.size w (W.setCell ⟨w.heap.size, 0, none⟩ (.int .i64 (8 * (pre.length : Int) + 8))) := hB1.setCell (p := ⟨w.heap.size, 0, none⟩) (Nat.le_refl _) _
    have hK2 : KeepsFrom W0.heap.size W (W.setCell ⟨w.heap.size, 0, none⟩ (.int .i64 (8 * (pre.length : Int) + 8))) := (KeepsOthers.setCell _ _ _).from _
    have BA2 := Lib.hid bA2
    have BT2 := Lib.hid bT2
    have BE2 := Lib.hid bE2
    have HB2 := Lib.hid hB2
    have HK2 := Lib.hid hK2
    have BT1 := Lib.hid bT1
    have cE2 := bE2.cell
    have fE2 := bE2.frozen
    clear hvv bA2 bT2 hB2 hK2 bE2
    cases hz : zerB x.1
    · rw [hz] at hneq
      have hneq' : ∀ w : World, (binOp .neq 91 (.agg #[.int .u8 b0.toNat, .int .u8 b1.toNat, .int .u8 b2.toNat, .int .u8 b3.toNat, .int .u8 b4.toNat, .int .u8 b5.toNat, .int .u8 b6.toNat, .int .u8 b7.toNat]) (.agg #[.int .u8 0, .int .u8 0, .int .u8 0, .int .u8 0, .int .u8 0, .int .u8 0, .int .u8 0, .int .u8 0])).run Tryz.prog w = .ok (.bool true) w := hneq
      have hn1 : nzN (pre ++ [x]) = (pre ++ [x]).length := by rw [HNZ.out, hz, List.length_append, List.length_singleton]; rfl
      have HN1 := Lib.hid hn1
      clear hneq hz hn1
      gi_wp2
      refine ⟨HK2.out.trans ((KeepsOthers.setCell _ _ _).from _), BT2.out.other (by omega) _ |>.trans BT1.out.symm, ⟨BA2.out.other (by omega) _, ?_, BT2.out.other (by omega) _⟩, HB2.out.setCell (p := ⟨w.heap.size + 1, 0, none⟩) (by simp) _⟩
      rw [HN1.out, ← HVV.out]
      exact BE2.out.set _
    · rw [hz] at hneq
      have hneq' : ∀ w : World, (binOp .neq 91 (.agg #[.int .u8 b0.toNat, .int .u8 b1.toNat, .int .u8 b2.toNat, .int .u8 b3.toNat, .int .u8 b4.toNat, .int .u8 b5.toNat, .int .u8 b6.toNat, .int .u8 b7.toNat]) (.agg #[.int .u8 0, .int .u8 0, .int .u8 0, .int .u8 0, .int .u8 0, .int .u8 0, .int .u8 0, .int .u8 0])).run Tryz.prog w = .ok (.bool false) w := hneq
      have hn1 : nzN (pre ++ [x]) = nzN pre := by rw [HNZ.out, hz]; rfl
      have HN1 := Lib.hid hn1
      clear hneq hz hn1
      gi_wp2
      refine ⟨HK2.out, BT2.out.trans BT1.out.symm, ⟨BA2.out, ?_, BT2.out⟩, HB2.out⟩
      rw [HN1.out]
      exact BE2.out
  case done =>
    rintro D zs W hD rfl ⟨⟨bA1, bE1, bT1⟩, hB1⟩ hK
    have cE := bE1.cell
    have g0 : (0 : Int) ≤ ((8 * nzN (wordsQ s.data.toList) : Nat) : Int) := by omega
    have g1 : ((8 * nzN (wordsQ s.data.toList) : Nat) : Int) ≤ (s.size : Int) := by omega
    gi_wp2
    refine ⟨by simp, .inl ⟨_, _, rfl, run_takeDeferred hK, ?_⟩⟩
    exact ⟨_, results_tmp rfl _ _ _, rfl, hB1.trans (belowK_b (w := w) (Nat.le_refl _) W D _ _ (by omega) hK rfl rfl)⟩
  case stop =>
    rintro D c pre W _ _ h _
    exact h.elim
end Go.Proofs.YtbijfkpilncclaaGreat

/- impl.Trim of words. -/
namespace Go.Proofs.YtbijfkpilncclaaGreat
open Go.RowKit
theorem trim_stringM (s : ByteArray) (_hw : wordsB s.size = true) : s.extract 0 (8 * nzN (wordsQ s.data.toList)) = trimD s := by
  have hsl : s.data.toList.length = s.size := by simp
  apply ext_d
  rw [Lib.extract_data, nzN_words, trimD_list]
  unfold trimL tw
  simp
set_option maxHeartbeats 1000000 in
theorem implTrim_w (s : ByteArray) (w : World) (h8 : s.size % 8 = 0) (hs : s.size ≤ 1600) :
    Calls Tryz.prog 134 #[.string s] w fun e w' => e = .returned (.string (trimD s)) ∧ Below w.heap.size w w' := by
  have hw : wordsB s.size = true := by simp [wordsB, h8, hs]
  rw [← trim_stringM s hw]
  exact callsIn_wide.1 (trim_in s w (by unfold maxLen; omega) hw)
end Go.Proofs.YtbijfkpilncclaaGreat

/- The program's one form: a struct without ends. -/
namespace Go.Proofs.YtbijfkpilncclaaGreat
open Go.RowKit Go.Deep
theorem fin6w {w w1 : World} {b : Nat} {T : TypeId} {a0 a1 a2 a3 a4 a5 : Value} (h : w1.heap[b]? = some (.cells #[a0, a1, a2, a3, a4, a5] T (0, 0))) (hp : Below w.heap.size w w1) (hb : w.heap.size ≤ b) (v0 v1 v2 v3 v4 v5 : Value) :
    ∃ wf, ((((((w1.setCell ⟨b, 0, none⟩ v0).setCell ⟨b, 1, none⟩ v1).setCell ⟨b, 2, none⟩ v2).setCell ⟨b, 3, none⟩ v3).setCell ⟨b, 4, none⟩ v4).setCell ⟨b, 5, none⟩ v5) = wf ∧ wf.heap[b]? = some (.cells #[v0, v1, v2, v3, v4, v5] T (0, 0)) ∧ Below w.heap.size w wf ∧ (∀ k, k ≠ b → wf.heap[k]? = w1.heap[k]?) := by
  have hk : ∀ (W : World) (i : Nat) (v : Value), Below w.heap.size w W → Below w.heap.size w (W.setCell ⟨b, i, none⟩ v) := fun W i v hW => hW.setCell (p := ⟨b, i, none⟩) hb v
  have ho : ∀ (W : World) (i : Nat) (v : Value) (k : Nat), k ≠ b → (W.setCell ⟨b, i, none⟩ v).heap[k]? = W.heap[k]? := fun W i v k hk => Below.heap_setCell W ⟨b, i, none⟩ v k hk
  exact ⟨_, rfl, row_setN (row_setN (row_setN (row_setN (row_setN (row_setN h 0 v0) 1 v1) 2 v2) 3 v3) 4 v4) 5 v5, hk _ _ _ (hk _ _ _ (hk _ _ _ (hk _ _ _ (hk _ _ _ (hk _ _ _ hp))))),
    fun k hne => by rw [ho _ _ _ k hne, ho _ _ _ k hne, ho _ _ _ k hne, ho _ _ _ k hne, ho _ _ _ k hne, ho _ _ _ k hne]⟩
theorem own_cap {w : World} {m c : Nat} {A : Option Addr} {l : List Nd} {bs : List Nat} (h : OwS w m A c l bs) : (A = none ∧ l = [] ∧ c = 0) ∨ (∃ g, A = some ⟨g, 0, none⟩) ∧ l.length ≤ c := by
  cases m with
  | zero =>
    obtain ⟨hl, ho, _⟩ := h
    rcases own_blk ho with ⟨h1, _, h3, _⟩ | ⟨g, _, h1, _⟩
    · exact .inl ⟨h1, hl, h3⟩
    · exact .inr ⟨⟨g, h1⟩, by rw [hl]; exact Nat.zero_le _⟩
  | succ m =>
    obtain ⟨q, hq, ho, _⟩ := h
    rcases own_blk ho with ⟨h1, h2, h3, _⟩ | ⟨g, cur, h1, _, _, _, h5, _⟩
    · exact .inl ⟨h1, by rw [← hq, List.eq_nil_of_length_eq_zero h2]; rfl, h3⟩
    · exact .inr ⟨⟨g, h1⟩, by rw [← hq, List.length_map]; exact h5⟩
set_option maxHeartbeats 4000000 in
set_option maxRecDepth 100000 in
theorem withoutEnds_a (m : Nat) (n : Nd) (h : Hd) (bs : List Nat) (w : World) (hn : OwN w m n h bs) (h8 : n.data.size % 8 = 0) (hd : n.data.size ≤ 1600) (hp : n.ptrs.length ≤ 2000000) :
    Calls Tryz.prog 112 #[.agg #[.int .i64 n.kind, .string n.data, .slice h.A n.ptrs.length h.a, .int .i64 n.size, .int .i64 n.count, .slice h.B n.items.length h.b]] w fun e w' => e = .returned (.agg #[.int .i64 n.kind, .string (trimD n.data), .slice h.A (endC n.ptrs) h.a, .int .i64 n.size, .int .i64 n.count, .slice h.B n.items.length h.b]) ∧ Below w.heap.size w w' := by
  obtain ⟨qA, qa, qB, qb⟩ := h
  have hcap := own_cap hn.2.choose_spec.choose_spec.2.1
  have HN := Lib.hid hn.nd
  have HTR := Lib.hid (fun W => implTrim_w n.data W h8 hd)
  have hb0 : Below w.heap.size w ((w.alloc (.cells #[.int .i64 n.kind, .string n.data, .slice qA n.ptrs.length qa, .int .i64 n.size, .int .i64 n.count, .slice qB n.items.length qb] nodeT)).alloc (.cells #[.int .i64 0, .string { data := #[] }, .slice none 0 0, .int .i64 0, .int .i64 0, .slice none 0 0] nodeT)) := ((Below.refl _ w).alloc (Nat.le_refl _) _).alloc (by simp) _
  have hx0 : ((w.alloc (.cells #[.int .i64 n.kind, .string n.data, .slice qA n.ptrs.length qa, .int .i64 n.size, .int .i64 n.count, .slice qB n.items.length qb] nodeT)).alloc (.cells #[.int .i64 0, .string { data := #[] }, .slice none 0 0, .int .i64 0, .int .i64 0, .slice none 0 0] nodeT)).heap[w.heap.size]? = some (.cells #[.int .i64 n.kind, .string n.data, .slice qA n.ptrs.length qa, .int .i64 n.size, .int .i64 n.count, .slice qB n.items.length qb] nodeT (0, 0)) := heap_alloc_keep (heap_alloc_new w _) _
  have hz0 : ((w.alloc (.cells #[.int .i64 n.kind, .string n.data, .slice qA n.ptrs.length qa, .int .i64 n.size, .int .i64 n.count, .slice qB n.items.length qb] nodeT)).alloc (.cells #[.int .i64 0, .string { data := #[] }, .slice none 0 0, .int .i64 0, .int .i64 0, .slice none 0 0] nodeT)).heap[w.heap.size + 1]? = some (.cells #[.int .i64 0, .string { data := #[] }, .slice none 0 0, .int .i64 0, .int .i64 0, .slice none 0 0] nodeT (0, 0)) := by have := heap_alloc_new (w.alloc (.cells #[.int .i64 n.kind, .string n.data, .slice qA n.ptrs.length qa, .int .i64 n.size, .int .i64 n.count, .slice qB n.items.length qb] nodeT)) (.cells #[.int .i64 0, .string { data := #[] }, .slice none 0 0, .int .i64 0, .int .i64 0, .slice none 0 0] nodeT); rwa [show (w.alloc (.cells #[.int .i64 n.kind, .string n.data, .slice qA n.ptrs.length qa, .int .i64 n.size, .int .i64 n.count, .slice qB n.items.length qb] nodeT)).heap.size = w.heap.size + 1 by simp] at this
  have HB0 := Lib.hid hb0
  have HX0 := Lib.hid hx0
  have HZ0 := Lib.hid hz0
  clear hn hb0 hx0 hz0 h8 hd
  go_enter Tryz.func112, Tryz.ntmps112
  go_wp2_with fail
  generalize ((w.alloc (.cells #[.int .i64 n.kind, .string n.data, .slice qA n.ptrs.length qa, .int .i64 n.size, .int .i64 n.count, .slice qB n.items.length qb] nodeT)).alloc (.cells #[.int .i64 0, .string { data := #[] }, .slice none 0 0, .int .i64 0, .int .i64 0, .slice none 0 0] nodeT)) = W0 at *
  refine (HTR.out _).mono ?_
  rintro e w1 ⟨rfl, hb1⟩
  have hx1 := (hb1.block _ (row_lt HX0.out)).trans HX0.out
  have hz1 := (hb1.block _ (row_lt HZ0.out)).trans HZ0.out
  have hb1' := HB0.out.trans (hb1.mono HB0.out.size)
  have HX2 := Lib.hid (row_setN hx1 1 (.string (trimD n.data)))
  have HZ2 := Lib.hid ((Below.heap_setCell w1 ⟨w.heap.size, 1, none⟩ (.string (trimD n.data)) (w.heap.size + 1) (by simp)).trans hz1)
  have HB2 := Lib.hid (hb1'.setCell (p := ⟨w.heap.size, 1, none⟩) (Nat.le_refl _) (.string (trimD n.data)))
  obtain ⟨a0, a1, a2, a3, a4, a5⟩ := cells6 hx1
  have f1 := row_free hx1 1
  clear hb1 hx1 hz1 hb1' HX0 HZ0 HB0 HTR
  go_wp2_with fail
  clear a0 a1 a2 a3 a4 a5 f1
  generalize w1.setCell ⟨w.heap.size, 1, none⟩ (.string (trimD n.data)) = W2 at *
  obtain ⟨a0, a1, a2, a3, a4, a5⟩ := cells6 HX2.out
  have fx := row_free HX2.out 2
  go_loopw [3] (fun i wr => ∃ t : Nat, i = .int .i64 t ∧ t ≤ n.ptrs.length ∧ endC n.ptrs = endK n.ptrs t ∧ wr = W2) (fun i _ => (intOf i).toNat)
  case atStart => exact ⟨_, rfl, Nat.le_refl _, rfl, rfl⟩
  case round =>
    obtain ⟨t, rfl, ht, hE, rfl⟩ := hrel
    have HE := Lib.hid hE
    have hex : ∀ t' : Nat, Hid (endC n.ptrs = t') → Hid (∀ W : World, W = wr.setCell ⟨w.heap.size, 2, none⟩ (.slice qA t' qa) → W.heap[w.heap.size]? = some (.cells #[.int .i64 n.kind, .string (trimD n.data), .slice qA t' qa, .int .i64 n.size, .int .i64 n.count, .slice qB n.items.length qb] nodeT (0, 0)) ∧ W.heap[w.heap.size + 1]? = some (.cells #[.int .i64 0, .string { data := #[] }, .slice none 0 0, .int .i64 0, .int .i64 0, .slice none 0 0] nodeT (0, 0)) ∧ Below w.heap.size w W) := fun t' _ => Lib.hid fun W hW => by
      subst hW
      exact ⟨row_setN HX2.out 2 _, (Below.heap_setCell wr ⟨w.heap.size, 2, none⟩ _ (w.heap.size + 1) (by simp)).trans HZ2.out, HB2.out.setCell (p := ⟨w.heap.size, 2, none⟩) (Nat.le_refl _) _⟩
    have HEX := Lib.hid hex
    clear hE hex
    cases t with
    | zero =>
      have hE0 : endC n.ptrs = 0 := HE.out
      rw [hE0]
      obtain ⟨hx3, hz3, hb3⟩ := (HEX.out 0 (Lib.hid hE0)).out _ rfl
      have HX3 := Lib.hid hx3
      have HZ3 := Lib.hid hz3
      have HB3 := Lib.hid hb3
      obtain ⟨b0, b1, b2, b3, b4, b5⟩ := cells6 hx3
      obtain ⟨z0, z1, z2, z3, z4, z5⟩ := cells6 hz3
      have zf := row_free hz3
      clear hx3 hz3 hb3
      rcases hcap with ⟨rfl, hl0, rfl⟩ | ⟨⟨g, rfl⟩, hle⟩
      · have hl00 : n.ptrs.length = 0 := by rw [hl0]; rfl
        have hli : (n.ptrs.length : Int) = 0 := by omega
        clear hl0
        go_wp2_with fail
        obtain ⟨wf, hwf, hrw, hbf, -⟩ := fin6w HZ3.out HB3.out (by omega) (.int .i64 n.kind) (.string (trimD n.data)) (.slice none 0 0) (.int .i64 n.size) (.int .i64 n.count) (.slice qB n.items.length qb)
        rw [hwf]
        obtain ⟨e0, e1, e2, e3, e4, e5⟩ := cells6 hrw
        exact bodyPost_ret (v := .agg #[.int .i64 n.kind, .string (trimD n.data), .slice none 0 0, .int .i64 n.size, .int .i64 n.count, .slice qB n.items.length qb]) (by simp [results, Tryz.results112, go_sem, e0, e1, e2, e3, e4, e5]) rfl ⟨by rw [hE0], hbf⟩
      · go_wp2_with fail
        obtain ⟨wf, hwf, hrw, hbf, -⟩ := fin6w HZ3.out HB3.out (by omega) (.int .i64 n.kind) (.string (trimD n.data)) (.slice (some ⟨g, 0, none⟩) 0 qa) (.int .i64 n.size) (.int .i64 n.count) (.slice qB n.items.length qb)
        rw [hwf]
        obtain ⟨e0, e1, e2, e3, e4, e5⟩ := cells6 hrw
        exact bodyPost_ret (v := .agg #[.int .i64 n.kind, .string (trimD n.data), .slice (some ⟨g, 0, none⟩) 0 qa, .int .i64 n.size, .int .i64 n.count, .slice qB n.items.length qb]) (by simp [results, Tryz.results112, go_sem, e0, e1, e2, e3, e4, e5]) rfl ⟨by rw [hE0], hbf⟩
    | succ k =>
      have hk : k < n.ptrs.length := by omega
      rcases hcap with ⟨rfl, hl0, rfl⟩ | ⟨⟨g, rfl⟩, hle⟩
      · rw [hl0] at hk; cases hk
      obtain ⟨j, rfl⟩ := (show NdsAt w (InB w bs) m (some ⟨g, 0, none⟩) n.ptrs from HN.out.2.1).pred hk
      obtain ⟨x, hd, hxe, hc, -⟩ := ((show NdsAt w (InB w bs) (j + 1) (some ⟨g, 0, none⟩) n.ptrs from HN.out.2.1).below HB2.out).at_ hk
      obtain rfl : (⟨g, 0, none⟩ : Addr) = x := Option.some.inj hxe
      have hget : (n.ptrs[k]?.getD noneNd) = n.ptrs[k] := by rw [List.getElem?_eq_getElem hk]; rfl
      have HE2 : Hid (endC n.ptrs = if n.ptrs[k].kind = 0 then endK n.ptrs k else k + 1) := Lib.hid (by rw [HE.out, endK, hget])
      obtain ⟨d0, d1, d2, d3, d4, d5⟩ := hc
      clear d1 d2 d3 d4 d5 hget hxe
      rw [add_zero0] at d0
      by_cases hk0 : n.ptrs[k].kind = 0
      · rw [hk0] at d0
        rw [if_pos hk0] at HE2
        clear hk0
        go_wp2
        go_roundw
        case rel => exact ⟨k, by go_num, by omega, HE2.out, trivial⟩
        case measure => simp [intOf]
      · rw [if_neg hk0] at HE2
        have hkb : (n.ptrs[k].kind == 0) = false := by simpa using hk0
        clear hk0
        have hE0 := HE2.out
        rw [hE0]
        obtain ⟨hx3, hz3, hb3⟩ := (HEX.out (k + 1) (Lib.hid hE0)).out _ rfl
        have HX3 := Lib.hid hx3
        have HZ3 := Lib.hid hz3
        have HB3 := Lib.hid hb3
        obtain ⟨b0, b1, b2, b3, b4, b5⟩ := cells6 hx3
        obtain ⟨z0, z1, z2, z3, z4, z5⟩ := cells6 hz3
        have zf := row_free hz3
        clear hx3 hz3 hb3
        go_wp2_with fail
        obtain ⟨wf, hwf, hrw, hbf, -⟩ := fin6w HZ3.out HB3.out (by omega) (.int .i64 n.kind) (.string (trimD n.data)) (.slice (some ⟨g, 0, none⟩) (k + 1) qa) (.int .i64 n.size) (.int .i64 n.count) (.slice qB n.items.length qb)
        rw [hwf]
        obtain ⟨e0, e1, e2, e3, e4, e5⟩ := cells6 hrw
        exact bodyPost_ret (v := .agg #[.int .i64 n.kind, .string (trimD n.data), .slice (some ⟨g, 0, none⟩) (k + 1) qa, .int .i64 n.size, .int .i64 n.count, .slice qB n.items.length qb]) (by simp [results, Tryz.results112, go_sem, e0, e1, e2, e3, e4, e5]) rfl ⟨by rw [hE0], hbf⟩
end Go.Proofs.YtbijfkpilncclaaGreat
