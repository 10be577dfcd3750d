/- Texts of the proof of the law FnSendShort, side by side: part 29. -/
import Derived.RangeFuncNested
import Derived.RangeFuncBound
import Derived.RangeFuncCalls
import Derived.RangeFuncLeaves
import Derived.Shelf.Abstract
import Derived.Shelf.RegionOpen
import Derived.WalkKit
import Derived.OwnWalkIn
import Derived.TacticsInMore
import Derived.LoopNIn
import Derived.LoopIn
import Derived.RangeFuncBox
import Derived.Test.YtbijfkpilncclaaGreatMSendShort00
import Derived.Test.YtbijfkpilncclaaGreatMSendShort01
import Derived.Test.YtbijfkpilncclaaGreatMSendShort02
import Derived.Test.YtbijfkpilncclaaGreatMSendShort03
import Derived.Test.YtbijfkpilncclaaGreatMSendShort04
import Derived.Test.YtbijfkpilncclaaGreatMSendShort05
import Derived.Test.YtbijfkpilncclaaGreatMSendShort06
import Derived.Test.YtbijfkpilncclaaGreatMSendShort07
import Derived.Test.YtbijfkpilncclaaGreatMSendShort08
import Derived.Test.YtbijfkpilncclaaGreatMSendShort09
import Derived.Test.YtbijfkpilncclaaGreatMSendShort10
import Derived.Test.YtbijfkpilncclaaGreatMSendShort11
import Derived.Test.YtbijfkpilncclaaGreatMSendShort12
import Derived.Test.YtbijfkpilncclaaGreatMSendShort13
import Derived.Test.YtbijfkpilncclaaGreatMSendShort14
import Derived.Test.YtbijfkpilncclaaGreatMSendShort15
import Derived.Test.YtbijfkpilncclaaGreatMSendShort16
import Derived.Test.YtbijfkpilncclaaGreatMSendShort17
import Derived.Test.YtbijfkpilncclaaGreatMSendShort18
import Derived.Test.YtbijfkpilncclaaGreatMSendShort19
import Derived.Test.YtbijfkpilncclaaGreatMSendShort20
import Derived.Test.YtbijfkpilncclaaGreatMSendShort21
import Derived.Test.YtbijfkpilncclaaGreatMSendShort22
import Derived.Test.YtbijfkpilncclaaGreatMSendShort23
import Derived.Test.YtbijfkpilncclaaGreatMSendShort24
import Derived.Test.YtbijfkpilncclaaGreatMSendShort25
import Derived.Test.YtbijfkpilncclaaGreatMSendShort26
import Derived.Test.YtbijfkpilncclaaGreatMSendShort27
import Derived.Test.YtbijfkpilncclaaGreatMSendShort28
namespace Go.Proofs.YtbijfkpilncclaaGreat
open Go.RowKit
theorem PJ.ended {R : List UInt8} {B b k : Nat} {w : World} (h : PJ R B b k .nilFunc w) : ∃ v ws, PS B b R v ws w := by
  obtain ⟨out, v, ws, hp, _, h | h | h | h⟩ := h
  · cases h.1
  · cases h.1
  · cases h.1
  · exact ⟨v, ws, h.2 ▸ hp⟩
set_option maxHeartbeats 2000000 in
theorem prun_any (R : List UInt8) (B b k : Nat) (v : Value) (w : World) (h : PJ R B b k v w) (hBw : B ≤ w.heap.size) (hRl : R.length ≤ 100000) :
    Calls Tryz.prog 49 #[v] w fun e w' => e = .returned (.tuple #[]) ∧ (∃ k', PJ R B b k' .nilFunc w') ∧ Keeps B b w w' := by
  have H := Lib.hid h
  clear h
  go_enter Tryz.func49, Tryz.ntmps49
  go_wp2_with fail
  go_loopg [0] k (fun k s wr => Hid (PJ R B b k s wr) ∧ Hid (Keeps B b w wr))
  case atStart => exact ⟨H, Keeps.refl _ _ _⟩
  case round =>
    obtain ⟨HJ, HK⟩ := hrel
    have hB := Nat.le_trans hBw HK.out.size
    obtain ⟨out, v0, ws, hp, hl, ⟨rfl, hR, hk⟩ | ⟨rfl, hR, hk⟩ | ⟨rfl, hR, hk⟩ | ⟨rfl, hR⟩⟩ := HJ.out
    · have HN := Lib.hid (ptag_next R B b gk out v0 ws wr hp hl hR hk hRl hB)
      clear hp hR hk HJ
      unfold pTag
      have hneq := neq_fn
      go_wp2_with fail
      refine HN.out.mono ?_
      rintro e w4 ⟨v, k', hk', rfl, hj4, hk4⟩
      have HJ4 := Lib.hid hj4
      have HK4 := Lib.hid (HK.out.trans hk4)
      clear hj4 hk4
      go_wp2
      go_roundg k'
      case measure => exact hk'
      case rel => exact ⟨HJ4, HK4⟩
    · have HN := Lib.hid (pnou_next R B b gk out v0 ws wr hp hl hR hk hRl hB)
      clear hp hR hk HJ
      unfold pNou
      have hneq := neq_fn
      go_wp2_with fail
      refine HN.out.mono ?_
      rintro e w4 ⟨v, k', hk', rfl, hj4, hk4⟩
      have HJ4 := Lib.hid hj4
      have HK4 := Lib.hid (HK.out.trans hk4)
      clear hj4 hk4
      go_wp2
      go_roundg k'
      case measure => exact hk'
      case rel => exact ⟨HJ4, HK4⟩
    · have HN := Lib.hid (ppla_next R B b gk out v0 ws wr hp hl hR hk hRl hB)
      clear hp hR hk HJ
      unfold pPla
      have hneq := neq_fn
      go_wp2_with fail
      refine HN.out.mono ?_
      rintro e w4 ⟨v, k', hk', rfl, hj4, hk4⟩
      have HJ4 := Lib.hid hj4
      have HK4 := Lib.hid (HK.out.trans hk4)
      clear hj4 hk4
      go_wp2
      go_roundg k'
      case measure => exact hk'
      case rel => exact ⟨HJ4, HK4⟩
    · clear hp hR
      have hneq := neq_nil
      go_wp2
      go_end0
      exact ⟨rfl, ⟨gk, HJ.out⟩, HK.out⟩
end Go.Proofs.YtbijfkpilncclaaGreat

namespace Go.Proofs.YtbijfkpilncclaaGreat
open Go.RowKit Go.Shelf
attribute [local go_sem] Oper.semAt_some
abbrev W8 := { l : List UInt8 // l.length = 8 }
def wordQ (l : List UInt8) (i : Nat) : W8 := ⟨(l.drop (8 * i) ++ [0, 0, 0, 0, 0, 0, 0, 0]).take 8, by simp⟩
theorem wordQ_in (l : List UInt8) (i : Nat) (h : 8 * i + 8 ≤ l.length) : (wordQ l i).1 = (l.drop (8 * i)).take 8 := by
  show List.take 8 (l.drop (8 * i) ++ [0, 0, 0, 0, 0, 0, 0, 0]) = _
  rw [List.take_append_of_le_length (by simp; omega)]
def wordsQ (l : List UInt8) : List W8 := (List.range (l.length / 8)).map (wordQ l)
theorem wordsQ_length (l : List UInt8) : (wordsQ l).length = l.length / 8 := by simp [wordsQ]
theorem upto_snoc (l : List UInt8) (k : Nat) : (List.range (k + 1)).map (wordQ l) = (List.range k).map (wordQ l) ++ [wordQ l k] := by rw [List.range_succ, List.map_append]; rfl
theorem upto_pre (l : List UInt8) (k : Nat) (h : k ≤ l.length / 8) : (List.range k).map (wordQ l) <+: wordsQ l := by
  obtain ⟨j, hj⟩ : ∃ j, l.length / 8 = k + j := ⟨l.length / 8 - k, by omega⟩
  rw [wordsQ, hj, List.range_add, List.map_append]
  exact List.prefix_append _ _
def KeepBox (Bn : Nat) (A B : World) : Prop := B.heap[Bn]? = A.heap[Bn]?
theorem grown_of_below {w w' : World} (h : Below w.heap.size w w') : w.grownBy w' none := ⟨h.os, h.tape, h.output, h.size, fun k hk _ => h.block k hk⟩

set_option maxRecDepth 100000 in
set_option maxHeartbeats 2000000 in
theorem words1_in (n : Nat) (_hn : 1 ≤ n) (l Bn : Nat) (s : ByteArray) (hs : s.size ≤ maxLen) (J Jx : List W8 → World → Prop) (W : World) (hJ : AbidesFrom W.heap.size J)
    (hY : ∀ pre x W1, J pre W1 → pre.length < s.size / 8 → YieldAt Fence.wide (n - 1) Tryz.prog l #[.agg (wd x.1)] W1 fun e W' =>
      (e = .returned (.bool true) ∧ J (pre ++ [x]) W' ∧ KeepBox Bn W1 W') ∨ (e = .returned (.bool false) ∧ Jx (pre ++ [x]) W'))
    (hBn : W.heap[Bn]? = some (.cells #[.string s] 9 (0, 0))) (h0 : J [] W) :
    CallsIn Fence.wide n Tryz.prog 99 #[.func (.yield l) #[] #[], .pointer (some ⟨Bn, 0, none⟩)] W fun e W' => (∃ v, e = .returned v) ∧
      ((∃ ys, ys = wordsQ s.data.toList ∧ J ys W') ∨ (∃ pre, pre <+: wordsQ s.data.toList ∧ Jx pre W')) := by
  have hs' := hs
  unfold maxLen at hs'
  have hsl : s.data.toList.length = s.size := by simp
  have HSL := Lib.hid hsl
  clear hsl
  have hBlt := (Array.getElem?_eq_some_iff.1 hBn).1
  have hc0 := Boxed.cell (t := 9) hBn
  refine callsIn_of_wp Tryz.func99 rfl trivial ?_ rfl
  simp only [Tryz.ntmps99, List.size_toArray, List.length_cons, List.length_nil, Nat.reduceAdd, Nat.reduceSub, Array.replicate_succ, Array.replicate_zero, List.push_toArray, List.append_toArray, List.nil_append, List.cons_append]
  gi_wp2
  gi_loopw [3, 7] (fun _ i wr => ∃ k : Nat, k ≤ s.size / 8 ∧ i = .int .i64 k ∧ J ((List.range k).map (wordQ s.data.toList)) wr ∧ Hid (wr.heap[Bn]? = some (.cells #[.string s] 9 (0, 0)))) (fun _ i _ => s.size / 8 - (intOf i).toNat)
  case atStart => exact ⟨0, by omega, rfl, h0, hBn⟩
  case round =>
    obtain ⟨k, hk, rfl, hJs, HB⟩ := hrel
    by_cases hk1 : k < s.size / 8
    · have hcell := Boxed.cell (t := 9) HB.out
      have hlt1 : decide ((k : Int) < (s.size : Int) / 8) = true := by simp; omega
      gi_wp2_with fail
      have hwq := wordQ_in s.data.toList k (by rw [HSL.out]; omega)
      have HWQ := Lib.hid hwq
      clear hwq
      refine ⟨trivial, (callsIn_wide.2 (wordAt_any s k _ hs (by omega) (by omega))).mono ?_⟩
      rintro e w1 ⟨rfl, hb1⟩
      rw [Int.toNat_natCast, ← HWQ.out]
      have hJ1 := hJ _ _ _ none hJs (grown_of_below hb1) (fun r e => by cases e)
      have HB1 : Hid (w1.heap[Bn]? = some (.cells #[.string s] 9 (0, 0))) := Lib.hid ((hb1.block Bn (Array.getElem?_eq_some_iff.1 HB.out).1).trans HB.out)
      obtain ⟨fn, tmps, assign, body, hy, hR⟩ := hY _ (wordQ s.data.toList k) w1 hJ1 (by simpa using hk1)
      clear hb1 hcell
      generalize hx : wd (wordQ s.data.toList k).1 = x at hy ⊢
      have HX := Lib.hid hx
      clear hx
      gi_wp2
      refine hR.mono ?_
      rintro e W3 (⟨rfl, hJ3, hk3⟩ | ⟨rfl, hJx3⟩)
      · gi_wp2
        go_roundw
        case rel => exact ⟨k + 1, by omega, by go_num, by rw [upto_snoc]; exact hJ3, hk3.trans HB1.out⟩
        case measure => simp [intOf]; omega
      · gi_wp2
        refine bodyPost_ret (results_none rfl _ _ _) rfl ?_
        exact ⟨⟨_, rfl⟩, .inr ⟨_, by rw [← upto_snoc]; exact upto_pre _ _ (by rw [HSL.out]; omega), hJx3⟩⟩
    · obtain rfl : k = s.size / 8 := by omega
      have hlt1 : decide (((s.size / 8 : Nat) : Int) < (s.size : Int) / 8) = false := by simp
      gi_wp2
      go_end0
      exact ⟨⟨_, rfl⟩, .inl ⟨_, by rw [wordsQ, HSL.out], hJs⟩⟩
theorem words_stops (n : Nat) (hn : 1 ≤ n) (Bn : Nat) (s : ByteArray) (hs : s.size ≤ maxLen) (w : World) (hBn : w.heap[Bn]? = some (.cells #[.string s] 9 (0, 0))) :
    SeqStopsK Fence.wide n Tryz.prog 99 #[.pointer (some ⟨Bn, 0, none⟩)] (fun x : W8 => #[Value.agg (wd x.1)]) (KeepBox Bn) (fun ys => ys = wordsQ s.data.toList) (fun pre => pre <+: wordsQ s.data.toList) (s.size / 8) w := fun l J Jx W hW hJ _ hY h0 =>
  words1_in n hn l Bn s hs J Jx W hJ hY ((hW.block Bn (Array.getElem?_eq_some_iff.1 hBn).1).trans hBn) h0
end Go.Proofs.YtbijfkpilncclaaGreat

namespace Go.Proofs.YtbijfkpilncclaaGreat
open Go.RowKit Go.Shelf
attribute [local go_sem] Oper.semAt_some
theorem box_bytes2 {w : World} {B : Nat} {x : W8} {T : TypeId} (h : w.heap[B]? = some (.cells (wd x.1) T (0, 0))) :
    ∃ b0 b1 b2 b3 b4 b5 b6 b7 : UInt8, x.1 = [b0, b1, b2, b3, b4, b5, b6, b7] ∧
      w.cell? ⟨B, 0, none⟩ = some (.int .u8 b0.toNat) ∧ w.cell? ⟨B, 1, none⟩ = some (.int .u8 b1.toNat) ∧ w.cell? ⟨B, 2, none⟩ = some (.int .u8 b2.toNat) ∧ w.cell? ⟨B, 3, none⟩ = some (.int .u8 b3.toNat) ∧
      w.cell? ⟨B, 4, none⟩ = some (.int .u8 b4.toNat) ∧ w.cell? ⟨B, 5, none⟩ = some (.int .u8 b5.toNat) ∧ w.cell? ⟨B, 6, none⟩ = some (.int .u8 b6.toNat) ∧ w.cell? ⟨B, 7, none⟩ = some (.int .u8 b7.toNat) := by
  obtain ⟨b0, b1, b2, b3, b4, b5, b6, b7, hx⟩ := len8 x.2
  rw [hx, wd8] at h
  refine ⟨b0, b1, b2, b3, b4, b5, b6, b7, hx, ?_, ?_, ?_, ?_, ?_, ?_, ?_, ?_⟩
  all_goals (rw [cell_of_row _ _ _ _ _ _ h]; rfl)
theorem wordsOf_in2 (n : Nat) (s : ByteArray) (w : World) :
    CallsIn Fence.wide n Tryz.prog 65 #[.string s] w fun e w' => e = .returned (.func (.func 99) #[] #[.pointer (some ⟨w.heap.size, 0, none⟩)]) ∧ w' = w.alloc (.cells #[.string s] 9) := by
  refine callsIn_of_wp Tryz.func65 rfl trivial ?_ rfl
  simp only [Tryz.ntmps65, List.size_toArray, List.length_cons, List.length_nil, Nat.reduceAdd, Nat.reduceSub, Array.replicate_succ, Array.replicate_zero, List.push_toArray, List.append_toArray, List.nil_append, List.cons_append]
  gi_wp2
  go_ret
  exact ⟨rfl, rfl⟩
theorem infoWdC : (Tryz.prog.info? 91).map (fun i => (i.zero, i.size, i.bytes)) = some (some (.agg #[.int .u8 0, .int .u8 0, .int .u8 0, .int .u8 0, .int .u8 0, .int .u8 0, .int .u8 0, .int .u8 0]), 8, 8) := by kernel_rfl
theorem cells_new (w : World) (xs : Array Value) (t : TypeId) : ∀ j u, xs.toList[j]? = some u → (w.alloc (.cells xs t)).cell? (Addr.add ⟨w.heap.size, 0, none⟩ j) = some u := fun j u h => by
  rw [show Addr.add ⟨w.heap.size, 0, none⟩ j = ⟨w.heap.size, j, none⟩ by cases j <;> simp [Addr.add], cell_of_row _ _ _ _ _ _ (heap_alloc_new w _)]
  simpa using h
def wl (l : List W8) : List (List UInt8) := l.map (·.1)
theorem wl_len (l : List W8) : (wl l).length = l.length := by simp [wl]
theorem wl_wds (l : List W8) : Wds (wl l) := fun x hx => by
  obtain ⟨y, _, rfl⟩ := List.mem_map.1 hx
  exact y.2
theorem wl_snoc (l : List W8) (x : W8) : (wl (l ++ [x])).flatten = (wl l).flatten ++ x.1 := by simp [wl]
def Coll (B : Nat) (v : Value) (l : List W8) (W : World) : Prop := W.ownsRow B 91 8 v l.length (Lib.byteCells (wl l).flatten)
theorem tne : 88 ≠ 91 := by decide
set_option maxRecDepth 100000 in
set_option maxHeartbeats 4000000 in
theorem appendSeq_in (s : ByteArray) (w : World) (hs : s.size ≤ 1600) (Bn : Nat) (hBn : Boxed w Bn 9 (.string s)) :
    CallsIn Fence.wide 5 Tryz.prog 98 #[.slice none 0 0, .func (.func 99) #[] #[.pointer (some ⟨Bn, 0, none⟩)]] w fun e w' => ∃ v, e = .returned v ∧ Coll w.heap.size v (wordsQ s.data.toList) w' ∧ Below w.heap.size w w' := by
  have hsl : s.data.toList.length = s.size := by simp
  obtain ⟨i0, hi, hz0, hz1, hz2⟩ := info_parts infoWdC
  refine callsIn_of_wp_marks Tryz.func98 rfl trivial ?_ rfl
  simp only [Tryz.ntmps98, List.size_toArray, List.length_cons, List.length_nil, Nat.reduceAdd, Nat.reduceSub, Array.replicate_succ, Array.replicate_zero, List.push_toArray, List.append_toArray, List.nil_append, List.cons_append]
  gi_wp2_with fail
  have hbn := hBn.lt
  have bS := Boxed.new w 88 (.slice none 0 0)
  have bT := hBn.alloc (.cells #[.slice none 0 0] 88)
  have hB0 : Below w.heap.size w (w.alloc (.cells #[.slice none 0 0] 88)) := (Below.refl _ w).alloc (Nat.le_refl _) _
  have hsz : (w.alloc (.cells #[.slice none 0 0] 88)).heap.size = w.heap.size + 1 := by simp
  obtain ⟨W0, hW0⟩ : ∃ W0, (w.alloc (.cells #[.slice none 0 0] 88)) = W0 := ⟨_, rfl⟩
  rw [hW0] at bS bT hB0 hsz ⊢
  clear hW0
  refine wpIn_rangeFunc_ownH rfl (by decide) (gf := 99) (lb := #[.pointer (some ⟨Bn, 0, none⟩)]) rfl trivial (enters_of Tryz.func99 (by kernel_rfl) rfl)
    (words_stops 4 (by decide) Bn s (by unfold maxLen; omega) W0 bT) (fun h k => k.trans h) (fun W l o o' hl h _ _ => (grownBy_putObj' W l o').block _ (by have := (Array.getElem?_eq_some_iff.1 h).1; omega) (by intro e; cases e; omega)) (Below.refl _ _) (fun _ => rfl)
    (fun pre W => (∃ v, Boxed W w.heap.size 88 v ∧ W.ownsRow w.heap.size 91 8 v pre.length (Lib.byteCells (wl pre).flatten) ∧ True) ∧ Below w.heap.size w W)
    (fun _ _ _ => False)
    (OwnFrom.and (Own.from (holdsRow_own w.heap.size w.heap.size 88 91 8 (fun pre : List W8 => pre.length) (fun pre => Lib.byteCells (wl pre).flatten) (fun _ _ => True)) _) (ownFrom_below (Nat.le_refl _) (by omega)))
    (fun _ _ _ _ _ hs _ _ => hs)
    ⟨⟨_, bS, ⟨rfl, .inl ⟨rfl, rfl⟩⟩, trivial⟩, hB0⟩
    (fun x a' W => ∃ Bx, w.heap.size < Bx ∧ W.heap[Bx]? = some (.cells (wd x.1) 91 (0, 0)) ∧ a' = { tmps := #[.slice none 0 0, .func (.func 99) #[] #[.pointer (some ⟨Bn, 0, none⟩)], .pointer (some ⟨w.heap.size, 0, none⟩), undef, .slice none 0 0, .pointer (some ⟨Bx, 0, none⟩), .func (.func 99) #[] #[.pointer (some ⟨Bn, 0, none⟩)], .agg (wd x.1), undef, undef, undef, undef, undef], defers := [] })
    (fun x a' _ X Y row hs hg hr => by
      obtain ⟨Bx, h1, h2, h3⟩ := hs
      refine ⟨Bx, h1, (hg.block Bx (Array.getElem?_eq_some_iff.1 h2).1 (fun e => ?_)).trans h2, h3⟩
      obtain ⟨_, o, ho, hcl⟩ := hr Bx e.symm
      rw [h2] at ho; cases ho; cases hcl)
    ?assign ?body ?done ?stop
  case assign =>
    rintro l pre x W K ⟨⟨v, bV, hrow, _⟩, hB1⟩ hK
    obtain ⟨b0, b1, b2, b3, b4, b5, b6, b7, hx⟩ := len8 x.2
    simp only [hx, wd8] at hK ⊢
    gi_wp2
    exact hK _ _ ((KeepsOthers.alloc _ _).from _) (Below.heap_alloc W _ _ (Nat.lt_of_lt_of_le hbn hB1.size)) ⟨⟨v, bV.alloc _, hrow.alloc _, trivial⟩, hB1.alloc hB1.size _⟩ ⟨W.heap.size, bV.lt, heap_alloc_new W _, rfl⟩
  case body =>
    rintro l pre x a' W hl ⟨r, hr⟩ ⟨⟨v, bV, hrow, _⟩, hB1⟩ ⟨Bx, hBx, bX, rfl⟩ hlt
    obtain ⟨b0, b1, b2, b3, b4, b5, b6, b7, hx, c0, c1, c2, c3, c4, c5, c6, c7⟩ := box_bytes2 bX
    have cV := bV.cell
    have fV := bV.frozen
    have hp : pre.length ≤ 200 := by omega
    have hn0 := hB1.size
    have HX := Lib.hid hx
    have hsn := wl_snoc pre x
    have hap : ∀ (w1 : World) (v' : Value), w1.ownsRow w.heap.size 91 8 v' (pre.length + 1) (Lib.byteCells (wl pre).flatten ++ [.int .u8 b0.toNat, .int .u8 b1.toNat, .int .u8 b2.toNat, .int .u8 b3.toNat, .int .u8 b4.toNat, .int .u8 b5.toNat, .int .u8 b6.toNat, .int .u8 b7.toNat]) → w1.ownsRow w.heap.size 91 8 v' (pre ++ [x]).length (Lib.byteCells (wl (pre ++ [x])).flatten) := fun _ _ h => by
      rw [hsn, hx, List.length_append, List.length_singleton]
      simpa [Lib.byteCells] using h
    have HAP := Lib.hid hap
    clear hsn hap hx
    gi_wp2_with (gi_at_builtin; go_must (refine wpListIn_append_own _ rfl (.tmp 8) (.tmp 10) 88 rfl w.heap.size 91 i0 _ 8 8 Tryz.underlying88 hi hz0 hz1 hz2 rfl (by decide) v _ _ rfl (hrow.alloc _) ⟨W.heap.size, 0, none⟩ 1 1 [.int .u8 b0.toNat, .int .u8 b1.toNat, .int .u8 b2.toNat, .int .u8 b3.toNat, .int .u8 b4.toNat, .int .u8 b5.toNat, .int .u8 b6.toNat, .int .u8 b7.toNat] rfl rfl (cells_new W #[_, _, _, _, _, _, _, _] _) (by simp [Value.oneCell']) (by unfold maxLen; omega) (by omega) (by simp; omega) ?_); intro v' w1 hown' hgrow _; obtain ⟨h1, h2, h3, h4, h5⟩ := bV.appended tne hrow hn0 (Nat.le_refl _) hown' hgrow; have e1 := h1.cell; have e2 := h1.frozen; obtain ⟨g', cap', rfl⟩ := ownsRow_succ hown')
    have H2 := Lib.hid h2
    have H3 := Lib.hid (HAP.out _ _ h3)
    clear h2 h3 hown' hgrow
    gi_wp2
    exact ⟨h4.from _, h5.block _ hbn, ⟨_, H2.out, H3.out, trivial⟩, hB1.trans h5⟩
  case done =>
    rintro D zs W hD rfl ⟨⟨v, bV, hrow, _⟩, hB1⟩ hK
    have cE := bV.cell
    gi_wp2
    refine ⟨by simp, .inl ⟨_, _, rfl, run_takeDeferred hK, ?_⟩⟩
    exact ⟨_, results_tmp rfl _ _ _, v, rfl, ownsRow_putObj hrow _ hK rfl, hB1.trans (belowK_b (w := w) (Nat.le_refl _) W D _ _ (by omega) hK rfl rfl)⟩
  case stop =>
    rintro D c pre W _ _ h _
    exact h.elim
set_option maxHeartbeats 2000000 in
theorem collect_in (s : ByteArray) (w : World) (hs : s.size ≤ 1600) (Bn : Nat) (hBn : Boxed w Bn 9 (.string s)) :
    CallsIn Fence.wide 6 Tryz.prog 64 #[.func (.func 99) #[] #[.pointer (some ⟨Bn, 0, none⟩)]] w fun e w' => ∃ v, e = .returned v ∧ Coll w.heap.size v (wordsQ s.data.toList) w' ∧ Below w.heap.size w w' := by
  have HA := Lib.hid (appendSeq_in s w hs Bn hBn)
  refine callsIn_of_wp Tryz.func64 rfl trivial ?_ rfl
  simp only [Tryz.ntmps64, List.size_toArray, List.length_cons, List.length_nil, Nat.reduceAdd, Nat.reduceSub, Array.replicate_succ, Array.replicate_zero, List.push_toArray, List.append_toArray, List.nil_append, List.cons_append]
  gi_wp2_with fail
  refine ⟨trivial, HA.out.mono ?_⟩
  rintro e w1 ⟨v, rfl, h1, h2⟩
  gi_wp2
  go_ret
  exact ⟨v, rfl, h1, h2⟩
end Go.Proofs.YtbijfkpilncclaaGreat

namespace Go.Proofs.YtbijfkpilncclaaGreat
open Go.RowKit
def packB (l : List UInt8) : List UInt8 := if wordsB l.length then packW (wl (wordsQ l)) else []
theorem Coll.ws {B : Nat} {v : Value} {l : List W8} {W : World} (h : Coll B v l W) : ∃ A cap, v = .slice A (wl l).length cap ∧ ∀ b, W.heap.size ≤ b → WS (b + 1) b W v (wl l) := by
  have hr := h
  rcases hr.2 with ⟨rfl, h0⟩ | ⟨g, cap, cur, rfl, hB, hg, h1, h2, h3, h4⟩
  · have hl : wl l = [] := by rw [List.eq_nil_of_length_eq_zero h0]; rfl
    exact ⟨none, 0, by rw [hl]; rfl, fun b hb => by rw [hl]; exact WS.empty _ _ _ _ _ (by omega)⟩
  · have hlt := (Array.getElem?_eq_some_iff.1 hg).1
    refine ⟨some ⟨g, 0, none⟩, cap, by rw [wl_len], fun b hb => ⟨some ⟨g, 0, none⟩, cap, by rw [wl_len], by rw [wl_len]; exact h1, by unfold maxLen at h2; omega, wl_wds l, .inr ⟨g, 0, rfl, by omega, by omega, fun j u hu => ?_⟩⟩⟩
    rw [Nat.zero_add, cell_of_row _ _ _ _ _ _ hg]
    rw [← h4, List.getElem?_take] at hu
    split at hu
    · simpa using hu
    · cases hu
set_option maxHeartbeats 2000000 in
theorem implPack_any (s : ByteArray) (w : World) (hs : s.size ≤ maxLen) :
    Calls Tryz.prog 28 #[.string s] w fun e w' => e = .returned (.string ⟨(packB s.data.toList).toArray⟩) ∧ Below w.heap.size w w' := by
  have hsl : s.data.toList.length = s.size := by simp
  cases hw : wordsB s.size
  · have hT : packB s.data.toList = [] := by rw [packB, hsl, hw, if_neg (by simp)]
    rw [hT]
    clear hsl hT
    go_enter Tryz.func28, Tryz.ntmps28
    go_wp2_with (go_at_call 27; refine (isWords_any _ _ hs).mono ?_; rintro e w' ⟨rfl, rfl⟩)
    go_ret
    exact ⟨rfl, Below.refl _ _⟩
  · have hT : packB s.data.toList = packW (wl (wordsQ s.data.toList)) := by rw [packB, hsl, hw, if_pos rfl]
    have hw8 : s.size % 8 = 0 ∧ s.size ≤ 1600 := by simpa [wordsB] using hw
    have hwl : (wl (wordsQ s.data.toList)).length ≤ 200 := by rw [wl_len, wordsQ_length, hsl]; omega
    have hpl := pack_len (wl_wds (wordsQ s.data.toList))
    rw [hT]
    have HCo := Lib.hid (fun Wx h => callsIn_wide.1 (collect_in s Wx hw8.2 w.heap.size h))
    clear hsl hT hw8
    generalize hws : wordsQ s.data.toList = wq at HCo hwl hpl ⊢
    obtain ⟨R, hR⟩ : ∃ R, packW (wl wq) = R := ⟨_, rfl⟩
    rw [hR] at hpl ⊢
    have HR := Lib.hid hR
    have HWl := Lib.hid hwl
    have HRl : Hid (R.length ≤ 100000) := Lib.hid (by omega)
    clear hws hR hwl hpl
    go_enter Tryz.func28, Tryz.ntmps28
    go_wp2_with (first | (go_at_call 27; refine (isWords_any _ _ hs).mono ?_; rintro e w' ⟨rfl, rfl⟩; rw [hw]) | (go_at_call 65; refine (callsIn_wide.1 (wordsOf_in2 5 s _)).mono ?_; rintro e w' ⟨rfl, rfl⟩))
    refine (HCo.out _ (Boxed.new w 9 (.string s))).mono ?_
    rintro e w1 ⟨v, rfl, hcoll, hb1⟩
    obtain ⟨A, cap, rfl, hws⟩ := hcoll.ws
    have hWS := hws w1.heap.size (Nat.le_refl _)
    have hbb1 : Below w.heap.size w w1 := ((Below.refl _ w).alloc (Nat.le_refl _) (.cells #[.string s] 9)).trans (hb1.mono (by simp))
    clear hws hcoll hb1
    generalize hn : (wl wq).length = n at hWS HWl
    have HN := Lib.hid hn
    have h0 := heap_alloc_new w1 (.cells #[.pointer none, .slice none 0 0, .slice A n cap] 96)
    have hb0 : Below w1.heap.size w1 (w1.alloc (.cells #[.pointer none, .slice none 0 0, .slice A n cap] 96)) := (Below.refl _ _).alloc (Nat.le_refl _) _
    obtain ⟨w2, hw2⟩ : ∃ w2, w1.alloc (.cells #[.pointer none, .slice none 0 0, .slice A n cap] 96) = w2 := ⟨_, rfl⟩
    have hsz : w2.heap.size = w1.heap.size + 1 := by rw [← hw2]; simp
    rw [hw2] at h0 hb0
    have hU : PS (w1.heap.size + 1) w1.heap.size [] (.slice A n cap) (wl wq) w2 := by
      refine ⟨BF.fresh (w1.heap.size + 1) h0, ?_⟩
      obtain ⟨A', cap', e1, e2, e3, e4, e5⟩ := hWS
      refine ⟨A', cap', e1, e2, e3, e4, e5.imp id ?_⟩
      rintro ⟨g, o, ha, hg, hne, hr⟩
      exact ⟨g, o, ha, hg, hne, fun j u hu => (hb0.cell (p := ⟨g, o + j, none⟩) (show g < w1.heap.size by omega)).trans (hr j u hu)⟩
    have hrun := prun_any R (w1.heap.size + 1) w1.heap.size _ (pTag w1.heap.size) w2 ⟨[], _, _, hU, by rw [hn]; exact HWl.out, .inl ⟨rfl, by rw [List.nil_append]; exact HR.out, Nat.le_refl _⟩⟩ (by omega) HRl.out
    have HRun := Lib.hid hrun
    have HW2 := Lib.hid hw2
    have HB0 := Lib.hid (hbb1.trans (hb0.mono hbb1.size))
    have HLe := Lib.hid hbb1.size
    clear h0 hb0 hU hrun hw2 hWS hbb1 hn
    unfold pTag at HRun
    go_wp2_with fail
    rw [HW2.out]
    refine HRun.out.mono ?_
    rintro e w3 ⟨rfl, ⟨k, hj⟩, hk⟩
    have HK := Lib.hid (HB0.out.trans (hk.below (Nat.le_trans HLe.out (Nat.le_succ _)) HLe.out))
    have hB2 := hk.size
    obtain ⟨v', ws', hp⟩ := hj.ended
    have HS := Lib.hid (fstring_any 96 (w1.heap.size + 1) w1.heap.size R [v'] w3 hp.1 (by omega))
    clear hj hp hk
    go_wp2_with fail
    refine HS.out.mono ?_
    rintro e w4 ⟨rfl, hb3⟩
    have HB3 := Lib.hid (HK.out.trans (hb3.mono (Nat.le_trans HLe.out (Nat.le_succ _))))
    clear hb3
    go_wp2
    go_ret
    exact ⟨rfl, HB3.out⟩
end Go.Proofs.YtbijfkpilncclaaGreat
