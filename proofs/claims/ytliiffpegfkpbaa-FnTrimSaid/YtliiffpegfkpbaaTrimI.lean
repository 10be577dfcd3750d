/- impl.Trim: what it answers at every argument. -/
import Derived.Test.YtliiffpegfkpbaaSeqW
import Derived.Test.YtliiffpegfkpbaaTrimS3
import Derived.Stop.BytesEq
namespace Go.Proofs.Ytliiffpegfkpbaa
open Go.RowKit Go.Shelf
attribute [local go_sem] Oper.semAt_some
/-- how many words are left, noughts at the end taken away (the last word first). -/
def nzR : List W8 → Nat
  | [] => 0
  | x :: r => if zerB x.1 then nzR r else r.length + 1
def nzN (l : List W8) : Nat := nzR l.reverse
theorem nzN_nil : nzN [] = 0 := rfl
theorem nzN_snoc (l : List W8) (x : W8) : nzN (l ++ [x]) = if zerB x.1 then nzN l else l.length + 1 := by
  rw [nzN, List.reverse_append]; simp [nzR, nzN]
theorem nzR_le : ∀ l : List W8, nzR l ≤ l.length
  | [] => Nat.le_refl _
  | x :: r => by
    have := nzR_le r
    rw [nzR]
    split <;> simp <;> omega
theorem nzN_le (l : List W8) : nzN l ≤ l.length := by have := nzR_le l.reverse; rw [nzN]; simpa using this
theorem nzN_trim (l : List UInt8) : ∀ k, k ≤ l.length / 8 → nzN ((List.range k).map (wordQ l)) = trimN l k
  | 0, _ => rfl
  | k + 1, h => by
    rw [upto_snoc, nzN_snoc, nzN_trim l k (by omega), wordQ_in l k (by omega), trimN]
    simp
theorem nzN_words (l : List UInt8) : nzN (wordsQ l) = trimN l (l.length / 8) := nzN_trim l _ (Nat.le_refl _)
theorem zer8_of (a b c d e f g i : UInt8) : zerB [a, b, c, d, e, f, g, i] = ([a, b, c, d, e, f, g, i] == [0, 0, 0, 0, 0, 0, 0, 0]) := by
  rw [Bool.eq_iff_iff]; simp [zerB]
theorem neq_word (a b c d e f g i : UInt8) (w : World) :
    (binOp .neq 48 (.agg #[.int .u8 a.toNat, .int .u8 b.toNat, .int .u8 c.toNat, .int .u8 d.toNat, .int .u8 e.toNat, .int .u8 f.toNat, .int .u8 g.toNat, .int .u8 i.toNat]) (.agg #[.int .u8 0, .int .u8 0, .int .u8 0, .int .u8 0, .int .u8 0, .int .u8 0, .int .u8 0, .int .u8 0])).run Try.prog w = .ok (.bool (!(zerB [a, b, c, d, e, f, g, i]))) w := by
  rw [zer8_of]
  have h2 : ((Op.equalIn 10000 48 (.agg #[.int .u8 a.toNat, .int .u8 b.toNat, .int .u8 c.toNat, .int .u8 d.toNat, .int .u8 e.toNat, .int .u8 f.toNat, .int .u8 g.toNat, .int .u8 i.toNat]) (.agg #[.int .u8 0, .int .u8 0, .int .u8 0, .int .u8 0, .int .u8 0, .int .u8 0, .int .u8 0, .int .u8 0])).run Try.prog w) = .ok ([a, b, c, d, e, f, g, i] == [0, 0, 0, 0, 0, 0, 0, 0]) w := run_equalIn_bytes w 9998 48 5 8 Try.underlying48 Try.underlying5 (fun w => by kernel_rfl) [a, b, c, d, e, f, g, i] [0, 0, 0, 0, 0, 0, 0, 0] rfl rfl
  rw [run_neq_struct, h2]
  rfl
theorem guard_word' (op : BinOp) (x y : Operand) (xs ys : Array Value) (w : World) : (eqGuard op 48 x y (.agg xs) (.agg ys)).run Try.prog w = .ok () w := run_eqGuard_agg w _ _ _ _ _ _ (by kernel_rfl)
theorem wordsOf_in (n : Nat) (s : ByteArray) (w : World) :
    CallsIn Fence.wide n Try.prog 50 #[.string s] w fun e w' => e = .returned (.func (.func 65) #[] #[.pointer (some ⟨w.heap.size, 0, none⟩)]) ∧ w' = w.alloc (.cells #[.string s] 9) := by
  refine callsIn_of_wp Try.func50 rfl trivial ?_ rfl
  simp only [Try.ntmps50, List.size_toArray, List.length_cons, List.length_nil, Nat.reduceAdd, Nat.reduceSub, Array.replicate_succ, Array.replicate_zero, List.push_toArray, List.append_toArray, List.nil_append, List.cons_append]
  gi_wp2
  go_ret
  exact ⟨rfl, rfl⟩
theorem box_bytes {w : World} {B : Nat} {x : W8} {T : TypeId} (h : w.heap[B]? = some (.cells (wd x.1) T (0, 0))) :
    ∃ b0 b1 b2 b3 b4 b5 b6 b7 : UInt8, x.1 = [b0, b1, b2, b3, b4, b5, b6, b7] ∧
      w.cell? ⟨B, 0, none⟩ = some (.int .u8 b0.toNat) ∧ w.cell? ⟨B, 1, none⟩ = some (.int .u8 b1.toNat) ∧ w.cell? ⟨B, 2, none⟩ = some (.int .u8 b2.toNat) ∧ w.cell? ⟨B, 3, none⟩ = some (.int .u8 b3.toNat) ∧
      w.cell? ⟨B, 4, none⟩ = some (.int .u8 b4.toNat) ∧ w.cell? ⟨B, 5, none⟩ = some (.int .u8 b5.toNat) ∧ w.cell? ⟨B, 6, none⟩ = some (.int .u8 b6.toNat) ∧ w.cell? ⟨B, 7, none⟩ = some (.int .u8 b7.toNat) := by
  obtain ⟨b0, b1, b2, b3, b4, b5, b6, b7, hx⟩ := len8 x.2
  rw [hx, wd8] at h
  refine ⟨b0, b1, b2, b3, b4, b5, b6, b7, hx, ?_, ?_, ?_, ?_, ?_, ?_, ?_, ?_⟩
  all_goals (rw [cell_of_row _ _ _ _ _ _ h]; rfl)
set_option maxRecDepth 100000 in
set_option maxHeartbeats 4000000 in
theorem trim_in (s : ByteArray) (w : World) (hs : s.size ≤ maxLen) (hw : wordsB s.size = true) :
    CallsIn Fence.wide 6 Try.prog 23 #[.string s] w fun e w' => e = .returned (.string (s.extract 0 (8 * nzN (wordsQ s.data.toList)))) ∧ Below w.heap.size w w' := by
  have hw8 : s.size % 8 = 0 ∧ s.size ≤ 1600 := by simpa [wordsB] using hw
  obtain ⟨hw1, hw2⟩ := hw8
  have hle := nzN_le (wordsQ s.data.toList)
  rw [wordsQ_length] at hle
  have hsl : s.data.toList.length = s.size := by simp
  rw [hsl] at hle
  clear hsl
  refine callsIn_of_wp_marks Try.func23 rfl trivial ?_ rfl
  simp only [Try.ntmps23, List.size_toArray, List.length_cons, List.length_nil, Nat.reduceAdd, Nat.reduceSub, Array.replicate_succ, Array.replicate_zero, List.push_toArray, List.append_toArray, List.nil_append, List.cons_append]
  gi_wp2_with fail
  refine ⟨trivial, (callsIn_wide.2 (isWords_any s _ hs)).mono ?_⟩
  rintro e w' ⟨rfl, rfl⟩
  rw [hw]
  gi_wp2_with fail
  refine ⟨trivial, (wordsOf_in _ s _).mono ?_⟩
  rintro e w' ⟨rfl, rfl⟩
  gi_wp2_with fail
  have bAt := ((Boxed.new w 3 (.int .i64 0)).alloc (.cells #[.int .i64 0] 3)).alloc (.cells #[.string s] 9)
  have bEnd := (Boxed.new (w.alloc (.cells #[.int .i64 0] 3)) 3 (.int .i64 0)).alloc (.cells #[.string s] 9)
  have bTx := Boxed.new ((w.alloc (.cells #[.int .i64 0] 3)).alloc (.cells #[.int .i64 0] 3)) 9 (.string s)
  simp only [World.size_alloc] at bEnd bTx
  have hB0 : Below w.heap.size w (((w.alloc (.cells #[.int .i64 0] 3)).alloc (.cells #[.int .i64 0] 3)).alloc (.cells #[.string s] 9)) := (((Below.refl _ w).alloc (Nat.le_refl _) _).alloc (by simp) _).alloc (by simp; omega) _
  have hsz : (((w.alloc (.cells #[.int .i64 0] 3)).alloc (.cells #[.int .i64 0] 3)).alloc (.cells #[.string s] 9)).heap.size = w.heap.size + 3 := by simp
  obtain ⟨W0, hW0⟩ : ∃ W0, (((w.alloc (.cells #[.int .i64 0] 3)).alloc (.cells #[.int .i64 0] 3)).alloc (.cells #[.string s] 9)) = W0 := ⟨_, rfl⟩
  rw [hW0] at bAt bEnd bTx hB0 hsz ⊢
  clear hW0
  refine wpIn_rangeFunc_ownH rfl (by decide) (gf := 65) (lb := #[.pointer (some ⟨w.heap.size + 1 + 1, 0, none⟩)]) rfl trivial (enters_of Try.func65 (by kernel_rfl) rfl)
    (words_stops 5 (by decide) (w.heap.size + 1 + 1) s hs W0 bTx) (fun h k => k.trans h) (fun W l o o' hl h _ _ => (grownBy_putObj' W l o').block _ (by have := (Array.getElem?_eq_some_iff.1 h).1; omega) (by intro e; cases e; omega)) (Below.refl _ _) (fun _ => rfl)
    (fun pre W => (Boxed W w.heap.size 3 (.int .i64 ((8 * pre.length : Nat) : Int)) ∧ Boxed W (w.heap.size + 1) 3 (.int .i64 ((8 * nzN pre : Nat) : Int)) ∧ Boxed W (w.heap.size + 1 + 1) 9 (.string s)) ∧ Below w.heap.size w W)
    (fun _ _ _ => False)
    (OwnFrom.and (OwnFrom.and (Own.from (boxed_own _ _ _) _) (OwnFrom.and (Own.from (boxed_own _ _ _) _) (Own.from (boxed_own _ _ _) _))) (ownFrom_below (Nat.le_refl _) (by omega)))
    (fun _ _ _ _ _ hs _ _ => hs)
    ⟨⟨bAt, bEnd, bTx⟩, hB0⟩
    (fun x a' W => ∃ Bx, w.heap.size + 1 + 1 < Bx ∧ W.heap[Bx]? = some (.cells (wd x.1) 48 (0, 0)) ∧ a' = { tmps := #[.string s, undef, .string ByteArray.empty, .pointer (some ⟨w.heap.size, 0, none⟩), .pointer (some ⟨w.heap.size + 1, 0, none⟩), .pointer (some ⟨Bx, 0, none⟩), .string s, .bool true, .bool false, .string s, .func (.func 65) #[] #[.pointer (some ⟨w.heap.size + 1 + 1, 0, none⟩)], .agg (wd x.1), undef, undef, undef, undef, undef, undef, undef, undef, undef], defers := [] })
    (fun x a' _ X Y row hs hg hr => by
      obtain ⟨Bx, h1, h2, h3⟩ := hs
      refine ⟨Bx, h1, (hg.block Bx (Array.getElem?_eq_some_iff.1 h2).1 (fun e => ?_)).trans h2, h3⟩
      obtain ⟨_, o, ho, hcl⟩ := hr Bx e.symm
      rw [h2] at ho; cases ho; cases hcl)
    ?assign ?body ?done ?stop
  case assign =>
    rintro l pre x W K ⟨⟨bA1, bE1, bT1⟩, hB1⟩ hK
    obtain ⟨b0, b1, b2, b3, b4, b5, b6, b7, hx⟩ := len8 x.2
    simp only [hx, wd8] at hK ⊢
    gi_wp2
    exact hK _ _ ((KeepsOthers.alloc _ _).from _) (Below.heap_alloc W _ _ bT1.lt) ⟨⟨bA1.alloc _, bE1.alloc _, bT1.alloc _⟩, hB1.alloc hB1.size _⟩ ⟨W.heap.size, bT1.lt, heap_alloc_new W _, rfl⟩
  case body =>
    rintro l pre x a' W hl ⟨r, hr⟩ ⟨⟨bA1, bE1, bT1⟩, hB1⟩ ⟨Bx, hBx, bX, rfl⟩ hlt
    obtain ⟨b0, b1, b2, b3, b4, b5, b6, b7, hx, c0, c1, c2, c3, c4, c5, c6, c7⟩ := box_bytes bX
    have hneq := neq_word b0 b1 b2 b3 b4 b5 b6 b7
    rw [← hx] at hneq
    have hgd := fun x y => guard_word' .neq x y
    have cA := bA1.cell
    have fA := bA1.frozen
    have fE := bE1.frozen
    have hp : pre.length ≤ 1600 := by omega
    have hv : ((8 * pre.length : Nat) : Int) + 8 = ((8 * (pre ++ [x]).length : Nat) : Int) := by rw [List.length_append, List.length_singleton]; omega
    have HV := Lib.hid hv
    have hnz := nzN_snoc pre x
    have HNZ := Lib.hid hnz
    have HX := Lib.hid hx
    clear hv hnz hx
    have cE := bE1.cell
    have hvv : (8 : Int) * (pre.length : Int) + 8 = ((8 * (pre ++ [x]).length : Nat) : Int) := by rw [List.length_append, List.length_singleton]; omega
    have HVV := Lib.hid hvv
    have bA2 : Boxed (W.setCell ⟨w.heap.size, 0, none⟩ (.int .i64 (8 * (pre.length : Int) + 8))) w.heap.size 3 (.int .i64 ((8 * (pre ++ [x]).length : Nat) : Int)) := by rw [← HVV.out]; exact bA1.set _
    have bE2 : Boxed (W.setCell ⟨w.heap.size, 0, none⟩ (.int .i64 (8 * (pre.length : Int) + 8))) (w.heap.size + 1) 3 (.int .i64 ((8 * nzN pre : Nat) : Int)) := bE1.other (by omega) _
    have bT2 : Boxed (W.setCell ⟨w.heap.size, 0, none⟩ (.int .i64 (8 * (pre.length : Int) + 8))) (w.heap.size + 1 + 1) 9 (.string s) := bT1.other (by omega) _
    have hB2 : Below w.heap.size w (W.setCell ⟨w.heap.size, 0, none⟩ (.int .i64 (8 * (pre.length : Int) + 8))) := hB1.setCell (p := ⟨w.heap.size, 0, none⟩) (Nat.le_refl _) _
    have hK2 : KeepsFrom W0.heap.size W (W.setCell ⟨w.heap.size, 0, none⟩ (.int .i64 (8 * (pre.length : Int) + 8))) := (KeepsOthers.setCell _ _ _).from _
    have BA2 := Lib.hid bA2
    have BT2 := Lib.hid bT2
    have BE2 := Lib.hid bE2
    have HB2 := Lib.hid hB2
    have HK2 := Lib.hid hK2
    have BT1 := Lib.hid bT1
    have cE2 := bE2.cell
    have fE2 := bE2.frozen
    clear hvv bA2 bT2 hB2 hK2 bE2
    cases hz : zerB x.1
    · rw [hz] at hneq
      have hneq' : ∀ w : World, (binOp .neq 48 (.agg #[.int .u8 b0.toNat, .int .u8 b1.toNat, .int .u8 b2.toNat, .int .u8 b3.toNat, .int .u8 b4.toNat, .int .u8 b5.toNat, .int .u8 b6.toNat, .int .u8 b7.toNat]) (.agg #[.int .u8 0, .int .u8 0, .int .u8 0, .int .u8 0, .int .u8 0, .int .u8 0, .int .u8 0, .int .u8 0])).run Try.prog w = .ok (.bool true) w := hneq
      have hn1 : nzN (pre ++ [x]) = (pre ++ [x]).length := by rw [HNZ.out, hz, List.length_append, List.length_singleton]; rfl
      have HN1 := Lib.hid hn1
      clear hneq hz hn1
      gi_wp2
      refine ⟨HK2.out.trans ((KeepsOthers.setCell _ _ _).from _), BT2.out.other (by omega) _ |>.trans BT1.out.symm, ⟨BA2.out.other (by omega) _, ?_, BT2.out.other (by omega) _⟩, HB2.out.setCell (p := ⟨w.heap.size + 1, 0, none⟩) (by simp) _⟩
      rw [HN1.out, ← HVV.out]
      exact BE2.out.set _
    · rw [hz] at hneq
      have hneq' : ∀ w : World, (binOp .neq 48 (.agg #[.int .u8 b0.toNat, .int .u8 b1.toNat, .int .u8 b2.toNat, .int .u8 b3.toNat, .int .u8 b4.toNat, .int .u8 b5.toNat, .int .u8 b6.toNat, .int .u8 b7.toNat]) (.agg #[.int .u8 0, .int .u8 0, .int .u8 0, .int .u8 0, .int .u8 0, .int .u8 0, .int .u8 0, .int .u8 0])).run Try.prog w = .ok (.bool false) w := hneq
      have hn1 : nzN (pre ++ [x]) = nzN pre := by rw [HNZ.out, hz]; rfl
      have HN1 := Lib.hid hn1
      clear hneq hz hn1
      gi_wp2
      refine ⟨HK2.out, BT2.out.trans BT1.out.symm, ⟨BA2.out, ?_, BT2.out⟩, HB2.out⟩
      rw [HN1.out]
      exact BE2.out
  case done =>
    rintro D zs W hD rfl ⟨⟨bA1, bE1, bT1⟩, hB1⟩ hK
    have cE := bE1.cell
    have g0 : (0 : Int) ≤ ((8 * nzN (wordsQ s.data.toList) : Nat) : Int) := by omega
    have g1 : ((8 * nzN (wordsQ s.data.toList) : Nat) : Int) ≤ (s.size : Int) := by omega
    gi_wp2
    refine ⟨by simp, .inl ⟨_, _, rfl, run_takeDeferred hK, ?_⟩⟩
    exact ⟨_, results_tmp rfl _ _ _, rfl, hB1.trans (belowK_b (w := w) (Nat.le_refl _) W D _ _ (by omega) hK rfl rfl)⟩
  case stop =>
    rintro D c pre W _ _ h _
    exact h.elim
end Go.Proofs.Ytliiffpegfkpbaa
