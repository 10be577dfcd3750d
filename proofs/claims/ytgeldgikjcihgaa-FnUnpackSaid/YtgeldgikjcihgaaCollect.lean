/- slices.Collect over impl.wordsOf: the words of a text in a slice of the call's own. -/
import Derived.Test.YtgeldgikjcihgaaSeqW
import Derived.Test.YtgeldgikjcihgaaPkB
import Derived.RangeFuncBox
namespace Go.Proofs.Ytgeldgikjcihgaa
open Go.RowKit Go.Shelf
attribute [local go_sem] Oper.semAt_some
theorem box_bytes2 {w : World} {B : Nat} {x : W8} {T : TypeId} (h : w.heap[B]? = some (.cells (wd x.1) T (0, 0))) :
    ∃ b0 b1 b2 b3 b4 b5 b6 b7 : UInt8, x.1 = [b0, b1, b2, b3, b4, b5, b6, b7] ∧
      w.cell? ⟨B, 0, none⟩ = some (.int .u8 b0.toNat) ∧ w.cell? ⟨B, 1, none⟩ = some (.int .u8 b1.toNat) ∧ w.cell? ⟨B, 2, none⟩ = some (.int .u8 b2.toNat) ∧ w.cell? ⟨B, 3, none⟩ = some (.int .u8 b3.toNat) ∧
      w.cell? ⟨B, 4, none⟩ = some (.int .u8 b4.toNat) ∧ w.cell? ⟨B, 5, none⟩ = some (.int .u8 b5.toNat) ∧ w.cell? ⟨B, 6, none⟩ = some (.int .u8 b6.toNat) ∧ w.cell? ⟨B, 7, none⟩ = some (.int .u8 b7.toNat) := by
  obtain ⟨b0, b1, b2, b3, b4, b5, b6, b7, hx⟩ := len8 x.2
  rw [hx, wd8] at h
  refine ⟨b0, b1, b2, b3, b4, b5, b6, b7, hx, ?_, ?_, ?_, ?_, ?_, ?_, ?_, ?_⟩
  all_goals (rw [cell_of_row _ _ _ _ _ _ h]; rfl)
theorem wordsOf_in2 (n : Nat) (s : ByteArray) (w : World) :
    CallsIn Fence.wide n Try.prog 37 #[.string s] w fun e w' => e = .returned (.func (.func 58) #[] #[.pointer (some ⟨w.heap.size, 0, none⟩)]) ∧ w' = w.alloc (.cells #[.string s] 9) := by
  refine callsIn_of_wp Try.func37 rfl trivial ?_ rfl
  simp only [Try.ntmps37, List.size_toArray, List.length_cons, List.length_nil, Nat.reduceAdd, Nat.reduceSub, Array.replicate_succ, Array.replicate_zero, List.push_toArray, List.append_toArray, List.nil_append, List.cons_append]
  gi_wp2
  go_ret
  exact ⟨rfl, rfl⟩
theorem infoWd : (Try.prog.info? 50).map (fun i => (i.zero, i.size, i.bytes)) = some (some (.agg #[.int .u8 0, .int .u8 0, .int .u8 0, .int .u8 0, .int .u8 0, .int .u8 0, .int .u8 0, .int .u8 0]), 8, 8) := by kernel_rfl
theorem cells_new (w : World) (xs : Array Value) (t : TypeId) : ∀ j u, xs.toList[j]? = some u → (w.alloc (.cells xs t)).cell? (Addr.add ⟨w.heap.size, 0, none⟩ j) = some u := fun j u h => by
  rw [show Addr.add ⟨w.heap.size, 0, none⟩ j = ⟨w.heap.size, j, none⟩ by cases j <;> simp [Addr.add], cell_of_row _ _ _ _ _ _ (heap_alloc_new w _)]
  simpa using h
/-- the words of a list. -/
def wl (l : List W8) : List (List UInt8) := l.map (·.1)
theorem wl_len (l : List W8) : (wl l).length = l.length := by simp [wl]
theorem wl_wds (l : List W8) : Wds (wl l) := fun x hx => by
  obtain ⟨y, _, rfl⟩ := List.mem_map.1 hx
  exact y.2
theorem wl_snoc (l : List W8) (x : W8) : (wl (l ++ [x])).flatten = (wl l).flatten ++ x.1 := by simp [wl]
def Coll (B : Nat) (v : Value) (l : List W8) (W : World) : Prop := W.ownsRow B 50 8 v l.length (Lib.byteCells (wl l).flatten)
theorem tne : 47 ≠ 50 := by decide
set_option maxRecDepth 100000 in
set_option maxHeartbeats 4000000 in
theorem appendSeq_in (s : ByteArray) (w : World) (hs : s.size ≤ 1600) (Bn : Nat) (hBn : Boxed w Bn 9 (.string s)) :
    CallsIn Fence.wide 5 Try.prog 57 #[.slice none 0 0, .func (.func 58) #[] #[.pointer (some ⟨Bn, 0, none⟩)]] w fun e w' => ∃ v, e = .returned v ∧ Coll w.heap.size v (wordsQ s.data.toList) w' ∧ Below w.heap.size w w' := by
  have hsl : s.data.toList.length = s.size := by simp
  obtain ⟨i0, hi, hz0, hz1, hz2⟩ := info_parts infoWd
  refine callsIn_of_wp_marks Try.func57 rfl trivial ?_ rfl
  simp only [Try.ntmps57, List.size_toArray, List.length_cons, List.length_nil, Nat.reduceAdd, Nat.reduceSub, Array.replicate_succ, Array.replicate_zero, List.push_toArray, List.append_toArray, List.nil_append, List.cons_append]
  gi_wp2_with fail
  have hbn := hBn.lt
  have bS := Boxed.new w 47 (.slice none 0 0)
  have bT := hBn.alloc (.cells #[.slice none 0 0] 47)
  have hB0 : Below w.heap.size w (w.alloc (.cells #[.slice none 0 0] 47)) := (Below.refl _ w).alloc (Nat.le_refl _) _
  have hsz : (w.alloc (.cells #[.slice none 0 0] 47)).heap.size = w.heap.size + 1 := by simp
  obtain ⟨W0, hW0⟩ : ∃ W0, (w.alloc (.cells #[.slice none 0 0] 47)) = W0 := ⟨_, rfl⟩
  rw [hW0] at bS bT hB0 hsz ⊢
  clear hW0
  refine wpIn_rangeFunc_ownH rfl (by decide) (gf := 58) (lb := #[.pointer (some ⟨Bn, 0, none⟩)]) rfl trivial (enters_of Try.func58 (by kernel_rfl) rfl)
    (words_stops 4 (by decide) Bn s (by unfold maxLen; omega) W0 bT) (fun h k => k.trans h) (fun W l o o' hl h _ _ => (grownBy_putObj' W l o').block _ (by have := (Array.getElem?_eq_some_iff.1 h).1; omega) (by intro e; cases e; omega)) (Below.refl _ _) (fun _ => rfl)
    (fun pre W => (∃ v, Boxed W w.heap.size 47 v ∧ W.ownsRow w.heap.size 50 8 v pre.length (Lib.byteCells (wl pre).flatten) ∧ True) ∧ Below w.heap.size w W)
    (fun _ _ _ => False)
    (OwnFrom.and (Own.from (holdsRow_own w.heap.size w.heap.size 47 50 8 (fun pre : List W8 => pre.length) (fun pre => Lib.byteCells (wl pre).flatten) (fun _ _ => True)) _) (ownFrom_below (Nat.le_refl _) (by omega)))
    (fun _ _ _ _ _ hs _ _ => hs)
    ⟨⟨_, bS, ⟨rfl, .inl ⟨rfl, rfl⟩⟩, trivial⟩, hB0⟩
    (fun x a' W => ∃ Bx, w.heap.size < Bx ∧ W.heap[Bx]? = some (.cells (wd x.1) 50 (0, 0)) ∧ a' = { tmps := #[.slice none 0 0, .func (.func 58) #[] #[.pointer (some ⟨Bn, 0, none⟩)], .pointer (some ⟨w.heap.size, 0, none⟩), undef, .slice none 0 0, .pointer (some ⟨Bx, 0, none⟩), .func (.func 58) #[] #[.pointer (some ⟨Bn, 0, none⟩)], .agg (wd x.1), undef, undef, undef, undef, undef], defers := [] })
    (fun x a' _ X Y row hs hg hr => by
      obtain ⟨Bx, h1, h2, h3⟩ := hs
      refine ⟨Bx, h1, (hg.block Bx (Array.getElem?_eq_some_iff.1 h2).1 (fun e => ?_)).trans h2, h3⟩
      obtain ⟨_, o, ho, hcl⟩ := hr Bx e.symm
      rw [h2] at ho; cases ho; cases hcl)
    ?assign ?body ?done ?stop
  case assign =>
    rintro l pre x W K ⟨⟨v, bV, hrow, _⟩, hB1⟩ hK
    obtain ⟨b0, b1, b2, b3, b4, b5, b6, b7, hx⟩ := len8 x.2
    simp only [hx, wd8] at hK ⊢
    gi_wp2
    exact hK _ _ ((KeepsOthers.alloc _ _).from _) (Below.heap_alloc W _ _ (Nat.lt_of_lt_of_le hbn hB1.size)) ⟨⟨v, bV.alloc _, hrow.alloc _, trivial⟩, hB1.alloc hB1.size _⟩ ⟨W.heap.size, bV.lt, heap_alloc_new W _, rfl⟩
  case body =>
    rintro l pre x a' W hl ⟨r, hr⟩ ⟨⟨v, bV, hrow, _⟩, hB1⟩ ⟨Bx, hBx, bX, rfl⟩ hlt
    obtain ⟨b0, b1, b2, b3, b4, b5, b6, b7, hx, c0, c1, c2, c3, c4, c5, c6, c7⟩ := box_bytes2 bX
    have cV := bV.cell
    have fV := bV.frozen
    have hp : pre.length ≤ 200 := by omega
    have hn0 := hB1.size
    have HX := Lib.hid hx
    have hsn := wl_snoc pre x
    have hap : ∀ (w1 : World) (v' : Value), w1.ownsRow w.heap.size 50 8 v' (pre.length + 1) (Lib.byteCells (wl pre).flatten ++ [.int .u8 b0.toNat, .int .u8 b1.toNat, .int .u8 b2.toNat, .int .u8 b3.toNat, .int .u8 b4.toNat, .int .u8 b5.toNat, .int .u8 b6.toNat, .int .u8 b7.toNat]) → w1.ownsRow w.heap.size 50 8 v' (pre ++ [x]).length (Lib.byteCells (wl (pre ++ [x])).flatten) := fun _ _ h => by
      rw [hsn, hx, List.length_append, List.length_singleton]
      simpa [Lib.byteCells] using h
    have HAP := Lib.hid hap
    clear hsn hap hx
    gi_wp2_with (gi_at_builtin; go_must (refine wpListIn_append_own _ rfl (.tmp 8) (.tmp 10) 47 rfl w.heap.size 50 i0 _ 8 8 Try.underlying47 hi hz0 hz1 hz2 rfl (by decide) v _ _ rfl (hrow.alloc _) ⟨W.heap.size, 0, none⟩ 1 1 [.int .u8 b0.toNat, .int .u8 b1.toNat, .int .u8 b2.toNat, .int .u8 b3.toNat, .int .u8 b4.toNat, .int .u8 b5.toNat, .int .u8 b6.toNat, .int .u8 b7.toNat] rfl rfl (cells_new W #[_, _, _, _, _, _, _, _] _) (by simp [Value.oneCell']) (by unfold maxLen; omega) (by omega) (by simp; omega) ?_); intro v' w1 hown' hgrow _; obtain ⟨h1, h2, h3, h4, h5⟩ := bV.appended tne hrow hn0 (Nat.le_refl _) hown' hgrow; have e1 := h1.cell; have e2 := h1.frozen; obtain ⟨g', cap', rfl⟩ := ownsRow_succ hown')
    have H2 := Lib.hid h2
    have H3 := Lib.hid (HAP.out _ _ h3)
    clear h2 h3 hown' hgrow
    gi_wp2
    exact ⟨h4.from _, h5.block _ hbn, ⟨_, H2.out, H3.out, trivial⟩, hB1.trans h5⟩
  case done =>
    rintro D zs W hD rfl ⟨⟨v, bV, hrow, _⟩, hB1⟩ hK
    have cE := bV.cell
    gi_wp2
    refine ⟨by simp, .inl ⟨_, _, rfl, run_takeDeferred hK, ?_⟩⟩
    exact ⟨_, results_tmp rfl _ _ _, v, rfl, ownsRow_putObj hrow _ hK rfl, hB1.trans (belowK_b (w := w) (Nat.le_refl _) W D _ _ (by omega) hK rfl rfl)⟩
  case stop =>
    rintro D c pre W _ _ h _
    exact h.elim
set_option maxHeartbeats 2000000 in
theorem collect_in (s : ByteArray) (w : World) (hs : s.size ≤ 1600) (Bn : Nat) (hBn : Boxed w Bn 9 (.string s)) :
    CallsIn Fence.wide 6 Try.prog 36 #[.func (.func 58) #[] #[.pointer (some ⟨Bn, 0, none⟩)]] w fun e w' => ∃ v, e = .returned v ∧ Coll w.heap.size v (wordsQ s.data.toList) w' ∧ Below w.heap.size w w' := by
  have HA := Lib.hid (appendSeq_in s w hs Bn hBn)
  refine callsIn_of_wp Try.func36 rfl trivial ?_ rfl
  simp only [Try.ntmps36, List.size_toArray, List.length_cons, List.length_nil, Nat.reduceAdd, Nat.reduceSub, Array.replicate_succ, Array.replicate_zero, List.push_toArray, List.append_toArray, List.nil_append, List.cons_append]
  gi_wp2_with fail
  refine ⟨trivial, HA.out.mono ?_⟩
  rintro e w1 ⟨v, rfl, h1, h2⟩
  gi_wp2
  go_ret
  exact ⟨v, rfl, h1, h2⟩
end Go.Proofs.Ytgeldgikjcihgaa
