/- Texts of the proof of the law FnExactBuild, side by side: part 32. -/
import Derived.Stop.BytesEq
import Derived.Deep.RegionWith
import Derived.Test.YtbhmklbdfmgmlaaMExactBuild00
import Derived.Test.YtbhmklbdfmgmlaaMExactBuild01
import Derived.Test.YtbhmklbdfmgmlaaMExactBuild02
import Derived.Test.YtbhmklbdfmgmlaaMExactBuild03
import Derived.Test.YtbhmklbdfmgmlaaMExactBuild04
import Derived.Test.YtbhmklbdfmgmlaaMExactBuild05
import Derived.Test.YtbhmklbdfmgmlaaMExactBuild06
import Derived.Test.YtbhmklbdfmgmlaaMExactBuild07
import Derived.Test.YtbhmklbdfmgmlaaMExactBuild08
import Derived.Test.YtbhmklbdfmgmlaaMExactBuild09
import Derived.Test.YtbhmklbdfmgmlaaMExactBuild10
import Derived.Test.YtbhmklbdfmgmlaaMExactBuild11
import Derived.Test.YtbhmklbdfmgmlaaMExactBuild12
import Derived.Test.YtbhmklbdfmgmlaaMExactBuild13
import Derived.Test.YtbhmklbdfmgmlaaMExactBuild14
import Derived.Test.YtbhmklbdfmgmlaaMExactBuild15
import Derived.Test.YtbhmklbdfmgmlaaMExactBuild16
import Derived.Test.YtbhmklbdfmgmlaaMExactBuild17
import Derived.Test.YtbhmklbdfmgmlaaMExactBuild18
import Derived.Test.YtbhmklbdfmgmlaaMExactBuild19
import Derived.Test.YtbhmklbdfmgmlaaMExactBuild20
import Derived.Test.YtbhmklbdfmgmlaaMExactBuild21
import Derived.Test.YtbhmklbdfmgmlaaMExactBuild22
import Derived.Test.YtbhmklbdfmgmlaaMExactBuild23
import Derived.Test.YtbhmklbdfmgmlaaMExactBuild24
import Derived.Test.YtbhmklbdfmgmlaaMExactBuild25
import Derived.Test.YtbhmklbdfmgmlaaMExactBuild26
import Derived.Test.YtbhmklbdfmgmlaaMExactBuild27
import Derived.Test.YtbhmklbdfmgmlaaMExactBuild28
import Derived.Test.YtbhmklbdfmgmlaaMExactBuild29
import Derived.Test.YtbhmklbdfmgmlaaMExactBuild30
import Derived.Test.YtbhmklbdfmgmlaaMExactBuild31
/- impl.Trim: what it answers at every argument. -/
namespace Go.Proofs.Ytbhmklbdfmgmlaa
open Go.RowKit Go.Shelf
attribute [local go_sem] Oper.semAt_some
/-- how many words are left, noughts at the end taken away (the last word first). -/
def nzR : List W8 → Nat
  | [] => 0
  | x :: r => if zerB x.1 then nzR r else r.length + 1
def nzN (l : List W8) : Nat := nzR l.reverse
theorem nzN_nil : nzN [] = 0 := rfl
theorem nzN_snoc (l : List W8) (x : W8) : nzN (l ++ [x]) = if zerB x.1 then nzN l else l.length + 1 := by
  rw [nzN, List.reverse_append]; simp [nzR, nzN]
theorem nzR_le : ∀ l : List W8, nzR l ≤ l.length
  | [] => Nat.le_refl _
  | x :: r => by
    have := nzR_le r
    rw [nzR]
    split <;> simp <;> omega
theorem nzN_le (l : List W8) : nzN l ≤ l.length := by have := nzR_le l.reverse; rw [nzN]; simpa using this
theorem nzN_trim (l : List UInt8) : ∀ k, k ≤ l.length / 8 → nzN ((List.range k).map (wordQ l)) = trimN l k
  | 0, _ => rfl
  | k + 1, h => by
    rw [upto_snoc, nzN_snoc, nzN_trim l k (by omega), wordQ_in l k (by omega), trimN]
    simp
theorem nzN_words (l : List UInt8) : nzN (wordsQ l) = trimN l (l.length / 8) := nzN_trim l _ (Nat.le_refl _)
theorem zer8_of (a b c d e f g i : UInt8) : zerB [a, b, c, d, e, f, g, i] = ([a, b, c, d, e, f, g, i] == [0, 0, 0, 0, 0, 0, 0, 0]) := by
  rw [Bool.eq_iff_iff]; simp [zerB]
theorem neq_word (a b c d e f g i : UInt8) (w : World) :
    (binOp .neq 94 (.agg #[.int .u8 a.toNat, .int .u8 b.toNat, .int .u8 c.toNat, .int .u8 d.toNat, .int .u8 e.toNat, .int .u8 f.toNat, .int .u8 g.toNat, .int .u8 i.toNat]) (.agg #[.int .u8 0, .int .u8 0, .int .u8 0, .int .u8 0, .int .u8 0, .int .u8 0, .int .u8 0, .int .u8 0])).run Try.prog w = .ok (.bool (!(zerB [a, b, c, d, e, f, g, i]))) w := by
  rw [zer8_of]
  have h2 : ((Op.equalIn 10000 94 (.agg #[.int .u8 a.toNat, .int .u8 b.toNat, .int .u8 c.toNat, .int .u8 d.toNat, .int .u8 e.toNat, .int .u8 f.toNat, .int .u8 g.toNat, .int .u8 i.toNat]) (.agg #[.int .u8 0, .int .u8 0, .int .u8 0, .int .u8 0, .int .u8 0, .int .u8 0, .int .u8 0, .int .u8 0])).run Try.prog w) = .ok ([a, b, c, d, e, f, g, i] == [0, 0, 0, 0, 0, 0, 0, 0]) w := run_equalIn_bytes w 9998 94 5 8 Try.underlying94 Try.underlying5 (fun w => by kernel_rfl) [a, b, c, d, e, f, g, i] [0, 0, 0, 0, 0, 0, 0, 0] rfl rfl
  rw [run_neq_struct, h2]
  rfl
theorem guard_word' (op : BinOp) (x y : Operand) (xs ys : Array Value) (w : World) : (eqGuard op 94 x y (.agg xs) (.agg ys)).run Try.prog w = .ok () w := run_eqGuard_agg w _ _ _ _ _ _ (by kernel_rfl)
theorem box_bytes {w : World} {B : Nat} {x : W8} {T : TypeId} (h : w.heap[B]? = some (.cells (wd x.1) T (0, 0))) :
    ∃ b0 b1 b2 b3 b4 b5 b6 b7 : UInt8, x.1 = [b0, b1, b2, b3, b4, b5, b6, b7] ∧
      w.cell? ⟨B, 0, none⟩ = some (.int .u8 b0.toNat) ∧ w.cell? ⟨B, 1, none⟩ = some (.int .u8 b1.toNat) ∧ w.cell? ⟨B, 2, none⟩ = some (.int .u8 b2.toNat) ∧ w.cell? ⟨B, 3, none⟩ = some (.int .u8 b3.toNat) ∧
      w.cell? ⟨B, 4, none⟩ = some (.int .u8 b4.toNat) ∧ w.cell? ⟨B, 5, none⟩ = some (.int .u8 b5.toNat) ∧ w.cell? ⟨B, 6, none⟩ = some (.int .u8 b6.toNat) ∧ w.cell? ⟨B, 7, none⟩ = some (.int .u8 b7.toNat) := by
  obtain ⟨b0, b1, b2, b3, b4, b5, b6, b7, hx⟩ := len8 x.2
  rw [hx, wd8] at h
  refine ⟨b0, b1, b2, b3, b4, b5, b6, b7, hx, ?_, ?_, ?_, ?_, ?_, ?_, ?_, ?_⟩
  all_goals (rw [cell_of_row _ _ _ _ _ _ h]; rfl)
end Go.Proofs.Ytbhmklbdfmgmlaa

/- impl.Trim of words. -/
namespace Go.Proofs.Ytbhmklbdfmgmlaa
open Go.RowKit
theorem trim_stringM (s : ByteArray) (_hw : wordsB s.size = true) : s.extract 0 (8 * nzN (wordsQ s.data.toList)) = trimD s := by
  have hsl : s.data.toList.length = s.size := by simp
  apply ext_d
  rw [Lib.extract_data, nzN_words, trimD_list]
  unfold trimL tw
  simp
end Go.Proofs.Ytbhmklbdfmgmlaa

/- The program's one form: a struct without ends. -/
namespace Go.Proofs.Ytbhmklbdfmgmlaa
open Go.RowKit Go.Deep
theorem fin6w {w w1 : World} {b : Nat} {T : TypeId} {a0 a1 a2 a3 a4 a5 : Value} (h : w1.heap[b]? = some (.cells #[a0, a1, a2, a3, a4, a5] T (0, 0))) (hp : Below w.heap.size w w1) (hb : w.heap.size ≤ b) (v0 v1 v2 v3 v4 v5 : Value) :
    ∃ wf, ((((((w1.setCell ⟨b, 0, none⟩ v0).setCell ⟨b, 1, none⟩ v1).setCell ⟨b, 2, none⟩ v2).setCell ⟨b, 3, none⟩ v3).setCell ⟨b, 4, none⟩ v4).setCell ⟨b, 5, none⟩ v5) = wf ∧ wf.heap[b]? = some (.cells #[v0, v1, v2, v3, v4, v5] T (0, 0)) ∧ Below w.heap.size w wf ∧ (∀ k, k ≠ b → wf.heap[k]? = w1.heap[k]?) := by
  have hk : ∀ (W : World) (i : Nat) (v : Value), Below w.heap.size w W → Below w.heap.size w (W.setCell ⟨b, i, none⟩ v) := fun W i v hW => hW.setCell (p := ⟨b, i, none⟩) hb v
  have ho : ∀ (W : World) (i : Nat) (v : Value) (k : Nat), k ≠ b → (W.setCell ⟨b, i, none⟩ v).heap[k]? = W.heap[k]? := fun W i v k hk => Below.heap_setCell W ⟨b, i, none⟩ v k hk
  exact ⟨_, rfl, row_setN (row_setN (row_setN (row_setN (row_setN (row_setN h 0 v0) 1 v1) 2 v2) 3 v3) 4 v4) 5 v5, hk _ _ _ (hk _ _ _ (hk _ _ _ (hk _ _ _ (hk _ _ _ (hk _ _ _ hp))))),
    fun k hne => by rw [ho _ _ _ k hne, ho _ _ _ k hne, ho _ _ _ k hne, ho _ _ _ k hne, ho _ _ _ k hne, ho _ _ _ k hne]⟩
theorem own_cap {w : World} {m c : Nat} {A : Option Addr} {l : List Nd} {bs : List Nat} (h : OwS w m A c l bs) : (A = none ∧ l = [] ∧ c = 0) ∨ (∃ g, A = some ⟨g, 0, none⟩) ∧ l.length ≤ c := by
  cases m with
  | zero =>
    obtain ⟨hl, ho, _⟩ := h
    rcases own_blk ho with ⟨h1, _, h3, _⟩ | ⟨g, _, h1, _⟩
    · exact .inl ⟨h1, hl, h3⟩
    · exact .inr ⟨⟨g, h1⟩, by rw [hl]; exact Nat.zero_le _⟩
  | succ m =>
    obtain ⟨q, hq, ho, _⟩ := h
    rcases own_blk ho with ⟨h1, h2, h3, _⟩ | ⟨g, cur, h1, _, _, _, h5, _⟩
    · exact .inl ⟨h1, by rw [← hq, List.eq_nil_of_length_eq_zero h2]; rfl, h3⟩
    · exact .inr ⟨⟨g, h1⟩, by rw [← hq, List.length_map]; exact h5⟩
end Go.Proofs.Ytbhmklbdfmgmlaa

/- A row of one's own nodes: a node's pointers grow. -/
namespace Go.Proofs.Ytbhmklbdfmgmlaa
open Go.RowKit Go.Deep
theorem NdCell.flat {w : World} {g o : Nat} {n : Nd} {h : Hd} (hc : NdCell w ((⟨g, 0, none⟩ : Addr).add o) n h) : w.cell? ⟨g, o, none⟩ = some (.int .i64 n.kind) ∧ w.cell? ⟨g, o + 1, none⟩ = some (.string n.data) ∧ w.cell? ⟨g, o + 2, none⟩ = some (.slice h.A n.ptrs.length h.a) ∧ w.cell? ⟨g, o + 3, none⟩ = some (.int .i64 n.size) ∧ w.cell? ⟨g, o + 4, none⟩ = some (.int .i64 n.count) ∧ w.cell? ⟨g, o + 5, none⟩ = some (.slice h.B n.items.length h.b) := by
  rw [add_zero0] at hc
  exact ⟨hc.c0, hc.c1, hc.c2, hc.c3, hc.c4, hc.c5⟩
/-- the cells of a node in a row. -/
theorem RowG.cells {w : World} {M g c : Nat} {pre post : List NB} {r : NB} (h : RowG w g c (pre ++ r :: post) M) : w.cell? ⟨g, pre.length * 6, none⟩ = some (.int .i64 r.1.kind) ∧ w.cell? ⟨g, pre.length * 6 + 1, none⟩ = some (.string r.1.data) ∧ w.cell? ⟨g, pre.length * 6 + 2, none⟩ = some (.slice r.2.1.A r.1.ptrs.length r.2.1.a) ∧ w.cell? ⟨g, pre.length * 6 + 3, none⟩ = some (.int .i64 r.1.size) ∧ w.cell? ⟨g, pre.length * 6 + 4, none⟩ = some (.int .i64 r.1.count) ∧ w.cell? ⟨g, pre.length * 6 + 5, none⟩ = some (.slice r.2.1.B r.1.items.length r.2.1.b) ∧ ∀ i, w.frozen? ⟨g, i, none⟩ = false := by
  obtain ⟨cur, h1, h2, h3, h4, h5, h6, h7, h8⟩ := h
  have hl : pre.length < (pre ++ r :: post).length := by simp
  have key : ∀ e, e < 6 → w.cell? ⟨g, pre.length * 6 + e, none⟩ = some (cellE (r.1, r.2.1) e) := by
    intro e he
    rw [cell_of_row _ _ _ _ _ _ h1]
    have h9 : (cur.toList.take ((pre ++ r :: post).length * 6))[pre.length * 6 + e]? = some (cellE (r.1, r.2.1) e) := by
      rw [h5]
      unfold rowB
      rw [rowOf_get, List.getElem?_map, show (pre.length * 6 + e) / 6 = pre.length by omega, show (pre.length * 6 + e) % 6 = e by omega, List.getElem?_append_right (Nat.le_refl _), Nat.sub_self]
      rfl
    rw [List.getElem?_take_of_lt (by omega)] at h9
    simpa using h9
  exact ⟨key 0 (by decide), key 1 (by decide), key 2 (by decide), key 3 (by decide), key 4 (by decide), key 5 (by decide), row_free h1⟩
theorem blk_own (A : Option Addr) (n c : Nat) : blk A = (Value.slice A n c).ownBlock.toList := by cases A <;> rfl
/-- what a node in a row points to. -/
theorem RowG.ptrs {w : World} {M g c : Nat} {pre post : List NB} {r : NB} (h : RowG w g c (pre ++ r :: post) (M + 1)) : ∃ (q0 : List NB) (b2 : List Nat), q0.map (·.1) = r.1.ptrs ∧ w.ownsRow 0 nodeT 6 (.slice r.2.1.A r.1.ptrs.length r.2.1.a) r.1.ptrs.length (rowB q0) ∧ r.2.2 = (blk r.2.1.A ++ blkB q0) ++ b2 ∧ (∀ x ∈ q0, OwN w M x.1 x.2.1 x.2.2) ∧ OwS w (M + 1) r.2.1.B r.2.1.b r.1.items b2 ∧ r.1.data.size ≤ maxLen := by
  obtain ⟨cur, h1, h2, h3, h4, h5, h6, h7, h8⟩ := h
  obtain ⟨hd, b1, b2, he, ⟨q0, hq, ho, hb, hr⟩, h10⟩ := h6 r (List.mem_append_right _ List.mem_cons_self)
  have hl : q0.length = r.1.ptrs.length := by rw [← hq, List.length_map]
  rw [hl] at ho
  exact ⟨q0, b2, hq, ho, by rw [he, hb], hr, h10, hd⟩
theorem blkB_rep (k : Nat) : blkB (List.replicate k ((noneNd, nHd, []) : NB)) = [] := by
  induction k with
  | zero => rfl
  | succ k ih => rw [List.replicate_succ, blkB_cons, ih]; rfl
theorem rowB_rep (k : Nat) : rowB (List.replicate k ((noneNd, nHd, []) : NB)) = rowOf (List.replicate k (noneNd, nHd)) := by unfold rowB; rw [List.map_replicate]
theorem nodup_swap {X Y Z Z' : List Nat} {f : Nat} (h : (X ++ (Z ++ Y)).Nodup) (hz : Z' = Z ∨ Z' = [f]) (hf : ∀ b ∈ X ++ (Z ++ Y), b < f) : (X ++ (Z' ++ Y)).Nodup := by
  rcases hz with rfl | rfl
  · exact h
  · have h1 := List.nodup_append.1 h
    have h2 := List.nodup_append.1 h1.2.1
    refine List.nodup_append.2 ⟨h1.1, List.nodup_cons.2 ⟨fun hm => ?_, h2.2.1⟩, fun a ha b hb e => ?_⟩
    · have := hf f (List.mem_append_right _ (List.mem_append_right _ hm)); omega
    · rcases List.mem_cons.1 hb with rfl | hb
      · have := hf a (List.mem_append_left _ ha); omega
      · exact h1.2.2 a ha b (List.mem_append_right _ hb) e
theorem RowG.grow {w w4 : World} {M g c kz : Nat} {pre post : List NB} {r : NB} {A' : Option Addr} {c' : Nat} {q0 : List NB} {b2 : List Nat} (h : RowG w g c (pre ++ r :: post) (M + 1))
    (hq : q0.map (·.1) = r.1.ptrs) (hb : r.2.2 = (blk r.2.1.A ++ blkB q0) ++ b2) (hkids : ∀ x ∈ q0, OwN w M x.1 x.2.1 x.2.2) (hitems : OwS w (M + 1) r.2.1.B r.2.1.b r.1.items b2) (hd : r.1.data.size ≤ maxLen)
    (hown : w4.ownsRow 0 nodeT 6 (.slice A' (r.1.ptrs.length + kz) c') (r.1.ptrs.length + kz) (rowB q0 ++ rowOf (List.replicate kz (noneNd, nHd)))) (hgrow : w.grownBy w4 (Value.slice r.2.1.A r.1.ptrs.length r.2.1.a).ownBlock)
    (hat : (Value.slice A' (r.1.ptrs.length + kz) c').ownBlock = (Value.slice r.2.1.A r.1.ptrs.length r.2.1.a).ownBlock ∨ (Value.slice A' (r.1.ptrs.length + kz) c').ownBlock = some w.heap.size) :
    ∃ r' : NB, r'.1 = .mk r.1.kind r.1.data (r.1.ptrs ++ List.replicate kz noneNd) r.1.size r.1.count r.1.items ∧ RowG (w4.setCell ⟨g, pre.length * 6 + 2, none⟩ (.slice A' (r.1.ptrs.length + kz) c')) g c (pre ++ r' :: post) (M + 1) ∧ ∀ b ∈ r'.2.2, b ∈ r.2.2 ∨ w.heap.size ≤ b := by
  have hlt := h.lt
  obtain ⟨cur, h1, h2, h3, h4, h5, h6, h7, h8⟩ := h
  have hblk : blkB (pre ++ r :: post) = blkB pre ++ (blk r.2.1.A ++ (blkB q0 ++ (b2 ++ blkB post))) := by rw [blkB_app, blkB_cons, hb]; simp [List.append_assoc]
  rw [hblk] at h7 h8 hlt
  have hbA := blk_own r.2.1.A r.1.ptrs.length r.2.1.a
  have hbA' := blk_own A' (r.1.ptrs.length + kz) c'
  -- blocks that are not the pointers' own row stay
  have hz : blk A' = blk r.2.1.A ∨ blk A' = [w.heap.size] := by
    rw [hbA, hbA']
    rcases hat with e | e <;> rw [e]
    · exact .inl rfl
    · exact .inr rfl
  have hne : ∀ b, b ∉ blk r.2.1.A → some b ≠ (Value.slice r.2.1.A r.1.ptrs.length r.2.1.a).ownBlock := by
    intro b hb e
    apply hb
    rw [hbA, ← e]; exact List.mem_singleton.2 rfl
  have hstay : ∀ b, b < w.heap.size → b ∉ blk r.2.1.A → b ≠ g → (w4.setCell ⟨g, pre.length * 6 + 2, none⟩ (.slice A' (r.1.ptrs.length + kz) c')).heap[b]? = w.heap[b]? := fun b hb1 hb2 hb3 =>
    (Below.heap_setCell w4 ⟨g, pre.length * 6 + 2, none⟩ _ b hb3).trans (hgrow.block b hb1 (hne b hb2))
  have hnd1 := List.nodup_append.1 h7
  have hnd2 := List.nodup_append.1 hnd1.2.1
  have hin : ∀ b, b ∈ blkB q0 ++ (b2 ++ blkB post) → b < w.heap.size ∧ b ∉ blk r.2.1.A ∧ b ≠ g := fun b hb => ⟨hlt.2 b (List.mem_append_right _ (List.mem_append_right _ hb)), fun h => hnd2.2.2 b h b hb rfl, fun e => h8 (e ▸ List.mem_append_right _ (List.mem_append_right _ hb))⟩
  have hpre : ∀ b, b ∈ blkB pre → b < w.heap.size ∧ b ∉ blk r.2.1.A ∧ b ≠ g := fun b hb => ⟨hlt.2 b (List.mem_append_left _ hb), fun h => hnd1.2.2 b hb b (List.mem_append_left _ h) rfl, fun e => h8 (e ▸ List.mem_append_left _ hb)⟩
  have hgA : g ∉ blk r.2.1.A := fun h => h8 (List.mem_append_right _ (List.mem_append_left _ h))
  have hgA' : g ∉ blk A' := by
    rcases hz with e | e <;> rw [e]
    · exact hgA
    · intro h; have := List.mem_singleton.1 h; omega
  refine ⟨(.mk r.1.kind r.1.data (r.1.ptrs ++ List.replicate kz noneNd) r.1.size r.1.count r.1.items, ⟨A', c', r.2.1.B, r.2.1.b⟩, (blk A' ++ blkB q0) ++ b2), rfl, ?_, ?_⟩
  · have hg4 : w4.heap[g]? = some (.cells cur nodeT (0, 0)) := (hgrow.block g hlt.1 (hne g hgA)).trans h1
    have hblk' : blkB (pre ++ ((.mk r.1.kind r.1.data (r.1.ptrs ++ List.replicate kz noneNd) r.1.size r.1.count r.1.items, ⟨A', c', r.2.1.B, r.2.1.b⟩, (blk A' ++ blkB q0) ++ b2) : NB) :: post) = blkB pre ++ (blk A' ++ (blkB q0 ++ (b2 ++ blkB post))) := by rw [blkB_app, blkB_cons]; simp [List.append_assoc]
    refine ⟨_, row_setN hg4 _ _, by simpa using h2, by simpa using h3, h4, ?_, fun x hx => ?_, ?_, ?_⟩
    · have h5' : cur.toList.take ((pre.map (fun r => (r.1, r.2.1)) ++ (r.1, r.2.1) :: post.map (fun r => (r.1, r.2.1))).length * 6) = rowOf (pre.map (fun r => (r.1, r.2.1)) ++ (r.1, r.2.1) :: post.map (fun r => (r.1, r.2.1))) := by
        have := h5
        unfold rowB at this
        rw [List.map_append, List.map_cons] at this
        simpa using this
      have := row_upd (e := 2) (r' := ((.mk r.1.kind r.1.data (r.1.ptrs ++ List.replicate kz noneNd) r.1.size r.1.count r.1.items : Nd), (⟨A', c', r.2.1.B, r.2.1.b⟩ : Hd))) h2 (by simpa using h3) h5' (by decide) (fun f hf hf2 => by
        match f, hf with
        | 0, _ => rfl
        | 1, _ => rfl
        | 2, _ => exact absurd rfl hf2
        | 3, _ => rfl
        | 4, _ => rfl
        | 5, _ => rfl)
      unfold rowB
      rw [List.map_append, List.map_cons]
      have hlen : (r.1.ptrs ++ List.replicate kz noneNd).length = r.1.ptrs.length + kz := by simp
      have hce : cellE ((.mk r.1.kind r.1.data (r.1.ptrs ++ List.replicate kz noneNd) r.1.size r.1.count r.1.items : Nd), (⟨A', c', r.2.1.B, r.2.1.b⟩ : Hd)) 2 = .slice A' (r.1.ptrs.length + kz) c' := by
        show Value.slice A' (r.1.ptrs ++ List.replicate kz noneNd).length c' = _
        rw [hlen]
      rw [hce] at this
      simpa using this
    · rcases List.mem_append.1 hx with hx | hx
      · exact (h6 x (List.mem_append_left _ hx)).frame (fun b hbm => by
          obtain ⟨p1, p2, p3⟩ := hpre b (List.mem_flatMap.2 ⟨x, hx, hbm⟩)
          exact hstay b p1 p2 p3)
      · rcases List.mem_cons.1 hx with rfl | hx
        · refine ⟨hd, blk A' ++ blkB q0, b2, rfl, ?_, ?_⟩
          · refine ⟨q0 ++ List.replicate kz (noneNd, nHd, []), ?_, ?_, ?_, fun x hx => ?_⟩
            · rw [List.map_append, hq, List.map_replicate]; rfl
            · have hl : (q0 ++ List.replicate kz ((noneNd, nHd, []) : NB)).length = r.1.ptrs.length + kz := by rw [List.length_append, List.length_replicate, ← hq, List.length_map]
              rw [hl, rowB_app, rowB_rep]
              exact own_frame hown (fun b hbm => Below.heap_setCell w4 ⟨g, pre.length * 6 + 2, none⟩ _ b (fun e => hgA' ((show b = g from e) ▸ hbm)))
            · rw [blkB_app, blkB_rep, List.append_nil]
            · rcases List.mem_append.1 hx with hx | hx
              · have := (hkids x hx).frame (w' := w4.setCell ⟨g, pre.length * 6 + 2, none⟩ (.slice A' (r.1.ptrs.length + kz) c')) (fun b hbm => by
                  obtain ⟨p1, p2, p3⟩ := hin b (List.mem_append_left _ (List.mem_flatMap.2 ⟨x, hx, hbm⟩))
                  exact hstay b p1 p2 p3)
                exact this
              · have := List.eq_of_mem_replicate hx
                subst this
                exact OwN.none _ M
          · exact hitems.frame _ _ _ _ _ (fun b hbm => by
              obtain ⟨p1, p2, p3⟩ := hin b (List.mem_append_right _ (List.mem_append_left _ hbm))
              exact hstay b p1 p2 p3)
        · exact (h6 x (List.mem_append_right _ (List.mem_cons_of_mem _ hx))).frame (fun b hbm => by
            obtain ⟨p1, p2, p3⟩ := hin b (List.mem_append_right _ (List.mem_append_right _ (List.mem_flatMap.2 ⟨x, hx, hbm⟩)))
            exact hstay b p1 p2 p3)
    · rw [hblk']
      exact nodup_swap h7 hz (fun b hb => hlt.2 b hb)
    · rw [hblk']
      intro hm
      rcases List.mem_append.1 hm with hm | hm
      · exact h8 (List.mem_append_left _ hm)
      · rcases List.mem_append.1 hm with hm | hm
        · exact hgA' hm
        · exact h8 (List.mem_append_right _ (List.mem_append_right _ hm))
  · intro b hbm
    rw [hb]
    rcases List.mem_append.1 hbm with hbm | hbm
    · rcases List.mem_append.1 hbm with hbm | hbm
      · rcases hz with e | e
        · rw [e] at hbm; exact .inl (List.mem_append_left _ (List.mem_append_left _ hbm))
        · rw [e] at hbm; obtain rfl := List.mem_singleton.1 hbm; exact .inr (Nat.le_refl _)
      · exact .inl (List.mem_append_left _ (List.mem_append_right _ hbm))
    · exact .inl (List.mem_append_right _ hbm)
end Go.Proofs.Ytbhmklbdfmgmlaa

/- Marked nodes: what the laws' marks leave, and rows of one's own whose nodes' lists are written. No Go text. -/
namespace Go.Proofs.Ytbhmklbdfmgmlaa
open Go.RowKit
/-- nodes side by side are marked from q on, up to q'. -/
def HelS : Nat → List Nd → Nat → Nat → Prop
  | 0, l, q, q' => l = [] ∧ q' = q
  | _ + 1, [], q, q' => q' = q
  | m + 1, y :: t, q, q' => ∃ q1 q2, y.kind = (q : Int) ∧ y.data = markB (q + 1) ∧ HelS m y.ptrs (q + 2) q1 ∧ y.size = (q1 : Int) ∧ y.count = ((q1 + 1 : Nat) : Int) ∧ HelS m y.items (q1 + 2) q2 ∧ HelS (m + 1) t q2 q'
termination_by m l => (m, l.length)
/-- one node is marked. -/
def HelN (m : Nat) (y : Nd) (q q2 : Nat) : Prop := ∃ q1, y.kind = (q : Int) ∧ y.data = markB (q + 1) ∧ HelS m y.ptrs (q + 2) q1 ∧ y.size = (q1 : Int) ∧ y.count = ((q1 + 1 : Nat) : Int) ∧ HelS m y.items (q1 + 2) q2
theorem helS_nil (m q q' : Nat) : HelS m [] q q' ↔ q' = q := by
  cases m with
  | zero => rw [HelS]; simp
  | succ m => rw [HelS]
theorem helS_cons (m : Nat) (y : Nd) (t : List Nd) (q q' : Nat) : HelS (m + 1) (y :: t) q q' ↔ ∃ q2, HelN m y q q2 ∧ HelS (m + 1) t q2 q' := by
  rw [HelS]
  constructor
  · rintro ⟨q1, q2, a, b, c, d, e, f, g⟩
    exact ⟨q2, ⟨q1, a, b, c, d, e, f⟩, g⟩
  · rintro ⟨q2, ⟨q1, a, b, c, d, e, f⟩, g⟩
    exact ⟨q1, q2, a, b, c, d, e, f, g⟩
theorem helS_app (m : Nat) : ∀ (l t : List Nd) (q q' : Nat), HelS (m + 1) (l ++ t) q q' ↔ ∃ q1, HelS (m + 1) l q q1 ∧ HelS (m + 1) t q1 q'
  | [], t, q, q' => by
    constructor
    · intro h
      exact ⟨q, (helS_nil _ _ _).2 rfl, h⟩
    · rintro ⟨q1, h1, h2⟩
      obtain rfl := (helS_nil _ _ _).1 h1
      exact h2
  | y :: l, t, q, q' => by
    rw [List.cons_append, helS_cons]
    constructor
    · rintro ⟨q2, h1, h2⟩
      obtain ⟨q1, h3, h4⟩ := (helS_app m l t q2 q').1 h2
      exact ⟨q1, (helS_cons _ _ _ _ _).2 ⟨q2, h1, h3⟩, h4⟩
    · rintro ⟨q1, h1, h2⟩
      obtain ⟨q2, h3, h4⟩ := (helS_cons _ _ _ _ _).1 h1
      exact ⟨q2, h3, (helS_app m l t q2 q').2 ⟨q1, h4, h2⟩⟩
theorem helS_one (m : Nat) (y : Nd) (q q' : Nat) : HelS (m + 1) [y] q q' ↔ HelN m y q q' := by
  rw [helS_cons]
  constructor
  · rintro ⟨q2, h1, h2⟩
    obtain rfl := (helS_nil _ _ _).1 h2
    exact h1
  · intro h
    exact ⟨q', h, (helS_nil _ _ _).2 rfl⟩
/-- a node's own two trees, and the others: one of them is written. -/
theorem RowG.lists {w : World} {M g c : Nat} {pre post : List NB} {r : NB} (h : RowG w g c (pre ++ r :: post) M) : ∃ b1 b2, r.2.2 = b1 ++ b2 ∧ OwS w M r.2.1.A r.2.1.a r.1.ptrs b1 ∧ OwS w M r.2.1.B r.2.1.b r.1.items b2 ∧ b1.Nodup ∧ b2.Nodup ∧ g ∉ b1 ∧ g ∉ b2 := by
  obtain ⟨cur, h1, h2, h3, h4, h5, h6, h7, h8⟩ := h
  obtain ⟨_, b1, b2, e1, e2, e3⟩ := h6 r (List.mem_append_right _ List.mem_cons_self)
  rw [blkB_app, blkB_cons, e1] at h7 h8
  have n1 := (List.nodup_append.1 (List.nodup_append.1 h7).2.1).1
  have n2 := List.nodup_append.1 n1
  exact ⟨b1, b2, e1, e2, e3, n2.1, n2.2.1, fun hm => h8 (by simp [hm]), fun hm => h8 (by simp [hm])⟩
theorem RowG.relist {w w' : World} {M g c : Nat} {pre post : List NB} {r : NB} {b1 b2 : List Nat} (h : RowG w g c (pre ++ r :: post) M) (hb : r.2.2 = b1 ++ b2) {bw : List Nat} (hw : bw = b1 ∨ bw = b2) (ho : OnlyIn bw w w') {p i : List Nd}
    (hp : OwS w' M r.2.1.A r.2.1.a p b1) (hi : OwS w' M r.2.1.B r.2.1.b i b2) (lp : p.length = r.1.ptrs.length) (li : i.length = r.1.items.length) : RowG w' g c (pre ++ (.mk r.1.kind r.1.data p r.1.size r.1.count i, r.2) :: post) M := by
  obtain ⟨cur, h1, h2, h3, h4, h5, h6, h7, h8⟩ := h
  have hblk : blkB (pre ++ ((.mk r.1.kind r.1.data p r.1.size r.1.count i : Nd), r.2) :: post) = blkB (pre ++ r :: post) := by rw [blkB_app, blkB_app, blkB_cons, blkB_cons]
  have hin : ∀ b ∈ bw, b ∈ r.2.2 := fun b hm => by
    rw [hb]
    rcases hw with e | e
    · exact List.mem_append_left _ (e ▸ hm)
    · exact List.mem_append_right _ (e ▸ hm)
  have hg : g ∉ bw := fun hm => h8 (by rw [blkB_app, blkB_cons]; exact List.mem_append_right _ (List.mem_append_left _ (hin g hm)))
  have hrow : rowB (pre ++ ((.mk r.1.kind r.1.data p r.1.size r.1.count i : Nd), r.2) :: post) = rowB (pre ++ r :: post) := by
    rw [rowB_app, rowB_app]
    congr 1
    show rowOf _ = rowOf _
    rw [List.map_cons, List.map_cons]
    show .int .i64 r.1.kind :: .string r.1.data :: .slice r.2.1.A p.length r.2.1.a :: .int .i64 r.1.size :: .int .i64 r.1.count :: .slice r.2.1.B i.length r.2.1.b :: rowOf _ = .int .i64 r.1.kind :: .string r.1.data :: .slice r.2.1.A r.1.ptrs.length r.2.1.a :: .int .i64 r.1.size :: .int .i64 r.1.count :: .slice r.2.1.B r.1.items.length r.2.1.b :: rowOf _
    rw [lp, li]
  have hkeep : ∀ x, x ∈ pre ∨ x ∈ post → OwN w' M x.1 x.2.1 x.2.2 := fun x hx => by
    have hx' : x ∈ pre ++ r :: post := by
      rcases hx with hx | hx
      · exact List.mem_append_left _ hx
      · exact List.mem_append_right _ (List.mem_cons_of_mem _ hx)
    refine (h6 x hx').frame (fun b hm => ho.block b ((h6 x hx').lt b hm).1 (fun hbw => ?_))
    have hr := hin b hbw
    rw [blkB_app, blkB_cons] at h7
    have q := List.nodup_append.1 h7
    rcases hx with hx | hx
    · exact q.2.2 b (List.mem_flatMap.2 ⟨x, hx, hm⟩) b (List.mem_append_left _ hr) rfl
    · exact (List.nodup_append.1 q.2.1).2.2 b hr b (List.mem_flatMap.2 ⟨x, hx, hm⟩) rfl
  refine ⟨cur, (ho.block g (row_lt h1) hg).trans h1, h2, by simpa using h3, h4, by rw [hrow]; simpa using h5, fun x hx => ?_, by rw [hblk]; exact h7, by rw [hblk]; exact h8⟩
  rcases List.mem_append.1 hx with hx | hx
  · exact hkeep x (.inl hx)
  · rcases List.mem_cons.1 hx with rfl | hx
    · exact ⟨(h6 r (List.mem_append_right _ List.mem_cons_self)).1, b1, b2, hb, hp, hi⟩
    · exact hkeep x (.inr hx)
end Go.Proofs.Ytbhmklbdfmgmlaa

/- The laws' markNodeS over a tree of one's own. -/
namespace Go.Proofs.Ytbhmklbdfmgmlaa
open Go.RowKit Go.Deep
def MkS (m : Nat) : Prop := ∀ (A : Option Addr) (c : Nat) (l : List Nd) (bs : List Nat) (w : World) (q : Nat), OwS w m A c l bs → bs.Nodup → 1 ≤ q → q + 4 * sizL l ≤ 100000000 →
  Calls Try.prog 35 #[.slice A l.length c, .int .i64 (q : Int)] w fun e w' => ∃ (l' : List Nd) (q' : Nat), e = .returned (.int .i64 (q' : Int)) ∧ q ≤ q' ∧ q' ≤ q + 4 * sizL l ∧ l'.length = l.length ∧ OwS w' m A c l' bs ∧ HelS m l' q q' ∧ OnlyIn bs w w'
/-- so many are marked already. -/
def MkR (l : List Nd) (g c j : Nat) (bs : List Nat) (q k qq : Nat) (wr : World) : Prop :=
  ∃ pre post : List NB, pre.length = k ∧ post.map (·.1) = l.drop k ∧ RowG wr g c (pre ++ post) j ∧ bs = g :: blkB (pre ++ post) ∧ HelS (j + 1) (pre.map (·.1)) q qq ∧ q ≤ qq ∧ qq ≤ q + 4 * sizL (l.take k)
theorem cellE_ne {a b : Nd × Hd} (e : Nat) (h0 : e ≠ 0 → a.1.kind = b.1.kind) (h1 : e ≠ 1 → a.1.data = b.1.data) (h2 : a.1.ptrs = b.1.ptrs) (h3 : e ≠ 3 → a.1.size = b.1.size) (h4 : e ≠ 4 → a.1.count = b.1.count) (h5 : a.1.items = b.1.items) (hh : a.2 = b.2) : ∀ f, f < 6 → f ≠ e → cellE a f = cellE b f := by
  obtain ⟨a, x⟩ := a
  obtain ⟨b, y⟩ := b
  dsimp only at h0 h1 h2 h3 h4 h5 hh
  subst hh
  intro f hf hne
  match f, hf with
  | 0, _ => show Value.int .i64 a.kind = .int .i64 b.kind; rw [h0 (fun h => hne h.symm)]
  | 1, _ => show Value.string a.data = .string b.data; rw [h1 (fun h => hne h.symm)]
  | 2, _ => show Value.slice x.A a.ptrs.length x.a = .slice x.A b.ptrs.length x.a; rw [h2]
  | 3, _ => show Value.int .i64 a.size = .int .i64 b.size; rw [h3 (fun h => hne h.symm)]
  | 4, _ => show Value.int .i64 a.count = .int .i64 b.count; rw [h4 (fun h => hne h.symm)]
  | 5, _ => show Value.slice x.B a.items.length x.b = .slice x.B b.items.length x.b; rw [h5]
theorem RowG.dsize {w : World} {M g c : Nat} {pre post : List NB} {r : NB} (h : RowG w g c (pre ++ r :: post) M) : r.1.data.size ≤ maxLen := by
  obtain ⟨_, _, _, _, _, _, h6, _⟩ := h
  exact (h6 r (List.mem_append_right _ List.mem_cons_self)).1
theorem RowG.capl {w : World} {M g c : Nat} {q : List NB} (h : RowG w g c q M) : q.length ≤ c := by
  obtain ⟨_, _, _, h3, _⟩ := h
  exact h3
set_option maxHeartbeats 8000000 in
set_option maxRecDepth 100000 in
theorem mkS_of (m : Nat) (IH : ∀ j, m = j + 1 → MkS j) : MkS m := by
  intro A c l bs w q ho hnd h1 h2
  have hlm : l.length ≤ 100000000 := by have := sizL_len l; omega
  by_cases hl : l = []
  · subst hl
    have HO := Lib.hid ho
    clear ho hnd
    go_enter Try.func35, Try.ntmps35
    go_wp2_with fail
    refine wp_loop_rounds 1 ?_
    rw [rounds_succ]
    go_wp2
    go_ret
    exact ⟨[], q, rfl, Nat.le_refl _, by omega, rfl, HO.out, (helS_nil _ _ _).2 rfl, OnlyIn.refl _ _⟩
  rcases own_cap ho with ⟨_, h, _⟩ | ⟨⟨g, rfl⟩, hlc⟩
  · exact absurd h hl
  obtain ⟨j, rfl⟩ : ∃ j, m = j + 1 := by
    cases m with
    | zero => exact absurd ho.1 hl
    | succ j => exact ⟨j, rfl⟩
  have HIH := Lib.hid (IH j rfl)
  obtain ⟨q0, hq0, hb0, hg0⟩ := ho.rowG hnd
  have HR0 : Hid (MkR l g c j bs q 0 q w) := Lib.hid ⟨[], q0, rfl, hq0, hg0, hb0, (helS_nil _ _ _).2 rfl, Nat.le_refl _, by omega⟩
  have HND := Lib.hid hnd
  clear ho hnd IH hq0 hb0 hg0 hl
  go_enter Try.func35, Try.ntmps35
  go_wp2_with fail
  go_loopw [1, 5] (fun u i wr => ∃ (k qq : Nat), u = .int .i64 (qq : Int) ∧ i = .int .i64 k ∧ k ≤ l.length ∧ Hid (MkR l g c j bs q k qq wr) ∧ Hid (OnlyIn bs w wr)) (fun _ i _ => l.length - (intOf i).toNat)
  case atStart => exact ⟨0, q, rfl, rfl, by omega, HR0, Lib.hid (OnlyIn.refl _ _)⟩
  case round =>
    clear HR0
    obtain ⟨k, qq, rfl, rfl, hk, HR, HOI⟩ := hrel
    obtain ⟨pre, post, hpk, hpost, hg, hbs, hhel, hqa, hqb⟩ := HR.out
    by_cases hlt : k < l.length
    · subst hpk
      have hdrop : l.drop pre.length = l[pre.length] :: l.drop (pre.length + 1) := List.drop_eq_getElem_cons hlt
      rw [hdrop] at hpost
      cases post with
      | nil =>
        simp at hpost
        omega
      | cons r t =>
        rw [List.map_cons] at hpost
        injection hpost with e1 e2
        obtain ⟨y, hd, bsy⟩ := r
        dsimp only at e1
        have hsz : sizL (l.take (pre.length + 1)) = sizL (l.take pre.length) + (1 + sizN y) := by rw [List.take_succ_eq_append_getElem hlt, sizL_app, sizL, sizL_nil, ← e1]; omega
        have htl := sizL_take l (pre.length + 1)
        have hyz := sizN_eq y
        clear hdrop e1
        have hcap := hg.capl
        rw [List.length_append, List.length_cons] at hcap
        obtain ⟨d0, d1, d2, d3, d4, d5, df⟩ := hg.cells
        have hd0 := df (pre.length * 6)
        have hg1 : RowG (wr.setCell ⟨g, pre.length * 6, none⟩ (.int .i64 (qq : Int))) g c (pre ++ ((.mk (qq : Int) y.data y.ptrs y.size y.count y.items : Nd), hd, bsy) :: t) j := hg.set (n' := .mk (qq : Int) y.data y.ptrs y.size y.count y.items) 0 (.int .i64 (qq : Int)) (by decide) rfl (cellE_ne 0 (fun h => absurd rfl h) (fun _ => rfl) rfl (fun _ => rfl) (fun _ => rfl) rfl rfl) rfl rfl hg.dsize
        have hgb : g ∈ bs := by rw [hbs]; exact List.mem_cons_self
        have ho1 := HOI.out.trans (OnlyIn.setCell (p := ⟨g, pre.length * 6, none⟩) hgb (.int .i64 (qq : Int)))
        have hw1 : IntKind.i64.wrap ((qq : Int) + 1) = (qq : Int) + 1 := by rw [IntKind.wrap_i64]; omega
        have hw2 : IntKind.i64.wrap ((qq : Int) + 1 + 1) = (qq : Int) + 1 + 1 := by rw [IntKind.wrap_i64]; omega
        have HG1 := Lib.hid hg1
        have HO1 := Lib.hid ho1
        have HE2 := Lib.hid (And.intro e2 (And.intro hhel hbs))
        clear hg hg1 ho1 df e2 hhel hbs HR HOI d1 d2 d3 d4 d5
        have d0' : wr.cell? ⟨g, pre.length * 6, none⟩ = some (.int .i64 y.kind) := d0
        clear d0
        go_wp2_with fail
        generalize wr.setCell ⟨g, pre.length * 6, none⟩ (.int .i64 (qq : Int)) = W1 at *
        clear d0' hd0
        refine (markText_any (qq + 1) _ (by omega) (by omega)).mono ?_
        rintro e W2 ⟨rfl, hb2⟩
        have hmb : (markB (qq + 1)).size ≤ maxLen := by have := markB_size (qq + 1); unfold maxLen; omega
        obtain ⟨mk, hmk⟩ : ∃ mk, mk = markB (qq + 1) := ⟨_, rfl⟩
        rw [← hmk] at hmb
        rw [← hmk]
        have HMK := Lib.hid hmk
        have hg2 := HG1.out.below hb2
        have ho2 := HO1.out.trans (OnlyIn.of_below hb2)
        obtain ⟨d0, d1, d2, d3, d4, d5, df⟩ := hg2.cells
        have hd1 := df (pre.length * 6 + 1)
        have hg3 : RowG (W2.setCell ⟨g, pre.length * 6 + 1, none⟩ (.string mk)) g c (pre ++ ((.mk (qq : Int) mk y.ptrs y.size y.count y.items : Nd), hd, bsy) :: t) j := hg2.set (n' := .mk (qq : Int) mk y.ptrs y.size y.count y.items) 1 (.string mk) (by decide) rfl (cellE_ne 1 (fun _ => rfl) (fun h => absurd rfl h) rfl (fun _ => rfl) (fun _ => rfl) rfl rfl) rfl rfl hmb
        have ho3 := ho2.trans (OnlyIn.setCell (p := ⟨g, pre.length * 6 + 1, none⟩) hgb (.string mk))
        obtain ⟨f0, f1, f2, f3, f4, f5, ff⟩ := hg3.cells
        have f2' : (W2.setCell ⟨g, pre.length * 6 + 1, none⟩ (.string mk)).cell? ⟨g, pre.length * 6 + 2, none⟩ = some (.slice hd.A y.ptrs.length hd.a) := f2
        have HG3 := Lib.hid hg3
        have HO3 := Lib.hid ho3
        obtain ⟨b1, b2, hbb, ls1, ls2, nd1, nd2, ng1, ng2⟩ := hg3.lists
        have HC1 := Lib.hid (HIH.out hd.A hd.a y.ptrs b1 _ (qq + 2) ls1 nd1 (by omega) (by omega))
        have HL2 := Lib.hid (And.intro ls2 (And.intro nd1 nd2))
        have HBB := Lib.hid hbb
        have d1' : W2.cell? ⟨g, pre.length * 6 + 1, none⟩ = some (.string y.data) := d1
        clear hg2 ho2 hg3 ho3 hb2 HG1 HO1 d0 d1 d2 d3 d4 d5 df f0 f1 f2 f3 f4 f5 ff ls1 ls2 nd1 nd2 ng1 ng2 hbb hmk hmb
        go_wp2_with fail
        generalize W2.setCell ⟨g, pre.length * 6 + 1, none⟩ (.string mk) = W3 at *
        clear d1' hd1 f2'
        refine HC1.out.mono ?_
        rintro e W4 ⟨p', q1, rfl, hq1a, hq1b, hlp, hop, hhp, hoi⟩
        have hdis := (List.nodup_append.1 (show (b1 ++ b2).Nodup by
          have h := HND.out
          rw [HE2.out.2.2, blkB_app, blkB_cons] at h
          have h' := (List.nodup_append.1 (List.nodup_append.1 (List.nodup_cons.1 h).2).2.1).1
          rw [← HBB.out]
          exact h')).2.2
        have hi4 := HL2.out.1.frame (w' := W4) _ _ _ _ _ (fun b hb => hoi.block b (HL2.out.1.lt _ _ _ _ _ b hb).1 (fun hm => hdis b hm b hb rfl))
        have hg4 : RowG W4 g c (pre ++ ((.mk (qq : Int) mk p' y.size y.count y.items : Nd), hd, bsy) :: t) j := HG3.out.relist HBB.out (.inl rfl) hoi hop hi4 hlp rfl
        have ho4 := HO3.out.trans (hoi.mono (fun b hb => .inl (by
          rw [HE2.out.2.2, blkB_app, blkB_cons]
          refine List.mem_cons_of_mem _ (List.mem_append_right _ (List.mem_append_left _ ?_))
          show b ∈ bsy
          rw [show bsy = b1 ++ b2 from HBB.out]
          exact List.mem_append_left _ hb)))
        obtain ⟨d0, d1, d2, d3, d4, d5, df⟩ := hg4.cells
        have hd3 := df (pre.length * 6 + 3)
        have hg5 : RowG (W4.setCell ⟨g, pre.length * 6 + 3, none⟩ (.int .i64 (q1 : Int))) g c (pre ++ ((.mk (qq : Int) mk p' (q1 : Int) y.count y.items : Nd), hd, bsy) :: t) j := hg4.set (n' := .mk (qq : Int) mk p' (q1 : Int) y.count y.items) 3 (.int .i64 (q1 : Int)) (by decide) rfl (cellE_ne 3 (fun _ => rfl) (fun _ => rfl) rfl (fun h => absurd rfl h) (fun _ => rfl) rfl rfl) rfl rfl hg4.dsize
        obtain ⟨f0, f1, f2, f3, f4, f5, ff⟩ := hg5.cells
        have hf4 := ff (pre.length * 6 + 4)
        have hg6 : RowG ((W4.setCell ⟨g, pre.length * 6 + 3, none⟩ (.int .i64 (q1 : Int))).setCell ⟨g, pre.length * 6 + 4, none⟩ (.int .i64 ((q1 : Int) + 1))) g c (pre ++ ((.mk (qq : Int) mk p' (q1 : Int) ((q1 : Int) + 1) y.items : Nd), hd, bsy) :: t) j := hg5.set (n' := .mk (qq : Int) mk p' (q1 : Int) ((q1 : Int) + 1) y.items) 4 (.int .i64 ((q1 : Int) + 1)) (by decide) rfl (cellE_ne 4 (fun _ => rfl) (fun _ => rfl) rfl (fun _ => rfl) (fun h => absurd rfl h) rfl rfl) rfl rfl hg5.dsize
        have ho6 := (ho4.trans (OnlyIn.setCell (p := ⟨g, pre.length * 6 + 3, none⟩) hgb (.int .i64 (q1 : Int)))).trans (OnlyIn.setCell (p := ⟨g, pre.length * 6 + 4, none⟩) hgb (.int .i64 ((q1 : Int) + 1)))
        obtain ⟨g0, g1, g2, g3, g4, g5, gf⟩ := hg6.cells
        have g5' : ((W4.setCell ⟨g, pre.length * 6 + 3, none⟩ (.int .i64 (q1 : Int))).setCell ⟨g, pre.length * 6 + 4, none⟩ (.int .i64 ((q1 : Int) + 1))).cell? ⟨g, pre.length * 6 + 5, none⟩ = some (.slice hd.B y.items.length hd.b) := g5
        have f4' : (W4.setCell ⟨g, pre.length * 6 + 3, none⟩ (.int .i64 (q1 : Int))).cell? ⟨g, pre.length * 6 + 4, none⟩ = some (.int .i64 y.count) := f4
        have d3' : W4.cell? ⟨g, pre.length * 6 + 3, none⟩ = some (.int .i64 y.size) := d3
        have hw3 : IntKind.i64.wrap ((q1 : Int) + 1) = (q1 : Int) + 1 := by rw [IntKind.wrap_i64]; omega
        have hw4 : IntKind.i64.wrap ((q1 : Int) + 1 + 1) = (q1 : Int) + 1 + 1 := by rw [IntKind.wrap_i64]; omega
        have HG6 := Lib.hid hg6
        have HO6 := Lib.hid ho6
        obtain ⟨c1, c2, hcc, ls1, ls2, nd1, nd2, ng1, ng2⟩ := hg6.lists
        have HC2 := Lib.hid (HIH.out hd.B hd.b y.items c2 _ (q1 + 2) ls2 nd2 (by omega) (by omega))
        have HL1 := Lib.hid ls1
        have HCC := Lib.hid hcc
        have HHP := Lib.hid (And.intro hhp hlp)
        clear hg4 ho4 hg5 hg6 ho6 hi4 hop hhp hoi hdis HG3 HO3 HC1 HL2 d0 d1 d2 d3 d4 d5 df f0 f1 f2 f3 f4 f5 ff g0 g1 g2 g3 g4 g5 gf ls1 ls2 nd1 nd2 ng1 ng2 hcc hw1 hw2 hlp
        go_wp2_with fail
        generalize (W4.setCell ⟨g, pre.length * 6 + 3, none⟩ (.int .i64 (q1 : Int))).setCell ⟨g, pre.length * 6 + 4, none⟩ (.int .i64 ((q1 : Int) + 1)) = W6 at *
        clear d3' hd3 f4' hf4 g5'
        refine HC2.out.mono ?_
        rintro e W7 ⟨i', q2, rfl, hq2a, hq2b, hli, hoi2, hhi, hoj⟩
        have hdis := (List.nodup_append.1 (show (c1 ++ c2).Nodup by
          have h := HND.out
          rw [HE2.out.2.2, blkB_app, blkB_cons] at h
          have h' := (List.nodup_append.1 (List.nodup_append.1 (List.nodup_cons.1 h).2).2.1).1
          rw [← HCC.out]
          exact h')).2.2
        have hp7 := HL1.out.frame (w' := W7) _ _ _ _ _ (fun b hb => hoj.block b (HL1.out.lt _ _ _ _ _ b hb).1 (fun hm => hdis b hb b hm rfl))
        have hg7 : RowG W7 g c (pre ++ ((.mk (qq : Int) mk p' (q1 : Int) ((q1 : Int) + 1) i' : Nd), hd, bsy) :: t) j := HG6.out.relist HCC.out (.inr rfl) hoj hp7 hoi2 rfl hli
        have HOI7 := Lib.hid (HO6.out.trans (hoj.mono (fun b hb => .inl (by
          rw [HE2.out.2.2, blkB_app, blkB_cons]
          refine List.mem_cons_of_mem _ (List.mem_append_right _ (List.mem_append_left _ ?_))
          show b ∈ bsy
          rw [show bsy = c1 ++ c2 from HCC.out]
          exact List.mem_append_right _ hb))))
        have HR7 : Hid (MkR l g c j bs q (pre.length + 1) q2 W7) := Lib.hid ⟨pre ++ [((.mk (qq : Int) mk p' (q1 : Int) ((q1 : Int) + 1) i' : Nd), hd, bsy)], t, by simp, HE2.out.1, by rw [List.append_assoc]; exact hg7, by
          rw [List.append_assoc, List.singleton_append, HE2.out.2.2, blkB_app, blkB_app, blkB_cons, blkB_cons], by
          rw [List.map_append]
          exact (helS_app _ _ _ _ _).2 ⟨qq, HE2.out.2.1, (helS_one _ _ _ _).2 ⟨q1, rfl, HMK.out, HHP.out.1, rfl, rfl, hhi⟩⟩, by omega, by omega⟩
        clear hg7 hp7 hdis hoi2 hhi hoj hw3 hw4 HC2 HL1 HG6 HO6
        go_wp2
        go_roundw
        case rel => exact ⟨pre.length + 1, q2, rfl, by go_num, by omega, HR7, HOI7⟩
        case measure => simp [intOf]; omega
    · obtain rfl : k = l.length := by omega
      rw [List.drop_length] at hpost
      obtain rfl : post = [] := List.map_eq_nil_iff.1 hpost
      rw [List.append_nil] at hg hbs
      obtain ⟨o1, o2⟩ := hg.own
      rw [List.take_of_length_le (Nat.le_refl _)] at hqb
      have HFIN : Hid (∃ (l' : List Nd) (q' : Nat), Ending.returned (.int .i64 (qq : Int)) = .returned (.int .i64 (q' : Int)) ∧ q ≤ q' ∧ q' ≤ q + 4 * sizL l ∧ l'.length = l.length ∧ OwS wr (j + 1) (some ⟨g, 0, none⟩) c l' bs ∧ HelS (j + 1) l' q q' ∧ OnlyIn bs w wr) := Lib.hid ⟨pre.map (·.1), qq, rfl, hqa, hqb, by rw [List.length_map, hpk], by rw [hbs]; exact o1, hhel, HOI.out⟩
      clear hpk hpost hg hbs hhel hqa hqb HR HOI o1 o2
      go_wp2
      go_ret
      exact HFIN.out
theorem mkS_any : ∀ m, MkS m
  | 0 => mkS_of 0 (fun j h => by cases h)
  | m + 1 => mkS_of (m + 1) (fun j h => by obtain rfl : m = j := by omega
                                           exact mkS_any m)
end Go.Proofs.Ytbhmklbdfmgmlaa

/- The laws' heldNodeS over marked nodes, markNode and heldNode. -/
namespace Go.Proofs.Ytbhmklbdfmgmlaa
open Go.RowKit Go.Deep
theorem helS_len : ∀ (m : Nat) (l : List Nd) (q q' : Nat), HelS m l q q' → q + 4 * l.length ≤ q'
  | 0, l, q, q', h => by
    rw [HelS] at h
    obtain ⟨rfl, rfl⟩ := h
    simp
  | m + 1, [], q, q', h => by
    obtain rfl := (helS_nil _ _ _).1 h
    simp
  | m + 1, y :: t, q, q', h => by
    obtain ⟨q2, ⟨q1, _, _, h1, _, _, h2⟩, h3⟩ := (helS_cons _ _ _ _ _).1 h
    have a := helS_len m _ _ _ h1
    have b := helS_len m _ _ _ h2
    have c := helS_len (m + 1) t _ _ h3
    rw [List.length_cons]
    omega
termination_by m l => (m, l.length)
end Go.Proofs.Ytbhmklbdfmgmlaa
