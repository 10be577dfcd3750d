/- Texts of the proof of the law FnCanonPut, side by side: part 8. -/
import Derived.Lib.AppendZerosOnto
import Derived.WalkKit
import Derived.WalkSpells
import Derived.WalkLawsBesides
import Derived.Deep.QuietTactic
import Derived.BigQuiet
import Derived.Lib.Hide
import Derived.Deep.RegionLaw
import Derived.RangeFuncNested
import Derived.RangeFuncBound
import Derived.RangeFuncCalls
import Derived.RangeFuncLeaves
import Derived.Shelf.Abstract
import Derived.Shelf.RegionOpen
import Derived.OwnWalkIn
import Derived.TacticsInMore
import Derived.LoopNIn
import Derived.LoopIn
import Derived.Deep.RegionWith
import Derived.Deep.DeepMust
import Derived.Test.YtbijfkpilncclaaGreatMCanonPut00
import Derived.Test.YtbijfkpilncclaaGreatMCanonPut01
import Derived.Test.YtbijfkpilncclaaGreatMCanonPut02
import Derived.Test.YtbijfkpilncclaaGreatMCanonPut03
import Derived.Test.YtbijfkpilncclaaGreatMCanonPut04
import Derived.Test.YtbijfkpilncclaaGreatMCanonPut05
import Derived.Test.YtbijfkpilncclaaGreatMCanonPut06
import Derived.Test.YtbijfkpilncclaaGreatMCanonPut07
namespace Go.Proofs.YtbijfkpilncclaaGreat
open Go.RowKit
def cellE (r : Nd × Hd) : Nat → Value
  | 0 => .int .i64 r.1.kind
  | 1 => .string r.1.data
  | 2 => .slice r.2.A r.1.ptrs.length r.2.a
  | 3 => .int .i64 r.1.size
  | 4 => .int .i64 r.1.count
  | _ => .slice r.2.B r.1.items.length r.2.b
theorem rowOf_get : ∀ (q : List (Nd × Hd)) (j : Nat), (rowOf q)[j]? = (q[j / 6]?).map fun r => cellE r (j % 6)
  | [], j => by simp [rowOf]
  | r :: t, 0 => rfl
  | r :: t, 1 => rfl
  | r :: t, 2 => rfl
  | r :: t, 3 => rfl
  | r :: t, 4 => rfl
  | r :: t, 5 => rfl
  | r :: t, j + 1 + 1 + 1 + 1 + 1 + 1 => by
    show (rowOf t)[j]? = _
    rw [rowOf_get t j, show (j + 1 + 1 + 1 + 1 + 1 + 1) / 6 = j / 6 + 1 by omega, show (j + 1 + 1 + 1 + 1 + 1 + 1) % 6 = j % 6 by omega, List.getElem?_cons_succ]
theorem row_upd {cur : Array Value} {c e : Nat} {pre post : List (Nd × Hd)} {r r' : Nd × Hd} (hs : cur.size = c * 6) (hle : (pre ++ r :: post).length ≤ c) (hc : cur.toList.take ((pre ++ r :: post).length * 6) = rowOf (pre ++ r :: post)) (he : e < 6) (hr : ∀ f, f < 6 → f ≠ e → cellE r' f = cellE r f) :
    (cur.setIfInBounds (pre.length * 6 + e) (cellE r' e)).toList.take ((pre ++ r' :: post).length * 6) = rowOf (pre ++ r' :: post) := by
  have hl : (pre ++ r' :: post).length = (pre ++ r :: post).length := by simp
  rw [hl]
  have hpl : pre.length < (pre ++ r :: post).length := by simp
  apply List.ext_getElem?
  intro j
  have h0 : (cur.toList.take ((pre ++ r :: post).length * 6))[j]? = ((pre ++ r :: post)[j / 6]?).map fun r => cellE r (j % 6) := by rw [hc, rowOf_get]
  rw [rowOf_get]
  by_cases hj : j < (pre ++ r :: post).length * 6
  · rw [List.getElem?_take_of_lt hj] at h0 ⊢
    rw [Array.getElem?_toList] at h0 ⊢
    rw [Array.getElem?_setIfInBounds]
    have hset : (pre ++ r' :: post)[j / 6]? = if j / 6 = pre.length then some r' else (pre ++ r :: post)[j / 6]? := by
      by_cases h : j / 6 = pre.length
      · rw [if_pos h, h, List.getElem?_append_right (Nat.le_refl _), Nat.sub_self]; rfl
      · rw [if_neg h]
        rcases Nat.lt_or_ge (j / 6) pre.length with h2 | h2
        · rw [List.getElem?_append_left h2, List.getElem?_append_left h2]
        · rw [List.getElem?_append_right h2, List.getElem?_append_right h2]
          obtain ⟨x, hx⟩ : ∃ x, j / 6 - pre.length = x + 1 := ⟨j / 6 - pre.length - 1, by omega⟩
          rw [hx, List.getElem?_cons_succ, List.getElem?_cons_succ]
    rw [hset]
    have hat : (pre ++ r :: post)[pre.length]? = some r := by rw [List.getElem?_append_right (Nat.le_refl _), Nat.sub_self]; rfl
    by_cases h1 : pre.length * 6 + e = j
    · rw [if_pos h1, if_pos (by omega), if_pos (by omega)]
      show some (cellE r' e) = some (cellE r' (j % 6))
      rw [show j % 6 = e by omega]
    · rw [if_neg h1]
      by_cases h2 : j / 6 = pre.length
      · rw [if_pos h2]
        rw [h2, hat] at h0
        rw [h0]
        show some (cellE r (j % 6)) = some (cellE r' (j % 6))
        rw [hr (j % 6) (by omega) (by omega)]
      · rw [if_neg h2, h0]
  · rw [List.getElem?_eq_none (by rw [List.length_take]; omega)]
    rw [List.getElem?_eq_none (by rw [hl]; omega)]; rfl
def RowG (w : World) (g c : Nat) (q : List NB) (M : Nat) : Prop :=
  ∃ cur : Array Value, w.heap[g]? = some (.cells cur nodeT (0, 0)) ∧ cur.size = c * 6 ∧ q.length ≤ c ∧ c ≤ maxLen ∧ cur.toList.take (q.length * 6) = rowB q ∧ (∀ r ∈ q, OwN w M r.1 r.2.1 r.2.2) ∧ (blkB q).Nodup ∧ g ∉ blkB q
theorem rowB_app (a b : List NB) : rowB (a ++ b) = rowB a ++ rowB b := by unfold rowB; rw [List.map_append, rowOf_app]
theorem blkB_app (a b : List NB) : blkB (a ++ b) = blkB a ++ blkB b := by unfold blkB; rw [List.flatMap_append]
theorem blkB_cons (r : NB) (b : List NB) : blkB (r :: b) = r.2.2 ++ blkB b := by unfold blkB; rw [List.flatMap_cons]
theorem OwS.rowG {w : World} {M g c : Nat} {l : List Nd} {bs : List Nat} (h : OwS w (M + 1) (some ⟨g, 0, none⟩) c l bs) (hnd : bs.Nodup) : ∃ q : List NB, q.map (·.1) = l ∧ bs = g :: blkB q ∧ RowG w g c q M := by
  obtain ⟨q, hq, ho, hb, hr⟩ := h
  rcases own_blk ho with ⟨h1, _⟩ | ⟨g', cur, hg, h1, h2, h3, h4, h5, h6, h7⟩
  · cases h1
  · injection hg with hg
    injection hg with hg
    subst hg
    have hb' : bs = g :: blkB q := hb
    rw [hb'] at hnd
    have := List.nodup_cons.1 hnd
    exact ⟨q, hq, hb', cur, h3, h6, h4, h5, h7, hr, this.2, this.1⟩
theorem RowG.own {w : World} {M g c : Nat} {q : List NB} (h : RowG w g c q M) : OwS w (M + 1) (some ⟨g, 0, none⟩) c (q.map (·.1)) (g :: blkB q) ∧ (g :: blkB q).Nodup := by
  obtain ⟨cur, h1, h2, h3, h4, h5, h6, h7, h8⟩ := h
  exact ⟨⟨q, rfl, ⟨by rw [← h5, List.length_take]; simp; omega, .inr ⟨g, c, cur, rfl, Nat.zero_le _, h1, h3, h4, h2, h5⟩⟩, rfl, h6⟩, List.nodup_cons.2 ⟨h8, h7⟩⟩
theorem RowG.set {w : World} {M g c : Nat} {pre post : List NB} {r : NB} {n' : Nd} (e : Nat) (v : Value) (h : RowG w g c (pre ++ r :: post) M) (he : e < 6) (hv : v = cellE (n', r.2.1) e) (hr : ∀ f, f < 6 → f ≠ e → cellE (n', r.2.1) f = cellE (r.1, r.2.1) f)
    (hp : n'.ptrs = r.1.ptrs) (hi : n'.items = r.1.items) (hd : n'.data.size ≤ maxLen) : RowG (w.setCell ⟨g, pre.length * 6 + e, none⟩ v) g c (pre ++ (n', r.2) :: post) M := by
  subst hv
  obtain ⟨cur, h1, h2, h3, h4, h5, h6, h7, h8⟩ := h
  have hlen : (pre ++ (n', r.2) :: post).length = (pre ++ r :: post).length := by simp
  have hblk : blkB (pre ++ (n', r.2) :: post) = blkB (pre ++ r :: post) := by rw [blkB_app, blkB_app, blkB_cons, blkB_cons]
  have hother : ∀ b, b ≠ g → (w.setCell ⟨g, pre.length * 6 + e, none⟩ (cellE (n', r.2.1) e)).heap[b]? = w.heap[b]? := fun b hb => Below.heap_setCell w ⟨g, pre.length * 6 + e, none⟩ _ b hb
  have hfr : ∀ x ∈ pre ++ r :: post, ∀ b ∈ x.2.2, b ≠ g := fun x hx b hb e => h8 (by rw [← e]; exact List.mem_flatMap.2 ⟨x, hx, hb⟩)
  refine ⟨_, row_setN h1 _ _, by simpa using h2, by rw [hlen]; exact h3, h4, ?_, fun x hx => ?_, by rw [hblk]; exact h7, by rw [hblk]; exact h8⟩
  · have h5' : cur.toList.take ((pre.map (fun r => (r.1, r.2.1)) ++ (r.1, r.2.1) :: post.map (fun r => (r.1, r.2.1))).length * 6) = rowOf (pre.map (fun r => (r.1, r.2.1)) ++ (r.1, r.2.1) :: post.map (fun r => (r.1, r.2.1))) := by
      have := h5
      unfold rowB at this
      rw [List.map_append, List.map_cons] at this
      simpa using this
    have := row_upd (r' := (n', r.2.1)) h2 (by simpa using h3) h5' he hr
    unfold rowB
    rw [List.map_append, List.map_cons]
    simpa using this
  · have hold : ∀ x ∈ pre ++ r :: post, OwN (w.setCell ⟨g, pre.length * 6 + e, none⟩ (cellE (n', r.2.1) e)) M x.1 x.2.1 x.2.2 := fun x hx => (h6 x hx).frame (fun b hb => hother b (hfr x hx b hb))
    rcases List.mem_append.1 hx with hx | hx
    · exact hold x (List.mem_append_left _ hx)
    · rcases List.mem_cons.1 hx with rfl | hx
      · obtain ⟨_, b1, b2, e1, e2, e3⟩ := hold r (List.mem_append_right _ List.mem_cons_self)
        refine ⟨hd, b1, b2, e1, ?_, ?_⟩
        · show OwS _ M r.2.1.A r.2.1.a n'.ptrs b1
          rw [hp]; exact e2
        · show OwS _ M r.2.1.B r.2.1.b n'.items b2
          rw [hi]; exact e3
      · exact hold x (List.mem_append_right _ (List.mem_cons_of_mem _ hx))
theorem RowG.frame {w w' : World} {M g c : Nat} {q : List NB} (h : RowG w g c q M) (hf : ∀ b, b = g ∨ b ∈ blkB q → w'.heap[b]? = w.heap[b]?) : RowG w' g c q M := by
  obtain ⟨cur, h1, h2, h3, h4, h5, h6, h7, h8⟩ := h
  exact ⟨cur, (hf g (.inl rfl)).trans h1, h2, h3, h4, h5, fun r hr => (h6 r hr).frame (fun b hb => hf b (.inr (List.mem_flatMap.2 ⟨r, hr, hb⟩))), h7, h8⟩
theorem RowG.lt {w : World} {M g c : Nat} {q : List NB} (h : RowG w g c q M) : g < w.heap.size ∧ ∀ b ∈ blkB q, b < w.heap.size := by
  obtain ⟨cur, h1, h2, h3, h4, h5, h6, h7, h8⟩ := h
  refine ⟨row_lt h1, fun b hb => ?_⟩
  obtain ⟨r, hr, hbr⟩ := List.mem_flatMap.1 hb
  exact ((h6 r hr).lt b hbr).1
theorem RowG.below {w w' : World} {M g c : Nat} {q : List NB} (h : RowG w g c q M) (hb : Below w.heap.size w w') : RowG w' g c q M :=
  h.frame (fun b hm => hb.block b (by rcases hm with rfl | hm; exact h.lt.1; exact h.lt.2 b hm))
structure OnlyIn (bs : List Nat) (w w' : World) : Prop where
  os : w'.os = w.os
  tape : w'.tape = w.tape
  output : w'.output = w.output
  size : w.heap.size ≤ w'.heap.size
  block : ∀ k, k < w.heap.size → k ∉ bs → w'.heap[k]? = w.heap[k]?
theorem OnlyIn.refl (bs : List Nat) (w : World) : OnlyIn bs w w := ⟨rfl, rfl, rfl, Nat.le_refl _, fun _ _ _ => rfl⟩
theorem OnlyIn.trans {bs : List Nat} {a b c : World} (h : OnlyIn bs a b) (k : OnlyIn bs b c) : OnlyIn bs a c :=
  ⟨k.os.trans h.os, k.tape.trans h.tape, k.output.trans h.output, Nat.le_trans h.size k.size, fun x hx hn => (k.block x (Nat.lt_of_lt_of_le hx h.size) hn).trans (h.block x hx hn)⟩
theorem OnlyIn.of_below {bs : List Nat} {w w' : World} (h : Below w.heap.size w w') : OnlyIn bs w w' := ⟨h.os, h.tape, h.output, h.size, fun k hk _ => h.block k hk⟩
theorem OnlyIn.setCell {bs : List Nat} {w : World} {p : Addr} (hp : p.block ∈ bs) (v : Value) : OnlyIn bs w (w.setCell p v) := ⟨rfl, rfl, rfl, by simp [World.setCell], fun k _ hn => Below.heap_setCell w p v k (fun e => hn (e ▸ hp))⟩
theorem OnlyIn.below {bs : List Nat} {B : Nat} {w w' : World} (h : OnlyIn bs w w') (hB : B ≤ w.heap.size) (hs : ∀ b ∈ bs, B ≤ b) : Below B w w' := ⟨h.os, h.tape, h.output, h.size, fun k hk => h.block k (by omega) (fun hm => by have := hs k hm; omega)⟩
theorem OnlyIn.drew {bs : List Nat} {w w' : World} (h : OnlyIn bs w w') : OnlyIn bs w w'.drew := ⟨h.os, h.tape, h.output, h.size, h.block⟩
theorem OwS.take {w : World} {m c : Nat} {A : Option Addr} {l : List Nd} {bs : List Nat} (h : OwS w m A c l bs) (k : Nat) (hk : k ≤ l.length) : ∃ bs', OwS w m A c (l.take k) bs' ∧ bs'.Sublist bs := by
  cases m with
  | zero =>
    obtain ⟨hl, ho, hb⟩ := h
    subst hl
    refine ⟨bs, ⟨by simp, ho, hb⟩, List.Sublist.refl _⟩
  | succ m =>
    obtain ⟨q, hq, ho, hb, hr⟩ := h
    have hql : q.length = l.length := by rw [← hq, List.length_map]
    have hsub : (blkB (q.take k)).Sublist (blkB q) := by
      conv => rhs; rw [← List.take_append_drop k q]
      rw [blkB_app]
      exact List.sublist_append_left _ _
    refine ⟨blk A ++ blkB (q.take k), ⟨q.take k, by rw [List.map_take, hq], ?_, rfl, fun r hm => hr r (List.mem_of_mem_take hm)⟩, by rw [hb]; exact List.Sublist.append (List.Sublist.refl _) hsub⟩
    have hlk : (q.take k).length = k := by rw [List.length_take]; omega
    rw [hlk]
    have hrl : (rowB (q.take k)).length = k * 6 := by unfold rowB; rw [rowOf_length, List.length_map, hlk]
    refine ⟨hrl, ?_⟩
    rcases own_blk ho with ⟨h1, h2, h3, h4⟩ | ⟨g, cur, h1, h2, h3, h4, h5, h6, h7, h8⟩
    · left; rw [h1, h3]; exact ⟨by rw [show k = 0 by omega], by omega⟩
    · right
      refine ⟨g, c, cur, by rw [h1], h3, h4, by omega, h6, h7, ?_⟩
      have e1 : rowB q = rowB (q.take k) ++ rowB (q.drop k) := by rw [← rowB_app, List.take_append_drop]
      have e2 : cur.toList.take (k * 6) = (cur.toList.take (q.length * 6)).take (k * 6) := by rw [List.take_take, Nat.min_eq_left (by omega)]
      rw [e2, h8, e1, List.take_append_of_le_length (by rw [hrl]; exact Nat.le_refl _), List.take_of_length_le (by rw [hrl]; exact Nat.le_refl _)]
end Go.Proofs.YtbijfkpilncclaaGreat

namespace Go.Proofs.YtbijfkpilncclaaGreat
open Go.RowKit
abbrev nHd : Hd := ⟨none, 0, none, 0⟩
abbrev zNd : Value := .agg #[.int .i64 0, .string ByteArray.empty, .slice none 0 0, .int .i64 0, .int .i64 0, .slice none 0 0]
theorem zero_cells (k : Nat) : (Builtin.zeroCells zNd.cells k).toList = rowOf (List.replicate k (noneNd, nHd)) := by
  have hz : zNd.cells = #[.int .i64 0, .string ByteArray.empty, .slice none 0 0, .int .i64 0, .int .i64 0, .slice none 0 0] := rfl
  rw [hz]
  apply List.ext_getElem?
  intro j
  rw [rowOf_get, Array.getElem?_toList]
  unfold Builtin.zeroCells
  rw [Array.getElem?_map]
  by_cases hj : j < k * 6
  · rw [Array.getElem?_range, if_pos (by simpa using hj), List.getElem?_replicate, if_pos (by omega)]
    simp only [Option.map_some]
    have hm : j % 6 = 0 ∨ j % 6 = 1 ∨ j % 6 = 2 ∨ j % 6 = 3 ∨ j % 6 = 4 ∨ j % 6 = 5 := by omega
    show some (#[Value.int .i64 0, .string ByteArray.empty, .slice none 0 0, .int .i64 0, .int .i64 0, .slice none 0 0][j % 6]!) = _
    rcases hm with e | e | e | e | e | e <;> rw [e] <;> rfl
  · rw [Array.getElem?_range, if_neg (by simpa using hj), List.getElem?_replicate, if_neg (by omega)]
    rfl
theorem run_append_zeros (ty : TypeId) (w : World) (v : Value) (n : Nat) (xs : List Value) (hown : w.ownsRow 0 nodeT 6 v n xs) (k : Nat) (hb : n + k ≤ 3000000) :
    ∃ v' w', (Builtin.append_ #[nodesT, 3] ty #[v, .int .i64 (k : Int)]).run Tryz.prog w = .ok v' w' ∧ w'.ownsRow 0 nodeT 6 v' (n + k) (xs ++ rowOf (List.replicate k (noneNd, nHd))) ∧ w.grownBy w' v.ownBlock ∧ (v'.ownBlock = v.ownBlock ∨ v'.ownBlock = some w.heap.size) := by
  obtain ⟨i0, hi, hz0, hz1, hz2⟩ := info_parts infoNd
  have hu : Tryz.prog.underlying nodesT = some (.slice nodeT) := Tryz.underlying28
  have hti : Tryz.prog.underlying 3 = some (.int .i64) := Tryz.underlying3
  have hrl : (rowOf (List.replicate k (noneNd, nHd))).length = k * 6 := by rw [rowOf_length, List.length_replicate]
  have hlen : (xs ++ rowOf (List.replicate k (noneNd, nHd))).length = (n + k) * 6 := by rw [List.length_append, hown.1, hrl, Nat.add_mul]
  have hzs : (Builtin.zeroCells zNd.cells k).size = k * 6 := by rw [size_zeroCells]; rfl
  have grown : ∀ (old : Nat), old < n + k → ∀ (row : Option Nat),
      (w.drew.alloc (.cells (xs.toArray ++ Builtin.zeroCells zNd.cells k ++ Builtin.zeroCells zNd.cells (grownCap w (n + k) old nodeT - (n + k))) nodeT)).ownsRow 0 nodeT 6
        (.slice (some ⟨w.heap.size, 0, none⟩) (n + k) (grownCap w (n + k) old nodeT)) (n + k) (xs ++ rowOf (List.replicate k (noneNd, nHd))) ∧
      w.grownBy (w.drew.alloc (.cells (xs.toArray ++ Builtin.zeroCells zNd.cells k ++ Builtin.zeroCells zNd.cells (grownCap w (n + k) old nodeT - (n + k))) nodeT)) row := by
    intro old ho row
    have hge := grownCap_ge w (n + k) old nodeT
    have hcm : grownCap w (n + k) old nodeT ≤ maxLen := grownCap_le_maxLen w (n + k) old nodeT (by unfold maxLen; omega)
    refine ⟨⟨hlen, .inr ⟨w.heap.size, _, _, rfl, Nat.zero_le _, heap_alloc_new w.drew _, hge, hcm, ?_, ?_⟩⟩, ⟨rfl, rfl, rfl, by simp, fun j hj _ => Below.heap_alloc w.drew _ j hj⟩⟩
    · have h1 : (Builtin.zeroCells zNd.cells (grownCap w (n + k) old nodeT - (n + k))).size = (grownCap w (n + k) old nodeT - (n + k)) * 6 := by rw [size_zeroCells]; rfl
      have h2 := hown.1
      simp only [Array.size_append, List.size_toArray, hzs, h1]
      omega
    · simp only [Array.toList_append, List.append_assoc, zero_cells]
      rw [← List.append_assoc, ← hlen]
      exact List.take_left
  rcases hown.2 with ⟨rfl, rfl⟩ | ⟨g, cap, cur, rfl, hbg, hg, hnc, hcm, hcs, htake⟩
  · have hx : xs = [] := List.eq_nil_of_length_eq_zero (by simpa using hown.1)
    subst hx
    by_cases hm : k = 0
    · subst hm
      refine ⟨.slice none 0 0, w, ?_, World.ownsRow_nil w 0 nodeT 6, ⟨rfl, rfl, rfl, Nat.le_refl _, fun _ _ _ => rfl⟩, .inl rfl⟩
      simp [Builtin.append_, run_underlying hu, run_underlying hti, sizeOf, typeInfo, hi, asInt, asIntOf, IntKind.wrap_i64]
    · have hr := Lib.run_append_nil_zeros (P := Tryz.prog) w nodesT 3 ty nodeT i0 _ .i64 .i64 hu hti hi hz0 k (by omega) (by rw [hz1]; decide) (by omega) (by rw [hz2]; omega)
      have hgr := grown 0 (by omega) (Value.ownBlock (.slice none 0 0))
      simp only [Nat.zero_add, List.nil_append, Array.empty_append] at hgr ⊢
      exact ⟨_, _, hr, hgr.1, hgr.2, Or.inr rfl⟩
  · by_cases hroom : n + k ≤ cap
    · have hst := run_storeCells_at Tryz.prog g (n * 6) nodeT (rowOf (List.replicate k (noneNd, nHd))) 0 cur w hg (by rw [hrl, hcs]; omega) (rowOf_one _)
      simp only [Nat.add_zero] at hst
      have hr : (Builtin.append_ #[nodesT, 3] ty #[.slice (some ⟨g, 0, none⟩) n cap, .int .i64 (k : Int)]).run Tryz.prog w = .ok (.slice (some ⟨g, 0, none⟩) (n + k) cap) (w.setRow g (cur.toList.take (n * 6) ++ rowOf (List.replicate k (noneNd, nHd)) ++ cur.toList.drop (n * 6 + (rowOf (List.replicate k (noneNd, nHd))).length)).toArray) := by
        have hw : IntKind.i64.wrap (k : Int) = k := by rw [IntKind.wrap_i64]; omega
        have hneg : ¬ ((k : Int) < 0) := by omega
        have h48i : ¬ (281474976710656 < (k : Int) * 88) := by omega
        by_cases hk0 : k = 0
        · subst hk0
          have hst0 := hst
          simp [rowOf, storeCells] at hst0
          simp [Builtin.append_, run_underlying hu, run_underlying hti, sizeOf, typeInfo, hi, hz2, asInt, asIntOf, hnc, IntKind.wrap_i64, storeCells, rowOf]
          exact hst0
        · have hns : ¬ (k * 6 = 0) := by omega
          simp [Builtin.append_, run_underlying hu, run_underlying hti, sizeOf, typeInfo, zeroValue, hi, hz0, hz1, hz2, asInt, asIntOf, hw, hneg, h48i, hns, hroom, Addr.add_lit, zero_cells, hst]
      refine ⟨_, _, hr, ⟨hlen, .inr ⟨g, cap, _, rfl, hbg, setRow_heap w g cur _ nodeT _ hg, hroom, hcm, ?_, ?_⟩⟩, ⟨rfl, rfl, rfl, by simp, fun k _ hk => setRow_other w g k _ (fun e => hk (by simp [Value.ownBlock, e]))⟩, Or.inl rfl⟩
      · simp only [List.size_toArray, List.length_append, List.length_take, List.length_drop, Array.length_toList]
        omega
      · rw [htake, ← hlen]
        exact List.take_left
    · have holds : ∀ j u, xs[j]? = some u → w.cell? ((⟨g, 0, none⟩ : Addr).add j) = some u := hown.cells (g := g) rfl
      have hold : (Builtin.firstCells i0.size n (.slice (some ⟨g, 0, none⟩) n cap)).run Tryz.prog w.drew = .ok xs.toArray w.drew := by
        rw [hz1]
        exact run_firstCells_some (P := Tryz.prog) w.drew 6 n ⟨g, 0, none⟩ n cap xs hown.1 (by simpa using holds)
      have hr := Lib.run_append_grow_zeros (P := Tryz.prog) w nodesT 3 ty nodeT i0 _ .i64 .i64 hu hti hi hz0 (some ⟨g, 0, none⟩) n cap xs hold k (by omega) (by rw [hz1]; decide) (by omega) (by omega) (by rw [hz2]; omega) (by rw [hz2]; exact growslice_fits (by omega) (by omega))
      have hgr := grown cap (by omega) (Value.ownBlock (.slice (some ⟨g, 0, none⟩) n cap))
      exact ⟨_, _, hr, hgr.1, hgr.2, Or.inr rfl⟩
end Go.Proofs.YtbijfkpilncclaaGreat

namespace Go.Proofs.YtbijfkpilncclaaGreat
open Go.RowKit Go.Deep
theorem wpList_append_ndB {ops : Array Oper} {rest : List Oper} {o : Oper} {a : Act} {w : World} {Q : Exit → Act → World → Prop} (hgd : o.guard = none) (s x : Operand)
    (ho : o.op = .call { callee := .builtin .append, args := #[s, x], argTypes := #[nodesT, nodesT] })
    (base : Nat) (v : Value) (n : Nat) (xs : List Value) (hs : a.eval s = v) (hown : w.ownsRow base nodeT 6 v n xs)
    (ad : Addr) (c : Nat) (r : Nd × Hd) (hx : a.eval x = .slice (some ad) 1 c) (hnews : ∀ j u, (rowOf [r])[j]? = some u → w.cell? (ad.add j) = some u) (hn : n ≤ 3000000) (hbase : base ≤ w.heap.size)
    (h : ∀ A' c' w', Hid (w'.ownsRow base nodeT 6 (.slice A' (n + 1) c') (n + 1) (xs ++ rowOf [r])) → Hid (w.grownBy w' v.ownBlock) → Hid ((Value.slice A' (n + 1) c').ownBlock = v.ownBlock ∨ (Value.slice A' (n + 1) c').ownBlock = some w.heap.size) → wpList Tryz.prog ops Q rest (a.put o.dst (.slice A' (n + 1) c')) w') :
    wpList Tryz.prog ops Q (o :: rest) a w :=
  wpList_plain hgd fun K hK => by
    obtain ⟨i0, hi, hz0, hz1, hz2⟩ := info_parts infoNd
    obtain ⟨v', w', hr, h2, h3, _, h5⟩ := run_append_own_at (P := Tryz.prog) w base nodesT o.type nodeT i0 _ 6 88 Tryz.underlying28 hi hz0 hz1 hz2 rfl (by decide) v n xs hown ad 1 c (rowOf [r]) rfl hnews (rowOf_one _) (by unfold maxLen; omega) (by omega) hbase
    obtain ⟨A', c', rfl⟩ := own_sliceN h2
    unfold Oper.wp execOp
    simp only [ho, resolve, invoke, builtin, Sem.run_bind, Sem.run_pure, Result.andThen_ok, List.map_toArray, List.map_cons, List.map_nil, hs, hx, hr]
    exact hK _ _ (h A' c' w' h2 h3 h5)
theorem sizL_len : ∀ l : List Nd, l.length ≤ sizL l
  | [] => by simp
  | n :: t => by rw [sizL, List.length_cons]; have := sizL_len t; omega
theorem sizL_at {l : List Nd} {k : Nat} (h : k < l.length) : sizN l[k] ≤ sizL l := by
  have h1 : sizL (l.take (k + 1)) ≤ sizL l := sizL_take l _
  rw [List.take_succ_eq_append_getElem h, sizL_app, sizL, sizL_nil] at h1
  omega
def FoN (m : Nat) : Prop := ∀ (n : Nd) (h : Hd) (w : World) (S : Nat → Prop), NdAt w S m n h → nodeOk n = true → sizN n ≤ 2000000 → Calls Tryz.prog 74 #[.agg #[.int .i64 n.kind, .string n.data, .slice h.A n.ptrs.length h.a, .int .i64 n.size, .int .i64 n.count, .slice h.B n.items.length h.b], .func (.func 74) #[] #[]] w (NewO (m + 1) (canN n) w)
def FaS (m : Nat) : Prop := ∀ (A : Option Addr) (c : Nat) (l : List Nd) (w : World) (S : Nat → Prop), NdsAt w S m A l → (∀ n ∈ l, nodeOk n = true) → sizL l ≤ 2000000 → Calls Tryz.prog 110 #[.slice A l.length c, .func (.func 74) #[] #[]] w (NewOS (m + 1) (l.map canN) w)
set_option maxHeartbeats 4000000 in
set_option maxRecDepth 100000 in
theorem faS_of (m : Nat) (IH : ∀ j, m = j + 1 → FoN j) : FaS m := by
  intro A c l w S hl hok hsz
  have hlm : l.length ≤ 2000000 := Nat.le_trans (sizL_len l) hsz
  have HF := Lib.hid hl
  have HOK := Lib.hid hok
  have HSZ := Lib.hid hsz
  have HIH := Lib.hid IH
  clear hl hok hsz IH
  go_enter Tryz.func110, Tryz.ntmps110
  go_wp2
  go_loopw [5, 10] (fun v i wr => ∃ (u : Value) (k : Nat) (q : List NB), u = v ∧ i = .int .i64 k ∧ k ≤ l.length ∧ q.length = k ∧ Hid (RowO wr w.heap.size u q m ∧ q.map (·.1) = (l.take k).map canN) ∧ Hid (Below w.heap.size w wr)) (fun _ i _ => l.length - (intOf i).toNat)
  case atStart => exact ⟨_, 0, [], rfl, rfl, by omega, rfl, Lib.hid ⟨RowO.nil _ _ _, rfl⟩, Lib.hid (Below.refl _ _)⟩
  case round =>
    obtain ⟨v, k, q, hv0, rfl, hk, hql, HR, HB⟩ := hrel
    subst hv0
    by_cases hlt : k < l.length
    · obtain ⟨j, rfl⟩ := HF.out.pred hlt
      obtain ⟨x, hd, rfl, hc, hn⟩ := (HF.out.below HB.out).at_ hlt
      have htn : l.take k ++ [l[k]] = l.take (k + 1) := (List.take_succ_eq_append_getElem hlt).symm
      have hoy := HOK.out _ (List.getElem_mem hlt)
      have hzy : sizN l[k] ≤ 2000000 := Nat.le_trans (sizL_at hlt) HSZ.out
      have HM : Hid (q.map (·.1) ++ [canN l[k]] = (l.take (k + 1)).map canN) := Lib.hid (by rw [HR.out.2, ← htn, List.map_append]; rfl)
      generalize l[k] = y at *
      obtain ⟨d0, d1, d2, d3, d4, d5⟩ := hc
      have hba := (Below.refl wr.heap.size wr).alloc (Nat.le_refl _) (.cells #[.int .i64 y.kind, .string y.data, .slice hd.A y.ptrs.length hd.a, .int .i64 y.size, .int .i64 y.count, .slice hd.B y.items.length hd.b] nodeT)
      have HC := Lib.hid (HIH.out j rfl y hd (wr.alloc (.cells #[.int .i64 y.kind, .string y.data, .slice hd.A y.ptrs.length hd.a, .int .i64 y.size, .int .i64 y.count, .slice hd.B y.items.length hd.b] nodeT)) S (hn.below hba) hoy hzy)
      have HR2 := Lib.hid (HR.out.1.alloc (.cells #[.int .i64 y.kind, .string y.data, .slice hd.A y.ptrs.length hd.a, .int .i64 y.size, .int .i64 y.count, .slice hd.B y.items.length hd.b] nodeT))
      have HB2 := Lib.hid (HB.out.trans (hba.mono HB.out.size))
      have hs1 := HB.out.size
      have hs2 : (wr.alloc (.cells #[.int .i64 y.kind, .string y.data, .slice hd.A y.ptrs.length hd.a, .int .i64 y.size, .int .i64 y.count, .slice hd.B y.items.length hd.b] nodeT)).heap.size = wr.heap.size + 1 := by simp
      unfold NewO at HC
      clear hn hoy hzy htn hba
      generalize canN y = z at HC HM
      go_wp2_with fail
      generalize wr.alloc (.cells #[.int .i64 y.kind, .string y.data, .slice hd.A y.ptrs.length hd.a, .int .i64 y.size, .int .i64 y.count, .slice hd.B y.items.length hd.b] nodeT) = W2 at *
      clear d0 d1 d2 d3 d4 d5
      refine HC.out.mono ?_
      rintro e w3 ⟨hy, bs, rfl, hny, hnd, hge, hb3⟩
      have HO3 := Lib.hid (HR2.out.low hb3)
      have HB3 := Lib.hid (HB2.out.trans (hb3.mono HB2.out.size))
      have hs3 := hb3.size
      have HQH : Hid (∀ b ∈ blkB q, b < W2.heap.size) := Lib.hid HR2.out.lt
      have HVH : Hid (∀ k, v.ownBlock = some k → k < W2.heap.size) := Lib.hid fun k hk => (HR2.out.1.lt k hk).2
      have HNY := Lib.hid hny
      have HND := Lib.hid (And.intro hnd hge)
      have hq3 : q.length ≤ 3000000 := by omega
      clear hny hnd hge hb3
      go_wp2_with (at_builtin; go_must (refine wpList_append_ndB rfl (.tmp 14) (.tmp 19) rfl w.heap.size v q.length (rowB q) rfl (HO3.out.1.alloc _) ⟨w3.heap.size, 0, none⟩ 1 (z, hy) rfl (cells_six_new w3 (z, hy) _) hq3 (by simp; omega) ?_); intro A4 c4 w4 hown4 hgrow4 hat4)
      have hnx := (HO3.out.alloc _).next (HNY.out.below ((Below.refl w3.heap.size w3).alloc (Nat.le_refl _) _)) HND.out.1 HND.out.2 (by omega) HQH.out HVH.out hown4.out hgrow4.out hat4.out
      have HB4 := Lib.hid ((HB3.out.alloc HB3.out.size _).grown hgrow4.out (by simp; omega) (fun k hk => (HO3.out.1.lt k hk).1))
      have HR4 := Lib.hid (And.intro hnx (show (q ++ [(z, hy, bs)]).map (·.1) = (l.take (k + 1)).map canN by rw [List.map_append]; exact HM.out))
      clear hown4 hgrow4 hat4 hnx
      rw [hql] at HR4
      go_roundw
      case rel => exact ⟨_, k + 1, q ++ [(z, hy, bs)], rfl, by go_num, by omega, by simp; omega, HR4, HB4⟩
      case measure => simp [intOf]; omega
    · obtain rfl : k = l.length := by omega
      obtain ⟨A2, c2, bs, hv, hown, hnd, hge⟩ := HR.out.1.done
      have hm := HR.out.2
      rw [List.take_of_length_le (Nat.le_refl _)] at hm
      subst hv
      have hll : (l.map canN).length = q.length := by rw [List.length_map]; omega
      rw [hm] at hown
      have HRES : Hid (NewOS (m + 1) (l.map canN) w (.returned (.slice A2 q.length c2)) wr) := Lib.hid ⟨A2, c2, bs, by rw [hll], hown, hnd, hge, HB.out⟩
      clear hown hnd hge hm HR
      go_wp2
      go_ret
      exact HRES.out
end Go.Proofs.YtbijfkpilncclaaGreat

namespace Go.Proofs.YtbijfkpilncclaaGreat
open Go.RowKit
def wordsB (n : Nat) : Bool := decide (n % 8 = 0 ∧ n ≤ 1600)
set_option maxHeartbeats 400000 in
theorem isWords_any (s : ByteArray) (w : World) (hs : s.size ≤ maxLen) :
    Calls Tryz.prog 27 #[.string s] w fun e w' => e = .returned (.bool (wordsB s.size)) ∧ w = w' := by
  unfold maxLen at hs
  by_cases h1 : s.size % 8 = 0
  all_goals
    go_enter Tryz.func27, Tryz.ntmps27
    go_wp2
    go_ret
    refine ⟨ret_bool ?_, rfl⟩
    simp [wordsB, h1]
  omega
end Go.Proofs.YtbijfkpilncclaaGreat

namespace Go.Proofs.YtbijfkpilncclaaGreat
open Go.RowKit

set_option maxHeartbeats 400000 in
theorem wordAt_any (s : ByteArray) (i : Int) (w : World) (hs : s.size ≤ maxLen) (h0 : 0 ≤ i) (hi : 8 * i + 8 ≤ s.size) :
    Calls Tryz.prog 100 #[.string s, .int .i64 i] w fun e w' => e = .returned (.agg (wd ((s.data.toList.drop (8 * i.toNat)).take 8))) ∧ Below w.heap.size w w' := by
  obtain ⟨i, rfl⟩ := Int.eq_ofNat_of_zero_le h0
  unfold maxLen at hs
  have ewd : (s.extract (i * 8) s.size).data.toList.take 8 = (s.data.toList.drop (8 * (i : Int).toNat)).take 8 := by
    rw [Lib.extract_data, Nat.mul_comm]
    congr 2
    simp [List.take_of_length_le]
  have hsz : 8 ≤ (s.extract (i * 8) s.size).size := by simp; omega
  have hlen : ((s.extract (i * 8) s.size).data.toList.take 8).length = 8 := by simp; omega
  generalize hl : (s.extract (i * 8) s.size).data.toList.take 8 = l at ewd hlen
  rw [← ewd]
  have HL := Lib.hid hl
  clear ewd hl
  go_enter Tryz.func100, Tryz.ntmps100
  go_wp2
  have e1 : IntKind.i64.wrap ((i : Int) * 8) = (i : Int) * 8 := by rw [IntKind.wrap_i64]; omega
  have e2 : (0 : Int) ≤ (i : Int) * 8 := by omega
  have e3 : (i : Int) * 8 ≤ (s.size : Int) := by omega
  have e4 : ((i : Int) * 8).toNat = i * 8 := by omega
  go_region_law (refine step_copy_string_ge rfl (.tmp 6) (.tmp 10) 36 9 rfl 5 Tryz.underlying36 size5 (w.heap.size + 1) 8 8 (s.extract (i * 8) s.size) _ 91 rfl (by simp [Act.eval, Act.put]) (by simp [Act.eval, Act.put]) (heap_alloc2_new w _ _) hsz ?_; intro w4 hg4 hb4)
  clear e1 e2 e3 e4
  have hA : Hid (w4.heap[w.heap.size]? = some (.cells #[.int .u8 0, .int .u8 0, .int .u8 0, .int .u8 0, .int .u8 0, .int .u8 0, .int .u8 0, .int .u8 0] 91 (0, 0))) :=
    (hb4.out.block w.heap.size (by simp; omega) (by simp)).trans (heap_alloc2_old w _ _)
  have hB : Hid (Below w.heap.size w w4) := ((Below.refl _ _).alloc (Nat.le_refl _) _ |>.alloc (by simp) _ |>.drew).grown hb4.out (by simp; omega) (fun k e => by cases e; simp)
  clear hb4
  have hG : Hid (w4.heap[w.heap.size + 1]? = some (.cells (wd l) 91 (0, 0))) := by rw [← HL.out]; exact hg4.out
  have hlen := Lib.hid hlen
  clear hg4 HL
  go_wp2_with (first | (refine wpList_load_wd rfl 91 (.tmp 5) rfl (w.heap.size + 1) rfl 91 l _ hG.out Tryz.underlying91 rfl (by rw [hlen.out]; exact size46) ?_) | (refine wpList_store_wd rfl 91 (.tmp 4) (.tmp 12) rfl w.heap.size l rfl rfl 91 _ hA.out (by rw [hlen.out]; exact size46) (by rw [hlen.out]; rfl) ?_; intro w5 hg5 hb5))
  refine bodyPost_ret (v := .agg (wd l)) ?_ rfl ⟨rfl, hB.out.grown hb5.out (by have := hB.out.size; omega) (fun k e => by cases e; simp)⟩
  exact results_cell_row rfl _ _ w.heap.size 91 _ (0, 0) _ rfl hg5.out Tryz.underlying91 rfl (by rw [wd_size, hlen.out]; exact size46)

end Go.Proofs.YtbijfkpilncclaaGreat

namespace Go.Proofs.YtbijfkpilncclaaGreat
open Go.RowKit Go.Shelf
attribute [local go_sem] Oper.semAt_some
abbrev W8 := { l : List UInt8 // l.length = 8 }
def wordQ (l : List UInt8) (i : Nat) : W8 := ⟨(l.drop (8 * i) ++ [0, 0, 0, 0, 0, 0, 0, 0]).take 8, by simp⟩
theorem wordQ_in (l : List UInt8) (i : Nat) (h : 8 * i + 8 ≤ l.length) : (wordQ l i).1 = (l.drop (8 * i)).take 8 := by
  show List.take 8 (l.drop (8 * i) ++ [0, 0, 0, 0, 0, 0, 0, 0]) = _
  rw [List.take_append_of_le_length (by simp; omega)]
def wordsQ (l : List UInt8) : List W8 := (List.range (l.length / 8)).map (wordQ l)
theorem wordsQ_length (l : List UInt8) : (wordsQ l).length = l.length / 8 := by simp [wordsQ]
theorem upto_snoc (l : List UInt8) (k : Nat) : (List.range (k + 1)).map (wordQ l) = (List.range k).map (wordQ l) ++ [wordQ l k] := by rw [List.range_succ, List.map_append]; rfl
theorem upto_pre (l : List UInt8) (k : Nat) (h : k ≤ l.length / 8) : (List.range k).map (wordQ l) <+: wordsQ l := by
  obtain ⟨j, hj⟩ : ∃ j, l.length / 8 = k + j := ⟨l.length / 8 - k, by omega⟩
  rw [wordsQ, hj, List.range_add, List.map_append]
  exact List.prefix_append _ _
def KeepBox (Bn : Nat) (A B : World) : Prop := B.heap[Bn]? = A.heap[Bn]?
theorem grown_of_below {w w' : World} (h : Below w.heap.size w w') : w.grownBy w' none := ⟨h.os, h.tape, h.output, h.size, fun k hk _ => h.block k hk⟩

set_option maxRecDepth 100000 in
set_option maxHeartbeats 2000000 in
theorem words1_in (n : Nat) (_hn : 1 ≤ n) (l Bn : Nat) (s : ByteArray) (hs : s.size ≤ maxLen) (J Jx : List W8 → World → Prop) (W : World) (hJ : AbidesFrom W.heap.size J)
    (hY : ∀ pre x W1, J pre W1 → pre.length < s.size / 8 → YieldAt Fence.wide (n - 1) Tryz.prog l #[.agg (wd x.1)] W1 fun e W' =>
      (e = .returned (.bool true) ∧ J (pre ++ [x]) W' ∧ KeepBox Bn W1 W') ∨ (e = .returned (.bool false) ∧ Jx (pre ++ [x]) W'))
    (hBn : W.heap[Bn]? = some (.cells #[.string s] 9 (0, 0))) (h0 : J [] W) :
    CallsIn Fence.wide n Tryz.prog 99 #[.func (.yield l) #[] #[], .pointer (some ⟨Bn, 0, none⟩)] W fun e W' => (∃ v, e = .returned v) ∧
      ((∃ ys, ys = wordsQ s.data.toList ∧ J ys W') ∨ (∃ pre, pre <+: wordsQ s.data.toList ∧ Jx pre W')) := by
  have hs' := hs
  unfold maxLen at hs'
  have hsl : s.data.toList.length = s.size := by simp
  have HSL := Lib.hid hsl
  clear hsl
  have hBlt := (Array.getElem?_eq_some_iff.1 hBn).1
  have hc0 := Boxed.cell (t := 9) hBn
  refine callsIn_of_wp Tryz.func99 rfl trivial ?_ rfl
  simp only [Tryz.ntmps99, List.size_toArray, List.length_cons, List.length_nil, Nat.reduceAdd, Nat.reduceSub, Array.replicate_succ, Array.replicate_zero, List.push_toArray, List.append_toArray, List.nil_append, List.cons_append]
  gi_wp2
  gi_loopw [3, 7] (fun _ i wr => ∃ k : Nat, k ≤ s.size / 8 ∧ i = .int .i64 k ∧ J ((List.range k).map (wordQ s.data.toList)) wr ∧ Hid (wr.heap[Bn]? = some (.cells #[.string s] 9 (0, 0)))) (fun _ i _ => s.size / 8 - (intOf i).toNat)
  case atStart => exact ⟨0, by omega, rfl, h0, hBn⟩
  case round =>
    obtain ⟨k, hk, rfl, hJs, HB⟩ := hrel
    by_cases hk1 : k < s.size / 8
    · have hcell := Boxed.cell (t := 9) HB.out
      have hlt1 : decide ((k : Int) < (s.size : Int) / 8) = true := by simp; omega
      gi_wp2_with fail
      have hwq := wordQ_in s.data.toList k (by rw [HSL.out]; omega)
      have HWQ := Lib.hid hwq
      clear hwq
      refine ⟨trivial, (callsIn_wide.2 (wordAt_any s k _ hs (by omega) (by omega))).mono ?_⟩
      rintro e w1 ⟨rfl, hb1⟩
      rw [Int.toNat_natCast, ← HWQ.out]
      have hJ1 := hJ _ _ _ none hJs (grown_of_below hb1) (fun r e => by cases e)
      have HB1 : Hid (w1.heap[Bn]? = some (.cells #[.string s] 9 (0, 0))) := Lib.hid ((hb1.block Bn (Array.getElem?_eq_some_iff.1 HB.out).1).trans HB.out)
      obtain ⟨fn, tmps, assign, body, hy, hR⟩ := hY _ (wordQ s.data.toList k) w1 hJ1 (by simpa using hk1)
      clear hb1 hcell
      generalize hx : wd (wordQ s.data.toList k).1 = x at hy ⊢
      have HX := Lib.hid hx
      clear hx
      gi_wp2
      refine hR.mono ?_
      rintro e W3 (⟨rfl, hJ3, hk3⟩ | ⟨rfl, hJx3⟩)
      · gi_wp2
        go_roundw
        case rel => exact ⟨k + 1, by omega, by go_num, by rw [upto_snoc]; exact hJ3, hk3.trans HB1.out⟩
        case measure => simp [intOf]; omega
      · gi_wp2
        refine bodyPost_ret (results_none rfl _ _ _) rfl ?_
        exact ⟨⟨_, rfl⟩, .inr ⟨_, by rw [← upto_snoc]; exact upto_pre _ _ (by rw [HSL.out]; omega), hJx3⟩⟩
    · obtain rfl : k = s.size / 8 := by omega
      have hlt1 : decide (((s.size / 8 : Nat) : Int) < (s.size : Int) / 8) = false := by simp
      gi_wp2
      go_end0
      exact ⟨⟨_, rfl⟩, .inl ⟨_, by rw [wordsQ, HSL.out], hJs⟩⟩
theorem words_stops (n : Nat) (hn : 1 ≤ n) (Bn : Nat) (s : ByteArray) (hs : s.size ≤ maxLen) (w : World) (hBn : w.heap[Bn]? = some (.cells #[.string s] 9 (0, 0))) :
    SeqStopsK Fence.wide n Tryz.prog 99 #[.pointer (some ⟨Bn, 0, none⟩)] (fun x : W8 => #[Value.agg (wd x.1)]) (KeepBox Bn) (fun ys => ys = wordsQ s.data.toList) (fun pre => pre <+: wordsQ s.data.toList) (s.size / 8) w := fun l J Jx W hW hJ _ hY h0 =>
  words1_in n hn l Bn s hs J Jx W hJ hY ((hW.block Bn (Array.getElem?_eq_some_iff.1 hBn).1).trans hBn) h0
end Go.Proofs.YtbijfkpilncclaaGreat

namespace Go.Proofs.YtbijfkpilncclaaGreat
open Go.RowKit
def zerS (u : ByteArray) : Bool := zerB u.data.toList
theorem l1ZeroS (s : ByteArray) (w : World) (hs : s.size ≤ maxLen) :
    Calls Tryz.prog 62 #[.string s] w fun e w' => e = .returned (.bool (zerS s)) ∧ w = w' := l1Zero_any s w hs
def sizeV : Value → Nat
  | .string u => u.size
  | _ => 0
theorem ret_str {a b : ByteArray} (h : a.data.toList = b.data.toList) : Ending.returned (.string a) = .returned (.string b) := by
  obtain ⟨⟨x⟩⟩ := a
  obtain ⟨⟨y⟩⟩ := b
  simp only at h
  rw [h]
set_option maxHeartbeats 1000000 in
theorem l1Trim_any (s : ByteArray) (K : Nat) (w : World) (hs : s.size ≤ maxLen) (h8 : s.size = 8 * K) :
    Calls Tryz.prog 70 #[.string s] w fun e w' => e = .returned (.string ⟨(s.data.toList.take (8 * trimN s.data.toList K)).toArray⟩) ∧ w = w' := by
  have hs' := hs
  unfold maxLen at hs
  have hl : s.data.toList.length = s.size := by simp
  have H0 := Lib.hid hl
  have H8 := Lib.hid h8
  have hl0 : s.data.toList = s.data.toList.take (8 * K) := by rw [List.take_of_length_le (by omega)]
  have HL0 := Lib.hid hl0
  clear hl h8 hl0
  generalize hl : s.data.toList = l at *
  have HLL := Lib.hid hl
  clear hl
  go_enter Tryz.func70, Tryz.ntmps70
  go_wp2
  go_loop [0] (fun t => ∃ (k : Nat) (u : ByteArray), t = .string u ∧ u.size ≤ s.size ∧ u.data.toList = l.take (8 * k) ∧ u.size = 8 * k ∧ trimN l K = trimN l k) sizeV
  case atStart => exact ⟨K, s, rfl, Nat.le_refl _, HLL.out.trans HL0.out, H8.out, rfl⟩
  case round =>
    obtain ⟨k, u, rfl, hus, hul, huk, htr⟩ := hrel
    have HU := Lib.hid hul
    have HT := Lib.hid htr
    clear hul htr
    cases k with
    | zero =>
      have hn : ¬ (8 : Int) ≤ (u.size : Int) := by omega
      have HK := Lib.hid huk
      clear huk
      go_wp2
      go_ret
      exact ⟨ret_str (by rw [HU.out, HT.out]; rfl), rfl⟩
    | succ m =>
      have f1 : (8 : Int) ≤ (u.size : Int) := by omega
      have e1 : IntKind.i64.wrap ((u.size : Int) - 8) = (u.size : Int) - 8 := by rw [IntKind.wrap_i64]; omega
      have e2 : (0 : Int) ≤ (u.size : Int) - 8 := by omega
      have e3 : (u.size : Int) - 8 ≤ (u.size : Int) := by omega
      have e4 : ((u.size : Int) - 8).toNat = u.size - 8 := by omega
      have hzl : (u.extract (u.size - 8) u.size).data.toList = (l.drop (8 * m)).take 8 := by
        rw [Lib.extract_data, HU.out, List.drop_take, huk, List.take_take]
        congr 1 <;> omega
      have hext : (u.extract 0 (u.size - 8)).data.toList = l.take (8 * m) := by
        rw [Lib.extract_data, HU.out, List.drop_zero, List.take_take]
        congr 1; omega
      have hul2 : (u.extract 0 (u.size - 8)).size = 8 * m := by simp; omega
      have hue : (u.extract (u.size - 8) u.size).size ≤ maxLen := by unfold maxLen; simp; omega
      cases hz : zerS (u.extract (u.size - 8) u.size)
      · have hT2 : trimN l (m + 1) = m + 1 := by rw [zerS, hzl] at hz; simp [trimN, hz]
        have H2 := Lib.hid hT2
        have HE := Lib.hid hext
        have HK := Lib.hid huk
        clear hT2 hzl hext hul2 huk
        go_wp2_with (go_at_call 62; refine (l1ZeroS _ _ hue).mono ?_; rintro e w' ⟨rfl, rfl⟩)
        all_goals
          go_ret
          exact ⟨ret_str (by rw [HU.out, HT.out, H2.out]), rfl⟩
      · have hT2 : trimN l (m + 1) = trimN l m := by rw [zerS, hzl] at hz; simp [trimN, hz]
        have H2 := Lib.hid hT2
        have HE := Lib.hid hext
        have HS := Lib.hid hul2
        have HK := Lib.hid huk
        clear hT2 hzl hext hul2 huk
        go_wp2_with (go_at_call 62; refine (l1ZeroS _ _ hue).mono ?_; rintro e w' ⟨rfl, rfl⟩)
        all_goals
          go_round
          case rel => exact ⟨m, _, rfl, by rw [HS.out]; have := HK.out; omega, HE.out, HS.out, HT.out.trans H2.out⟩
          case measure => (simp only [sizeV]; rw [HS.out]; have := HK.out; omega)
end Go.Proofs.YtbijfkpilncclaaGreat
