/- Texts of the proof of the law FnExactRecordGet, side by side: part 5. -/
import Derived.Lib.AppendZerosOnto
import Derived.RangeFuncNested
import Derived.RangeFuncBound
import Derived.RangeFuncCalls
import Derived.RangeFuncLeaves
import Derived.Shelf.Abstract
import Derived.Shelf.RegionOpen
import Derived.OwnWalkIn
import Derived.TacticsInMore
import Derived.LoopNIn
import Derived.LoopIn
import Derived.Deep.DeepMust
import Derived.Stop.BytesEq
import Derived.Test.YtehhbbdaeonebaaGreatDoorMExactRecordGet04
set_option maxHeartbeats 8000000
set_option maxRecDepth 100000
namespace Go.Proofs.YtehhbbdaeonebaaGreatDoor
open Go.RowKit
def blk : Option Addr → List Nat
 | none => []
 | some a => [a.block]
abbrev NB := Nd × Hd × List Nat
def rowB (q : List NB) : List Value := rowOf (q.map fun r => (r.1, r.2.1))
def blkB (q : List NB) : List Nat := q.flatMap fun r => r.2.2
def OwS (w : World) : Nat → Option Addr → Nat → List Nd → List Nat → Prop
 | 0, A, c, l, bs => l = [] ∧ w.ownsRow 0 nodeT 6 (.slice A 0 c) 0 [] ∧ bs = blk A
 | m + 1, A, c, l, bs => ∃ q : List NB, q.map (·.1) = l ∧ w.ownsRow 0 nodeT 6 (.slice A q.length c) q.length (rowB q) ∧ bs = blk A ++ blkB q ∧
    ∀ r ∈ q, r.1.data.size ≤ maxLen ∧ ∃ b1 b2, r.2.2 = b1 ++ b2 ∧ OwS w m r.2.1.A r.2.1.a r.1.ptrs b1 ∧ OwS w m r.2.1.B r.2.1.b r.1.items b2
def OwN (w : World) (m : Nat) (n : Nd) (h : Hd) (bs : List Nat) : Prop := n.data.size ≤ maxLen ∧ ∃ b1 b2, bs = b1 ++ b2 ∧ OwS w m h.A h.a n.ptrs b1 ∧ OwS w m h.B h.b n.items b2
theorem own_blk {w : World} {B n k c : Nat} {A : Option Addr} {xs : List Value} (h : w.ownsRow B nodeT 6 (.slice A n c) k xs) : (A = none ∧ n = 0 ∧ c = 0 ∧ k = 0) ∨ ∃ g cur, A = some ⟨g, 0, none⟩ ∧ n = k ∧ B ≤ g ∧ w.heap[g]? = some (.cells cur nodeT (0, 0)) ∧ k ≤ c ∧ c ≤ maxLen ∧ cur.size = c * 6 ∧ cur.toList.take (k * 6) = xs := by
 rcases h.2 with ⟨hv, h0⟩ | ⟨g, cap, cur, hv, h1, h2, h3, h4, h5, h6⟩
 · injection hv with a b c
   exact .inl ⟨a, b, c, h0⟩
 · injection hv with a b c
   subst a b c
   exact .inr ⟨g, cur, rfl, rfl, h1, h2, h3, h4, h5, h6⟩
theorem own_frame {w w' : World} {n k c : Nat} {A : Option Addr} {xs : List Value} (h : w.ownsRow 0 nodeT 6 (.slice A n c) k xs) (hb : ∀ b ∈ blk A, w'.heap[b]? = w.heap[b]?) : w'.ownsRow 0 nodeT 6 (.slice A n c) k xs := by
 refine ⟨h.1, ?_⟩
 rcases h.2 with hv | ⟨g, cap, cur, hv, h1, h2, h3⟩
 · exact .inl hv
 · refine .inr ⟨g, cap, cur, hv, h1, ?_, h3⟩
   injection hv with a
   rw [hb g (by rw [a]; exact List.mem_singleton.2 rfl)]
   exact h2
theorem OwS.frame {w w' : World} : ∀ (m : Nat) (A : Option Addr) (c : Nat) (l : List Nd) (bs : List Nat), OwS w m A c l bs → (∀ b ∈ bs, w'.heap[b]? = w.heap[b]?) → OwS w' m A c l bs
 | 0, A, c, l, bs, ⟨hl, ho, hb⟩, hf => ⟨hl, own_frame ho (fun b hm => hf b (by rw [hb]; exact hm)), hb⟩
 | m + 1, A, c, l, bs, ⟨q, hq, ho, hb, hr⟩, hf => by
   refine ⟨q, hq, own_frame ho (fun b hm => hf b (by rw [hb]; exact List.mem_append_left _ hm)), hb, fun r hm => ?_⟩
   obtain ⟨h0, b1, b2, he, h1, h2⟩ := hr r hm
   have hsub : ∀ b ∈ r.2.2, w'.heap[b]? = w.heap[b]? := fun b hbm => hf b (by rw [hb]; exact List.mem_append_right _ (List.mem_flatMap.2 ⟨r, hm, hbm⟩))
   exact ⟨h0, b1, b2, he, OwS.frame m _ _ _ _ h1 (fun b hbm => hsub b (by rw [he]; exact List.mem_append_left _ hbm)), OwS.frame m _ _ _ _ h2 (fun b hbm => hsub b (by rw [he]; exact List.mem_append_right _ hbm))⟩
theorem OwN.frame {w w' : World} {m : Nat} {n : Nd} {h : Hd} {bs : List Nat} (hn : OwN w m n h bs) (hf : ∀ b ∈ bs, w'.heap[b]? = w.heap[b]?) : OwN w' m n h bs := by
 obtain ⟨h0, b1, b2, he, h1, h2⟩ := hn
 exact ⟨h0, b1, b2, he, OwS.frame m _ _ _ _ h1 (fun b hbm => hf b (by rw [he]; exact List.mem_append_left _ hbm)), OwS.frame m _ _ _ _ h2 (fun b hbm => hf b (by rw [he]; exact List.mem_append_right _ hbm))⟩
theorem own_lt {w : World} {n k c : Nat} {A : Option Addr} {xs : List Value} (h : w.ownsRow 0 nodeT 6 (.slice A n c) k xs) : ∀ b ∈ blk A, b < w.heap.size ∧ Clean w b := by
 intro b hb
 rcases own_blk h with ⟨rfl, _⟩ | ⟨g, cur, rfl, _, _, hg, _⟩
 · cases hb
 · obtain rfl := List.mem_singleton.1 hb
   exact ⟨row_lt hg, _, _, hg⟩
theorem OwS.lt {w : World} : ∀ (m : Nat) (A : Option Addr) (c : Nat) (l : List Nd) (bs : List Nat), OwS w m A c l bs → ∀ b ∈ bs, b < w.heap.size ∧ Clean w b
 | 0, A, c, l, bs, ⟨hl, ho, hb⟩ => by rw [hb]; exact own_lt ho
 | m + 1, A, c, l, bs, ⟨q, hq, ho, hb, hr⟩ => by
   rw [hb]
   intro b hm
   rcases List.mem_append.1 hm with hm | hm
   · exact own_lt ho b hm
   · obtain ⟨r, hrm, hbr⟩ := List.mem_flatMap.1 hm
     obtain ⟨_, b1, b2, he, h1, h2⟩ := hr r hrm
     have hbr' : b ∈ b1 ++ b2 := by rw [← he]; exact hbr
     rcases List.mem_append.1 hbr' with hbr' | hbr'
     · exact OwS.lt m _ _ _ _ h1 b hbr'
     · exact OwS.lt m _ _ _ _ h2 b hbr'
theorem OwN.lt {w : World} {m : Nat} {n : Nd} {h : Hd} {bs : List Nat} (hn : OwN w m n h bs) : ∀ b ∈ bs, b < w.heap.size ∧ Clean w b := by
 obtain ⟨_, b1, b2, he, h1, h2⟩ := hn
 intro b hb
 rw [he] at hb
 rcases List.mem_append.1 hb with hb | hb
 · exact h1.lt _ _ _ _ _ b hb
 · exact h2.lt _ _ _ _ _ b hb
theorem OwS.nil (w : World) : ∀ m, OwS w m none 0 [] []
 | 0 => ⟨rfl, World.ownsRow_nil _ _ _ _, rfl⟩
 | m + 1 => ⟨[], rfl, World.ownsRow_nil _ _ _ _, rfl, fun r h => by cases h⟩
theorem OwN.none (w : World) (m : Nat) : OwN w m (.mk 0 ⟨#[]⟩ [] 0 0 []) ⟨none, 0, none, 0⟩ [] := ⟨by decide, [], [], rfl, OwS.nil w m, OwS.nil w m⟩
theorem OwS.succ {w : World} : ∀ (m : Nat) (A : Option Addr) (c : Nat) (l : List Nd) (bs : List Nat), OwS w m A c l bs → OwS w (m + 1) A c l bs
 | 0, A, c, l, bs, ⟨hl, ho, hb⟩ => ⟨[], by rw [hl]; rfl, ho, by rw [hb]; simp [blkB], fun r h => by cases h⟩
 | m + 1, A, c, l, bs, ⟨q, hq, ho, hb, hr⟩ => ⟨q, hq, ho, hb, fun r hm => by
   obtain ⟨h0, b1, b2, he, h1, h2⟩ := hr r hm
   exact ⟨h0, b1, b2, he, OwS.succ m _ _ _ _ h1, OwS.succ m _ _ _ _ h2⟩⟩
theorem OwN.succ {w : World} {m : Nat} {n : Nd} {h : Hd} {bs : List Nat} (hn : OwN w m n h bs) : OwN w (m + 1) n h bs := by
 obtain ⟨h0, b1, b2, he, h1, h2⟩ := hn
 exact ⟨h0, b1, b2, he, h1.succ _ _ _ _ _, h2.succ _ _ _ _ _⟩
def InB (w : World) (bs : List Nat) : Nat → Prop := fun k => k ∈ bs ∧ Clean w k
theorem own_len {w : World} {n k c : Nat} {A : Option Addr} {xs : List Value} (h : w.ownsRow 0 nodeT 6 (.slice A n c) k xs) : k ≤ maxLen := by
 rcases own_blk h with ⟨_, _, _, h0⟩ | ⟨_, _, _, _, _, _, h1, h2, _⟩
 · omega
 · omega
theorem OwS.nds {w : World} : ∀ (m : Nat) (A : Option Addr) (c : Nat) (l : List Nd) (bs : List Nat), OwS w m A c l bs → NdsAt w (InB w bs) m A l
 | 0, A, c, l, bs, ⟨hl, _, _⟩ => hl
 | m + 1, A, c, l, bs, ⟨q, hq, ho, hb, hr⟩ => by
   have hlen := own_len ho
   refine ⟨by rw [← hq, List.length_map]; exact hlen, q.map fun r => (r.1, r.2.1), by rw [List.map_map]; exact hq, ?_, fun r hm => ?_⟩
   · rcases own_blk ho with ⟨_, h0, _⟩ | ⟨g, cur, hA, _, _, hg, h3, h4, h5, h6⟩
     · left
       rw [List.eq_nil_of_length_eq_zero h0]; rfl
     · right
       refine ⟨⟨g, 0, Option.none⟩, hA, ⟨by rw [hb, hA]; exact List.mem_append_left _ (List.mem_singleton.2 rfl), _, _, hg⟩, at_cells fun j u hj => ?_⟩
       rw [add_zero0, cell_of_row _ _ _ _ _ _ hg]
       have hj' : (cur.toList.take (q.length * 6))[j]? = some u := by rw [h6]; exact hj
       have hlt : j < q.length * 6 := by
        rcases Nat.lt_or_ge j (q.length * 6) with h | h
        · exact h
        · rw [List.getElem?_eq_none (by rw [List.length_take]; omega)] at hj'; cases hj'
       rw [List.getElem?_take_of_lt hlt] at hj'
       simpa using hj'
   · obtain ⟨r0, hr0, rfl⟩ := List.mem_map.1 hm
     obtain ⟨h0, b1, b2, he, h1, h2⟩ := hr r0 hr0
     have hsub : ∀ b ∈ r0.2.2, b ∈ bs := fun b hbm => by rw [hb]; exact List.mem_append_right _ (List.mem_flatMap.2 ⟨r0, hr0, hbm⟩)
     exact ⟨h0, (OwS.nds m _ _ _ _ h1).weak (fun k hk => ⟨hsub k (by rw [he]; exact List.mem_append_left _ hk.1), hk.2⟩), (OwS.nds m _ _ _ _ h2).weak (fun k hk => ⟨hsub k (by rw [he]; exact List.mem_append_right _ hk.1), hk.2⟩)⟩
theorem OwN.nd {w : World} {m : Nat} {n : Nd} {h : Hd} {bs : List Nat} (hn : OwN w m n h bs) : NdAt w (InB w bs) m n h := by
 obtain ⟨h0, b1, b2, he, h1, h2⟩ := hn
 exact ⟨h0, (h1.nds _ _ _ _ _).weak (fun k hk => ⟨by rw [he]; exact List.mem_append_left _ hk.1, hk.2⟩), (h2.nds _ _ _ _ _).weak (fun k hk => ⟨by rw [he]; exact List.mem_append_right _ hk.1, hk.2⟩)⟩
def RowO (w : World) (B : Nat) (v : Value) (q : List NB) (M : Nat) : Prop :=
 w.ownsRow B nodeT 6 v q.length (rowB q) ∧ (∀ r ∈ q, OwN w M r.1 r.2.1 r.2.2) ∧ (blkB q).Nodup ∧ ∀ b ∈ blkB q, B ≤ b ∧ some b ≠ v.ownBlock
theorem RowO.nil (w : World) (B M : Nat) : RowO w B (.slice none 0 0) [] M := ⟨World.ownsRow_nil _ _ _ _, fun r h => (by cases h), List.nodup_nil, fun b h => (by cases h)⟩
theorem RowO.lt {w : World} {B M : Nat} {v : Value} {q : List NB} (h : RowO w B v q M) : ∀ b ∈ blkB q, b < w.heap.size := by
 intro b hb
 obtain ⟨r, hr, hbr⟩ := List.mem_flatMap.1 hb
 exact ((h.2.1 r hr).lt b hbr).1
theorem RowO.low {w w' : World} {B M : Nat} {v : Value} {q : List NB} (h : RowO w B v q M) (hb : Below w.heap.size w w') : RowO w' B v q M :=
 ⟨h.1.kept (row := none) ⟨hb.os, hb.tape, hb.output, hb.size, fun k hk _ => hb.block k hk⟩ (by
  by_cases hv : v.ownBlock = none
  · exact .inl hv
  · exact .inr (fun e => hv e)), fun r hr => (h.2.1 r hr).frame (fun b hbr => hb.block b ((h.2.1 r hr).lt b hbr).1), h.2.2⟩
theorem RowO.drew {w : World} {B M : Nat} {v : Value} {q : List NB} (h : RowO w B v q M) : RowO w.drew B v q M := ⟨h.1.drew, fun r hr => (h.2.1 r hr).frame (fun _ _ => rfl), h.2.2⟩
theorem RowO.alloc {w : World} {B M : Nat} {v : Value} {q : List NB} (h : RowO w B v q M) (o : Obj) : RowO (w.alloc o) B v q M := h.low ((Below.refl _ _).alloc (Nat.le_refl _) o)
theorem RowO.store {w : World} {B M g i : Nat} {u v : Value} {q : List NB} (h : RowO w B v q M) (hg : g < B) : RowO (w.setCell ⟨g, i, none⟩ u) B v q M :=
 ⟨ownsRow_setCell_below h.1 hg u, fun r hr => (h.2.1 r hr).frame (fun b hbr => Below.heap_setCell w ⟨g, i, none⟩ u b (by have := (h.2.2.2 b (List.mem_flatMap.2 ⟨r, hr, hbr⟩)).1; show b ≠ g; omega)), h.2.2⟩
theorem blkB_snoc (q : List NB) (r : NB) : blkB (q ++ [r]) = blkB q ++ r.2.2 := by unfold blkB; simp
theorem rowB_snoc (q : List NB) (r : NB) : rowB (q ++ [r]) = rowB q ++ rowOf [(r.1, r.2.1)] := by unfold rowB; rw [List.map_append, rowOf_app]; rfl
theorem RowO.next {w3 w4 : World} {B H M : Nat} {v v' : Value} {q : List NB} {y : Nd} {hy : Hd} {bs : List Nat} (h : RowO w3 B v q M) (hny : OwN w3 M y hy bs) (hnd : bs.Nodup) (hbs : ∀ b ∈ bs, H ≤ b) (hBH : B ≤ H) (hqH : ∀ b ∈ blkB q, b < H) (hvH : ∀ k, v.ownBlock = some k → k < H)
 (hown : w4.ownsRow B nodeT 6 v' (q.length + 1) (rowB q ++ rowOf [(y, hy)])) (hgrow : w3.grownBy w4 v.ownBlock) (hat : v'.ownBlock = v.ownBlock ∨ v'.ownBlock = some w3.heap.size) : RowO w4 B v' (q ++ [(y, hy, bs)]) M := by
 have hk : ∀ b, b < w3.heap.size → some b ≠ v.ownBlock → w4.heap[b]? = w3.heap[b]? ∧ some b ≠ v'.ownBlock := fun b h1 h2 => ⟨hgrow.block b h1 h2, by
  rcases hat with e | e
  · rw [e]; exact h2
  · rw [e]; intro e2; injection e2 with e2; omega⟩
 have hy' : ∀ b ∈ bs, b < w3.heap.size ∧ some b ≠ v.ownBlock := fun b hb => ⟨(hny.lt b hb).1, fun e => by have := hvH b e.symm; have := hbs b hb; omega⟩
 refine ⟨by rw [List.length_append, rowB_snoc]; exact hown, fun r hr => ?_, ?_, ?_⟩
 · rcases List.mem_append.1 hr with hr | hr
   · exact (h.2.1 r hr).frame (fun b hb => (hk b (((h.2.1 r hr).lt b hb).1) (h.2.2.2 b (List.mem_flatMap.2 ⟨r, hr, hb⟩)).2).1)
   · obtain rfl := List.mem_singleton.1 hr
     exact hny.frame (fun b hb => (hk b (hy' b hb).1 (hy' b hb).2).1)
 · rw [blkB_snoc]
   exact List.nodup_append.2 ⟨h.2.2.1, hnd, fun a ha b hb e => by have := hqH a ha; have := hbs b hb; omega⟩
 · intro b hb
   rw [blkB_snoc] at hb
   rcases List.mem_append.1 hb with hb | hb
   · exact ⟨(h.2.2.2 b hb).1, (hk b (h.lt b hb) (h.2.2.2 b hb).2).2⟩
   · exact ⟨Nat.le_trans hBH (hbs b hb), (hk b (hy' b hb).1 (hy' b hb).2).2⟩
theorem own_zero {w : World} {B : Nat} {v : Value} {n : Nat} {xs : List Value} (h : w.ownsRow B nodeT 6 v n xs) : w.ownsRow 0 nodeT 6 v n xs := by
 refine ⟨h.1, ?_⟩
 rcases h.2 with hv | ⟨g, cap, cur, hv, _, h3⟩
 · exact .inl hv
 · exact .inr ⟨g, cap, cur, hv, Nat.zero_le _, h3⟩
theorem RowO.done {w : World} {B M : Nat} {v : Value} {q : List NB} (h : RowO w B v q M) : ∃ A c bs, v = .slice A q.length c ∧ OwS w (M + 1) A c (q.map (·.1)) bs ∧ bs.Nodup ∧ ∀ b ∈ bs, B ≤ b := by
 have hv : ∃ A c, v = .slice A q.length c := by
  rcases h.1.2 with ⟨h1, h0⟩ | ⟨g, cap, cur, h1, _⟩
  · exact ⟨none, 0, by rw [h1, h0]⟩
  · exact ⟨_, _, h1⟩
 obtain ⟨A, c, rfl⟩ := hv
 refine ⟨A, c, blk A ++ blkB q, rfl, ⟨q, rfl, own_zero h.1, rfl, fun r hr => h.2.1 r hr⟩, ?_, ?_⟩
 · refine List.nodup_append.2 ⟨?_, h.2.2.1, fun a ha b hb e => ?_⟩
   · cases A with
     | none => exact List.nodup_nil
     | some x => exact List.nodup_cons.2 ⟨by simp, List.nodup_nil⟩
   · cases A with
     | none => cases ha
     | some x =>
      obtain rfl := List.mem_singleton.1 ha
      exact (h.2.2.2 b hb).2 (by rw [← e]; rfl)
 · intro b hb
   rcases List.mem_append.1 hb with hb | hb
   · rcases own_blk h.1 with ⟨rfl, _⟩ | ⟨g, cur, rfl, _, hg, _⟩
     · cases hb
     · obtain rfl := List.mem_singleton.1 hb; exact hg
   · exact (h.2.2.2 b hb).1
def NewO (m : Nat) (n : Nd) (w : World) (e : Ending) (w' : World) : Prop := ∃ (h : Hd) (bs : List Nat), e = .returned (.agg #[.int .i64 n.kind, .string n.data, .slice h.A n.ptrs.length h.a, .int .i64 n.size, .int .i64 n.count, .slice h.B n.items.length h.b]) ∧ OwN w' m n h bs ∧ bs.Nodup ∧ (∀ b ∈ bs, w.heap.size ≤ b) ∧ Below w.heap.size w w'
def NewOS (m : Nat) (l : List Nd) (w : World) (e : Ending) (w' : World) : Prop := ∃ (A : Option Addr) (c : Nat) (bs : List Nat), e = .returned (.slice A l.length c) ∧ OwS w' m A c l bs ∧ bs.Nodup ∧ (∀ b ∈ bs, w.heap.size ≤ b) ∧ Below w.heap.size w w'
theorem OwN.below {w w' : World} {m : Nat} {n : Nd} {h : Hd} {bs : List Nat} (hn : OwN w m n h bs) (hb : Below w.heap.size w w') : OwN w' m n h bs := hn.frame (fun b hm => hb.block b (hn.lt b hm).1)
theorem OwS.below {w w' : World} {m : Nat} {A : Option Addr} {c : Nat} {l : List Nd} {bs : List Nat} (hn : OwS w m A c l bs) (hb : Below w.heap.size w w') : OwS w' m A c l bs := hn.frame _ _ _ _ _ (fun b hm => hb.block b (hn.lt _ _ _ _ _ b hm).1)
theorem al_first (w : World) (o : Obj) : (w.alloc o).heap.size = w.heap.size + 1 ∧ Below w.heap.size w (w.alloc o) := ⟨by simp, (Below.refl _ _).alloc (Nat.le_refl _) _⟩
theorem al_next {w W : World} {n : Nat} (h : W.heap.size = w.heap.size + n ∧ Below w.heap.size w W) (o : Obj) : (W.alloc o).heap.size = w.heap.size + (n + 1) ∧ Below w.heap.size w (W.alloc o) := ⟨by simp; omega, h.2.alloc (by omega) _⟩
theorem al_row {w W : World} {n : Nat} (h : W.heap.size = w.heap.size + n ∧ Below w.heap.size w W) (a : Array Value) (T : TypeId) : (W.alloc (.cells a T)).heap[w.heap.size + n]? = some (.cells a T (0, 0)) := by
 rw [← h.1]
 exact heap_alloc_new _ _
open Go.RowKit Go.Deep
abbrev valV (x : Int) (y : Nd) (h : Hd) : Value := .agg #[.int .i64 x, .int .i64 y.kind, .string y.data, .slice h.A y.ptrs.length h.a, .int .i64 y.size, .int .i64 y.count, .slice h.B y.items.length h.b]
def NewVal (m : Nat) (x : Int) (y : Nd) (b : Bool) (w : World) (e : Ending) (w' : World) : Prop := ∃ (h : Hd) (bs : List Nat), e = .returned (.tuple #[.agg #[.int .i64 x, .int .i64 y.kind, .string y.data, .slice h.A y.ptrs.length h.a, .int .i64 y.size, .int .i64 y.count, .slice h.B y.items.length h.b], .bool b]) ∧ OwN w' m y h bs ∧ bs.Nodup ∧ (∀ b ∈ bs, w.heap.size ≤ b) ∧ Below w.heap.size w w'
theorem NewVal.none {m : Nat} {x : Int} {y : Nd} {b : Bool} {w w' : World} (hy : y = noneNd) (hb : Below w.heap.size w w') : NewVal m x y b w (.returned (.tuple #[.agg #[.int .i64 x, .int .i64 0, .string { data := #[] }, .slice none 0 0, .int .i64 0, .int .i64 0, .slice none 0 0], .bool b])) w' := by
 subst hy
 exact ⟨⟨.none, 0, .none, 0⟩, [], rfl, OwN.none w' m, List.nodup_nil, fun b hb => (by cases hb), hb⟩
theorem cellsV {w : World} {g : Nat} {v0 v1 v2 v3 v4 v5 v6 : Value} {T : TypeId} (h : w.heap[g]? = some (.cells #[v0, v1, v2, v3, v4, v5, v6] T (0, 0))) :
 w.cell? ⟨g, 0, none⟩ = some v0 ∧ w.cell? ⟨g, 1, none⟩ = some v1 ∧ w.cell? ⟨g, 2, none⟩ = some v2 ∧ w.cell? ⟨g, 3, none⟩ = some v3 ∧ w.cell? ⟨g, 4, none⟩ = some v4 ∧ w.cell? ⟨g, 5, none⟩ = some v5 ∧ w.cell? ⟨g, 6, none⟩ = some v6 := by
 refine ⟨?_, ?_, ?_, ?_, ?_, ?_, ?_⟩ <;> (rw [cell_of_row _ _ _ _ _ _ h]; rfl)
theorem finV {w W : World} {g R : Nat} {T : TypeId} {u0 u1 u2 u3 u4 u5 u6 : Value} (v0 v1 v2 v3 v4 v5 v6 : Value) (hz : W.heap[g]? = some (.cells #[u0, u1, u2, u3, u4, u5, u6] T (0, 0))) (hb : Below R w W) (hR : R ≤ g) :
 ∃ wf, (((((((W.setCell ⟨g, 0, none⟩ v0).setCell ⟨g, 1, none⟩ v1).setCell ⟨g, 2, none⟩ v2).setCell ⟨g, 3, none⟩ v3).setCell ⟨g, 4, none⟩ v4).setCell ⟨g, 5, none⟩ v5).setCell ⟨g, 6, none⟩ v6) = wf ∧ wf.heap[g]? = some (.cells #[v0, v1, v2, v3, v4, v5, v6] T (0, 0)) ∧ Below R w wf ∧ ∀ k, k ≠ g → wf.heap[k]? = W.heap[k]? := by
 have hk : ∀ (V : World) (i : Nat) (v : Value), Below R w V → Below R w (V.setCell ⟨g, i, none⟩ v) := fun V i v hV => hV.setCell (p := ⟨g, i, none⟩) hR v
 have hn : ∀ (V : World) (i : Nat) (v : Value) {k : Nat}, k ≠ g → (V.setCell ⟨g, i, none⟩ v).heap[k]? = V.heap[k]? := fun V i v k h => Below.heap_setCell V ⟨g, i, none⟩ v k h
 refine ⟨_, rfl, ?_, ?_, fun k h => ?_⟩
 · exact row_setN (row_setN (row_setN (row_setN (row_setN (row_setN (row_setN hz 0 v0) 1 v1) 2 v2) 3 v3) 4 v4) 5 v5) 6 v6
 · exact hk _ _ _ (hk _ _ _ (hk _ _ _ (hk _ _ _ (hk _ _ _ (hk _ _ _ (hk _ _ _ hb))))))
 · rw [hn _ _ _ h, hn _ _ _ h, hn _ _ _ h, hn _ _ _ h, hn _ _ _ h, hn _ _ _ h, hn _ _ _ h]
end Go.Proofs.YtehhbbdaeonebaaGreatDoor
namespace Go.Proofs.YtehhbbdaeonebaaGreatDoor
open Go.RowKit
mutual
def sizN : Nd → Nat
 | .mk _ d p _ _ i => d.size + sizL p + sizL i
def sizL : List Nd → Nat
 | [] => 0
 | n :: t => 1 + sizN n + sizL t
end
theorem sizL_map : ∀ l : List Nd, sizL l = (l.map fun n => 1 + sizN n).sum
 | [] => by rw [sizL]; rfl
 | n :: t => by rw [sizL, sizL_map t]; simp
theorem sizN_eq (n : Nd) : sizN n = n.data.size + sizL n.ptrs + sizL n.items := by
 cases n with
 | mk k d p s c i => rw [sizN]; rfl
theorem sizL_nil : sizL [] = 0 := by rw [sizL]
theorem totL_siz {w : World} {S : Nat → Prop} : ∀ (m : Nat) (A : Option Addr) (l : List Nd), NdsAt w S m A l → totL m l = sizL l
 | 0, A, l, h => by rw [h.zero, sizL_nil]; rfl
 | m + 1, A, l, h => by
   rw [totL_succ, sizL_map]
   congr 1
   apply List.map_congr_left
   intro n hn
   obtain ⟨hd, h1⟩ := h.mem n hn
   unfold totN
   rw [sizN_eq, totL_siz m _ _ h1.2.1, totL_siz m _ _ h1.2.2]
theorem totN_siz {w : World} {S : Nat → Prop} {m : Nat} {n : Nd} {h : Hd} (hn : NdAt w S m n h) : totN m n = sizN n := by
 unfold totN
 rw [sizN_eq, totL_siz m _ _ hn.2.1, totL_siz m _ _ hn.2.2]
theorem sizL_app (a b : List Nd) : sizL (a ++ b) = sizL a + sizL b := by rw [sizL_map, sizL_map, sizL_map, List.map_append, List.sum_append]
theorem sizL_take (l : List Nd) (k : Nat) : sizL (l.take k) ≤ sizL l := by
 conv => rhs; rw [← List.take_append_drop k l]
 rw [sizL_app]; omega
def cellE (r : Nd × Hd) : Nat → Value
 | 0 => .int .i64 r.1.kind
 | 1 => .string r.1.data
 | 2 => .slice r.2.A r.1.ptrs.length r.2.a
 | 3 => .int .i64 r.1.size
 | 4 => .int .i64 r.1.count
 | _ => .slice r.2.B r.1.items.length r.2.b
theorem rowOf_get : ∀ (q : List (Nd × Hd)) (j : Nat), (rowOf q)[j]? = (q[j / 6]?).map fun r => cellE r (j % 6)
 | [], j => by simp [rowOf]
 | r :: t, 0 => rfl
 | r :: t, 1 => rfl
 | r :: t, 2 => rfl
 | r :: t, 3 => rfl
 | r :: t, 4 => rfl
 | r :: t, 5 => rfl
 | r :: t, j + 1 + 1 + 1 + 1 + 1 + 1 => by
   show (rowOf t)[j]? = _
   rw [rowOf_get t j, show (j + 1 + 1 + 1 + 1 + 1 + 1) / 6 = j / 6 + 1 by omega, show (j + 1 + 1 + 1 + 1 + 1 + 1) % 6 = j % 6 by omega, List.getElem?_cons_succ]
theorem row_upd {cur : Array Value} {c e : Nat} {pre post : List (Nd × Hd)} {r r' : Nd × Hd} (hs : cur.size = c * 6) (hle : (pre ++ r :: post).length ≤ c) (hc : cur.toList.take ((pre ++ r :: post).length * 6) = rowOf (pre ++ r :: post)) (he : e < 6) (hr : ∀ f, f < 6 → f ≠ e → cellE r' f = cellE r f) :
 (cur.setIfInBounds (pre.length * 6 + e) (cellE r' e)).toList.take ((pre ++ r' :: post).length * 6) = rowOf (pre ++ r' :: post) := by
 have hl : (pre ++ r' :: post).length = (pre ++ r :: post).length := by simp
 rw [hl]
 have hpl : pre.length < (pre ++ r :: post).length := by simp
 apply List.ext_getElem?
 intro j
 have h0 : (cur.toList.take ((pre ++ r :: post).length * 6))[j]? = ((pre ++ r :: post)[j / 6]?).map fun r => cellE r (j % 6) := by rw [hc, rowOf_get]
 rw [rowOf_get]
 by_cases hj : j < (pre ++ r :: post).length * 6
 · rw [List.getElem?_take_of_lt hj] at h0 ⊢
   rw [Array.getElem?_toList] at h0 ⊢
   rw [Array.getElem?_setIfInBounds]
   have hset : (pre ++ r' :: post)[j / 6]? = if j / 6 = pre.length then some r' else (pre ++ r :: post)[j / 6]? := by
    by_cases h : j / 6 = pre.length
    · rw [if_pos h, h, List.getElem?_append_right (Nat.le_refl _), Nat.sub_self]; rfl
    · rw [if_neg h]
      rcases Nat.lt_or_ge (j / 6) pre.length with h2 | h2
      · rw [List.getElem?_append_left h2, List.getElem?_append_left h2]
      · rw [List.getElem?_append_right h2, List.getElem?_append_right h2]
        obtain ⟨x, hx⟩ : ∃ x, j / 6 - pre.length = x + 1 := ⟨j / 6 - pre.length - 1, by omega⟩
        rw [hx, List.getElem?_cons_succ, List.getElem?_cons_succ]
   rw [hset]
   have hat : (pre ++ r :: post)[pre.length]? = some r := by rw [List.getElem?_append_right (Nat.le_refl _), Nat.sub_self]; rfl
   by_cases h1 : pre.length * 6 + e = j
   · rw [if_pos h1, if_pos (by omega), if_pos (by omega)]
     show some (cellE r' e) = some (cellE r' (j % 6))
     rw [show j % 6 = e by omega]
   · rw [if_neg h1]
     by_cases h2 : j / 6 = pre.length
     · rw [if_pos h2]
       rw [h2, hat] at h0
       rw [h0]
       show some (cellE r (j % 6)) = some (cellE r' (j % 6))
       rw [hr (j % 6) (by omega) (by omega)]
     · rw [if_neg h2, h0]
 · rw [List.getElem?_eq_none (by rw [List.length_take]; omega)]
   rw [List.getElem?_eq_none (by rw [hl]; omega)]; rfl
def RowG (w : World) (g c : Nat) (q : List NB) (M : Nat) : Prop :=
 ∃ cur : Array Value, w.heap[g]? = some (.cells cur nodeT (0, 0)) ∧ cur.size = c * 6 ∧ q.length ≤ c ∧ c ≤ maxLen ∧ cur.toList.take (q.length * 6) = rowB q ∧ (∀ r ∈ q, OwN w M r.1 r.2.1 r.2.2) ∧ (blkB q).Nodup ∧ g ∉ blkB q
theorem rowB_app (a b : List NB) : rowB (a ++ b) = rowB a ++ rowB b := by unfold rowB; rw [List.map_append, rowOf_app]
theorem blkB_app (a b : List NB) : blkB (a ++ b) = blkB a ++ blkB b := by unfold blkB; rw [List.flatMap_append]
theorem blkB_cons (r : NB) (b : List NB) : blkB (r :: b) = r.2.2 ++ blkB b := by unfold blkB; rw [List.flatMap_cons]
theorem OwS.rowG {w : World} {M g c : Nat} {l : List Nd} {bs : List Nat} (h : OwS w (M + 1) (some ⟨g, 0, none⟩) c l bs) (hnd : bs.Nodup) : ∃ q : List NB, q.map (·.1) = l ∧ bs = g :: blkB q ∧ RowG w g c q M := by
 obtain ⟨q, hq, ho, hb, hr⟩ := h
 rcases own_blk ho with ⟨h1, _⟩ | ⟨g', cur, hg, h1, h2, h3, h4, h5, h6, h7⟩
 · cases h1
 · injection hg with hg
   injection hg with hg
   subst hg
   have hb' : bs = g :: blkB q := hb
   rw [hb'] at hnd
   have := List.nodup_cons.1 hnd
   exact ⟨q, hq, hb', cur, h3, h6, h4, h5, h7, hr, this.2, this.1⟩
theorem RowG.own {w : World} {M g c : Nat} {q : List NB} (h : RowG w g c q M) : OwS w (M + 1) (some ⟨g, 0, none⟩) c (q.map (·.1)) (g :: blkB q) ∧ (g :: blkB q).Nodup := by
 obtain ⟨cur, h1, h2, h3, h4, h5, h6, h7, h8⟩ := h
 exact ⟨⟨q, rfl, ⟨by rw [← h5, List.length_take]; simp; omega, .inr ⟨g, c, cur, rfl, Nat.zero_le _, h1, h3, h4, h2, h5⟩⟩, rfl, h6⟩, List.nodup_cons.2 ⟨h8, h7⟩⟩
theorem RowG.set {w : World} {M g c : Nat} {pre post : List NB} {r : NB} {n' : Nd} (e : Nat) (v : Value) (h : RowG w g c (pre ++ r :: post) M) (he : e < 6) (hv : v = cellE (n', r.2.1) e) (hr : ∀ f, f < 6 → f ≠ e → cellE (n', r.2.1) f = cellE (r.1, r.2.1) f)
 (hp : n'.ptrs = r.1.ptrs) (hi : n'.items = r.1.items) (hd : n'.data.size ≤ maxLen) : RowG (w.setCell ⟨g, pre.length * 6 + e, none⟩ v) g c (pre ++ (n', r.2) :: post) M := by
 subst hv
 obtain ⟨cur, h1, h2, h3, h4, h5, h6, h7, h8⟩ := h
 have hlen : (pre ++ (n', r.2) :: post).length = (pre ++ r :: post).length := by simp
 have hblk : blkB (pre ++ (n', r.2) :: post) = blkB (pre ++ r :: post) := by rw [blkB_app, blkB_app, blkB_cons, blkB_cons]
 have hother : ∀ b, b ≠ g → (w.setCell ⟨g, pre.length * 6 + e, none⟩ (cellE (n', r.2.1) e)).heap[b]? = w.heap[b]? := fun b hb => Below.heap_setCell w ⟨g, pre.length * 6 + e, none⟩ _ b hb
 have hfr : ∀ x ∈ pre ++ r :: post, ∀ b ∈ x.2.2, b ≠ g := fun x hx b hb e => h8 (by rw [← e]; exact List.mem_flatMap.2 ⟨x, hx, hb⟩)
 refine ⟨_, row_setN h1 _ _, by simpa using h2, by rw [hlen]; exact h3, h4, ?_, fun x hx => ?_, by rw [hblk]; exact h7, by rw [hblk]; exact h8⟩
 · have h5' : cur.toList.take ((pre.map (fun r => (r.1, r.2.1)) ++ (r.1, r.2.1) :: post.map (fun r => (r.1, r.2.1))).length * 6) = rowOf (pre.map (fun r => (r.1, r.2.1)) ++ (r.1, r.2.1) :: post.map (fun r => (r.1, r.2.1))) := by
    have := h5
    unfold rowB at this
    rw [List.map_append, List.map_cons] at this
    simpa using this
   have := row_upd (r' := (n', r.2.1)) h2 (by simpa using h3) h5' he hr
   unfold rowB
   rw [List.map_append, List.map_cons]
   simpa using this
 · have hold : ∀ x ∈ pre ++ r :: post, OwN (w.setCell ⟨g, pre.length * 6 + e, none⟩ (cellE (n', r.2.1) e)) M x.1 x.2.1 x.2.2 := fun x hx => (h6 x hx).frame (fun b hb => hother b (hfr x hx b hb))
   rcases List.mem_append.1 hx with hx | hx
   · exact hold x (List.mem_append_left _ hx)
   · rcases List.mem_cons.1 hx with rfl | hx
     · obtain ⟨_, b1, b2, e1, e2, e3⟩ := hold r (List.mem_append_right _ List.mem_cons_self)
       refine ⟨hd, b1, b2, e1, ?_, ?_⟩
       · show OwS _ M r.2.1.A r.2.1.a n'.ptrs b1
         rw [hp]; exact e2
       · show OwS _ M r.2.1.B r.2.1.b n'.items b2
         rw [hi]; exact e3
     · exact hold x (List.mem_append_right _ (List.mem_cons_of_mem _ hx))
theorem RowG.frame {w w' : World} {M g c : Nat} {q : List NB} (h : RowG w g c q M) (hf : ∀ b, b = g ∨ b ∈ blkB q → w'.heap[b]? = w.heap[b]?) : RowG w' g c q M := by
 obtain ⟨cur, h1, h2, h3, h4, h5, h6, h7, h8⟩ := h
 exact ⟨cur, (hf g (.inl rfl)).trans h1, h2, h3, h4, h5, fun r hr => (h6 r hr).frame (fun b hb => hf b (.inr (List.mem_flatMap.2 ⟨r, hr, hb⟩))), h7, h8⟩
theorem RowG.lt {w : World} {M g c : Nat} {q : List NB} (h : RowG w g c q M) : g < w.heap.size ∧ ∀ b ∈ blkB q, b < w.heap.size := by
 obtain ⟨cur, h1, h2, h3, h4, h5, h6, h7, h8⟩ := h
 refine ⟨row_lt h1, fun b hb => ?_⟩
 obtain ⟨r, hr, hbr⟩ := List.mem_flatMap.1 hb
 exact ((h6 r hr).lt b hbr).1
theorem RowG.below {w w' : World} {M g c : Nat} {q : List NB} (h : RowG w g c q M) (hb : Below w.heap.size w w') : RowG w' g c q M :=
 h.frame (fun b hm => hb.block b (by rcases hm with rfl | hm; exact h.lt.1; exact h.lt.2 b hm))
structure OnlyIn (bs : List Nat) (w w' : World) : Prop where
 os : w'.os = w.os
 tape : w'.tape = w.tape
 output : w'.output = w.output
 size : w.heap.size ≤ w'.heap.size
 block : ∀ k, k < w.heap.size → k ∉ bs → w'.heap[k]? = w.heap[k]?
theorem OnlyIn.refl (bs : List Nat) (w : World) : OnlyIn bs w w := ⟨rfl, rfl, rfl, Nat.le_refl _, fun _ _ _ => rfl⟩
theorem OnlyIn.trans {bs : List Nat} {a b c : World} (h : OnlyIn bs a b) (k : OnlyIn bs b c) : OnlyIn bs a c :=
 ⟨k.os.trans h.os, k.tape.trans h.tape, k.output.trans h.output, Nat.le_trans h.size k.size, fun x hx hn => (k.block x (Nat.lt_of_lt_of_le hx h.size) hn).trans (h.block x hx hn)⟩
theorem OnlyIn.of_below {bs : List Nat} {w w' : World} (h : Below w.heap.size w w') : OnlyIn bs w w' := ⟨h.os, h.tape, h.output, h.size, fun k hk _ => h.block k hk⟩
theorem OnlyIn.setCell {bs : List Nat} {w : World} {p : Addr} (hp : p.block ∈ bs) (v : Value) : OnlyIn bs w (w.setCell p v) := ⟨rfl, rfl, rfl, by simp [World.setCell], fun k _ hn => Below.heap_setCell w p v k (fun e => hn (e ▸ hp))⟩
theorem OnlyIn.mono {bs bs' : List Nat} {w w' : World} (h : OnlyIn bs w w') (hs : ∀ b ∈ bs, b ∈ bs' ∨ w.heap.size ≤ b) : OnlyIn bs' w w' := ⟨h.os, h.tape, h.output, h.size, fun k hk hn => h.block k hk (fun hm => by rcases hs k hm with h | h; exact hn h; omega)⟩
theorem OnlyIn.below {bs : List Nat} {B : Nat} {w w' : World} (h : OnlyIn bs w w') (hB : B ≤ w.heap.size) (hs : ∀ b ∈ bs, B ≤ b) : Below B w w' := ⟨h.os, h.tape, h.output, h.size, fun k hk => h.block k (by omega) (fun hm => by have := hs k hm; omega)⟩
open Go.RowKit Go.Deep
theorem wpList_append_ndB {ops : Array Oper} {rest : List Oper} {o : Oper} {a : Act} {w : World} {Q : Exit → Act → World → Prop} (hgd : o.guard = none) (s x : Operand)
 (ho : o.op = .call { callee := .builtin .append, args := #[s, x], argTypes := #[nodesT, nodesT] })
 (base : Nat) (v : Value) (n : Nat) (xs : List Value) (hs : a.eval s = v) (hown : w.ownsRow base nodeT 6 v n xs)
 (ad : Addr) (c : Nat) (r : Nd × Hd) (hx : a.eval x = .slice (some ad) 1 c) (hnews : ∀ j u, (rowOf [r])[j]? = some u → w.cell? (ad.add j) = some u) (hn : n ≤ 3000000) (hbase : base ≤ w.heap.size)
 (h : ∀ A' c' w', Hid (w'.ownsRow base nodeT 6 (.slice A' (n + 1) c') (n + 1) (xs ++ rowOf [r])) → Hid (w.grownBy w' v.ownBlock) → Hid ((Value.slice A' (n + 1) c').ownBlock = v.ownBlock ∨ (Value.slice A' (n + 1) c').ownBlock = some w.heap.size) → wpList Tryz.prog ops Q rest (a.put o.dst (.slice A' (n + 1) c')) w') :
 wpList Tryz.prog ops Q (o :: rest) a w :=
 wpList_plain hgd fun K hK => by
  obtain ⟨i0, hi, hz0, hz1, hz2⟩ := info_parts infoNd
  obtain ⟨v', w', hr, h2, h3, _, h5⟩ := run_append_own_at (P := Tryz.prog) w base nodesT o.type nodeT i0 _ 6 88 Tryz.underlying28 hi hz0 hz1 hz2 rfl (by decide) v n xs hown ad 1 c (rowOf [r]) rfl hnews (rowOf_one _) (by unfold maxLen; omega) (by omega) hbase
  obtain ⟨A', c', rfl⟩ := own_sliceN h2
  unfold Oper.wp execOp
  simp only [ho, resolve, invoke, builtin, Sem.run_bind, Sem.run_pure, Result.andThen_ok, List.map_toArray, List.map_cons, List.map_nil, hs, hx, hr]
  exact hK _ _ (h A' c' w' h2 h3 h5)
theorem sizL_len : ∀ l : List Nd, l.length ≤ sizL l
 | [] => by simp
 | n :: t => by rw [sizL, List.length_cons]; have := sizL_len t; omega
theorem sizL_at {l : List Nd} {k : Nat} (h : k < l.length) : sizN l[k] ≤ sizL l := by
 have h1 : sizL (l.take (k + 1)) ≤ sizL l := sizL_take l _
 rw [List.take_succ_eq_append_getElem h, sizL_app, sizL, sizL_nil] at h1
 omega
end Go.Proofs.YtehhbbdaeonebaaGreatDoor
namespace Go.Proofs.YtehhbbdaeonebaaGreatDoor
open Go.RowKit Go.Shelf
attribute [local go_sem] Oper.semAt_some
abbrev W8 := { l : List UInt8 // l.length = 8 }
end Go.Proofs.YtehhbbdaeonebaaGreatDoor
namespace Go.Proofs.YtehhbbdaeonebaaGreatDoor
open Go.RowKit
theorem l1Get_any (s : ByteArray) (at_ size : Int) (w : World) (hs : s.size ≤ maxLen) (h0 : 0 ≤ at_) (ha : at_ ≤ 1152921504606846976) (h1 : 0 ≤ size) (h2 : size ≤ 8) :
 Calls Tryz.prog 60 #[.string s, .int .i64 at_, .int .i64 size] w fun e w' => e = .returned (.int .i64 (wrap64 (leN s.data.toList at_.toNat size.toNat : Nat))) ∧ w = w' := by
 unfold maxLen at hs
 obtain ⟨a, rfl⟩ := Int.eq_ofNat_of_zero_le h0
 obtain ⟨z, rfl⟩ := Int.eq_ofNat_of_zero_le h1
 go_enter Tryz.func60, Tryz.ntmps60
 go_wp2
 go_loop [7, 8, 9] (fun n i _ => ∃ k : Nat, k ≤ z ∧ i = .int .i64 ((z : Int) - 1 - k) ∧ n = .int .i64 (wrap64 (leN s.data.toList (a + z - k) k : Nat))) (fun _ i _ => (intOf i + 1).toNat)
 case atStart => exact ⟨0, by omega, by simp, by simp [leN, wrap64]⟩
 case round =>
  obtain ⟨k, hk, rfl, rfl⟩ := hrel
  by_cases hlt : k < z
  · by_cases hin : a + z - 1 - k < s.size
    · go_wp2
      go_round
      case rel => exact ⟨k + 1, by omega, by go_num, by rw [get_round s a z k hlt (by omega) (by omega)]⟩
      case measure => simp [intOf]; omega
    · go_wp2
      go_round
      case rel => exact ⟨k + 1, by omega, by go_num, by rw [get_round_out s a z k hlt (by omega) hin]⟩
      case measure => simp [intOf]; omega
  · go_wp2
    go_ret
    refine ⟨ret_int ?_, rfl⟩
    obtain rfl : k = z := by omega
    simp
theorem l1Ok_any (s : ByteArray) (w : World) (hs : s.size ≤ maxLen) :
 Calls Tryz.prog 81 #[.string s] w fun e w' => e = .returned (.bool (wordsB s.size)) ∧ w = w' := by
 unfold maxLen at hs
 by_cases h1 : s.size % 8 = 0
 all_goals
  go_enter Tryz.func81, Tryz.ntmps81
  go_wp2
  go_ret
  refine ⟨ret_bool ?_, rfl⟩
  simp [wordsB, h1]
 omega
open Go.RowKit Go.Shelf
attribute [local go_sem] Oper.semAt_some
end Go.Proofs.YtehhbbdaeonebaaGreatDoor
namespace Go.Proofs.YtehhbbdaeonebaaGreatDoor
open Go.RowKit
open Go.RowKit Go.Deep
theorem own_cap {w : World} {m c : Nat} {A : Option Addr} {l : List Nd} {bs : List Nat} (h : OwS w m A c l bs) : (A = none ∧ l = [] ∧ c = 0) ∨ (∃ g, A = some ⟨g, 0, none⟩) ∧ l.length ≤ c := by
 cases m with
 | zero =>
  obtain ⟨hl, ho, _⟩ := h
  rcases own_blk ho with ⟨h1, _, h3, _⟩ | ⟨g, _, h1, _⟩
  · exact .inl ⟨h1, hl, h3⟩
  · exact .inr ⟨⟨g, h1⟩, by rw [hl]; exact Nat.zero_le _⟩
 | succ m =>
  obtain ⟨q, hq, ho, _⟩ := h
  rcases own_blk ho with ⟨h1, h2, h3, _⟩ | ⟨g, cur, h1, _, _, _, h5, _⟩
  · exact .inl ⟨h1, by rw [← hq, List.eq_nil_of_length_eq_zero h2]; rfl, h3⟩
  · exact .inr ⟨⟨g, h1⟩, by rw [← hq, List.length_map]; exact h5⟩
theorem RowG.cells {w : World} {M g c : Nat} {pre post : List NB} {r : NB} (h : RowG w g c (pre ++ r :: post) M) : w.cell? ⟨g, pre.length * 6, none⟩ = some (.int .i64 r.1.kind) ∧ w.cell? ⟨g, pre.length * 6 + 1, none⟩ = some (.string r.1.data) ∧ w.cell? ⟨g, pre.length * 6 + 2, none⟩ = some (.slice r.2.1.A r.1.ptrs.length r.2.1.a) ∧ w.cell? ⟨g, pre.length * 6 + 3, none⟩ = some (.int .i64 r.1.size) ∧ w.cell? ⟨g, pre.length * 6 + 4, none⟩ = some (.int .i64 r.1.count) ∧ w.cell? ⟨g, pre.length * 6 + 5, none⟩ = some (.slice r.2.1.B r.1.items.length r.2.1.b) ∧ ∀ i, w.frozen? ⟨g, i, none⟩ = false := by
 obtain ⟨cur, h1, h2, h3, h4, h5, h6, h7, h8⟩ := h
 have hl : pre.length < (pre ++ r :: post).length := by simp
 have key : ∀ e, e < 6 → w.cell? ⟨g, pre.length * 6 + e, none⟩ = some (cellE (r.1, r.2.1) e) := by
  intro e he
  rw [cell_of_row _ _ _ _ _ _ h1]
  have h9 : (cur.toList.take ((pre ++ r :: post).length * 6))[pre.length * 6 + e]? = some (cellE (r.1, r.2.1) e) := by
   rw [h5]
   unfold rowB
   rw [rowOf_get, List.getElem?_map, show (pre.length * 6 + e) / 6 = pre.length by omega, show (pre.length * 6 + e) % 6 = e by omega, List.getElem?_append_right (Nat.le_refl _), Nat.sub_self]
   rfl
  rw [List.getElem?_take_of_lt (by omega)] at h9
  simpa using h9
 exact ⟨key 0 (by decide), key 1 (by decide), key 2 (by decide), key 3 (by decide), key 4 (by decide), key 5 (by decide), row_free h1⟩
end Go.Proofs.YtehhbbdaeonebaaGreatDoor
namespace Go.Proofs.YtehhbbdaeonebaaGreatDoor
open Go.RowKit
def digsL (k : Nat) : List UInt8 := if h : k = 0 then [] else digsL (k / 10) ++ [UInt8.ofNat (48 + k % 10)]
termination_by k
decreasing_by omega
theorem digsL_0 : digsL 0 = [] := by rw [digsL]; rfl
theorem digsL_step (k : Nat) (h : k ≠ 0) : digsL k = digsL (k / 10) ++ [UInt8.ofNat (48 + k % 10)] := by rw [digsL, dif_neg h]
theorem digsL_len : ∀ k : Nat, (digsL k).length ≤ k := by
 intro k
 induction k using Nat.strongRecOn with
 | _ k ih =>
  by_cases h : k = 0
  · subst h; rw [digsL_0]; simp
  · rw [digsL_step k h, List.length_append, List.length_singleton]
    have := ih (k / 10) (by omega)
    omega
def markB (k : Nat) : ByteArray := ⟨(109 :: digsL k).toArray⟩
theorem markB_size (k : Nat) : (markB k).size ≤ k + 1 := by
 show (109 :: digsL k).length ≤ k + 1
 rw [List.length_cons]
 have := digsL_len k
 omega
theorem cat_one (b : UInt8) (u : ByteArray) : ((⟨#[b]⟩ : ByteArray) ++ u).data.toList = b :: u.data.toList := by simp
theorem markText_any (k : Nat) (w : World) (h1 : 1 ≤ k) (h2 : k ≤ 2147483647) :
 Calls Tryz.prog 57 #[.int .i64 k] w fun e w' => e = .returned (.string (markB k)) ∧ Below w.heap.size w w' := by
 have hl := digsL_len k
 go_enter Tryz.func57, Tryz.ntmps57
 go_wp2_with fail
 go_loopw [0, 3] (fun m o wr => ∃ (j : Nat) (u : ByteArray), j ≤ k ∧ m = .int .i64 j ∧ o = .string u ∧ Hid (digsL j ++ u.data.toList = digsL k) ∧ Hid (Below w.heap.size w wr)) (fun m _ _ => (intOf m).toNat)
 case atStart => exact ⟨k, ByteArray.empty, by omega, rfl, rfl, by simp [Hid], Below.refl _ _⟩
 case round =>
  obtain ⟨j, u, hj, rfl, rfl, HU, HB⟩ := hrel
  by_cases hj0 : j = 0
  · subst hj0
    have hu : u.data.toList = digsL k := by have := HU.out; rwa [digsL_0, List.nil_append] at this
    have hcat : (⟨#[109]⟩ : ByteArray) ++ u = markB k := by apply ext_ba; rw [cat_one, hu]; rfl
    have hus : u.size ≤ k := by
     have e : u.data.toList.length = u.size := rfl
     rw [hu] at e; omega
    have HC := Lib.hid hcat
    clear hu hcat
    have f1 : ¬ 9223372036854775807 < 1 + u.size := by omega
    go_wp2
    go_ret
    exact ⟨congrArg (fun x => Ending.returned (Value.string x)) HC.out, HB.out⟩
  · have hj1 : (0 : Int) < (j : Int) := by omega
    have hus : u.size ≤ k := by
     have e : u.data.toList.length = u.size := rfl
     have h3 := congrArg List.length HU.out
     rw [List.length_append] at h3; omega
    have hd : digsL (j / 10) ++ (UInt8.ofNat (48 + j % 10) :: u.data.toList) = digsL k := by
     rw [← HU.out, digsL_step j hj0, List.append_assoc]; rfl
    have HD := Lib.hid hd
    have hbv : (48 : Int) + (j : Int) % 10 = ((UInt8.ofNat (48 + j % 10)).toNat : Int) := by rw [UInt8.toNat_ofNat']; omega
    have hrow := heap_alloc_new wr (.cells #[.int .u8 (48 + (j : Int) % 10)] 5)
    have hcv : (convert 123 9 (.slice (some ⟨wr.heap.size, 0, none⟩) 1 1)).run Tryz.prog (wr.alloc (.cells #[.int .u8 (48 + (j : Int) % 10)] 5)) = .ok (.string ⟨#[UInt8.ofNat (48 + j % 10)]⟩) (wr.alloc (.cells #[.int .u8 (48 + (j : Int) % 10)] 5)) := by
     exact convert_wd _ _ _ _ _ _ 1 [UInt8.ofNat (48 + j % 10)] rfl Tryz.underlying123 Tryz.underlying5 Tryz.underlying9 hrow (by rw [hbv]; rfl)
    have HB2 := Lib.hid (HB.out.alloc HB.out.size (.cells #[.int .u8 (48 + (j : Int) % 10)] 5))
    have f1 : ¬ 9223372036854775807 < 1 + u.size := by omega
    have hw8 : IntKind.u8.wrap (48 + (j : Int) % 10) = 48 + (j : Int) % 10 := by rw [IntKind.wrap_u8]; omega
    generalize hb : UInt8.ofNat (48 + j % 10) = b at HD hcv
    clear hrow hbv hd hb
    have hq : ((j : Int) / 10) = ((j / 10 : Nat) : Int) := by omega
    have HQ := Lib.hid hq
    clear hq
    go_wp2
    go_roundw
    case rel => exact ⟨j / 10, _, by omega, by rw [HQ.out], rfl, by rw [cat_one]; exact HD, HB2⟩
    case measure => simp [intOf]; omega
def HelS : Nat → List Nd → Nat → Nat → Prop
 | 0, l, q, q' => l = [] ∧ q' = q
 | _ + 1, [], q, q' => q' = q
 | m + 1, y :: t, q, q' => ∃ q1 q2, y.kind = (q : Int) ∧ y.data = markB (q + 1) ∧ HelS m y.ptrs (q + 2) q1 ∧ y.size = (q1 : Int) ∧ y.count = ((q1 + 1 : Nat) : Int) ∧ HelS m y.items (q1 + 2) q2 ∧ HelS (m + 1) t q2 q'
termination_by m l => (m, l.length)
def HelN (m : Nat) (y : Nd) (q q2 : Nat) : Prop := ∃ q1, y.kind = (q : Int) ∧ y.data = markB (q + 1) ∧ HelS m y.ptrs (q + 2) q1 ∧ y.size = (q1 : Int) ∧ y.count = ((q1 + 1 : Nat) : Int) ∧ HelS m y.items (q1 + 2) q2
theorem helS_nil (m q q' : Nat) : HelS m [] q q' ↔ q' = q := by
 cases m with
 | zero => rw [HelS]; simp
 | succ m => rw [HelS]
theorem helS_cons (m : Nat) (y : Nd) (t : List Nd) (q q' : Nat) : HelS (m + 1) (y :: t) q q' ↔ ∃ q2, HelN m y q q2 ∧ HelS (m + 1) t q2 q' := by
 rw [HelS]
 constructor
 · rintro ⟨q1, q2, a, b, c, d, e, f, g⟩
   exact ⟨q2, ⟨q1, a, b, c, d, e, f⟩, g⟩
 · rintro ⟨q2, ⟨q1, a, b, c, d, e, f⟩, g⟩
   exact ⟨q1, q2, a, b, c, d, e, f, g⟩
theorem helS_app (m : Nat) : ∀ (l t : List Nd) (q q' : Nat), HelS (m + 1) (l ++ t) q q' ↔ ∃ q1, HelS (m + 1) l q q1 ∧ HelS (m + 1) t q1 q'
 | [], t, q, q' => by
   constructor
   · intro h
     exact ⟨q, (helS_nil _ _ _).2 rfl, h⟩
   · rintro ⟨q1, h1, h2⟩
     obtain rfl := (helS_nil _ _ _).1 h1
     exact h2
 | y :: l, t, q, q' => by
   rw [List.cons_append, helS_cons]
   constructor
   · rintro ⟨q2, h1, h2⟩
     obtain ⟨q1, h3, h4⟩ := (helS_app m l t q2 q').1 h2
     exact ⟨q1, (helS_cons _ _ _ _ _).2 ⟨q2, h1, h3⟩, h4⟩
   · rintro ⟨q1, h1, h2⟩
     obtain ⟨q2, h3, h4⟩ := (helS_cons _ _ _ _ _).1 h1
     exact ⟨q2, h3, (helS_app m l t q2 q').2 ⟨q1, h4, h2⟩⟩
theorem helS_one (m : Nat) (y : Nd) (q q' : Nat) : HelS (m + 1) [y] q q' ↔ HelN m y q q' := by
 rw [helS_cons]
 constructor
 · rintro ⟨q2, h1, h2⟩
   obtain rfl := (helS_nil _ _ _).1 h2
   exact h1
 · intro h
   exact ⟨q', h, (helS_nil _ _ _).2 rfl⟩
theorem RowG.lists {w : World} {M g c : Nat} {pre post : List NB} {r : NB} (h : RowG w g c (pre ++ r :: post) M) : ∃ b1 b2, r.2.2 = b1 ++ b2 ∧ OwS w M r.2.1.A r.2.1.a r.1.ptrs b1 ∧ OwS w M r.2.1.B r.2.1.b r.1.items b2 ∧ b1.Nodup ∧ b2.Nodup ∧ g ∉ b1 ∧ g ∉ b2 := by
 obtain ⟨cur, h1, h2, h3, h4, h5, h6, h7, h8⟩ := h
 obtain ⟨_, b1, b2, e1, e2, e3⟩ := h6 r (List.mem_append_right _ List.mem_cons_self)
 rw [blkB_app, blkB_cons, e1] at h7 h8
 have n1 := (List.nodup_append.1 (List.nodup_append.1 h7).2.1).1
 have n2 := List.nodup_append.1 n1
 exact ⟨b1, b2, e1, e2, e3, n2.1, n2.2.1, fun hm => h8 (by simp [hm]), fun hm => h8 (by simp [hm])⟩
theorem RowG.relist {w w' : World} {M g c : Nat} {pre post : List NB} {r : NB} {b1 b2 : List Nat} (h : RowG w g c (pre ++ r :: post) M) (hb : r.2.2 = b1 ++ b2) {bw : List Nat} (hw : bw = b1 ∨ bw = b2) (ho : OnlyIn bw w w') {p i : List Nd}
 (hp : OwS w' M r.2.1.A r.2.1.a p b1) (hi : OwS w' M r.2.1.B r.2.1.b i b2) (lp : p.length = r.1.ptrs.length) (li : i.length = r.1.items.length) : RowG w' g c (pre ++ (.mk r.1.kind r.1.data p r.1.size r.1.count i, r.2) :: post) M := by
 obtain ⟨cur, h1, h2, h3, h4, h5, h6, h7, h8⟩ := h
 have hblk : blkB (pre ++ ((.mk r.1.kind r.1.data p r.1.size r.1.count i : Nd), r.2) :: post) = blkB (pre ++ r :: post) := by rw [blkB_app, blkB_app, blkB_cons, blkB_cons]
 have hin : ∀ b ∈ bw, b ∈ r.2.2 := fun b hm => by
  rw [hb]
  rcases hw with e | e
  · exact List.mem_append_left _ (e ▸ hm)
  · exact List.mem_append_right _ (e ▸ hm)
 have hg : g ∉ bw := fun hm => h8 (by rw [blkB_app, blkB_cons]; exact List.mem_append_right _ (List.mem_append_left _ (hin g hm)))
 have hrow : rowB (pre ++ ((.mk r.1.kind r.1.data p r.1.size r.1.count i : Nd), r.2) :: post) = rowB (pre ++ r :: post) := by
  rw [rowB_app, rowB_app]
  congr 1
  show rowOf _ = rowOf _
  rw [List.map_cons, List.map_cons]
  show .int .i64 r.1.kind :: .string r.1.data :: .slice r.2.1.A p.length r.2.1.a :: .int .i64 r.1.size :: .int .i64 r.1.count :: .slice r.2.1.B i.length r.2.1.b :: rowOf _ = .int .i64 r.1.kind :: .string r.1.data :: .slice r.2.1.A r.1.ptrs.length r.2.1.a :: .int .i64 r.1.size :: .int .i64 r.1.count :: .slice r.2.1.B r.1.items.length r.2.1.b :: rowOf _
  rw [lp, li]
 have hkeep : ∀ x, x ∈ pre ∨ x ∈ post → OwN w' M x.1 x.2.1 x.2.2 := fun x hx => by
  have hx' : x ∈ pre ++ r :: post := by
   rcases hx with hx | hx
   · exact List.mem_append_left _ hx
   · exact List.mem_append_right _ (List.mem_cons_of_mem _ hx)
  refine (h6 x hx').frame (fun b hm => ho.block b ((h6 x hx').lt b hm).1 (fun hbw => ?_))
  have hr := hin b hbw
  rw [blkB_app, blkB_cons] at h7
  have q := List.nodup_append.1 h7
  rcases hx with hx | hx
  · exact q.2.2 b (List.mem_flatMap.2 ⟨x, hx, hm⟩) b (List.mem_append_left _ hr) rfl
  · exact (List.nodup_append.1 q.2.1).2.2 b hr b (List.mem_flatMap.2 ⟨x, hx, hm⟩) rfl
 refine ⟨cur, (ho.block g (row_lt h1) hg).trans h1, h2, by simpa using h3, h4, by rw [hrow]; simpa using h5, fun x hx => ?_, by rw [hblk]; exact h7, by rw [hblk]; exact h8⟩
 rcases List.mem_append.1 hx with hx | hx
 · exact hkeep x (.inl hx)
 · rcases List.mem_cons.1 hx with rfl | hx
   · exact ⟨(h6 r (List.mem_append_right _ List.mem_cons_self)).1, b1, b2, hb, hp, hi⟩
   · exact hkeep x (.inr hx)
end Go.Proofs.YtehhbbdaeonebaaGreatDoor
