/- Texts of the proof of the law FnExactCanonPut, side by side: part 9. -/
import Derived.Test.YtbijfkpilncclaaGreatMExactCanonPut00
import Derived.Test.YtbijfkpilncclaaGreatMExactCanonPut01
import Derived.Test.YtbijfkpilncclaaGreatMExactCanonPut02
import Derived.Test.YtbijfkpilncclaaGreatMExactCanonPut03
import Derived.Test.YtbijfkpilncclaaGreatMExactCanonPut04
import Derived.Test.YtbijfkpilncclaaGreatMExactCanonPut05
import Derived.Test.YtbijfkpilncclaaGreatMExactCanonPut06
import Derived.Test.YtbijfkpilncclaaGreatMExactCanonPut07
import Derived.Test.YtbijfkpilncclaaGreatMExactCanonPut08
/- Trees of nodes in memory of one's own, each block once. No Go text. -/
namespace Go.Proofs.YtbijfkpilncclaaGreat
open Go.RowKit
def blk : Option Addr → List Nat
  | none => []
  | some a => [a.block]
abbrev NB := Nd × Hd × List Nat
def rowB (q : List NB) : List Value := rowOf (q.map fun r => (r.1, r.2.1))
def blkB (q : List NB) : List Nat := q.flatMap fun r => r.2.2
/-- a slice of nodes of one's own with all that is within, so many levels down: and the blocks that it takes. -/
def OwS (w : World) : Nat → Option Addr → Nat → List Nd → List Nat → Prop
  | 0, A, c, l, bs => l = [] ∧ w.ownsRow 0 nodeT 6 (.slice A 0 c) 0 [] ∧ bs = blk A
  | m + 1, A, c, l, bs => ∃ q : List NB, q.map (·.1) = l ∧ w.ownsRow 0 nodeT 6 (.slice A q.length c) q.length (rowB q) ∧ bs = blk A ++ blkB q ∧
      ∀ r ∈ q, r.1.data.size ≤ maxLen ∧ ∃ b1 b2, r.2.2 = b1 ++ b2 ∧ OwS w m r.2.1.A r.2.1.a r.1.ptrs b1 ∧ OwS w m r.2.1.B r.2.1.b r.1.items b2
def OwN (w : World) (m : Nat) (n : Nd) (h : Hd) (bs : List Nat) : Prop := n.data.size ≤ maxLen ∧ ∃ b1 b2, bs = b1 ++ b2 ∧ OwS w m h.A h.a n.ptrs b1 ∧ OwS w m h.B h.b n.items b2
theorem own_blk {w : World} {B n k c : Nat} {A : Option Addr} {xs : List Value} (h : w.ownsRow B nodeT 6 (.slice A n c) k xs) : (A = none ∧ n = 0 ∧ c = 0 ∧ k = 0) ∨ ∃ g cur, A = some ⟨g, 0, none⟩ ∧ n = k ∧ B ≤ g ∧ w.heap[g]? = some (.cells cur nodeT (0, 0)) ∧ k ≤ c ∧ c ≤ maxLen ∧ cur.size = c * 6 ∧ cur.toList.take (k * 6) = xs := by
  rcases h.2 with ⟨hv, h0⟩ | ⟨g, cap, cur, hv, h1, h2, h3, h4, h5, h6⟩
  · injection hv with a b c
    exact .inl ⟨a, b, c, h0⟩
  · injection hv with a b c
    subst a b c
    exact .inr ⟨g, cur, rfl, rfl, h1, h2, h3, h4, h5, h6⟩
theorem own_frame {w w' : World} {n k c : Nat} {A : Option Addr} {xs : List Value} (h : w.ownsRow 0 nodeT 6 (.slice A n c) k xs) (hb : ∀ b ∈ blk A, w'.heap[b]? = w.heap[b]?) : w'.ownsRow 0 nodeT 6 (.slice A n c) k xs := by
  refine ⟨h.1, ?_⟩
  rcases h.2 with hv | ⟨g, cap, cur, hv, h1, h2, h3⟩
  · exact .inl hv
  · refine .inr ⟨g, cap, cur, hv, h1, ?_, h3⟩
    injection hv with a
    rw [hb g (by rw [a]; exact List.mem_singleton.2 rfl)]
    exact h2
theorem OwS.frame {w w' : World} : ∀ (m : Nat) (A : Option Addr) (c : Nat) (l : List Nd) (bs : List Nat), OwS w m A c l bs → (∀ b ∈ bs, w'.heap[b]? = w.heap[b]?) → OwS w' m A c l bs
  | 0, A, c, l, bs, ⟨hl, ho, hb⟩, hf => ⟨hl, own_frame ho (fun b hm => hf b (by rw [hb]; exact hm)), hb⟩
  | m + 1, A, c, l, bs, ⟨q, hq, ho, hb, hr⟩, hf => by
    refine ⟨q, hq, own_frame ho (fun b hm => hf b (by rw [hb]; exact List.mem_append_left _ hm)), hb, fun r hm => ?_⟩
    obtain ⟨h0, b1, b2, he, h1, h2⟩ := hr r hm
    have hsub : ∀ b ∈ r.2.2, w'.heap[b]? = w.heap[b]? := fun b hbm => hf b (by rw [hb]; exact List.mem_append_right _ (List.mem_flatMap.2 ⟨r, hm, hbm⟩))
    exact ⟨h0, b1, b2, he, OwS.frame m _ _ _ _ h1 (fun b hbm => hsub b (by rw [he]; exact List.mem_append_left _ hbm)), OwS.frame m _ _ _ _ h2 (fun b hbm => hsub b (by rw [he]; exact List.mem_append_right _ hbm))⟩
theorem OwN.frame {w w' : World} {m : Nat} {n : Nd} {h : Hd} {bs : List Nat} (hn : OwN w m n h bs) (hf : ∀ b ∈ bs, w'.heap[b]? = w.heap[b]?) : OwN w' m n h bs := by
  obtain ⟨h0, b1, b2, he, h1, h2⟩ := hn
  exact ⟨h0, b1, b2, he, OwS.frame m _ _ _ _ h1 (fun b hbm => hf b (by rw [he]; exact List.mem_append_left _ hbm)), OwS.frame m _ _ _ _ h2 (fun b hbm => hf b (by rw [he]; exact List.mem_append_right _ hbm))⟩
theorem own_lt {w : World} {n k c : Nat} {A : Option Addr} {xs : List Value} (h : w.ownsRow 0 nodeT 6 (.slice A n c) k xs) : ∀ b ∈ blk A, b < w.heap.size ∧ Clean w b := by
  intro b hb
  rcases own_blk h with ⟨rfl, _⟩ | ⟨g, cur, rfl, _, _, hg, _⟩
  · cases hb
  · obtain rfl := List.mem_singleton.1 hb
    exact ⟨row_lt hg, _, _, hg⟩
theorem OwS.lt {w : World} : ∀ (m : Nat) (A : Option Addr) (c : Nat) (l : List Nd) (bs : List Nat), OwS w m A c l bs → ∀ b ∈ bs, b < w.heap.size ∧ Clean w b
  | 0, A, c, l, bs, ⟨hl, ho, hb⟩ => by rw [hb]; exact own_lt ho
  | m + 1, A, c, l, bs, ⟨q, hq, ho, hb, hr⟩ => by
    rw [hb]
    intro b hm
    rcases List.mem_append.1 hm with hm | hm
    · exact own_lt ho b hm
    · obtain ⟨r, hrm, hbr⟩ := List.mem_flatMap.1 hm
      obtain ⟨_, b1, b2, he, h1, h2⟩ := hr r hrm
      have hbr' : b ∈ b1 ++ b2 := by rw [← he]; exact hbr
      rcases List.mem_append.1 hbr' with hbr' | hbr'
      · exact OwS.lt m _ _ _ _ h1 b hbr'
      · exact OwS.lt m _ _ _ _ h2 b hbr'
theorem OwN.lt {w : World} {m : Nat} {n : Nd} {h : Hd} {bs : List Nat} (hn : OwN w m n h bs) : ∀ b ∈ bs, b < w.heap.size ∧ Clean w b := by
  obtain ⟨_, b1, b2, he, h1, h2⟩ := hn
  intro b hb
  rw [he] at hb
  rcases List.mem_append.1 hb with hb | hb
  · exact h1.lt _ _ _ _ _ b hb
  · exact h2.lt _ _ _ _ _ b hb
theorem OwS.nil (w : World) : ∀ m, OwS w m none 0 [] []
  | 0 => ⟨rfl, World.ownsRow_nil _ _ _ _, rfl⟩
  | m + 1 => ⟨[], rfl, World.ownsRow_nil _ _ _ _, rfl, fun r h => by cases h⟩
theorem OwN.none (w : World) (m : Nat) : OwN w m (.mk 0 ⟨#[]⟩ [] 0 0 []) ⟨none, 0, none, 0⟩ [] := ⟨by decide, [], [], rfl, OwS.nil w m, OwS.nil w m⟩
theorem OwS.succ {w : World} : ∀ (m : Nat) (A : Option Addr) (c : Nat) (l : List Nd) (bs : List Nat), OwS w m A c l bs → OwS w (m + 1) A c l bs
  | 0, A, c, l, bs, ⟨hl, ho, hb⟩ => ⟨[], by rw [hl]; rfl, ho, by rw [hb]; simp [blkB], fun r h => by cases h⟩
  | m + 1, A, c, l, bs, ⟨q, hq, ho, hb, hr⟩ => ⟨q, hq, ho, hb, fun r hm => by
    obtain ⟨h0, b1, b2, he, h1, h2⟩ := hr r hm
    exact ⟨h0, b1, b2, he, OwS.succ m _ _ _ _ h1, OwS.succ m _ _ _ _ h2⟩⟩
theorem OwN.succ {w : World} {m : Nat} {n : Nd} {h : Hd} {bs : List Nat} (hn : OwN w m n h bs) : OwN w (m + 1) n h bs := by
  obtain ⟨h0, b1, b2, he, h1, h2⟩ := hn
  exact ⟨h0, b1, b2, he, h1.succ _ _ _ _ _, h2.succ _ _ _ _ _⟩
/-- what is one's own lies in memory. -/
def InB (w : World) (bs : List Nat) : Nat → Prop := fun k => k ∈ bs ∧ Clean w k
theorem own_len {w : World} {n k c : Nat} {A : Option Addr} {xs : List Value} (h : w.ownsRow 0 nodeT 6 (.slice A n c) k xs) : k ≤ maxLen := by
  rcases own_blk h with ⟨_, _, _, h0⟩ | ⟨_, _, _, _, _, _, h1, h2, _⟩
  · omega
  · omega
theorem rowB_at {q : List NB} {k : Nat} {r : NB} (h : q[k]? = some r) : (q.map fun r => (r.1, r.2.1))[k]? = some (r.1, r.2.1) := by rw [List.getElem?_map, h]; rfl
theorem OwS.nds {w : World} : ∀ (m : Nat) (A : Option Addr) (c : Nat) (l : List Nd) (bs : List Nat), OwS w m A c l bs → NdsAt w (InB w bs) m A l
  | 0, A, c, l, bs, ⟨hl, _, _⟩ => hl
  | m + 1, A, c, l, bs, ⟨q, hq, ho, hb, hr⟩ => by
    have hlen := own_len ho
    refine ⟨by rw [← hq, List.length_map]; exact hlen, q.map fun r => (r.1, r.2.1), by rw [List.map_map]; exact hq, ?_, fun r hm => ?_⟩
    · rcases own_blk ho with ⟨_, h0, _⟩ | ⟨g, cur, hA, _, _, hg, h3, h4, h5, h6⟩
      · left
        rw [List.eq_nil_of_length_eq_zero h0]; rfl
      · right
        refine ⟨⟨g, 0, Option.none⟩, hA, ⟨by rw [hb, hA]; exact List.mem_append_left _ (List.mem_singleton.2 rfl), _, _, hg⟩, at_cells fun j u hj => ?_⟩
        rw [add_zero0, cell_of_row _ _ _ _ _ _ hg]
        have hj' : (cur.toList.take (q.length * 6))[j]? = some u := by rw [h6]; exact hj
        have hlt : j < q.length * 6 := by
          rcases Nat.lt_or_ge j (q.length * 6) with h | h
          · exact h
          · rw [List.getElem?_eq_none (by rw [List.length_take]; omega)] at hj'; cases hj'
        rw [List.getElem?_take_of_lt hlt] at hj'
        simpa using hj'
    · obtain ⟨r0, hr0, rfl⟩ := List.mem_map.1 hm
      obtain ⟨h0, b1, b2, he, h1, h2⟩ := hr r0 hr0
      have hsub : ∀ b ∈ r0.2.2, b ∈ bs := fun b hbm => by rw [hb]; exact List.mem_append_right _ (List.mem_flatMap.2 ⟨r0, hr0, hbm⟩)
      exact ⟨h0, (OwS.nds m _ _ _ _ h1).weak (fun k hk => ⟨hsub k (by rw [he]; exact List.mem_append_left _ hk.1), hk.2⟩), (OwS.nds m _ _ _ _ h2).weak (fun k hk => ⟨hsub k (by rw [he]; exact List.mem_append_right _ hk.1), hk.2⟩)⟩
theorem OwN.nd {w : World} {m : Nat} {n : Nd} {h : Hd} {bs : List Nat} (hn : OwN w m n h bs) : NdAt w (InB w bs) m n h := by
  obtain ⟨h0, b1, b2, he, h1, h2⟩ := hn
  exact ⟨h0, (h1.nds _ _ _ _ _).weak (fun k hk => ⟨by rw [he]; exact List.mem_append_left _ hk.1, hk.2⟩), (h2.nds _ _ _ _ _).weak (fun k hk => ⟨by rw [he]; exact List.mem_append_right _ hk.1, hk.2⟩)⟩
/-- the call's own nodes in a row, what is within being one's own too, each block once. -/
def RowO (w : World) (B : Nat) (v : Value) (q : List NB) (M : Nat) : Prop :=
  w.ownsRow B nodeT 6 v q.length (rowB q) ∧ (∀ r ∈ q, OwN w M r.1 r.2.1 r.2.2) ∧ (blkB q).Nodup ∧ ∀ b ∈ blkB q, B ≤ b ∧ some b ≠ v.ownBlock
theorem RowO.nil (w : World) (B M : Nat) : RowO w B (.slice none 0 0) [] M := ⟨World.ownsRow_nil _ _ _ _, fun r h => (by cases h), List.nodup_nil, fun b h => (by cases h)⟩
theorem RowO.lt {w : World} {B M : Nat} {v : Value} {q : List NB} (h : RowO w B v q M) : ∀ b ∈ blkB q, b < w.heap.size := by
  intro b hb
  obtain ⟨r, hr, hbr⟩ := List.mem_flatMap.1 hb
  exact ((h.2.1 r hr).lt b hbr).1
theorem RowO.low {w w' : World} {B M : Nat} {v : Value} {q : List NB} (h : RowO w B v q M) (hb : Below w.heap.size w w') : RowO w' B v q M :=
  ⟨h.1.kept (row := none) ⟨hb.os, hb.tape, hb.output, hb.size, fun k hk _ => hb.block k hk⟩ (by
    by_cases hv : v.ownBlock = none
    · exact .inl hv
    · exact .inr (fun e => hv e)), fun r hr => (h.2.1 r hr).frame (fun b hbr => hb.block b ((h.2.1 r hr).lt b hbr).1), h.2.2⟩
theorem RowO.drew {w : World} {B M : Nat} {v : Value} {q : List NB} (h : RowO w B v q M) : RowO w.drew B v q M := ⟨h.1.drew, fun r hr => (h.2.1 r hr).frame (fun _ _ => rfl), h.2.2⟩
theorem RowO.alloc {w : World} {B M : Nat} {v : Value} {q : List NB} (h : RowO w B v q M) (o : Obj) : RowO (w.alloc o) B v q M := h.low ((Below.refl _ _).alloc (Nat.le_refl _) o)
theorem RowO.store {w : World} {B M g i : Nat} {u v : Value} {q : List NB} (h : RowO w B v q M) (hg : g < B) : RowO (w.setCell ⟨g, i, none⟩ u) B v q M :=
  ⟨ownsRow_setCell_below h.1 hg u, fun r hr => (h.2.1 r hr).frame (fun b hbr => Below.heap_setCell w ⟨g, i, none⟩ u b (by have := (h.2.2.2 b (List.mem_flatMap.2 ⟨r, hr, hbr⟩)).1; show b ≠ g; omega)), h.2.2⟩
theorem blkB_snoc (q : List NB) (r : NB) : blkB (q ++ [r]) = blkB q ++ r.2.2 := by unfold blkB; simp
theorem rowB_snoc (q : List NB) (r : NB) : rowB (q ++ [r]) = rowB q ++ rowOf [(r.1, r.2.1)] := by unfold rowB; rw [List.map_append, rowOf_app]; rfl
theorem RowO.next {w3 w4 : World} {B H M : Nat} {v v' : Value} {q : List NB} {y : Nd} {hy : Hd} {bs : List Nat} (h : RowO w3 B v q M) (hny : OwN w3 M y hy bs) (hnd : bs.Nodup) (hbs : ∀ b ∈ bs, H ≤ b) (hBH : B ≤ H) (hqH : ∀ b ∈ blkB q, b < H) (hvH : ∀ k, v.ownBlock = some k → k < H)
    (hown : w4.ownsRow B nodeT 6 v' (q.length + 1) (rowB q ++ rowOf [(y, hy)])) (hgrow : w3.grownBy w4 v.ownBlock) (hat : v'.ownBlock = v.ownBlock ∨ v'.ownBlock = some w3.heap.size) : RowO w4 B v' (q ++ [(y, hy, bs)]) M := by
  have hk : ∀ b, b < w3.heap.size → some b ≠ v.ownBlock → w4.heap[b]? = w3.heap[b]? ∧ some b ≠ v'.ownBlock := fun b h1 h2 => ⟨hgrow.block b h1 h2, by
    rcases hat with e | e
    · rw [e]; exact h2
    · rw [e]; intro e2; injection e2 with e2; omega⟩
  have hy' : ∀ b ∈ bs, b < w3.heap.size ∧ some b ≠ v.ownBlock := fun b hb => ⟨(hny.lt b hb).1, fun e => by have := hvH b e.symm; have := hbs b hb; omega⟩
  refine ⟨by rw [List.length_append, rowB_snoc]; exact hown, fun r hr => ?_, ?_, ?_⟩
  · rcases List.mem_append.1 hr with hr | hr
    · exact (h.2.1 r hr).frame (fun b hb => (hk b (((h.2.1 r hr).lt b hb).1) (h.2.2.2 b (List.mem_flatMap.2 ⟨r, hr, hb⟩)).2).1)
    · obtain rfl := List.mem_singleton.1 hr
      exact hny.frame (fun b hb => (hk b (hy' b hb).1 (hy' b hb).2).1)
  · rw [blkB_snoc]
    exact List.nodup_append.2 ⟨h.2.2.1, hnd, fun a ha b hb e => by have := hqH a ha; have := hbs b hb; omega⟩
  · intro b hb
    rw [blkB_snoc] at hb
    rcases List.mem_append.1 hb with hb | hb
    · exact ⟨(h.2.2.2 b hb).1, (hk b (h.lt b hb) (h.2.2.2 b hb).2).2⟩
    · exact ⟨Nat.le_trans hBH (hbs b hb), (hk b (hy' b hb).1 (hy' b hb).2).2⟩
theorem own_zero {w : World} {B : Nat} {v : Value} {n : Nat} {xs : List Value} (h : w.ownsRow B nodeT 6 v n xs) : w.ownsRow 0 nodeT 6 v n xs := by
  refine ⟨h.1, ?_⟩
  rcases h.2 with hv | ⟨g, cap, cur, hv, _, h3⟩
  · exact .inl hv
  · exact .inr ⟨g, cap, cur, hv, Nat.zero_le _, h3⟩
/-- a row that is done is a tree. -/
theorem RowO.done {w : World} {B M : Nat} {v : Value} {q : List NB} (h : RowO w B v q M) : ∃ A c bs, v = .slice A q.length c ∧ OwS w (M + 1) A c (q.map (·.1)) bs ∧ bs.Nodup ∧ ∀ b ∈ bs, B ≤ b := by
  have hv : ∃ A c, v = .slice A q.length c := by
    rcases h.1.2 with ⟨h1, h0⟩ | ⟨g, cap, cur, h1, _⟩
    · exact ⟨none, 0, by rw [h1, h0]⟩
    · exact ⟨_, _, h1⟩
  obtain ⟨A, c, rfl⟩ := hv
  refine ⟨A, c, blk A ++ blkB q, rfl, ⟨q, rfl, own_zero h.1, rfl, fun r hr => h.2.1 r hr⟩, ?_, ?_⟩
  · refine List.nodup_append.2 ⟨?_, h.2.2.1, fun a ha b hb e => ?_⟩
    · cases A with
      | none => exact List.nodup_nil
      | some x => exact List.nodup_cons.2 ⟨by simp, List.nodup_nil⟩
    · cases A with
      | none => cases ha
      | some x =>
        obtain rfl := List.mem_singleton.1 ha
        exact (h.2.2.2 b hb).2 (by rw [← e]; rfl)
  · intro b hb
    rcases List.mem_append.1 hb with hb | hb
    · rcases own_blk h.1 with ⟨rfl, _⟩ | ⟨g, cur, rfl, _, hg, _⟩
      · cases hb
      · obtain rfl := List.mem_singleton.1 hb; exact hg
    · exact (h.2.2.2 b hb).1
/-- a tree of one's own is handed back. -/
def NewO (m : Nat) (n : Nd) (w : World) (e : Ending) (w' : World) : Prop := ∃ (h : Hd) (bs : List Nat), e = .returned (.agg #[.int .i64 n.kind, .string n.data, .slice h.A n.ptrs.length h.a, .int .i64 n.size, .int .i64 n.count, .slice h.B n.items.length h.b]) ∧ OwN w' m n h bs ∧ bs.Nodup ∧ (∀ b ∈ bs, w.heap.size ≤ b) ∧ Below w.heap.size w w'
def NewOS (m : Nat) (l : List Nd) (w : World) (e : Ending) (w' : World) : Prop := ∃ (A : Option Addr) (c : Nat) (bs : List Nat), e = .returned (.slice A l.length c) ∧ OwS w' m A c l bs ∧ bs.Nodup ∧ (∀ b ∈ bs, w.heap.size ≤ b) ∧ Below w.heap.size w w'
theorem OwN.below {w w' : World} {m : Nat} {n : Nd} {h : Hd} {bs : List Nat} (hn : OwN w m n h bs) (hb : Below w.heap.size w w') : OwN w' m n h bs := hn.frame (fun b hm => hb.block b (hn.lt b hm).1)
theorem OwS.below {w w' : World} {m : Nat} {A : Option Addr} {c : Nat} {l : List Nd} {bs : List Nat} (hn : OwS w m A c l bs) (hb : Below w.heap.size w w') : OwS w' m A c l bs := hn.frame _ _ _ _ _ (fun b hm => hb.block b (hn.lt _ _ _ _ _ b hm).1)
theorem OwN.clean {w : World} {m : Nat} {n : Nd} {h : Hd} {bs : List Nat} (hn : OwN w m n h bs) : NdAt w (Clean w) m n h := hn.nd.weak (fun _ hk => hk.2)
end Go.Proofs.YtbijfkpilncclaaGreat

/- The program's measure of a node: whether it is ok, and its words. -/
namespace Go.Proofs.YtbijfkpilncclaaGreat
open Go.RowKit
abbrev measT : TypeId := 103
/-- a node is ok, so many deep at most. -/
def okN : Nat → Nd → Bool
  | 0, n => formN n && decide (n.kind = 0)
  | d + 1, n => formN n && (decide (n.kind = 0) || (ptrsL n).all (okN d))
/-- how many words a node takes that is ok, so many deep at most. -/
def wordsN : Nat → Nd → Nat
  | 0, _ => 0
  | d + 1, n => ownN n + ((ptrsL n).map (wordsN d)).sum
theorem ok_form {d : Nat} {n : Nd} (h : formN n = false) : okN d n = false := by
  cases d <;> simp [okN, h]
theorem nil_of_len {α : Type} {l : List α} (h : l.length = 0) : l = [] := List.eq_nil_of_length_eq_zero h
theorem none_words {d : Nat} {n : Nd} (h : formN n = true) (hk : n.kind = 0) : okN d n = true ∧ wordsN d n = 0 := by
  rcases form_cases h with hc | hc | hc
  · obtain ⟨_, h1, h2, _, _, h5⟩ := hc
    have e1 : ptrsL n = [] := by unfold ptrsL; rw [nil_of_len h2, nil_of_len h5]; rfl
    have e2 : ownN n = 0 := by unfold ownN ownB; rw [h1, h2, nil_of_len h5, hk]; rfl
    cases d
    · exact ⟨by simp [okN, h, hk], rfl⟩
    · exact ⟨by simp [okN, h, hk], by simp [wordsN, e1, e2]⟩
  · omega
  · omega
theorem cell_single {w : World} {b : Nat} {v : Value} {T : TypeId} {p : Addr} {n : Nd} {h : Hd} (hb : w.heap[b]? = some (.cells #[v] T (0, 0))) (hc : NdCell w p n h) : p.block ≠ b := by
  intro e
  have h1 := hc.c1
  rw [e, cell_of_row _ _ _ _ _ _ hb] at h1
  simp at h1
theorem NdsAt.keeps {w w' : World} {S : Nat → Prop} {m b : Nat} {A : Option Addr} {l : List Nd} {v : Value} {T : TypeId} (h : NdsAt w S m A l) (hb : w.heap[b]? = some (.cells #[v] T (0, 0))) (hk : Keeps w.heap.size b w w') : NdsAt w' S m A l :=
  NdsAt.map (fun _ h => h) (fun _p _ _ _ hc => hc.block (hk.block _ hc.lt (cell_single hb hc))) _ _ _ h
theorem NdAt.keeps {w w' : World} {S : Nat → Prop} {m b : Nat} {n : Nd} {h : Hd} {v : Value} {T : TypeId} (hn : NdAt w S m n h) (hb : w.heap[b]? = some (.cells #[v] T (0, 0))) (hk : Keeps w.heap.size b w w') : NdAt w' S m n h :=
  ⟨hn.1, hn.2.1.keeps hb hk, hn.2.2.keeps hb hk⟩
theorem totL_eq {w : World} {S : Nat → Prop} : ∀ (m : Nat) (A : Option Addr) (l : List Nd), NdsAt w S m A l → totL (m + 1) l = totL m l
  | 0, A, l, h => by rw [h.zero]; rfl
  | m + 1, A, l, h => by
    rw [totL_succ (m + 1), totL_succ m]
    congr 1
    apply List.map_congr_left
    intro n hn
    obtain ⟨hd, h1⟩ := h.mem n hn
    unfold totN
    rw [totL_eq m _ _ h1.2.1, totL_eq m _ _ h1.2.2]
theorem flat_tot (l : List Nd) (m : Nat) : totL (m + 1) (l.flatMap Nd.ptrs) = (l.map fun y => totL (m + 1) y.ptrs).sum := by
  induction l with
  | nil => rfl
  | cons a t ih => rw [List.flatMap_cons, totL_succ, List.map_append, List.sum_append, ← totL_succ, ← totL_succ, ih]; rfl
theorem tot_ptrs {w : World} {S : Nat → Prop} {m : Nat} {n : Nd} {h : Hd} (hn : NdAt w S m n h) : totL m (ptrsL n) ≤ totN m n := by
  cases m with
  | zero => exact Nat.zero_le _
  | succ m =>
    have h1 : totL (m + 1) (ptrsL n) = totL (m + 1) n.ptrs + (n.items.map fun y => totL (m + 1) y.ptrs).sum := by
      unfold ptrsL
      rw [totL_succ, List.map_append, List.sum_append, ← totL_succ, ← totL_succ, flat_tot]
    have h2 : (n.items.map fun y => totL (m + 1) y.ptrs).sum ≤ totL (m + 1) n.items := by
      rw [totL_succ]
      refine sum_le _ _ _ fun y hy => ?_
      obtain ⟨hd, h3⟩ := hn.2.2.mem y hy
      rw [totL_eq m _ _ h3.2.1]
      unfold totN
      omega
    rw [h1]
    unfold totN
    omega
theorem ptrs_len {w : World} {S : Nat → Prop} {m : Nat} {n : Nd} {h : Hd} (hn : NdAt w S m n h) : (ptrsL n).length ≤ totL m (ptrsL n) := by
  cases m with
  | zero =>
    unfold ptrsL
    rw [hn.2.1.zero, hn.2.2.zero]
    simp
  | succ m => exact totL_len m _
theorem own_bound {w : World} {S : Nat → Prop} {m : Nat} {n : Nd} {h : Hd} (hn : NdAt w S m n h) (ht : totN m n ≤ 2000000) : ownN n ≤ 3000000 := by
  have h1 : ownB n ≤ n.data.size + n.ptrs.length := by unfold ownB; omega
  have h2 := own_sum hn.2.2
  have h3 := len_tot hn.2.1
  unfold ownN
  unfold totN at ht
  split <;> omega
abbrev msr (ws : Int) : Obj := .cells #[.int .i64 ws] measT (0, 0)
def AlP (d : Nat) (n : Nd) (b : Nat) (ws : Int) (w : World) (e : Ending) (w' : World) : Prop :=
  ∃ (r : Bool) (z : Int), e = .returned (.bool r) ∧ Keeps w.heap.size b w w' ∧ w'.heap[b]? = some (msr z) ∧ 0 ≤ z ∧ z ≤ 4000000 ∧ (r = true → okN d n = true ∧ z = ws + (wordsN d n : Nat) ∧ z ≤ 199) ∧ (r = false → okN d n = false ∨ 200 ≤ ws + (wordsN d n : Nat))
def AlD (d : Nat) : Prop := ∀ (m : Nat) (n : Nd) (h : Hd) (w : World) (S : Nat → Prop) (b : Nat) (ws : Int), NdAt w S m n h → totN m n ≤ 2000000 → w.heap[b]? = some (msr ws) → 0 ≤ ws → ws ≤ 199 →
  Calls Tryz.prog 73 #[.pointer (some ⟨b, 0, none⟩), .agg #[.int .i64 n.kind, .string n.data, .slice h.A n.ptrs.length h.a, .int .i64 n.size, .int .i64 n.count, .slice h.B n.items.length h.b], .int .i64 (9 - (d : Int))] w (AlP d n b ws w)
theorem own_le_words {d : Nat} {n : Nd} : ownN n ≤ wordsN (d + 1) n := by simp [wordsN]
theorem meas_cell {w : World} {b : Nat} {z : Int} (h : w.heap[b]? = some (msr z)) : w.cell? ⟨b, 0, none⟩ = some (.int .i64 z) := by rw [cell_of_row _ _ _ _ _ _ h]; rfl
set_option maxHeartbeats 4000000 in
set_option maxRecDepth 100000 in
theorem allows_step (d : Nat) (hd : d ≤ 8) (ih : ∀ j, d = j + 1 → AlD j) : AlD d := by
  intro m n h w S b ws hn ht hrow hw0 hw1
  obtain ⟨qA, qa, qB, qb⟩ := h
  dsimp only at hn ⊢
  have hpl : n.ptrs.length ≤ 2000000 := totL_len' hn.2.1 (by unfold totN at ht; omega)
  have hil : n.items.length ≤ 2000000 := totL_len' hn.2.2 (by unfold totN at ht; omega)
  have hblt := row_lt hrow
  have HP := Lib.hid (fun (W : World) (hb : Below w.heap.size w W) => hasParts_a m n ⟨qA, qa, qB, qb⟩ W S (hn.below hb) hil hpl)
  dsimp only at HP
  have HIH := Lib.hid ih
  have HN := Lib.hid hn
  have HT := Lib.hid ht
  have HR := Lib.hid hrow
  have HB0 := Lib.hid ((Below.refl w.heap.size w).alloc (Nat.le_refl _) (.cells #[.int .i64 n.kind, .string n.data, .slice qA n.ptrs.length qa, .int .i64 n.size, .int .i64 n.count, .slice qB n.items.length qb] nodeT))
  have HBX := Lib.hid (heap_alloc_new w (.cells #[.int .i64 n.kind, .string n.data, .slice qA n.ptrs.length qa, .int .i64 n.size, .int .i64 n.count, .slice qB n.items.length qb] nodeT))
  clear ih hn ht hrow
  cases hf : formN n
  · have HX := Lib.hid (ok_form (d := d) hf)
    rw [hf] at HP
    go_enter Tryz.func73, Tryz.ntmps73
    go_wp2_with fail
    refine (HP.out _ HB0.out).mono ?_
    rintro e w1 ⟨rfl, hb1⟩
    have HB1 := Lib.hid (HB0.out.trans (hb1.mono HB0.out.size))
    clear hb1
    go_wp2
    go_ret
    exact ⟨false, ws, rfl, Keeps.of_below HB1.out, (HB1.out.block _ hblt).trans HR.out, hw0, by omega, fun h => (by cases h), fun _ => .inl HX.out⟩
  rw [hf] at HP
  have HF := Lib.hid hf
  clear hf
  by_cases hk : n.kind = 0
  · have HX := Lib.hid (none_words (d := d) HF.out hk)
    have hkb : (n.kind == 0) = true := by rw [hk]; rfl
    clear hk
    go_enter Tryz.func73, Tryz.ntmps73
    go_wp2_with fail
    refine (HP.out _ HB0.out).mono ?_
    rintro e w1 ⟨rfl, hb1⟩
    obtain ⟨a0, a1, a2, a3, a4, a5⟩ := cells6 ((hb1.block w.heap.size (by simp)).trans HBX.out)
    have HB1 := Lib.hid (HB0.out.trans (hb1.mono HB0.out.size))
    clear hb1
    go_wp2
    go_ret
    exact ⟨true, ws, rfl, Keeps.of_below HB1.out, (HB1.out.block _ hblt).trans HR.out, hw0, by omega, fun _ => ⟨HX.out.1, by rw [HX.out.2]; omega, hw1⟩, fun h => (by cases h)⟩
  have hkb : (n.kind == 0) = false := by simpa using hk
  have HK := Lib.hid hk
  have HOW := Lib.hid (fun (W : World) (hb : Below w.heap.size w W) => ownWords_a m n ⟨qA, qa, qB, qb⟩ W S (HN.out.below hb) HF.out HT.out)
  dsimp only at HOW
  have hob : ownN n ≤ 3000000 := own_bound HN.out HT.out
  generalize hon : ownN n = on at HOW hob
  have HON := Lib.hid hon
  clear hk hon
  have hwrap : IntKind.i64.wrap (ws + (on : Int)) = ws + (on : Int) := by
    rw [IntKind.wrap_i64]
    omega
  obtain ⟨D, hD⟩ : ∃ D : Int, D = 9 - (d : Int) := ⟨_, rfl⟩
  have hD8 : 1 ≤ D ∧ D ≤ 9 := by omega
  rw [← hD]
  have HD := Lib.hid hD
  clear hD
  go_enter Tryz.func73, Tryz.ntmps73
  go_wp2_with fail
  refine (HP.out _ HB0.out).mono ?_
  rintro e w1 ⟨rfl, hb1⟩
  have hk1 := (hb1.block w.heap.size (by simp)).trans HBX.out
  have HBX1 := Lib.hid hk1
  have hlt1 := row_lt hk1
  obtain ⟨a0, a1, a2, a3, a4, a5⟩ := cells6 hk1
  have HB1 := Lib.hid (HB0.out.trans (hb1.mono HB0.out.size))
  have HR1 := Lib.hid ((HB1.out.block _ hblt).trans HR.out)
  have hmc := meas_cell HR1.out
  have hmf := row_free HR1.out 0
  clear hb1 hk1
  go_wp2_with fail
  go_region_with (go_at_call 76; refine (HOW.out _ (by exact HB1.out.drew)).mono ?_; rintro e w2 ⟨rfl, hb2⟩; have hmc2 := meas_cell ((hb2.block _ (by have := HB1.out.size; simp; omega)).trans HR1.out); have hmf2 := row_free ((hb2.block _ (by have := HB1.out.size; simp; omega)).trans HR1.out) 0)
  all_goals
    have hrow2 := (hb2.block b (by have := HB1.out.size; simp; omega)).trans HR1.out
    have hbox2 := (hb2.block w.heap.size (by simpa using hlt1)).trans HBX1.out
    have hB2 : Below w.heap.size w w2 := HB1.out.drew.trans (hb2.mono (by simpa using HB1.out.size))
    try rw [hwrap]
    have kp3 : Keeps w.heap.size b w (w2.setCell ⟨b, 0, none⟩ (.int .i64 (ws + (on : Int)))) := (Keeps.of_below hB2).trans ((set_keeps w2.heap.size b w2 0 _).mono hB2.size)
    have row3 : (w2.setCell ⟨b, 0, none⟩ (.int .i64 (ws + (on : Int)))).heap[b]? = some (msr (ws + (on : Int))) := row_setN hrow2 0 _
    have box3 := (Below.heap_setCell w2 ⟨b, 0, none⟩ (.int .i64 (ws + (on : Int))) w.heap.size (by simp; omega)).trans hbox2
    have hlt3 := row_lt box3
    generalize w2.setCell ⟨b, 0, none⟩ (.int .i64 (ws + (on : Int))) = W3 at *
    have KP3 := Lib.hid kp3
    have ROW3 := Lib.hid row3
    have BOX3 := Lib.hid box3
    clear hb2 hB2 hmc hmf hmc2 hmf2 a0 a1 a2 a3 a4 a5 hrow2 hbox2 kp3 row3 box3
    have hmc3 := meas_cell ROW3.out
    by_cases hd0 : d = 0
    · have hD1 : decide (8 < D) = true := decide_eq_true (by have := HD.out; omega)
      have HX : Hid (okN d n = false) := Lib.hid (by subst hd0; simp [okN, HK.out])
      go_wp2
      go_ret
      exact ⟨false, _, rfl, KP3.out, ROW3.out, by omega, by omega, fun h => (by cases h), fun _ => .inl HX.out⟩
    · obtain ⟨j, rfl⟩ : ∃ j, d = j + 1 := ⟨d - 1, by omega⟩
      have HPO : Hid (∀ W : World, Keeps w.heap.size b w W → Calls Tryz.prog 109 #[.agg #[.int .i64 n.kind, .string n.data, .slice qA n.ptrs.length qa, .int .i64 n.size, .int .i64 n.count, .slice qB n.items.length qb]] W fun e w' => ∃ A c, e = .returned (.slice A (ptrsL n).length c) ∧ NdsAt w' Any m A (ptrsL n) ∧ Below W.heap.size W w') := Lib.hid fun W hk => ptrsOf_a m n ⟨qA, qa, qB, qb⟩ W S (HN.out.keeps HR.out hk) HT.out
      have HTT : Hid (totL m (ptrsL n) ≤ 2000000) := Lib.hid (Nat.le_trans (tot_ptrs HN.out) HT.out)
      have HLN : Hid ((ptrsL n).length ≤ 2000000) := Lib.hid (Nat.le_trans (ptrs_len HN.out) HTT.out)
      have HWW : Hid (wordsN (j + 1) n = on + ((ptrsL n).map (wordsN j)).sum) := Lib.hid (by rw [wordsN, HON.out])
      have HBAD : Hid (∀ p ∈ ptrsL n, okN j p = false → okN (j + 1) n = false) := Lib.hid fun p hp h => by
        have : (ptrsL n).all (okN j) = false := by rw [List.all_eq_false]; exact ⟨p, hp, by rw [h]; decide⟩
        simp [okN, HF.out, HK.out, this]
      have HGOOD : Hid ((ptrsL n).all (okN j) = true → okN (j + 1) n = true) := Lib.hid fun h => by simp only [okN, HF.out, h, Bool.or_true, Bool.and_true]
      have hD1 : decide (8 < D) = false := decide_eq_false (by have := HD.out; omega)
      by_cases h200 : 200 ≤ ws + (on : Int)
      · have HX : Hid (200 ≤ ws + (wordsN (j + 1) n : Nat)) := Lib.hid (by have := own_le_words (d := j) (n := n); rw [HON.out] at this; omega)
        have hd2 : decide (200 ≤ ws + (on : Int)) = true := decide_eq_true h200
        go_wp2
        go_ret
        exact ⟨false, _, rfl, KP3.out, ROW3.out, by omega, by omega, fun h => (by cases h), fun _ => .inr HX.out⟩
      · have hd2 : decide (200 ≤ ws + (on : Int)) = false := decide_eq_false h200
        obtain ⟨b0, b1, b2, b3, b4, b5⟩ := cells6 BOX3.out
        go_wp2_with fail
        refine (HPO.out W3 KP3.out).mono ?_
        rintro e w4 ⟨A4, c4, rfl, hn4, hb4⟩
        have KP4 := Lib.hid (KP3.out.trans ((Keeps.of_below hb4).mono KP3.out.size))
        have ROW4 := Lib.hid ((hb4.block b (row_lt ROW3.out)).trans ROW3.out)
        have HN4 := Lib.hid hn4
        have hz0 : 0 ≤ ws + (on : Int) := by omega
        have hz1 : ws + (on : Int) ≤ 199 := by omega
        clear hn4 hb4 b0 b1 b2 b3 b4 b5 hmc3 h200 hd2 hwrap
        have hlen := HLN.out
        have HIHJ := Lib.hid (HIH.out j rfl)
        generalize ptrsL n = pl at *
        go_wp2_with fail
        go_loopw [36] (fun i wr => ∃ k : Nat, i = .int .i64 k ∧ k ≤ pl.length ∧ Hid ((pl.take k).all (okN j) = true) ∧ Hid (∃ z : Int, Keeps w.heap.size b w wr ∧ wr.heap[b]? = some (msr z) ∧ NdsAt wr Any m A4 pl ∧ 0 ≤ z ∧ z ≤ 199 ∧ z = ws + (on : Int) + (((pl.take k).map (wordsN j)).sum : Nat))) (fun i _ => pl.length - (intOf i).toNat)
        case atStart => exact ⟨0, rfl, by omega, Lib.hid rfl, Lib.hid ⟨_, KP4.out, ROW4.out, HN4.out, hz0, hz1, by simp⟩⟩
        case round =>
          obtain ⟨k, rfl, hk, HA, HZ⟩ := hrel
          obtain ⟨z, kpr, rowr, hnr, z0, z1, hz⟩ := HZ.out
          by_cases hlt : k < pl.length
          · obtain ⟨m', rfl⟩ := hnr.pred hlt
            obtain ⟨x, hdp, rfl, hc, hp⟩ := hnr.at_ hlt
            have HST := Lib.hid (sum_take_succ pl (wordsN j) k hlt)
            have HSL := Lib.hid (sum_take_le pl (wordsN j) (k + 1))
            have HTP := Lib.hid (show totN m' pl[k] ≤ 2000000 by have := totL_at (m := m') hlt; have := HTT.out; omega)
            have HMEM := Lib.hid (List.getElem_mem hlt)
            have HTK : Hid (okN j pl[k] = true → (pl.take (k + 1)).all (okN j) = true) := Lib.hid (fun h => by rw [List.take_succ_eq_append_getElem hlt, List.all_append, HA.out]; simpa using h)
            generalize pl[k] = p at hc hp HST HTP HMEM HTK
            have hbx : Below wr.heap.size wr (wr.alloc (.cells #[.int .i64 p.kind, .string p.data, .slice hdp.A p.ptrs.length hdp.a, .int .i64 p.size, .int .i64 p.count, .slice hdp.B p.items.length hdp.b] nodeT)) := (Below.refl _ _).alloc (Nat.le_refl _) _
            have HCALL := Lib.hid (HIHJ.out m' p hdp _ Any b z (hp.below hbx) HTP.out ((hbx.block b (row_lt rowr)).trans rowr) z0 z1)
            unfold AlP at HCALL
            rw [show (9 : Int) - (j : Int) = D + 1 by have := HD.out; omega] at HCALL
            have KPR := Lib.hid kpr
            have HNR := Lib.hid hnr
            have HZE := Lib.hid hz
            have HBXX := Lib.hid hbx
            have ROWR := Lib.hid rowr
            obtain ⟨d0, d1, d2, d3, d4, d5⟩ := hc
            clear kpr hnr hz hbx hp rowr HZ
            go_wp2_with fail
            refine HCALL.out.mono ?_
            rintro e w5 ⟨r, z', rfl, kp5, row5, z0', z1', ht5, hf5⟩
            have KP5 := Lib.hid (KPR.out.trans (((Keeps.of_below HBXX.out).trans (kp5.mono (by simp))).mono KPR.out.size))
            have HN5 := Lib.hid ((HNR.out.keeps ROWR.out (Keeps.of_below HBXX.out)).keeps ((HBXX.out.block b (row_lt ROWR.out)).trans ROWR.out) kp5)
            have ROW5 := Lib.hid row5
            have HF5 := Lib.hid hf5
            have HT5 := Lib.hid ht5
            clear kp5 row5 hf5 ht5
            cases r
            · go_wp2
              go_ret
              refine ⟨false, z', rfl, KP5.out, ROW5.out, z0', z1', fun h => (by cases h), fun _ => ?_⟩
              rcases HF5.out (by first | trivial | rfl) with h | h
              · exact .inl (HBAD.out p HMEM.out h)
              · right
                have := HWW.out
                have := HSL.out
                have := HST.out
                have := HZE.out
                omega
            · obtain ⟨h1, h2, h3⟩ := HT5.out (by first | trivial | rfl)
              have HTR := Lib.hid (HTK.out h1)
              have HZ5 : Hid (∃ z : Int, Keeps w.heap.size b w w5 ∧ w5.heap[b]? = some (msr z) ∧ NdsAt w5 Any (m' + 1) (some x) pl ∧ 0 ≤ z ∧ z ≤ 199 ∧ z = ws + (on : Int) + (((pl.take (k + 1)).map (wordsN j)).sum : Nat)) := Lib.hid ⟨z', KP5.out, ROW5.out, HN5.out, z0', h3, by rw [h2, HZE.out, HST.out]; omega⟩
              clear h1 h2 h3
              go_wp2
              go_roundw
              case rel => exact ⟨k + 1, by go_num, by omega, HTR, HZ5⟩
              case measure => simp [intOf]; omega
          · obtain rfl : k = pl.length := by omega
            rw [List.take_of_length_le (Nat.le_refl _)] at HA hz
            have HALL := Lib.hid (HGOOD.out HA.out)
            have KPR := Lib.hid kpr
            have HZE := Lib.hid hz
            have ROWR := Lib.hid rowr
            clear kpr hnr hz rowr HZ
            go_wp2
            go_ret
            exact ⟨true, z, rfl, KPR.out, ROWR.out, z0, by omega, fun _ => ⟨HALL.out, by rw [HZE.out, HWW.out]; omega, z1⟩, fun h => (by cases h)⟩
theorem allows_any : ∀ d, d ≤ 8 → AlD d
  | 0, h => allows_step 0 h (fun j hj => by omega)
  | d + 1, h => allows_step (d + 1) h (fun j hj => by
    obtain rfl : d = j := by omega
    exact allows_any d (by omega))
end Go.Proofs.YtbijfkpilncclaaGreat

/- NodeOk, NodeWords: the program's. -/
namespace Go.Proofs.YtbijfkpilncclaaGreat
open Go.RowKit
def nodeOk (n : Nd) : Bool := okN 8 n && decide (wordsN 8 n ≤ 199)
def nodeWords (n : Nd) : Nat := if nodeOk n then wordsN 8 n else 0
theorem al_ok {n : Nd} {r : Bool} {z : Int} (ht : r = true → okN 8 n = true ∧ z = 0 + (wordsN 8 n : Nat) ∧ z ≤ 199) (hf : r = false → okN 8 n = false ∨ 200 ≤ (0 : Int) + (wordsN 8 n : Nat)) : r = nodeOk n ∧ (r = true → z = (nodeWords n : Nat)) := by
  cases r with
  | true =>
    obtain ⟨h1, h2, h3⟩ := ht rfl
    have h4 : nodeOk n = true := by unfold nodeOk; rw [h1]; simp; omega
    refine ⟨h4.symm, fun _ => ?_⟩
    unfold nodeWords
    rw [h4, if_pos rfl]
    omega
  | false =>
    refine ⟨?_, fun h => by cases h⟩
    unfold nodeOk
    rcases hf rfl with h | h
    · rw [h]; rfl
    · rw [show decide (wordsN 8 n ≤ 199) = false by simp; omega, Bool.and_false]
set_option maxHeartbeats 2000000 in
set_option maxRecDepth 100000 in
theorem implNodeOk_a (m : Nat) (n : Nd) (h : Hd) (w : World) (S : Nat → Prop) (hn : NdAt w S m n h) (ht : totN m n ≤ 2000000) :
    Calls Tryz.prog 33 #[.agg #[.int .i64 n.kind, .string n.data, .slice h.A n.ptrs.length h.a, .int .i64 n.size, .int .i64 n.count, .slice h.B n.items.length h.b]] w fun e w' => e = .returned (.bool (nodeOk n)) ∧ Below w.heap.size w w' := by
  have hb0 : Below w.heap.size w ((w.alloc (.cells #[.int .i64 n.kind, .string n.data, .slice h.A n.ptrs.length h.a, .int .i64 n.size, .int .i64 n.count, .slice h.B n.items.length h.b] nodeT)).alloc (.cells #[.int .i64 0] measT)) := ((Below.refl _ w).alloc (Nat.le_refl _) _).alloc (by simp) _
  have hr := heap_alloc_new (w.alloc (.cells #[.int .i64 n.kind, .string n.data, .slice h.A n.ptrs.length h.a, .int .i64 n.size, .int .i64 n.count, .slice h.B n.items.length h.b] nodeT)) (.cells #[.int .i64 0] measT)
  rw [show (w.alloc (.cells #[.int .i64 n.kind, .string n.data, .slice h.A n.ptrs.length h.a, .int .i64 n.size, .int .i64 n.count, .slice h.B n.items.length h.b] nodeT)).heap.size = w.heap.size + 1 by simp] at hr
  have hz : ((w.alloc (.cells #[.int .i64 n.kind, .string n.data, .slice h.A n.ptrs.length h.a, .int .i64 n.size, .int .i64 n.count, .slice h.B n.items.length h.b] nodeT)).alloc (.cells #[.int .i64 0] measT)).heap.size = w.heap.size + 2 := by simp
  have HC := Lib.hid (allows_any 8 (by decide) m n h _ S (w.heap.size + 1) 0 (hn.below hb0) ht hr (by omega) (by omega))
  unfold AlP at HC
  rw [show (9 : Int) - ((8 : Nat) : Int) = 1 by decide, hz] at HC
  have HB0 := Lib.hid hb0
  clear hn ht hb0 hr hz
  go_enter Tryz.func33, Tryz.ntmps33
  go_wp2_with fail
  refine HC.out.mono ?_
  rintro e w2 ⟨r, z, rfl, kp, row, z0, z1, h1, h2⟩
  have HE := Lib.hid (al_ok h1 h2).1
  have HB := Lib.hid (HB0.out.trans (kp.below (B' := w.heap.size) (by omega) (by omega)))
  clear kp row h1 h2
  go_wp2
  go_ret
  exact ⟨by rw [HE.out]; rfl, HB.out⟩
end Go.Proofs.YtbijfkpilncclaaGreat
