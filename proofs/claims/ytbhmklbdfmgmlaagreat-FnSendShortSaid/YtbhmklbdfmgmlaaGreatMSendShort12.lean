/- Texts of the proof of the law FnSendShort, side by side: part 12. -/
import Derived.Test.YtbhmklbdfmgmlaaGreatMSendShort00
import Derived.Test.YtbhmklbdfmgmlaaGreatMSendShort01
import Derived.Test.YtbhmklbdfmgmlaaGreatMSendShort02
import Derived.Test.YtbhmklbdfmgmlaaGreatMSendShort03
import Derived.Test.YtbhmklbdfmgmlaaGreatMSendShort04
import Derived.Test.YtbhmklbdfmgmlaaGreatMSendShort05
import Derived.Test.YtbhmklbdfmgmlaaGreatMSendShort06
import Derived.Test.YtbhmklbdfmgmlaaGreatMSendShort07
import Derived.Test.YtbhmklbdfmgmlaaGreatMSendShort08
import Derived.Test.YtbhmklbdfmgmlaaGreatMSendShort09
import Derived.Test.YtbhmklbdfmgmlaaGreatMSendShort10
import Derived.Test.YtbhmklbdfmgmlaaGreatMSendShort11
/- Trees of nodes in memory of one's own, each block once. No Go text. -/
namespace Go.Proofs.YtbhmklbdfmgmlaaGreat
open Go.RowKit
def blk : Option Addr → List Nat
  | none => []
  | some a => [a.block]
abbrev NB := Nd × Hd × List Nat
def rowB (q : List NB) : List Value := rowOf (q.map fun r => (r.1, r.2.1))
def blkB (q : List NB) : List Nat := q.flatMap fun r => r.2.2
/-- a slice of nodes of one's own with all that is within, so many levels down: and the blocks that it takes. -/
def OwS (w : World) : Nat → Option Addr → Nat → List Nd → List Nat → Prop
  | 0, A, c, l, bs => l = [] ∧ w.ownsRow 0 nodeT 6 (.slice A 0 c) 0 [] ∧ bs = blk A
  | m + 1, A, c, l, bs => ∃ q : List NB, q.map (·.1) = l ∧ w.ownsRow 0 nodeT 6 (.slice A q.length c) q.length (rowB q) ∧ bs = blk A ++ blkB q ∧
      ∀ r ∈ q, r.1.data.size ≤ maxLen ∧ ∃ b1 b2, r.2.2 = b1 ++ b2 ∧ OwS w m r.2.1.A r.2.1.a r.1.ptrs b1 ∧ OwS w m r.2.1.B r.2.1.b r.1.items b2
def OwN (w : World) (m : Nat) (n : Nd) (h : Hd) (bs : List Nat) : Prop := n.data.size ≤ maxLen ∧ ∃ b1 b2, bs = b1 ++ b2 ∧ OwS w m h.A h.a n.ptrs b1 ∧ OwS w m h.B h.b n.items b2
theorem own_blk {w : World} {B n k c : Nat} {A : Option Addr} {xs : List Value} (h : w.ownsRow B nodeT 6 (.slice A n c) k xs) : (A = none ∧ n = 0 ∧ c = 0 ∧ k = 0) ∨ ∃ g cur, A = some ⟨g, 0, none⟩ ∧ n = k ∧ B ≤ g ∧ w.heap[g]? = some (.cells cur nodeT (0, 0)) ∧ k ≤ c ∧ c ≤ maxLen ∧ cur.size = c * 6 ∧ cur.toList.take (k * 6) = xs := by
  rcases h.2 with ⟨hv, h0⟩ | ⟨g, cap, cur, hv, h1, h2, h3, h4, h5, h6⟩
  · injection hv with a b c
    exact .inl ⟨a, b, c, h0⟩
  · injection hv with a b c
    subst a b c
    exact .inr ⟨g, cur, rfl, rfl, h1, h2, h3, h4, h5, h6⟩
theorem own_frame {w w' : World} {n k c : Nat} {A : Option Addr} {xs : List Value} (h : w.ownsRow 0 nodeT 6 (.slice A n c) k xs) (hb : ∀ b ∈ blk A, w'.heap[b]? = w.heap[b]?) : w'.ownsRow 0 nodeT 6 (.slice A n c) k xs := by
  refine ⟨h.1, ?_⟩
  rcases h.2 with hv | ⟨g, cap, cur, hv, h1, h2, h3⟩
  · exact .inl hv
  · refine .inr ⟨g, cap, cur, hv, h1, ?_, h3⟩
    injection hv with a
    rw [hb g (by rw [a]; exact List.mem_singleton.2 rfl)]
    exact h2
theorem OwS.frame {w w' : World} : ∀ (m : Nat) (A : Option Addr) (c : Nat) (l : List Nd) (bs : List Nat), OwS w m A c l bs → (∀ b ∈ bs, w'.heap[b]? = w.heap[b]?) → OwS w' m A c l bs
  | 0, A, c, l, bs, ⟨hl, ho, hb⟩, hf => ⟨hl, own_frame ho (fun b hm => hf b (by rw [hb]; exact hm)), hb⟩
  | m + 1, A, c, l, bs, ⟨q, hq, ho, hb, hr⟩, hf => by
    refine ⟨q, hq, own_frame ho (fun b hm => hf b (by rw [hb]; exact List.mem_append_left _ hm)), hb, fun r hm => ?_⟩
    obtain ⟨h0, b1, b2, he, h1, h2⟩ := hr r hm
    have hsub : ∀ b ∈ r.2.2, w'.heap[b]? = w.heap[b]? := fun b hbm => hf b (by rw [hb]; exact List.mem_append_right _ (List.mem_flatMap.2 ⟨r, hm, hbm⟩))
    exact ⟨h0, b1, b2, he, OwS.frame m _ _ _ _ h1 (fun b hbm => hsub b (by rw [he]; exact List.mem_append_left _ hbm)), OwS.frame m _ _ _ _ h2 (fun b hbm => hsub b (by rw [he]; exact List.mem_append_right _ hbm))⟩
theorem OwN.frame {w w' : World} {m : Nat} {n : Nd} {h : Hd} {bs : List Nat} (hn : OwN w m n h bs) (hf : ∀ b ∈ bs, w'.heap[b]? = w.heap[b]?) : OwN w' m n h bs := by
  obtain ⟨h0, b1, b2, he, h1, h2⟩ := hn
  exact ⟨h0, b1, b2, he, OwS.frame m _ _ _ _ h1 (fun b hbm => hf b (by rw [he]; exact List.mem_append_left _ hbm)), OwS.frame m _ _ _ _ h2 (fun b hbm => hf b (by rw [he]; exact List.mem_append_right _ hbm))⟩
theorem own_lt {w : World} {n k c : Nat} {A : Option Addr} {xs : List Value} (h : w.ownsRow 0 nodeT 6 (.slice A n c) k xs) : ∀ b ∈ blk A, b < w.heap.size ∧ Clean w b := by
  intro b hb
  rcases own_blk h with ⟨rfl, _⟩ | ⟨g, cur, rfl, _, _, hg, _⟩
  · cases hb
  · obtain rfl := List.mem_singleton.1 hb
    exact ⟨row_lt hg, _, _, hg⟩
theorem OwS.lt {w : World} : ∀ (m : Nat) (A : Option Addr) (c : Nat) (l : List Nd) (bs : List Nat), OwS w m A c l bs → ∀ b ∈ bs, b < w.heap.size ∧ Clean w b
  | 0, A, c, l, bs, ⟨hl, ho, hb⟩ => by rw [hb]; exact own_lt ho
  | m + 1, A, c, l, bs, ⟨q, hq, ho, hb, hr⟩ => by
    rw [hb]
    intro b hm
    rcases List.mem_append.1 hm with hm | hm
    · exact own_lt ho b hm
    · obtain ⟨r, hrm, hbr⟩ := List.mem_flatMap.1 hm
      obtain ⟨_, b1, b2, he, h1, h2⟩ := hr r hrm
      have hbr' : b ∈ b1 ++ b2 := by rw [← he]; exact hbr
      rcases List.mem_append.1 hbr' with hbr' | hbr'
      · exact OwS.lt m _ _ _ _ h1 b hbr'
      · exact OwS.lt m _ _ _ _ h2 b hbr'
theorem OwN.lt {w : World} {m : Nat} {n : Nd} {h : Hd} {bs : List Nat} (hn : OwN w m n h bs) : ∀ b ∈ bs, b < w.heap.size ∧ Clean w b := by
  obtain ⟨_, b1, b2, he, h1, h2⟩ := hn
  intro b hb
  rw [he] at hb
  rcases List.mem_append.1 hb with hb | hb
  · exact h1.lt _ _ _ _ _ b hb
  · exact h2.lt _ _ _ _ _ b hb
theorem OwS.nil (w : World) : ∀ m, OwS w m none 0 [] []
  | 0 => ⟨rfl, World.ownsRow_nil _ _ _ _, rfl⟩
  | m + 1 => ⟨[], rfl, World.ownsRow_nil _ _ _ _, rfl, fun r h => by cases h⟩
theorem OwN.none (w : World) (m : Nat) : OwN w m (.mk 0 ⟨#[]⟩ [] 0 0 []) ⟨none, 0, none, 0⟩ [] := ⟨by decide, [], [], rfl, OwS.nil w m, OwS.nil w m⟩
theorem OwS.succ {w : World} : ∀ (m : Nat) (A : Option Addr) (c : Nat) (l : List Nd) (bs : List Nat), OwS w m A c l bs → OwS w (m + 1) A c l bs
  | 0, A, c, l, bs, ⟨hl, ho, hb⟩ => ⟨[], by rw [hl]; rfl, ho, by rw [hb]; simp [blkB], fun r h => by cases h⟩
  | m + 1, A, c, l, bs, ⟨q, hq, ho, hb, hr⟩ => ⟨q, hq, ho, hb, fun r hm => by
    obtain ⟨h0, b1, b2, he, h1, h2⟩ := hr r hm
    exact ⟨h0, b1, b2, he, OwS.succ m _ _ _ _ h1, OwS.succ m _ _ _ _ h2⟩⟩
theorem OwN.succ {w : World} {m : Nat} {n : Nd} {h : Hd} {bs : List Nat} (hn : OwN w m n h bs) : OwN w (m + 1) n h bs := by
  obtain ⟨h0, b1, b2, he, h1, h2⟩ := hn
  exact ⟨h0, b1, b2, he, h1.succ _ _ _ _ _, h2.succ _ _ _ _ _⟩
/-- what is one's own lies in memory. -/
def InB (w : World) (bs : List Nat) : Nat → Prop := fun k => k ∈ bs ∧ Clean w k
theorem own_len {w : World} {n k c : Nat} {A : Option Addr} {xs : List Value} (h : w.ownsRow 0 nodeT 6 (.slice A n c) k xs) : k ≤ maxLen := by
  rcases own_blk h with ⟨_, _, _, h0⟩ | ⟨_, _, _, _, _, _, h1, h2, _⟩
  · omega
  · omega
theorem rowB_at {q : List NB} {k : Nat} {r : NB} (h : q[k]? = some r) : (q.map fun r => (r.1, r.2.1))[k]? = some (r.1, r.2.1) := by rw [List.getElem?_map, h]; rfl
theorem OwS.nds {w : World} : ∀ (m : Nat) (A : Option Addr) (c : Nat) (l : List Nd) (bs : List Nat), OwS w m A c l bs → NdsAt w (InB w bs) m A l
  | 0, A, c, l, bs, ⟨hl, _, _⟩ => hl
  | m + 1, A, c, l, bs, ⟨q, hq, ho, hb, hr⟩ => by
    have hlen := own_len ho
    refine ⟨by rw [← hq, List.length_map]; exact hlen, q.map fun r => (r.1, r.2.1), by rw [List.map_map]; exact hq, ?_, fun r hm => ?_⟩
    · rcases own_blk ho with ⟨_, h0, _⟩ | ⟨g, cur, hA, _, _, hg, h3, h4, h5, h6⟩
      · left
        rw [List.eq_nil_of_length_eq_zero h0]; rfl
      · right
        refine ⟨⟨g, 0, Option.none⟩, hA, ⟨by rw [hb, hA]; exact List.mem_append_left _ (List.mem_singleton.2 rfl), _, _, hg⟩, at_cells fun j u hj => ?_⟩
        rw [add_zero0, cell_of_row _ _ _ _ _ _ hg]
        have hj' : (cur.toList.take (q.length * 6))[j]? = some u := by rw [h6]; exact hj
        have hlt : j < q.length * 6 := by
          rcases Nat.lt_or_ge j (q.length * 6) with h | h
          · exact h
          · rw [List.getElem?_eq_none (by rw [List.length_take]; omega)] at hj'; cases hj'
        rw [List.getElem?_take_of_lt hlt] at hj'
        simpa using hj'
    · obtain ⟨r0, hr0, rfl⟩ := List.mem_map.1 hm
      obtain ⟨h0, b1, b2, he, h1, h2⟩ := hr r0 hr0
      have hsub : ∀ b ∈ r0.2.2, b ∈ bs := fun b hbm => by rw [hb]; exact List.mem_append_right _ (List.mem_flatMap.2 ⟨r0, hr0, hbm⟩)
      exact ⟨h0, (OwS.nds m _ _ _ _ h1).weak (fun k hk => ⟨hsub k (by rw [he]; exact List.mem_append_left _ hk.1), hk.2⟩), (OwS.nds m _ _ _ _ h2).weak (fun k hk => ⟨hsub k (by rw [he]; exact List.mem_append_right _ hk.1), hk.2⟩)⟩
theorem OwN.nd {w : World} {m : Nat} {n : Nd} {h : Hd} {bs : List Nat} (hn : OwN w m n h bs) : NdAt w (InB w bs) m n h := by
  obtain ⟨h0, b1, b2, he, h1, h2⟩ := hn
  exact ⟨h0, (h1.nds _ _ _ _ _).weak (fun k hk => ⟨by rw [he]; exact List.mem_append_left _ hk.1, hk.2⟩), (h2.nds _ _ _ _ _).weak (fun k hk => ⟨by rw [he]; exact List.mem_append_right _ hk.1, hk.2⟩)⟩
/-- the call's own nodes in a row, what is within being one's own too, each block once. -/
def RowO (w : World) (B : Nat) (v : Value) (q : List NB) (M : Nat) : Prop :=
  w.ownsRow B nodeT 6 v q.length (rowB q) ∧ (∀ r ∈ q, OwN w M r.1 r.2.1 r.2.2) ∧ (blkB q).Nodup ∧ ∀ b ∈ blkB q, B ≤ b ∧ some b ≠ v.ownBlock
theorem RowO.nil (w : World) (B M : Nat) : RowO w B (.slice none 0 0) [] M := ⟨World.ownsRow_nil _ _ _ _, fun r h => (by cases h), List.nodup_nil, fun b h => (by cases h)⟩
theorem RowO.lt {w : World} {B M : Nat} {v : Value} {q : List NB} (h : RowO w B v q M) : ∀ b ∈ blkB q, b < w.heap.size := by
  intro b hb
  obtain ⟨r, hr, hbr⟩ := List.mem_flatMap.1 hb
  exact ((h.2.1 r hr).lt b hbr).1
theorem RowO.low {w w' : World} {B M : Nat} {v : Value} {q : List NB} (h : RowO w B v q M) (hb : Below w.heap.size w w') : RowO w' B v q M :=
  ⟨h.1.kept (row := none) ⟨hb.os, hb.tape, hb.output, hb.size, fun k hk _ => hb.block k hk⟩ (by
    by_cases hv : v.ownBlock = none
    · exact .inl hv
    · exact .inr (fun e => hv e)), fun r hr => (h.2.1 r hr).frame (fun b hbr => hb.block b ((h.2.1 r hr).lt b hbr).1), h.2.2⟩
theorem RowO.drew {w : World} {B M : Nat} {v : Value} {q : List NB} (h : RowO w B v q M) : RowO w.drew B v q M := ⟨h.1.drew, fun r hr => (h.2.1 r hr).frame (fun _ _ => rfl), h.2.2⟩
theorem RowO.alloc {w : World} {B M : Nat} {v : Value} {q : List NB} (h : RowO w B v q M) (o : Obj) : RowO (w.alloc o) B v q M := h.low ((Below.refl _ _).alloc (Nat.le_refl _) o)
theorem RowO.store {w : World} {B M g i : Nat} {u v : Value} {q : List NB} (h : RowO w B v q M) (hg : g < B) : RowO (w.setCell ⟨g, i, none⟩ u) B v q M :=
  ⟨ownsRow_setCell_below h.1 hg u, fun r hr => (h.2.1 r hr).frame (fun b hbr => Below.heap_setCell w ⟨g, i, none⟩ u b (by have := (h.2.2.2 b (List.mem_flatMap.2 ⟨r, hr, hbr⟩)).1; show b ≠ g; omega)), h.2.2⟩
theorem blkB_snoc (q : List NB) (r : NB) : blkB (q ++ [r]) = blkB q ++ r.2.2 := by unfold blkB; simp
theorem rowB_snoc (q : List NB) (r : NB) : rowB (q ++ [r]) = rowB q ++ rowOf [(r.1, r.2.1)] := by unfold rowB; rw [List.map_append, rowOf_app]; rfl
theorem RowO.next {w3 w4 : World} {B H M : Nat} {v v' : Value} {q : List NB} {y : Nd} {hy : Hd} {bs : List Nat} (h : RowO w3 B v q M) (hny : OwN w3 M y hy bs) (hnd : bs.Nodup) (hbs : ∀ b ∈ bs, H ≤ b) (hBH : B ≤ H) (hqH : ∀ b ∈ blkB q, b < H) (hvH : ∀ k, v.ownBlock = some k → k < H)
    (hown : w4.ownsRow B nodeT 6 v' (q.length + 1) (rowB q ++ rowOf [(y, hy)])) (hgrow : w3.grownBy w4 v.ownBlock) (hat : v'.ownBlock = v.ownBlock ∨ v'.ownBlock = some w3.heap.size) : RowO w4 B v' (q ++ [(y, hy, bs)]) M := by
  have hk : ∀ b, b < w3.heap.size → some b ≠ v.ownBlock → w4.heap[b]? = w3.heap[b]? ∧ some b ≠ v'.ownBlock := fun b h1 h2 => ⟨hgrow.block b h1 h2, by
    rcases hat with e | e
    · rw [e]; exact h2
    · rw [e]; intro e2; injection e2 with e2; omega⟩
  have hy' : ∀ b ∈ bs, b < w3.heap.size ∧ some b ≠ v.ownBlock := fun b hb => ⟨(hny.lt b hb).1, fun e => by have := hvH b e.symm; have := hbs b hb; omega⟩
  refine ⟨by rw [List.length_append, rowB_snoc]; exact hown, fun r hr => ?_, ?_, ?_⟩
  · rcases List.mem_append.1 hr with hr | hr
    · exact (h.2.1 r hr).frame (fun b hb => (hk b (((h.2.1 r hr).lt b hb).1) (h.2.2.2 b (List.mem_flatMap.2 ⟨r, hr, hb⟩)).2).1)
    · obtain rfl := List.mem_singleton.1 hr
      exact hny.frame (fun b hb => (hk b (hy' b hb).1 (hy' b hb).2).1)
  · rw [blkB_snoc]
    exact List.nodup_append.2 ⟨h.2.2.1, hnd, fun a ha b hb e => by have := hqH a ha; have := hbs b hb; omega⟩
  · intro b hb
    rw [blkB_snoc] at hb
    rcases List.mem_append.1 hb with hb | hb
    · exact ⟨(h.2.2.2 b hb).1, (hk b (h.lt b hb) (h.2.2.2 b hb).2).2⟩
    · exact ⟨Nat.le_trans hBH (hbs b hb), (hk b (hy' b hb).1 (hy' b hb).2).2⟩
theorem own_zero {w : World} {B : Nat} {v : Value} {n : Nat} {xs : List Value} (h : w.ownsRow B nodeT 6 v n xs) : w.ownsRow 0 nodeT 6 v n xs := by
  refine ⟨h.1, ?_⟩
  rcases h.2 with hv | ⟨g, cap, cur, hv, _, h3⟩
  · exact .inl hv
  · exact .inr ⟨g, cap, cur, hv, Nat.zero_le _, h3⟩
/-- a row that is done is a tree. -/
theorem RowO.done {w : World} {B M : Nat} {v : Value} {q : List NB} (h : RowO w B v q M) : ∃ A c bs, v = .slice A q.length c ∧ OwS w (M + 1) A c (q.map (·.1)) bs ∧ bs.Nodup ∧ ∀ b ∈ bs, B ≤ b := by
  have hv : ∃ A c, v = .slice A q.length c := by
    rcases h.1.2 with ⟨h1, h0⟩ | ⟨g, cap, cur, h1, _⟩
    · exact ⟨none, 0, by rw [h1, h0]⟩
    · exact ⟨_, _, h1⟩
  obtain ⟨A, c, rfl⟩ := hv
  refine ⟨A, c, blk A ++ blkB q, rfl, ⟨q, rfl, own_zero h.1, rfl, fun r hr => h.2.1 r hr⟩, ?_, ?_⟩
  · refine List.nodup_append.2 ⟨?_, h.2.2.1, fun a ha b hb e => ?_⟩
    · cases A with
      | none => exact List.nodup_nil
      | some x => exact List.nodup_cons.2 ⟨by simp, List.nodup_nil⟩
    · cases A with
      | none => cases ha
      | some x =>
        obtain rfl := List.mem_singleton.1 ha
        exact (h.2.2.2 b hb).2 (by rw [← e]; rfl)
  · intro b hb
    rcases List.mem_append.1 hb with hb | hb
    · rcases own_blk h.1 with ⟨rfl, _⟩ | ⟨g, cur, rfl, _, hg, _⟩
      · cases hb
      · obtain rfl := List.mem_singleton.1 hb; exact hg
    · exact (h.2.2.2 b hb).1
/-- a tree of one's own is handed back. -/
def NewO (m : Nat) (n : Nd) (w : World) (e : Ending) (w' : World) : Prop := ∃ (h : Hd) (bs : List Nat), e = .returned (.agg #[.int .i64 n.kind, .string n.data, .slice h.A n.ptrs.length h.a, .int .i64 n.size, .int .i64 n.count, .slice h.B n.items.length h.b]) ∧ OwN w' m n h bs ∧ bs.Nodup ∧ (∀ b ∈ bs, w.heap.size ≤ b) ∧ Below w.heap.size w w'
def NewOS (m : Nat) (l : List Nd) (w : World) (e : Ending) (w' : World) : Prop := ∃ (A : Option Addr) (c : Nat) (bs : List Nat), e = .returned (.slice A l.length c) ∧ OwS w' m A c l bs ∧ bs.Nodup ∧ (∀ b ∈ bs, w.heap.size ≤ b) ∧ Below w.heap.size w w'
theorem OwN.below {w w' : World} {m : Nat} {n : Nd} {h : Hd} {bs : List Nat} (hn : OwN w m n h bs) (hb : Below w.heap.size w w') : OwN w' m n h bs := hn.frame (fun b hm => hb.block b (hn.lt b hm).1)
theorem OwS.below {w w' : World} {m : Nat} {A : Option Addr} {c : Nat} {l : List Nd} {bs : List Nat} (hn : OwS w m A c l bs) (hb : Below w.heap.size w w') : OwS w' m A c l bs := hn.frame _ _ _ _ _ (fun b hm => hb.block b (hn.lt _ _ _ _ _ b hm).1)
theorem OwN.clean {w : World} {m : Nat} {n : Nd} {h : Hd} {bs : List Nat} (hn : OwN w m n h bs) : NdAt w (Clean w) m n h := hn.nd.weak (fun _ hk => hk.2)
end Go.Proofs.YtbhmklbdfmgmlaaGreat

/- The one form of a node, purely: items, cut; how great it is. -/
namespace Go.Proofs.YtbhmklbdfmgmlaaGreat
open Go.RowKit
theorem can_kind0 {p : Nd} (h : formN p = true) (hk : (canN p).kind = 0) : canN p = noneNd := by
  rw [canN_kind] at hk
  rw [none_eq h hk, can_none]
/-- an item of the one form, as it is cut. -/
theorem even_cut {y : Nd} {D P : Nat} (k1 : y.kind = 1) (k3 : y.size = 0) (k4 : y.count = 0) (k5 : y.items = []) (h8 : y.data.size % 8 = 0) (hD8 : D % 8 = 0) (hD1 : (canN y).data.size ≤ D) (hD2 : D ≤ y.data.size) (hP1 : endC (y.ptrs.map canN) ≤ P) (hP2 : P ≤ y.ptrs.length) (hn : ∀ p ∈ y.ptrs, formN p = true) :
    evenN D P (canN y) = .mk 1 (y.data.extract 0 D) ((y.ptrs.map canN).take P) 0 0 [] := by
  have hd := can_data8 k1 k3 k4 k5
  rw [take_even hP1 (by rw [List.length_map]; exact hP2) (fun q hq h0 => by
    obtain ⟨p, hp, rfl⟩ := List.mem_map.1 hq
    exact can_kind0 (hn p hp) h0)]
  rw [show D = 8 * (D / 8) by omega, trimD_cut (j := D / 8) h8 (by omega) (by omega)]
  rw [can_str k1 k3 k4 k5] at hd ⊢
  have hd' : (trimD y.data).size = 8 * tw y.data.data.toList := hd
  show Nd.mk 1 (trimD y.data ++ zeroD (8 * (D / 8) - (trimD y.data).size)) (endP (y.ptrs.map canN) ++ List.replicate (P - (endP (y.ptrs.map canN)).length) noneNd) 0 0 [] = _
  rw [endP_length, show 8 * (D / 8) - (trimD y.data).size = 8 * (D / 8 - tw y.data.data.toList) by omega]
mutual
/-- how great a node is, with all within. -/
def sizN : Nd → Nat
  | .mk _ d p _ _ i => d.size + sizL p + sizL i
def sizL : List Nd → Nat
  | [] => 0
  | n :: t => 1 + sizN n + sizL t
end
theorem sizL_map : ∀ l : List Nd, sizL l = (l.map fun n => 1 + sizN n).sum
  | [] => by rw [sizL]; rfl
  | n :: t => by rw [sizL, sizL_map t]; simp
theorem sizN_eq (n : Nd) : sizN n = n.data.size + sizL n.ptrs + sizL n.items := by
  cases n with
  | mk k d p s c i => rw [sizN]; rfl
theorem sizL_nil : sizL [] = 0 := by rw [sizL]
theorem totL_siz {w : World} {S : Nat → Prop} : ∀ (m : Nat) (A : Option Addr) (l : List Nd), NdsAt w S m A l → totL m l = sizL l
  | 0, A, l, h => by rw [h.zero, sizL_nil]; rfl
  | m + 1, A, l, h => by
    rw [totL_succ, sizL_map]
    congr 1
    apply List.map_congr_left
    intro n hn
    obtain ⟨hd, h1⟩ := h.mem n hn
    unfold totN
    rw [sizN_eq, totL_siz m _ _ h1.2.1, totL_siz m _ _ h1.2.2]
theorem totN_siz {w : World} {S : Nat → Prop} {m : Nat} {n : Nd} {h : Hd} (hn : NdAt w S m n h) : totN m n = sizN n := by
  unfold totN
  rw [sizN_eq, totL_siz m _ _ hn.2.1, totL_siz m _ _ hn.2.2]
theorem sizL_app (a b : List Nd) : sizL (a ++ b) = sizL a + sizL b := by rw [sizL_map, sizL_map, sizL_map, List.map_append, List.sum_append]
theorem sizL_take (l : List Nd) (k : Nat) : sizL (l.take k) ≤ sizL l := by
  conv => rhs; rw [← List.take_append_drop k l]
  rw [sizL_app]; omega
theorem sizL_le {l : List Nd} {f : Nd → Nd} (h : ∀ n ∈ l, sizN (f n) ≤ sizN n) : sizL (l.map f) ≤ sizL l := by
  rw [sizL_map, sizL_map, List.map_map]
  exact sum_le _ _ _ fun n hn => by have := h n hn; show 1 + sizN (f n) ≤ 1 + sizN n; omega
/-- the items of the one form, as they are cut. -/
theorem evenL_cut {n : Nd} (hf : formN n = true) (hk : ∀ p ∈ ptrsL n, formN p = true) : evenL (n.items.map canN) = n.items.map (fun y => .mk 1 (y.data.extract 0 (topD (n.items.map canN))) ((y.ptrs.map canN).take (topP (n.items.map canN))) 0 0 []) ∧
    ∀ y ∈ n.items, y.kind = 1 ∧ y.data.size % 8 = 0 ∧ y.size = 0 ∧ y.count = 0 ∧ y.items = [] ∧ topD (n.items.map canN) ≤ y.data.size ∧ topP (n.items.map canN) ≤ y.ptrs.length := by
  rcases form_cases hf with hc | hc | hc
  · rw [nil_of_len hc.2.2.2.2.2]; exact ⟨rfl, fun y h => by cases h⟩
  · rw [nil_of_len hc.2.2.2.2]; exact ⟨rfl, fun y h => by cases h⟩
  · obtain ⟨h1, h2, hc | hc | hc⟩ := hc
    · rw [nil_of_len hc.2.2.2.2]; exact ⟨rfl, fun y h => by cases h⟩
    · rw [nil_of_len hc.2.2.2]; exact ⟨rfl, fun y h => by cases h⟩
    · have hi := hc.2.2.2.2
      have hb := can_item_kind hi
      have hD : topD (n.items.map canN) ≤ (n.items.headD default).data.size := topD_le fun z hz => by
        obtain ⟨y, hy, rfl⟩ := List.mem_map.1 hz
        obtain ⟨k1, k2, k3, k4, k5, k6, _⟩ := hb y hy
        rw [can_data8 k1 k3 k4 k5]
        have l2 := tw_le y.data.data.toList
        have l3 : y.data.data.toList.length = y.data.size := by simp
        omega
      have hP : topP (n.items.map canN) ≤ (n.items.headD default).ptrs.length := topP_le fun z hz => by
        obtain ⟨y, hy, rfl⟩ := List.mem_map.1 hz
        obtain ⟨k1, k2, k3, k4, k5, _, k7⟩ := hb y hy
        rw [can_str k1 k3 k4 k5]
        show (endP (y.ptrs.map canN)).length ≤ _
        have l4 := endC_le (y.ptrs.map canN)
        rw [endP_length]
        rw [List.length_map] at l4
        omega
      have h8 : topD (n.items.map canN) % 8 = 0 := topD_8 fun z hz => by
        obtain ⟨y2, hy2, rfl⟩ := List.mem_map.1 hz
        obtain ⟨k1, k2, k3, k4, k5, _, _⟩ := hb y2 hy2
        rw [can_data8 k1 k3 k4 k5]; omega
      refine ⟨?_, fun y hy => ?_⟩
      · show (n.items.map canN).map (evenN (topD (n.items.map canN)) (topP (n.items.map canN))) = _
        rw [List.map_map]
        apply List.map_congr_left
        intro y hy
        obtain ⟨k1, k2, k3, k4, k5, k6, k7⟩ := hb y hy
        have hy1 := le_topD _ _ (List.mem_map.2 ⟨y, hy, rfl⟩ : canN y ∈ n.items.map canN)
        have hy2 := le_topP _ _ (List.mem_map.2 ⟨y, hy, rfl⟩ : canN y ∈ n.items.map canN)
        have hy3 : (canN y).ptrs.length = endC (y.ptrs.map canN) := by rw [can_str k1 k3 k4 k5]; exact endP_length _
        exact even_cut k1 k3 k4 k5 k2 h8 hy1 (by omega) (by omega) (by omega) (fun p hp => hk p (List.mem_append_right _ (List.mem_flatMap.2 ⟨y, hy, hp⟩)))
      · obtain ⟨k1, k2, k3, k4, k5, k6, k7⟩ := hb y hy
        exact ⟨k1, k2, k3, k4, k5, by omega, by omega⟩
theorem siz_can : ∀ (d : Nat) (n : Nd), okN d n = true → sizN (canN n) ≤ sizN n
  | 0, n, h => by
    have hf := (ok_kids h).1
    simp only [okN, Bool.and_eq_true, decide_eq_true_eq] at h
    rw [none_eq hf h.2, can_none]; exact Nat.le_refl _
  | d + 1, n, h => by
    obtain ⟨hf, hk⟩ := ok_kids h
    have hp : sizL (n.ptrs.map canN) ≤ sizL n.ptrs := sizL_le fun p hp => siz_can d p (hk p (List.mem_append_left _ hp))
    rcases form_cases hf with hc | hc | hc
    · rw [none_eq hf hc.1, can_none]; exact Nat.le_refl _
    · obtain ⟨h1, h2, h3, h4, h5⟩ := hc
      rw [can_str h1 h3 h4 (nil_of_len h5), sizN_eq, sizN_eq n]
      show (trimD n.data).size + sizL (endP (n.ptrs.map canN)) + sizL [] ≤ _
      have l1 := trimD_size n.data
      have l2 := tw_le n.data.data.toList
      have l3 : n.data.data.toList.length = n.data.size := by simp
      have l4 : sizL (endP (n.ptrs.map canN)) ≤ sizL (n.ptrs.map canN) := sizL_take _ _
      rw [sizL_nil]
      omega
    · have h1 := hc.1
      obtain ⟨he, hb⟩ := evenL_cut hf (fun p hp => (ok_kids (hk p hp)).1)
      rw [can_lis h1, sizN_eq, sizN_eq n]
      show n.data.size + sizL (n.ptrs.map canN) + sizL (evenL (n.items.map canN)) ≤ _
      have : sizL (evenL (n.items.map canN)) ≤ sizL n.items := by
        rw [he]
        refine sizL_le fun y hy => ?_
        obtain ⟨k1, k2, k3, k4, k5, k6, k7⟩ := hb y hy
        rw [sizN_eq, sizN_eq y, k5]
        show (y.data.extract 0 _).size + sizL ((y.ptrs.map canN).take _) + sizL [] ≤ _
        have l1 : (y.data.extract 0 (topD (n.items.map canN))).size ≤ y.data.size := by simp [ByteArray.size_extract]; omega
        have l2 := sizL_take (y.ptrs.map canN) (topP (n.items.map canN))
        have l3 : sizL (y.ptrs.map canN) ≤ sizL y.ptrs := sizL_le fun p hp => siz_can d p (hk p (List.mem_append_right _ (List.mem_flatMap.2 ⟨y, hy, hp⟩)))
        omega
      omega
/-- within what is ok no words are more than 1600 bytes. -/
theorem ok_data {n : Nd} (h : nodeOk n = true) (hk : n.kind = 1) : n.data.size % 8 = 0 ∧ n.data.size ≤ 1592 := by
  obtain ⟨h1, h2⟩ := node_ok h
  have hf := (ok_kids h1).1
  rw [words_kids h1] at h2
  have h3 : (n.data.size + 7) / 8 ≤ ownN n := by unfold ownN ownB; omega
  rcases form_cases hf with hc | hc | hc
  · omega
  · exact ⟨by have := hc.2.1; omega, by have := hc.2.1; omega⟩
  · omega
end Go.Proofs.YtbhmklbdfmgmlaaGreat

/- A row of one's own nodes, written in place, node by node. No Go text. -/
namespace Go.Proofs.YtbhmklbdfmgmlaaGreat
open Go.RowKit
/-- the cells of a node. -/
def cellE (r : Nd × Hd) : Nat → Value
  | 0 => .int .i64 r.1.kind
  | 1 => .string r.1.data
  | 2 => .slice r.2.A r.1.ptrs.length r.2.a
  | 3 => .int .i64 r.1.size
  | 4 => .int .i64 r.1.count
  | _ => .slice r.2.B r.1.items.length r.2.b
theorem rowOf_get : ∀ (q : List (Nd × Hd)) (j : Nat), (rowOf q)[j]? = (q[j / 6]?).map fun r => cellE r (j % 6)
  | [], j => by simp [rowOf]
  | r :: t, 0 => rfl
  | r :: t, 1 => rfl
  | r :: t, 2 => rfl
  | r :: t, 3 => rfl
  | r :: t, 4 => rfl
  | r :: t, 5 => rfl
  | r :: t, j + 1 + 1 + 1 + 1 + 1 + 1 => by
    show (rowOf t)[j]? = _
    rw [rowOf_get t j, show (j + 1 + 1 + 1 + 1 + 1 + 1) / 6 = j / 6 + 1 by omega, show (j + 1 + 1 + 1 + 1 + 1 + 1) % 6 = j % 6 by omega, List.getElem?_cons_succ]
theorem row_upd {cur : Array Value} {c e : Nat} {pre post : List (Nd × Hd)} {r r' : Nd × Hd} (hs : cur.size = c * 6) (hle : (pre ++ r :: post).length ≤ c) (hc : cur.toList.take ((pre ++ r :: post).length * 6) = rowOf (pre ++ r :: post)) (he : e < 6) (hr : ∀ f, f < 6 → f ≠ e → cellE r' f = cellE r f) :
    (cur.setIfInBounds (pre.length * 6 + e) (cellE r' e)).toList.take ((pre ++ r' :: post).length * 6) = rowOf (pre ++ r' :: post) := by
  have hl : (pre ++ r' :: post).length = (pre ++ r :: post).length := by simp
  rw [hl]
  have hpl : pre.length < (pre ++ r :: post).length := by simp
  apply List.ext_getElem?
  intro j
  have h0 : (cur.toList.take ((pre ++ r :: post).length * 6))[j]? = ((pre ++ r :: post)[j / 6]?).map fun r => cellE r (j % 6) := by rw [hc, rowOf_get]
  rw [rowOf_get]
  by_cases hj : j < (pre ++ r :: post).length * 6
  · rw [List.getElem?_take_of_lt hj] at h0 ⊢
    rw [Array.getElem?_toList] at h0 ⊢
    rw [Array.getElem?_setIfInBounds]
    have hset : (pre ++ r' :: post)[j / 6]? = if j / 6 = pre.length then some r' else (pre ++ r :: post)[j / 6]? := by
      by_cases h : j / 6 = pre.length
      · rw [if_pos h, h, List.getElem?_append_right (Nat.le_refl _), Nat.sub_self]; rfl
      · rw [if_neg h]
        rcases Nat.lt_or_ge (j / 6) pre.length with h2 | h2
        · rw [List.getElem?_append_left h2, List.getElem?_append_left h2]
        · rw [List.getElem?_append_right h2, List.getElem?_append_right h2]
          obtain ⟨x, hx⟩ : ∃ x, j / 6 - pre.length = x + 1 := ⟨j / 6 - pre.length - 1, by omega⟩
          rw [hx, List.getElem?_cons_succ, List.getElem?_cons_succ]
    rw [hset]
    have hat : (pre ++ r :: post)[pre.length]? = some r := by rw [List.getElem?_append_right (Nat.le_refl _), Nat.sub_self]; rfl
    by_cases h1 : pre.length * 6 + e = j
    · rw [if_pos h1, if_pos (by omega), if_pos (by omega)]
      show some (cellE r' e) = some (cellE r' (j % 6))
      rw [show j % 6 = e by omega]
    · rw [if_neg h1]
      by_cases h2 : j / 6 = pre.length
      · rw [if_pos h2]
        rw [h2, hat] at h0
        rw [h0]
        show some (cellE r (j % 6)) = some (cellE r' (j % 6))
        rw [hr (j % 6) (by omega) (by omega)]
      · rw [if_neg h2, h0]
  · rw [List.getElem?_eq_none (by rw [List.length_take]; omega)]
    rw [List.getElem?_eq_none (by rw [hl]; omega)]; rfl
/-- a row in a block, and what is within, each block once. -/
def RowG (w : World) (g c : Nat) (q : List NB) (M : Nat) : Prop :=
  ∃ cur : Array Value, w.heap[g]? = some (.cells cur nodeT (0, 0)) ∧ cur.size = c * 6 ∧ q.length ≤ c ∧ c ≤ maxLen ∧ cur.toList.take (q.length * 6) = rowB q ∧ (∀ r ∈ q, OwN w M r.1 r.2.1 r.2.2) ∧ (blkB q).Nodup ∧ g ∉ blkB q
theorem rowB_app (a b : List NB) : rowB (a ++ b) = rowB a ++ rowB b := by unfold rowB; rw [List.map_append, rowOf_app]
theorem blkB_app (a b : List NB) : blkB (a ++ b) = blkB a ++ blkB b := by unfold blkB; rw [List.flatMap_append]
theorem blkB_cons (r : NB) (b : List NB) : blkB (r :: b) = r.2.2 ++ blkB b := by unfold blkB; rw [List.flatMap_cons]
theorem OwS.rowG {w : World} {M g c : Nat} {l : List Nd} {bs : List Nat} (h : OwS w (M + 1) (some ⟨g, 0, none⟩) c l bs) (hnd : bs.Nodup) : ∃ q : List NB, q.map (·.1) = l ∧ bs = g :: blkB q ∧ RowG w g c q M := by
  obtain ⟨q, hq, ho, hb, hr⟩ := h
  rcases own_blk ho with ⟨h1, _⟩ | ⟨g', cur, hg, h1, h2, h3, h4, h5, h6, h7⟩
  · cases h1
  · injection hg with hg
    injection hg with hg
    subst hg
    have hb' : bs = g :: blkB q := hb
    rw [hb'] at hnd
    have := List.nodup_cons.1 hnd
    exact ⟨q, hq, hb', cur, h3, h6, h4, h5, h7, hr, this.2, this.1⟩
theorem RowG.own {w : World} {M g c : Nat} {q : List NB} (h : RowG w g c q M) : OwS w (M + 1) (some ⟨g, 0, none⟩) c (q.map (·.1)) (g :: blkB q) ∧ (g :: blkB q).Nodup := by
  obtain ⟨cur, h1, h2, h3, h4, h5, h6, h7, h8⟩ := h
  exact ⟨⟨q, rfl, ⟨by rw [← h5, List.length_take]; simp; omega, .inr ⟨g, c, cur, rfl, Nat.zero_le _, h1, h3, h4, h2, h5⟩⟩, rfl, h6⟩, List.nodup_cons.2 ⟨h8, h7⟩⟩
theorem rowB_map (q : List NB) : q.map (fun r => (r.1, r.2.1)) = (q.map fun r => (r.1, r.2.1)) := rfl
/-- one cell of a node is written. -/
theorem RowG.set {w : World} {M g c : Nat} {pre post : List NB} {r : NB} {n' : Nd} (e : Nat) (v : Value) (h : RowG w g c (pre ++ r :: post) M) (he : e < 6) (hv : v = cellE (n', r.2.1) e) (hr : ∀ f, f < 6 → f ≠ e → cellE (n', r.2.1) f = cellE (r.1, r.2.1) f)
    (hp : n'.ptrs = r.1.ptrs) (hi : n'.items = r.1.items) (hd : n'.data.size ≤ maxLen) : RowG (w.setCell ⟨g, pre.length * 6 + e, none⟩ v) g c (pre ++ (n', r.2) :: post) M := by
  subst hv
  obtain ⟨cur, h1, h2, h3, h4, h5, h6, h7, h8⟩ := h
  have hlen : (pre ++ (n', r.2) :: post).length = (pre ++ r :: post).length := by simp
  have hblk : blkB (pre ++ (n', r.2) :: post) = blkB (pre ++ r :: post) := by rw [blkB_app, blkB_app, blkB_cons, blkB_cons]
  have hother : ∀ b, b ≠ g → (w.setCell ⟨g, pre.length * 6 + e, none⟩ (cellE (n', r.2.1) e)).heap[b]? = w.heap[b]? := fun b hb => Below.heap_setCell w ⟨g, pre.length * 6 + e, none⟩ _ b hb
  have hfr : ∀ x ∈ pre ++ r :: post, ∀ b ∈ x.2.2, b ≠ g := fun x hx b hb e => h8 (by rw [← e]; exact List.mem_flatMap.2 ⟨x, hx, hb⟩)
  refine ⟨_, row_setN h1 _ _, by simpa using h2, by rw [hlen]; exact h3, h4, ?_, fun x hx => ?_, by rw [hblk]; exact h7, by rw [hblk]; exact h8⟩
  · have h5' : cur.toList.take ((pre.map (fun r => (r.1, r.2.1)) ++ (r.1, r.2.1) :: post.map (fun r => (r.1, r.2.1))).length * 6) = rowOf (pre.map (fun r => (r.1, r.2.1)) ++ (r.1, r.2.1) :: post.map (fun r => (r.1, r.2.1))) := by
      have := h5
      unfold rowB at this
      rw [List.map_append, List.map_cons] at this
      simpa using this
    have := row_upd (r' := (n', r.2.1)) h2 (by simpa using h3) h5' he hr
    unfold rowB
    rw [List.map_append, List.map_cons]
    simpa using this
  · have hold : ∀ x ∈ pre ++ r :: post, OwN (w.setCell ⟨g, pre.length * 6 + e, none⟩ (cellE (n', r.2.1) e)) M x.1 x.2.1 x.2.2 := fun x hx => (h6 x hx).frame (fun b hb => hother b (hfr x hx b hb))
    rcases List.mem_append.1 hx with hx | hx
    · exact hold x (List.mem_append_left _ hx)
    · rcases List.mem_cons.1 hx with rfl | hx
      · obtain ⟨_, b1, b2, e1, e2, e3⟩ := hold r (List.mem_append_right _ List.mem_cons_self)
        refine ⟨hd, b1, b2, e1, ?_, ?_⟩
        · show OwS _ M r.2.1.A r.2.1.a n'.ptrs b1
          rw [hp]; exact e2
        · show OwS _ M r.2.1.B r.2.1.b n'.items b2
          rw [hi]; exact e3
      · exact hold x (List.mem_append_right _ (List.mem_cons_of_mem _ hx))
theorem RowG.frame {w w' : World} {M g c : Nat} {q : List NB} (h : RowG w g c q M) (hf : ∀ b, b = g ∨ b ∈ blkB q → w'.heap[b]? = w.heap[b]?) : RowG w' g c q M := by
  obtain ⟨cur, h1, h2, h3, h4, h5, h6, h7, h8⟩ := h
  exact ⟨cur, (hf g (.inl rfl)).trans h1, h2, h3, h4, h5, fun r hr => (h6 r hr).frame (fun b hb => hf b (.inr (List.mem_flatMap.2 ⟨r, hr, hb⟩))), h7, h8⟩
theorem RowG.lt {w : World} {M g c : Nat} {q : List NB} (h : RowG w g c q M) : g < w.heap.size ∧ ∀ b ∈ blkB q, b < w.heap.size := by
  obtain ⟨cur, h1, h2, h3, h4, h5, h6, h7, h8⟩ := h
  refine ⟨row_lt h1, fun b hb => ?_⟩
  obtain ⟨r, hr, hbr⟩ := List.mem_flatMap.1 hb
  exact ((h6 r hr).lt b hbr).1
theorem RowG.below {w w' : World} {M g c : Nat} {q : List NB} (h : RowG w g c q M) (hb : Below w.heap.size w w') : RowG w' g c q M :=
  h.frame (fun b hm => hb.block b (by rcases hm with rfl | hm; exact h.lt.1; exact h.lt.2 b hm))
/-- only some blocks are written. -/
structure OnlyIn (bs : List Nat) (w w' : World) : Prop where
  os : w'.os = w.os
  tape : w'.tape = w.tape
  output : w'.output = w.output
  size : w.heap.size ≤ w'.heap.size
  block : ∀ k, k < w.heap.size → k ∉ bs → w'.heap[k]? = w.heap[k]?
theorem OnlyIn.refl (bs : List Nat) (w : World) : OnlyIn bs w w := ⟨rfl, rfl, rfl, Nat.le_refl _, fun _ _ _ => rfl⟩
theorem OnlyIn.trans {bs : List Nat} {a b c : World} (h : OnlyIn bs a b) (k : OnlyIn bs b c) : OnlyIn bs a c :=
  ⟨k.os.trans h.os, k.tape.trans h.tape, k.output.trans h.output, Nat.le_trans h.size k.size, fun x hx hn => (k.block x (Nat.lt_of_lt_of_le hx h.size) hn).trans (h.block x hx hn)⟩
theorem OnlyIn.of_below {bs : List Nat} {w w' : World} (h : Below w.heap.size w w') : OnlyIn bs w w' := ⟨h.os, h.tape, h.output, h.size, fun k hk _ => h.block k hk⟩
theorem OnlyIn.setCell {bs : List Nat} {w : World} {p : Addr} (hp : p.block ∈ bs) (v : Value) : OnlyIn bs w (w.setCell p v) := ⟨rfl, rfl, rfl, by simp [World.setCell], fun k _ hn => Below.heap_setCell w p v k (fun e => hn (e ▸ hp))⟩
theorem OnlyIn.mono {bs bs' : List Nat} {w w' : World} (h : OnlyIn bs w w') (hs : ∀ b ∈ bs, b ∈ bs' ∨ w.heap.size ≤ b) : OnlyIn bs' w w' := ⟨h.os, h.tape, h.output, h.size, fun k hk hn => h.block k hk (fun hm => by rcases hs k hm with h | h; exact hn h; omega)⟩
theorem OnlyIn.below {bs : List Nat} {B : Nat} {w w' : World} (h : OnlyIn bs w w') (hB : B ≤ w.heap.size) (hs : ∀ b ∈ bs, B ≤ b) : Below B w w' := ⟨h.os, h.tape, h.output, h.size, fun k hk => h.block k (by omega) (fun hm => by have := hs k hm; omega)⟩
theorem OnlyIn.drew {bs : List Nat} {w w' : World} (h : OnlyIn bs w w') : OnlyIn bs w w'.drew := ⟨h.os, h.tape, h.output, h.size, h.block⟩
/-- of a tree some nodes at the end are left out. -/
theorem OwS.take {w : World} {m c : Nat} {A : Option Addr} {l : List Nd} {bs : List Nat} (h : OwS w m A c l bs) (k : Nat) (hk : k ≤ l.length) : ∃ bs', OwS w m A c (l.take k) bs' ∧ bs'.Sublist bs := by
  cases m with
  | zero =>
    obtain ⟨hl, ho, hb⟩ := h
    subst hl
    refine ⟨bs, ⟨by simp, ho, hb⟩, List.Sublist.refl _⟩
  | succ m =>
    obtain ⟨q, hq, ho, hb, hr⟩ := h
    have hql : q.length = l.length := by rw [← hq, List.length_map]
    have hsub : (blkB (q.take k)).Sublist (blkB q) := by
      conv => rhs; rw [← List.take_append_drop k q]
      rw [blkB_app]
      exact List.sublist_append_left _ _
    refine ⟨blk A ++ blkB (q.take k), ⟨q.take k, by rw [List.map_take, hq], ?_, rfl, fun r hm => hr r (List.mem_of_mem_take hm)⟩, by rw [hb]; exact List.Sublist.append (List.Sublist.refl _) hsub⟩
    have hlk : (q.take k).length = k := by rw [List.length_take]; omega
    rw [hlk]
    have hrl : (rowB (q.take k)).length = k * 6 := by unfold rowB; rw [rowOf_length, List.length_map, hlk]
    refine ⟨hrl, ?_⟩
    rcases own_blk ho with ⟨h1, h2, h3, h4⟩ | ⟨g, cur, h1, h2, h3, h4, h5, h6, h7, h8⟩
    · left; rw [h1, h3]; exact ⟨by rw [show k = 0 by omega], by omega⟩
    · right
      refine ⟨g, c, cur, by rw [h1], h3, h4, by omega, h6, h7, ?_⟩
      have e1 : rowB q = rowB (q.take k) ++ rowB (q.drop k) := by rw [← rowB_app, List.take_append_drop]
      have e2 : cur.toList.take (k * 6) = (cur.toList.take (q.length * 6)).take (k * 6) := by rw [List.take_take, Nat.min_eq_left (by omega)]
      rw [e2, h8, e1, List.take_append_of_le_length (by rw [hrl]; exact Nat.le_refl _), List.take_of_length_le (by rw [hrl]; exact Nat.le_refl _)]
end Go.Proofs.YtbhmklbdfmgmlaaGreat
