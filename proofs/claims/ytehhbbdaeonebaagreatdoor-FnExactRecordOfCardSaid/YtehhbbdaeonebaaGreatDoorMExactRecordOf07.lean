/- Texts of the proof of the law FnExactRecordOf, side by side: part 7. -/
import Derived.Maps.AppendAt
import Derived.Test.YtehhbbdaeonebaaGreatDoorMExactRecordOf06
set_option maxHeartbeats 8000000
set_option maxRecDepth 100000
namespace Go.Proofs.YtehhbbdaeonebaaGreatDoor
open Go.RowKit
theorem info5 : (Tryz.prog.info? 5).map (fun i => (i.zero, i.size, i.bytes)) = some (some (.int .u8 0), 1, 1) := by kernel_rfl
theorem l1Bytes_any (n size : Int) (w : World) (h0 : 0 ≤ size) (h1 : size ≤ 1000000) :
 Calls Tryz.prog 69 #[.int .i64 n, .int .i64 size] w fun e w' => e = .returned (.string ⟨(leB n size.toNat).toArray⟩) ∧ Below w.heap.size w w' := by
 obtain ⟨z, rfl⟩ := Int.eq_ofNat_of_zero_le h0
 obtain ⟨i0, hi, hz0, hz1, hz2⟩ := info_parts info5
 go_enter Tryz.func69, Tryz.ntmps69
 go_wp2
 go_loopw [0, 5, 6] (fun m v i wr => ∃ k : Nat, k ≤ z ∧ i = .int .i64 k ∧ m = .int .i64 (shr8 n k) ∧ Hid (wr.ownsRow w.heap.size 5 1 v k (Lib.byteCells (leB n k))) ∧ Hid (Below w.heap.size w wr)) (fun _ _ i _ => (z - intOf i).toNat)
 case atStart => exact ⟨0, by omega, rfl, rfl, World.ownsRow_made w #[] 0 (Nat.le_refl _) (by decide) rfl, (Below.refl _ _).alloc (Nat.le_refl _) _⟩
 case round =>
  obtain ⟨k, hk, rfl, rfl, hown, HB⟩ := hrel
  by_cases hlt : k < z
  · have hb : Hid (∀ b : Int, b = ((UInt8.ofNat (shr8 n k % 256).toNat).toNat : Int) → Lib.byteCells (leB n k) ++ [.int .u8 b] = Lib.byteCells (leB n (k + 1))) := fun b hb => by rw [hb, byteCells_snoc', ← leB_snoc]
    go_wp2_with (at_builtin; go_must (refine wpList_append_own _ rfl (.tmp 13) (.tmp 16) 123 rfl w.heap.size 5 i0 (.int .u8 0) 1 1 Tryz.underlying123 hi hz0 hz1 hz2 rfl (by decide) u5 _ _ rfl (hown.out.alloc _) ⟨wr.heap.size, 0, none⟩ 1 1 [_] rfl rfl (cell_one_new _ _ _) (by simp [Value.oneCell']) (by unfold maxLen; omega) (by omega) (by have := HB.out.size; simp; omega) ?_); intro v' w1 hown' hgrow _)
    have hrel' : w1.ownsRow w.heap.size 5 1 v' (k + 1) (Lib.byteCells (leB n (k + 1))) := by rw [← hb.out _ (ofNat_toNat_u8 _).symm]; exact hown'
    have hB' : Below w.heap.size w w1 := below_append HB.out HB.out.size hown.out hgrow
    go_roundw
    case rel => exact ⟨k + 1, by omega, by go_num, rfl, hrel', hB'⟩
    case measure => simp [intOf]; omega
  · obtain rfl : k = z := by omega
    have hcv := convert_own (P := Tryz.prog) wr 123 9 5 w.heap.size k (leB n k) u5 (leB_length n k) Tryz.underlying123 Tryz.underlying5 Tryz.underlying9 hown.out
    go_wp2
    go_ret
    exact ⟨by simp, HB.out⟩
theorem cells_six_new (w : World) (r : Nd × Hd) (t : TypeId) : ∀ j u, (rowOf [r])[j]? = some u → (w.alloc (.cells #[.int .i64 r.1.kind, .string r.1.data, .slice r.2.A r.1.ptrs.length r.2.a, .int .i64 r.1.size, .int .i64 r.1.count, .slice r.2.B r.1.items.length r.2.b] t)).cell? ((⟨w.heap.size, 0, none⟩ : Addr).add j) = some u := by
 intro j u hj
 rw [add_zero0, cell_of_row _ _ _ _ _ (0, 0) (heap_alloc_new w _)]
 simp only [rowOf] at hj
 match j, hj with
 | 0, hj => simpa using hj
 | 1, hj => simpa using hj
 | 2, hj => simpa using hj
 | 3, hj => simpa using hj
 | 4, hj => simpa using hj
 | 5, hj => simpa using hj
open Go.RowKit Go.Deep
end Go.Proofs.YtehhbbdaeonebaaGreatDoor
namespace Go.Proofs.YtehhbbdaeonebaaGreatDoor
open Go.RowKit
def blk : Option Addr → List Nat
 | none => []
 | some a => [a.block]
abbrev NB := Nd × Hd × List Nat
def rowB (q : List NB) : List Value := rowOf (q.map fun r => (r.1, r.2.1))
def blkB (q : List NB) : List Nat := q.flatMap fun r => r.2.2
def OwS (w : World) : Nat → Option Addr → Nat → List Nd → List Nat → Prop
 | 0, A, c, l, bs => l = [] ∧ w.ownsRow 0 nodeT 6 (.slice A 0 c) 0 [] ∧ bs = blk A
 | m + 1, A, c, l, bs => ∃ q : List NB, q.map (·.1) = l ∧ w.ownsRow 0 nodeT 6 (.slice A q.length c) q.length (rowB q) ∧ bs = blk A ++ blkB q ∧
    ∀ r ∈ q, r.1.data.size ≤ maxLen ∧ ∃ b1 b2, r.2.2 = b1 ++ b2 ∧ OwS w m r.2.1.A r.2.1.a r.1.ptrs b1 ∧ OwS w m r.2.1.B r.2.1.b r.1.items b2
def OwN (w : World) (m : Nat) (n : Nd) (h : Hd) (bs : List Nat) : Prop := n.data.size ≤ maxLen ∧ ∃ b1 b2, bs = b1 ++ b2 ∧ OwS w m h.A h.a n.ptrs b1 ∧ OwS w m h.B h.b n.items b2
theorem own_blk {w : World} {B n k c : Nat} {A : Option Addr} {xs : List Value} (h : w.ownsRow B nodeT 6 (.slice A n c) k xs) : (A = none ∧ n = 0 ∧ c = 0 ∧ k = 0) ∨ ∃ g cur, A = some ⟨g, 0, none⟩ ∧ n = k ∧ B ≤ g ∧ w.heap[g]? = some (.cells cur nodeT (0, 0)) ∧ k ≤ c ∧ c ≤ maxLen ∧ cur.size = c * 6 ∧ cur.toList.take (k * 6) = xs := by
 rcases h.2 with ⟨hv, h0⟩ | ⟨g, cap, cur, hv, h1, h2, h3, h4, h5, h6⟩
 · injection hv with a b c
   exact .inl ⟨a, b, c, h0⟩
 · injection hv with a b c
   subst a b c
   exact .inr ⟨g, cur, rfl, rfl, h1, h2, h3, h4, h5, h6⟩
theorem own_frame {w w' : World} {n k c : Nat} {A : Option Addr} {xs : List Value} (h : w.ownsRow 0 nodeT 6 (.slice A n c) k xs) (hb : ∀ b ∈ blk A, w'.heap[b]? = w.heap[b]?) : w'.ownsRow 0 nodeT 6 (.slice A n c) k xs := by
 refine ⟨h.1, ?_⟩
 rcases h.2 with hv | ⟨g, cap, cur, hv, h1, h2, h3⟩
 · exact .inl hv
 · refine .inr ⟨g, cap, cur, hv, h1, ?_, h3⟩
   injection hv with a
   rw [hb g (by rw [a]; exact List.mem_singleton.2 rfl)]
   exact h2
theorem OwS.frame {w w' : World} : ∀ (m : Nat) (A : Option Addr) (c : Nat) (l : List Nd) (bs : List Nat), OwS w m A c l bs → (∀ b ∈ bs, w'.heap[b]? = w.heap[b]?) → OwS w' m A c l bs
 | 0, A, c, l, bs, ⟨hl, ho, hb⟩, hf => ⟨hl, own_frame ho (fun b hm => hf b (by rw [hb]; exact hm)), hb⟩
 | m + 1, A, c, l, bs, ⟨q, hq, ho, hb, hr⟩, hf => by
   refine ⟨q, hq, own_frame ho (fun b hm => hf b (by rw [hb]; exact List.mem_append_left _ hm)), hb, fun r hm => ?_⟩
   obtain ⟨h0, b1, b2, he, h1, h2⟩ := hr r hm
   have hsub : ∀ b ∈ r.2.2, w'.heap[b]? = w.heap[b]? := fun b hbm => hf b (by rw [hb]; exact List.mem_append_right _ (List.mem_flatMap.2 ⟨r, hm, hbm⟩))
   exact ⟨h0, b1, b2, he, OwS.frame m _ _ _ _ h1 (fun b hbm => hsub b (by rw [he]; exact List.mem_append_left _ hbm)), OwS.frame m _ _ _ _ h2 (fun b hbm => hsub b (by rw [he]; exact List.mem_append_right _ hbm))⟩
theorem OwN.frame {w w' : World} {m : Nat} {n : Nd} {h : Hd} {bs : List Nat} (hn : OwN w m n h bs) (hf : ∀ b ∈ bs, w'.heap[b]? = w.heap[b]?) : OwN w' m n h bs := by
 obtain ⟨h0, b1, b2, he, h1, h2⟩ := hn
 exact ⟨h0, b1, b2, he, OwS.frame m _ _ _ _ h1 (fun b hbm => hf b (by rw [he]; exact List.mem_append_left _ hbm)), OwS.frame m _ _ _ _ h2 (fun b hbm => hf b (by rw [he]; exact List.mem_append_right _ hbm))⟩
theorem own_lt {w : World} {n k c : Nat} {A : Option Addr} {xs : List Value} (h : w.ownsRow 0 nodeT 6 (.slice A n c) k xs) : ∀ b ∈ blk A, b < w.heap.size ∧ Clean w b := by
 intro b hb
 rcases own_blk h with ⟨rfl, _⟩ | ⟨g, cur, rfl, _, _, hg, _⟩
 · cases hb
 · obtain rfl := List.mem_singleton.1 hb
   exact ⟨row_lt hg, _, _, hg⟩
theorem OwS.lt {w : World} : ∀ (m : Nat) (A : Option Addr) (c : Nat) (l : List Nd) (bs : List Nat), OwS w m A c l bs → ∀ b ∈ bs, b < w.heap.size ∧ Clean w b
 | 0, A, c, l, bs, ⟨hl, ho, hb⟩ => by rw [hb]; exact own_lt ho
 | m + 1, A, c, l, bs, ⟨q, hq, ho, hb, hr⟩ => by
   rw [hb]
   intro b hm
   rcases List.mem_append.1 hm with hm | hm
   · exact own_lt ho b hm
   · obtain ⟨r, hrm, hbr⟩ := List.mem_flatMap.1 hm
     obtain ⟨_, b1, b2, he, h1, h2⟩ := hr r hrm
     have hbr' : b ∈ b1 ++ b2 := by rw [← he]; exact hbr
     rcases List.mem_append.1 hbr' with hbr' | hbr'
     · exact OwS.lt m _ _ _ _ h1 b hbr'
     · exact OwS.lt m _ _ _ _ h2 b hbr'
theorem OwN.lt {w : World} {m : Nat} {n : Nd} {h : Hd} {bs : List Nat} (hn : OwN w m n h bs) : ∀ b ∈ bs, b < w.heap.size ∧ Clean w b := by
 obtain ⟨_, b1, b2, he, h1, h2⟩ := hn
 intro b hb
 rw [he] at hb
 rcases List.mem_append.1 hb with hb | hb
 · exact h1.lt _ _ _ _ _ b hb
 · exact h2.lt _ _ _ _ _ b hb
theorem OwS.nil (w : World) : ∀ m, OwS w m none 0 [] []
 | 0 => ⟨rfl, World.ownsRow_nil _ _ _ _, rfl⟩
 | m + 1 => ⟨[], rfl, World.ownsRow_nil _ _ _ _, rfl, fun r h => by cases h⟩
theorem OwN.none (w : World) (m : Nat) : OwN w m (.mk 0 ⟨#[]⟩ [] 0 0 []) ⟨none, 0, none, 0⟩ [] := ⟨by decide, [], [], rfl, OwS.nil w m, OwS.nil w m⟩
def InB (w : World) (bs : List Nat) : Nat → Prop := fun k => k ∈ bs ∧ Clean w k
theorem own_len {w : World} {n k c : Nat} {A : Option Addr} {xs : List Value} (h : w.ownsRow 0 nodeT 6 (.slice A n c) k xs) : k ≤ maxLen := by
 rcases own_blk h with ⟨_, _, _, h0⟩ | ⟨_, _, _, _, _, _, h1, h2, _⟩
 · omega
 · omega
theorem OwS.nds {w : World} : ∀ (m : Nat) (A : Option Addr) (c : Nat) (l : List Nd) (bs : List Nat), OwS w m A c l bs → NdsAt w (InB w bs) m A l
 | 0, A, c, l, bs, ⟨hl, _, _⟩ => hl
 | m + 1, A, c, l, bs, ⟨q, hq, ho, hb, hr⟩ => by
   have hlen := own_len ho
   refine ⟨by rw [← hq, List.length_map]; exact hlen, q.map fun r => (r.1, r.2.1), by rw [List.map_map]; exact hq, ?_, fun r hm => ?_⟩
   · rcases own_blk ho with ⟨_, h0, _⟩ | ⟨g, cur, hA, _, _, hg, h3, h4, h5, h6⟩
     · left
       rw [List.eq_nil_of_length_eq_zero h0]; rfl
     · right
       refine ⟨⟨g, 0, Option.none⟩, hA, ⟨by rw [hb, hA]; exact List.mem_append_left _ (List.mem_singleton.2 rfl), _, _, hg⟩, at_cells fun j u hj => ?_⟩
       rw [add_zero0, cell_of_row _ _ _ _ _ _ hg]
       have hj' : (cur.toList.take (q.length * 6))[j]? = some u := by rw [h6]; exact hj
       have hlt : j < q.length * 6 := by
        rcases Nat.lt_or_ge j (q.length * 6) with h | h
        · exact h
        · rw [List.getElem?_eq_none (by rw [List.length_take]; omega)] at hj'; cases hj'
       rw [List.getElem?_take_of_lt hlt] at hj'
       simpa using hj'
   · obtain ⟨r0, hr0, rfl⟩ := List.mem_map.1 hm
     obtain ⟨h0, b1, b2, he, h1, h2⟩ := hr r0 hr0
     have hsub : ∀ b ∈ r0.2.2, b ∈ bs := fun b hbm => by rw [hb]; exact List.mem_append_right _ (List.mem_flatMap.2 ⟨r0, hr0, hbm⟩)
     exact ⟨h0, (OwS.nds m _ _ _ _ h1).weak (fun k hk => ⟨hsub k (by rw [he]; exact List.mem_append_left _ hk.1), hk.2⟩), (OwS.nds m _ _ _ _ h2).weak (fun k hk => ⟨hsub k (by rw [he]; exact List.mem_append_right _ hk.1), hk.2⟩)⟩
theorem OwN.nd {w : World} {m : Nat} {n : Nd} {h : Hd} {bs : List Nat} (hn : OwN w m n h bs) : NdAt w (InB w bs) m n h := by
 obtain ⟨h0, b1, b2, he, h1, h2⟩ := hn
 exact ⟨h0, (h1.nds _ _ _ _ _).weak (fun k hk => ⟨by rw [he]; exact List.mem_append_left _ hk.1, hk.2⟩), (h2.nds _ _ _ _ _).weak (fun k hk => ⟨by rw [he]; exact List.mem_append_right _ hk.1, hk.2⟩)⟩
def RowO (w : World) (B : Nat) (v : Value) (q : List NB) (M : Nat) : Prop :=
 w.ownsRow B nodeT 6 v q.length (rowB q) ∧ (∀ r ∈ q, OwN w M r.1 r.2.1 r.2.2) ∧ (blkB q).Nodup ∧ ∀ b ∈ blkB q, B ≤ b ∧ some b ≠ v.ownBlock
theorem RowO.nil (w : World) (B M : Nat) : RowO w B (.slice none 0 0) [] M := ⟨World.ownsRow_nil _ _ _ _, fun r h => (by cases h), List.nodup_nil, fun b h => (by cases h)⟩
theorem RowO.lt {w : World} {B M : Nat} {v : Value} {q : List NB} (h : RowO w B v q M) : ∀ b ∈ blkB q, b < w.heap.size := by
 intro b hb
 obtain ⟨r, hr, hbr⟩ := List.mem_flatMap.1 hb
 exact ((h.2.1 r hr).lt b hbr).1
theorem RowO.low {w w' : World} {B M : Nat} {v : Value} {q : List NB} (h : RowO w B v q M) (hb : Below w.heap.size w w') : RowO w' B v q M :=
 ⟨h.1.kept (row := none) ⟨hb.os, hb.tape, hb.output, hb.size, fun k hk _ => hb.block k hk⟩ (by
  by_cases hv : v.ownBlock = none
  · exact .inl hv
  · exact .inr (fun e => hv e)), fun r hr => (h.2.1 r hr).frame (fun b hbr => hb.block b ((h.2.1 r hr).lt b hbr).1), h.2.2⟩
theorem RowO.drew {w : World} {B M : Nat} {v : Value} {q : List NB} (h : RowO w B v q M) : RowO w.drew B v q M := ⟨h.1.drew, fun r hr => (h.2.1 r hr).frame (fun _ _ => rfl), h.2.2⟩
theorem RowO.alloc {w : World} {B M : Nat} {v : Value} {q : List NB} (h : RowO w B v q M) (o : Obj) : RowO (w.alloc o) B v q M := h.low ((Below.refl _ _).alloc (Nat.le_refl _) o)
theorem RowO.store {w : World} {B M g i : Nat} {u v : Value} {q : List NB} (h : RowO w B v q M) (hg : g < B) : RowO (w.setCell ⟨g, i, none⟩ u) B v q M :=
 ⟨ownsRow_setCell_below h.1 hg u, fun r hr => (h.2.1 r hr).frame (fun b hbr => Below.heap_setCell w ⟨g, i, none⟩ u b (by have := (h.2.2.2 b (List.mem_flatMap.2 ⟨r, hr, hbr⟩)).1; show b ≠ g; omega)), h.2.2⟩
theorem blkB_snoc (q : List NB) (r : NB) : blkB (q ++ [r]) = blkB q ++ r.2.2 := by unfold blkB; simp
theorem rowB_snoc (q : List NB) (r : NB) : rowB (q ++ [r]) = rowB q ++ rowOf [(r.1, r.2.1)] := by unfold rowB; rw [List.map_append, rowOf_app]; rfl
theorem RowO.next {w3 w4 : World} {B H M : Nat} {v v' : Value} {q : List NB} {y : Nd} {hy : Hd} {bs : List Nat} (h : RowO w3 B v q M) (hny : OwN w3 M y hy bs) (hnd : bs.Nodup) (hbs : ∀ b ∈ bs, H ≤ b) (hBH : B ≤ H) (hqH : ∀ b ∈ blkB q, b < H) (hvH : ∀ k, v.ownBlock = some k → k < H)
 (hown : w4.ownsRow B nodeT 6 v' (q.length + 1) (rowB q ++ rowOf [(y, hy)])) (hgrow : w3.grownBy w4 v.ownBlock) (hat : v'.ownBlock = v.ownBlock ∨ v'.ownBlock = some w3.heap.size) : RowO w4 B v' (q ++ [(y, hy, bs)]) M := by
 have hk : ∀ b, b < w3.heap.size → some b ≠ v.ownBlock → w4.heap[b]? = w3.heap[b]? ∧ some b ≠ v'.ownBlock := fun b h1 h2 => ⟨hgrow.block b h1 h2, by
  rcases hat with e | e
  · rw [e]; exact h2
  · rw [e]; intro e2; injection e2 with e2; omega⟩
 have hy' : ∀ b ∈ bs, b < w3.heap.size ∧ some b ≠ v.ownBlock := fun b hb => ⟨(hny.lt b hb).1, fun e => by have := hvH b e.symm; have := hbs b hb; omega⟩
 refine ⟨by rw [List.length_append, rowB_snoc]; exact hown, fun r hr => ?_, ?_, ?_⟩
 · rcases List.mem_append.1 hr with hr | hr
   · exact (h.2.1 r hr).frame (fun b hb => (hk b (((h.2.1 r hr).lt b hb).1) (h.2.2.2 b (List.mem_flatMap.2 ⟨r, hr, hb⟩)).2).1)
   · obtain rfl := List.mem_singleton.1 hr
     exact hny.frame (fun b hb => (hk b (hy' b hb).1 (hy' b hb).2).1)
 · rw [blkB_snoc]
   exact List.nodup_append.2 ⟨h.2.2.1, hnd, fun a ha b hb e => by have := hqH a ha; have := hbs b hb; omega⟩
 · intro b hb
   rw [blkB_snoc] at hb
   rcases List.mem_append.1 hb with hb | hb
   · exact ⟨(h.2.2.2 b hb).1, (hk b (h.lt b hb) (h.2.2.2 b hb).2).2⟩
   · exact ⟨Nat.le_trans hBH (hbs b hb), (hk b (hy' b hb).1 (hy' b hb).2).2⟩
theorem own_zero {w : World} {B : Nat} {v : Value} {n : Nat} {xs : List Value} (h : w.ownsRow B nodeT 6 v n xs) : w.ownsRow 0 nodeT 6 v n xs := by
 refine ⟨h.1, ?_⟩
 rcases h.2 with hv | ⟨g, cap, cur, hv, _, h3⟩
 · exact .inl hv
 · exact .inr ⟨g, cap, cur, hv, Nat.zero_le _, h3⟩
theorem RowO.done {w : World} {B M : Nat} {v : Value} {q : List NB} (h : RowO w B v q M) : ∃ A c bs, v = .slice A q.length c ∧ OwS w (M + 1) A c (q.map (·.1)) bs ∧ bs.Nodup ∧ ∀ b ∈ bs, B ≤ b := by
 have hv : ∃ A c, v = .slice A q.length c := by
  rcases h.1.2 with ⟨h1, h0⟩ | ⟨g, cap, cur, h1, _⟩
  · exact ⟨none, 0, by rw [h1, h0]⟩
  · exact ⟨_, _, h1⟩
 obtain ⟨A, c, rfl⟩ := hv
 refine ⟨A, c, blk A ++ blkB q, rfl, ⟨q, rfl, own_zero h.1, rfl, fun r hr => h.2.1 r hr⟩, ?_, ?_⟩
 · refine List.nodup_append.2 ⟨?_, h.2.2.1, fun a ha b hb e => ?_⟩
   · cases A with
     | none => exact List.nodup_nil
     | some x => exact List.nodup_cons.2 ⟨by simp, List.nodup_nil⟩
   · cases A with
     | none => cases ha
     | some x =>
      obtain rfl := List.mem_singleton.1 ha
      exact (h.2.2.2 b hb).2 (by rw [← e]; rfl)
 · intro b hb
   rcases List.mem_append.1 hb with hb | hb
   · rcases own_blk h.1 with ⟨rfl, _⟩ | ⟨g, cur, rfl, _, hg, _⟩
     · cases hb
     · obtain rfl := List.mem_singleton.1 hb; exact hg
   · exact (h.2.2.2 b hb).1
def NewO (m : Nat) (n : Nd) (w : World) (e : Ending) (w' : World) : Prop := ∃ (h : Hd) (bs : List Nat), e = .returned (.agg #[.int .i64 n.kind, .string n.data, .slice h.A n.ptrs.length h.a, .int .i64 n.size, .int .i64 n.count, .slice h.B n.items.length h.b]) ∧ OwN w' m n h bs ∧ bs.Nodup ∧ (∀ b ∈ bs, w.heap.size ≤ b) ∧ Below w.heap.size w w'
def NewOS (m : Nat) (l : List Nd) (w : World) (e : Ending) (w' : World) : Prop := ∃ (A : Option Addr) (c : Nat) (bs : List Nat), e = .returned (.slice A l.length c) ∧ OwS w' m A c l bs ∧ bs.Nodup ∧ (∀ b ∈ bs, w.heap.size ≤ b) ∧ Below w.heap.size w w'
theorem OwN.below {w w' : World} {m : Nat} {n : Nd} {h : Hd} {bs : List Nat} (hn : OwN w m n h bs) (hb : Below w.heap.size w w') : OwN w' m n h bs := hn.frame (fun b hm => hb.block b (hn.lt b hm).1)
theorem OwS.below {w w' : World} {m : Nat} {A : Option Addr} {c : Nat} {l : List Nd} {bs : List Nat} (hn : OwS w m A c l bs) (hb : Below w.heap.size w w') : OwS w' m A c l bs := hn.frame _ _ _ _ _ (fun b hm => hb.block b (hn.lt _ _ _ _ _ b hm).1)
theorem OwN.clean {w : World} {m : Nat} {n : Nd} {h : Hd} {bs : List Nat} (hn : OwN w m n h bs) : NdAt w (Clean w) m n h := hn.nd.weak (fun _ hk => hk.2)
theorem al_first (w : World) (o : Obj) : (w.alloc o).heap.size = w.heap.size + 1 ∧ Below w.heap.size w (w.alloc o) := ⟨by simp, (Below.refl _ _).alloc (Nat.le_refl _) _⟩
theorem al_next {w W : World} {n : Nat} (h : W.heap.size = w.heap.size + n ∧ Below w.heap.size w W) (o : Obj) : (W.alloc o).heap.size = w.heap.size + (n + 1) ∧ Below w.heap.size w (W.alloc o) := ⟨by simp; omega, h.2.alloc (by omega) _⟩
theorem al_row {w W : World} {n : Nat} (h : W.heap.size = w.heap.size + n ∧ Below w.heap.size w W) (a : Array Value) (T : TypeId) : (W.alloc (.cells a T)).heap[w.heap.size + n]? = some (.cells a T (0, 0)) := by
 rw [← h.1]
 exact heap_alloc_new _ _
open Go.RowKit Go.Deep
abbrev valV (x : Int) (y : Nd) (h : Hd) : Value := .agg #[.int .i64 x, .int .i64 y.kind, .string y.data, .slice h.A y.ptrs.length h.a, .int .i64 y.size, .int .i64 y.count, .slice h.B y.items.length h.b]
theorem cellsV {w : World} {g : Nat} {v0 v1 v2 v3 v4 v5 v6 : Value} {T : TypeId} (h : w.heap[g]? = some (.cells #[v0, v1, v2, v3, v4, v5, v6] T (0, 0))) :
 w.cell? ⟨g, 0, none⟩ = some v0 ∧ w.cell? ⟨g, 1, none⟩ = some v1 ∧ w.cell? ⟨g, 2, none⟩ = some v2 ∧ w.cell? ⟨g, 3, none⟩ = some v3 ∧ w.cell? ⟨g, 4, none⟩ = some v4 ∧ w.cell? ⟨g, 5, none⟩ = some v5 ∧ w.cell? ⟨g, 6, none⟩ = some v6 := by
 refine ⟨?_, ?_, ?_, ?_, ?_, ?_, ?_⟩ <;> (rw [cell_of_row _ _ _ _ _ _ h]; rfl)
theorem finV {w W : World} {g R : Nat} {T : TypeId} {u0 u1 u2 u3 u4 u5 u6 : Value} (v0 v1 v2 v3 v4 v5 v6 : Value) (hz : W.heap[g]? = some (.cells #[u0, u1, u2, u3, u4, u5, u6] T (0, 0))) (hb : Below R w W) (hR : R ≤ g) :
 ∃ wf, (((((((W.setCell ⟨g, 0, none⟩ v0).setCell ⟨g, 1, none⟩ v1).setCell ⟨g, 2, none⟩ v2).setCell ⟨g, 3, none⟩ v3).setCell ⟨g, 4, none⟩ v4).setCell ⟨g, 5, none⟩ v5).setCell ⟨g, 6, none⟩ v6) = wf ∧ wf.heap[g]? = some (.cells #[v0, v1, v2, v3, v4, v5, v6] T (0, 0)) ∧ Below R w wf ∧ ∀ k, k ≠ g → wf.heap[k]? = W.heap[k]? := by
 have hk : ∀ (V : World) (i : Nat) (v : Value), Below R w V → Below R w (V.setCell ⟨g, i, none⟩ v) := fun V i v hV => hV.setCell (p := ⟨g, i, none⟩) hR v
 have hn : ∀ (V : World) (i : Nat) (v : Value) {k : Nat}, k ≠ g → (V.setCell ⟨g, i, none⟩ v).heap[k]? = V.heap[k]? := fun V i v k h => Below.heap_setCell V ⟨g, i, none⟩ v k h
 refine ⟨_, rfl, ?_, ?_, fun k h => ?_⟩
 · exact row_setN (row_setN (row_setN (row_setN (row_setN (row_setN (row_setN hz 0 v0) 1 v1) 2 v2) 3 v3) 4 v4) 5 v5) 6 v6
 · exact hk _ _ _ (hk _ _ _ (hk _ _ _ (hk _ _ _ (hk _ _ _ (hk _ _ _ (hk _ _ _ hb))))))
 · rw [hn _ _ _ h, hn _ _ _ h, hn _ _ _ h, hn _ _ _ h, hn _ _ _ h, hn _ _ _ h, hn _ _ _ h]
end Go.Proofs.YtehhbbdaeonebaaGreatDoor
namespace Go.Proofs.YtehhbbdaeonebaaGreatDoor
structure Fld where
 size : Int
 choice : Bool
 els : Int
structure LS where
 words : Nat
 hole : Nat → Nat
def upd (h : Nat → Nat) (k v : Nat) : Nat → Nat := fun i => if i = k then v else h i
theorem upd_same (h : Nat → Nat) (k v : Nat) : upd h k v k = v := by simp [upd]
theorem upd_other (h : Nat → Nat) (k v i : Nat) (hi : i ≠ k) : upd h k v i = h i := by simp [upd, hi]
def roomF : Nat → LS → Nat × LS
 | 0, s => (s.words, ⟨s.words + 1, s.hole⟩)
 | k + 1, s => if s.hole (k + 1) ≠ 0 then (s.hole (k + 1), ⟨s.words, upd s.hole (k + 1) 0⟩) else (2 * (roomF k s).1, ⟨(roomF k s).2.words, upd (roomF k s).2.hole (k + 1) (2 * (roomF k s).1 + 1)⟩)
theorem room_hit (k : Nat) (s : LS) (h : s.hole (k + 1) ≠ 0) : roomF (k + 1) s = (s.hole (k + 1), ⟨s.words, upd s.hole (k + 1) 0⟩) := by rw [roomF, if_pos h]
theorem room_miss (k : Nat) (s : LS) (h : s.hole (k + 1) = 0) : roomF (k + 1) s = (2 * (roomF k s).1, ⟨(roomF k s).2.words, upd (roomF k s).2.hole (k + 1) (2 * (roomF k s).1 + 1)⟩) := by rw [roomF, if_neg (by simp [h])]
theorem room_above (s : LS) (i : Nat) : ∀ k, k < i → (roomF k s).2.hole i = s.hole i
 | 0, _ => rfl
 | k + 1, h => by
   by_cases h0 : s.hole (k + 1) = 0
   · rw [room_miss k s h0]
     show upd _ _ _ i = _
     rw [upd_other _ _ _ _ (by omega), room_above s i k (by omega)]
   · rw [room_hit k s h0]
     exact upd_other _ _ _ _ (by omega)
def LBd (n : Nat) (s : LS) : Prop := s.words ≤ n ∧ ∀ i, s.hole i < 2 ^ i * (n + 1)
theorem LBd.mono {n m : Nat} {s : LS} (h : LBd n s) (hm : n ≤ m) : LBd m s := ⟨Nat.le_trans h.1 hm, fun i => Nat.lt_of_lt_of_le (h.2 i) (Nat.mul_le_mul_left _ (by omega))⟩
theorem room_bd_aux (n : Nat) (s : LS) (h : LBd n s) : ∀ k, (roomF k s).1 < 2 ^ k * (n + 1) ∧ (roomF k s).2.words ≤ n + 1 ∧ (∀ i, (roomF k s).2.hole i < 2 ^ i * (n + 1))
 | 0 => by
   refine ⟨?_, ?_, h.2⟩
   · show s.words < _; have := h.1; omega
   · show s.words + 1 ≤ _; have := h.1; omega
 | k + 1 => by
   obtain ⟨i1, i2, i3⟩ := room_bd_aux n s h k
   by_cases h0 : s.hole (k + 1) = 0
   · rw [room_miss k s h0]
     refine ⟨?_, i2, fun i => ?_⟩
     · show 2 * (roomF k s).1 < _
       rw [Nat.pow_succ]
       have : 2 ^ k * 2 * (n + 1) = 2 * (2 ^ k * (n + 1)) := by rw [Nat.mul_comm (2 ^ k) 2, Nat.mul_assoc]
       omega
     · show upd _ _ _ i < _
       by_cases hi : i = k + 1
       · subst hi
         rw [upd_same, Nat.pow_succ]
         have : 2 ^ k * 2 * (n + 1) = 2 * (2 ^ k * (n + 1)) := by rw [Nat.mul_comm (2 ^ k) 2, Nat.mul_assoc]
         omega
       · rw [upd_other _ _ _ _ hi]; exact i3 i
   · rw [room_hit k s h0]
     refine ⟨h.2 _, by show s.words ≤ _; have := h.1; omega, fun i => ?_⟩
     show upd _ _ _ i < _
     by_cases hi : i = k + 1
     · subst hi
       rw [upd_same]
       exact Nat.lt_of_le_of_lt (Nat.zero_le _) (h.2 (k + 1))
     · rw [upd_other _ _ _ _ hi]; exact h.2 i
theorem room_bd {n : Nat} {s : LS} (h : LBd n s) (k : Nat) : (roomF k s).1 < 2 ^ k * (n + 1) ∧ LBd (n + 1) (roomF k s).2 := by
 obtain ⟨i1, i2, i3⟩ := room_bd_aux n s h k
 exact ⟨i1, i2, fun i => Nat.lt_of_lt_of_le (i3 i) (Nat.mul_le_mul_left _ (by omega))⟩
def holeF : Nat → LS → Option Nat × LS
 | 0, s => (none, s)
 | k + 1, s => if s.hole (k + 1) ≠ 0 then (some (s.hole (k + 1)), ⟨s.words, upd s.hole (k + 1) 0⟩) else
    match holeF k s with
    | (none, _) => (none, s)
    | (some a, t) => (some (2 * a), ⟨t.words, upd t.hole (k + 1) (2 * a + 1)⟩)
def freshF (k : Nat) (s : LS) : LS := ⟨s.words + 1, fun i => if 1 ≤ i ∧ i ≤ k then 2 ^ i * s.words + 1 else s.hole i⟩
theorem room_of_hole (s : LS) : ∀ k, roomF k s = (match holeF k s with | (some a, t) => (a, t) | (none, _) => (2 ^ k * s.words, freshF k s))
 | 0 => by
   simp only [roomF, holeF, freshF]
   refine Prod.ext (by simp) ?_
   simp only [LS.mk.injEq, true_and]
   funext i
   rw [if_neg (by omega)]
 | k + 1 => by
   by_cases h0 : s.hole (k + 1) = 0
   · rw [room_miss k s h0, room_of_hole s k, holeF, if_neg (by simp [h0])]
     cases h : holeF k s with
     | mk o t =>
      cases o with
      | none =>
       simp only
       refine Prod.ext ?_ ?_
       · simp only [Nat.pow_succ]; rw [Nat.mul_comm (2 ^ k) 2, Nat.mul_assoc]
       · simp only [freshF, LS.mk.injEq, true_and]
         funext i
         by_cases hi : i = k + 1
         · subst hi
           rw [upd_same, if_pos ⟨by omega, Nat.le_refl _⟩, Nat.pow_succ, Nat.mul_comm (2 ^ k) 2, Nat.mul_assoc]
         · rw [upd_other _ _ _ _ hi]
           by_cases hc : 1 ≤ i ∧ i ≤ k
           · rw [if_pos hc, if_pos ⟨hc.1, by omega⟩]
           · rw [if_neg hc, if_neg (by omega)]
      | some a => rfl
   · rw [room_hit k s h0, holeF, if_pos h0]
theorem hole_none (s : LS) : ∀ k, (holeF k s).1 = none → (holeF k s).2 = s
 | 0, _ => rfl
 | k + 1, h => by
   rw [holeF] at h ⊢
   by_cases h0 : s.hole (k + 1) ≠ 0
   · rw [if_pos h0] at h; cases h
   · rw [if_neg h0] at h ⊢
     cases hh : holeF k s with
     | mk o t =>
      rw [hh] at h
      cases o with
      | none => rfl
      | some a => cases h
structure PS where
 ls : LS
 ptrs : Nat
 tag : Int
 many : Nat
 shared : List (Nat × Nat)
 point : Int
def kOf (size : Int) : Nat := if size = 1 then 6 else if size = 2 then 3 else if size = 3 then 2 else if size = 4 then 1 else 0
def bitsOf (size : Int) : Int := if size = 1 then 1 else if size = 2 then 8 else if size = 3 then 16 else if size = 4 then 32 else if size = 5 then 64 else 0
def shareF (k : Nat) (s : PS) : Nat × PS :=
 match s.shared.find? (fun r => r.1 ≤ k) with
 | some r => (r.2 * 2 ^ (k - r.1), s)
 | none => ((roomF k s.ls).1, { s with ls := (roomF k s.ls).2, shared := s.shared ++ [(k, (roomF k s.ls).1)] })
def ptrF (s : PS) : Nat × PS := (s.ptrs, { s with ptrs := s.ptrs + 1 })
def sharePtrF (s : PS) : Nat × PS := if s.point < 0 then (s.ptrs, { s with ptrs := s.ptrs + 1, point := s.ptrs }) else (s.point.toNat, s)
def tagF (c : Bool) (s : PS) : PS :=
 if c then (if s.many + 1 = 2 then { s with many := s.many + 1, ls := (roomF 2 s.ls).2, tag := (roomF 2 s.ls).1 } else { s with many := s.many + 1 }) else s
def dataF (k : Nat) (s : PS) : Nat × PS := ((roomF k s.ls).1, { s with ls := (roomF k s.ls).2 })
def placeF (f : Fld) (s : PS) : Nat × PS :=
 if f.size = 6 then (if f.choice then sharePtrF (tagF f.choice s) else ptrF (tagF f.choice s))
 else if f.choice then shareF (kOf f.size) (tagF f.choice s) else dataF (kOf f.size) (tagF f.choice s)
def layF : List Fld → PS → List Nat × PS
 | [], s => ([], s)
 | f :: r, s => ((placeF f s).1 :: (layF r (placeF f s).2).1, (layF r (placeF f s).2).2)
def ps0 : PS := ⟨⟨0, fun _ => 0⟩, 0, -1, 0, [], -1⟩
theorem lay_snoc (f : Fld) : ∀ (l : List Fld) (s : PS), layF (l ++ [f]) s = ((layF l s).1 ++ [(placeF f (layF l s).2).1], (placeF f (layF l s).2).2)
 | [], s => rfl
 | g :: r, s => by
   rw [List.cons_append]
   show (_ :: (layF (r ++ [f]) (placeF g s).2).1, (layF (r ++ [f]) (placeF g s).2).2) = _
   rw [lay_snoc f r]
   rfl
theorem lay_length : ∀ (l : List Fld) (s : PS), (layF l s).1.length = l.length
 | [], _ => rfl
 | f :: r, s => by show _ + 1 = _; rw [lay_length r]; rfl
structure PBd (n : Nat) (s : PS) : Prop where
 ls : LBd (2 * n) s.ls
 ptrs : s.ptrs ≤ n
 tag : -1 ≤ s.tag ∧ s.tag < 4 * (2 * n + 1)
 many : s.many ≤ n
 len : s.shared.length ≤ n
 shared : ∀ r ∈ s.shared, r.1 ≤ 6 ∧ r.2 < 2 ^ r.1 * (2 * n + 1)
 point : -1 ≤ s.point ∧ s.point < s.ptrs
theorem pbd0 : PBd 0 ps0 := ⟨⟨Nat.le_refl _, fun i => by show 0 < _; exact Nat.mul_pos (Nat.pow_pos (by decide)) (by decide)⟩, Nat.le_refl _, by decide, Nat.le_refl _, Nat.le_refl _, (fun _ h => by cases h), by decide⟩
structure PBm (n : Nat) (s : PS) : Prop where
 ls : LBd (2 * n + 1) s.ls
 ptrs : s.ptrs ≤ n
 tag : -1 ≤ s.tag ∧ s.tag < 4 * (2 * n + 2)
 many : s.many ≤ n + 1
 len : s.shared.length ≤ n
 shared : ∀ r ∈ s.shared, r.1 ≤ 6 ∧ r.2 < 2 ^ r.1 * (2 * n + 1)
 point : -1 ≤ s.point ∧ s.point < s.ptrs
theorem tag_bd {n : Nat} {s : PS} (h : PBd n s) (c : Bool) : PBm n (tagF c s) := by
 have hr := room_bd h.ls 2
 obtain ⟨h1, h2, h3, h4, h5, h6, h7⟩ := h
 unfold tagF
 cases c with
 | false =>
  rw [if_neg (by simp)]
  exact ⟨h1.mono (by omega), h2, ⟨h3.1, by omega⟩, by omega, h5, h6, h7⟩
 | true =>
  rw [if_pos rfl]
  by_cases hm : s.many + 1 = 2
  · rw [if_pos hm]
    refine ⟨hr.2, h2, ⟨by show (-1 : Int) ≤ ((roomF 2 s.ls).1 : Int); omega, ?_⟩, by show s.many + 1 ≤ _; omega, h5, h6, h7⟩
    show ((roomF 2 s.ls).1 : Int) < _
    have := hr.1
    simp only [show (2 : Nat) ^ 2 = 4 from rfl] at this
    omega
  · rw [if_neg hm]
    exact ⟨h1.mono (by omega), h2, ⟨h3.1, by dsimp only; omega⟩, by show s.many + 1 ≤ _; omega, h5, h6, h7⟩
theorem kOf_le (z : Int) : kOf z ≤ 6 := by unfold kOf; split <;> (try split) <;> (try split) <;> (try split) <;> omega
theorem room_bd7 {n : Nat} {s : LS} (h : LBd n s) {k : Nat} (hk : k ≤ 6) : (roomF k s).1 < 64 * (n + 1) := by
 have := (room_bd h k).1
 have h2 : 2 ^ k ≤ 2 ^ 6 := Nat.pow_le_pow_right (by decide) hk
 have h3 := Nat.mul_le_mul_right (n + 1) h2
 simp only [show (2 : Nat) ^ 6 = 64 from rfl] at h3
 omega
theorem share_pow {k r : Nat} (h : r ≤ k) : 2 ^ r * 2 ^ (k - r) = 2 ^ k := by rw [← Nat.pow_add]; congr 1; omega
theorem shared_bd {k r a m : Nat} (h : r ≤ k) (hk : k ≤ 6) (ha : a < 2 ^ r * m) : a * 2 ^ (k - r) < 64 * m := by
 have h1 : a * 2 ^ (k - r) < 2 ^ r * m * 2 ^ (k - r) := Nat.mul_lt_mul_of_pos_right ha (Nat.pow_pos (by decide))
 have h2 : 2 ^ r * m * 2 ^ (k - r) = 2 ^ k * m := by rw [Nat.mul_right_comm, share_pow h]
 have h3 : 2 ^ k * m ≤ 2 ^ 6 * m := Nat.mul_le_mul_right _ (Nat.pow_le_pow_right (by decide) hk)
 simp only [show (2 : Nat) ^ 6 = 64 from rfl] at h3
 omega
theorem place_bd {n : Nat} {s : PS} (h : PBd n s) (f : Fld) : PBd (n + 1) (placeF f s).2 ∧ (placeF f s).1 ≤ 64 * (2 * n + 2) := by
 have hm := tag_bd h f.choice
 obtain ⟨h1, h2, h3, h4, h5, h6, h7⟩ := hm
 have hk := kOf_le f.size
 have hr := room_bd h1 (kOf f.size)
 have hr7 := room_bd7 h1 hk
 have hsh : ∀ r ∈ (tagF f.choice s).shared, r.1 ≤ 6 ∧ r.2 < 2 ^ r.1 * (2 * (n + 1) + 1) := fun r hrm => ⟨(h6 r hrm).1, Nat.lt_of_lt_of_le (h6 r hrm).2 (Nat.mul_le_mul_left _ (by omega))⟩
 unfold placeF
 by_cases hp : f.size = 6
 · rw [if_pos hp]
   cases hc : f.choice with
   | false =>
    rw [if_neg (by simp)]
    rw [hc] at h1 h2 h3 h4 h5 h6 h7 hsh
    exact ⟨⟨h1.mono (by omega), by show (tagF false s).ptrs + 1 ≤ _; omega, ⟨h3.1, by have := h3.2; show (tagF false s).tag < _; omega⟩, by show (tagF false s).many ≤ _; omega, by show (tagF false s).shared.length ≤ _; omega, hsh, ⟨h7.1, by have := h7.2; show (tagF false s).point < (((tagF false s).ptrs + 1 : Nat) : Int); omega⟩⟩, by show (tagF false s).ptrs ≤ _; omega⟩
   | true =>
    rw [if_pos rfl]
    rw [hc] at h1 h2 h3 h4 h5 h6 h7 hsh
    unfold sharePtrF
    by_cases hq : (tagF true s).point < 0
    · rw [if_pos hq]
      exact ⟨⟨h1.mono (by omega), by show (tagF true s).ptrs + 1 ≤ _; omega, ⟨h3.1, by have := h3.2; show (tagF true s).tag < _; omega⟩, by show (tagF true s).many ≤ _; omega, by show (tagF true s).shared.length ≤ _; omega, hsh, ⟨by show (-1 : Int) ≤ ((tagF true s).ptrs : Int); omega, by show ((tagF true s).ptrs : Int) < (((tagF true s).ptrs + 1 : Nat) : Int); omega⟩⟩, by show (tagF true s).ptrs ≤ _; omega⟩
    · rw [if_neg hq]
      exact ⟨⟨h1.mono (by omega), by dsimp only; omega, ⟨h3.1, by have := h3.2; dsimp only; omega⟩, by dsimp only; omega, by dsimp only; omega, hsh, h7⟩, by show (tagF true s).point.toNat ≤ _; omega⟩
 · rw [if_neg hp]
   cases hc : f.choice with
   | false =>
    rw [if_neg (by simp)]
    rw [hc] at h1 h2 h3 h4 h5 h6 h7 hsh hr hr7
    exact ⟨⟨hr.2, by show (tagF false s).ptrs ≤ _; omega, ⟨h3.1, by have := h3.2; show (tagF false s).tag < _; omega⟩, by show (tagF false s).many ≤ _; omega, by show (tagF false s).shared.length ≤ _; omega, hsh, h7⟩, by show (roomF _ _).1 ≤ _; omega⟩
   | true =>
    rw [if_pos rfl]
    rw [hc] at h1 h2 h3 h4 h5 h6 h7 hsh hr hr7
    unfold shareF
    cases hf : (tagF true s).shared.find? (fun r => r.1 ≤ kOf f.size) with
    | none =>
     refine ⟨⟨hr.2, by show (tagF true s).ptrs ≤ _; omega, ⟨h3.1, by have := h3.2; show (tagF true s).tag < _; omega⟩, by show (tagF true s).many ≤ _; omega, by show (_ ++ [_]).length ≤ _; simp; omega, ?_, h7⟩, by show (roomF _ _).1 ≤ _; omega⟩
     intro r hrm
     rcases List.mem_append.1 hrm with hrm | hrm
     · exact hsh r hrm
     · obtain rfl : r = (kOf f.size, (roomF (kOf f.size) (tagF true s).ls).1) := by simpa using hrm
       exact ⟨hk, Nat.lt_of_lt_of_le hr.1 (Nat.mul_le_mul_left _ (by omega))⟩
    | some r =>
     have hrm := List.mem_of_find?_eq_some hf
     have hrk : r.1 ≤ kOf f.size := by simpa using List.find?_some hf
     refine ⟨⟨h1.mono (by omega), by dsimp only; omega, ⟨h3.1, by have := h3.2; dsimp only; omega⟩, by dsimp only; omega, by dsimp only; omega, hsh, h7⟩, ?_⟩
     show r.2 * 2 ^ (kOf f.size - r.1) ≤ _
     have := shared_bd hrk hk (h6 r hrm).2
     omega
theorem lay_bd : ∀ (l : List Fld) {n : Nat} {s : PS}, PBd n s → PBd (n + l.length) (layF l s).2
 | [], _, _, h => h
 | f :: r, n, s, h => by
   have := lay_bd r (place_bd h f).1
   rw [show n + (f :: r).length = n + 1 + r.length by simp; omega]
   exact this
theorem lay_bd_at : ∀ (l : List Fld) {n : Nat} {s : PS}, PBd n s → n + l.length ≤ 13 → ∀ a ∈ (layF l s).1, a ≤ 2000
 | [], _, _, _, _ => fun _ h => by cases h
 | f :: r, n, s, h, hn => fun a ha => by
   have hp := place_bd h f
   simp at hn
   rcases List.mem_cons.1 ha with rfl | ha
   · have := hp.2; omega
   · exact lay_bd_at r hp.1 (by omega) a ha
end Go.Proofs.YtehhbbdaeonebaaGreatDoor
