/- Texts of the proof of the law FnExactAccessPut, side by side: part 5. -/
import Derived.Maps.AppendAt
import Derived.Deep.RegionHeld3
import Derived.Test.YtfnecflkahmjoaaMExactAccessPut04
set_option maxHeartbeats 8000000
set_option maxRecDepth 100000
namespace Go.Proofs.Ytfnecflkahmjoaa
open Go.RowKit
theorem info5 : (Try.prog.info? 5).map (fun i => (i.zero, i.size, i.bytes)) = some (some (.int .u8 0), 1, 1) := by kernel_rfl
theorem l1Bytes_any (n size : Int) (w : World) (h0 : 0 ≤ size) (h1 : size ≤ 1000000) :
 Calls Try.prog 56 #[.int .i64 n, .int .i64 size] w fun e w' => e = .returned (.string ⟨(leB n size.toNat).toArray⟩) ∧ Below w.heap.size w w' := by
 obtain ⟨z, rfl⟩ := Int.eq_ofNat_of_zero_le h0
 obtain ⟨i0, hi, hz0, hz1, hz2⟩ := info_parts info5
 go_enter Try.func56, Try.ntmps56
 go_wp2
 go_loopw [0, 5, 6] (fun m v i wr => ∃ k : Nat, k ≤ z ∧ i = .int .i64 k ∧ m = .int .i64 (shr8 n k) ∧ Hid (wr.ownsRow w.heap.size 5 1 v k (Lib.byteCells (leB n k))) ∧ Hid (Below w.heap.size w wr)) (fun _ _ i _ => (z - intOf i).toNat)
 case atStart => exact ⟨0, by omega, rfl, rfl, World.ownsRow_made w #[] 0 (Nat.le_refl _) (by decide) rfl, (Below.refl _ _).alloc (Nat.le_refl _) _⟩
 case round =>
  obtain ⟨k, hk, rfl, rfl, hown, HB⟩ := hrel
  by_cases hlt : k < z
  · have hb : Hid (∀ b : Int, b = ((UInt8.ofNat (shr8 n k % 256).toNat).toNat : Int) → Lib.byteCells (leB n k) ++ [.int .u8 b] = Lib.byteCells (leB n (k + 1))) := fun b hb => by rw [hb, byteCells_snoc', ← leB_snoc]
    go_wp2_with (at_builtin; go_must (refine wpList_append_own _ rfl (.tmp 13) (.tmp 16) 82 rfl w.heap.size 5 i0 (.int .u8 0) 1 1 Try.underlying82 hi hz0 hz1 hz2 rfl (by decide) u5 _ _ rfl (hown.out.alloc _) ⟨wr.heap.size, 0, none⟩ 1 1 [_] rfl rfl (cell_one_new _ _ _) (by simp [Value.oneCell']) (by unfold maxLen; omega) (by omega) (by have := HB.out.size; simp; omega) ?_); intro v' w1 hown' hgrow _)
    have hrel' : w1.ownsRow w.heap.size 5 1 v' (k + 1) (Lib.byteCells (leB n (k + 1))) := by rw [← hb.out _ (ofNat_toNat_u8 _).symm]; exact hown'
    have hB' : Below w.heap.size w w1 := below_append HB.out HB.out.size hown.out hgrow
    go_roundw
    case rel => exact ⟨k + 1, by omega, by go_num, rfl, hrel', hB'⟩
    case measure => simp [intOf]; omega
  · obtain rfl : k = z := by omega
    have hcv := convert_own (P := Try.prog) wr 82 9 5 w.heap.size k (leB n k) u5 (leB_length n k) Try.underlying82 Try.underlying5 Try.underlying9 hown.out
    go_wp2
    go_ret
    exact ⟨by simp, HB.out⟩
theorem cells_six_new (w : World) (r : Nd × Hd) (t : TypeId) : ∀ j u, (rowOf [r])[j]? = some u → (w.alloc (.cells #[.int .i64 r.1.kind, .string r.1.data, .slice r.2.A r.1.ptrs.length r.2.a, .int .i64 r.1.size, .int .i64 r.1.count, .slice r.2.B r.1.items.length r.2.b] t)).cell? ((⟨w.heap.size, 0, none⟩ : Addr).add j) = some u := by
 intro j u hj
 rw [add_zero0, cell_of_row _ _ _ _ _ (0, 0) (heap_alloc_new w _)]
 simp only [rowOf] at hj
 match j, hj with
 | 0, hj => simpa using hj
 | 1, hj => simpa using hj
 | 2, hj => simpa using hj
 | 3, hj => simpa using hj
 | 4, hj => simpa using hj
 | 5, hj => simpa using hj
open Go.RowKit Go.Deep
end Go.Proofs.Ytfnecflkahmjoaa
namespace Go.Proofs.Ytfnecflkahmjoaa
open Go.RowKit
def blk : Option Addr → List Nat
 | none => []
 | some a => [a.block]
abbrev NB := Nd × Hd × List Nat
def rowB (q : List NB) : List Value := rowOf (q.map fun r => (r.1, r.2.1))
def blkB (q : List NB) : List Nat := q.flatMap fun r => r.2.2
def OwS (w : World) : Nat → Option Addr → Nat → List Nd → List Nat → Prop
 | 0, A, c, l, bs => l = [] ∧ w.ownsRow 0 nodeT 6 (.slice A 0 c) 0 [] ∧ bs = blk A
 | m + 1, A, c, l, bs => ∃ q : List NB, q.map (·.1) = l ∧ w.ownsRow 0 nodeT 6 (.slice A q.length c) q.length (rowB q) ∧ bs = blk A ++ blkB q ∧
    ∀ r ∈ q, r.1.data.size ≤ maxLen ∧ ∃ b1 b2, r.2.2 = b1 ++ b2 ∧ OwS w m r.2.1.A r.2.1.a r.1.ptrs b1 ∧ OwS w m r.2.1.B r.2.1.b r.1.items b2
def OwN (w : World) (m : Nat) (n : Nd) (h : Hd) (bs : List Nat) : Prop := n.data.size ≤ maxLen ∧ ∃ b1 b2, bs = b1 ++ b2 ∧ OwS w m h.A h.a n.ptrs b1 ∧ OwS w m h.B h.b n.items b2
theorem own_blk {w : World} {B n k c : Nat} {A : Option Addr} {xs : List Value} (h : w.ownsRow B nodeT 6 (.slice A n c) k xs) : (A = none ∧ n = 0 ∧ c = 0 ∧ k = 0) ∨ ∃ g cur, A = some ⟨g, 0, none⟩ ∧ n = k ∧ B ≤ g ∧ w.heap[g]? = some (.cells cur nodeT (0, 0)) ∧ k ≤ c ∧ c ≤ maxLen ∧ cur.size = c * 6 ∧ cur.toList.take (k * 6) = xs := by
 rcases h.2 with ⟨hv, h0⟩ | ⟨g, cap, cur, hv, h1, h2, h3, h4, h5, h6⟩
 · injection hv with a b c
   exact .inl ⟨a, b, c, h0⟩
 · injection hv with a b c
   subst a b c
   exact .inr ⟨g, cur, rfl, rfl, h1, h2, h3, h4, h5, h6⟩
theorem own_frame {w w' : World} {n k c : Nat} {A : Option Addr} {xs : List Value} (h : w.ownsRow 0 nodeT 6 (.slice A n c) k xs) (hb : ∀ b ∈ blk A, w'.heap[b]? = w.heap[b]?) : w'.ownsRow 0 nodeT 6 (.slice A n c) k xs := by
 refine ⟨h.1, ?_⟩
 rcases h.2 with hv | ⟨g, cap, cur, hv, h1, h2, h3⟩
 · exact .inl hv
 · refine .inr ⟨g, cap, cur, hv, h1, ?_, h3⟩
   injection hv with a
   rw [hb g (by rw [a]; exact List.mem_singleton.2 rfl)]
   exact h2
theorem OwS.frame {w w' : World} : ∀ (m : Nat) (A : Option Addr) (c : Nat) (l : List Nd) (bs : List Nat), OwS w m A c l bs → (∀ b ∈ bs, w'.heap[b]? = w.heap[b]?) → OwS w' m A c l bs
 | 0, A, c, l, bs, ⟨hl, ho, hb⟩, hf => ⟨hl, own_frame ho (fun b hm => hf b (by rw [hb]; exact hm)), hb⟩
 | m + 1, A, c, l, bs, ⟨q, hq, ho, hb, hr⟩, hf => by
   refine ⟨q, hq, own_frame ho (fun b hm => hf b (by rw [hb]; exact List.mem_append_left _ hm)), hb, fun r hm => ?_⟩
   obtain ⟨h0, b1, b2, he, h1, h2⟩ := hr r hm
   have hsub : ∀ b ∈ r.2.2, w'.heap[b]? = w.heap[b]? := fun b hbm => hf b (by rw [hb]; exact List.mem_append_right _ (List.mem_flatMap.2 ⟨r, hm, hbm⟩))
   exact ⟨h0, b1, b2, he, OwS.frame m _ _ _ _ h1 (fun b hbm => hsub b (by rw [he]; exact List.mem_append_left _ hbm)), OwS.frame m _ _ _ _ h2 (fun b hbm => hsub b (by rw [he]; exact List.mem_append_right _ hbm))⟩
theorem OwN.frame {w w' : World} {m : Nat} {n : Nd} {h : Hd} {bs : List Nat} (hn : OwN w m n h bs) (hf : ∀ b ∈ bs, w'.heap[b]? = w.heap[b]?) : OwN w' m n h bs := by
 obtain ⟨h0, b1, b2, he, h1, h2⟩ := hn
 exact ⟨h0, b1, b2, he, OwS.frame m _ _ _ _ h1 (fun b hbm => hf b (by rw [he]; exact List.mem_append_left _ hbm)), OwS.frame m _ _ _ _ h2 (fun b hbm => hf b (by rw [he]; exact List.mem_append_right _ hbm))⟩
theorem own_lt {w : World} {n k c : Nat} {A : Option Addr} {xs : List Value} (h : w.ownsRow 0 nodeT 6 (.slice A n c) k xs) : ∀ b ∈ blk A, b < w.heap.size ∧ Clean w b := by
 intro b hb
 rcases own_blk h with ⟨rfl, _⟩ | ⟨g, cur, rfl, _, _, hg, _⟩
 · cases hb
 · obtain rfl := List.mem_singleton.1 hb
   exact ⟨row_lt hg, _, _, hg⟩
theorem OwS.lt {w : World} : ∀ (m : Nat) (A : Option Addr) (c : Nat) (l : List Nd) (bs : List Nat), OwS w m A c l bs → ∀ b ∈ bs, b < w.heap.size ∧ Clean w b
 | 0, A, c, l, bs, ⟨hl, ho, hb⟩ => by rw [hb]; exact own_lt ho
 | m + 1, A, c, l, bs, ⟨q, hq, ho, hb, hr⟩ => by
   rw [hb]
   intro b hm
   rcases List.mem_append.1 hm with hm | hm
   · exact own_lt ho b hm
   · obtain ⟨r, hrm, hbr⟩ := List.mem_flatMap.1 hm
     obtain ⟨_, b1, b2, he, h1, h2⟩ := hr r hrm
     have hbr' : b ∈ b1 ++ b2 := by rw [← he]; exact hbr
     rcases List.mem_append.1 hbr' with hbr' | hbr'
     · exact OwS.lt m _ _ _ _ h1 b hbr'
     · exact OwS.lt m _ _ _ _ h2 b hbr'
theorem OwN.lt {w : World} {m : Nat} {n : Nd} {h : Hd} {bs : List Nat} (hn : OwN w m n h bs) : ∀ b ∈ bs, b < w.heap.size ∧ Clean w b := by
 obtain ⟨_, b1, b2, he, h1, h2⟩ := hn
 intro b hb
 rw [he] at hb
 rcases List.mem_append.1 hb with hb | hb
 · exact h1.lt _ _ _ _ _ b hb
 · exact h2.lt _ _ _ _ _ b hb
theorem OwS.nil (w : World) : ∀ m, OwS w m none 0 [] []
 | 0 => ⟨rfl, World.ownsRow_nil _ _ _ _, rfl⟩
 | m + 1 => ⟨[], rfl, World.ownsRow_nil _ _ _ _, rfl, fun r h => by cases h⟩
theorem OwN.none (w : World) (m : Nat) : OwN w m (.mk 0 ⟨#[]⟩ [] 0 0 []) ⟨none, 0, none, 0⟩ [] := ⟨by decide, [], [], rfl, OwS.nil w m, OwS.nil w m⟩
def InB (w : World) (bs : List Nat) : Nat → Prop := fun k => k ∈ bs ∧ Clean w k
theorem own_len {w : World} {n k c : Nat} {A : Option Addr} {xs : List Value} (h : w.ownsRow 0 nodeT 6 (.slice A n c) k xs) : k ≤ maxLen := by
 rcases own_blk h with ⟨_, _, _, h0⟩ | ⟨_, _, _, _, _, _, h1, h2, _⟩
 · omega
 · omega
theorem OwS.nds {w : World} : ∀ (m : Nat) (A : Option Addr) (c : Nat) (l : List Nd) (bs : List Nat), OwS w m A c l bs → NdsAt w (InB w bs) m A l
 | 0, A, c, l, bs, ⟨hl, _, _⟩ => hl
 | m + 1, A, c, l, bs, ⟨q, hq, ho, hb, hr⟩ => by
   have hlen := own_len ho
   refine ⟨by rw [← hq, List.length_map]; exact hlen, q.map fun r => (r.1, r.2.1), by rw [List.map_map]; exact hq, ?_, fun r hm => ?_⟩
   · rcases own_blk ho with ⟨_, h0, _⟩ | ⟨g, cur, hA, _, _, hg, h3, h4, h5, h6⟩
     · left
       rw [List.eq_nil_of_length_eq_zero h0]; rfl
     · right
       refine ⟨⟨g, 0, Option.none⟩, hA, ⟨by rw [hb, hA]; exact List.mem_append_left _ (List.mem_singleton.2 rfl), _, _, hg⟩, at_cells fun j u hj => ?_⟩
       rw [add_zero0, cell_of_row _ _ _ _ _ _ hg]
       have hj' : (cur.toList.take (q.length * 6))[j]? = some u := by rw [h6]; exact hj
       have hlt : j < q.length * 6 := by
        rcases Nat.lt_or_ge j (q.length * 6) with h | h
        · exact h
        · rw [List.getElem?_eq_none (by rw [List.length_take]; omega)] at hj'; cases hj'
       rw [List.getElem?_take_of_lt hlt] at hj'
       simpa using hj'
   · obtain ⟨r0, hr0, rfl⟩ := List.mem_map.1 hm
     obtain ⟨h0, b1, b2, he, h1, h2⟩ := hr r0 hr0
     have hsub : ∀ b ∈ r0.2.2, b ∈ bs := fun b hbm => by rw [hb]; exact List.mem_append_right _ (List.mem_flatMap.2 ⟨r0, hr0, hbm⟩)
     exact ⟨h0, (OwS.nds m _ _ _ _ h1).weak (fun k hk => ⟨hsub k (by rw [he]; exact List.mem_append_left _ hk.1), hk.2⟩), (OwS.nds m _ _ _ _ h2).weak (fun k hk => ⟨hsub k (by rw [he]; exact List.mem_append_right _ hk.1), hk.2⟩)⟩
theorem OwN.nd {w : World} {m : Nat} {n : Nd} {h : Hd} {bs : List Nat} (hn : OwN w m n h bs) : NdAt w (InB w bs) m n h := by
 obtain ⟨h0, b1, b2, he, h1, h2⟩ := hn
 exact ⟨h0, (h1.nds _ _ _ _ _).weak (fun k hk => ⟨by rw [he]; exact List.mem_append_left _ hk.1, hk.2⟩), (h2.nds _ _ _ _ _).weak (fun k hk => ⟨by rw [he]; exact List.mem_append_right _ hk.1, hk.2⟩)⟩
def RowO (w : World) (B : Nat) (v : Value) (q : List NB) (M : Nat) : Prop :=
 w.ownsRow B nodeT 6 v q.length (rowB q) ∧ (∀ r ∈ q, OwN w M r.1 r.2.1 r.2.2) ∧ (blkB q).Nodup ∧ ∀ b ∈ blkB q, B ≤ b ∧ some b ≠ v.ownBlock
theorem RowO.nil (w : World) (B M : Nat) : RowO w B (.slice none 0 0) [] M := ⟨World.ownsRow_nil _ _ _ _, fun r h => (by cases h), List.nodup_nil, fun b h => (by cases h)⟩
theorem RowO.lt {w : World} {B M : Nat} {v : Value} {q : List NB} (h : RowO w B v q M) : ∀ b ∈ blkB q, b < w.heap.size := by
 intro b hb
 obtain ⟨r, hr, hbr⟩ := List.mem_flatMap.1 hb
 exact ((h.2.1 r hr).lt b hbr).1
theorem RowO.low {w w' : World} {B M : Nat} {v : Value} {q : List NB} (h : RowO w B v q M) (hb : Below w.heap.size w w') : RowO w' B v q M :=
 ⟨h.1.kept (row := none) ⟨hb.os, hb.tape, hb.output, hb.size, fun k hk _ => hb.block k hk⟩ (by
  by_cases hv : v.ownBlock = none
  · exact .inl hv
  · exact .inr (fun e => hv e)), fun r hr => (h.2.1 r hr).frame (fun b hbr => hb.block b ((h.2.1 r hr).lt b hbr).1), h.2.2⟩
theorem RowO.drew {w : World} {B M : Nat} {v : Value} {q : List NB} (h : RowO w B v q M) : RowO w.drew B v q M := ⟨h.1.drew, fun r hr => (h.2.1 r hr).frame (fun _ _ => rfl), h.2.2⟩
theorem RowO.alloc {w : World} {B M : Nat} {v : Value} {q : List NB} (h : RowO w B v q M) (o : Obj) : RowO (w.alloc o) B v q M := h.low ((Below.refl _ _).alloc (Nat.le_refl _) o)
theorem RowO.store {w : World} {B M g i : Nat} {u v : Value} {q : List NB} (h : RowO w B v q M) (hg : g < B) : RowO (w.setCell ⟨g, i, none⟩ u) B v q M :=
 ⟨ownsRow_setCell_below h.1 hg u, fun r hr => (h.2.1 r hr).frame (fun b hbr => Below.heap_setCell w ⟨g, i, none⟩ u b (by have := (h.2.2.2 b (List.mem_flatMap.2 ⟨r, hr, hbr⟩)).1; show b ≠ g; omega)), h.2.2⟩
theorem blkB_snoc (q : List NB) (r : NB) : blkB (q ++ [r]) = blkB q ++ r.2.2 := by unfold blkB; simp
theorem rowB_snoc (q : List NB) (r : NB) : rowB (q ++ [r]) = rowB q ++ rowOf [(r.1, r.2.1)] := by unfold rowB; rw [List.map_append, rowOf_app]; rfl
theorem RowO.next {w3 w4 : World} {B H M : Nat} {v v' : Value} {q : List NB} {y : Nd} {hy : Hd} {bs : List Nat} (h : RowO w3 B v q M) (hny : OwN w3 M y hy bs) (hnd : bs.Nodup) (hbs : ∀ b ∈ bs, H ≤ b) (hBH : B ≤ H) (hqH : ∀ b ∈ blkB q, b < H) (hvH : ∀ k, v.ownBlock = some k → k < H)
 (hown : w4.ownsRow B nodeT 6 v' (q.length + 1) (rowB q ++ rowOf [(y, hy)])) (hgrow : w3.grownBy w4 v.ownBlock) (hat : v'.ownBlock = v.ownBlock ∨ v'.ownBlock = some w3.heap.size) : RowO w4 B v' (q ++ [(y, hy, bs)]) M := by
 have hk : ∀ b, b < w3.heap.size → some b ≠ v.ownBlock → w4.heap[b]? = w3.heap[b]? ∧ some b ≠ v'.ownBlock := fun b h1 h2 => ⟨hgrow.block b h1 h2, by
  rcases hat with e | e
  · rw [e]; exact h2
  · rw [e]; intro e2; injection e2 with e2; omega⟩
 have hy' : ∀ b ∈ bs, b < w3.heap.size ∧ some b ≠ v.ownBlock := fun b hb => ⟨(hny.lt b hb).1, fun e => by have := hvH b e.symm; have := hbs b hb; omega⟩
 refine ⟨by rw [List.length_append, rowB_snoc]; exact hown, fun r hr => ?_, ?_, ?_⟩
 · rcases List.mem_append.1 hr with hr | hr
   · exact (h.2.1 r hr).frame (fun b hb => (hk b (((h.2.1 r hr).lt b hb).1) (h.2.2.2 b (List.mem_flatMap.2 ⟨r, hr, hb⟩)).2).1)
   · obtain rfl := List.mem_singleton.1 hr
     exact hny.frame (fun b hb => (hk b (hy' b hb).1 (hy' b hb).2).1)
 · rw [blkB_snoc]
   exact List.nodup_append.2 ⟨h.2.2.1, hnd, fun a ha b hb e => by have := hqH a ha; have := hbs b hb; omega⟩
 · intro b hb
   rw [blkB_snoc] at hb
   rcases List.mem_append.1 hb with hb | hb
   · exact ⟨(h.2.2.2 b hb).1, (hk b (h.lt b hb) (h.2.2.2 b hb).2).2⟩
   · exact ⟨Nat.le_trans hBH (hbs b hb), (hk b (hy' b hb).1 (hy' b hb).2).2⟩
theorem own_zero {w : World} {B : Nat} {v : Value} {n : Nat} {xs : List Value} (h : w.ownsRow B nodeT 6 v n xs) : w.ownsRow 0 nodeT 6 v n xs := by
 refine ⟨h.1, ?_⟩
 rcases h.2 with hv | ⟨g, cap, cur, hv, _, h3⟩
 · exact .inl hv
 · exact .inr ⟨g, cap, cur, hv, Nat.zero_le _, h3⟩
theorem RowO.done {w : World} {B M : Nat} {v : Value} {q : List NB} (h : RowO w B v q M) : ∃ A c bs, v = .slice A q.length c ∧ OwS w (M + 1) A c (q.map (·.1)) bs ∧ bs.Nodup ∧ ∀ b ∈ bs, B ≤ b := by
 have hv : ∃ A c, v = .slice A q.length c := by
  rcases h.1.2 with ⟨h1, h0⟩ | ⟨g, cap, cur, h1, _⟩
  · exact ⟨none, 0, by rw [h1, h0]⟩
  · exact ⟨_, _, h1⟩
 obtain ⟨A, c, rfl⟩ := hv
 refine ⟨A, c, blk A ++ blkB q, rfl, ⟨q, rfl, own_zero h.1, rfl, fun r hr => h.2.1 r hr⟩, ?_, ?_⟩
 · refine List.nodup_append.2 ⟨?_, h.2.2.1, fun a ha b hb e => ?_⟩
   · cases A with
     | none => exact List.nodup_nil
     | some x => exact List.nodup_cons.2 ⟨by simp, List.nodup_nil⟩
   · cases A with
     | none => cases ha
     | some x =>
      obtain rfl := List.mem_singleton.1 ha
      exact (h.2.2.2 b hb).2 (by rw [← e]; rfl)
 · intro b hb
   rcases List.mem_append.1 hb with hb | hb
   · rcases own_blk h.1 with ⟨rfl, _⟩ | ⟨g, cur, rfl, _, hg, _⟩
     · cases hb
     · obtain rfl := List.mem_singleton.1 hb; exact hg
   · exact (h.2.2.2 b hb).1
def NewO (m : Nat) (n : Nd) (w : World) (e : Ending) (w' : World) : Prop := ∃ (h : Hd) (bs : List Nat), e = .returned (.agg #[.int .i64 n.kind, .string n.data, .slice h.A n.ptrs.length h.a, .int .i64 n.size, .int .i64 n.count, .slice h.B n.items.length h.b]) ∧ OwN w' m n h bs ∧ bs.Nodup ∧ (∀ b ∈ bs, w.heap.size ≤ b) ∧ Below w.heap.size w w'
def NewOS (m : Nat) (l : List Nd) (w : World) (e : Ending) (w' : World) : Prop := ∃ (A : Option Addr) (c : Nat) (bs : List Nat), e = .returned (.slice A l.length c) ∧ OwS w' m A c l bs ∧ bs.Nodup ∧ (∀ b ∈ bs, w.heap.size ≤ b) ∧ Below w.heap.size w w'
theorem OwN.below {w w' : World} {m : Nat} {n : Nd} {h : Hd} {bs : List Nat} (hn : OwN w m n h bs) (hb : Below w.heap.size w w') : OwN w' m n h bs := hn.frame (fun b hm => hb.block b (hn.lt b hm).1)
theorem OwS.below {w w' : World} {m : Nat} {A : Option Addr} {c : Nat} {l : List Nd} {bs : List Nat} (hn : OwS w m A c l bs) (hb : Below w.heap.size w w') : OwS w' m A c l bs := hn.frame _ _ _ _ _ (fun b hm => hb.block b (hn.lt _ _ _ _ _ b hm).1)
theorem al_first (w : World) (o : Obj) : (w.alloc o).heap.size = w.heap.size + 1 ∧ Below w.heap.size w (w.alloc o) := ⟨by simp, (Below.refl _ _).alloc (Nat.le_refl _) _⟩
theorem al_next {w W : World} {n : Nat} (h : W.heap.size = w.heap.size + n ∧ Below w.heap.size w W) (o : Obj) : (W.alloc o).heap.size = w.heap.size + (n + 1) ∧ Below w.heap.size w (W.alloc o) := ⟨by simp; omega, h.2.alloc (by omega) _⟩
theorem al_row {w W : World} {n : Nat} (h : W.heap.size = w.heap.size + n ∧ Below w.heap.size w W) (a : Array Value) (T : TypeId) : (W.alloc (.cells a T)).heap[w.heap.size + n]? = some (.cells a T (0, 0)) := by
 rw [← h.1]
 exact heap_alloc_new _ _
open Go.RowKit Go.Deep
abbrev accT : TypeId := 36
theorem cellsV {w : World} {g : Nat} {v0 v1 v2 v3 v4 v5 v6 : Value} {T : TypeId} (h : w.heap[g]? = some (.cells #[v0, v1, v2, v3, v4, v5, v6] T (0, 0))) :
 w.cell? ⟨g, 0, none⟩ = some v0 ∧ w.cell? ⟨g, 1, none⟩ = some v1 ∧ w.cell? ⟨g, 2, none⟩ = some v2 ∧ w.cell? ⟨g, 3, none⟩ = some v3 ∧ w.cell? ⟨g, 4, none⟩ = some v4 ∧ w.cell? ⟨g, 5, none⟩ = some v5 ∧ w.cell? ⟨g, 6, none⟩ = some v6 := by
 refine ⟨?_, ?_, ?_, ?_, ?_, ?_, ?_⟩ <;> (rw [cell_of_row _ _ _ _ _ _ h]; rfl)
@[local go_sem] theorem run_store_fnA (P : Program) (w : World) (a : Addr) (m : Mode) (fn : Fn) (x y : Array Value) : (store a (.func fn x y) m).run P w = stored P w a (.func fn x y) m := run_store P w a _ m rfl
abbrev acrT : TypeId := 57
theorem cellsA {w : World} {g : Nat} {v0 v1 : Value} {T : TypeId} (h : w.heap[g]? = some (.cells #[v0, v1] T (0, 0))) : w.cell? ⟨g, 0, none⟩ = some v0 ∧ w.cell? ⟨g, 1, none⟩ = some v1 := by
 refine ⟨?_, ?_⟩ <;> (rw [cell_of_row _ _ _ _ _ _ h]; rfl)
theorem cellA {w : World} {g : Nat} {v0 : Value} {T : TypeId} (h : w.heap[g]? = some (.cells #[v0] T (0, 0))) : w.cell? ⟨g, 0, none⟩ = some v0 := by
 rw [cell_of_row _ _ _ _ _ _ h]; rfl
def bit1V (b : Nat) : Value := .func (.func 71) #[] #[.pointer (some ⟨b, 0, none⟩), .pointer (some ⟨b + 1, 0, none⟩)]
def bit2V (b : Nat) : Value := .func (.func 73) #[] #[.pointer (some ⟨b, 0, none⟩), .pointer (some ⟨b + 1, 0, none⟩)]
def num1V (b : Nat) : Value := .func (.func 75) #[] #[.pointer (some ⟨b, 0, none⟩), .pointer (some ⟨b + 1, 0, none⟩), .pointer (some ⟨b + 2, 0, none⟩)]
def num2V (b : Nat) : Value := .func (.func 77) #[] #[.pointer (some ⟨b, 0, none⟩), .pointer (some ⟨b + 1, 0, none⟩), .pointer (some ⟨b + 2, 0, none⟩)]
def point1V (b : Nat) : Value := .func (.func 68) #[] #[.pointer (some ⟨b, 0, none⟩)]
def point2V (b : Nat) : Value := .func (.func 70) #[] #[]
def told1V (b : Nat) : Value := .func (.func 79) #[] #[.pointer (some ⟨b + 1, 0, none⟩), .pointer (some ⟨b + 2, 0, none⟩), .pointer (some ⟨b, 0, none⟩)]
def told2V (b : Nat) : Value := .func (.func 80) #[] #[.pointer (some ⟨b, 0, none⟩), .pointer (some ⟨b + 1, 0, none⟩), .pointer (some ⟨b + 2, 0, none⟩)]
theorem bitAcc_any (at_ tu : Int) (w : World) :
 Calls Try.prog 50 #[.int .i64 at_, .int .i64 tu] w fun e w' => e = .returned (.agg #[bit1V w.heap.size, bit2V w.heap.size]) ∧ w'.heap[w.heap.size]? = some (.cells #[.int .i64 at_] 3 (0, 0)) ∧ w'.heap[w.heap.size + 1]? = some (.cells #[.int .i64 tu] 3 (0, 0)) ∧ Below w.heap.size w w' := by
 have hmf : ∀ (fn : Fn) (first cap : Array Value) (w : World), (Instr.makeFunc fn first cap).run Try.prog w = .ok (.func fn first cap) w := fun _ _ _ _ => rfl
 have q0 := al_first w (.cells #[.int .i64 at_] 3)
 have q1 := al_next q0 (.cells #[.int .i64 tu] 3)
 have q2 := al_next q1 (.cells #[bit1V w.heap.size, bit2V w.heap.size] acrT)
 have r0 := heap_alloc_keep (heap_alloc_keep (heap_alloc_new w (.cells #[.int .i64 at_] 3)) (.cells #[.int .i64 tu] 3)) (.cells #[bit1V w.heap.size, bit2V w.heap.size] acrT)
 have r1 := heap_alloc_keep (al_row q0 #[.int .i64 tu] 3) (.cells #[bit1V w.heap.size, bit2V w.heap.size] acrT)
 have rx := al_row q1 #[bit1V w.heap.size, bit2V w.heap.size] acrT
 obtain ⟨e0, e1⟩ := cellsA rx
 have HE := Lib.hid (And.intro e0 e1)
 have HR := Lib.hid (And.intro r0 (And.intro r1 q2.2))
 clear e0 e1 rx r0 r1 q2 q1 q0
 go_enter Try.func50, Try.ntmps50
 go_wp2
 obtain ⟨e0, e1⟩ := HE.out
 unfold bit1V bit2V at e0 e1
 exact bodyPost_ret (v := .agg #[bit1V w.heap.size, bit2V w.heap.size]) (by simp [results, Try.results50, go_sem, e0, e1, bit1V, bit2V]) rfl ⟨rfl, HR.out⟩
theorem numAcc_any (at_ sz tu : Int) (w : World) :
 Calls Try.prog 51 #[.int .i64 at_, .int .i64 sz, .int .i64 tu] w fun e w' => e = .returned (.agg #[num1V w.heap.size, num2V w.heap.size]) ∧ w'.heap[w.heap.size]? = some (.cells #[.int .i64 at_] 3 (0, 0)) ∧ w'.heap[w.heap.size + 1]? = some (.cells #[.int .i64 sz] 3 (0, 0)) ∧ w'.heap[w.heap.size + 2]? = some (.cells #[.int .i64 tu] 3 (0, 0)) ∧ Below w.heap.size w w' := by
 have hmf : ∀ (fn : Fn) (first cap : Array Value) (w : World), (Instr.makeFunc fn first cap).run Try.prog w = .ok (.func fn first cap) w := fun _ _ _ _ => rfl
 have q0 := al_first w (.cells #[.int .i64 at_] 3)
 have q1 := al_next q0 (.cells #[.int .i64 sz] 3)
 have q2 := al_next q1 (.cells #[.int .i64 tu] 3)
 have q3 := al_next q2 (.cells #[num1V w.heap.size, num2V w.heap.size] acrT)
 have r0 := heap_alloc_keep (heap_alloc_keep (heap_alloc_keep (heap_alloc_new w (.cells #[.int .i64 at_] 3)) (.cells #[.int .i64 sz] 3)) (.cells #[.int .i64 tu] 3)) (.cells #[num1V w.heap.size, num2V w.heap.size] acrT)
 have r1 := heap_alloc_keep (heap_alloc_keep (al_row q0 #[.int .i64 sz] 3) (.cells #[.int .i64 tu] 3)) (.cells #[num1V w.heap.size, num2V w.heap.size] acrT)
 have r2 := heap_alloc_keep (al_row q1 #[.int .i64 tu] 3) (.cells #[num1V w.heap.size, num2V w.heap.size] acrT)
 have rx := al_row q2 #[num1V w.heap.size, num2V w.heap.size] acrT
 obtain ⟨e0, e1⟩ := cellsA rx
 have HE := Lib.hid (And.intro e0 e1)
 have HR := Lib.hid (And.intro r0 (And.intro r1 (And.intro r2 q3.2)))
 clear e0 e1 rx r0 r1 r2 q3 q2 q1 q0
 go_enter Try.func51, Try.ntmps51
 go_wp2
 obtain ⟨e0, e1⟩ := HE.out
 unfold num1V num2V at e0 e1
 exact bodyPost_ret (v := .agg #[num1V w.heap.size, num2V w.heap.size]) (by simp [results, Try.results51, go_sem, e0, e1, num1V, num2V]) rfl ⟨rfl, HR.out⟩
theorem pointAcc_any (at_ : Int) (w : World) :
 Calls Try.prog 49 #[.int .i64 at_] w fun e w' => e = .returned (.agg #[point1V w.heap.size, point2V w.heap.size]) ∧ w'.heap[w.heap.size]? = some (.cells #[.int .i64 at_] 3 (0, 0)) ∧ Below w.heap.size w w' := by
 have hmf : ∀ (fn : Fn) (first cap : Array Value) (w : World), (Instr.makeFunc fn first cap).run Try.prog w = .ok (.func fn first cap) w := fun _ _ _ _ => rfl
 have q0 := al_first w (.cells #[.int .i64 at_] 3)
 have q1 := al_next q0 (.cells #[point1V w.heap.size, point2V w.heap.size] acrT)
 have r0 := heap_alloc_keep (heap_alloc_new w (.cells #[.int .i64 at_] 3)) (.cells #[point1V w.heap.size, point2V w.heap.size] acrT)
 have rx := al_row q0 #[point1V w.heap.size, point2V w.heap.size] acrT
 obtain ⟨e0, e1⟩ := cellsA rx
 have HE := Lib.hid (And.intro e0 e1)
 have HR := Lib.hid (And.intro r0 q1.2)
 clear e0 e1 rx r0 q1 q0
 go_enter Try.func49, Try.ntmps49
 go_wp2
 obtain ⟨e0, e1⟩ := HE.out
 unfold point1V point2V at e0 e1
 exact bodyPost_ret (v := .agg #[point1V w.heap.size, point2V w.heap.size]) (by simp [results, Try.results49, go_sem, e0, e1, point1V, point2V]) rfl ⟨rfl, HR.out⟩
theorem told_any (f g : Value) (tg pl : Int) (w : World) :
 Calls Try.prog 53 #[.agg #[f, g], .int .i64 tg, .int .i64 pl] w fun e w' => e = .returned (.agg #[told1V w.heap.size, told2V w.heap.size]) ∧ w'.heap[w.heap.size]? = some (.cells #[f, g] acrT (0, 0)) ∧ w'.heap[w.heap.size + 1]? = some (.cells #[.int .i64 tg] 3 (0, 0)) ∧ w'.heap[w.heap.size + 2]? = some (.cells #[.int .i64 pl] 3 (0, 0)) ∧ Below w.heap.size w w' := by
 have hmf : ∀ (fn : Fn) (first cap : Array Value) (w : World), (Instr.makeFunc fn first cap).run Try.prog w = .ok (.func fn first cap) w := fun _ _ _ _ => rfl
 have q0 := al_first w (.cells #[f, g] acrT)
 have q1 := al_next q0 (.cells #[.int .i64 tg] 3)
 have q2 := al_next q1 (.cells #[.int .i64 pl] 3)
 have q3 := al_next q2 (.cells #[told1V w.heap.size, told2V w.heap.size] acrT)
 have r0 := heap_alloc_keep (heap_alloc_keep (heap_alloc_keep (heap_alloc_new w (.cells #[f, g] acrT)) (.cells #[.int .i64 tg] 3)) (.cells #[.int .i64 pl] 3)) (.cells #[told1V w.heap.size, told2V w.heap.size] acrT)
 have r1 := heap_alloc_keep (heap_alloc_keep (al_row q0 #[.int .i64 tg] 3) (.cells #[.int .i64 pl] 3)) (.cells #[told1V w.heap.size, told2V w.heap.size] acrT)
 have r2 := heap_alloc_keep (al_row q1 #[.int .i64 pl] 3) (.cells #[told1V w.heap.size, told2V w.heap.size] acrT)
 have rx := al_row q2 #[told1V w.heap.size, told2V w.heap.size] acrT
 obtain ⟨e0, e1⟩ := cellsA rx
 have HE := Lib.hid (And.intro e0 e1)
 have HR := Lib.hid (And.intro r0 (And.intro r1 (And.intro r2 q3.2)))
 clear e0 e1 rx r0 r1 r2 q3 q2 q1 q0
 go_enter Try.func53, Try.ntmps53
 go_wp2
 obtain ⟨e0, e1⟩ := HE.out
 unfold told1V told2V at e0 e1
 exact bodyPost_ret (v := .agg #[told1V w.heap.size, told2V w.heap.size]) (by simp [results, Try.results53, go_sem, e0, e1, told1V, told2V]) rfl ⟨rfl, HR.out⟩
end Go.Proofs.Ytfnecflkahmjoaa
namespace Go.Proofs.Ytfnecflkahmjoaa
open Go.RowKit Go.Deep
end Go.Proofs.Ytfnecflkahmjoaa
