/- Texts of the proof of the law FnExactCanonPut, side by side: part 14. -/
import Derived.Test.YtbijfkpilncclaaGreatMExactCanonPut00
import Derived.Test.YtbijfkpilncclaaGreatMExactCanonPut01
import Derived.Test.YtbijfkpilncclaaGreatMExactCanonPut02
import Derived.Test.YtbijfkpilncclaaGreatMExactCanonPut03
import Derived.Test.YtbijfkpilncclaaGreatMExactCanonPut04
import Derived.Test.YtbijfkpilncclaaGreatMExactCanonPut05
import Derived.Test.YtbijfkpilncclaaGreatMExactCanonPut06
import Derived.Test.YtbijfkpilncclaaGreatMExactCanonPut07
import Derived.Test.YtbijfkpilncclaaGreatMExactCanonPut08
import Derived.Test.YtbijfkpilncclaaGreatMExactCanonPut09
import Derived.Test.YtbijfkpilncclaaGreatMExactCanonPut10
import Derived.Test.YtbijfkpilncclaaGreatMExactCanonPut11
import Derived.Test.YtbijfkpilncclaaGreatMExactCanonPut12
import Derived.Test.YtbijfkpilncclaaGreatMExactCanonPut13
/- A row of one's own nodes: a node's pointers grow. -/
namespace Go.Proofs.YtbijfkpilncclaaGreat
open Go.RowKit Go.Deep
theorem NdCell.flat {w : World} {g o : Nat} {n : Nd} {h : Hd} (hc : NdCell w ((⟨g, 0, none⟩ : Addr).add o) n h) : w.cell? ⟨g, o, none⟩ = some (.int .i64 n.kind) ∧ w.cell? ⟨g, o + 1, none⟩ = some (.string n.data) ∧ w.cell? ⟨g, o + 2, none⟩ = some (.slice h.A n.ptrs.length h.a) ∧ w.cell? ⟨g, o + 3, none⟩ = some (.int .i64 n.size) ∧ w.cell? ⟨g, o + 4, none⟩ = some (.int .i64 n.count) ∧ w.cell? ⟨g, o + 5, none⟩ = some (.slice h.B n.items.length h.b) := by
  rw [add_zero0] at hc
  exact ⟨hc.c0, hc.c1, hc.c2, hc.c3, hc.c4, hc.c5⟩
/-- the cells of a node in a row. -/
theorem RowG.cells {w : World} {M g c : Nat} {pre post : List NB} {r : NB} (h : RowG w g c (pre ++ r :: post) M) : w.cell? ⟨g, pre.length * 6, none⟩ = some (.int .i64 r.1.kind) ∧ w.cell? ⟨g, pre.length * 6 + 1, none⟩ = some (.string r.1.data) ∧ w.cell? ⟨g, pre.length * 6 + 2, none⟩ = some (.slice r.2.1.A r.1.ptrs.length r.2.1.a) ∧ w.cell? ⟨g, pre.length * 6 + 3, none⟩ = some (.int .i64 r.1.size) ∧ w.cell? ⟨g, pre.length * 6 + 4, none⟩ = some (.int .i64 r.1.count) ∧ w.cell? ⟨g, pre.length * 6 + 5, none⟩ = some (.slice r.2.1.B r.1.items.length r.2.1.b) ∧ ∀ i, w.frozen? ⟨g, i, none⟩ = false := by
  obtain ⟨cur, h1, h2, h3, h4, h5, h6, h7, h8⟩ := h
  have hl : pre.length < (pre ++ r :: post).length := by simp
  have key : ∀ e, e < 6 → w.cell? ⟨g, pre.length * 6 + e, none⟩ = some (cellE (r.1, r.2.1) e) := by
    intro e he
    rw [cell_of_row _ _ _ _ _ _ h1]
    have h9 : (cur.toList.take ((pre ++ r :: post).length * 6))[pre.length * 6 + e]? = some (cellE (r.1, r.2.1) e) := by
      rw [h5]
      unfold rowB
      rw [rowOf_get, List.getElem?_map, show (pre.length * 6 + e) / 6 = pre.length by omega, show (pre.length * 6 + e) % 6 = e by omega, List.getElem?_append_right (Nat.le_refl _), Nat.sub_self]
      rfl
    rw [List.getElem?_take_of_lt (by omega)] at h9
    simpa using h9
  exact ⟨key 0 (by decide), key 1 (by decide), key 2 (by decide), key 3 (by decide), key 4 (by decide), key 5 (by decide), row_free h1⟩
theorem blk_own (A : Option Addr) (n c : Nat) : blk A = (Value.slice A n c).ownBlock.toList := by cases A <;> rfl
/-- what a node in a row points to. -/
theorem RowG.ptrs {w : World} {M g c : Nat} {pre post : List NB} {r : NB} (h : RowG w g c (pre ++ r :: post) (M + 1)) : ∃ (q0 : List NB) (b2 : List Nat), q0.map (·.1) = r.1.ptrs ∧ w.ownsRow 0 nodeT 6 (.slice r.2.1.A r.1.ptrs.length r.2.1.a) r.1.ptrs.length (rowB q0) ∧ r.2.2 = (blk r.2.1.A ++ blkB q0) ++ b2 ∧ (∀ x ∈ q0, OwN w M x.1 x.2.1 x.2.2) ∧ OwS w (M + 1) r.2.1.B r.2.1.b r.1.items b2 ∧ r.1.data.size ≤ maxLen := by
  obtain ⟨cur, h1, h2, h3, h4, h5, h6, h7, h8⟩ := h
  obtain ⟨hd, b1, b2, he, ⟨q0, hq, ho, hb, hr⟩, h10⟩ := h6 r (List.mem_append_right _ List.mem_cons_self)
  have hl : q0.length = r.1.ptrs.length := by rw [← hq, List.length_map]
  rw [hl] at ho
  exact ⟨q0, b2, hq, ho, by rw [he, hb], hr, h10, hd⟩
theorem blkB_rep (k : Nat) : blkB (List.replicate k ((noneNd, nHd, []) : NB)) = [] := by
  induction k with
  | zero => rfl
  | succ k ih => rw [List.replicate_succ, blkB_cons, ih]; rfl
theorem rowB_rep (k : Nat) : rowB (List.replicate k ((noneNd, nHd, []) : NB)) = rowOf (List.replicate k (noneNd, nHd)) := by unfold rowB; rw [List.map_replicate]
theorem nodup_swap {X Y Z Z' : List Nat} {f : Nat} (h : (X ++ (Z ++ Y)).Nodup) (hz : Z' = Z ∨ Z' = [f]) (hf : ∀ b ∈ X ++ (Z ++ Y), b < f) : (X ++ (Z' ++ Y)).Nodup := by
  rcases hz with rfl | rfl
  · exact h
  · have h1 := List.nodup_append.1 h
    have h2 := List.nodup_append.1 h1.2.1
    refine List.nodup_append.2 ⟨h1.1, List.nodup_cons.2 ⟨fun hm => ?_, h2.2.1⟩, fun a ha b hb e => ?_⟩
    · have := hf f (List.mem_append_right _ (List.mem_append_right _ hm)); omega
    · rcases List.mem_cons.1 hb with rfl | hb
      · have := hf a (List.mem_append_left _ ha); omega
      · exact h1.2.2 a ha b (List.mem_append_right _ hb) e
theorem RowG.grow {w w4 : World} {M g c kz : Nat} {pre post : List NB} {r : NB} {A' : Option Addr} {c' : Nat} {q0 : List NB} {b2 : List Nat} (h : RowG w g c (pre ++ r :: post) (M + 1))
    (hq : q0.map (·.1) = r.1.ptrs) (hb : r.2.2 = (blk r.2.1.A ++ blkB q0) ++ b2) (hkids : ∀ x ∈ q0, OwN w M x.1 x.2.1 x.2.2) (hitems : OwS w (M + 1) r.2.1.B r.2.1.b r.1.items b2) (hd : r.1.data.size ≤ maxLen)
    (hown : w4.ownsRow 0 nodeT 6 (.slice A' (r.1.ptrs.length + kz) c') (r.1.ptrs.length + kz) (rowB q0 ++ rowOf (List.replicate kz (noneNd, nHd)))) (hgrow : w.grownBy w4 (Value.slice r.2.1.A r.1.ptrs.length r.2.1.a).ownBlock)
    (hat : (Value.slice A' (r.1.ptrs.length + kz) c').ownBlock = (Value.slice r.2.1.A r.1.ptrs.length r.2.1.a).ownBlock ∨ (Value.slice A' (r.1.ptrs.length + kz) c').ownBlock = some w.heap.size) :
    ∃ r' : NB, r'.1 = .mk r.1.kind r.1.data (r.1.ptrs ++ List.replicate kz noneNd) r.1.size r.1.count r.1.items ∧ RowG (w4.setCell ⟨g, pre.length * 6 + 2, none⟩ (.slice A' (r.1.ptrs.length + kz) c')) g c (pre ++ r' :: post) (M + 1) ∧ ∀ b ∈ r'.2.2, b ∈ r.2.2 ∨ w.heap.size ≤ b := by
  have hlt := h.lt
  obtain ⟨cur, h1, h2, h3, h4, h5, h6, h7, h8⟩ := h
  have hblk : blkB (pre ++ r :: post) = blkB pre ++ (blk r.2.1.A ++ (blkB q0 ++ (b2 ++ blkB post))) := by rw [blkB_app, blkB_cons, hb]; simp [List.append_assoc]
  rw [hblk] at h7 h8 hlt
  have hbA := blk_own r.2.1.A r.1.ptrs.length r.2.1.a
  have hbA' := blk_own A' (r.1.ptrs.length + kz) c'
  -- blocks that are not the pointers' own row stay
  have hz : blk A' = blk r.2.1.A ∨ blk A' = [w.heap.size] := by
    rw [hbA, hbA']
    rcases hat with e | e <;> rw [e]
    · exact .inl rfl
    · exact .inr rfl
  have hne : ∀ b, b ∉ blk r.2.1.A → some b ≠ (Value.slice r.2.1.A r.1.ptrs.length r.2.1.a).ownBlock := by
    intro b hb e
    apply hb
    rw [hbA, ← e]; exact List.mem_singleton.2 rfl
  have hstay : ∀ b, b < w.heap.size → b ∉ blk r.2.1.A → b ≠ g → (w4.setCell ⟨g, pre.length * 6 + 2, none⟩ (.slice A' (r.1.ptrs.length + kz) c')).heap[b]? = w.heap[b]? := fun b hb1 hb2 hb3 =>
    (Below.heap_setCell w4 ⟨g, pre.length * 6 + 2, none⟩ _ b hb3).trans (hgrow.block b hb1 (hne b hb2))
  have hnd1 := List.nodup_append.1 h7
  have hnd2 := List.nodup_append.1 hnd1.2.1
  have hin : ∀ b, b ∈ blkB q0 ++ (b2 ++ blkB post) → b < w.heap.size ∧ b ∉ blk r.2.1.A ∧ b ≠ g := fun b hb => ⟨hlt.2 b (List.mem_append_right _ (List.mem_append_right _ hb)), fun h => hnd2.2.2 b h b hb rfl, fun e => h8 (e ▸ List.mem_append_right _ (List.mem_append_right _ hb))⟩
  have hpre : ∀ b, b ∈ blkB pre → b < w.heap.size ∧ b ∉ blk r.2.1.A ∧ b ≠ g := fun b hb => ⟨hlt.2 b (List.mem_append_left _ hb), fun h => hnd1.2.2 b hb b (List.mem_append_left _ h) rfl, fun e => h8 (e ▸ List.mem_append_left _ hb)⟩
  have hgA : g ∉ blk r.2.1.A := fun h => h8 (List.mem_append_right _ (List.mem_append_left _ h))
  have hgA' : g ∉ blk A' := by
    rcases hz with e | e <;> rw [e]
    · exact hgA
    · intro h; have := List.mem_singleton.1 h; omega
  refine ⟨(.mk r.1.kind r.1.data (r.1.ptrs ++ List.replicate kz noneNd) r.1.size r.1.count r.1.items, ⟨A', c', r.2.1.B, r.2.1.b⟩, (blk A' ++ blkB q0) ++ b2), rfl, ?_, ?_⟩
  · have hg4 : w4.heap[g]? = some (.cells cur nodeT (0, 0)) := (hgrow.block g hlt.1 (hne g hgA)).trans h1
    have hblk' : blkB (pre ++ ((.mk r.1.kind r.1.data (r.1.ptrs ++ List.replicate kz noneNd) r.1.size r.1.count r.1.items, ⟨A', c', r.2.1.B, r.2.1.b⟩, (blk A' ++ blkB q0) ++ b2) : NB) :: post) = blkB pre ++ (blk A' ++ (blkB q0 ++ (b2 ++ blkB post))) := by rw [blkB_app, blkB_cons]; simp [List.append_assoc]
    refine ⟨_, row_setN hg4 _ _, by simpa using h2, by simpa using h3, h4, ?_, fun x hx => ?_, ?_, ?_⟩
    · have h5' : cur.toList.take ((pre.map (fun r => (r.1, r.2.1)) ++ (r.1, r.2.1) :: post.map (fun r => (r.1, r.2.1))).length * 6) = rowOf (pre.map (fun r => (r.1, r.2.1)) ++ (r.1, r.2.1) :: post.map (fun r => (r.1, r.2.1))) := by
        have := h5
        unfold rowB at this
        rw [List.map_append, List.map_cons] at this
        simpa using this
      have := row_upd (e := 2) (r' := ((.mk r.1.kind r.1.data (r.1.ptrs ++ List.replicate kz noneNd) r.1.size r.1.count r.1.items : Nd), (⟨A', c', r.2.1.B, r.2.1.b⟩ : Hd))) h2 (by simpa using h3) h5' (by decide) (fun f hf hf2 => by
        match f, hf with
        | 0, _ => rfl
        | 1, _ => rfl
        | 2, _ => exact absurd rfl hf2
        | 3, _ => rfl
        | 4, _ => rfl
        | 5, _ => rfl)
      unfold rowB
      rw [List.map_append, List.map_cons]
      have hlen : (r.1.ptrs ++ List.replicate kz noneNd).length = r.1.ptrs.length + kz := by simp
      have hce : cellE ((.mk r.1.kind r.1.data (r.1.ptrs ++ List.replicate kz noneNd) r.1.size r.1.count r.1.items : Nd), (⟨A', c', r.2.1.B, r.2.1.b⟩ : Hd)) 2 = .slice A' (r.1.ptrs.length + kz) c' := by
        show Value.slice A' (r.1.ptrs ++ List.replicate kz noneNd).length c' = _
        rw [hlen]
      rw [hce] at this
      simpa using this
    · rcases List.mem_append.1 hx with hx | hx
      · exact (h6 x (List.mem_append_left _ hx)).frame (fun b hbm => by
          obtain ⟨p1, p2, p3⟩ := hpre b (List.mem_flatMap.2 ⟨x, hx, hbm⟩)
          exact hstay b p1 p2 p3)
      · rcases List.mem_cons.1 hx with rfl | hx
        · refine ⟨hd, blk A' ++ blkB q0, b2, rfl, ?_, ?_⟩
          · refine ⟨q0 ++ List.replicate kz (noneNd, nHd, []), ?_, ?_, ?_, fun x hx => ?_⟩
            · rw [List.map_append, hq, List.map_replicate]; rfl
            · have hl : (q0 ++ List.replicate kz ((noneNd, nHd, []) : NB)).length = r.1.ptrs.length + kz := by rw [List.length_append, List.length_replicate, ← hq, List.length_map]
              rw [hl, rowB_app, rowB_rep]
              exact own_frame hown (fun b hbm => Below.heap_setCell w4 ⟨g, pre.length * 6 + 2, none⟩ _ b (fun e => hgA' ((show b = g from e) ▸ hbm)))
            · rw [blkB_app, blkB_rep, List.append_nil]
            · rcases List.mem_append.1 hx with hx | hx
              · have := (hkids x hx).frame (w' := w4.setCell ⟨g, pre.length * 6 + 2, none⟩ (.slice A' (r.1.ptrs.length + kz) c')) (fun b hbm => by
                  obtain ⟨p1, p2, p3⟩ := hin b (List.mem_append_left _ (List.mem_flatMap.2 ⟨x, hx, hbm⟩))
                  exact hstay b p1 p2 p3)
                exact this
              · have := List.eq_of_mem_replicate hx
                subst this
                exact OwN.none _ M
          · exact hitems.frame _ _ _ _ _ (fun b hbm => by
              obtain ⟨p1, p2, p3⟩ := hin b (List.mem_append_right _ (List.mem_append_left _ hbm))
              exact hstay b p1 p2 p3)
        · exact (h6 x (List.mem_append_right _ (List.mem_cons_of_mem _ hx))).frame (fun b hbm => by
            obtain ⟨p1, p2, p3⟩ := hin b (List.mem_append_right _ (List.mem_append_right _ (List.mem_flatMap.2 ⟨x, hx, hbm⟩)))
            exact hstay b p1 p2 p3)
    · rw [hblk']
      exact nodup_swap h7 hz (fun b hb => hlt.2 b hb)
    · rw [hblk']
      intro hm
      rcases List.mem_append.1 hm with hm | hm
      · exact h8 (List.mem_append_left _ hm)
      · rcases List.mem_append.1 hm with hm | hm
        · exact hgA' hm
        · exact h8 (List.mem_append_right _ (List.mem_append_right _ hm))
  · intro b hbm
    rw [hb]
    rcases List.mem_append.1 hbm with hbm | hbm
    · rcases List.mem_append.1 hbm with hbm | hbm
      · rcases hz with e | e
        · rw [e] at hbm; exact .inl (List.mem_append_left _ (List.mem_append_left _ hbm))
        · rw [e] at hbm; obtain rfl := List.mem_singleton.1 hbm; exact .inr (Nat.le_refl _)
      · exact .inl (List.mem_append_left _ (List.mem_append_right _ hbm))
    · exact .inl (List.mem_append_right _ hbm)
end Go.Proofs.YtbijfkpilncclaaGreat

/- A row of one's own nodes: a node's pointers are cut. -/
namespace Go.Proofs.YtbijfkpilncclaaGreat
open Go.RowKit
theorem RowG.cut {w : World} {M g c k : Nat} {pre post : List NB} {r : NB} (h : RowG w g c (pre ++ r :: post) M) (hk : k ≤ r.1.ptrs.length) :
    ∃ bs' : List Nat, RowG (w.setCell ⟨g, pre.length * 6 + 2, none⟩ (.slice r.2.1.A k r.2.1.a)) g c (pre ++ ((.mk r.1.kind r.1.data (r.1.ptrs.take k) r.1.size r.1.count r.1.items : Nd), r.2.1, bs') :: post) M ∧ ∀ b ∈ bs', b ∈ r.2.2 := by
  obtain ⟨cur, h1, h2, h3, h4, h5, h6, h7, h8⟩ := h
  obtain ⟨hd, b1, b2, he, ho1, ho2⟩ := h6 r (List.mem_append_right _ List.mem_cons_self)
  obtain ⟨b1', ho3, hsub⟩ := ho1.take k hk
  have hs2 : (b1' ++ b2).Sublist r.2.2 := by rw [he]; exact List.Sublist.append hsub (List.Sublist.refl _)
  have hsb : (blkB (pre ++ ((.mk r.1.kind r.1.data (r.1.ptrs.take k) r.1.size r.1.count r.1.items : Nd), r.2.1, b1' ++ b2) :: post)).Sublist (blkB (pre ++ r :: post)) := by
    rw [blkB_app, blkB_app, blkB_cons, blkB_cons]
    exact List.Sublist.append (List.Sublist.refl _) (List.Sublist.append hs2 (List.Sublist.refl _))
  have hother : ∀ b, b ≠ g → (w.setCell ⟨g, pre.length * 6 + 2, none⟩ (.slice r.2.1.A k r.2.1.a)).heap[b]? = w.heap[b]? := fun b hb => Below.heap_setCell w ⟨g, pre.length * 6 + 2, none⟩ _ b hb
  have hfr : ∀ x ∈ pre ++ r :: post, ∀ b ∈ x.2.2, b ≠ g := fun x hx b hb e => h8 (by rw [← e]; exact List.mem_flatMap.2 ⟨x, hx, hb⟩)
  refine ⟨b1' ++ b2, ⟨_, row_setN h1 _ _, by simpa using h2, by simpa using h3, h4, ?_, fun x hx => ?_, h7.sublist hsb, fun hm => h8 (hsb.subset hm)⟩, fun b hb => hs2.subset hb⟩
  · have h5' : cur.toList.take ((pre.map (fun r => (r.1, r.2.1)) ++ (r.1, r.2.1) :: post.map (fun r => (r.1, r.2.1))).length * 6) = rowOf (pre.map (fun r => (r.1, r.2.1)) ++ (r.1, r.2.1) :: post.map (fun r => (r.1, r.2.1))) := by
      have := h5
      unfold rowB at this
      rw [List.map_append, List.map_cons] at this
      simpa using this
    have := row_upd (e := 2) (r' := ((.mk r.1.kind r.1.data (r.1.ptrs.take k) r.1.size r.1.count r.1.items : Nd), r.2.1)) h2 (by simpa using h3) h5' (by decide) (fun f hf hf2 => by
      match f, hf with
      | 0, _ => rfl
      | 1, _ => rfl
      | 2, _ => exact absurd rfl hf2
      | 3, _ => rfl
      | 4, _ => rfl
      | 5, _ => rfl)
    have hce : cellE ((.mk r.1.kind r.1.data (r.1.ptrs.take k) r.1.size r.1.count r.1.items : Nd), r.2.1) 2 = .slice r.2.1.A k r.2.1.a := by
      show Value.slice r.2.1.A (r.1.ptrs.take k).length r.2.1.a = _
      rw [List.length_take, Nat.min_eq_left hk]
    rw [hce] at this
    unfold rowB
    rw [List.map_append, List.map_cons]
    simpa using this
  · have hold : ∀ x ∈ pre ++ r :: post, OwN (w.setCell ⟨g, pre.length * 6 + 2, none⟩ (.slice r.2.1.A k r.2.1.a)) M x.1 x.2.1 x.2.2 := fun x hx => (h6 x hx).frame (fun b hb => hother b (hfr x hx b hb))
    rcases List.mem_append.1 hx with hx | hx
    · exact hold x (List.mem_append_left _ hx)
    · rcases List.mem_cons.1 hx with rfl | hx
      · have hrg := hfr r (List.mem_append_right _ List.mem_cons_self)
        refine ⟨hd, b1', b2, rfl, ?_, ?_⟩
        · exact ho3.frame _ _ _ _ _ (fun b hb => hother b (hrg b (by rw [he]; exact List.mem_append_left _ (hsub.subset hb))))
        · exact ho2.frame _ _ _ _ _ (fun b hb => hother b (hrg b (by rw [he]; exact List.mem_append_right _ hb)))
      · exact hold x (List.mem_append_right _ (List.mem_cons_of_mem _ hx))
theorem slice_cap {w : World} {M g c : Nat} {pre post : List NB} {r : NB} (h : RowG w g c (pre ++ r :: post) M) : (r.2.1.A = none ∧ r.1.ptrs = [] ∧ r.2.1.a = 0) ∨ (∃ g', r.2.1.A = some ⟨g', 0, none⟩) ∧ r.1.ptrs.length ≤ r.2.1.a := by
  obtain ⟨cur, h1, h2, h3, h4, h5, h6, h7, h8⟩ := h
  obtain ⟨hd, b1, b2, he, ho1, ho2⟩ := h6 r (List.mem_append_right _ List.mem_cons_self)
  exact own_cap ho1
end Go.Proofs.YtbijfkpilncclaaGreat
