/- Texts of the proof of the law FnExactAlike, side by side: part 14. -/
import Derived.Test.YtfiiopchfmcjdaaShelf
import Derived.Deep.RegionWith
import Derived.Test.YtfiiopchfmcjdaaMExactAlike00
import Derived.Test.YtfiiopchfmcjdaaMExactAlike01
import Derived.Test.YtfiiopchfmcjdaaMExactAlike02
import Derived.Test.YtfiiopchfmcjdaaMExactAlike03
import Derived.Test.YtfiiopchfmcjdaaMExactAlike04
import Derived.Test.YtfiiopchfmcjdaaMExactAlike05
import Derived.Test.YtfiiopchfmcjdaaMExactAlike06
import Derived.Test.YtfiiopchfmcjdaaMExactAlike07
import Derived.Test.YtfiiopchfmcjdaaMExactAlike08
import Derived.Test.YtfiiopchfmcjdaaMExactAlike09
import Derived.Test.YtfiiopchfmcjdaaMExactAlike10
import Derived.Test.YtfiiopchfmcjdaaMExactAlike11
import Derived.Test.YtfiiopchfmcjdaaMExactAlike12
import Derived.Test.YtfiiopchfmcjdaaMExactAlike13
/- A row of one's own nodes: a node's pointers grow. -/
namespace Go.Proofs.Ytfiiopchfmcjdaa
open Go.RowKit Go.Deep
theorem NdCell.flat {w : World} {g o : Nat} {n : Nd} {h : Hd} (hc : NdCell w ((⟨g, 0, none⟩ : Addr).add o) n h) : w.cell? ⟨g, o, none⟩ = some (.int .i64 n.kind) ∧ w.cell? ⟨g, o + 1, none⟩ = some (.string n.data) ∧ w.cell? ⟨g, o + 2, none⟩ = some (.slice h.A n.ptrs.length h.a) ∧ w.cell? ⟨g, o + 3, none⟩ = some (.int .i64 n.size) ∧ w.cell? ⟨g, o + 4, none⟩ = some (.int .i64 n.count) ∧ w.cell? ⟨g, o + 5, none⟩ = some (.slice h.B n.items.length h.b) := by
  rw [add_zero0] at hc
  exact ⟨hc.c0, hc.c1, hc.c2, hc.c3, hc.c4, hc.c5⟩
/-- the cells of a node in a row. -/
theorem RowG.cells {w : World} {M g c : Nat} {pre post : List NB} {r : NB} (h : RowG w g c (pre ++ r :: post) M) : w.cell? ⟨g, pre.length * 6, none⟩ = some (.int .i64 r.1.kind) ∧ w.cell? ⟨g, pre.length * 6 + 1, none⟩ = some (.string r.1.data) ∧ w.cell? ⟨g, pre.length * 6 + 2, none⟩ = some (.slice r.2.1.A r.1.ptrs.length r.2.1.a) ∧ w.cell? ⟨g, pre.length * 6 + 3, none⟩ = some (.int .i64 r.1.size) ∧ w.cell? ⟨g, pre.length * 6 + 4, none⟩ = some (.int .i64 r.1.count) ∧ w.cell? ⟨g, pre.length * 6 + 5, none⟩ = some (.slice r.2.1.B r.1.items.length r.2.1.b) ∧ ∀ i, w.frozen? ⟨g, i, none⟩ = false := by
  obtain ⟨cur, h1, h2, h3, h4, h5, h6, h7, h8⟩ := h
  have hl : pre.length < (pre ++ r :: post).length := by simp
  have key : ∀ e, e < 6 → w.cell? ⟨g, pre.length * 6 + e, none⟩ = some (cellE (r.1, r.2.1) e) := by
    intro e he
    rw [cell_of_row _ _ _ _ _ _ h1]
    have h9 : (cur.toList.take ((pre ++ r :: post).length * 6))[pre.length * 6 + e]? = some (cellE (r.1, r.2.1) e) := by
      rw [h5]
      unfold rowB
      rw [rowOf_get, List.getElem?_map, show (pre.length * 6 + e) / 6 = pre.length by omega, show (pre.length * 6 + e) % 6 = e by omega, List.getElem?_append_right (Nat.le_refl _), Nat.sub_self]
      rfl
    rw [List.getElem?_take_of_lt (by omega)] at h9
    simpa using h9
  exact ⟨key 0 (by decide), key 1 (by decide), key 2 (by decide), key 3 (by decide), key 4 (by decide), key 5 (by decide), row_free h1⟩
theorem blk_own (A : Option Addr) (n c : Nat) : blk A = (Value.slice A n c).ownBlock.toList := by cases A <;> rfl
/-- what a node in a row points to. -/
theorem RowG.ptrs {w : World} {M g c : Nat} {pre post : List NB} {r : NB} (h : RowG w g c (pre ++ r :: post) (M + 1)) : ∃ (q0 : List NB) (b2 : List Nat), q0.map (·.1) = r.1.ptrs ∧ w.ownsRow 0 nodeT 6 (.slice r.2.1.A r.1.ptrs.length r.2.1.a) r.1.ptrs.length (rowB q0) ∧ r.2.2 = (blk r.2.1.A ++ blkB q0) ++ b2 ∧ (∀ x ∈ q0, OwN w M x.1 x.2.1 x.2.2) ∧ OwS w (M + 1) r.2.1.B r.2.1.b r.1.items b2 ∧ r.1.data.size ≤ maxLen := by
  obtain ⟨cur, h1, h2, h3, h4, h5, h6, h7, h8⟩ := h
  obtain ⟨hd, b1, b2, he, ⟨q0, hq, ho, hb, hr⟩, h10⟩ := h6 r (List.mem_append_right _ List.mem_cons_self)
  have hl : q0.length = r.1.ptrs.length := by rw [← hq, List.length_map]
  rw [hl] at ho
  exact ⟨q0, b2, hq, ho, by rw [he, hb], hr, h10, hd⟩
theorem blkB_rep (k : Nat) : blkB (List.replicate k ((noneNd, nHd, []) : NB)) = [] := by
  induction k with
  | zero => rfl
  | succ k ih => rw [List.replicate_succ, blkB_cons, ih]; rfl
theorem rowB_rep (k : Nat) : rowB (List.replicate k ((noneNd, nHd, []) : NB)) = rowOf (List.replicate k (noneNd, nHd)) := by unfold rowB; rw [List.map_replicate]
theorem nodup_swap {X Y Z Z' : List Nat} {f : Nat} (h : (X ++ (Z ++ Y)).Nodup) (hz : Z' = Z ∨ Z' = [f]) (hf : ∀ b ∈ X ++ (Z ++ Y), b < f) : (X ++ (Z' ++ Y)).Nodup := by
  rcases hz with rfl | rfl
  · exact h
  · have h1 := List.nodup_append.1 h
    have h2 := List.nodup_append.1 h1.2.1
    refine List.nodup_append.2 ⟨h1.1, List.nodup_cons.2 ⟨fun hm => ?_, h2.2.1⟩, fun a ha b hb e => ?_⟩
    · have := hf f (List.mem_append_right _ (List.mem_append_right _ hm)); omega
    · rcases List.mem_cons.1 hb with rfl | hb
      · have := hf a (List.mem_append_left _ ha); omega
      · exact h1.2.2 a ha b (List.mem_append_right _ hb) e
theorem RowG.grow {w w4 : World} {M g c kz : Nat} {pre post : List NB} {r : NB} {A' : Option Addr} {c' : Nat} {q0 : List NB} {b2 : List Nat} (h : RowG w g c (pre ++ r :: post) (M + 1))
    (hq : q0.map (·.1) = r.1.ptrs) (hb : r.2.2 = (blk r.2.1.A ++ blkB q0) ++ b2) (hkids : ∀ x ∈ q0, OwN w M x.1 x.2.1 x.2.2) (hitems : OwS w (M + 1) r.2.1.B r.2.1.b r.1.items b2) (hd : r.1.data.size ≤ maxLen)
    (hown : w4.ownsRow 0 nodeT 6 (.slice A' (r.1.ptrs.length + kz) c') (r.1.ptrs.length + kz) (rowB q0 ++ rowOf (List.replicate kz (noneNd, nHd)))) (hgrow : w.grownBy w4 (Value.slice r.2.1.A r.1.ptrs.length r.2.1.a).ownBlock)
    (hat : (Value.slice A' (r.1.ptrs.length + kz) c').ownBlock = (Value.slice r.2.1.A r.1.ptrs.length r.2.1.a).ownBlock ∨ (Value.slice A' (r.1.ptrs.length + kz) c').ownBlock = some w.heap.size) :
    ∃ r' : NB, r'.1 = .mk r.1.kind r.1.data (r.1.ptrs ++ List.replicate kz noneNd) r.1.size r.1.count r.1.items ∧ RowG (w4.setCell ⟨g, pre.length * 6 + 2, none⟩ (.slice A' (r.1.ptrs.length + kz) c')) g c (pre ++ r' :: post) (M + 1) ∧ ∀ b ∈ r'.2.2, b ∈ r.2.2 ∨ w.heap.size ≤ b := by
  have hlt := h.lt
  obtain ⟨cur, h1, h2, h3, h4, h5, h6, h7, h8⟩ := h
  have hblk : blkB (pre ++ r :: post) = blkB pre ++ (blk r.2.1.A ++ (blkB q0 ++ (b2 ++ blkB post))) := by rw [blkB_app, blkB_cons, hb]; simp [List.append_assoc]
  rw [hblk] at h7 h8 hlt
  have hbA := blk_own r.2.1.A r.1.ptrs.length r.2.1.a
  have hbA' := blk_own A' (r.1.ptrs.length + kz) c'
  -- blocks that are not the pointers' own row stay
  have hz : blk A' = blk r.2.1.A ∨ blk A' = [w.heap.size] := by
    rw [hbA, hbA']
    rcases hat with e | e <;> rw [e]
    · exact .inl rfl
    · exact .inr rfl
  have hne : ∀ b, b ∉ blk r.2.1.A → some b ≠ (Value.slice r.2.1.A r.1.ptrs.length r.2.1.a).ownBlock := by
    intro b hb e
    apply hb
    rw [hbA, ← e]; exact List.mem_singleton.2 rfl
  have hstay : ∀ b, b < w.heap.size → b ∉ blk r.2.1.A → b ≠ g → (w4.setCell ⟨g, pre.length * 6 + 2, none⟩ (.slice A' (r.1.ptrs.length + kz) c')).heap[b]? = w.heap[b]? := fun b hb1 hb2 hb3 =>
    (Below.heap_setCell w4 ⟨g, pre.length * 6 + 2, none⟩ _ b hb3).trans (hgrow.block b hb1 (hne b hb2))
  have hnd1 := List.nodup_append.1 h7
  have hnd2 := List.nodup_append.1 hnd1.2.1
  have hin : ∀ b, b ∈ blkB q0 ++ (b2 ++ blkB post) → b < w.heap.size ∧ b ∉ blk r.2.1.A ∧ b ≠ g := fun b hb => ⟨hlt.2 b (List.mem_append_right _ (List.mem_append_right _ hb)), fun h => hnd2.2.2 b h b hb rfl, fun e => h8 (e ▸ List.mem_append_right _ (List.mem_append_right _ hb))⟩
  have hpre : ∀ b, b ∈ blkB pre → b < w.heap.size ∧ b ∉ blk r.2.1.A ∧ b ≠ g := fun b hb => ⟨hlt.2 b (List.mem_append_left _ hb), fun h => hnd1.2.2 b hb b (List.mem_append_left _ h) rfl, fun e => h8 (e ▸ List.mem_append_left _ hb)⟩
  have hgA : g ∉ blk r.2.1.A := fun h => h8 (List.mem_append_right _ (List.mem_append_left _ h))
  have hgA' : g ∉ blk A' := by
    rcases hz with e | e <;> rw [e]
    · exact hgA
    · intro h; have := List.mem_singleton.1 h; omega
  refine ⟨(.mk r.1.kind r.1.data (r.1.ptrs ++ List.replicate kz noneNd) r.1.size r.1.count r.1.items, ⟨A', c', r.2.1.B, r.2.1.b⟩, (blk A' ++ blkB q0) ++ b2), rfl, ?_, ?_⟩
  · have hg4 : w4.heap[g]? = some (.cells cur nodeT (0, 0)) := (hgrow.block g hlt.1 (hne g hgA)).trans h1
    have hblk' : blkB (pre ++ ((.mk r.1.kind r.1.data (r.1.ptrs ++ List.replicate kz noneNd) r.1.size r.1.count r.1.items, ⟨A', c', r.2.1.B, r.2.1.b⟩, (blk A' ++ blkB q0) ++ b2) : NB) :: post) = blkB pre ++ (blk A' ++ (blkB q0 ++ (b2 ++ blkB post))) := by rw [blkB_app, blkB_cons]; simp [List.append_assoc]
    refine ⟨_, row_setN hg4 _ _, by simpa using h2, by simpa using h3, h4, ?_, fun x hx => ?_, ?_, ?_⟩
    · have h5' : cur.toList.take ((pre.map (fun r => (r.1, r.2.1)) ++ (r.1, r.2.1) :: post.map (fun r => (r.1, r.2.1))).length * 6) = rowOf (pre.map (fun r => (r.1, r.2.1)) ++ (r.1, r.2.1) :: post.map (fun r => (r.1, r.2.1))) := by
        have := h5
        unfold rowB at this
        rw [List.map_append, List.map_cons] at this
        simpa using this
      have := row_upd (e := 2) (r' := ((.mk r.1.kind r.1.data (r.1.ptrs ++ List.replicate kz noneNd) r.1.size r.1.count r.1.items : Nd), (⟨A', c', r.2.1.B, r.2.1.b⟩ : Hd))) h2 (by simpa using h3) h5' (by decide) (fun f hf hf2 => by
        match f, hf with
        | 0, _ => rfl
        | 1, _ => rfl
        | 2, _ => exact absurd rfl hf2
        | 3, _ => rfl
        | 4, _ => rfl
        | 5, _ => rfl)
      unfold rowB
      rw [List.map_append, List.map_cons]
      have hlen : (r.1.ptrs ++ List.replicate kz noneNd).length = r.1.ptrs.length + kz := by simp
      have hce : cellE ((.mk r.1.kind r.1.data (r.1.ptrs ++ List.replicate kz noneNd) r.1.size r.1.count r.1.items : Nd), (⟨A', c', r.2.1.B, r.2.1.b⟩ : Hd)) 2 = .slice A' (r.1.ptrs.length + kz) c' := by
        show Value.slice A' (r.1.ptrs ++ List.replicate kz noneNd).length c' = _
        rw [hlen]
      rw [hce] at this
      simpa using this
    · rcases List.mem_append.1 hx with hx | hx
      · exact (h6 x (List.mem_append_left _ hx)).frame (fun b hbm => by
          obtain ⟨p1, p2, p3⟩ := hpre b (List.mem_flatMap.2 ⟨x, hx, hbm⟩)
          exact hstay b p1 p2 p3)
      · rcases List.mem_cons.1 hx with rfl | hx
        · refine ⟨hd, blk A' ++ blkB q0, b2, rfl, ?_, ?_⟩
          · refine ⟨q0 ++ List.replicate kz (noneNd, nHd, []), ?_, ?_, ?_, fun x hx => ?_⟩
            · rw [List.map_append, hq, List.map_replicate]; rfl
            · have hl : (q0 ++ List.replicate kz ((noneNd, nHd, []) : NB)).length = r.1.ptrs.length + kz := by rw [List.length_append, List.length_replicate, ← hq, List.length_map]
              rw [hl, rowB_app, rowB_rep]
              exact own_frame hown (fun b hbm => Below.heap_setCell w4 ⟨g, pre.length * 6 + 2, none⟩ _ b (fun e => hgA' ((show b = g from e) ▸ hbm)))
            · rw [blkB_app, blkB_rep, List.append_nil]
            · rcases List.mem_append.1 hx with hx | hx
              · have := (hkids x hx).frame (w' := w4.setCell ⟨g, pre.length * 6 + 2, none⟩ (.slice A' (r.1.ptrs.length + kz) c')) (fun b hbm => by
                  obtain ⟨p1, p2, p3⟩ := hin b (List.mem_append_left _ (List.mem_flatMap.2 ⟨x, hx, hbm⟩))
                  exact hstay b p1 p2 p3)
                exact this
              · have := List.eq_of_mem_replicate hx
                subst this
                exact OwN.none _ M
          · exact hitems.frame _ _ _ _ _ (fun b hbm => by
              obtain ⟨p1, p2, p3⟩ := hin b (List.mem_append_right _ (List.mem_append_left _ hbm))
              exact hstay b p1 p2 p3)
        · exact (h6 x (List.mem_append_right _ (List.mem_cons_of_mem _ hx))).frame (fun b hbm => by
            obtain ⟨p1, p2, p3⟩ := hin b (List.mem_append_right _ (List.mem_append_right _ (List.mem_flatMap.2 ⟨x, hx, hbm⟩)))
            exact hstay b p1 p2 p3)
    · rw [hblk']
      exact nodup_swap h7 hz (fun b hb => hlt.2 b hb)
    · rw [hblk']
      intro hm
      rcases List.mem_append.1 hm with hm | hm
      · exact h8 (List.mem_append_left _ hm)
      · rcases List.mem_append.1 hm with hm | hm
        · exact hgA' hm
        · exact h8 (List.mem_append_right _ (List.mem_append_right _ hm))
  · intro b hbm
    rw [hb]
    rcases List.mem_append.1 hbm with hbm | hbm
    · rcases List.mem_append.1 hbm with hbm | hbm
      · rcases hz with e | e
        · rw [e] at hbm; exact .inl (List.mem_append_left _ (List.mem_append_left _ hbm))
        · rw [e] at hbm; obtain rfl := List.mem_singleton.1 hbm; exact .inr (Nat.le_refl _)
      · exact .inl (List.mem_append_left _ (List.mem_append_right _ hbm))
    · exact .inl (List.mem_append_right _ hbm)
end Go.Proofs.Ytfiiopchfmcjdaa

/- The program's one form: items, made as long as each other. -/
namespace Go.Proofs.Ytfiiopchfmcjdaa
open Go.RowKit Go.Deep
theorem wpList_append_zeros {ops : Array Oper} {rest : List Oper} {o : Oper} {a : Act} {w : World} {Q : Exit → Act → World → Prop} (hgd : o.guard = none) (s x : Operand)
    (ho : o.op = .call { callee := .builtin .append, args := #[s, x], argTypes := #[nodesT, 3] })
    (v : Value) (n : Nat) (xs : List Value) (hs : a.eval s = v) (hown : w.ownsRow 0 nodeT 6 v n xs) (k : Nat) (hx : a.eval x = .int .i64 (k : Int)) (hb : n + k ≤ 3000000)
    (h : ∀ A' c' w', Hid (w'.ownsRow 0 nodeT 6 (.slice A' (n + k) c') (n + k) (xs ++ rowOf (List.replicate k (noneNd, nHd)))) → Hid (w.grownBy w' v.ownBlock) → Hid ((Value.slice A' (n + k) c').ownBlock = v.ownBlock ∨ (Value.slice A' (n + k) c').ownBlock = some w.heap.size) → wpList Try.prog ops Q rest (a.put o.dst (.slice A' (n + k) c')) w') :
    wpList Try.prog ops Q (o :: rest) a w :=
  wpList_plain hgd fun K hK => by
    obtain ⟨v', w', hr, h2, h3, h5⟩ := run_append_zeros o.type w v n xs hown k hb
    obtain ⟨A', c', rfl⟩ := own_sliceN h2
    unfold Oper.wp execOp
    simp only [ho, resolve, invoke, builtin, Sem.run_bind, Sem.run_pure, Result.andThen_ok, List.map_toArray, List.map_cons, List.map_nil, hs, hx, hr]
    exact hK _ _ (h A' c' w' h2 h3 h5)
theorem rep0 (n : Nat) : Lib.repeatL [0] n = List.replicate n (0 : UInt8) := by
  induction n with
  | zero => rfl
  | succ n ih => rw [Lib.repeatL, ih, List.replicate_succ]; rfl
theorem repeat_any (n : Nat) (w : World) (hn : n ≤ 1000000) : Calls Try.prog 67 #[.string ⟨#[0]⟩, .int .i64 (n : Int)] w fun e w' => e = .returned (.string (zeroD n)) ∧ Below w.heap.size w w' := by
  have := Try.strings_Repeat ⟨#[0]⟩ n w (by omega) (by show 1 * _ ≤ _; omega)
  rw [show (⟨#[0]⟩ : ByteArray).data.toList = [0] from rfl, rep0] at this
  exact this
def EvP (A : Option Addr) (c : Nat) (l : List Nd) (M : Nat) (bs : List Nat) (w : World) (e : Ending) (w' : World) : Prop :=
  e = .returned (.slice A l.length c) ∧ ∃ bs' : List Nat, OwS w' (M + 1) A c (evenL l) bs' ∧ bs'.Nodup ∧ (∀ b ∈ bs', b ∈ bs ∨ w.heap.size ≤ b) ∧ OnlyIn bs w w'
/-- so many items are as long as each other already. -/
def EvR (D P : Nat) (l : List Nd) (g c M : Nat) (bs : List Nat) (w : World) (k : Nat) (wr : World) : Prop :=
  ∃ pre post : List NB, pre.length = k ∧ (pre.map (·.1) = (l.take k).map (evenN D P) ∧ post.map (·.1) = l.drop k) ∧ RowG wr g c (pre ++ post) M ∧ (∀ b ∈ blkB (pre ++ post), b ∈ bs ∨ w.heap.size ≤ b) ∧ OnlyIn bs w wr
set_option maxHeartbeats 8000000 in
set_option maxRecDepth 100000 in
theorem evened_some (M g c : Nat) (l : List Nd) (bs : List Nat) (w : World) (hown : OwS w (M + 2) (some ⟨g, 0, none⟩) c l bs) (hnd : bs.Nodup) (hD : ∀ n ∈ l, n.data.size ≤ 2000) (hP : ∀ n ∈ l, n.ptrs.length ≤ 1000000) (hlm : l.length ≤ 2000000) :
    Calls Try.prog 47 #[.slice (some ⟨g, 0, none⟩) l.length c] w (EvP (some ⟨g, 0, none⟩) c l (M + 1) bs w) := by
  have HN := Lib.hid (hown.nds _ _ _ _ _)
  obtain ⟨q, hq, hb, HG0⟩ := hown.rowG hnd
  have HQ := Lib.hid hq
  have HBS := Lib.hid hb
  have HG := Lib.hid HG0
  have HDD := Lib.hid (And.intro hD hP)
  clear hown hnd hq hb HG0 hD hP
  go_enter Try.func47, Try.ntmps47
  go_wp2
  go_loopw [3, 4, 11] (fun d p i wr => ∃ k : Nat, d = .int .i64 (topD (l.take k) : Nat) ∧ p = .int .i64 (topP (l.take k) : Nat) ∧ i = .int .i64 k ∧ k ≤ l.length ∧ Hid (Below w.heap.size w wr)) (fun _ _ i _ => l.length - (intOf i).toNat)
  case atStart => exact ⟨0, rfl, rfl, rfl, by omega, Lib.hid (Below.refl _ _)⟩
  case round =>
    obtain ⟨k, rfl, rfl, rfl, hk, HB⟩ := hrel
    by_cases hlt : k < l.length
    · obtain ⟨x, hd, hxe, hc, -⟩ := (HN.out.below HB.out).at_ hlt
      obtain rfl : (⟨g, 0, none⟩ : Addr) = x := Option.some.inj hxe
      obtain ⟨d0, d1, d2, d3, d4, d5⟩ := hc.flat
      have htn : l.take k ++ [l[k]] = l.take (k + 1) := (List.take_succ_eq_append_getElem hlt).symm
      have HT1 : Hid (topD (l.take (k + 1)) = max (topD (l.take k)) l[k].data.size ∧ topP (l.take (k + 1)) = max (topP (l.take k)) l[k].ptrs.length) := Lib.hid ⟨by rw [← htn, topD_snoc], by rw [← htn, topP_snoc]⟩
      have hba := (Below.refl wr.heap.size wr).alloc (Nat.le_refl _) (.cells #[.int .i64 l[k].kind, .string l[k].data, .slice hd.A l[k].ptrs.length hd.a, .int .i64 l[k].size, .int .i64 l[k].count, .slice hd.B l[k].items.length hd.b] nodeT)
      have HB2 := Lib.hid (HB.out.trans (hba.mono HB.out.size))
      clear hc hxe htn hba
      generalize l[k] = y at *
      go_wp2
      go_roundw
      case rel => exact ⟨k + 1, by rw [HT1.out.1]; congr 1; omega, by rw [HT1.out.2]; congr 1; omega, by go_num, by omega, HB2⟩
      case measure => simp [intOf]; omega
    · obtain rfl : k = l.length := by omega
      rw [List.take_of_length_le (Nat.le_refl _)]
      obtain ⟨D, hDd⟩ : ∃ D, D = topD l := ⟨_, rfl⟩
      obtain ⟨P, hPd⟩ : ∃ P, P = topP l := ⟨_, rfl⟩
      rw [← hDd, ← hPd]
      have HDP := Lib.hid (And.intro hDd hPd)
      have hDb : D ≤ 2000 := by rw [hDd]; exact topD_le HDD.out.1
      have hPb : P ≤ 1000000 := by rw [hPd]; exact topP_le HDD.out.2
      have HO1 : Hid (OnlyIn bs w wr) := Lib.hid (OnlyIn.of_below HB.out)
      have HG1 := Lib.hid (HG.out.below HB.out)
      have HBB : Hid (∀ b ∈ blkB q, b ∈ bs ∨ w.heap.size ≤ b) := Lib.hid fun b hb => .inl (by rw [HBS.out]; exact List.mem_cons_of_mem _ hb)
      clear hlt hDd hPd HB HG
      go_wp2
      go_loopw [28] (fun i wr => ∃ k : Nat, i = .int .i64 k ∧ k ≤ l.length ∧ Hid (EvR D P l g c (M + 1) bs w k wr)) (fun i _ => l.length - (intOf i).toNat)
      case atStart => exact ⟨0, rfl, by omega, Lib.hid ⟨[], q, rfl, ⟨rfl, by rw [HQ.out]; rfl⟩, HG1.out, HBB.out, HO1.out⟩⟩
      case round =>
        clear HO1 HG1 HBB
        obtain ⟨k, rfl, hkl, HEV⟩ := hrel
        obtain ⟨pre, post, hpk, hm0, hg0, hbk0, ho0⟩ := HEV.out
        subst hpk
        have HM := Lib.hid hm0
        have HG := Lib.hid hg0
        have HBK := Lib.hid hbk0
        have HO := Lib.hid ho0
        clear hm0 hg0 hbk0 ho0 HEV
        cases post with
        | nil =>
          have hpl : l.length ≤ pre.length := by
            have := congrArg List.length HM.out.2
            simp at this; omega
          have hpl2 : pre.length ≤ l.length := by
            have := congrArg List.length HM.out.1
            simp at this; omega
          have hple : pre.length = l.length := by omega
          have HRES : Hid (EvP (some ⟨g, 0, none⟩) c l (M + 1) bs w (.returned (.slice (some ⟨g, 0, none⟩) l.length c)) wr) := Lib.hid (by
            have hg := HG.out
            rw [List.append_nil] at hg
            obtain ⟨o1, o2⟩ := hg.own
            have hm := HM.out.1
            rw [hple, List.take_of_length_le (Nat.le_refl _)] at hm
            have he : evenL l = pre.map (·.1) := by rw [hm]; unfold evenL; rw [← HDP.out.1, ← HDP.out.2]
            refine ⟨rfl, _, by rw [he]; exact o1, o2, fun b hb => ?_, HO.out⟩
            rcases List.mem_cons.1 hb with rfl | hb
            · exact .inl (by rw [HBS.out]; exact List.mem_cons_self)
            · exact HBK.out b (by rw [List.append_nil]; exact hb))
          clear HG HBK HO HM
          go_wp2
          go_ret
          exact HRES.out
        | cons r t =>
          have hlen : l.length = pre.length + (t.length + 1) := by
            have h1 := congrArg List.length HM.out.2
            have h2 := congrArg List.length HM.out.1
            simp at h1 h2; omega
          have hlt : pre.length < l.length := by omega
          have hdrop : l.drop pre.length = l[pre.length] :: l.drop (pre.length + 1) := List.drop_eq_getElem_cons hlt
          have hr1 : r.1 = l[pre.length] ∧ t.map (·.1) = l.drop (pre.length + 1) := by
            have := HM.out.2
            rw [hdrop, List.map_cons] at this
            injection this with e1 e2
            exact ⟨e1, e2⟩
          have hmem : r.1 ∈ l := by rw [hr1.1]; exact List.getElem_mem hlt
          have hrd := HDD.out.1 _ hmem
          have hrp := HDD.out.2 _ hmem
          have hDr : r.1.data.size ≤ D := by rw [HDP.out.1]; exact le_topD _ _ hmem
          have hPr : r.1.ptrs.length ≤ P := by rw [HDP.out.2]; exact le_topP _ _ hmem
          have HM2 : Hid ((pre.map (·.1) ++ [evenN D P r.1]) = (l.take (pre.length + 1)).map (evenN D P) ∧ t.map (·.1) = l.drop (pre.length + 1)) := Lib.hid ⟨by rw [HM.out.1, List.take_succ_eq_append_getElem hlt, List.map_append, hr1.1]; rfl, hr1.2⟩
          have hsub : ((D : Int) - (r.1.data.size : Int)) = ((D - r.1.data.size : Nat) : Int) := by omega
          obtain ⟨kz, hkz⟩ : ∃ kz : Nat, P = r.1.ptrs.length + kz := ⟨P - r.1.ptrs.length, by omega⟩
          have HKZ := Lib.hid hkz
          have hkzb : kz ≤ 1000000 := by omega
          have hsub2 : ((P : Int) - (r.1.ptrs.length : Int)) = (kz : Int) := by omega
          clear hkz
          obtain ⟨d0, d1, d2, d3, d4, d5, df⟩ := HG.out.cells
          have hba := (Below.refl wr.heap.size wr).alloc (Nat.le_refl _) (.cells #[.int .i64 r.1.kind, .string r.1.data, .slice r.2.1.A r.1.ptrs.length r.2.1.a, .int .i64 r.1.size, .int .i64 r.1.count, .slice r.2.1.B r.1.items.length r.2.1.b] nodeT)
          have HG1 := Lib.hid (HG.out.below hba)
          have HX1 := Lib.hid (heap_alloc_new wr (.cells #[.int .i64 r.1.kind, .string r.1.data, .slice r.2.1.A r.1.ptrs.length r.2.1.a, .int .i64 r.1.size, .int .i64 r.1.count, .slice r.2.1.B r.1.items.length r.2.1.b] nodeT))
          have HO1 := Lib.hid (HO.out.trans (OnlyIn.of_below hba))
          have hgl := HG.out.lt.1
          have hw0 := HO.out.size
          have hs1 : (wr.alloc (.cells #[.int .i64 r.1.kind, .string r.1.data, .slice r.2.1.A r.1.ptrs.length r.2.1.a, .int .i64 r.1.size, .int .i64 r.1.count, .slice r.2.1.B r.1.items.length r.2.1.b] nodeT)).heap.size = wr.heap.size + 1 := by simp
          have HRP := Lib.hid (fun W => repeat_any (D - r.1.data.size) W (by omega))
          have HSB := Lib.hid (And.intro hsub hsub2)
          clear hba hdrop hr1 hmem HM HG HO hsub hsub2
          go_wp2_with fail
          clear d0 d1 d2 d3 d4 d5 df
          generalize wr.alloc (.cells #[.int .i64 r.1.kind, .string r.1.data, .slice r.2.1.A r.1.ptrs.length r.2.1.a, .int .i64 r.1.size, .int .i64 r.1.count, .slice r.2.1.B r.1.items.length r.2.1.b] nodeT) = W1 at *
          obtain ⟨d0, d1, d2, d3, d4, d5, df⟩ := HG1.out.cells
          obtain ⟨b0, b1, b2, b3, b4, b5⟩ := cells6 HX1.out
          have hsub := HSB.out.1
          have hpt : pre.length < pre.length + (t.length + 1) := by omega
          have hd1 : (W1.drew).heap.size = W1.heap.size := rfl
          have hwr1 : IntKind.i64.wrap ((D - r.1.data.size : Nat) : Int) = ((D - r.1.data.size : Nat) : Int) := by rw [IntKind.wrap_i64]; omega
          go_region_with (go_at_call 67; (with_reducible refine (HRP.out _).mono ?_); rintro e w2 ⟨rfl, hb2⟩; have HG2 := Lib.hid (RowG.below (w := W1.drew) (RowG.frame HG1.out (fun _ _ => rfl)) hb2); obtain ⟨q0, q1, q2, q3, q4, q5, qf⟩ := HG2.out.cells; have qf1 := qf (pre.length * 6 + 1); have hzs := zeroD_size (D - r.1.data.size); have f1 : ¬ 9223372036854775807 < r.1.data.size + (zeroD (D - r.1.data.size)).size := by omega)
          all_goals
            have hO2 : OnlyIn bs w w2 := HO1.out.trans (OnlyIn.of_below ⟨hb2.os, hb2.tape, hb2.output, hb2.size, hb2.block⟩)
            have hs2 : W1.heap.size ≤ w2.heap.size := hb2.size
            have hX2 := (hb2.block _ (show wr.heap.size < W1.drew.heap.size by omega)).trans HX1.out
            have hG3 := HG2.out.set (n' := .mk r.1.kind (r.1.data ++ zeroD (D - r.1.data.size)) r.1.ptrs r.1.size r.1.count r.1.items) 1 (.string (r.1.data ++ zeroD (D - r.1.data.size))) (by decide) rfl (fun f hf hf1 => by
              match f, hf with
              | 0, _ => rfl
              | 1, _ => exact absurd rfl hf1
              | 2, _ => rfl
              | 3, _ => rfl
              | 4, _ => rfl
              | 5, _ => rfl) rfl rfl (by show (r.1.data ++ zeroD _).size ≤ maxLen; rw [getD_size, zeroD_size]; unfold maxLen; omega)
            have hgb : g ∈ bs := by rw [HBS.out]; exact List.mem_cons_self
            have HO3 := Lib.hid (hO2.trans (OnlyIn.setCell (bs := bs) (w := w2) (p := ⟨g, pre.length * 6 + 1, none⟩) hgb (.string (r.1.data ++ zeroD (D - r.1.data.size)))))
            have HX3 := Lib.hid ((Below.heap_setCell w2 ⟨g, pre.length * 6 + 1, none⟩ (.string (r.1.data ++ zeroD (D - r.1.data.size))) wr.heap.size (show wr.heap.size ≠ g by omega)).trans hX2)
            have HG3 := Lib.hid hG3
            have hs3 : (w2.setCell ⟨g, pre.length * 6 + 1, none⟩ (.string (r.1.data ++ zeroD (D - r.1.data.size)))).heap.size = w2.heap.size := by simp [World.setCell]
            clear hb2 hO2 hX2 hG3 d0 d1 d2 d3 d4 d5 df b0 b1 b2 b3 b4 b5 q0 q1 q2 q3 q4 q5 qf qf1 hzs f1 HG2 hsub hwr1
            generalize w2.setCell ⟨g, pre.length * 6 + 1, none⟩ (.string (r.1.data ++ zeroD (D - r.1.data.size))) = W3 at *
            obtain ⟨b0, b1, b2, b3, b4, b5⟩ := cells6 HX3.out
            obtain ⟨q0, p2, hq0, hown0, hbb, hkids, hitems, hdm⟩ := HG3.out.ptrs
            have HOW : Hid (W3.ownsRow 0 nodeT 6 (.slice r.2.1.A r.1.ptrs.length r.2.1.a) r.1.ptrs.length (rowB q0)) := Lib.hid hown0
            have hblr : blkB (pre ++ ((.mk r.1.kind (r.1.data ++ zeroD (D - r.1.data.size)) r.1.ptrs r.1.size r.1.count r.1.items, r.2) : NB) :: t) = blkB (pre ++ r :: t) := by rw [blkB_app, blkB_app, blkB_cons, blkB_cons]
            have hsubA : ∀ b ∈ blk r.2.1.A, b ∈ blkB (pre ++ r :: t) := fun b hm => by
              rw [blkB_app, blkB_cons]
              refine List.mem_append_right _ (List.mem_append_left _ ?_)
              have hbb' : r.2.2 = (blk r.2.1.A ++ blkB q0) ++ p2 := hbb
              rw [hbb']
              exact List.mem_append_left _ (List.mem_append_left _ hm)
            have hownb : ∀ b, some b = (Value.slice r.2.1.A r.1.ptrs.length r.2.1.a).ownBlock → b ∈ blk r.2.1.A := fun b e => by
              rw [blk_own r.2.1.A r.1.ptrs.length r.2.1.a, ← e]; exact List.mem_singleton.2 rfl
            have hgne : some g ≠ (Value.slice r.2.1.A r.1.ptrs.length r.2.1.a).ownBlock := fun e => by
              obtain ⟨_, _, _, _, _, _, _, _, h8⟩ := HG3.out
              rw [hblr] at h8
              exact h8 (hsubA g (hownb g e))
            have HSA := Lib.hid (And.intro hsubA hownb)
            have HPT := Lib.hid (And.intro hq0 (And.intro hbb (And.intro hkids (And.intro hitems hdm))))
            obtain ⟨e0, e1, e2, e3, e4, e5, ef⟩ := HG3.out.cells
            have hg3l := HG3.out.lt.1
            have HCE := Lib.hid (And.intro e2 (ef (pre.length * 6 + 2)))
            clear hq0 hown0 hbb hkids hitems hdm hblr hsubA hownb e0 e1 e2 e3 e4 e5 ef
            have hsub2 := HSB.out.2
            have hwr2 : IntKind.i64.wrap (kz : Int) = (kz : Int) := by rw [IntKind.wrap_i64]; omega
            have hlp : r.1.ptrs.length + kz ≤ 3000000 := by omega
            go_wp2_with (at_builtin; go_must (refine wpList_append_zeros rfl (.tmp 50) (.tmp 55) rfl (.slice r.2.1.A r.1.ptrs.length r.2.1.a) r.1.ptrs.length (rowB q0) rfl HOW.out kz rfl hlp ?_); intro A4 c4 w4 hown4 hgrow4 hat4; have k4 := (World.cell?_of_block (w := W3) (w' := w4) (a := ⟨g, pre.length * 6 + 2, none⟩) (hgrow4.out.block g hg3l hgne)).trans HCE.out.1; have kf4 := (World.frozen?_of_block (w := W3) (w' := w4) (a := ⟨g, pre.length * 6 + 2, none⟩) (hgrow4.out.block g hg3l hgne)).trans HCE.out.2)
            obtain ⟨r', hr', hgr, hbr⟩ := HG3.out.grow (kz := kz) HPT.out.1 HPT.out.2.1 HPT.out.2.2.1 HPT.out.2.2.2.1 HPT.out.2.2.2.2 hown4.out hgrow4.out hat4.out
            have hrE : r'.1 = evenN D P r.1 := by rw [hr']; unfold evenN; rw [show P - r.1.ptrs.length = kz by have := HKZ.out; omega]; rfl
            have HG5 : Hid (RowG (w4.setCell ⟨g, pre.length * 6 + 2, none⟩ (.slice A4 (r.1.ptrs.length + kz) c4)) g c ((pre ++ [r']) ++ t) (M + 1)) := Lib.hid (by rw [List.append_assoc]; exact hgr)
            have HM5 : Hid ((pre ++ [r']).map (·.1) = (l.take (pre ++ [r']).length).map (evenN D P) ∧ t.map (·.1) = l.drop (pre ++ [r']).length) := Lib.hid (by
              have hl : (pre ++ [r']).length = pre.length + 1 := by simp
              rw [hl, List.map_append, List.map_singleton, hrE]
              exact HM2.out)
            have HB5 : Hid (∀ b ∈ blkB ((pre ++ [r']) ++ t), b ∈ bs ∨ w.heap.size ≤ b) := Lib.hid (fun b hm => by
              rw [List.append_assoc, blkB_app] at hm
              have hold : ∀ b, b ∈ blkB (pre ++ r :: t) → b ∈ bs ∨ w.heap.size ≤ b := HBK.out
              rcases List.mem_append.1 hm with hm | hm
              · exact hold b (by rw [blkB_app]; exact List.mem_append_left _ hm)
              · rw [show [r'] ++ t = r' :: t from rfl, blkB_cons] at hm
                rcases List.mem_append.1 hm with hm | hm
                · rcases hbr b hm with h | h
                  · exact hold b (by rw [blkB_app, blkB_cons]; exact List.mem_append_right _ (List.mem_append_left _ h))
                  · right; omega
                · exact hold b (by rw [blkB_app, blkB_cons]; exact List.mem_append_right _ (List.mem_append_right _ hm)))
            have HO5 : Hid (OnlyIn bs w (w4.setCell ⟨g, pre.length * 6 + 2, none⟩ (.slice A4 (r.1.ptrs.length + kz) c4))) := Lib.hid (by
              have hO4 : OnlyIn bs w w4 := ⟨hgrow4.out.os.trans HO3.out.os, hgrow4.out.tape.trans HO3.out.tape, hgrow4.out.output.trans HO3.out.output, Nat.le_trans HO3.out.size hgrow4.out.size, fun k hk hn => (hgrow4.out.block k (Nat.lt_of_lt_of_le hk HO3.out.size) (fun e => by
                rcases HBK.out k (HSA.out.1 k (HSA.out.2 k e)) with h | h
                · exact hn h
                · omega)).trans (HO3.out.block k hk hn)⟩
              exact hO4.trans (OnlyIn.setCell (p := ⟨g, pre.length * 6 + 2, none⟩) hgb _))
            have HEV5 : Hid (EvR D P l g c (M + 1) bs w (pre.length + 1) (w4.setCell ⟨g, pre.length * 6 + 2, none⟩ (.slice A4 (r.1.ptrs.length + kz) c4))) := Lib.hid ⟨pre ++ [r'], t, by simp, by have := HM5.out; rw [show (pre ++ [r']).length = pre.length + 1 by simp] at this; exact this, HG5.out, HB5.out, HO5.out⟩
            clear hown4 hgrow4 hat4 hr' hgr hbr hrE k4 kf4 HCE HPT HSA HM5 HG5 HB5 HO5
            go_wp2
            go_roundw
            case rel => exact ⟨_, _, .int .i64 ((pre.length : Int) + 1), ⟨pre.length + 1, by go_num, by omega, HEV5⟩, rfl, rfl, rfl⟩
            case measure => simp [intOf]; omega
theorem evened_none (c : Nat) (M : Nat) (bs : List Nat) (w : World) (hc : c = 0) (hb : bs = []) :
    Calls Try.prog 47 #[.slice none 0 c] w (EvP none c [] M bs w) := by
  subst hc hb
  have HRES : Hid (EvP none 0 [] M [] w (.returned (.slice none 0 0)) w) := Lib.hid ⟨rfl, [], OwS.nil w (M + 1), List.nodup_nil, fun b h => (by cases h), OnlyIn.refl _ _⟩
  go_enter Try.func47, Try.ntmps47
  go_wp2
  go_loopw [3, 4, 11] (fun p q i wr => p = .int .i64 0 ∧ q = .int .i64 0 ∧ i = .int .i64 0 ∧ wr = w) (fun _ _ _ _ => 0)
  case atStart => exact ⟨rfl, rfl, rfl, rfl⟩
  case round =>
    obtain ⟨rfl, rfl, rfl, rfl⟩ := hrel
    go_wp2
    go_loopw [28] (fun i wq => i = .int .i64 0 ∧ wq = wr) (fun _ _ => 0)
    case atStart => exact ⟨rfl, rfl⟩
    case round =>
      obtain ⟨rfl, rfl⟩ := hrel
      go_wp2
      go_ret
      exact HRES.out
end Go.Proofs.Ytfiiopchfmcjdaa
