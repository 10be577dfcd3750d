/- A row of nodes that is appended to, one by one. -/
import Derived.Test.YtfiiopchfmcjdaaDrawNd
import Derived.Test.YtfiiopchfmcjdaaNdPtrs
import Derived.Maps.AppendAt
namespace Go.Proofs.Ytfiiopchfmcjdaa
open Go.RowKit
theorem NdsAt.map' {w w' : World} {S S' : Nat → Prop} (hS : ∀ k, k < w.heap.size → S k → S' k) (hf : ∀ p n h, S p.block → NdCell w p n h → NdCell w' p n h) : ∀ m A l, NdsAt w S m A l → NdsAt w' S' m A l
  | 0, _, _, h => h
  | m + 1, A, l, ⟨hl, q, hq, hc, hr⟩ => by
    refine ⟨hl, q, hq, ?_, fun r h => ⟨(hr r h).1, NdsAt.map' hS hf m _ _ (hr r h).2.1, NdsAt.map' hS hf m _ _ (hr r h).2.2⟩⟩
    rcases hc with hc | ⟨x, hx, hs, hk⟩
    · exact .inl hc
    · cases q with
      | nil => exact .inl rfl
      | cons r t =>
        have hlt := (hk 0 r rfl).lt
        rw [addr_block] at hlt
        exact .inr ⟨x, hx, hS _ hlt hs, fun k r' h => hf _ _ _ (by rw [addr_block]; exact hs) (hk k r' h)⟩
theorem NdAt.map' {w w' : World} {S S' : Nat → Prop} {m : Nat} {n : Nd} {h : Hd} (hS : ∀ k, k < w.heap.size → S k → S' k) (hf : ∀ p n h, S p.block → NdCell w p n h → NdCell w' p n h) (hn : NdAt w S m n h) : NdAt w' S' m n h := ⟨hn.1, NdsAt.map' hS hf _ _ _ hn.2.1, NdsAt.map' hS hf _ _ _ hn.2.2⟩
/-- the call's own nodes in a row, what is within lying elsewhere. -/
def NRow (w : World) (B : Nat) (v : Value) (q : List (Nd × Hd)) (M T : Nat) : Prop :=
  w.ownsRow B nodeT 6 v q.length (rowOf q) ∧ ∀ r ∈ q, NdAt w (fun k => B ≤ k ∧ some k ≠ v.ownBlock) M r.1 r.2 ∧ totN M r.1 ≤ T
theorem NRow.nil (w : World) (B M T : Nat) : NRow w B (.slice none 0 0) [] M T := ⟨World.ownsRow_nil _ _ _ _, fun r h => by cases h⟩
theorem own_pickedN {w w' : World} {R n base m z : Nat} {e : TypeId} {v : Value} {xs : List Value} (h : w.ownsRow base e z v m xs) (hp : Picked w R n w') (hR : R < base) : w'.ownsRow base e z v m xs := by
  refine h.kept (row := some R) ⟨hp.2.os, hp.2.tape, hp.2.output, hp.2.size, fun k hk hne => hp.2.block k hk (fun e => hne (by rw [e]))⟩ ?_
  by_cases hv : v.ownBlock = none
  · exact .inl hv
  · refine .inr (fun e => ?_)
    have := (h.lt R (by rw [e])).1
    omega
theorem NRow.picked {w w' : World} {B M T R n : Nat} {v : Value} {q : List (Nd × Hd)} (h : NRow w B v q M T) (hp : Picked w R n w') (hR : R < B) : NRow w' B v q M T :=
  ⟨own_pickedN h.1 hp hR, fun r hr => ⟨(h.2 r hr).1.map (fun _ h => h) (fun p _ _ hs hc => hc.block (hp.2.block _ hc.lt (by have : B ≤ p.block := hs.1; omega))), (h.2 r hr).2⟩⟩
theorem NRow.store {w : World} {B M T g i : Nat} {u v : Value} {q : List (Nd × Hd)} (h : NRow w B v q M T) (hg : g < B) : NRow (w.setCell ⟨g, i, none⟩ u) B v q M T :=
  ⟨ownsRow_setCell_below h.1 hg u, fun r hr => ⟨(h.2 r hr).1.map (fun _ h => h) (fun p _ _ hs hc => hc.block (Below.heap_setCell w ⟨g, i, none⟩ u _ (by have : B ≤ p.block := hs.1; show p.block ≠ g; omega))), (h.2 r hr).2⟩⟩
theorem NRow.drew {w : World} {B M T : Nat} {v : Value} {q : List (Nd × Hd)} (h : NRow w B v q M T) : NRow w.drew B v q M T :=
  ⟨h.1.drew, fun r hr => ⟨(h.2 r hr).1.below ⟨rfl, rfl, rfl, Nat.le_refl _, fun _ _ => rfl⟩, (h.2 r hr).2⟩⟩
theorem NRow.alloc {w : World} {B M T : Nat} {v : Value} {q : List (Nd × Hd)} (h : NRow w B v q M T) (o : Obj) : NRow (w.alloc o) B v q M T :=
  ⟨h.1.alloc o, fun r hr => ⟨(h.2 r hr).1.below ((Below.refl _ _).alloc (Nat.le_refl _) o), (h.2 r hr).2⟩⟩
/-- one more. -/
theorem NRow.next {w3 w4 : World} {B H M T : Nat} {v v' : Value} {q : List (Nd × Hd)} {y : Nd} {hy : Hd} (h : NRow w3 B v q M T) (hny : NdAt w3 (From H) M y hy) (hty : totN M y ≤ T) (hBH : B ≤ H) (hvH : ∀ k, v.ownBlock = some k → k < H)
    (hown : w4.ownsRow B nodeT 6 v' (q.length + 1) (rowOf q ++ rowOf [(y, hy)])) (hgrow : w3.grownBy w4 v.ownBlock) (hat : v'.ownBlock = v.ownBlock ∨ v'.ownBlock = some w3.heap.size) : NRow w4 B v' (q ++ [(y, hy)]) M T := by
  have hS : ∀ k, k < w3.heap.size → (B ≤ k ∧ some k ≠ v.ownBlock) → (B ≤ k ∧ some k ≠ v'.ownBlock) := fun k hk ⟨h1, h2⟩ => ⟨h1, by
    rcases hat with h | h
    · rw [h]; exact h2
    · rw [h]; intro e; injection e with e; omega⟩
  refine ⟨by rw [List.length_append, rowOf_app]; exact hown, fun r hr => ?_⟩
  rcases List.mem_append.1 hr with hr | hr
  · exact ⟨(h.2 r hr).1.map' hS (fun p _ _ hs hc => hc.block (hgrow.block _ hc.lt hs.2)), (h.2 r hr).2⟩
  · obtain rfl := List.mem_singleton.1 hr
    have h1 : NdAt w3 (fun k => B ≤ k ∧ some k ≠ v.ownBlock) M y hy := hny.weak (fun k hk => ⟨Nat.le_trans hBH hk, fun e => by have := hvH k e.symm; have : H ≤ k := hk; omega⟩)
    exact ⟨h1.map' hS (fun p _ _ hs hc => hc.block (hgrow.block _ hc.lt hs.2)), hty⟩
theorem NRow.nds {w : World} {B M T : Nat} {v : Value} {q : List (Nd × Hd)} (h : NRow w B v q M T) (hq : q.length ≤ 1000) : ∃ A cap, v = .slice A q.length cap ∧ NdsAt w (From B) (M + 1) A (q.map (·.1)) ∧ totL (M + 1) (q.map (·.1)) ≤ q.length * (1 + T) := by
  obtain ⟨A, cap, hv, hn⟩ := nds_of_own h.1 (S := From B) (fun _ h => h) (by unfold maxLen; omega) (fun r hr => (h.2 r hr).1.weak (fun _ h => h.1))
  refine ⟨A, cap, hv, hn, ?_⟩
  rw [totL_succ]
  have : ∀ q : List (Nd × Hd), (∀ r ∈ q, totN M r.1 ≤ T) → ((q.map (·.1)).map fun n => 1 + totN M n).sum ≤ q.length * (1 + T) := by
    intro q
    induction q with
    | nil => intro _; simp
    | cons a t ih =>
      intro hq
      have h1 := hq a List.mem_cons_self
      have h2 := ih (fun r hr => hq r (List.mem_cons_of_mem _ hr))
      simp only [List.map_cons, List.sum_cons, List.length_cons, Nat.add_mul]
      omega
  exact this q (fun r hr => (h.2 r hr).2)
theorem step_append_nd {ops : Array Oper} {o : Oper} {a : Act} {w : World} {K : Act → World → Prop} {Q : Exit → Act → World → Prop} {E : Prop} (hgd : o.guard = none) (s x : Operand)
    (ho : o.op = .call { callee := .builtin .append, args := #[s, x], argTypes := #[nodesT, nodesT] })
    (base : Nat) (v : Value) (n : Nat) (xs : List Value) (hs : a.eval s = v) (hown : w.ownsRow base nodeT 6 v n xs)
    (ad : Addr) (c : Nat) (r : Nd × Hd) (hx : a.eval x = .slice (some ad) 1 c) (hnews : ∀ j u, (rowOf [r])[j]? = some u → w.cell? (ad.add j) = some u) (hn : n ≤ 1000) (hbase : base ≤ w.heap.size)
    (h : ∀ A' c' w', Hid (w'.ownsRow base nodeT 6 (.slice A' (n + 1) c') (n + 1) (xs ++ rowOf [r])) → Hid (w.grownBy w' v.ownBlock) → Hid ((Value.slice A' (n + 1) c').ownBlock = v.ownBlock ∨ (Value.slice A' (n + 1) c').ownBlock = some w.heap.size) → K (a.put o.dst (.slice A' (n + 1) c')) w') :
    if Region.wanted o (yielded ops a.tmps) = true then Oper.wp Try.prog o a w K Q else E := by
  have hw : Region.wanted o (yielded ops a.tmps) = true := by simp [Region.wanted, hgd]
  rw [if_pos hw]
  obtain ⟨i0, hi, hz0, hz1, hz2⟩ := info_parts infoNd
  obtain ⟨v', w', hr, h2, h3, _, h5⟩ := run_append_own_at (P := Try.prog) w base nodesT o.type nodeT i0 _ 6 88 Try.underlying23 hi hz0 hz1 hz2 rfl (by decide) v n xs hown ad 1 c (rowOf [r]) rfl hnews (rowOf_one _) (by unfold maxLen; omega) (by omega) hbase
  obtain ⟨A', c', rfl⟩ := own_sliceN h2
  unfold Oper.wp execOp
  simp only [ho, resolve, invoke, builtin, Sem.run_bind, Sem.run_pure, Result.andThen_ok, List.map_toArray, List.map_cons, List.map_nil, hs, hx, hr]
  exact h A' c' w' h2 h3 h5
theorem cells_six_new (w : World) (r : Nd × Hd) (t : TypeId) : ∀ j u, (rowOf [r])[j]? = some u → (w.alloc (.cells #[.int .i64 r.1.kind, .string r.1.data, .slice r.2.A r.1.ptrs.length r.2.a, .int .i64 r.1.size, .int .i64 r.1.count, .slice r.2.B r.1.items.length r.2.b] t)).cell? ((⟨w.heap.size, 0, none⟩ : Addr).add j) = some u := by
  intro j u hj
  rw [add_zero0, cell_of_row _ _ _ _ _ (0, 0) (heap_alloc_new w _)]
  simp only [rowOf] at hj
  match j, hj with
  | 0, hj => simpa using hj
  | 1, hj => simpa using hj
  | 2, hj => simpa using hj
  | 3, hj => simpa using hj
  | 4, hj => simpa using hj
  | 5, hj => simpa using hj
end Go.Proofs.Ytfiiopchfmcjdaa
