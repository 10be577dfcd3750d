/- Rows of nodes in plain blocks, of which nothing is frozen. No Go text. -/
import Derived.Test.YtfiiopchfmcjdaaNdRow
import Derived.Test.YtfiiopchfmcjdaaNdFrC
namespace Go.Proofs.Ytfiiopchfmcjdaa
open Go.RowKit Go.Deep
/-- the call's own nodes in a row, what is within lying elsewhere. -/
def NRowC (w : World) (B : Nat) (v : Value) (q : List (Nd × Hd)) (M T : Nat) : Prop :=
  w.ownsRow B nodeT 6 v q.length (rowOf q) ∧ ∀ r ∈ q, NdAt w (fun k => FromC w B k ∧ some k ≠ v.ownBlock) M r.1 r.2 ∧ totN M r.1 ≤ T
theorem NRowC.nil (w : World) (B M T : Nat) : NRowC w B (.slice none 0 0) [] M T := ⟨World.ownsRow_nil _ _ _ _, fun r h => by cases h⟩
theorem NRowC.picked {w w' : World} {B M T R n : Nat} {v : Value} {q : List (Nd × Hd)} (h : NRowC w B v q M T) (hp : Picked w R n w') (hR : R < B) : NRowC w' B v q M T :=
  ⟨own_pickedN h.1 hp hR, fun r hr => ⟨(h.2 r hr).1.map' (fun k hk hs => ⟨⟨hs.1.1, clean_of hs.1.2 (hp.2.block k hk (by have := hs.1.1; omega))⟩, hs.2⟩) (fun p _ _ hs hc => hc.block (hp.2.block _ hc.lt (by have := hs.1.1; omega))), (h.2 r hr).2⟩⟩
theorem NRowC.store {w : World} {B M T g i : Nat} {u v : Value} {q : List (Nd × Hd)} (h : NRowC w B v q M T) (hg : g < B) : NRowC (w.setCell ⟨g, i, none⟩ u) B v q M T :=
  ⟨ownsRow_setCell_below h.1 hg u, fun r hr => ⟨(h.2 r hr).1.map' (fun k hk hs => ⟨⟨hs.1.1, clean_set hs.1.2 _ _⟩, hs.2⟩) (fun p _ _ hs hc => hc.block (Below.heap_setCell w ⟨g, i, none⟩ u _ (by have := hs.1.1; show p.block ≠ g; omega))), (h.2 r hr).2⟩⟩
theorem NRowC.drew {w : World} {B M T : Nat} {v : Value} {q : List (Nd × Hd)} (h : NRowC w B v q M T) : NRowC w.drew B v q M T :=
  ⟨h.1.drew, fun r hr => ⟨(h.2 r hr).1.below ⟨rfl, rfl, rfl, Nat.le_refl _, fun _ _ => rfl⟩, (h.2 r hr).2⟩⟩
theorem NRowC.low {w w' : World} {B M T : Nat} {v : Value} {q : List (Nd × Hd)} (h : NRowC w B v q M T) (hb : Below w.heap.size w w') : NRowC w' B v q M T :=
  ⟨h.1.kept (row := none) ⟨hb.os, hb.tape, hb.output, hb.size, fun k hk _ => hb.block k hk⟩ (by
    by_cases hv : v.ownBlock = none
    · exact .inl hv
    · exact .inr (fun e => hv e)), fun r hr => ⟨((h.2 r hr).1.below hb).weak (fun k hs => ⟨⟨hs.1.1, clean_low hs.1.2 hb⟩, hs.2⟩), (h.2 r hr).2⟩⟩
theorem NRowC.alloc {w : World} {B M T : Nat} {v : Value} {q : List (Nd × Hd)} (h : NRowC w B v q M T) (o : Obj) : NRowC (w.alloc o) B v q M T := h.low ((Below.refl _ _).alloc (Nat.le_refl _) o)
/-- one more. -/
theorem NRowC.next {w3 w4 : World} {B H M T : Nat} {v v' : Value} {q : List (Nd × Hd)} {y : Nd} {hy : Hd} (h : NRowC w3 B v q M T) (hny : NdAt w3 (FromC w3 H) M y hy) (hty : totN M y ≤ T) (hBH : B ≤ H) (hvH : ∀ k, v.ownBlock = some k → k < H)
    (hown : w4.ownsRow B nodeT 6 v' (q.length + 1) (rowOf q ++ rowOf [(y, hy)])) (hgrow : w3.grownBy w4 v.ownBlock) (hat : v'.ownBlock = v.ownBlock ∨ v'.ownBlock = some w3.heap.size) : NRowC w4 B v' (q ++ [(y, hy)]) M T := by
  have hS : ∀ k, k < w3.heap.size → (FromC w3 B k ∧ some k ≠ v.ownBlock) → (FromC w4 B k ∧ some k ≠ v'.ownBlock) := fun k hk ⟨h1, h2⟩ => ⟨⟨h1.1, clean_of h1.2 (hgrow.block k hk h2)⟩, by
    rcases hat with h | h
    · rw [h]; exact h2
    · rw [h]; intro e; injection e with e; omega⟩
  refine ⟨by rw [List.length_append, rowOf_app]; exact hown, fun r hr => ?_⟩
  rcases List.mem_append.1 hr with hr | hr
  · exact ⟨(h.2 r hr).1.map' hS (fun p _ _ hs hc => hc.block (hgrow.block _ hc.lt hs.2)), (h.2 r hr).2⟩
  · obtain rfl := List.mem_singleton.1 hr
    have h1 : NdAt w3 (fun k => FromC w3 B k ∧ some k ≠ v.ownBlock) M y hy := hny.weak (fun k hk => ⟨⟨Nat.le_trans hBH hk.1, hk.2⟩, fun e => by have := hvH k e.symm; have := hk.1; omega⟩)
    exact ⟨h1.map' hS (fun p _ _ hs hc => hc.block (hgrow.block _ hc.lt hs.2)), hty⟩
theorem NRowC.nds {w : World} {B M T : Nat} {v : Value} {q : List (Nd × Hd)} (h : NRowC w B v q M T) (hq : q.length ≤ 1000000) : ∃ A cap, v = .slice A q.length cap ∧ NdsAt w (FromC w B) (M + 1) A (q.map (·.1)) ∧ totL (M + 1) (q.map (·.1)) ≤ q.length * (1 + T) := by
  obtain ⟨A, cap, hv, hn⟩ := nds_of_ownC h.1 (by unfold maxLen; omega) (fun r hr => (h.2 r hr).1.weak (fun _ h => h.1))
  refine ⟨A, cap, hv, hn, ?_⟩
  rw [totL_succ]
  have : ∀ q : List (Nd × Hd), (∀ r ∈ q, totN M r.1 ≤ T) → ((q.map (·.1)).map fun n => 1 + totN M n).sum ≤ q.length * (1 + T) := by
    intro q
    induction q with
    | nil => intro _; simp
    | cons a t ih =>
      intro hq
      have h1 := hq a List.mem_cons_self
      have h2 := ih (fun r hr => hq r (List.mem_cons_of_mem _ hr))
      simp only [List.map_cons, List.sum_cons, List.length_cons, Nat.add_mul]
      omega
  exact this q (fun r hr => (h.2 r hr).2)
end Go.Proofs.Ytfiiopchfmcjdaa
