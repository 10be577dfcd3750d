/- The specification's drawer of nodes: all kinds. -/
import Derived.Test.YtapddijogfpkaacDrawSt
import Derived.Test.YtapddijogfpkaacNdAllow
namespace Go.Proofs.Ytapddijogfpkaac
open Go.RowKit Go.Deep
theorem NdsAt.tot_mono {w : World} {S : Nat → Prop} {m k : Nat} {A : Option Addr} {l : List Nd} (h : NdsAt w S m A l) (hk : m ≤ k) : totL k l = totL m l := by
  induction hk with
  | refl => rfl
  | @step j hj ih => rw [totL_eq j A l (h.mono hj), ih]
theorem NdAt.tot_mono {w : World} {S : Nat → Prop} {m k : Nat} {n : Nd} {h : Hd} (hn : NdAt w S m n h) (hk : m ≤ k) : totN k n = totN m n := by
  unfold totN
  rw [hn.2.1.tot_mono hk, hn.2.2.tot_mono hk]
theorem TB.mono {w : World} {S : Nat → Prop} {M M' T T' : Nat} {n : Nd} {h : Hd} (ht : TB M n T) (hn : NdAt w S M n h) (hM : M ≤ M') (hT : T ≤ T') : TB M' n T' := ⟨by rw [hn.tot_mono hM]; exact Nat.le_trans ht.1 hT, ht.2.mono hT⟩
theorem picked_next {w w1 w2 w4 : World} {R n m : Nat} {o : Obj} {r : Option Nat} (hp : Picked w R n w1) (hp3 : Picked w1 R m w2) (hR : R < w.heap.size) (hg : (w2.alloc o).grownBy w4 r) (hr : ∀ k, r = some k → w.heap.size ≤ k) : Picked w R m w4 ∧ Below w.heap.size w2 w4 := by
  have hs : w.heap.size ≤ w2.heap.size := Nat.le_trans hp.2.size hp3.2.size
  have hbel : Below w.heap.size w2 w4 := ((Below.refl w.heap.size w2).alloc hs o).grown hg (by simp; omega) hr
  obtain ⟨⟨a, l, c, p, hpn, hr, hc⟩, hk⟩ := hp.then hp3
  exact ⟨⟨⟨a, l, c, p, hpn, (hbel.block R hR).trans hr, hc.keeps (R := w.heap.size) (Keeps.of_below hbel) (Nat.le_of_lt hR) (Nat.le_of_lt hR)⟩, ⟨hbel.os.trans hk.os, hbel.tape.trans hk.tape, hbel.output.trans hk.output, Nat.le_trans hk.size hbel.size, fun k hk1 hk2 => (hbel.block k hk1).trans (hk.block k hk1 hk2)⟩⟩, hbel⟩
theorem dK4 : dK 4 = 12950 := by decide
end Go.Proofs.Ytapddijogfpkaac
