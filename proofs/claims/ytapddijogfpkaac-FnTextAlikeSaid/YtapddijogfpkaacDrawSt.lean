/- The specification's drawer of nodes: structs. -/
import Derived.Test.YtapddijogfpkaacDrawNd
import Derived.Test.YtapddijogfpkaacNdRow
import Derived.Deep.RegionLaw
import Derived.Deep.RegionWith
namespace Go.Proofs.Ytapddijogfpkaac
open Go.RowKit Go.Deep
/-- how many draws a node of such a depth takes at most; how great it is; how many levels it has. -/
def dK : Nat → Nat
  | 0 => 0
  | d + 1 => 50 + 6 * dK d
def dT : Nat → Nat
  | 0 => 0
  | d + 1 => 1001 + 6 * dT d
theorem picked_growN {w w1 w2 : World} {R n base m z : Nat} {e : TypeId} {v : Value} {xs : List Value} (hp : Picked w R n w1) (hR : R < base) (hwb : w.heap.size ≤ base) (hown : w1.ownsRow base e z v m xs) (hbs : base ≤ w1.heap.size) (hg : w1.grownBy w2 v.ownBlock) : Picked w R n w2 := by
  have hbel : Below base w1 w2 := (Below.refl base w1).grown hg hbs (fun k hk => (hown.lt k hk).1)
  obtain ⟨⟨a, l, c, p, hpn, hr, hc⟩, hk⟩ := hp
  refine ⟨⟨a, l, c, p, hpn, (hbel.block R hR).trans hr, hc.keeps (R := base) (Keeps.of_below hbel) (Nat.le_of_lt hR) (Nat.le_of_lt hR)⟩, ?_⟩
  exact ⟨hbel.os.trans hk.os, hbel.tape.trans hk.tape, hbel.output.trans hk.output, Nat.le_trans hk.size hbel.size, fun k hk1 hk2 => (hbel.block k (Nat.lt_of_lt_of_le hk1 hwb)).trans (hk.block k hk1 hk2)⟩
theorem NdAt.picked {w w' : World} {R n B m : Nat} {x : Nd} {h : Hd} (hn : NdAt w (From B) m x h) (hp : Picked w R n w') (hR : R < B) : NdAt w' (From B) m x h :=
  hn.map (fun _ h => h) (fun p _ _ hs hc => hc.block (hp.2.block _ hc.lt (by have : B ≤ p.block := hs; omega)))
/-- the struct as it is drawn: its bytes so far. -/
def StD (g : Nat) (k : Nat) (w : World) : Prop := ∃ dd : ByteArray, dd.size = 8 * k ∧ w.heap[g]? = some (.cells #[.int .i64 1, .string dd, .slice none 0 0, .int .i64 0, .int .i64 0, .slice none 0 0] nodeT (0, 0))
end Go.Proofs.Ytapddijogfpkaac
