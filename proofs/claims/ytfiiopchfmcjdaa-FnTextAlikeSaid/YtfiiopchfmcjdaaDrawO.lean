/- The specification's drawer: l1Open. -/
import Derived.Test.YtfiiopchfmcjdaaDraw
namespace Go.Proofs.Ytfiiopchfmcjdaa
open Go.RowKit
theorem Picked.then {w w1 w2 : World} {R n m : Nat} (h : Picked w R n w1) (k : Picked w1 R m w2) : Picked w R m w2 := ⟨k.1, h.2.then h.2.size k.2⟩
theorem Picked.mono {w w1 : World} {R n m : Nat} (h : Picked w R n w1) (k : n ≤ m) : Picked w R m w1 := ⟨h.1.mono k, h.2⟩
theorem Picked.from {w0 w w1 : World} {R n : Nat} (hb : Below w0.heap.size w0 w) (h : Picked w R n w1) : Picked w0 R n w1 := ⟨h.1, (Keeps.of_below hb).then hb.size h.2⟩
theorem Picked.below {w w1 w2 : World} {R n : Nat} (h : Picked w R n w1) (hb : Below w1.heap.size w1 w2) : Picked w R n w2 := ⟨h.1.below hb, h.2.then h.2.size (Keeps.of_below hb)⟩
theorem Rd.self {w : World} {R n : Nat} (h : Rd w R n) : Picked w R n w := ⟨h, Keeps.refl _ _ _⟩
/-- a row that holds these. -/
def Lits (w : World) (g : Nat) (vs : List Value) : Prop := g < w.heap.size ∧ ∀ i v, vs[i]? = some v → w.cell? ⟨g, i, none⟩ = some v
theorem Lits.keeps {w w' : World} {g R : Nat} {vs : List Value} (h : Lits w g vs) (hk : Keeps w.heap.size R w w') (hg : g ≠ R) : Lits w' g vs :=
  ⟨Nat.lt_of_lt_of_le h.1 hk.size, fun i v hi => (keeps_cell hk ⟨g, i, none⟩ h.1 hg).trans (h.2 i v hi)⟩
theorem Lits.new (w : World) (vs : Array Value) (t : TypeId) (fr : Nat × Nat) : Lits (w.alloc (.cells vs t fr)) w.heap.size vs.toList := by
  refine ⟨by simp, fun i v hi => ?_⟩
  rw [cell_of_row _ _ _ vs t fr (heap_alloc_new w _)]
  simpa using hi
/-- some text of such, the drawer gone on. -/
def StrP (S : ByteArray → Prop) (R n : Nat) (w : World) (e : Ending) (w' : World) : Prop := ∃ u, S u ∧ e = .returned (.string u) ∧ Picked w R n w'
def IntP (S : Int → Prop) (R n : Nat) (w : World) (e : Ending) (w' : World) : Prop := ∃ v, S v ∧ e = .returned (.int .i64 v) ∧ Picked w R n w'

/-- the drawer opened. -/
def Opened (w : World) (e : Ending) (w' : World) : Prop := ∃ R, e = .returned (.pointer (some ⟨R, 0, none⟩)) ∧ w.heap.size ≤ R ∧ Rd w' R 0 ∧ Below w.heap.size w w'
theorem opened_new (w : World) (a : Option Addr) (len cap : Nat) (h : Code w w.heap.size a len) : Rd (w.alloc (.cells #[.slice a len cap, .int .i64 0] 69)) w.heap.size 0 :=
  ⟨a, len, cap, 0, Nat.le_refl _, heap_alloc_new w _, h.keeps (R := w.heap.size) (Keeps.of_below ((Below.refl _ w).alloc (Nat.le_refl _) _)) (Nat.le_refl _) (Nat.le_refl _)⟩
set_option maxHeartbeats 1000000 in
theorem l1Open_any (a : Option Addr) (len cap : Nat) (w : World) (h : Code w w.heap.size a len) (hcap : len ≤ cap) (hnil : a = none → len = 0) :
    Calls Try.prog 24 #[.slice a len cap] w (Opened w) := by
  have hlen := h.1
  unfold maxLen at hlen
  have hb : ∀ x, Below w.heap.size w (w.alloc x) := fun x => (Below.refl _ w).alloc (Nat.le_refl _) x
  by_cases h1 : 2000 < len
  · have hn2 := opened_new w a 2000 cap ⟨by decide, h.2.elim (fun e => absurd e (by omega)) (fun ⟨x, e, hx, hc⟩ => .inr ⟨x, e, hx, fun i hi => hc i (by omega)⟩)⟩
    have HN := Lib.hid hn2
    have HB := Lib.hid hb
    clear hn2 hb
    obtain ⟨x, rfl⟩ : ∃ x, a = some x := by
      cases a with
      | none => exact absurd (hnil rfl) (by omega)
      | some x => exact ⟨x, rfl⟩
    clear hnil
    go_enter Try.func24, Try.ntmps24
    go_wp2
    go_ret
    exact ⟨w.heap.size, rfl, Nat.le_refl _, HN.out, HB.out _⟩
  · have hn2 := opened_new w a len cap h
    have HN := Lib.hid hn2
    have HB := Lib.hid hb
    have HI := Lib.hid hnil
    clear hn2 hb hnil
    go_enter Try.func24, Try.ntmps24
    go_wp2
    go_ret
    exact ⟨w.heap.size, rfl, Nat.le_refl _, HN.out, HB.out _⟩
end Go.Proofs.Ytfiiopchfmcjdaa
