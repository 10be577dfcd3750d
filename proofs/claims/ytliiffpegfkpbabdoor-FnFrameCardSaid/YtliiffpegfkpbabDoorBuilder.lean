/- strings.Builder's copyCheck, WriteByte and String over this program: a builder that the call itself has made holds these bytes. -/
import Derived.Test.YtliiffpegfkpbabDoorIn
import Derived.Test.YtliiffpegfkpbabDoorKeeps
import Derived.Lib.Builder
import Derived.Lib.Strings
import Derived.Lib.UnsafeStr
import Derived.Laws.Externs
import Derived.OwnWalk
import Derived.Maps.AppendAt
import Derived.Deep.QuietTactic
import Derived.BigQuiet
namespace Go.Proofs.YtliiffpegfkpbabDoor
open Go.RowKit

theorem bsize : (Tryd.prog.info? 51).map (·.size) = some 2 := by kernel_rfl
theorem blies : liesAt Tryd.prog Tryd.prog.depth 51 (2 / Tryd.prog.cellsOf 51) 0 51 1 = true := by kernel_rfl
theorem binfo5 : (Tryd.prog.info? 5).map (fun i => (i.zero, i.size, i.bytes)) = some (some (.int .u8 0), 1, 1) := by kernel_rfl

set_option maxHeartbeats 1000000 in
theorem copyCheck_used (b : Nat) (w : World) (h0 : w.cell? ⟨b, 0, none⟩ = some (.pointer (some ⟨b, 0, none⟩))) :
    Calls Tryd.prog 51 #[.pointer (some ⟨b, 0, none⟩)] w fun e w' => e = .returned (.tuple #[]) ∧ w' = w := by
  obtain ⟨j, hj, _⟩ := Option.map_eq_some_iff.1 bsize
  have hne := Lib.run_neq_ptr_same (P := Tryd.prog) w (tp := 49) (te := 51) ⟨b, 0, none⟩ Tryd.underlying49 hj
  go_enter Tryd.func51, Tryd.ntmps51
  go_wp2
  go_end0
  exact ⟨rfl, rfl⟩

set_option maxHeartbeats 1000000 in
theorem copyCheck_fresh (b : Nat) (w : World) (h0 : w.cell? ⟨b, 0, none⟩ = some (.pointer none)) (hsh : w.shape? b = some (51, 2)) (hfz : w.frozen? ⟨b, 0, none⟩ = false) :
    Calls Tryd.prog 51 #[.pointer (some ⟨b, 0, none⟩)] w fun e w' => e = .returned (.tuple #[]) ∧ w' = w.setCell ⟨b, 0, none⟩ (.pointer (some ⟨b, 0, none⟩)) := by
  obtain ⟨j, hj, hjs⟩ := Option.map_eq_some_iff.1 bsize
  have hto := Lib.run_to_unsafe (P := Tryd.prog) w (src := 49) (dst := 86) (t := 51) ⟨b, 0, none⟩ Tryd.underlying49 Tryd.underlying86 hj (by rw [hjs]; decide) hsh (Nat.zero_lt_succ 1)
  have hfrom := Lib.run_from_unsafe (P := Tryd.prog) w (src := 86) (dst := 49) (u := 51) ⟨b, 0, none⟩ Tryd.underlying86 Tryd.underlying49 hj hsh blies
  have hesc : (callFunc 58 #[.pointer (some ⟨b, 0, none⟩)]).run Tryd.prog w = .ok (.value (.pointer (some ⟨b, 0, none⟩))) w := by
    rw [run_callFunc_extern Tryd.func58 (by kernel_rfl) (by kernel_rfl) (by kernel_rfl) (e := Extern.AbiNoEscape.same) (by kernel_rfl), Lib.run_noEscape]
    rfl
  go_enter Tryd.func51, Tryd.ntmps51
  go_wp2
  go_end0
  exact ⟨rfl, rfl⟩
/-- a builder in block b holds these bytes, its buffer lying from block B on. -/
def Bld (B b : Nat) (bs : List Value) (w : World) : Prop :=
  ∃ p v, (p = .pointer none ∨ p = .pointer (some ⟨b, 0, none⟩)) ∧ w.heap[b]? = some (.cells #[p, v] 51 (0, 0)) ∧ w.ownsRow B 5 1 v bs.length bs
theorem Bld.fresh {w : World} {b : Nat} (B : Nat) (h : w.heap[b]? = some (.cells #[.pointer none, .slice none 0 0] 51 (0, 0))) : Bld B b [] w :=
  ⟨_, _, .inl rfl, h, World.ownsRow_nil _ _ _ _⟩
/-- the library's word for it. -/
theorem Bld.is {B b B' : Nat} {bs : List Value} {w : World} (h : Bld B b bs w) (h1 : B' ≤ B) (h2 : B' ≤ b) : Lib.IsBuilder 51 5 B' b bs w := by
  obtain ⟨p, v, hp, hb, hown⟩ := h
  have hne := Lib.ownBlock_ne hown hb (by decide)
  have hown' : w.ownsRow B' 5 1 v bs.length bs := ⟨hown.1, hown.2.imp (fun x => x) (fun ⟨g, cap, cur, hv, hg, r⟩ => ⟨g, cap, cur, hv, Nat.le_trans h1 hg, r⟩)⟩
  rcases hp with rfl | rfl
  · exact .inl ⟨h2, v, hb, hown', hne⟩
  · exact .inr ⟨h2, v, hb, hown', hne⟩
theorem pair_set {w : World} {b : Nat} {p v q : Value} {T : TypeId} (h : w.heap[b]? = some (.cells #[p, v] T (0, 0))) : (w.setCell ⟨b, 0, none⟩ q).heap[b]? = some (.cells #[q, v] T (0, 0)) := by
  simp [World.setCell, Array.getElem?_modify, h]
theorem set_grown (w : World) (b i : Nat) (u : Value) : w.grownBy (w.setCell ⟨b, i, none⟩ u) (some b) :=
  ⟨rfl, rfl, rfl, by simp [World.setCell], fun k _ hk => Below.heap_setCell w ⟨b, i, none⟩ u k (fun e => hk (by rw [e]))⟩
/-- behind copyCheck: the builder knows its own place. -/
def Self (B b : Nat) (v : Value) (bs : List Value) (w0 w : World) : Prop :=
  w.heap[b]? = some (.cells #[.pointer (some ⟨b, 0, none⟩), v] 51 (0, 0)) ∧ w.ownsRow B 5 1 v bs.length bs ∧ Keeps B b w0 w ∧ w.heap.size = w0.heap.size
theorem copyCheck_any (B b : Nat) (bs : List Value) (w : World) (h : Bld B b bs w) :
    ∃ v, Calls Tryd.prog 51 #[.pointer (some ⟨b, 0, none⟩)] w fun e w' => e = .returned (.tuple #[]) ∧ Self B b v bs w w' := by
  obtain ⟨p, v, hp, hb, hown⟩ := h
  have hne := Lib.ownBlock_ne hown hb (by decide)
  obtain ⟨c0, _⟩ := cell_pair hb
  rcases hp with rfl | rfl
  · refine ⟨v, (copyCheck_fresh b w c0 (by simp [World.shape?, hb]) (Lib.frozen_of_heap hb 0)).mono ?_⟩
    rintro e w' ⟨rfl, rfl⟩
    exact ⟨rfl, pair_set hb, hown.kept (set_grown w b 0 _) (.inr hne), set_keeps B b w 0 _, by simp [World.setCell]⟩
  · refine ⟨v, (copyCheck_used b w c0).mono ?_⟩
    rintro e w' ⟨rfl, rfl⟩
    exact ⟨rfl, hb, hown, Keeps.refl _ _ _, rfl⟩

/-- behind an append to the builder's bytes. -/
theorem Self.put {B b : Nat} {bs new : List Value} {v v' : Value} {w0 w1 w2 : World} (h : Self B b v bs w0 w1) {wx : World} (hx : Keeps w1.heap.size w1.heap.size w1 wx) (hg : wx.grownBy w2 v.ownBlock) (hown : w2.ownsRow B 5 1 v' (bs ++ new).length (bs ++ new)) :
    w2.heap[b]? = some (.cells #[.pointer (some ⟨b, 0, none⟩), v] 51 (0, 0)) ∧ Bld B b (bs ++ new) (w2.setCell ⟨b, 1, none⟩ v') ∧ (B ≤ w1.heap.size → Keeps B b w0 (w2.setCell ⟨b, 1, none⟩ v')) := by
  obtain ⟨hb, ho, hk, _⟩ := h
  have hne := Lib.ownBlock_ne ho hb (by decide)
  have hlt : b < w1.heap.size := by
    rcases Nat.lt_or_ge b w1.heap.size with hlt | hge
    · exact hlt
    · rw [Array.getElem?_eq_none hge] at hb; cases hb
  have h2 : w2.heap[b]? = some (.cells #[.pointer (some ⟨b, 0, none⟩), v] 51 (0, 0)) :=
    (hg.block b (Nat.lt_of_lt_of_le hlt hx.size) (Ne.symm hne)).trans ((hx.block b hlt (by omega)).trans hb)
  have hne2 := Lib.ownBlock_ne hown h2 (by decide)
  refine ⟨h2, ⟨_, _, .inr rfl, pair_set1 h2, hown.kept (set_grown w2 b 1 _) (.inr hne2)⟩, fun hB => hk.trans ?_⟩
  refine Keeps.trans (c := w2) ⟨hg.os.trans hx.os, hg.tape.trans hx.tape, hg.output.trans hx.output, Nat.le_trans hx.size hg.size, fun k hk' hn => ?_⟩ (set_keeps B b w2 1 _)
  refine (hg.block k (Nat.lt_of_lt_of_le (Nat.lt_of_lt_of_le hk' hB) hx.size) (fun e => ?_)).trans (hx.block k (by omega) (by omega))
  have := (ho.lt k e.symm).1
  omega
theorem alloc_keeps (w : World) (x : Obj) : Keeps w.heap.size w.heap.size w (w.alloc x) := Keeps.of_below ((Below.refl _ w).alloc (Nat.le_refl _) x)
theorem own_form {w : World} {B e n : Nat} {v : Value} {xs : List Value} (h : w.ownsRow B e 1 v (n + 1) xs) : ∃ g cap, v = .slice (some ⟨g, 0, none⟩) (n + 1) cap :=
  h.2.elim (fun h0 => absurd h0.2 (by omega)) (fun ⟨g, cap, _, hv, _⟩ => ⟨g, cap, hv⟩)

end Go.Proofs.YtliiffpegfkpbabDoor
