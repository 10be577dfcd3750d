/- The numbers of a layout's places, as the laws on layouts meet them. -/
import Derived.Test.YtfgebmmnlneciaaDoorLayBits
import Derived.Test.YtfgebmmnlneciaaDoorQnLay
import Derived.Test.YtfgebmmnlneciaaDoorMathLay5
namespace Go.Proofs.YtfgebmmnlneciaaDoor
open Go.RowKit
theorem below_drewN {R : Nat} {w w' : World} (h : Below R w w') (k : Nat) : Below R w (w'.drewN k) := ⟨h.os, h.tape, h.output, h.size, h.block⟩
theorem bits_at {l : List Fld} (hok : fldsOk l = true) {k : Nat} (hk : k < l.length) (h6 : (l[k]).size ≠ 6) : layBits l k = (frF (l[k]).size (atF l k), toF (l[k]).size (atF l k)) := by
  unfold layBits
  have hw : withB k l.length = true := by simp [withB]; omega
  rw [if_pos (by rw [Int.toNat_natCast, getD_lt hk]; exact ⟨hok, hw, h6⟩), Int.toNat_natCast, getD_lt hk]
  rfl
theorem bits_at6 {l : List Fld} {k : Nat} (hk : k < l.length) (h6 : (l[k]).size = 6) : layBits l k = (0, 0) := by
  unfold layBits
  rw [if_neg (by rw [Int.toNat_natCast, getD_lt hk]; simp [h6])]
/-- the numbers of a place, with their bounds. -/
theorem at_le {l : List Fld} (hl : l.length ≤ 12) {k : Nat} (hk : k < l.length) : atF l k ≤ 2000 := by
  refine lay_bd_at l pbd0 (by omega) _ ?_
  rw [atF, List.getD, List.getElem?_eq_getElem (by rw [lay_length]; exact hk)]
  exact List.getElem_mem _
structure DatN (F T b : Int) : Prop where
  f0 : 0 ≤ F
  f1 : F ≤ 200000
  t1 : T ≤ 200000
  d : T - F = b
  b1 : 1 ≤ b
  b2 : b ≤ 64
  m : F.tmod (T - F) = 0
theorem dat_n {z : Int} (h1 : 1 ≤ z) (h2 : z ≤ 6) (h6 : z ≠ 6) {a : Nat} (ha : a ≤ 2000) : DatN (frF z a) (toF z a) (bitsOf z) := by
  obtain ⟨z0, z1, z2⟩ := fr_nn h1 h2 h6 a
  have e : toF z a = frF z a + bitsOf z := rfl
  have hb : frF z a ≤ 2000 * 64 := by
    unfold frF
    exact Int.mul_le_mul (by omega) z2 (by omega) (by omega)
  refine ⟨z0, by omega, by omega, by omega, z1, z2, ?_⟩
  rw [show toF z a - frF z a = bitsOf z by omega]
  unfold frF
  exact Int.mul_tmod_left _ _
theorem flds_all {w : World} {x : Addr} {l : List Fld} (h : Flds w (some x) l) : ∀ W, Below w.heap.size w W → ∀ k (hk : k < l.length), FldAt W (x.add (k * 3)) l[k] := fun W hb k hk => by
  obtain ⟨x', hx, hf⟩ := (h.below hb).at_ hk
  injection hx with hx
  subst hx
  exact hf
theorem slots_all {w : World} {y : Addr} {l : List Fld} (h : SlotsR w (some y) (layF l ps0).1) (hl : (layF l ps0).1.length = l.length) : ∀ W, Below w.heap.size w W → ∀ k (hk : k < l.length), W.cell? (y.add k) = some (.int .i64 (atF l k : Int)) := fun W hb k hk => by
  obtain ⟨y', hy, hf⟩ := (h.below hb).at_ (k := k) (by omega)
  injection hy with hy
  subst hy
  exact hf
theorem lay_nums (l : List Fld) (hl : l.length ≤ 12) : (layF l ps0).2.ls.words ≤ 1000 ∧ (layF l ps0).2.ptrs ≤ 1000 ∧ -1 ≤ (layF l ps0).2.tag ∧ (layF l ps0).2.tag ≤ 1000 := by
  have h := lay_bd l pbd0
  have h1 := h.ls.1
  have h2 := h.ptrs
  have h3 := h.tag
  omega
end Go.Proofs.YtfgebmmnlneciaaDoor
