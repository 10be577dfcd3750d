/- The laws' comparison of layouts: two that are the same. -/
import Derived.Test.YtfgebmmnlneciaaDoorLayBits
import Derived.Deep.RegionWith
import Derived.Laws.StructEq
namespace Go.Proofs.YtfgebmmnlneciaaDoor
open Go.RowKit
/-- slots as they are read. -/
def SlotsR (w : World) (A : Option Addr) (sl : List Nat) : Prop := sl = [] ∨ ∃ x, A = some x ∧ x.block < w.heap.size ∧ ∀ k, k < sl.length → w.cell? (x.add k) = some (.int .i64 ((sl.getD k 0 : Nat) : Int))
theorem SlotsR.below {w w' : World} {A : Option Addr} {sl : List Nat} (h : SlotsR w A sl) (hb : Below w.heap.size w w') : SlotsR w' A sl := by
  rcases h with h | ⟨x, rfl, hx, hc⟩
  · exact .inl h
  · exact .inr ⟨x, rfl, Nat.lt_of_lt_of_le hx hb.size, fun k hk => (hb.cell (p := x.add k) (by rw [addr_block]; exact hx)).trans (hc k hk)⟩
theorem SlotsR.of_own {w : World} {B : Nat} {A : Option Addr} {cap n : Nat} {sl : List Nat} (h : w.ownsRow B slotT 1 (.slice A n cap) sl.length (slotCells sl)) : SlotsR w A sl := by
  by_cases h0 : sl.length = 0
  · exact .inl (List.eq_nil_of_length_eq_zero h0)
  · obtain ⟨-, x, rfl, hx⟩ := slots_at h (k := 0) (by omega)
    refine .inr ⟨x, rfl, ?_, fun k hk => ?_⟩
    · have := World.block_lt_of_cell? w _ hx
      rwa [addr_block] at this
    · obtain ⟨-, y, he, hy⟩ := slots_at h hk
      injection he with he
      subst he
      exact hy
theorem SlotsR.nil (w : World) (A : Option Addr) : SlotsR w A [] := .inl rfl
theorem SlotsR.at_ {w : World} {A : Option Addr} {sl : List Nat} (h : SlotsR w A sl) {k : Nat} (hk : k < sl.length) : ∃ x, A = some x ∧ w.cell? (x.add k) = some (.int .i64 ((sl.getD k 0 : Nat) : Int)) := by
  rcases h with h | ⟨x, rfl, hx, hc⟩
  · rw [h] at hk; exact absurd hk (Nat.not_lt_zero _)
  · exact ⟨x, rfl, hc k hk⟩
set_option maxHeartbeats 1000000 in
theorem slot_neq (a : Int) (w : World) : (binOp .neq slotT (.agg #[.int .i64 a]) (.agg #[.int .i64 a])).run Tryd.prog w = .ok (.bool false) w := by
  rw [run_neq_struct]
  go_simp
theorem guard_slot (x y : Operand) (a b : Int) (w : World) : (eqGuard .neq slotT x y (.agg #[.int .i64 a]) (.agg #[.int .i64 b])).run Tryd.prog w = .ok () w := run_eqGuard_agg w _ _ _ _ _ _ (by kernel_rfl)
set_option maxHeartbeats 4000000 in
set_option maxRecDepth 100000 in
theorem qnLayout_any (A B : Option Addr) (c c' : Nat) (sl : List Nat) (d p t : Int) (w : World) (h : SlotsR w A sl) (h' : SlotsR w B sl) (hl : sl.length ≤ 2000) :
    Calls Tryd.prog 23 #[.agg #[.int .i64 d, .int .i64 p, .slice A sl.length c, .int .i64 t], .agg #[.int .i64 d, .int .i64 p, .slice B sl.length c', .int .i64 t]] w fun e w' => e = .returned (.bool true) ∧ Below w.heap.size w w' := by
  have HF := Lib.hid h
  have HG := Lib.hid h'
  clear h h'
  go_enter Tryd.func23, Tryd.ntmps23
  go_wp2
  go_loopw [5] (fun i wr => ∃ k : Nat, i = .int .i64 k ∧ k ≤ sl.length ∧ Hid (Below (w.heap.size + 2) ((w.alloc (.cells #[.int .i64 d, .int .i64 p, .slice A sl.length c, .int .i64 t] 26)).alloc (.cells #[.int .i64 d, .int .i64 p, .slice B sl.length c', .int .i64 t] 26)) wr)) (fun i _ => sl.length - (intOf i).toNat)
  case atStart => exact ⟨0, rfl, by omega, Lib.hid (Below.refl _ _)⟩
  case round =>
    obtain ⟨k, rfl, hk, HB⟩ := hrel
    have hb0 : Below w.heap.size w ((w.alloc (.cells #[.int .i64 d, .int .i64 p, .slice A sl.length c, .int .i64 t] 26)).alloc (.cells #[.int .i64 d, .int .i64 p, .slice B sl.length c', .int .i64 t] 26)) := ((Below.refl _ _).alloc (Nat.le_refl _) _).alloc (by simp) _
    have HBW := Lib.hid (hb0.trans (HB.out.mono (by omega)))
    have k1 : wr.heap[w.heap.size]? = some (.cells #[.int .i64 d, .int .i64 p, .slice A sl.length c, .int .i64 t] 26 (0, 0)) := (HB.out.block w.heap.size (by omega)).trans ((Below.heap_alloc _ _ _ (by simp)).trans (heap_alloc_new w _))
    have k2 : wr.heap[w.heap.size + 1]? = some (.cells #[.int .i64 d, .int .i64 p, .slice B sl.length c', .int .i64 t] 26 (0, 0)) := (HB.out.block (w.heap.size + 1) (by omega)).trans (by
      have := heap_alloc_new (w.alloc (.cells #[.int .i64 d, .int .i64 p, .slice A sl.length c, .int .i64 t] 26)) (.cells #[.int .i64 d, .int .i64 p, .slice B sl.length c', .int .i64 t] 26)
      rw [show (w.alloc (.cells #[.int .i64 d, .int .i64 p, .slice A sl.length c, .int .i64 t] 26)).heap.size = w.heap.size + 1 by simp] at this
      exact this)
    have a2 := (cells4 k1).2.2.1
    have b2 := (cells4 k2).2.2.1
    clear k1 k2 hb0
    by_cases hlt : k < sl.length
    · obtain ⟨x, rfl, hx⟩ := (HF.out.below HBW.out).at_ hlt
      obtain ⟨y, rfl, hy⟩ := (HG.out.below HBW.out).at_ hlt
      have hne := slot_neq
      have hgd := guard_slot
      have hk2 : (k : Int) < (sl.length : Int) := by omega
      generalize ((sl.getD k 0 : Nat) : Int) = v at hx hy
      go_wp2
      go_region
      all_goals
        go_wp2
        go_roundw
        case rel => exact ⟨k + 1, by go_num, by omega, Lib.hid (HB.out.trans ⟨rfl, rfl, rfl, Nat.le_refl _, fun _ _ => rfl⟩)⟩
        case measure => simp [intOf]; omega
    · obtain rfl : k = sl.length := by omega
      go_wp2
      go_ret
      exact ⟨rfl, HBW.out⟩
end Go.Proofs.YtfgebmmnlneciaaDoor
