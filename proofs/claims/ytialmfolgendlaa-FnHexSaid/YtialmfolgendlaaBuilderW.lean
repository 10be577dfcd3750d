/- strings.Builder's WriteByte. -/
import Derived.Test.YtialmfolgendlaaBuilder
namespace Go.Proofs.Ytialmfolgendlaa
open Go.RowKit
set_option maxHeartbeats 1000000 in
theorem writeByte_any (B b : Nat) (bs : List Value) (c : Int) (w : World) (h : Bld B b bs w) (hlen : bs.length ≤ 1099511627776) (hBw : B ≤ w.heap.size) :
    Calls Try.prog 56 #[.pointer (some ⟨b, 0, none⟩), .int .u8 c] w fun e w' => e = .returned .nilIface ∧ (Bld B b (bs ++ [.int .u8 c]) w' ∧ Keeps B b w w') := by
  obtain ⟨i0, hi, hz0, hz1, hz2⟩ := info_parts binfo5
  obtain ⟨v, hcc⟩ := copyCheck_any B b bs w h
  have HC := Lib.hid hcc
  clear hcc h
  go_enter Try.func56, Try.ntmps56
  go_wp2_with (first | (go_at_call 64; refine HC.out.mono ?_; rintro e w1 ⟨rfl, hS⟩; have hT := Lib.hid hS; have hsz := Nat.le_trans hBw (Nat.le_of_eq hS.2.2.2.symm); have c1 := (cell_pair hS.1).2; clear hS) | (at_builtin; refine wpList_append_own _ rfl _ _ 22 rfl B 5 i0 (.int .u8 0) 1 1 Try.underlying22 hi hz0 hz1 hz2 rfl (by decide) v _ _ rfl (hT.out.2.1.alloc _) ⟨w1.heap.size, 0, none⟩ 1 1 [.int .u8 c] rfl rfl (cell_one_new _ _ _) (by simp [Value.oneCell']) (by unfold maxLen; omega) (by omega) (by simp; omega) ?_; intro v' w2 hown' hgrow _; obtain ⟨h2, hU, hKp⟩ := hT.out.put (new := [.int .u8 c]) (alloc_keeps w1 _) hgrow (by rw [List.length_append]; exact hown'); have d1 := (cell_pair h2).2; have f1 := Lib.frozen_of_heap h2 1; obtain ⟨g, cap, rfl⟩ := own_form hown'; clear h2 hgrow))
  go_ret
  exact ⟨rfl, hU, hKp hsz⟩
end Go.Proofs.Ytialmfolgendlaa
