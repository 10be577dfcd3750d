/- impl's pointers: pointerOf, pointOf. -/
import Derived.Test.YtialmfolgendlabIn
namespace Go.Proofs.Ytialmfolgendlab
open Go.RowKit

/-- a Point as a value. -/
def ptv (k o d p s c g : Int) (t : Bool) : Value := .agg #[.int .i64 k, .int .i64 o, .int .i64 d, .int .i64 p, .int .i64 s, .int .i64 c, .int .i64 g, .bool t]
/-- the pointer of a Point's kind, as an interface value. -/
def ptif (k o d p s c g : Int) (t : Bool) : Value :=
  if k = 0 then .iface 86 (.agg #[]) else if k = 1 then .iface 88 (.agg #[.int .i64 o, .int .i64 d, .int .i64 p])
  else if k = 2 then .iface 90 (.agg #[.int .i64 o, .int .i64 s, .int .i64 c]) else if k = 3 then .iface 92 (.agg #[.int .i64 o, .int .i64 g, .bool t]) else .iface 93 (.agg #[])

theorem ret_val {a b : Value} (h : a = b) : Ending.returned a = .returned b := by rw [h]
set_option maxHeartbeats 1000000 in
theorem pointerOf_any (k o d p s c g : Int) (t : Bool) (w : World) :
    Calls Try.prog 37 #[ptv k o d p s c g t] w fun e w' => e = .returned (ptif k o d p s c g t) ∧ Below w.heap.size w w' := by
  unfold ptv
  by_cases h : k = 0 ∨ k = 1 ∨ k = 2 ∨ k = 3
  · rcases h with rfl | rfl | rfl | rfl
    all_goals
      go_enter Try.func37, Try.ntmps37
      go_wp2
      go_ret
      exact ⟨ret_val rfl, (Below.refl _ _).alloc (Nat.le_refl _) _⟩
  · have b0 : (k == 0) = false := by simp; omega
    have b1 : (k == 1) = false := by simp; omega
    have b2 : (k == 2) = false := by simp; omega
    have b3 : (k == 3) = false := by simp; omega
    have hf : ptif k o d p s c g t = .iface 93 (.agg #[]) := by
      simp only [beq_eq_false_iff_ne] at b0 b1 b2 b3
      simp [ptif, b0, b1, b2, b3]
    rw [hf]
    clear h hf
    go_enter Try.func37, Try.ntmps37
    go_wp2
    go_ret
    exact ⟨rfl, (Below.refl _ _).alloc (Nat.le_refl _) _⟩

/-- the Point of a pointer of this kind. -/
def ptof (k o d p s c g : Int) (t : Bool) : Value :=
  if k = 0 then ptv 0 0 0 0 0 0 0 false else if k = 1 then ptv 1 o d p 0 0 0 false else if k = 2 then ptv 2 o 0 0 s c 0 false else if k = 3 then ptv 3 o 0 0 0 0 g t else ptv 4 0 0 0 0 0 0 false
theorem ta_noP_noP (x : Value) (w : World) : (Instr.typeAssert (.iface 86 x) 58 86 true).run Try.prog w = .ok (.tuple #[x, .bool true]) w := by kernel_rfl
theorem ta_str_noP (x : Value) (w : World) : (Instr.typeAssert (.iface 88 x) 58 86 true).run Try.prog w = .ok (.tuple #[.agg #[], .bool false]) w := by kernel_rfl
theorem ta_str_str (x : Value) (w : World) : (Instr.typeAssert (.iface 88 x) 58 88 true).run Try.prog w = .ok (.tuple #[x, .bool true]) w := by kernel_rfl
theorem ta_lis_noP (x : Value) (w : World) : (Instr.typeAssert (.iface 90 x) 58 86 true).run Try.prog w = .ok (.tuple #[.agg #[], .bool false]) w := by kernel_rfl
theorem ta_lis_str (x : Value) (w : World) : (Instr.typeAssert (.iface 90 x) 58 88 true).run Try.prog w = .ok (.tuple #[.agg #[.int .i64 0, .int .i64 0, .int .i64 0], .bool false]) w := by kernel_rfl
theorem ta_lis_lis (x : Value) (w : World) : (Instr.typeAssert (.iface 90 x) 58 90 true).run Try.prog w = .ok (.tuple #[x, .bool true]) w := by kernel_rfl
theorem ta_far_noP (x : Value) (w : World) : (Instr.typeAssert (.iface 92 x) 58 86 true).run Try.prog w = .ok (.tuple #[.agg #[], .bool false]) w := by kernel_rfl
theorem ta_far_str (x : Value) (w : World) : (Instr.typeAssert (.iface 92 x) 58 88 true).run Try.prog w = .ok (.tuple #[.agg #[.int .i64 0, .int .i64 0, .int .i64 0], .bool false]) w := by kernel_rfl
theorem ta_far_lis (x : Value) (w : World) : (Instr.typeAssert (.iface 92 x) 58 90 true).run Try.prog w = .ok (.tuple #[.agg #[.int .i64 0, .int .i64 0, .int .i64 0], .bool false]) w := by kernel_rfl
theorem ta_far_far (x : Value) (w : World) : (Instr.typeAssert (.iface 92 x) 58 92 true).run Try.prog w = .ok (.tuple #[x, .bool true]) w := by kernel_rfl
theorem ta_bad_noP (x : Value) (w : World) : (Instr.typeAssert (.iface 93 x) 58 86 true).run Try.prog w = .ok (.tuple #[.agg #[], .bool false]) w := by kernel_rfl
theorem ta_bad_str (x : Value) (w : World) : (Instr.typeAssert (.iface 93 x) 58 88 true).run Try.prog w = .ok (.tuple #[.agg #[.int .i64 0, .int .i64 0, .int .i64 0], .bool false]) w := by kernel_rfl
theorem ta_bad_lis (x : Value) (w : World) : (Instr.typeAssert (.iface 93 x) 58 90 true).run Try.prog w = .ok (.tuple #[.agg #[.int .i64 0, .int .i64 0, .int .i64 0], .bool false]) w := by kernel_rfl
theorem ta_bad_far (x : Value) (w : World) : (Instr.typeAssert (.iface 93 x) 58 92 true).run Try.prog w = .ok (.tuple #[.agg #[.int .i64 0, .int .i64 0, .bool false], .bool false]) w := by kernel_rfl
set_option maxHeartbeats 1000000 in
set_option maxRecDepth 100000 in
theorem pointOf_noP (w : World) :
    Calls Try.prog 40 #[.iface 86 (.agg #[])] w fun e w' => e = .returned (ptv 0 0 0 0 0 0 0 false) ∧ Below w.heap.size w w' := by
  have hnoP := ta_noP_noP
  unfold ptv
  go_enter Try.func40, Try.ntmps40
  go_wp2
  exact bodyPost_ret (v := .agg #[.int .i64 0, .int .i64 0, .int .i64 0, .int .i64 0, .int .i64 0, .int .i64 0, .int .i64 0, .bool false]) (by simp [results, Try.results40, go_sem]) rfl ⟨rfl, by repeat (first | exact Below.refl _ _ | refine Below.alloc ?_ (by simp; try omega) _)⟩

set_option maxHeartbeats 1000000 in
set_option maxRecDepth 100000 in
theorem pointOf_str (o d p : Int) (w : World) :
    Calls Try.prog 40 #[.iface 88 (.agg #[.int .i64 o, .int .i64 d, .int .i64 p])] w fun e w' => e = .returned (ptv 1 o d p 0 0 0 false) ∧ Below w.heap.size w w' := by
  have hnoP := ta_str_noP
  have hstr := ta_str_str
  unfold ptv
  go_enter Try.func40, Try.ntmps40
  go_wp2
  exact bodyPost_ret (v := .agg #[.int .i64 1, .int .i64 o, .int .i64 d, .int .i64 p, .int .i64 0, .int .i64 0, .int .i64 0, .bool false]) (by simp [results, Try.results40, go_sem]) rfl ⟨rfl, by repeat (first | exact Below.refl _ _ | refine Below.alloc ?_ (by simp; try omega) _)⟩

set_option maxHeartbeats 1000000 in
set_option maxRecDepth 100000 in
theorem pointOf_lis (o d p : Int) (w : World) :
    Calls Try.prog 40 #[.iface 90 (.agg #[.int .i64 o, .int .i64 d, .int .i64 p])] w fun e w' => e = .returned (ptv 2 o 0 0 d p 0 false) ∧ Below w.heap.size w w' := by
  have hnoP := ta_lis_noP
  have hstr := ta_lis_str
  have hlis := ta_lis_lis
  unfold ptv
  go_enter Try.func40, Try.ntmps40
  go_wp2
  exact bodyPost_ret (v := .agg #[.int .i64 2, .int .i64 o, .int .i64 0, .int .i64 0, .int .i64 d, .int .i64 p, .int .i64 0, .bool false]) (by simp [results, Try.results40, go_sem]) rfl ⟨rfl, by repeat (first | exact Below.refl _ _ | refine Below.alloc ?_ (by simp; try omega) _)⟩

set_option maxHeartbeats 1000000 in
set_option maxRecDepth 100000 in
theorem pointOf_far (o d : Int) (t : Bool) (w : World) :
    Calls Try.prog 40 #[.iface 92 (.agg #[.int .i64 o, .int .i64 d, .bool t])] w fun e w' => e = .returned (ptv 3 o 0 0 0 0 d t) ∧ Below w.heap.size w w' := by
  have hnoP := ta_far_noP
  have hstr := ta_far_str
  have hlis := ta_far_lis
  have hfar := ta_far_far
  unfold ptv
  go_enter Try.func40, Try.ntmps40
  go_wp2
  exact bodyPost_ret (v := .agg #[.int .i64 3, .int .i64 o, .int .i64 0, .int .i64 0, .int .i64 0, .int .i64 0, .int .i64 d, .bool t]) (by simp [results, Try.results40, go_sem]) rfl ⟨rfl, by repeat (first | exact Below.refl _ _ | refine Below.alloc ?_ (by simp; try omega) _)⟩

set_option maxHeartbeats 1000000 in
set_option maxRecDepth 100000 in
theorem pointOf_bad (w : World) :
    Calls Try.prog 40 #[.iface 93 (.agg #[])] w fun e w' => e = .returned (ptv 4 0 0 0 0 0 0 false) ∧ Below w.heap.size w w' := by
  have hnoP := ta_bad_noP
  have hstr := ta_bad_str
  have hlis := ta_bad_lis
  have hfar := ta_bad_far
  unfold ptv
  go_enter Try.func40, Try.ntmps40
  go_wp2
  exact bodyPost_ret (v := .agg #[.int .i64 4, .int .i64 0, .int .i64 0, .int .i64 0, .int .i64 0, .int .i64 0, .int .i64 0, .bool false]) (by simp [results, Try.results40, go_sem]) rfl ⟨rfl, by repeat (first | exact Below.refl _ _ | refine Below.alloc ?_ (by simp; try omega) _)⟩
end Go.Proofs.Ytialmfolgendlab
