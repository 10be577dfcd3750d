/- impl's pointers: whether each fits. -/
import Derived.Test.YtialmfolgendlabPoint
import Derived.Test.YtialmfolgendlabListWords
import Derived.Deep.RegionLaw
import Derived.Deep.RegionWith
import Derived.Deep.DeepMust
namespace Go.Proofs.Ytialmfolgendlab
open Go.RowKit

set_option maxHeartbeats 400000 in
theorem offFits_any (n : Int) (w : World) :
    Calls Try.prog 94 #[.int .i64 n] w fun e w' => e = .returned (.bool (inB n (-536870912) 536870911)) ∧ w = w' := by
  by_cases h1 : -536870912 ≤ n
  all_goals
    go_enter Try.func94, Try.ntmps94
    go_wp2
    all_goals go_ret
    all_goals refine ⟨ret_bool ?_, rfl⟩
    all_goals (rw [Bool.eq_iff_iff]; simp [inB]; try omega)

theorem fits_non (w : World) : Calls Try.prog 90 #[.agg #[]] w fun e w' => e = .returned (.bool true) ∧ Below w.heap.size w w' := by
  go_enter Try.func90, Try.ntmps90
  go_wp2
  go_ret
  exact ⟨rfl, by repeat (first | exact Below.refl _ _ | refine Below.alloc ?_ (by simp; try omega) _)⟩
theorem fits_bad (w : World) : Calls Try.prog 100 #[.agg #[]] w fun e w' => e = .returned (.bool false) ∧ Below w.heap.size w w' := by
  go_enter Try.func100, Try.ntmps100
  go_wp2
  go_ret
  exact ⟨rfl, by repeat (first | exact Below.refl _ _ | refine Below.alloc ?_ (by simp; try omega) _)⟩
set_option maxHeartbeats 1000000 in
theorem fits_lis (o s c : Int) (w : World) : Calls Try.prog 96 #[.agg #[.int .i64 o, .int .i64 s, .int .i64 c]] w fun e w' => e = .returned (.bool (inB o (-536870912) 536870911 && (withB s 8 && withB c 536870912))) ∧ Below w.heap.size w w' := by
  cases h1 : inB o (-536870912) 536870911 <;> cases h2 : withB s 8
  all_goals
    go_enter Try.func96, Try.ntmps96
    go_wp2_with (first | (go_at_call 94; refine (offFits_any _ _).mono ?_; rintro e w' ⟨rfl, rfl⟩) | (go_at_call 50; refine (within_any _ _ _).mono ?_; rintro e w' ⟨rfl, rfl⟩))
    go_ret
    exact ⟨ret_bool (by simp), by repeat (first | exact Below.refl _ _ | refine Below.alloc ?_ (by simp; try omega) _)⟩
set_option maxHeartbeats 1000000 in
theorem fits_far (o g : Int) (t : Bool) (w : World) : Calls Try.prog 98 #[.agg #[.int .i64 o, .int .i64 g, .bool t]] w fun e w' => e = .returned (.bool (withB o 536870912 && withB g 4294967296)) ∧ Below w.heap.size w w' := by
  cases h1 : withB o 536870912
  all_goals
    go_enter Try.func98, Try.ntmps98
    go_wp2_with (first | (go_at_call 50; refine (within_any _ _ _).mono ?_; rintro e w' ⟨rfl, rfl⟩))
    go_ret
    exact ⟨ret_bool (by simp), by repeat (first | exact Below.refl _ _ | refine Below.alloc ?_ (by simp; try omega) _)⟩
def zer3 (o d p : Int) : Bool := decide (o = 0 ∧ d = 0 ∧ p = 0)
set_option maxHeartbeats 1000000 in
theorem fits_str (o d p : Int) (w : World) : Calls Try.prog 92 #[.agg #[.int .i64 o, .int .i64 d, .int .i64 p]] w fun e w' => e = .returned (.bool (inB o (-536870912) 536870911 && (withB d 65536 && (withB p 65536 && !(zer3 o d p))))) ∧ Below w.heap.size w w' := by
  cases h1 : inB o (-536870912) 536870911 <;> cases h2 : withB d 65536 <;> cases h3 : withB p 65536
  all_goals
    go_enter Try.func92, Try.ntmps92
    go_wp2_with (first | (go_at_call 94; refine (offFits_any _ _).mono ?_; rintro e w' ⟨rfl, rfl⟩) | (go_at_call 50; refine (within_any _ _ _).mono ?_; rintro e w' ⟨rfl, rfl⟩))
    all_goals go_ret
    all_goals exact ⟨ret_bool (by simp [zer3, *]), by repeat (first | exact Below.refl _ _ | refine Below.alloc ?_ (by simp; try omega) _)⟩
/-- a pointer's kind has this only. -/
def fitsOf (k o d p s c g : Int) (_t : Bool) : Bool :=
  if k = 0 then true else if k = 1 then inB o (-536870912) 536870911 && (withB d 65536 && (withB p 65536 && !(zer3 o d p)))
  else if k = 2 then inB o (-536870912) 536870911 && (withB s 8 && withB c 536870912) else if k = 3 then withB o 536870912 && withB g 4294967296 else false
/-- what its kind has not is 0. -/
def restOf (k o d p s c g : Int) (t : Bool) : Bool :=
  if k = 0 then decide (o = 0 ∧ d = 0 ∧ p = 0 ∧ s = 0 ∧ c = 0 ∧ g = 0 ∧ t = false) else if k = 1 then decide (s = 0 ∧ c = 0 ∧ g = 0 ∧ t = false)
  else if k = 2 then decide (d = 0 ∧ p = 0 ∧ g = 0 ∧ t = false) else if k = 3 then decide (d = 0 ∧ p = 0 ∧ s = 0 ∧ c = 0) else decide (k = 4 ∧ o = 0 ∧ d = 0 ∧ p = 0 ∧ s = 0 ∧ c = 0 ∧ g = 0 ∧ t = false)
def ptOk (k o d p s c g : Int) (t : Bool) : Bool := restOf k o d p s c g t && fitsOf k o d p s c g t

theorem cells8 {w : World} {b : Nat} {a0 a1 a2 a3 a4 a5 a6 a7 : Value} {T : TypeId} (h : w.heap[b]? = some (.cells #[a0, a1, a2, a3, a4, a5, a6, a7] T (0, 0))) :
    w.cell? ⟨b, 0, none⟩ = some a0 ∧ w.cell? ⟨b, 1, none⟩ = some a1 ∧ w.cell? ⟨b, 2, none⟩ = some a2 ∧ w.cell? ⟨b, 3, none⟩ = some a3 ∧ w.cell? ⟨b, 4, none⟩ = some a4 ∧ w.cell? ⟨b, 5, none⟩ = some a5 ∧ w.cell? ⟨b, 6, none⟩ = some a6 ∧ w.cell? ⟨b, 7, none⟩ = some a7 := by
  simp [World.cell?, h]
theorem kept8 {w w' : World} {b : Nat} {o : Obj} (h : w.heap[b]? = some o) (hb : Below w.heap.size w w') : w'.heap[b]? = some o := by
  have hlt : b < w.heap.size := by
    rcases Nat.lt_or_ge b w.heap.size with hlt | hge
    · exact hlt
    · rw [Array.getElem?_eq_none hge] at h; cases h
  exact (hb.block b hlt).trans h
/-- two Points are the same. -/
def eqP (k o d p s c g : Int) (t : Bool) (k' o' d' p' s' c' g' : Int) (t' : Bool) : Bool := decide (k = k' ∧ o = o' ∧ d = d' ∧ p = p' ∧ s = s' ∧ c = c' ∧ g = g' ∧ t = t')
theorem ite_chain {a : Prop} [Decidable a] (b : Bool) (w : World) : (if a then Result.ok (Value.bool b) w else Result.ok (Value.bool false) w) = Result.ok (Value.bool (decide a && b)) w := by
  by_cases h : a <;> simp [h]
set_option maxHeartbeats 1000000 in
set_option maxRecDepth 100000 in
theorem eql_pt (k o d p s c g : Int) (t : Bool) (k' o' d' p' s' c' g' : Int) (t' : Bool) (w : World) :
    (binOp .eql 24 (ptv k o d p s c g t) (ptv k' o' d' p' s' c' g' t')).run Try.prog w = .ok (.bool (eqP k o d p s c g t k' o' d' p' s' c' g' t')) w := by
  unfold ptv eqP
  rw [run_eql_struct]
  go_simp
  simp only [ite_chain, Bool.and_true]
theorem guard_pt (x y : Operand) (k o d p s c g : Int) (t : Bool) (k' o' d' p' s' c' g' : Int) (t' : Bool) (w : World) :
    (eqGuard .eql 24 x y (ptv k o d p s c g t) (ptv k' o' d' p' s' c' g' t')).run Try.prog w = .ok () w := run_eqGuard_agg w _ _ _ _ _ _ (by kernel_rfl)
end Go.Proofs.Ytialmfolgendlab
