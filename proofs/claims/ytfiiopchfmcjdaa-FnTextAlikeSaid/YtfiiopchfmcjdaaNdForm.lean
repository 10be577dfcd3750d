/- Which parts a node has. -/
import Derived.Test.YtfiiopchfmcjdaaNdEq
namespace Go.Proofs.Ytfiiopchfmcjdaa
open Go.RowKit
/-- all parts are 0 or empty. -/
def noneB (d : ByteArray) (lp : Nat) (s c : Int) (li : Nat) : Bool := d.size == 0 && lp == 0 && s == 0 && c == 0 && li == 0
theorem loop_length (d : ByteArray) (i : Nat) (r : List UInt8) : (ByteArray.toList.loop d i r).length = r.length + (d.size - i) := by
  fun_induction ByteArray.toList.loop d i r with
  | case1 i r h ih => rw [ih]; simp only [List.length_cons]; omega
  | case2 i r h => simp only [List.length_reverse]; omega
theorem toList_isEmpty (d : ByteArray) : d.toList.isEmpty = (d.size == 0) := by
  have h := loop_length d 0 []
  simp only [List.length_nil] at h
  unfold ByteArray.toList
  rw [Bool.eq_iff_iff, List.isEmpty_iff, ← List.length_eq_zero_iff, h]
  simp
theorem toList_nil (d : ByteArray) : d.toList = [] ↔ d.size = 0 := by
  have := toList_isEmpty d
  rw [Bool.eq_iff_iff] at this
  simpa using this
set_option maxHeartbeats 1000000 in
theorem isNothing_any (k s c : Int) (d : ByteArray) (A B : Option Addr) (lp cp li ci : Nat) (w : World) :
    Calls Try.prog 72 #[.agg #[.int .i64 k, .string d, .slice A lp cp, .int .i64 s, .int .i64 c, .slice B li ci]] w fun e w' => e = .returned (.bool (noneB d lp s c li)) ∧ Below w.heap.size w w' := by
  have HE := toList_isEmpty d
  have HD : Hid (noneB d lp s c li = decide (d.size = 0 ∧ lp = 0 ∧ s = 0 ∧ c = 0 ∧ li = 0)) := Lib.hid (by rw [Bool.eq_iff_iff]; simp [noneB, and_assoc])
  go_enter Try.func72, Try.ntmps72
  go_wp2
  all_goals go_ret
  all_goals refine ⟨ret_bool ?_, (Below.refl _ _).alloc (Nat.le_refl _) _⟩
  all_goals (rw [HD.out, Bool.eq_iff_iff]; simp_all)
/-- the parts of a struct. -/
def structB (k : Int) (d : ByteArray) (s c : Int) (li : Nat) : Bool := decide (k = 1 ∧ (d.size : Int) % 8 = 0 ∧ s = 0 ∧ c = 0 ∧ li = 0)
set_option maxHeartbeats 1000000 in
theorem isStruct_any (k s c : Int) (d : ByteArray) (A B : Option Addr) (lp cp li ci : Nat) (w : World) :
    Calls Try.prog 73 #[.agg #[.int .i64 k, .string d, .slice A lp cp, .int .i64 s, .int .i64 c, .slice B li ci]] w fun e w' => e = .returned (.bool (structB k d s c li)) ∧ Below w.heap.size w w' := by
  have HD : Hid (noneB ByteArray.empty 0 s c li = decide (s = 0 ∧ c = 0 ∧ li = 0)) := Lib.hid (by rw [Bool.eq_iff_iff]; simp [noneB, and_assoc])
  have HS : Hid (structB k d s c li = (decide (k = 1) && (decide ((d.size : Int) % 8 = 0) && noneB ByteArray.empty 0 s c li))) := Lib.hid (by rw [HD.out, Bool.eq_iff_iff]; simp [structB])
  clear HD
  by_cases hk : k = 1
  all_goals
    by_cases h8 : (d.size : Int) % 8 = 0
    all_goals
      go_enter Try.func73, Try.ntmps73
      go_wp2_with (go_at_call 72; go_must (refine (isNothing_any _ _ _ _ _ _ _ _ _ _ _).mono ?_); rintro e w2 ⟨rfl, hb2⟩)
      go_ret
      refine ⟨ret_bool (by rw [HS.out]; simp [hk, h8] <;> rfl), ?_⟩
      first
      | exact (((Below.refl _ w).alloc (Nat.le_refl _) _).alloc (by simp) _).trans (hb2.mono (by simp; omega))
      | exact ((Below.refl _ w).alloc (Nat.le_refl _) _).alloc (by simp) _
set_option maxHeartbeats 1000000 in
theorem l4Struct_any (k s c : Int) (d : ByteArray) (A B : Option Addr) (lp cp li ci : Nat) (w : World) :
    Calls Try.prog 54 #[.agg #[.int .i64 k, .string d, .slice A lp cp, .int .i64 s, .int .i64 c, .slice B li ci]] w fun e w' => e = .returned (.bool (structB k d s c li)) ∧ Below w.heap.size w w' := by
  have HS : Hid (structB k d s c li = decide (k = 1 ∧ (d.size : Int) % 8 = 0 ∧ s = 0 ∧ c = 0 ∧ li = 0)) := Lib.hid rfl
  go_enter Try.func54, Try.ntmps54
  go_wp2
  all_goals go_ret
  all_goals refine ⟨ret_bool ?_, (Below.refl _ _).alloc (Nat.le_refl _) _⟩
  all_goals (rw [HS.out, Bool.eq_iff_iff]; simp_all)
end Go.Proofs.Ytfiiopchfmcjdaa
