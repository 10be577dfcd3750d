/- Fields in memory; what fits a size; the two FieldsOk. -/
import Derived.Test.YtfgebmmnlneciaaDoorIn
import Derived.Test.YtfgebmmnlneciaaDoorMathLay
import Derived.Test.YtfgebmmnlneciaaDoorKeeps
namespace Go.Proofs.YtfgebmmnlneciaaDoor
open Go.RowKit
/-- a field's three cells. -/
structure FldAt (w : World) (p : Addr) (f : Fld) : Prop where
  c0 : w.cell? p = some (.int .i64 f.size)
  c1 : w.cell? ⟨p.block, p.off + 1, none⟩ = some (.bool f.choice)
  c2 : w.cell? ⟨p.block, p.off + 2, none⟩ = some (.int .i64 f.els)
/-- a slice that reads as fields. -/
def Flds (w : World) (A : Option Addr) (l : List Fld) : Prop :=
  l = [] ∨ ∃ x, A = some x ∧ x.block < w.heap.size ∧ ∀ k f, l[k]? = some f → FldAt w (x.add (k * 3)) f
theorem Flds.nil (w : World) (A : Option Addr) : Flds w A [] := .inl rfl
theorem FldAt.below {B : Nat} {w w' : World} {p : Addr} {f : Fld} (h : FldAt w p f) (hb : Below B w w') (hp : p.block < B) : FldAt w' p f :=
  ⟨(hb.cell (p := p) hp).trans h.c0, (hb.cell (p := ⟨p.block, p.off + 1, none⟩) hp).trans h.c1, (hb.cell (p := ⟨p.block, p.off + 2, none⟩) hp).trans h.c2⟩
theorem Flds.below {w w' : World} {A : Option Addr} {l : List Fld} (h : Flds w A l) (hb : Below w.heap.size w w') : Flds w' A l := by
  rcases h with h | ⟨x, rfl, hx, hc⟩
  · exact .inl h
  · exact .inr ⟨x, rfl, Nat.lt_of_lt_of_le hx hb.size, fun k f hk => (hc k f hk).below hb (by rw [addr_block]; exact hx)⟩
theorem Flds.at_ {w : World} {A : Option Addr} {l : List Fld} (h : Flds w A l) {k : Nat} (hk : k < l.length) : ∃ x, A = some x ∧ FldAt w (x.add (k * 3)) l[k] := by
  rcases h with h | ⟨x, rfl, hx, hc⟩
  · rw [h] at hk; exact absurd hk (Nat.not_lt_zero _)
  · exact ⟨x, rfl, hc k _ (List.getElem?_eq_getElem hk)⟩
def fitB (size n : Int) : Bool := if size = 6 then n == 0 else if size = 5 then true else decide (0 ≤ n ∧ n ≤ 2 ^ (bitsOf size).toNat - 1)
def fldOk (f : Fld) : Bool := inB f.size 1 6 && fitB f.size f.els
def fldsOk (l : List Fld) : Bool := l.all fldOk && decide (l.length ≤ 12)
def withB (n b : Int) : Bool := decide (0 ≤ n ∧ n < b)
set_option maxHeartbeats 400000 in
theorem within_any (n b : Int) (w : World) :
    Calls Tryd.prog 37 #[.int .i64 n, .int .i64 b] w fun e w' => e = .returned (.bool (withB n b)) ∧ w = w' := by
  by_cases h1 : 0 ≤ n
  all_goals
    go_enter Tryd.func37, Tryd.ntmps37
    go_wp2
    all_goals go_ret
    all_goals refine ⟨ret_bool ?_, rfl⟩
    all_goals (simp [withB]; try omega)
def bitsAll (n : Int) : Int := if n = 6 then 64 else bitsOf n
set_option maxHeartbeats 400000 in
theorem sizeBits_any (n : Int) (w : World) (h0 : 0 ≤ n) (h1 : n ≤ 6) :
    Calls Tryd.prog 38 #[.int .i64 n] w fun e w' => e = .returned (.int .i64 (bitsAll n)) ∧ w = w' := by
  have h : n = 0 ∨ n = 1 ∨ n = 2 ∨ n = 3 ∨ n = 4 ∨ n = 5 ∨ n = 6 := by omega
  rcases h with rfl | rfl | rfl | rfl | rfl | rfl | rfl
  all_goals
    go_enter Tryd.func38, Tryd.ntmps38
    go_wp2
    go_ret
    exact ⟨ret_int (by decide), rfl⟩
set_option maxHeartbeats 400000 in
theorem l2Bits_any (n : Int) (w : World) (h0 : 0 ≤ n) (h1 : n ≤ 6) :
    Calls Tryd.prog 36 #[.int .i64 n] w fun e w' => e = .returned (.int .i64 (bitsAll n)) ∧ Below w.heap.size w w' := by
  have h : n = 0 ∨ n = 1 ∨ n = 2 ∨ n = 3 ∨ n = 4 ∨ n = 5 ∨ n = 6 := by omega
  rcases h with rfl | rfl | rfl | rfl | rfl | rfl | rfl
  all_goals
    go_enter Tryd.func36, Tryd.ntmps36
    go_wp2
    go_ret
    exact ⟨ret_int (by decide), (Below.refl _ _).alloc (Nat.le_refl _) _⟩
theorem fit_in (a n b : Int) (h : b = 2 ^ (bitsOf a).toNat - 1) (h6 : a ≠ 6) (h5 : a ≠ 5) : inB n 0 b = fitB a n := by
  unfold inB fitB
  rw [if_neg h6, if_neg h5, h]
theorem fit_with (a n b : Int) (h : b = 2 ^ (bitsOf a).toNat) (h6 : a ≠ 6) (h5 : a ≠ 5) : withB n b = fitB a n := by
  unfold withB fitB
  rw [if_neg h6, if_neg h5, h, Bool.eq_iff_iff]
  simp only [decide_eq_true_eq]
  omega
set_option maxHeartbeats 1000000 in
theorem l7Fits_any (a n : Int) (w : World) (h0 : 1 ≤ a) (h1 : a ≤ 6) :
    Calls Tryd.prog 42 #[.int .i64 a, .int .i64 n] w fun e w' => e = .returned (.bool (fitB a n)) ∧ Below w.heap.size w w' := by
  have h : a = 6 ∨ a = 5 ∨ a = 1 ∨ a = 2 ∨ a = 3 ∨ a = 4 := by omega
  rcases h with rfl | rfl | h
  · go_enter Tryd.func42, Tryd.ntmps42
    go_wp2
    go_ret
    exact ⟨ret_bool rfl, Below.refl _ _⟩
  · go_enter Tryd.func42, Tryd.ntmps42
    go_wp2
    go_ret
    exact ⟨ret_bool rfl, Below.refl _ _⟩
  · rcases h with rfl | rfl | rfl | rfl
    all_goals
      go_enter Tryd.func42, Tryd.ntmps42
      go_wp2_with (first | (go_at_call 36; go_must (refine (l2Bits_any _ _ (by decide) (by decide)).mono ?_); rintro e w1 ⟨rfl, hb1⟩; simp only [show bitsAll 1 = 1 from rfl, show bitsAll 2 = 8 from rfl, show bitsAll 3 = 16 from rfl, show bitsAll 4 = 32 from rfl]) | (go_at_call 35; go_must (refine (l1In_any _ _ _ _).mono ?_); rintro e w2 ⟨rfl, rfl⟩))
      go_ret
      exact ⟨ret_bool (fit_in _ _ _ (by decide) (by decide) (by decide)), hb1⟩
set_option maxHeartbeats 1000000 in
theorem fitsSize_any (a n : Int) (w : World) (h0 : 1 ≤ a) (h1 : a ≤ 6) :
    Calls Tryd.prog 41 #[.int .i64 n, .int .i64 a] w fun e w' => e = .returned (.bool (fitB a n)) ∧ w = w' := by
  have h : a = 6 ∨ a = 5 ∨ a = 1 ∨ a = 2 ∨ a = 3 ∨ a = 4 := by omega
  rcases h with rfl | rfl | h
  · go_enter Tryd.func41, Tryd.ntmps41
    go_wp2
    go_ret
    exact ⟨ret_bool rfl, rfl⟩
  · go_enter Tryd.func41, Tryd.ntmps41
    go_wp2
    go_ret
    exact ⟨ret_bool rfl, rfl⟩
  · rcases h with rfl | rfl | rfl | rfl
    all_goals
      go_enter Tryd.func41, Tryd.ntmps41
      go_wp2_with (first | (go_at_call 38; go_must (refine (sizeBits_any _ _ (by decide) (by decide)).mono ?_); rintro e w1 ⟨rfl, rfl⟩; simp only [show bitsAll 1 = 1 from rfl, show bitsAll 2 = 8 from rfl, show bitsAll 3 = 16 from rfl, show bitsAll 4 = 32 from rfl]) | (go_at_call 37; go_must (refine (within_any _ _ _).mono ?_); rintro e w2 ⟨rfl, rfl⟩))
      go_ret
      exact ⟨ret_bool (fit_with _ _ _ (by decide) (by decide) (by decide)), rfl⟩
end Go.Proofs.YtfgebmmnlneciaaDoor
