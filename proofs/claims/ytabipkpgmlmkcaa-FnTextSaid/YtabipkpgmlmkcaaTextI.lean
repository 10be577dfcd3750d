/- The program's TextNode. -/
import Derived.Test.YtabipkpgmlmkcaaTextD
import Derived.Test.YtabipkpgmlmkcaaShelf
import Derived.Lib.IndexAny
namespace Go.Proofs.Ytabipkpgmlmkcaa
open Go.RowKit
set_option maxHeartbeats 1000000 in
theorem implTextNode_a (t : ByteArray) (w : World) (ht : t.size ≤ 2000000) :
    Calls Try.prog 24 #[.string t] w fun e w' => e = .returned (ndV (textN t) noHd) ∧ Below w.heap.size w w' := by
  have HB0 := Lib.hid ((Below.refl w.heap.size w).alloc (Nat.le_refl _) (.cells #[.int .i64 0, .string { data := #[] }, .slice none 0 0, .int .i64 0, .int .i64 0, .slice none 0 0] nodeT))
  have HROW := Lib.hid (heap_alloc_new w (.cells #[.int .i64 0, .string { data := #[] }, .slice none 0 0, .int .i64 0, .int .i64 0, .slice none 0 0] nodeT))
  obtain ⟨z0, z1, z2, z3, z4, z5⟩ := cells6 HROW.out
  have zf := row_free HROW.out
  have HC : Hid (∀ W : World, Calls Try.prog 47 #[.string t, .string ⟨#[0]⟩] W fun e w' => e = .returned (.bool (hasZ t)) ∧ w' = W) := Lib.hid fun W => by
    have := Try.strings_Contains_one t 0 W
    rw [← Lib.contains_iff_indexByte] at this
    exact this
  have hwr : IntKind.i64.wrap ((t.size : Int) + 1) = (t.size : Int) + 1 := by rw [IntKind.wrap_i64]; omega
  by_cases hlong : 100 < t.size
  · have HT : Hid (textB t = true) := Lib.hid (by unfold textB; rw [decide_eq_true hlong, Bool.or_true])
    go_enter Try.func24, Try.ntmps24
    go_wp2_with fail
    obtain ⟨e0, e1, e2, e3, e4, e5⟩ := cells6 (heap_alloc_new w (.cells #[.int .i64 0, .string ⟨#[]⟩, .slice none 0 0, .int .i64 0, .int .i64 0, .slice none 0 0] nodeT))
    have hbf := (Below.refl w.heap.size w).alloc (Nat.le_refl _) (.cells #[.int .i64 0, .string ⟨#[]⟩, .slice none 0 0, .int .i64 0, .int .i64 0, .slice none 0 0] nodeT)
    refine bodyPost_ret (v := .agg #[.int .i64 0, .string ⟨#[]⟩, .slice none 0 0, .int .i64 0, .int .i64 0, .slice none 0 0]) (by simp [results, Try.results24, go_sem, e0, e1, e2, e3, e4, e5]) rfl ⟨by rw [textN_no HT.out], hbf⟩
  cases hz : hasZ t
  · have HT : Hid (textB t = false) := Lib.hid (by unfold textB; rw [hz, decide_eq_false hlong]; rfl)
    rw [hz] at HC
    clear hz
    go_enter Try.func24, Try.ntmps24
    go_wp2_with fail
    refine (HC.out _).mono ?_
    rintro e w2 ⟨rfl, rfl⟩
    go_wp2_with fail
    obtain ⟨e0, e1, e2, e3, e4, e5⟩ := cells6 (heap_alloc_new w (.cells #[.int .i64 2, .string (t ++ ⟨#[0]⟩), .slice none 0 0, .int .i64 2, .int .i64 ((t.size : Int) + 1), .slice none 0 0] nodeT))
    have hbf := (Below.refl w.heap.size w).alloc (Nat.le_refl _) (.cells #[.int .i64 2, .string (t ++ ⟨#[0]⟩), .slice none 0 0, .int .i64 2, .int .i64 ((t.size : Int) + 1), .slice none 0 0] nodeT)
    refine bodyPost_ret (v := .agg #[.int .i64 2, .string (t ++ ⟨#[0]⟩), .slice none 0 0, .int .i64 2, .int .i64 ((t.size : Int) + 1), .slice none 0 0]) (by simp [results, Try.results24, go_sem, e0, e1, e2, e3, e4, e5]) rfl ⟨by rw [textN_yes HT.out], hbf⟩
  · have HT : Hid (textB t = true) := Lib.hid (by unfold textB; rw [hz]; rfl)
    rw [hz] at HC
    clear hz
    go_enter Try.func24, Try.ntmps24
    go_wp2_with fail
    refine (HC.out _).mono ?_
    rintro e w2 ⟨rfl, rfl⟩
    go_wp2_with fail
    obtain ⟨e0, e1, e2, e3, e4, e5⟩ := cells6 (heap_alloc_new w (.cells #[.int .i64 0, .string ⟨#[]⟩, .slice none 0 0, .int .i64 0, .int .i64 0, .slice none 0 0] nodeT))
    have hbf := (Below.refl w.heap.size w).alloc (Nat.le_refl _) (.cells #[.int .i64 0, .string ⟨#[]⟩, .slice none 0 0, .int .i64 0, .int .i64 0, .slice none 0 0] nodeT)
    refine bodyPost_ret (v := .agg #[.int .i64 0, .string ⟨#[]⟩, .slice none 0 0, .int .i64 0, .int .i64 0, .slice none 0 0]) (by simp [results, Try.results24, go_sem, e0, e1, e2, e3, e4, e5]) rfl ⟨by rw [textN_no HT.out], hbf⟩
/-- nothing to mark, nothing to hold. -/
theorem mark_nil (A : Option Addr) (c : Nat) (k : Int) (w : World) :
    Calls Try.prog 48 #[.slice A 0 c, .int .i64 k] w fun e w' => e = .returned (.int .i64 k) ∧ w' = w := by
  go_enter Try.func48, Try.ntmps48
  go_wp2
  go_loopw [1, 5] (fun q i wr => q = .int .i64 k ∧ i = .int .i64 0 ∧ wr = w) (fun _ _ _ => 0)
  case atStart => exact ⟨rfl, rfl, rfl⟩
  case round =>
    obtain ⟨rfl, rfl, rfl⟩ := hrel
    go_wp2
    go_ret
    exact ⟨rfl, rfl⟩
theorem held_nil (A : Option Addr) (c : Nat) (k : Int) (w : World) :
    Calls Try.prog 49 #[.slice A 0 c, .int .i64 k] w fun e w' => e = .returned (.int .i64 k) ∧ w' = w := by
  go_enter Try.func49, Try.ntmps49
  go_wp2
  go_loopw [1, 5] (fun q i wr => q = .int .i64 k ∧ i = .int .i64 0 ∧ wr = w) (fun _ _ _ => 0)
  case atStart => exact ⟨rfl, rfl, rfl⟩
  case round =>
    obtain ⟨rfl, rfl, rfl⟩ := hrel
    go_wp2
    go_ret
    exact ⟨rfl, rfl⟩
set_option maxHeartbeats 1000000 in
theorem markN_nil (n : Nd) (h : Hd) (k : Int) (w : World) (hp : n.ptrs.length = 0) (hi : n.items.length = 0) (h0 : 0 ≤ k) (h1 : k ≤ 1000000) :
    Calls Try.prog 25 #[.agg #[.int .i64 n.kind, .string n.data, .slice h.A n.ptrs.length h.a, .int .i64 n.size, .int .i64 n.count, .slice h.B n.items.length h.b], .int .i64 k] w fun e w' => e = .returned (.int .i64 k) ∧ Below w.heap.size w w' := by
  rw [hp, hi]
  have HB0 := Lib.hid ((Below.refl w.heap.size w).alloc (Nat.le_refl _) (.cells #[.int .i64 n.kind, .string n.data, .slice h.A 0 h.a, .int .i64 n.size, .int .i64 n.count, .slice h.B 0 h.b] nodeT))
  go_enter Try.func25, Try.ntmps25
  go_wp2_with (first | (go_at_call 48; go_must (refine (mark_nil _ _ _ _).mono ?_); rintro e w2 ⟨rfl, rfl⟩))
  go_ret
  exact ⟨rfl, HB0.out⟩
set_option maxHeartbeats 1000000 in
theorem heldN_nil (n : Nd) (h : Hd) (k : Int) (w : World) (hp : n.ptrs.length = 0) (hi : n.items.length = 0) (h0 : 0 ≤ k) (h1 : k ≤ 1000000) :
    Calls Try.prog 26 #[.agg #[.int .i64 n.kind, .string n.data, .slice h.A n.ptrs.length h.a, .int .i64 n.size, .int .i64 n.count, .slice h.B n.items.length h.b], .int .i64 k] w fun e w' => e = .returned (.int .i64 k) ∧ Below w.heap.size w w' := by
  rw [hp, hi]
  have HB0 := Lib.hid ((Below.refl w.heap.size w).alloc (Nat.le_refl _) (.cells #[.int .i64 n.kind, .string n.data, .slice h.A 0 h.a, .int .i64 n.size, .int .i64 n.count, .slice h.B 0 h.b] nodeT))
  go_enter Try.func26, Try.ntmps26
  go_wp2_with (first | (go_at_call 49; go_must (refine (held_nil _ _ _ _).mono ?_); rintro e w2 ⟨rfl, rfl⟩))
  go_ret
  exact ⟨rfl, HB0.out⟩
end Go.Proofs.Ytabipkpgmlmkcaa
