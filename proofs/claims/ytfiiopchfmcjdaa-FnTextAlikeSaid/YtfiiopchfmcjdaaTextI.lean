/- The program's TextNode. -/
import Derived.Test.YtfiiopchfmcjdaaTextD
import Derived.Test.YtfiiopchfmcjdaaShelf
import Derived.Lib.IndexAny
namespace Go.Proofs.Ytfiiopchfmcjdaa
open Go.RowKit
set_option maxHeartbeats 1000000 in
theorem implTextNode_a (t : ByteArray) (w : World) (ht : t.size ≤ 2000000) :
    Calls Try.prog 21 #[.string t] w fun e w' => e = .returned (ndV (textN t) noHd) ∧ Below w.heap.size w w' := by
  have HB0 := Lib.hid ((Below.refl w.heap.size w).alloc (Nat.le_refl _) (.cells #[.int .i64 0, .string { data := #[] }, .slice none 0 0, .int .i64 0, .int .i64 0, .slice none 0 0] nodeT))
  have HROW := Lib.hid (heap_alloc_new w (.cells #[.int .i64 0, .string { data := #[] }, .slice none 0 0, .int .i64 0, .int .i64 0, .slice none 0 0] nodeT))
  obtain ⟨z0, z1, z2, z3, z4, z5⟩ := cells6 HROW.out
  have zf := row_free HROW.out
  have HC : Hid (∀ W : World, Calls Try.prog 42 #[.string t, .string ⟨#[0]⟩] W fun e w' => e = .returned (.bool (hasZ t)) ∧ w' = W) := Lib.hid fun W => by
    have := Try.strings_Contains_one t 0 W
    rw [← Lib.contains_iff_indexByte] at this
    exact this
  have hwr : IntKind.i64.wrap ((t.size : Int) + 1) = (t.size : Int) + 1 := by rw [IntKind.wrap_i64]; omega
  by_cases hlong : 100 < t.size
  · have HT : Hid (textB t = true) := Lib.hid (by unfold textB; rw [decide_eq_true hlong, Bool.or_true])
    go_enter Try.func21, Try.ntmps21
    go_wp2_with fail
    obtain ⟨e0, e1, e2, e3, e4, e5⟩ := cells6 (heap_alloc_new w (.cells #[.int .i64 0, .string ⟨#[]⟩, .slice none 0 0, .int .i64 0, .int .i64 0, .slice none 0 0] nodeT))
    have hbf := (Below.refl w.heap.size w).alloc (Nat.le_refl _) (.cells #[.int .i64 0, .string ⟨#[]⟩, .slice none 0 0, .int .i64 0, .int .i64 0, .slice none 0 0] nodeT)
    refine bodyPost_ret (v := .agg #[.int .i64 0, .string ⟨#[]⟩, .slice none 0 0, .int .i64 0, .int .i64 0, .slice none 0 0]) (by simp [results, Try.results21, go_sem, e0, e1, e2, e3, e4, e5]) rfl ⟨by rw [textN_no HT.out], hbf⟩
  cases hz : hasZ t
  · have HT : Hid (textB t = false) := Lib.hid (by unfold textB; rw [hz, decide_eq_false hlong]; rfl)
    rw [hz] at HC
    clear hz
    go_enter Try.func21, Try.ntmps21
    go_wp2_with fail
    refine (HC.out _).mono ?_
    rintro e w2 ⟨rfl, rfl⟩
    go_wp2_with fail
    obtain ⟨e0, e1, e2, e3, e4, e5⟩ := cells6 (heap_alloc_new w (.cells #[.int .i64 2, .string (t ++ ⟨#[0]⟩), .slice none 0 0, .int .i64 2, .int .i64 ((t.size : Int) + 1), .slice none 0 0] nodeT))
    have hbf := (Below.refl w.heap.size w).alloc (Nat.le_refl _) (.cells #[.int .i64 2, .string (t ++ ⟨#[0]⟩), .slice none 0 0, .int .i64 2, .int .i64 ((t.size : Int) + 1), .slice none 0 0] nodeT)
    refine bodyPost_ret (v := .agg #[.int .i64 2, .string (t ++ ⟨#[0]⟩), .slice none 0 0, .int .i64 2, .int .i64 ((t.size : Int) + 1), .slice none 0 0]) (by simp [results, Try.results21, go_sem, e0, e1, e2, e3, e4, e5]) rfl ⟨by rw [textN_yes HT.out], hbf⟩
  · have HT : Hid (textB t = true) := Lib.hid (by unfold textB; rw [hz]; rfl)
    rw [hz] at HC
    clear hz
    go_enter Try.func21, Try.ntmps21
    go_wp2_with fail
    refine (HC.out _).mono ?_
    rintro e w2 ⟨rfl, rfl⟩
    go_wp2_with fail
    obtain ⟨e0, e1, e2, e3, e4, e5⟩ := cells6 (heap_alloc_new w (.cells #[.int .i64 0, .string ⟨#[]⟩, .slice none 0 0, .int .i64 0, .int .i64 0, .slice none 0 0] nodeT))
    have hbf := (Below.refl w.heap.size w).alloc (Nat.le_refl _) (.cells #[.int .i64 0, .string ⟨#[]⟩, .slice none 0 0, .int .i64 0, .int .i64 0, .slice none 0 0] nodeT)
    refine bodyPost_ret (v := .agg #[.int .i64 0, .string ⟨#[]⟩, .slice none 0 0, .int .i64 0, .int .i64 0, .slice none 0 0]) (by simp [results, Try.results21, go_sem, e0, e1, e2, e3, e4, e5]) rfl ⟨by rw [textN_no HT.out], hbf⟩
end Go.Proofs.Ytfiiopchfmcjdaa
