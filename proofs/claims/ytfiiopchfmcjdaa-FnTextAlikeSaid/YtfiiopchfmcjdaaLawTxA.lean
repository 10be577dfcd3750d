/- The walk of the law FnTextAlike: true at every code. -/
import Derived.Test.YtfiiopchfmcjdaaTextI
import Derived.Test.YtfiiopchfmcjdaaTextO
import Derived.Test.YtfiiopchfmcjdaaFormTx
import Derived.Test.YtfiiopchfmcjdaaDrawTx
namespace Go.Proofs.Ytfiiopchfmcjdaa
open Go.RowKit
theorem textN_bare (t : ByteArray) : ∃ k d z c, textN t = bareN k d z c := by
  unfold textN
  split
  · exact ⟨_, _, _, _, rfl⟩
  · exact ⟨_, _, _, _, rfl⟩
theorem textN_kind {t : ByteArray} : (textB t = true ∧ (textN t).kind = 0) ∨ (textB t = false ∧ (textN t).kind = 2) := by
  cases h : textB t
  · exact .inr ⟨rfl, by unfold textN; rw [if_neg (by rw [h]; decide)]; rfl⟩
  · exact .inl ⟨rfl, by unfold textN; rw [if_pos h]; rfl⟩
theorem textN_tx {t : ByteArray} (h : textB t = false) : txS (textN t) = t ∧ txB (textN t) = true ∧ nodeOk (textN t) = true := by
  have hz : hasZ t = false := by unfold textB at h; rw [Bool.or_eq_false_iff] at h; exact h.1
  have hd : (textN t).data = t ++ ⟨#[0]⟩ := by unfold textN; rw [if_neg (by rw [h]; decide)]; rfl
  have hk : (textN t).kind = 2 := by rcases textN_kind (t := t) with h' | h'; rw [h] at h'; exact absurd h'.1 (by decide); exact h'.2
  have hi : isTx (textN t) = true := by
    unfold isTx
    rw [hd, txt_snoc hz, decide_eq_true, Bool.and_true]
    have hs : (t ++ ⟨#[0]⟩ : ByteArray).size = t.size + 1 := getD_size t ⟨#[0]⟩
    refine ⟨hk, ?_, ?_, ?_, ?_⟩
    · unfold textN; rw [if_neg (by rw [h]; decide)]; rfl
    · unfold textN; rw [if_neg (by rw [h]; decide), hs]; rfl
    · rw [(textN_lists t).1]; rfl
    · rw [(textN_lists t).2]; rfl
  have h0 := no_kind (n := textN t) (by rw [hk]; decide)
  have hy := tx_yes h0 hi
  refine ⟨by rw [hy.1, hd, snoc_cut], hy.2, tx_ok hi (Nat.le_trans (textN_size t) (by decide))⟩
set_option maxHeartbeats 8000000 in
set_option maxRecDepth 100000 in
theorem walkTextAlike (w : World) (a : Option Addr) (len cap : Nat) (h : Arg w a len cap) (a2 : Option Addr) (len2 cap2 : Nat) (h2 : Arg w a2 len2 cap2) :
    Calls Try.prog 6 #[.slice a len cap, .slice a2 len2 cap2] w fun e w' => e = .returned (.bool true) ∧ Below w.heap.size w w' := by
  have hlen := h.1.1
  have hlen2 := h2.1.1
  unfold maxLen at hlen hlen2
  by_cases hbig : 1048576 < len
  · go_enter Try.func6, Try.ntmps6
    go_wp2
    go_ret
    exact ⟨rfl, Below.refl _ _⟩
  by_cases hbig2 : 1048576 < len2
  · go_enter Try.func6, Try.ntmps6
    go_wp2
    go_ret
    exact ⟨rfl, Below.refl _ _⟩
  have HD := Lib.hid (drawTextNode_any a len cap w h)
  have HA2 := Lib.hid h2
  clear h h2
  go_enter Try.func6, Try.ntmps6
  go_wp2_with fail
  refine HD.out.mono ?_
  rintro e w1 ⟨s, hs, rfl, hb1⟩
  have HB1 := Lib.hid hb1
  clear hb1
  go_wp2_with fail
  refine (drawTextNode_any a2 len2 cap2 w1 (HA2.out.below HB1.out)).mono ?_
  rintro e w2 ⟨t, ht, rfl, hb2⟩
  have HB2 := Lib.hid (HB1.out.trans (hb2.mono HB1.out.size))
  clear hb2
  obtain ⟨k1, d1, z1, c1, he1⟩ := textN_bare s
  have HS1 : Hid (∀ W : World, Calls Try.prog 22 #[.string s] W fun e w' => e = .returned (.agg #[.int .i64 k1, .string d1, .slice none 0 0, .int .i64 z1, .int .i64 c1, .slice none 0 0]) ∧ Below W.heap.size W w') := Lib.hid fun W => by
    have := specTextNode_a s W (by omega)
    rw [he1] at this
    exact this
  have HI1 : Hid (∀ W : World, Calls Try.prog 21 #[.string s] W fun e w' => e = .returned (.agg #[.int .i64 k1, .string d1, .slice none 0 0, .int .i64 z1, .int .i64 c1, .slice none 0 0]) ∧ Below W.heap.size W w') := Lib.hid fun W => by
    have := implTextNode_a s W (by omega)
    rw [he1] at this
    exact this
  have HK1 := Lib.hid (textN_kind (t := s))
  have HX1 : Hid (textB s = false → txS (textN s) = s ∧ nodeOk (bareN k1 d1 z1 c1) = true) := Lib.hid fun h => by
    have := textN_tx h
    exact ⟨this.1, by rw [← he1]; exact this.2.2⟩
  have hd1 : d1.size ≤ 101 := by have := textN_size s; rw [he1] at this; exact this
  obtain ⟨k2, d2, z2, c2, he2⟩ := textN_bare t
  have HS2 : Hid (∀ W : World, Calls Try.prog 22 #[.string t] W fun e w' => e = .returned (.agg #[.int .i64 k2, .string d2, .slice none 0 0, .int .i64 z2, .int .i64 c2, .slice none 0 0]) ∧ Below W.heap.size W w') := Lib.hid fun W => by
    have := specTextNode_a t W (by omega)
    rw [he2] at this
    exact this
  have HI2 : Hid (∀ W : World, Calls Try.prog 21 #[.string t] W fun e w' => e = .returned (.agg #[.int .i64 k2, .string d2, .slice none 0 0, .int .i64 z2, .int .i64 c2, .slice none 0 0]) ∧ Below W.heap.size W w') := Lib.hid fun W => by
    have := implTextNode_a t W (by omega)
    rw [he2] at this
    exact this
  have HK2 := Lib.hid (textN_kind (t := t))
  have HX2 : Hid (textB t = false → txS (textN t) = t ∧ nodeOk (bareN k2 d2 z2 c2) = true) := Lib.hid fun h => by
    have := textN_tx h
    exact ⟨this.1, by rw [← he2]; exact this.2.2⟩
  have hd2 : d2.size ≤ 101 := by have := textN_size t; rw [he2] at this; exact this
  have HQ : Hid (∀ W : World, Calls Try.prog 9 #[.agg #[.int .i64 k1, .string d1, .slice none 0 0, .int .i64 z1, .int .i64 c1, .slice none 0 0], .agg #[.int .i64 k1, .string d1, .slice none 0 0, .int .i64 z1, .int .i64 c1, .slice none 0 0]] W fun e w' => e = .returned (.bool true) ∧ Below W.heap.size W w') := Lib.hid fun W => qnN_any 0 0 (bareN k1 d1 z1 c1) (bareN k1 d1 z1 c1) noHd noHd W Any Any true (nd_bare W Any 0 k1 d1 z1 c1 (by unfold maxLen; omega)) (nd_bare W Any 0 k1 d1 z1 c1 (by unfold maxLen; omega)) (iff_true_of rfl)
  have HE := Lib.hid (And.intro he1 he2)
  have hkk1 : (textN s).kind = k1 := by rw [he1]; rfl
  have hkk2 : (textN t).kind = k2 := by rw [he2]; rfl
  rw [hkk1] at HK1
  rw [hkk2] at HK2
  have hst := toList_eq s t
  clear he1 he2 hkk1 hkk2
  go_wp2_with fail
  refine (HI1.out _).mono ?_
  rintro e w3 ⟨rfl, hb3⟩
  have hbs := HB2.out.trans (hb3.mono HB2.out.size)
  have HB3 := Lib.hid (hbs.alloc hbs.size (.cells #[.int .i64 k1, .string d1, .slice none 0 0, .int .i64 z1, .int .i64 c1, .slice none 0 0] nodeT))
  have HX3 := Lib.hid (heap_alloc_new w3 (.cells #[.int .i64 k1, .string d1, .slice none 0 0, .int .i64 z1, .int .i64 c1, .slice none 0 0] nodeT))
  clear hb3 hbs
  go_wp2_with fail
  generalize w3.alloc (.cells #[.int .i64 k1, .string d1, .slice none 0 0, .int .i64 z1, .int .i64 c1, .slice none 0 0] nodeT) = W3 at *
  refine (HI2.out _).mono ?_
  rintro e w4 ⟨rfl, hb4⟩
  have hbs := HB3.out.trans (hb4.mono HB3.out.size)
  have HB4 := Lib.hid (hbs.alloc hbs.size (.cells #[.int .i64 k2, .string d2, .slice none 0 0, .int .i64 z2, .int .i64 c2, .slice none 0 0] nodeT))
  have HX4 := Lib.hid (heap_alloc_keep ((hb4.block _ (row_lt HX3.out)).trans HX3.out) (.cells #[.int .i64 k2, .string d2, .slice none 0 0, .int .i64 z2, .int .i64 c2, .slice none 0 0] nodeT))
  have HY4 := Lib.hid (heap_alloc_new w4 (.cells #[.int .i64 k2, .string d2, .slice none 0 0, .int .i64 z2, .int .i64 c2, .slice none 0 0] nodeT))
  clear hb4 hbs
  rcases HK1.out with ⟨ht1, hk1⟩ | ⟨ht1, hk1⟩
  · have hkb : (k1 == 0) = true := by rw [hk1]; rfl
    clear hk1 ht1
    obtain ⟨a0, a1, a2, a3, a4, a5⟩ := cells6 HX4.out
    obtain ⟨b0, b1, b2, b3, b4, b5⟩ := cells6 HY4.out
    have q0 := cell_regrown a0
    have q1 := cell_regrown a1
    have q2 := cell_regrown a2
    have q3 := cell_regrown a3
    have q4 := cell_regrown a4
    have q5 := cell_regrown a5
    have r0 := cell_regrown b0
    have r1 := cell_regrown b1
    have r2 := cell_regrown b2
    have r3 := cell_regrown b3
    have r4 := cell_regrown b4
    have r5 := cell_regrown b5
    go_wp2_with fail
    generalize w4.alloc (.cells #[.int .i64 k2, .string d2, .slice none 0 0, .int .i64 z2, .int .i64 c2, .slice none 0 0] nodeT) = W4 at *
    refine wp_region_quiet_below (by kernel_rfl) (by kernel_rfl) ?_
    repeat (first | go_big_quiet_step (first | (go_at_call 22; with_reducible exact Calls.regrown_of (HS1.out _)) | (go_at_call 9; with_reducible exact Calls.regrown_of (HQ.out _))) | quiet_step (first | (go_at_call 22; with_reducible exact Calls.regrown_of (HS1.out _)) | (go_at_call 9; with_reducible exact Calls.regrown_of (HQ.out _))))
    refine wpQuiet_nil ?_
    intro _ hw'
    obtain ⟨⟨dq, osq⟩, hw''⟩ := hw'
    subst hw''
    have HB5 := Lib.hid (HB4.out.trans ((below_regrown W4 dq osq).mono HB4.out.size))
    have HX5 := Lib.hid (((below_regrown W4 dq osq).block _ (row_lt HX4.out)).trans HX4.out)
    have HY5 := Lib.hid (((below_regrown W4 dq osq).block _ (row_lt HY4.out)).trans HY4.out)
    clear a0 a1 a2 a3 a4 a5 b0 b1 b2 b3 b4 b5 q0 q1 q2 q3 q4 q5 r0 r1 r2 r3 r4 r5
    generalize «Sort».grow (redrawn W4 dq) osq = W5 at HB5 HX5 HY5 ⊢
    obtain ⟨a0, a1, a2, a3, a4, a5⟩ := cells6 HX5.out
    obtain ⟨b0, b1, b2, b3, b4, b5⟩ := cells6 HY5.out
    have q0 := cell_regrown a0
    have q1 := cell_regrown a1
    have q2 := cell_regrown a2
    have q3 := cell_regrown a3
    have q4 := cell_regrown a4
    have q5 := cell_regrown a5
    have r0 := cell_regrown b0
    have r1 := cell_regrown b1
    have r2 := cell_regrown b2
    have r3 := cell_regrown b3
    have r4 := cell_regrown b4
    have r5 := cell_regrown b5
    go_wp2_with fail
    refine wp_region_quiet_below (by kernel_rfl) (by kernel_rfl) ?_
    repeat (first | go_big_quiet_step (first | (go_at_call 22; with_reducible exact Calls.regrown_of (HS1.out _)) | (go_at_call 9; with_reducible exact Calls.regrown_of (HQ.out _))) | quiet_step (first | (go_at_call 22; with_reducible exact Calls.regrown_of (HS1.out _)) | (go_at_call 9; with_reducible exact Calls.regrown_of (HQ.out _))))
    refine wpQuiet_nil ?_
    intro _ hw'
    obtain ⟨⟨dr, osr⟩, hw''⟩ := hw'
    subst hw''
    have HB6 := Lib.hid (HB5.out.trans ((below_regrown W5 dr osr).mono HB5.out.size))
    clear a0 a1 a2 a3 a4 a5 b0 b1 b2 b3 b4 b5 q0 q1 q2 q3 q4 q5 r0 r1 r2 r3 r4 r5
    generalize «Sort».grow (redrawn W5 dr) osr = W6 at HB6 ⊢
    go_wp2
    go_ret
    exact ⟨rfl, HB6.out⟩

  · have hkb : (k1 == 0) = false := by rw [hk1]; rfl
    rcases HK2.out with ⟨ht2, hk2⟩ | ⟨ht2, hk2⟩
    · have hkb2 : (k2 == 0) = true := by rw [hk2]; rfl
      clear hk1 ht1 hk2 ht2
      obtain ⟨a0, a1, a2, a3, a4, a5⟩ := cells6 HX4.out
      obtain ⟨b0, b1, b2, b3, b4, b5⟩ := cells6 HY4.out
      have q0 := cell_regrown a0
      have q1 := cell_regrown a1
      have q2 := cell_regrown a2
      have q3 := cell_regrown a3
      have q4 := cell_regrown a4
      have q5 := cell_regrown a5
      have r0 := cell_regrown b0
      have r1 := cell_regrown b1
      have r2 := cell_regrown b2
      have r3 := cell_regrown b3
      have r4 := cell_regrown b4
      have r5 := cell_regrown b5
      go_wp2_with fail
      generalize w4.alloc (.cells #[.int .i64 k2, .string d2, .slice none 0 0, .int .i64 z2, .int .i64 c2, .slice none 0 0] nodeT) = W4 at *
      refine wp_region_quiet_below (by kernel_rfl) (by kernel_rfl) ?_
      repeat (first | go_big_quiet_step (first | (go_at_call 22; with_reducible exact Calls.regrown_of (HS1.out _)) | (go_at_call 9; with_reducible exact Calls.regrown_of (HQ.out _))) | quiet_step (first | (go_at_call 22; with_reducible exact Calls.regrown_of (HS1.out _)) | (go_at_call 9; with_reducible exact Calls.regrown_of (HQ.out _))))
      refine wpQuiet_nil ?_
      intro _ hw'
      obtain ⟨⟨dq, osq⟩, hw''⟩ := hw'
      subst hw''
      have HB5 := Lib.hid (HB4.out.trans ((below_regrown W4 dq osq).mono HB4.out.size))
      have HX5 := Lib.hid (((below_regrown W4 dq osq).block _ (row_lt HX4.out)).trans HX4.out)
      have HY5 := Lib.hid (((below_regrown W4 dq osq).block _ (row_lt HY4.out)).trans HY4.out)
      clear a0 a1 a2 a3 a4 a5 b0 b1 b2 b3 b4 b5 q0 q1 q2 q3 q4 q5 r0 r1 r2 r3 r4 r5
      generalize «Sort».grow (redrawn W4 dq) osq = W5 at HB5 HX5 HY5 ⊢
      obtain ⟨a0, a1, a2, a3, a4, a5⟩ := cells6 HX5.out
      obtain ⟨b0, b1, b2, b3, b4, b5⟩ := cells6 HY5.out
      have q0 := cell_regrown a0
      have q1 := cell_regrown a1
      have q2 := cell_regrown a2
      have q3 := cell_regrown a3
      have q4 := cell_regrown a4
      have q5 := cell_regrown a5
      have r0 := cell_regrown b0
      have r1 := cell_regrown b1
      have r2 := cell_regrown b2
      have r3 := cell_regrown b3
      have r4 := cell_regrown b4
      have r5 := cell_regrown b5
      go_wp2_with fail
      refine wp_region_quiet_below (by kernel_rfl) (by kernel_rfl) ?_
      repeat (first | go_big_quiet_step (first | (go_at_call 22; with_reducible exact Calls.regrown_of (HS1.out _)) | (go_at_call 9; with_reducible exact Calls.regrown_of (HQ.out _))) | quiet_step (first | (go_at_call 22; with_reducible exact Calls.regrown_of (HS1.out _)) | (go_at_call 9; with_reducible exact Calls.regrown_of (HQ.out _))))
      refine wpQuiet_nil ?_
      intro _ hw'
      obtain ⟨⟨dr, osr⟩, hw''⟩ := hw'
      subst hw''
      have HB6 := Lib.hid (HB5.out.trans ((below_regrown W5 dr osr).mono HB5.out.size))
      clear a0 a1 a2 a3 a4 a5 b0 b1 b2 b3 b4 b5 q0 q1 q2 q3 q4 q5 r0 r1 r2 r3 r4 r5
      generalize «Sort».grow (redrawn W5 dr) osr = W6 at HB6 ⊢
      go_wp2
      go_ret
      exact ⟨rfl, HB6.out⟩

    · have hkb2 : (k2 == 0) = false := by rw [hk2]; rfl
      obtain ⟨x1, y1⟩ := HX1.out ht1
      obtain ⟨x2, y2⟩ := HX2.out ht2
      obtain ⟨bb, hbb⟩ : ∃ bb, bb = decide (s = t) := ⟨_, rfl⟩
      have hiff : bb = true ↔ bareN k1 d1 z1 c1 = bareN k2 d2 z2 c2 := by
        rw [hbb, decide_eq_true_eq, ← HE.out.1, ← HE.out.2]
        exact ⟨fun e => by rw [e], fun e => by rw [← x1, ← x2, e]⟩
      have HAL : Hid (∀ W : World, Calls Try.prog 14 #[.agg #[.int .i64 k1, .string d1, .slice none 0 0, .int .i64 z1, .int .i64 c1, .slice none 0 0], .agg #[.int .i64 k2, .string d2, .slice none 0 0, .int .i64 z2, .int .i64 c2, .slice none 0 0]] W fun e w' => e = .returned (.bool bb) ∧ Below W.heap.size W w') := Lib.hid fun W => alike_bare k1 d1 z1 c1 k2 d2 z2 c2 bb W (by rw [hk1]; rfl) y1 (by omega) (by rw [hk2]; rfl) y2 (by omega) hiff
      rw [← hbb] at hst
      clear hk1 hk2 ht1 ht2 x1 x2 y1 y2 hiff hbb
      obtain ⟨a0, a1, a2, a3, a4, a5⟩ := cells6 HX4.out
      obtain ⟨b0, b1, b2, b3, b4, b5⟩ := cells6 HY4.out
      have q0 := cell_regrown a0
      have q1 := cell_regrown a1
      have q2 := cell_regrown a2
      have q3 := cell_regrown a3
      have q4 := cell_regrown a4
      have q5 := cell_regrown a5
      have r0 := cell_regrown b0
      have r1 := cell_regrown b1
      have r2 := cell_regrown b2
      have r3 := cell_regrown b3
      have r4 := cell_regrown b4
      have r5 := cell_regrown b5
      go_wp2_with fail
      generalize w4.alloc (.cells #[.int .i64 k2, .string d2, .slice none 0 0, .int .i64 z2, .int .i64 c2, .slice none 0 0] nodeT) = W4 at *
      refine wp_region_quiet_below (by kernel_rfl) (by kernel_rfl) ?_
      repeat (first | go_big_quiet_step (first | (go_at_call 22; with_reducible exact Calls.regrown_of (HS1.out _)) | (go_at_call 9; with_reducible exact Calls.regrown_of (HQ.out _))) | quiet_step (first | (go_at_call 22; with_reducible exact Calls.regrown_of (HS1.out _)) | (go_at_call 9; with_reducible exact Calls.regrown_of (HQ.out _))))
      refine wpQuiet_nil ?_
      intro _ hw'
      obtain ⟨⟨dq, osq⟩, hw''⟩ := hw'
      subst hw''
      have HB5 := Lib.hid (HB4.out.trans ((below_regrown W4 dq osq).mono HB4.out.size))
      have HX5 := Lib.hid (((below_regrown W4 dq osq).block _ (row_lt HX4.out)).trans HX4.out)
      have HY5 := Lib.hid (((below_regrown W4 dq osq).block _ (row_lt HY4.out)).trans HY4.out)
      clear a0 a1 a2 a3 a4 a5 b0 b1 b2 b3 b4 b5 q0 q1 q2 q3 q4 q5 r0 r1 r2 r3 r4 r5
      generalize «Sort».grow (redrawn W4 dq) osq = W5 at HB5 HX5 HY5 ⊢
      obtain ⟨a0, a1, a2, a3, a4, a5⟩ := cells6 HX5.out
      obtain ⟨b0, b1, b2, b3, b4, b5⟩ := cells6 HY5.out
      go_wp2_with fail
      refine (HAL.out _).mono ?_
      rintro e w6 ⟨rfl, hb6⟩
      have HB6 := Lib.hid (HB5.out.trans (hb6.mono HB5.out.size))
      clear hb6
      go_wp2
      go_ret
      exact ⟨by simp, HB6.out⟩
end Go.Proofs.Ytfiiopchfmcjdaa
