/- The walk of the law FnText: true at every code. -/
import Derived.Test.YtabipkpgmlmkcaaTextI
import Derived.Test.YtabipkpgmlmkcaaTextS
import Derived.Test.YtabipkpgmlmkcaaDrawTx
import Derived.Test.YtabipkpgmlmkcaaNdQn
import Derived.Lib.QuietBelow
namespace Go.Proofs.Ytabipkpgmlmkcaa
open Go.RowKit
/-- a node that is a text is made of that text. -/
theorem tx_back {m : Nd} (h0 : m.kind ≠ 0) (hb : txB m = true) (hl : (txS m).size ≤ 100) : textN (txS m) = m := by
  have hn := no_kind h0
  have hi : isTx m = true := by unfold txB at hb; rw [hn, Bool.false_or] at hb; exact hb
  have hy := (tx_yes hn hi).1
  rw [hy] at hl ⊢
  unfold isTx at hi
  rw [Bool.and_eq_true, decide_eq_true_eq] at hi
  obtain ⟨⟨h1, h2, h3, h4, h5⟩, h6⟩ := hi
  have hz := cut_noz h6
  have hc := cut_back h6
  have ht : textB (m.data.extract 0 (m.data.size - 1)) = false := by unfold textB; rw [hz, decide_eq_false (by omega)]; rfl
  have hs : (m.data.extract 0 (m.data.size - 1)).size = m.data.size - 1 := by simp
  have h0 := (txt_iff.1 h6).1
  unfold textN
  rw [if_neg (by rw [ht]; decide), hc, hs]
  refine (nd_eq _ _).2 ⟨h1.symm, rfl, h2.symm, ?_, (List.eq_nil_of_length_eq_zero h4).symm, (List.eq_nil_of_length_eq_zero h5).symm⟩
  show ((m.data.size - 1 : Nat) : Int) + 1 = m.count
  rw [h3]; omega
theorem textN_kind {t : ByteArray} : (textB t = true ∧ (textN t).kind = 0) ∨ (textB t = false ∧ (textN t).kind = 2) := by
  cases h : textB t
  · exact .inr ⟨rfl, by unfold textN; rw [if_neg (by rw [h]; decide)]; rfl⟩
  · exact .inl ⟨rfl, by unfold textN; rw [if_pos h]; rfl⟩
theorem textN_tx {t : ByteArray} (h : textB t = false) : txS (textN t) = t ∧ txB (textN t) = true ∧ nodeOk (textN t) = true := by
  have hz : hasZ t = false := by unfold textB at h; rw [Bool.or_eq_false_iff] at h; exact h.1
  have hd : (textN t).data = t ++ ⟨#[0]⟩ := by unfold textN; rw [if_neg (by rw [h]; decide)]; rfl
  have hk : (textN t).kind = 2 := by rcases textN_kind (t := t) with h' | h'; rw [h] at h'; exact absurd h'.1 (by decide); exact h'.2
  have hi : isTx (textN t) = true := by
    unfold isTx
    rw [hd, txt_snoc hz, decide_eq_true, Bool.and_true]
    have hs : (t ++ ⟨#[0]⟩ : ByteArray).size = t.size + 1 := getD_size t ⟨#[0]⟩
    refine ⟨hk, ?_, ?_, ?_, ?_⟩
    · unfold textN; rw [if_neg (by rw [h]; decide)]; rfl
    · unfold textN; rw [if_neg (by rw [h]; decide), hs]; rfl
    · rw [(textN_lists t).1]; rfl
    · rw [(textN_lists t).2]; rfl
  have h0 := no_kind (n := textN t) (by rw [hk]; decide)
  have hy := tx_yes h0 hi
  refine ⟨by rw [hy.1, hd, snoc_cut], hy.2, tx_ok hi (Nat.le_trans (textN_size t) (by decide))⟩
set_option maxHeartbeats 8000000 in
set_option maxRecDepth 100000 in
theorem walkText (w : World) (a : Option Addr) (len cap : Nat) (h : Arg w a len cap) (a2 : Option Addr) (len2 cap2 : Nat) (h2 : Arg w a2 len2 cap2) :
    Calls Try.prog 8 #[.slice a len cap, .slice a2 len2 cap2] w fun e w' => e = .returned (.bool true) ∧ Below w.heap.size w w' := by
  have hlen := h.1.1
  have hlen2 := h2.1.1
  unfold maxLen at hlen hlen2
  by_cases hbig : 1048576 < len
  · go_enter Try.func8, Try.ntmps8
    go_wp2
    go_ret
    exact ⟨rfl, Below.refl _ _⟩
  by_cases hbig2 : 1048576 < len2
  · go_enter Try.func8, Try.ntmps8
    go_wp2
    go_ret
    exact ⟨rfl, Below.refl _ _⟩
  have HD := Lib.hid (drawTextNode_any a len cap w h)
  have HA2 := Lib.hid h2
  clear h h2
  go_enter Try.func8, Try.ntmps8
  go_wp2_with fail
  refine HD.out.mono ?_
  rintro e w1 ⟨s, hs, rfl, hb1⟩
  have HB1 := Lib.hid hb1
  clear hb1
  have HS : Hid (∀ W : World, Calls Try.prog 23 #[.string s] W fun e w' => e = .returned (ndV (textN s) noHd) ∧ Below W.heap.size W w') := Lib.hid fun W => specTextNode_a s W (by omega)
  have HI : Hid (∀ W : World, Calls Try.prog 24 #[.string s] W fun e w' => e = .returned (ndV (textN s) noHd) ∧ Below W.heap.size W w') := Lib.hid fun W => implTextNode_a s W (by omega)
  have HQ : Hid (∀ W : World, Calls Try.prog 19 #[ndV (textN s) noHd, ndV (textN s) noHd] W fun e w' => e = .returned (.bool true) ∧ Below W.heap.size W w') := Lib.hid fun W => qnN_any 0 0 (textN s) (textN s) noHd noHd W Any Any true (textN_at _ _ _ _) (textN_at _ _ _ _) (iff_true_of rfl)
  have HT : Hid (∀ W : World, Calls Try.prog 28 #[ndV (textN s) noHd] W (TxP (textN s) W)) := Lib.hid fun W => implTextOf_a (textN s) noHd W (Nat.le_trans (textN_size s) (by decide)) (by rw [(textN_lists s).1]; decide) (by rw [(textN_lists s).2]; decide)
  have HO : Hid (∀ W : World, Calls Try.prog 10 #[ndV (textN s) noHd] W fun e w' => e = .returned (.bool (nodeOk (textN s))) ∧ Below W.heap.size W w') := Lib.hid fun W => implNodeOk_a 0 (textN s) noHd W Any (textN_at _ _ _ _) (Nat.le_trans (textN_tot 0 s) (by decide))
  have HK := Lib.hid (textN_kind (t := s))
  have HX := Lib.hid (textN_tx (t := s))
  unfold ndV at HS HI HQ HT HO
  generalize textN s = n at *
  go_wp2_with fail
  refine (HI.out _).mono ?_
  rintro e w2 ⟨rfl, hb2⟩
  have hr2 := heap_alloc_new w2 (.cells #[.int .i64 n.kind, .string n.data, .slice none n.ptrs.length 0, .int .i64 n.size, .int .i64 n.count, .slice none n.items.length 0] nodeT)
  have HB2 := Lib.hid ((HB1.out.trans (hb2.mono HB1.out.size)).alloc (HB1.out.trans (hb2.mono HB1.out.size)).size (.cells #[.int .i64 n.kind, .string n.data, .slice none n.ptrs.length 0, .int .i64 n.size, .int .i64 n.count, .slice none n.items.length 0] nodeT))
  have HR2 := Lib.hid hr2
  have HLT := Lib.hid (row_lt hr2)
  obtain ⟨a0, a1, a2', a3, a4, a5⟩ := cells6 hr2
  have q0 := cell_regrown a0
  have q1 := cell_regrown a1
  have q2 := cell_regrown a2'
  have q3 := cell_regrown a3
  have q4 := cell_regrown a4
  have q5 := cell_regrown a5
  clear hr2 hb2
  go_wp2_with fail
  generalize w2.alloc (.cells #[.int .i64 n.kind, .string n.data, .slice none n.ptrs.length 0, .int .i64 n.size, .int .i64 n.count, .slice none n.items.length 0] nodeT) = W2 at *
  refine wp_region_quiet_below (by kernel_rfl) (by kernel_rfl) ?_
  repeat (first | go_big_quiet_step (first | (go_at_call 23; exact Calls.regrown_of (HS.out _)) | (go_at_call 19; exact Calls.regrown_of (HQ.out _))) | quiet_step (first | (go_at_call 23; exact Calls.regrown_of (HS.out _)) | (go_at_call 19; exact Calls.regrown_of (HQ.out _))))
  refine wpQuiet_nil ?_
  intro _ hw'
  obtain ⟨⟨dq, osq⟩, hw''⟩ := hw'
  subst hw''
  have HB3 := Lib.hid (HB2.out.trans ((below_regrown W2 dq osq).mono HB2.out.size))
  have HR3 := Lib.hid (((below_regrown W2 dq osq).block _ HLT.out).trans HR2.out)
  clear q0 q1 q2 q3 q4 q5 a0 a1 a2' a3 a4 a5 HQ HS HI
  generalize «Sort».grow (redrawn W2 dq) osq = W3 at HB3 HR3 ⊢
  obtain ⟨a0, a1, a2', a3, a4, a5⟩ := cells6 HR3.out
  have HL3 := Lib.hid (row_lt HR3.out)
  rcases HK.out with ⟨htb0, hkk⟩ | ⟨htb0, hkk⟩
  · have hkb : (n.kind == 2) = false := by rw [hkk]; rfl
    clear hkk HT HO HX htb0
    go_wp2_with fail
    refine (drawTextOf_any a2 len2 cap2 W3 (HA2.out.below HB3.out)).mono ?_
    rintro e w5 ⟨m, hm, rfl, hnm, htm, hkm, hb5⟩
    have hbx := (Below.refl w5.heap.size w5).alloc (Nat.le_refl _) (.cells #[.int .i64 m.kind, .string m.data, .slice hm.A m.ptrs.length hm.a, .int .i64 m.size, .int .i64 m.count, .slice hm.B m.items.length hm.b] nodeT)
    have hr6 := heap_alloc_new w5 (.cells #[.int .i64 m.kind, .string m.data, .slice hm.A m.ptrs.length hm.a, .int .i64 m.size, .int .i64 m.count, .slice hm.B m.items.length hm.b] nodeT)
    have HB6 := Lib.hid ((HB3.out.trans (hb5.mono HB3.out.size)).trans (hbx.mono (HB3.out.trans (hb5.mono HB3.out.size)).size))
    have HN6 := Lib.hid ((hnm.weak (S' := Any) (fun _ _ => trivial)).below hbx)
    have HR6 := Lib.hid hr6
    have HL6 := Lib.hid (row_lt hr6)
    have htm2 : totN 18 m ≤ 2000000 := by omega
    have HTM := Lib.hid htm2
    have hmd : m.data.size ≤ 2000000 := by unfold totN at htm2; omega
    have hmp : m.ptrs.length ≤ 2000000 := totL_len' hnm.2.1 (by unfold totN at htm2; omega)
    have hmi : m.items.length ≤ 2000000 := totL_len' hnm.2.2 (by unfold totN at htm2; omega)
    have HKM := Lib.hid hkm
    have HBK : Hid (m.kind ≠ 0 → txB m = true → (txS m).size ≤ 100 → textN (txS m) = m) := Lib.hid tx_back
    have hts : (txS m).size ≤ 2000000 := by
      unfold txS
      split
      · decide
      · split
        · rw [ByteArray.size_extract]; omega
        · decide
    clear hbx hnm hkm hb5 htm hr6 htm2
    go_wp2_with fail
    generalize w5.alloc (.cells #[.int .i64 m.kind, .string m.data, .slice hm.A m.ptrs.length hm.a, .int .i64 m.size, .int .i64 m.count, .slice hm.B m.items.length hm.b] nodeT) = W6 at *
    refine (implTextOf_a m hm W6 hmd hmp hmi).mono ?_
    rintro e w7 ⟨rfl, hb7⟩
    have HX7 := Lib.hid hb7
    clear hb7 a0 a1 a2' a3 a4 a5
    obtain ⟨a0, a1, a2', a3, a4, a5⟩ := cells6 ((HX7.out.block _ HL6.out).trans HR6.out)
    go_wp2_with fail
    refine (specTextOf_a 18 m hm w7 Any (HN6.out.below HX7.out) HTM.out HKM.out).mono ?_
    rintro e w8 ⟨rfl, hb8⟩
    have HX8 := Lib.hid (HX7.out.trans (hb8.mono HX7.out.size))
    clear hb8 a0 a1 a2' a3 a4 a5
    obtain ⟨a0, a1, a2', a3, a4, a5⟩ := cells6 ((HX8.out.block _ HL6.out).trans HR6.out)
    have HB8 := Lib.hid (HB6.out.trans (HX8.out.mono HB6.out.size))
    generalize txS m = t at *
    cases htb : txB m
    · go_wp2
      go_ret
      exact ⟨rfl, HB8.out⟩
    · by_cases hk0 : m.kind = 0
      · have hk0b : (m.kind == 0) = true := by rw [hk0]; rfl
        clear hk0
        go_wp2
        go_ret
        exact ⟨rfl, HB8.out⟩
      · have hk0b : (m.kind == 0) = false := by simpa using hk0
        by_cases hl : 100 < t.size
        · have hlb : decide (100 < (t.size : Int)) = true := by simp; omega
          clear hk0 hl
          go_wp2
          go_ret
          exact ⟨rfl, HB8.out⟩
        · have hlb : decide (100 < (t.size : Int)) = false := by simp; omega
          have hbk := HBK.out hk0 htb (by omega)
          have HIT : Hid (∀ W : World, Calls Try.prog 24 #[.string t] W fun e w' => e = .returned (ndV (textN t) noHd) ∧ Below W.heap.size W w') := Lib.hid fun W => implTextNode_a t W (by omega)
          rw [hbk] at HIT
          have hn0 : NdAt w8 Any 18 m noHd := by rw [← hbk]; exact textN_at _ _ _ _
          have HQT : Hid (∀ (d : Nat) (os : Array Obj), Calls Try.prog 19 #[ndV m noHd, .agg #[.int .i64 m.kind, .string m.data, .slice hm.A m.ptrs.length hm.a, .int .i64 m.size, .int .i64 m.count, .slice hm.B m.items.length hm.b]] («Sort».grow (redrawn w8 d) os) fun e w' => e = .returned (.bool true) ∧ Below («Sort».grow (redrawn w8 d) os).heap.size («Sort».grow (redrawn w8 d) os) w') := Lib.hid fun d os => qnN_any 18 18 m m noHd hm _ Any Any true (hn0.below (below_regrown w8 d os)) ((HN6.out.below HX8.out).below (below_regrown w8 d os)) (iff_true_of rfl)
          unfold ndV at HIT HQT
          have q0 := cell_regrown a0
          have q1 := cell_regrown a1
          have q2 := cell_regrown a2'
          have q3 := cell_regrown a3
          have q4 := cell_regrown a4
          have q5 := cell_regrown a5
          clear hk0 hl hbk hn0
          go_wp2_with fail
          refine wp_region_quiet_below (by kernel_rfl) (by kernel_rfl) ?_
          repeat (first | go_big_quiet_step (first | (go_at_call 24; exact Calls.regrown_of (HIT.out _)) | (go_at_call 19; exact Calls.regrown_of (HQT.out _ _))) | quiet_step (first | (go_at_call 24; exact Calls.regrown_of (HIT.out _)) | (go_at_call 19; exact Calls.regrown_of (HQT.out _ _))))
          refine wpQuiet_nil ?_
          intro _ hw'
          obtain ⟨⟨dq2, osq2⟩, hw''⟩ := hw'
          subst hw''
          have HB9 := Lib.hid (HB8.out.trans ((below_regrown w8 dq2 osq2).mono HB8.out.size))
          clear q0 q1 q2 q3 q4 q5 a0 a1 a2' a3 a4 a5
          generalize «Sort».grow (redrawn w8 dq2) osq2 = W9 at HB9 ⊢
          go_wp2
          go_ret
          exact ⟨rfl, HB9.out⟩
  · have hkb : (n.kind == 2) = true := by rw [hkk]; rfl
    obtain ⟨x1, x2, x3⟩ := HX.out htb0
    have HT2 : Hid (∀ W : World, Calls Try.prog 28 #[.agg #[.int .i64 n.kind, .string n.data, .slice none n.ptrs.length 0, .int .i64 n.size, .int .i64 n.count, .slice none n.items.length 0]] W fun e w' => e = .returned (.tuple #[.string s, .bool true]) ∧ Below W.heap.size W w') := Lib.hid fun W => (HT.out W).mono (fun e w' hh => ⟨by rw [hh.1, x1, x2], hh.2⟩)
    rw [x3] at HO
    clear hkk HX htb0 x1 x2 x3 HT
    go_wp2_with fail
    refine (HT2.out _).mono ?_
    rintro e w4 ⟨rfl, hb4⟩
    have HX4 := Lib.hid hb4
    clear hb4 a0 a1 a2' a3 a4 a5
    obtain ⟨a0, a1, a2', a3, a4, a5⟩ := cells6 ((HX4.out.block _ HL3.out).trans HR3.out)
    go_wp2_with fail
    refine (HO.out _).mono ?_
    rintro e w4b ⟨rfl, hb4⟩
    have HB4 := Lib.hid (HB3.out.trans ((HX4.out.trans (hb4.mono HX4.out.size)).mono HB3.out.size))
    clear hb4
    go_wp2_with fail
    refine (drawTextOf_any a2 len2 cap2 w4b (HA2.out.below HB4.out)).mono ?_
    rintro e w5 ⟨m, hm, rfl, hnm, htm, hkm, hb5⟩
    have hbx := (Below.refl w5.heap.size w5).alloc (Nat.le_refl _) (.cells #[.int .i64 m.kind, .string m.data, .slice hm.A m.ptrs.length hm.a, .int .i64 m.size, .int .i64 m.count, .slice hm.B m.items.length hm.b] nodeT)
    have hr6 := heap_alloc_new w5 (.cells #[.int .i64 m.kind, .string m.data, .slice hm.A m.ptrs.length hm.a, .int .i64 m.size, .int .i64 m.count, .slice hm.B m.items.length hm.b] nodeT)
    have HB6 := Lib.hid ((HB4.out.trans (hb5.mono HB4.out.size)).trans (hbx.mono (HB4.out.trans (hb5.mono HB4.out.size)).size))
    have HN6 := Lib.hid ((hnm.weak (S' := Any) (fun _ _ => trivial)).below hbx)
    have HR6 := Lib.hid hr6
    have HL6 := Lib.hid (row_lt hr6)
    have htm2 : totN 18 m ≤ 2000000 := by omega
    have HTM := Lib.hid htm2
    have hmd : m.data.size ≤ 2000000 := by unfold totN at htm2; omega
    have hmp : m.ptrs.length ≤ 2000000 := totL_len' hnm.2.1 (by unfold totN at htm2; omega)
    have hmi : m.items.length ≤ 2000000 := totL_len' hnm.2.2 (by unfold totN at htm2; omega)
    have HKM := Lib.hid hkm
    have HBK : Hid (m.kind ≠ 0 → txB m = true → (txS m).size ≤ 100 → textN (txS m) = m) := Lib.hid tx_back
    have hts : (txS m).size ≤ 2000000 := by
      unfold txS
      split
      · decide
      · split
        · rw [ByteArray.size_extract]; omega
        · decide
    clear hbx hnm hkm hb5 htm hr6 htm2
    go_wp2_with fail
    generalize w5.alloc (.cells #[.int .i64 m.kind, .string m.data, .slice hm.A m.ptrs.length hm.a, .int .i64 m.size, .int .i64 m.count, .slice hm.B m.items.length hm.b] nodeT) = W6 at *
    refine (implTextOf_a m hm W6 hmd hmp hmi).mono ?_
    rintro e w7 ⟨rfl, hb7⟩
    have HX7 := Lib.hid hb7
    clear hb7 a0 a1 a2' a3 a4 a5
    obtain ⟨a0, a1, a2', a3, a4, a5⟩ := cells6 ((HX7.out.block _ HL6.out).trans HR6.out)
    go_wp2_with fail
    refine (specTextOf_a 18 m hm w7 Any (HN6.out.below HX7.out) HTM.out HKM.out).mono ?_
    rintro e w8 ⟨rfl, hb8⟩
    have HX8 := Lib.hid (HX7.out.trans (hb8.mono HX7.out.size))
    clear hb8 a0 a1 a2' a3 a4 a5
    obtain ⟨a0, a1, a2', a3, a4, a5⟩ := cells6 ((HX8.out.block _ HL6.out).trans HR6.out)
    have HB8 := Lib.hid (HB6.out.trans (HX8.out.mono HB6.out.size))
    generalize txS m = t at *
    cases htb : txB m
    · go_wp2
      go_ret
      exact ⟨rfl, HB8.out⟩
    · by_cases hk0 : m.kind = 0
      · have hk0b : (m.kind == 0) = true := by rw [hk0]; rfl
        clear hk0
        go_wp2
        go_ret
        exact ⟨rfl, HB8.out⟩
      · have hk0b : (m.kind == 0) = false := by simpa using hk0
        by_cases hl : 100 < t.size
        · have hlb : decide (100 < (t.size : Int)) = true := by simp; omega
          clear hk0 hl
          go_wp2
          go_ret
          exact ⟨rfl, HB8.out⟩
        · have hlb : decide (100 < (t.size : Int)) = false := by simp; omega
          have hbk := HBK.out hk0 htb (by omega)
          have HIT : Hid (∀ W : World, Calls Try.prog 24 #[.string t] W fun e w' => e = .returned (ndV (textN t) noHd) ∧ Below W.heap.size W w') := Lib.hid fun W => implTextNode_a t W (by omega)
          rw [hbk] at HIT
          have hn0 : NdAt w8 Any 18 m noHd := by rw [← hbk]; exact textN_at _ _ _ _
          have HQT : Hid (∀ (d : Nat) (os : Array Obj), Calls Try.prog 19 #[ndV m noHd, .agg #[.int .i64 m.kind, .string m.data, .slice hm.A m.ptrs.length hm.a, .int .i64 m.size, .int .i64 m.count, .slice hm.B m.items.length hm.b]] («Sort».grow (redrawn w8 d) os) fun e w' => e = .returned (.bool true) ∧ Below («Sort».grow (redrawn w8 d) os).heap.size («Sort».grow (redrawn w8 d) os) w') := Lib.hid fun d os => qnN_any 18 18 m m noHd hm _ Any Any true (hn0.below (below_regrown w8 d os)) ((HN6.out.below HX8.out).below (below_regrown w8 d os)) (iff_true_of rfl)
          unfold ndV at HIT HQT
          have q0 := cell_regrown a0
          have q1 := cell_regrown a1
          have q2 := cell_regrown a2'
          have q3 := cell_regrown a3
          have q4 := cell_regrown a4
          have q5 := cell_regrown a5
          clear hk0 hl hbk hn0
          go_wp2_with fail
          refine wp_region_quiet_below (by kernel_rfl) (by kernel_rfl) ?_
          repeat (first | go_big_quiet_step (first | (go_at_call 24; exact Calls.regrown_of (HIT.out _)) | (go_at_call 19; exact Calls.regrown_of (HQT.out _ _))) | quiet_step (first | (go_at_call 24; exact Calls.regrown_of (HIT.out _)) | (go_at_call 19; exact Calls.regrown_of (HQT.out _ _))))
          refine wpQuiet_nil ?_
          intro _ hw'
          obtain ⟨⟨dq2, osq2⟩, hw''⟩ := hw'
          subst hw''
          have HB9 := Lib.hid (HB8.out.trans ((below_regrown w8 dq2 osq2).mono HB8.out.size))
          clear q0 q1 q2 q3 q4 q5 a0 a1 a2' a3 a4 a5
          generalize «Sort».grow (redrawn w8 dq2) osq2 = W9 at HB9 ⊢
          go_wp2
          go_ret
          exact ⟨rfl, HB9.out⟩
end Go.Proofs.Ytabipkpgmlmkcaa
