/- TextOf: the program's. -/
import Derived.Test.YtabipkpgmlmkcaaTextP
import Derived.Test.YtabipkpgmlmkcaaShelf
namespace Go.Proofs.Ytabipkpgmlmkcaa
open Go.RowKit
theorem tx_no {n : Nd} (h0 : noTx n = false) (h1 : isTx n = false) : txS n = ⟨#[]⟩ ∧ txB n = false := by unfold txS txB; rw [h0, h1]; exact ⟨rfl, rfl⟩
theorem tx_none {n : Nd} (h0 : noTx n = true) : txS n = ⟨#[]⟩ ∧ txB n = true := by unfold txS txB; rw [h0]; exact ⟨rfl, rfl⟩
theorem tx_yes {n : Nd} (h0 : noTx n = false) (h1 : isTx n = true) : txS n = n.data.extract 0 (n.data.size - 1) ∧ txB n = true := by unfold txS txB; rw [h0, h1]; exact ⟨rfl, rfl⟩
theorem tx_kind {n : Nd} (h : n.kind ≠ 2) : isTx n = false := by unfold isTx; rw [decide_eq_false (fun hc => h hc.1)]; rfl
theorem no_kind {n : Nd} (h : n.kind ≠ 0) : noTx n = false := by unfold noTx; rw [decide_eq_false h]; rfl
def TxP (n : Nd) (w : World) (e : Ending) (w' : World) : Prop := e = .returned (.tuple #[.string (txS n), .bool (txB n)]) ∧ Below w.heap.size w w'
set_option maxHeartbeats 4000000 in
set_option maxRecDepth 100000 in
theorem implTextOf_a (n : Nd) (h : Hd) (w : World) (hd : n.data.size ≤ 2000000) (hp : n.ptrs.length ≤ 2000000) (hi : n.items.length ≤ 2000000) :
    Calls Try.prog 28 #[.agg #[.int .i64 n.kind, .string n.data, .slice h.A n.ptrs.length h.a, .int .i64 n.size, .int .i64 n.count, .slice h.B n.items.length h.b]] w (TxP n w) := by
  have hbx := (Below.refl w.heap.size w).alloc (Nat.le_refl _) (.cells #[.int .i64 n.kind, .string n.data, .slice h.A n.ptrs.length h.a, .int .i64 n.size, .int .i64 n.count, .slice h.B n.items.length h.b] nodeT)
  have HR0 := Lib.hid (heap_alloc_new w (.cells #[.int .i64 n.kind, .string n.data, .slice h.A n.ptrs.length h.a, .int .i64 n.size, .int .i64 n.count, .slice h.B n.items.length h.b] nodeT))
  have HBX := Lib.hid hbx
  have HI : Hid (∀ W : World, Calls Try.prog 52 #[.agg #[.int .i64 n.kind, .string n.data, .slice h.A n.ptrs.length h.a, .int .i64 n.size, .int .i64 n.count, .slice h.B n.items.length h.b]] W fun e w' => e = .returned (.bool (noneN n)) ∧ Below W.heap.size W w') := Lib.hid fun W => isNothing_any _ _ _ _ _ _ _ _ _ _ W
  have HI2 : Hid (∀ W : World, Calls Try.prog 52 #[.agg #[.int .i64 0, .string { data := #[] }, .slice h.A n.ptrs.length h.a, .int .i64 0, .int .i64 0, .slice h.B n.items.length h.b]] W fun e w' => e = .returned (.bool (noneB ⟨#[]⟩ n.ptrs.length 0 0 n.items.length)) ∧ Below W.heap.size W w') := Lib.hid fun W => isNothing_any _ _ _ _ _ _ _ _ _ _ W
  have HIB : Hid (∀ W : World, Calls Try.prog 53 #[.string n.data, .int .u8 0] W fun e w' => e = .returned (.int .i64 (Lib.indexByte n.data.data.toList 0)) ∧ w' = W) := Lib.hid fun W => Try.strings_IndexByte n.data 0 W
  clear hbx
  by_cases hk0 : n.kind = 0
  · have hk0b : (n.kind == 0) = true := by rw [hk0]; rfl
    have hk2b : (n.kind != 2) = true := by rw [hk0]; rfl
    have HK := Lib.hid hk0
    clear hk0
    cases hno : noneN n
    · have HX := Lib.hid (tx_no (n := n) (by unfold noTx; rw [hno, Bool.and_false]) (tx_kind (by rw [HK.out]; decide)))
      rw [hno] at HI
      clear hno
      go_enter Try.func28, Try.ntmps28
      go_wp2_with fail
      refine (HI.out _).mono ?_
      rintro e w1 ⟨rfl, hb1⟩
      obtain ⟨a0, a1, a2, a3, a4, a5⟩ := cells6 ((hb1.block _ (row_lt HR0.out)).trans HR0.out)
      obtain ⟨c0, c1, c2, c3, c4, c5⟩ := cells6 (heap_alloc_keep ((hb1.block _ (row_lt HR0.out)).trans HR0.out) (.cells #[.int .i64 0, .string { data := #[] }, .slice h.A n.ptrs.length h.a, .int .i64 0, .int .i64 0, .slice h.B n.items.length h.b] nodeT))
      have HB1 := Lib.hid (HBX.out.trans (hb1.mono HBX.out.size))
      have hbs := HB1.out.size
      clear hb1
      go_wp2
      go_ret2
      exact ⟨by rw [HX.out.1, HX.out.2]; rfl, HB1.out.alloc HB1.out.size _⟩
    · have HX := Lib.hid (tx_none (n := n) (by unfold noTx; rw [hno, decide_eq_true HK.out]; rfl))
      rw [hno] at HI
      clear hno
      go_enter Try.func28, Try.ntmps28
      go_wp2_with fail
      refine (HI.out _).mono ?_
      rintro e w1 ⟨rfl, hb1⟩
      obtain ⟨a0, a1, a2, a3, a4, a5⟩ := cells6 ((hb1.block _ (row_lt HR0.out)).trans HR0.out)
      have HB1 := Lib.hid (HBX.out.trans (hb1.mono HBX.out.size))
      have hbs := HB1.out.size
      clear hb1
      go_wp2
      go_ret2
      exact ⟨by rw [HX.out.1, HX.out.2]; rfl, HB1.out⟩
  have hk0b : (n.kind == 0) = false := by simpa using hk0
  have HK0 := Lib.hid (no_kind hk0)
  clear hk0 HI
  obtain ⟨a0, a1, a2, a3, a4, a5⟩ := cells6 HR0.out
  by_cases hk2 : n.kind = 2
  case neg =>
    have hk2b : (n.kind != 2) = true := by simpa using hk2
    have HX := Lib.hid (tx_no HK0.out (tx_kind hk2))
    clear hk2 HI2
    go_enter Try.func28, Try.ntmps28
    go_wp2_with fail
    go_ret2
    exact ⟨by rw [HX.out.1, HX.out.2]; rfl, HBX.out.alloc HBX.out.size _⟩
  have hk2b : (n.kind != 2) = false := by simp [hk2]
  have HK2 := Lib.hid hk2
  clear hk2
  by_cases hs2 : n.size = 2
  case neg =>
    have hs2b : (n.size != 2) = true := by simpa using hs2
    have HX := Lib.hid (tx_no HK0.out (show isTx n = false by unfold isTx; rw [decide_eq_false (fun hc => hs2 hc.2.1)]; rfl))
    clear hs2 HI2
    go_enter Try.func28, Try.ntmps28
    go_wp2_with fail
    go_ret2
    exact ⟨by rw [HX.out.1, HX.out.2]; rfl, HBX.out.alloc HBX.out.size _⟩
  have hs2b : (n.size != 2) = false := by simp [hs2]
  have HS2 := Lib.hid hs2
  clear hs2
  by_cases hc2 : n.count = (n.data.size : Int)
  case neg =>
    have hc2b : (n.count != (n.data.size : Int)) = true := by simpa using hc2
    have HX := Lib.hid (tx_no HK0.out (show isTx n = false by unfold isTx; rw [decide_eq_false (fun hc => hc2 hc.2.2.1)]; rfl))
    clear hc2 HI2
    go_enter Try.func28, Try.ntmps28
    go_wp2_with fail
    go_ret2
    exact ⟨by rw [HX.out.1, HX.out.2]; rfl, HBX.out.alloc HBX.out.size _⟩
  have hc2b : (n.count != (n.data.size : Int)) = false := by simp [hc2]
  have HC2 := Lib.hid hc2
  clear hc2
  have hax : (w.alloc (.cells #[.int .i64 n.kind, .string n.data, .slice h.A n.ptrs.length h.a, .int .i64 n.size, .int .i64 n.count, .slice h.B n.items.length h.b] nodeT)).heap.size = w.heap.size + 1 := by simp
  have hbb : Below (w.alloc (.cells #[.int .i64 n.kind, .string n.data, .slice h.A n.ptrs.length h.a, .int .i64 n.size, .int .i64 n.count, .slice h.B n.items.length h.b] nodeT)).heap.size (w.alloc (.cells #[.int .i64 n.kind, .string n.data, .slice h.A n.ptrs.length h.a, .int .i64 n.size, .int .i64 n.count, .slice h.B n.items.length h.b] nodeT)) ((w.alloc (.cells #[.int .i64 n.kind, .string n.data, .slice h.A n.ptrs.length h.a, .int .i64 n.size, .int .i64 n.count, .slice h.B n.items.length h.b] nodeT)).alloc (.cells #[.int .i64 0, .string { data := #[] }, .slice h.A n.ptrs.length h.a, .int .i64 0, .int .i64 0, .slice h.B n.items.length h.b] nodeT)) := (Below.refl _ _).alloc (Nat.le_refl _) _
  have hg0 := heap_alloc_keep HR0.out (.cells #[.int .i64 0, .string { data := #[] }, .slice h.A n.ptrs.length h.a, .int .i64 0, .int .i64 0, .slice h.B n.items.length h.b] nodeT)
  have HG0 := Lib.hid hg0
  have HBB := Lib.hid (HBX.out.trans (hbb.mono HBX.out.size))
  clear hbb hax
  obtain ⟨c0, c1, c2, c3, c4, c5⟩ := cells6 hg0
  clear hg0
  cases hbn : noneB ⟨#[]⟩ n.ptrs.length 0 0 n.items.length
  case false =>
    have HX := Lib.hid (tx_no HK0.out (show isTx n = false by
      unfold isTx
      rw [decide_eq_false (fun hc => ?_)]
      · rfl
      · rw [hc.2.2.2.1, hc.2.2.2.2] at hbn
        exact absurd hbn (by decide)))
    rw [hbn] at HI2
    clear hbn
    go_enter Try.func28, Try.ntmps28
    go_wp2_with fail
    refine (HI2.out _).mono ?_
    rintro e w1 ⟨rfl, hb1⟩
    have HB1 := Lib.hid (HBB.out.trans (hb1.mono HBB.out.size))
    clear hb1
    go_wp2
    go_ret2
    exact ⟨by rw [HX.out.1, HX.out.2]; rfl, HB1.out⟩
  have HPI : Hid (n.ptrs.length = 0 ∧ n.items.length = 0) := Lib.hid (by unfold noneB at hbn; simp only [Bool.and_eq_true, beq_iff_eq] at hbn; exact ⟨hbn.1.1.1.2, hbn.2⟩)
  have HTX : Hid (isTx n = txt n.data) := Lib.hid (by unfold isTx; rw [decide_eq_true ⟨HK2.out, HS2.out, HC2.out, HPI.out.1, HPI.out.2⟩, Bool.true_and])
  rw [hbn] at HI2
  clear hbn
  have hge := Lib.indexByte_ge n.data.data.toList 0
  have HTT : Hid (txt n.data = (decide (0 < n.data.size) && decide (Lib.indexByte n.data.data.toList 0 = (n.data.size : Int) - 1))) := Lib.hid rfl
  generalize Lib.indexByte n.data.data.toList 0 = ix at *
  by_cases hneg : ix < 0
  · have HX := Lib.hid (tx_no HK0.out (show isTx n = false by rw [HTX.out, HTT.out, Bool.and_eq_false_iff]; exact (Decidable.em (0 < n.data.size)).elim (fun h0 => .inr (decide_eq_false (by omega))) (fun h0 => .inl (decide_eq_false h0))))
    have hnb : decide (ix < 0) = true := decide_eq_true hneg
    clear hneg hge
    go_enter Try.func28, Try.ntmps28
    go_wp2_with fail
    refine (HI2.out _).mono ?_
    rintro e w1 ⟨rfl, hb1⟩
    clear a0 a1 a2 a3 a4 a5 c0 c1 c2 c3 c4 c5
    obtain ⟨a0, a1, a2, a3, a4, a5⟩ := cells6 ((hb1.block _ (row_lt HG0.out)).trans HG0.out)
    have HB1 := Lib.hid (HBB.out.trans (hb1.mono HBB.out.size))
    clear hb1
    go_wp2_with fail
    refine (HIB.out _).mono ?_
    rintro e w2 ⟨rfl, rfl⟩
    go_wp2
    go_ret2
    exact ⟨by rw [HX.out.1, HX.out.2]; rfl, HB1.out⟩
  have hnb : decide (ix < 0) = false := decide_eq_false hneg
  have hwr : IntKind.i64.wrap ((n.data.size : Int) - 1) = (n.data.size : Int) - 1 := by rw [IntKind.wrap_i64]; omega
  by_cases heq : ix = (n.data.size : Int) - 1
  case neg =>
    have HX := Lib.hid (tx_no HK0.out (show isTx n = false by rw [HTX.out, HTT.out, decide_eq_false heq, Bool.and_false]))
    have heb : (ix != (n.data.size : Int) - 1) = true := by simpa using heq
    clear heq
    go_enter Try.func28, Try.ntmps28
    go_wp2_with fail
    refine (HI2.out _).mono ?_
    rintro e w1 ⟨rfl, hb1⟩
    clear a0 a1 a2 a3 a4 a5 c0 c1 c2 c3 c4 c5
    obtain ⟨a0, a1, a2, a3, a4, a5⟩ := cells6 ((hb1.block _ (row_lt HG0.out)).trans HG0.out)
    have HB1 := Lib.hid (HBB.out.trans (hb1.mono HBB.out.size))
    clear hb1
    go_wp2_with fail
    refine (HIB.out _).mono ?_
    rintro e w2 ⟨rfl, rfl⟩
    go_wp2
    go_ret2
    exact ⟨by rw [HX.out.1, HX.out.2]; rfl, HB1.out⟩
  have HX := Lib.hid (tx_yes HK0.out (show isTx n = true by rw [HTX.out, HTT.out, decide_eq_true heq, decide_eq_true (show 0 < n.data.size by omega)]; rfl))
  have heb : (ix != (n.data.size : Int) - 1) = false := by simp [heq]
  obtain ⟨k, rfl⟩ := Int.eq_ofNat_of_zero_le (show 0 ≤ ix by omega)
  have hkk : k = n.data.size - 1 := by omega
  have HKK := Lib.hid hkk
  have hkle : k ≤ n.data.size := by omega
  clear heq hkk hneg hge
  go_enter Try.func28, Try.ntmps28
  go_wp2_with fail
  refine (HI2.out _).mono ?_
  rintro e w1 ⟨rfl, hb1⟩
  clear a0 a1 a2 a3 a4 a5 c0 c1 c2 c3 c4 c5
  obtain ⟨a0, a1, a2, a3, a4, a5⟩ := cells6 ((hb1.block _ (row_lt HG0.out)).trans HG0.out)
  have HB1 := Lib.hid (HBB.out.trans (hb1.mono HBB.out.size))
  clear hb1
  go_wp2_with fail
  refine (HIB.out _).mono ?_
  rintro e w2 ⟨rfl, rfl⟩
  go_wp2
  go_ret2
  exact ⟨by rw [HX.out.1, HX.out.2, HKK.out]; simp, HB1.out⟩
end Go.Proofs.Ytabipkpgmlmkcaa
