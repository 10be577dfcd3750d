/- Texts of the proof of the law FnNodeWords, side by side: part 28. -/
import Derived.Test.YtbhmklbdfmgmlaaMNodeWords00
import Derived.Test.YtbhmklbdfmgmlaaMNodeWords01
import Derived.Test.YtbhmklbdfmgmlaaMNodeWords02
import Derived.Test.YtbhmklbdfmgmlaaMNodeWords03
import Derived.Test.YtbhmklbdfmgmlaaMNodeWords04
import Derived.Test.YtbhmklbdfmgmlaaMNodeWords05
import Derived.Test.YtbhmklbdfmgmlaaMNodeWords06
import Derived.Test.YtbhmklbdfmgmlaaMNodeWords07
import Derived.Test.YtbhmklbdfmgmlaaMNodeWords08
import Derived.Test.YtbhmklbdfmgmlaaMNodeWords09
import Derived.Test.YtbhmklbdfmgmlaaMNodeWords10
import Derived.Test.YtbhmklbdfmgmlaaMNodeWords11
import Derived.Test.YtbhmklbdfmgmlaaMNodeWords12
import Derived.Test.YtbhmklbdfmgmlaaMNodeWords13
import Derived.Test.YtbhmklbdfmgmlaaMNodeWords14
import Derived.Test.YtbhmklbdfmgmlaaMNodeWords15
import Derived.Test.YtbhmklbdfmgmlaaMNodeWords16
import Derived.Test.YtbhmklbdfmgmlaaMNodeWords17
import Derived.Test.YtbhmklbdfmgmlaaMNodeWords18
import Derived.Test.YtbhmklbdfmgmlaaMNodeWords19
import Derived.Test.YtbhmklbdfmgmlaaMNodeWords20
import Derived.Test.YtbhmklbdfmgmlaaMNodeWords21
import Derived.Test.YtbhmklbdfmgmlaaMNodeWords22
import Derived.Test.YtbhmklbdfmgmlaaMNodeWords23
import Derived.Test.YtbhmklbdfmgmlaaMNodeWords24
import Derived.Test.YtbhmklbdfmgmlaaMNodeWords25
import Derived.Test.YtbhmklbdfmgmlaaMNodeWords26
import Derived.Test.YtbhmklbdfmgmlaaMNodeWords27
/- The walk of the law FnNodeWords: true at every code. -/
namespace Go.Proofs.Ytbhmklbdfmgmlaa
open Go.RowKit
set_option maxHeartbeats 4000000 in
set_option maxRecDepth 100000 in
theorem walkNodeWords (w : World) (a : Option Addr) (len cap : Nat) (h : Arg w a len cap) :
    Calls Try.prog 5 #[.slice a len cap] w fun e w' => e = .returned (.bool true) ∧ Below w.heap.size w w' := by
  have hlen := h.1.1
  unfold maxLen at hlen
  by_cases hbig : 1048576 < len
  · go_enter Try.func5, Try.ntmps5
    go_wp2
    go_ret
    exact ⟨rfl, Below.refl _ _⟩
  have HD := Lib.hid (drawNodeWords_any a len cap w h)
  clear h
  go_enter Try.func5, Try.ntmps5
  go_wp2_with fail
  refine HD.out.mono ?_
  rintro e w1 ⟨n, h1, rfl, hn1, ht1, hb1⟩
  have hb2 := (Below.refl w1.heap.size w1).alloc (Nat.le_refl _) (.cells #[.int .i64 n.kind, .string n.data, .slice h1.A n.ptrs.length h1.a, .int .i64 n.size, .int .i64 n.count, .slice h1.B n.items.length h1.b] nodeT)
  have HR2 := Lib.hid (heap_alloc_new w1 (.cells #[.int .i64 n.kind, .string n.data, .slice h1.A n.ptrs.length h1.a, .int .i64 n.size, .int .i64 n.count, .slice h1.B n.items.length h1.b] nodeT))
  have HB2 := Lib.hid (hb1.trans (hb2.mono hb1.size))
  have HN2 := Lib.hid ((hn1.weak (S' := Any) (fun _ _ => trivial)).below hb2)
  have HT : Hid (totN 18 n ≤ 2000000) := Lib.hid (by omega)
  clear hb1 hn1 ht1 hb2
  have HLT := Lib.hid (show w1.heap.size < (w1.alloc (.cells #[.int .i64 n.kind, .string n.data, .slice h1.A n.ptrs.length h1.a, .int .i64 n.size, .int .i64 n.count, .slice h1.B n.items.length h1.b] nodeT)).heap.size by simp)
  go_wp2_with fail
  generalize w1.alloc (.cells #[.int .i64 n.kind, .string n.data, .slice h1.A n.ptrs.length h1.a, .int .i64 n.size, .int .i64 n.count, .slice h1.B n.items.length h1.b] nodeT) = W2 at *
  have HI : Hid (∀ W : World, Below W2.heap.size W2 W → Calls Try.prog 19 #[.agg #[.int .i64 n.kind, .string n.data, .slice h1.A n.ptrs.length h1.a, .int .i64 n.size, .int .i64 n.count, .slice h1.B n.items.length h1.b]] W fun e w' => e = .returned (.int .i64 (nodeWords n : Nat)) ∧ Below W.heap.size W w') := Lib.hid fun W hW => implNodeWords_a 18 n h1 W Any (HN2.out.below hW) HT.out
  have HS : Hid (∀ W : World, Below W2.heap.size W2 W → Calls Try.prog 20 #[.agg #[.int .i64 n.kind, .string n.data, .slice h1.A n.ptrs.length h1.a, .int .i64 n.size, .int .i64 n.count, .slice h1.B n.items.length h1.b]] W fun e w' => e = .returned (.int .i64 (nodeWords n : Nat)) ∧ Below W.heap.size W w') := Lib.hid fun W hW => specNodeWords_a 18 n h1 W Any (HN2.out.below hW) HT.out
  have HO : Hid (∀ W : World, Below W2.heap.size W2 W → Calls Try.prog 21 #[.agg #[.int .i64 n.kind, .string n.data, .slice h1.A n.ptrs.length h1.a, .int .i64 n.size, .int .i64 n.count, .slice h1.B n.items.length h1.b]] W fun e w' => e = .returned (.bool (nodeOk n)) ∧ Below W.heap.size W w') := Lib.hid fun W hW => specNodeOk_a 18 n h1 W Any (HN2.out.below hW) HT.out
  have HB : Hid (∀ W : World, Below W2.heap.size W2 W → Calls Try.prog 17 #[.agg #[.int .i64 n.kind, .string n.data, .slice h1.A n.ptrs.length h1.a, .int .i64 n.size, .int .i64 n.count, .slice h1.B n.items.length h1.b]] W (One1 (bldV n 200) W)) := Lib.hid fun W hW => implBuildOne_a 18 n h1 W Any (HN2.out.below hW) HT.out
  have hnb : nodeWords n ≤ 199 := by
    unfold nodeWords
    split
    · rename_i h; exact (node_ok h).2
    · omega
  have HV : Hid ((nodeOk n = true ∧ ∃ s, bldV n 200 = some [s] ∧ s.length = 8 * (nodeWords n + 1)) ∨ (nodeOk n = false ∧ bldV n 200 = none)) := Lib.hid (by
    cases hok : nodeOk n
    · exact .inr ⟨rfl, by unfold bldV; rw [hok]; rfl⟩
    · refine .inl ⟨rfl, ?_⟩
      obtain ⟨s, h1, h2⟩ := build_one (size := 200) hok (by omega)
      exact ⟨s, by unfold bldV; rw [if_pos ⟨hok, by decide, by decide⟩]; exact h1, h2⟩)
  generalize nodeWords n = nw at *
  generalize bldV n 200 = r at *
  refine (HI.out _ (Below.refl _ _)).mono ?_
  rintro e w3 ⟨rfl, hb3⟩
  have HX3 := Lib.hid hb3
  obtain ⟨a0, a1, a2, a3, a4, a5⟩ := cells6 ((hb3.block _ HLT.out).trans HR2.out)
  clear hb3
  go_wp2_with fail
  refine (HB.out _ HX3.out).mono ?_
  rintro e w4 (⟨s, t, rfl, rfl, hb4⟩ | ⟨rfl, rfl, hb4⟩)
  · rcases HV.out with ⟨hok, s', e', hl⟩ | ⟨_, e'⟩
    · injection e' with e'
      injection e' with e1 e2
      subst e1 e2
      have HX4 := Lib.hid (HX3.out.trans (hb4.mono HX3.out.size))
      clear a0 a1 a2 a3 a4 a5 hok HV HO
      obtain ⟨a0, a1, a2, a3, a4, a5⟩ := cells6 ((HX4.out.block _ HLT.out).trans HR2.out)
      clear hb4
      have hsq : ((s.length : Int) == 8 * ((nw : Int) + 1)) = true := by rw [beq_iff_eq]; omega
      clear hl
      go_wp2_with fail
      refine (HS.out _ HX4.out).mono ?_
      rintro e w5 ⟨rfl, hb5⟩
      have HX5 := Lib.hid (HX4.out.trans (hb5.mono HX4.out.size))
      clear hb5
      go_wp2
      go_ret
      exact ⟨rfl, HB2.out.trans (HX5.out.mono HB2.out.size)⟩
    · cases e'
  · rcases HV.out with ⟨_, s', e', _⟩ | ⟨hok, _⟩
    · cases e'
    · have HX4 := Lib.hid (HX3.out.trans (hb4.mono HX3.out.size))
      rw [hok] at HO
      clear a0 a1 a2 a3 a4 a5 HV hok
      obtain ⟨a0, a1, a2, a3, a4, a5⟩ := cells6 ((HX4.out.block _ HLT.out).trans HR2.out)
      clear hb4
      go_wp2_with fail
      refine (HS.out _ HX4.out).mono ?_
      rintro e w5 ⟨rfl, hb5⟩
      have HX5 := Lib.hid (HX4.out.trans (hb5.mono HX4.out.size))
      clear hb5 a0 a1 a2 a3 a4 a5
      obtain ⟨a0, a1, a2, a3, a4, a5⟩ := cells6 ((HX5.out.block _ HLT.out).trans HR2.out)
      go_wp2_with fail
      refine (HS.out _ HX5.out).mono ?_
      rintro e w6 ⟨rfl, hb6⟩
      have HX6 := Lib.hid (HX5.out.trans (hb6.mono HX5.out.size))
      clear hb6 a0 a1 a2 a3 a4 a5
      obtain ⟨a0, a1, a2, a3, a4, a5⟩ := cells6 ((HX6.out.block _ HLT.out).trans HR2.out)
      go_wp2_with fail
      refine (HO.out _ HX6.out).mono ?_
      rintro e w7 ⟨rfl, hb7⟩
      have HX7 := Lib.hid (HX6.out.trans (hb7.mono HX6.out.size))
      clear hb7 a0 a1 a2 a3 a4 a5
      go_wp2
      go_ret
      exact ⟨rfl, HB2.out.trans (HX7.out.mono HB2.out.size)⟩
end Go.Proofs.Ytbhmklbdfmgmlaa
