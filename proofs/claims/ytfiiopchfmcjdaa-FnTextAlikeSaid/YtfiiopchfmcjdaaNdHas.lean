/- Which parts a node has; how many words it takes by itself. -/
import Derived.Test.YtfiiopchfmcjdaaNdList
namespace Go.Proofs.Ytfiiopchfmcjdaa
open Go.RowKit
def noneN (n : Nd) : Bool := noneB n.data n.ptrs.length n.size n.count n.items.length
def strN (n : Nd) : Bool := structB n.kind n.data n.size n.count n.items.length
/-- a node has the parts of its kind. -/
def formN (n : Nd) : Bool := decide (n.kind = 0) && noneN n || (strN n || listN n)
abbrev boxN (n : Nd) (h : Hd) : Obj := .cells #[.int .i64 n.kind, .string n.data, .slice h.A n.ptrs.length h.a, .int .i64 n.size, .int .i64 n.count, .slice h.B n.items.length h.b] nodeT (0, 0)
set_option maxHeartbeats 4000000 in
set_option maxRecDepth 100000 in
theorem hasParts_a (m : Nat) (n : Nd) (h : Hd) (w : World) (S : Nat → Prop) (hn : NdAt w S m n h) (hlm : n.items.length ≤ 2000000) (hpm : n.ptrs.length ≤ 2000000) :
    Calls Try.prog 57 #[.agg #[.int .i64 n.kind, .string n.data, .slice h.A n.ptrs.length h.a, .int .i64 n.size, .int .i64 n.count, .slice h.B n.items.length h.b]] w fun e w' => e = .returned (.bool (formN n)) ∧ Below w.heap.size w w' := by
  have hba := (Below.refl w.heap.size w).alloc (Nat.le_refl _) (.cells #[.int .i64 n.kind, .string n.data, .slice h.A n.ptrs.length h.a, .int .i64 n.size, .int .i64 n.count, .slice h.B n.items.length h.b] nodeT)
  have hr := heap_alloc_new w (.cells #[.int .i64 n.kind, .string n.data, .slice h.A n.ptrs.length h.a, .int .i64 n.size, .int .i64 n.count, .slice h.B n.items.length h.b] nodeT)
  have hsz : w.heap.size < (w.alloc (.cells #[.int .i64 n.kind, .string n.data, .slice h.A n.ptrs.length h.a, .int .i64 n.size, .int .i64 n.count, .slice h.B n.items.length h.b] nodeT)).heap.size := by simp
  have HN := Lib.hid hn
  have HNO : Hid (∀ W : World, Calls Try.prog 72 #[.agg #[.int .i64 n.kind, .string n.data, .slice h.A n.ptrs.length h.a, .int .i64 n.size, .int .i64 n.count, .slice h.B n.items.length h.b]] W fun e w' => e = .returned (.bool (noneN n)) ∧ Below W.heap.size W w') := Lib.hid fun W => isNothing_any _ _ _ _ _ _ _ _ _ _ W
  have HST : Hid (∀ W : World, Calls Try.prog 73 #[.agg #[.int .i64 n.kind, .string n.data, .slice h.A n.ptrs.length h.a, .int .i64 n.size, .int .i64 n.count, .slice h.B n.items.length h.b]] W fun e w' => e = .returned (.bool (strN n)) ∧ Below W.heap.size W w') := Lib.hid fun W => isStruct_any _ _ _ _ _ _ _ _ _ _ W
  have HLI : Hid (∀ W : World, Below w.heap.size w W → Calls Try.prog 74 #[.agg #[.int .i64 n.kind, .string n.data, .slice h.A n.ptrs.length h.a, .int .i64 n.size, .int .i64 n.count, .slice h.B n.items.length h.b]] W fun e w' => e = .returned (.bool (listN n)) ∧ Below W.heap.size W w') := Lib.hid fun W hb => isList_a m _ _ _ _ _ _ _ _ _ _ W S (hn.2.2.below hb) hn.1 hlm hpm
  have HF : Hid (formN n = (decide (n.kind = 0) && noneN n || (strN n || listN n))) := Lib.hid rfl
  generalize noneN n = bn at *
  generalize strN n = bs at *
  generalize listN n = bl at *
  generalize formN n = bf at *
  have HBA := Lib.hid hba
  have HR := Lib.hid hr
  clear hn hba hr
  by_cases hk : n.kind = 0
  · have hkb : (n.kind == 0) = true := by rw [hk]; rfl
    have hkd : decide (n.kind = 0) = true := by simpa using hk
    rw [hkd] at HF
    clear hkd hk
    go_enter Try.func57, Try.ntmps57
    go_wp2_with fail
    refine (HNO.out _).mono ?_
    rintro e w1 ⟨rfl, hb1⟩
    have HB1 := Lib.hid (HBA.out.trans (hb1.mono HBA.out.size))
    have hr1 := (hb1.block w.heap.size hsz).trans HR.out
    have hlt1 := row_lt hr1
    have HR1 := Lib.hid hr1
    obtain ⟨a0, a1, a2, a3, a4, a5⟩ := cells6 hr1
    clear hr1 hb1
    cases bn
    · go_wp2_with fail
      clear a0 a1 a2 a3 a4 a5
      refine (HST.out _).mono ?_
      rintro e w2 ⟨rfl, hb2⟩
      have HB2 := Lib.hid (HB1.out.trans (hb2.mono (by have := (HB1.out).size; omega)))
      have hr2 := (hb2.block w.heap.size hlt1).trans HR1.out
      have hlt2 := row_lt hr2
      have HR2 := Lib.hid hr2
      obtain ⟨c0, c1, c2, c3, c4, c5⟩ := cells6 hr2
      clear hr2 hb2
      cases bs
      · go_wp2_with fail
        refine (HLI.out _ HB2.out).mono ?_
        rintro e w3 ⟨rfl, hb3⟩
        have HB3 := Lib.hid (HB2.out.trans (hb3.mono HB2.out.size))
        clear hb3
        go_wp2
        go_ret
        exact ⟨by rw [HF.out]; exact ret_bool (by simp), HB3.out⟩
      · go_wp2
        go_ret
        exact ⟨by rw [HF.out]; exact ret_bool (by simp), HB2.out⟩
    · go_wp2
      go_ret
      exact ⟨by rw [HF.out]; exact ret_bool (by simp), HB1.out⟩
  · have hkb : (n.kind == 0) = false := by simpa using hk
    have hkd : decide (n.kind = 0) = false := by simpa using hk
    rw [hkd] at HF
    clear hkd hk
    go_enter Try.func57, Try.ntmps57
    go_wp2_with fail
    refine (HST.out _).mono ?_
    rintro e w2 ⟨rfl, hb2⟩
    have HB2 := Lib.hid (HBA.out.trans (hb2.mono (by have := (HBA.out).size; omega)))
    have hr2 := (hb2.block w.heap.size hsz).trans HR.out
    have hlt2 := row_lt hr2
    have HR2 := Lib.hid hr2
    obtain ⟨c0, c1, c2, c3, c4, c5⟩ := cells6 hr2
    clear hr2 hb2
    cases bs
    · go_wp2_with fail
      refine (HLI.out _ HB2.out).mono ?_
      rintro e w3 ⟨rfl, hb3⟩
      have HB3 := Lib.hid (HB2.out.trans (hb3.mono HB2.out.size))
      clear hb3
      go_wp2
      go_ret
      exact ⟨by rw [HF.out]; exact ret_bool (by simp), HB3.out⟩
    · go_wp2
      go_ret
      exact ⟨by rw [HF.out]; exact ret_bool (by simp), HB2.out⟩
end Go.Proofs.Ytfiiopchfmcjdaa
