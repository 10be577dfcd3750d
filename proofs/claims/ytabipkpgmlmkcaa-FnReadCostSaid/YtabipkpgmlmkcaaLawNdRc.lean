/- The walk of the law FnReadCost: true at every code. -/
import Derived.Test.YtabipkpgmlmkcaaNdPure
import Derived.Test.YtabipkpgmlmkcaaNdSpec
import Derived.Test.YtabipkpgmlmkcaaDrawNo
namespace Go.Proofs.Ytabipkpgmlmkcaa
open Go.RowKit
set_option maxHeartbeats 4000000 in
set_option maxRecDepth 100000 in
theorem walkReadCost (w : World) (a : Option Addr) (len cap : Nat) (h : Arg w a len cap) :
    Calls Try.prog 4 #[.slice a len cap] w fun e w' => e = .returned (.bool true) ∧ Below w.heap.size w w' := by
  have hlen := h.1.1
  unfold maxLen at hlen
  by_cases hbig : 1048576 < len
  · go_enter Try.func4, Try.ntmps4
    go_wp2
    go_ret
    exact ⟨rfl, Below.refl _ _⟩
  have HD := Lib.hid (drawReadCost_any a len cap w h)
  clear h
  go_enter Try.func4, Try.ntmps4
  go_wp2_with fail
  refine HD.out.mono ?_
  rintro e w1 ⟨n, h1, rfl, hn1, ht1, hb1⟩
  have HB1 := Lib.hid hb1
  have hb2 := (Below.refl w1.heap.size w1).alloc (Nat.le_refl _) (.cells #[.int .i64 n.kind, .string n.data, .slice h1.A n.ptrs.length h1.a, .int .i64 n.size, .int .i64 n.count, .slice h1.B n.items.length h1.b] nodeT)
  have HR2 := Lib.hid (heap_alloc_new w1 (.cells #[.int .i64 n.kind, .string n.data, .slice h1.A n.ptrs.length h1.a, .int .i64 n.size, .int .i64 n.count, .slice h1.B n.items.length h1.b] nodeT))
  have HB2 := Lib.hid (hb1.trans (hb2.mono hb1.size))
  have HN2 := Lib.hid ((hn1.weak (S' := Any) (fun _ _ => trivial)).below hb2)
  have HT : Hid (totN 18 n ≤ 2000000) := Lib.hid (by omega)
  have HT1 := Lib.hid ht1
  clear hb1 hn1 ht1 hb2
  have HLT := Lib.hid (show w1.heap.size < (w1.alloc (.cells #[.int .i64 n.kind, .string n.data, .slice h1.A n.ptrs.length h1.a, .int .i64 n.size, .int .i64 n.count, .slice h1.B n.items.length h1.b] nodeT)).heap.size by simp)
  go_wp2_with fail
  generalize w1.alloc (.cells #[.int .i64 n.kind, .string n.data, .slice h1.A n.ptrs.length h1.a, .int .i64 n.size, .int .i64 n.count, .slice h1.B n.items.length h1.b] nodeT) = W2 at *
  have HRC : Hid (∀ W : World, Below W2.heap.size W2 W → Calls Try.prog 14 #[.agg #[.int .i64 n.kind, .string n.data, .slice h1.A n.ptrs.length h1.a, .int .i64 n.size, .int .i64 n.count, .slice h1.B n.items.length h1.b]] W fun e w' => e = .returned (.int .i64 (nodeCost n : Nat)) ∧ Below W.heap.size W w') := Lib.hid fun W hW => implReadCost_a 18 n h1 W Any (HN2.out.below hW) HT.out
  have HSC : Hid (∀ W : World, Below W2.heap.size W2 W → Calls Try.prog 15 #[.agg #[.int .i64 n.kind, .string n.data, .slice h1.A n.ptrs.length h1.a, .int .i64 n.size, .int .i64 n.count, .slice h1.B n.items.length h1.b]] W fun e w' => e = .returned (.int .i64 (nodeCost n : Nat)) ∧ Below W.heap.size W w') := Lib.hid fun W hW => specReadCost_a 18 n h1 W Any (HN2.out.below hW) HT.out
  have HI : Hid (∀ W : World, Below W2.heap.size W2 W → Calls Try.prog 10 #[.agg #[.int .i64 n.kind, .string n.data, .slice h1.A n.ptrs.length h1.a, .int .i64 n.size, .int .i64 n.count, .slice h1.B n.items.length h1.b]] W fun e w' => e = .returned (.bool (nodeOk n)) ∧ Below W.heap.size W w') := Lib.hid fun W hW => implNodeOk_a 18 n h1 W Any (HN2.out.below hW) HT.out
  have HS : Hid (∀ W : World, Below W2.heap.size W2 W → Calls Try.prog 11 #[.agg #[.int .i64 n.kind, .string n.data, .slice h1.A n.ptrs.length h1.a, .int .i64 n.size, .int .i64 n.count, .slice h1.B n.items.length h1.b]] W fun e w' => e = .returned (.bool (nodeOk n)) ∧ Below W.heap.size W w') := Lib.hid fun W hW => specNodeOk_a 18 n h1 W Any (HN2.out.below hW) HT.out
  have HW : Hid (∀ W : World, Below W2.heap.size W2 W → Calls Try.prog 12 #[.agg #[.int .i64 n.kind, .string n.data, .slice h1.A n.ptrs.length h1.a, .int .i64 n.size, .int .i64 n.count, .slice h1.B n.items.length h1.b]] W fun e w' => e = .returned (.int .i64 (nodeWords n : Nat)) ∧ Below W.heap.size W w') := Lib.hid fun W hW => implNodeWords_a 18 n h1 W Any (HN2.out.below hW) HT.out
  cases hok : nodeOk n
  · rw [hok] at HS
    have HC0 : Hid (nodeCost n = 0) := Lib.hid (by unfold nodeCost; rw [hok]; rfl)
    rw [HC0.out] at HRC HSC
    clear hok
    refine (HRC.out _ (Below.refl _ _)).mono ?_
    rintro e w3 ⟨rfl, hb3⟩
    have HX3 := Lib.hid hb3
    obtain ⟨a0, a1, a2, a3, a4, a5⟩ := cells6 ((hb3.block _ HLT.out).trans HR2.out)
    clear hb3
    go_wp2_with fail
    refine (HSC.out _ HX3.out).mono ?_
    rintro e w4 ⟨rfl, hb4⟩
    have HX4 := Lib.hid (HX3.out.trans (hb4.mono HX3.out.size))
    clear a0 a1 a2 a3 a4 a5
    obtain ⟨a0, a1, a2, a3, a4, a5⟩ := cells6 ((HX4.out.block _ HLT.out).trans HR2.out)
    clear hb4
    go_wp2_with fail
    refine (HS.out _ HX4.out).mono ?_
    rintro e w5 ⟨rfl, hb5⟩
    have HX5 := Lib.hid (HX4.out.trans (hb5.mono HX4.out.size))
    clear a0 a1 a2 a3 a4 a5
    obtain ⟨a0, a1, a2, a3, a4, a5⟩ := cells6 ((HX5.out.block _ HLT.out).trans HR2.out)
    clear hb5
    go_wp2_with fail
    refine (HSC.out _ HX5.out).mono ?_
    rintro e w6 ⟨rfl, hb6⟩
    have HX6 := Lib.hid (HX5.out.trans (hb6.mono HX5.out.size))
    clear hb6
    go_wp2
    go_ret
    exact ⟨rfl, HB2.out.trans (HX6.out.mono HB2.out.size)⟩
  have HOK := Lib.hid hok
  have hcw : nodeWords n ≤ nodeCost n := cost_words hok
  have hcb : nodeCost n ≤ 3000000 := by
    unfold nodeCost
    rw [hok, if_pos rfl]
    have := cost_le 8 n (node_ok hok).1
    have := (node_ok hok).2
    omega
  have HXC : Hid (nodeOk (oneN n) = true → nodeCost (oneN n) = nodeCost n + 1) := Lib.hid fun h => one_cost HOK.out h
  rw [hok] at HI HS
  clear hok
  generalize nodeWords n = nw at *
  generalize nodeCost n = nc at *
  refine (HRC.out _ (Below.refl _ _)).mono ?_
  rintro e w3 ⟨rfl, hb3⟩
  have HX3 := Lib.hid hb3
  obtain ⟨a0, a1, a2, a3, a4, a5⟩ := cells6 ((hb3.block _ HLT.out).trans HR2.out)
  clear hb3
  go_wp2_with fail
  refine (HSC.out _ HX3.out).mono ?_
  rintro e w4 ⟨rfl, hb4⟩
  have HX4 := Lib.hid (HX3.out.trans (hb4.mono HX3.out.size))
  clear a0 a1 a2 a3 a4 a5
  obtain ⟨a0, a1, a2, a3, a4, a5⟩ := cells6 ((HX4.out.block _ HLT.out).trans HR2.out)
  clear hb4
  go_wp2_with fail
  refine (HS.out _ HX4.out).mono ?_
  rintro e wr ⟨rfl, hbr⟩
  have HX := Lib.hid (HX4.out.trans (hbr.mono HX4.out.size))
  clear a0 a1 a2 a3 a4 a5
  obtain ⟨a0, a1, a2, a3, a4, a5⟩ := cells6 ((HX.out.block _ HLT.out).trans HR2.out)
  clear hbr
  have hax : (wr.alloc (.cells #[.int .i64 n.kind, .string n.data, .slice h1.A n.ptrs.length h1.a, .int .i64 n.size, .int .i64 n.count, .slice h1.B n.items.length h1.b] nodeT)).heap.size = wr.heap.size + 1 := by simp
  have hbx : Below wr.heap.size wr ((wr.alloc (.cells #[.int .i64 n.kind, .string n.data, .slice h1.A n.ptrs.length h1.a, .int .i64 n.size, .int .i64 n.count, .slice h1.B n.items.length h1.b] nodeT)).alloc (.cells #[.int .i64 1, .string { data := #[] }, .slice (some ⟨wr.heap.size, 0, none⟩) 1 1, .int .i64 0, .int .i64 0, .slice none 0 0] nodeT)) := ((Below.refl _ _).alloc (Nat.le_refl _) _).alloc (by simp) _
  have hg0 : ((wr.alloc (.cells #[.int .i64 n.kind, .string n.data, .slice h1.A n.ptrs.length h1.a, .int .i64 n.size, .int .i64 n.count, .slice h1.B n.items.length h1.b] nodeT)).alloc (.cells #[.int .i64 1, .string { data := #[] }, .slice (some ⟨wr.heap.size, 0, none⟩) 1 1, .int .i64 0, .int .i64 0, .slice none 0 0] nodeT)).heap[wr.heap.size]? = some (.cells #[.int .i64 n.kind, .string n.data, .slice h1.A n.ptrs.length h1.a, .int .i64 n.size, .int .i64 n.count, .slice h1.B n.items.length h1.b] nodeT (0, 0)) := heap_alloc_keep (heap_alloc_new wr _) _
  have hg1 : ((wr.alloc (.cells #[.int .i64 n.kind, .string n.data, .slice h1.A n.ptrs.length h1.a, .int .i64 n.size, .int .i64 n.count, .slice h1.B n.items.length h1.b] nodeT)).alloc (.cells #[.int .i64 1, .string { data := #[] }, .slice (some ⟨wr.heap.size, 0, none⟩) 1 1, .int .i64 0, .int .i64 0, .slice none 0 0] nodeT)).heap[wr.heap.size + 1]? = some (.cells #[.int .i64 1, .string { data := #[] }, .slice (some ⟨wr.heap.size, 0, none⟩) 1 1, .int .i64 0, .int .i64 0, .slice none 0 0] nodeT (0, 0)) := hax ▸ heap_alloc_new _ _
  have HX5 := Lib.hid (HX.out.trans (hbx.mono HX.out.size))
  have HRB := Lib.hid ((HX5.out.block _ HLT.out).trans HR2.out)
  obtain ⟨z0, z1, z2, z3, z4, z5⟩ := cells6 HRB.out
  have HBX := Lib.hid hbx
  have HG0 := Lib.hid hg0
  have HG1 := Lib.hid hg1
  clear hax hbx hg0 hg1
  go_wp2_with fail
  clear z0 z1 z2 z3 z4 z5 a0 a1 a2 a3 a4 a5
  generalize ((wr.alloc (.cells #[.int .i64 n.kind, .string n.data, .slice h1.A n.ptrs.length h1.a, .int .i64 n.size, .int .i64 n.count, .slice h1.B n.items.length h1.b] nodeT)).alloc (.cells #[.int .i64 1, .string { data := #[] }, .slice (some ⟨wr.heap.size, 0, none⟩) 1 1, .int .i64 0, .int .i64 0, .slice none 0 0] nodeT)) = W5 at *
  have hnx : NdAt W5 Any 19 (oneN n) ⟨some ⟨wr.heap.size, 0, none⟩, 1, none, 0⟩ :=
    ⟨show (0 : Nat) ≤ maxLen by decide, nds_of_row (m := 18) (q := [(n, h1)]) HG0.out trivial (show 1 ≤ maxLen by decide) (fun j u h => by rw [← h]; simp [rowOf]) (fun r hr => by obtain rfl := List.mem_singleton.1 hr; exact HN2.out.below HX5.out), NdsAt.nil _ _ _ _⟩
  have htx : totN 19 (oneN n) ≤ 2000000 := by
    have : totN 19 (oneN n) = 0 + (1 + totN 18 n + 0) + 0 := rfl
    have := HT1.out
    omega
  have HXO : Hid (∀ W : World, Below W5.heap.size W5 W → Calls Try.prog 10 #[.agg #[.int .i64 1, .string { data := #[] }, .slice (some ⟨wr.heap.size, 0, none⟩) 1 1, .int .i64 0, .int .i64 0, .slice none 0 0]] W fun e w' => e = .returned (.bool (nodeOk (oneN n))) ∧ Below W.heap.size W w') := Lib.hid fun W hW => implNodeOk_a 19 (oneN n) ⟨some ⟨wr.heap.size, 0, none⟩, 1, none, 0⟩ _ Any (hnx.below hW) htx
  have HXR : Hid (∀ W : World, Below W5.heap.size W5 W → Calls Try.prog 14 #[.agg #[.int .i64 1, .string { data := #[] }, .slice (some ⟨wr.heap.size, 0, none⟩) 1 1, .int .i64 0, .int .i64 0, .slice none 0 0]] W fun e w' => e = .returned (.int .i64 (nodeCost (oneN n) : Nat)) ∧ Below W.heap.size W w') := Lib.hid fun W hW => implReadCost_a 19 (oneN n) ⟨some ⟨wr.heap.size, 0, none⟩, 1, none, 0⟩ _ Any (hnx.below hW) htx
  clear hnx htx
  have HLA := Lib.hid (row_lt HRB.out)
  have HLB := Lib.hid (row_lt HG1.out)
  have hge : decide ((nc : Int) < (nw : Int)) = false := decide_eq_false (by omega)
  have hge2 : decide ((nw : Int) ≤ (nc : Int)) = true := decide_eq_true (by omega)
  have HW5 : Hid (∀ W : World, Below W5.heap.size W5 W → Calls Try.prog 12 #[.agg #[.int .i64 n.kind, .string n.data, .slice h1.A n.ptrs.length h1.a, .int .i64 n.size, .int .i64 n.count, .slice h1.B n.items.length h1.b]] W fun e w' => e = .returned (.int .i64 (nw : Nat)) ∧ Below W.heap.size W w') := Lib.hid fun W hW => HW.out _ (HX5.out.trans (hW.mono HX5.out.size))
  refine (HW5.out _ (Below.refl _ _)).mono ?_
  rintro e w6 ⟨rfl, hb6⟩
  have HY6 := Lib.hid hb6
  clear hb6
  obtain ⟨a0, a1, a2, a3, a4, a5⟩ := cells6 ((HY6.out.block _ HLA.out).trans HRB.out)
  obtain ⟨b0, b1, b2, b3, b4, b5⟩ := cells6 ((HY6.out.block _ HLB.out).trans HG1.out)
  go_wp2_with fail
  cases hox : nodeOk (oneN n)
  · rw [hox] at HXO
    clear hox
    refine (HXO.out _ HY6.out).mono ?_
    rintro e w7 ⟨rfl, hb7⟩
    have HY7 := Lib.hid (HY6.out.trans (hb7.mono HY6.out.size))
    clear a0 a1 a2 a3 a4 a5 b0 b1 b2 b3 b4 b5 hb7
    obtain ⟨a0, a1, a2, a3, a4, a5⟩ := cells6 ((HY7.out.block _ HLA.out).trans HRB.out)
    obtain ⟨b0, b1, b2, b3, b4, b5⟩ := cells6 ((HY7.out.block _ HLB.out).trans HG1.out)
    go_wp2_with fail
    go_ret
    exact ⟨rfl, HB2.out.trans ((HX5.out.trans (HY7.out.mono HX5.out.size)).mono HB2.out.size)⟩
  · have hcc := HXC.out hox
    rw [hox] at HXO
    rw [hcc] at HXR
    clear hox hcc
    have hwr : IntKind.i64.wrap ((nc : Int) + 1) = ((nc + 1 : Nat) : Int) := by rw [IntKind.wrap_i64]; omega
    refine (HXO.out _ HY6.out).mono ?_
    rintro e w7 ⟨rfl, hb7⟩
    have HY7 := Lib.hid (HY6.out.trans (hb7.mono HY6.out.size))
    clear a0 a1 a2 a3 a4 a5 b0 b1 b2 b3 b4 b5 hb7
    obtain ⟨a0, a1, a2, a3, a4, a5⟩ := cells6 ((HY7.out.block _ HLA.out).trans HRB.out)
    obtain ⟨b0, b1, b2, b3, b4, b5⟩ := cells6 ((HY7.out.block _ HLB.out).trans HG1.out)
    go_wp2_with fail
    refine (HXR.out _ HY7.out).mono ?_
    rintro e w8 ⟨rfl, hb8⟩
    have HY8 := Lib.hid (HY7.out.trans (hb8.mono HY7.out.size))
    clear a0 a1 a2 a3 a4 a5 b0 b1 b2 b3 b4 b5 hb8
    obtain ⟨a0, a1, a2, a3, a4, a5⟩ := cells6 ((HY8.out.block _ HLA.out).trans HRB.out)
    obtain ⟨b0, b1, b2, b3, b4, b5⟩ := cells6 ((HY8.out.block _ HLB.out).trans HG1.out)
    go_wp2_with fail
    go_ret
    exact ⟨rfl, HB2.out.trans ((HX5.out.trans (HY8.out.mono HX5.out.size)).mono HB2.out.size)⟩
end Go.Proofs.Ytabipkpgmlmkcaa
