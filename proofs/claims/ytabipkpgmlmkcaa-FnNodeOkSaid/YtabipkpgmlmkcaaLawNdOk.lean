/- The walk of the law FnNodeOk: true at every code. -/
import Derived.Test.YtabipkpgmlmkcaaNdPure
import Derived.Test.YtabipkpgmlmkcaaNdSpec
import Derived.Test.YtabipkpgmlmkcaaDrawNo
namespace Go.Proofs.Ytabipkpgmlmkcaa
open Go.RowKit
set_option maxHeartbeats 4000000 in
set_option maxRecDepth 100000 in
theorem walkNodeOk (w : World) (a : Option Addr) (len cap : Nat) (h : Arg w a len cap) :
    Calls Try.prog 3 #[.slice a len cap] w fun e w' => e = .returned (.bool true) ∧ Below w.heap.size w w' := by
  have hlen := h.1.1
  unfold maxLen at hlen
  by_cases hbig : 1048576 < len
  · go_enter Try.func3, Try.ntmps3
    go_wp2
    go_ret
    exact ⟨rfl, Below.refl _ _⟩
  have HD := Lib.hid (drawNodeOk_any a len cap w h)
  clear h
  go_enter Try.func3, Try.ntmps3
  go_wp2_with fail
  refine HD.out.mono ?_
  rintro e w1 ⟨n, h1, rfl, hn1, ht1, hb1⟩
  have HB1 := Lib.hid hb1
  have hb2 := (Below.refl w1.heap.size w1).alloc (Nat.le_refl _) (.cells #[.int .i64 n.kind, .string n.data, .slice h1.A n.ptrs.length h1.a, .int .i64 n.size, .int .i64 n.count, .slice h1.B n.items.length h1.b] nodeT)
  have HR2 := Lib.hid (heap_alloc_new w1 (.cells #[.int .i64 n.kind, .string n.data, .slice h1.A n.ptrs.length h1.a, .int .i64 n.size, .int .i64 n.count, .slice h1.B n.items.length h1.b] nodeT))
  have HB2 := Lib.hid (hb1.trans (hb2.mono hb1.size))
  have HN2 := Lib.hid ((hn1.weak (S' := Any) (fun _ _ => trivial)).below hb2)
  have HT : Hid (totN 18 n ≤ 2000000) := Lib.hid (by omega)
  have HT1 := Lib.hid ht1
  clear hb1 hn1 ht1 hb2
  have HLT := Lib.hid (show w1.heap.size < (w1.alloc (.cells #[.int .i64 n.kind, .string n.data, .slice h1.A n.ptrs.length h1.a, .int .i64 n.size, .int .i64 n.count, .slice h1.B n.items.length h1.b] nodeT)).heap.size by simp)
  go_wp2_with fail
  generalize w1.alloc (.cells #[.int .i64 n.kind, .string n.data, .slice h1.A n.ptrs.length h1.a, .int .i64 n.size, .int .i64 n.count, .slice h1.B n.items.length h1.b] nodeT) = W2 at *
  have HI : Hid (∀ W : World, Below W2.heap.size W2 W → Calls Try.prog 10 #[.agg #[.int .i64 n.kind, .string n.data, .slice h1.A n.ptrs.length h1.a, .int .i64 n.size, .int .i64 n.count, .slice h1.B n.items.length h1.b]] W fun e w' => e = .returned (.bool (nodeOk n)) ∧ Below W.heap.size W w') := Lib.hid fun W hW => implNodeOk_a 18 n h1 W Any (HN2.out.below hW) HT.out
  have HS : Hid (∀ W : World, Below W2.heap.size W2 W → Calls Try.prog 11 #[.agg #[.int .i64 n.kind, .string n.data, .slice h1.A n.ptrs.length h1.a, .int .i64 n.size, .int .i64 n.count, .slice h1.B n.items.length h1.b]] W fun e w' => e = .returned (.bool (nodeOk n)) ∧ Below W.heap.size W w') := Lib.hid fun W hW => specNodeOk_a 18 n h1 W Any (HN2.out.below hW) HT.out
  have HW : Hid (∀ W : World, Below W2.heap.size W2 W → Calls Try.prog 12 #[.agg #[.int .i64 n.kind, .string n.data, .slice h1.A n.ptrs.length h1.a, .int .i64 n.size, .int .i64 n.count, .slice h1.B n.items.length h1.b]] W fun e w' => e = .returned (.int .i64 (nodeWords n : Nat)) ∧ Below W.heap.size W w') := Lib.hid fun W hW => implNodeWords_a 18 n h1 W Any (HN2.out.below hW) HT.out
  cases hok : nodeOk n
  · rw [hok] at HI HS
    clear hok
    refine (HI.out _ (Below.refl _ _)).mono ?_
    rintro e w3 ⟨rfl, hb3⟩
    have HX3 := Lib.hid hb3
    obtain ⟨a0, a1, a2, a3, a4, a5⟩ := cells6 ((hb3.block _ HLT.out).trans HR2.out)
    clear hb3
    go_wp2_with fail
    refine (HS.out _ HX3.out).mono ?_
    rintro e w4 ⟨rfl, hb4⟩
    have HX4 := Lib.hid (HX3.out.trans (hb4.mono HX3.out.size))
    clear a0 a1 a2 a3 a4 a5
    obtain ⟨a0, a1, a2, a3, a4, a5⟩ := cells6 ((HX4.out.block _ HLT.out).trans HR2.out)
    clear hb4
    go_wp2_with fail
    refine (HS.out _ HX4.out).mono ?_
    rintro e w5 ⟨rfl, hb5⟩
    have HX5 := Lib.hid (HX4.out.trans (hb5.mono HX4.out.size))
    clear hb5
    go_wp2
    go_ret
    exact ⟨rfl, HB2.out.trans (HX5.out.mono HB2.out.size)⟩
  have HOK := Lib.hid hok
  rw [hok] at HI HS
  clear hok
  refine (HI.out _ (Below.refl _ _)).mono ?_
  rintro e w3 ⟨rfl, hb3⟩
  have HX3 := Lib.hid hb3
  obtain ⟨a0, a1, a2, a3, a4, a5⟩ := cells6 ((hb3.block _ HLT.out).trans HR2.out)
  clear hb3
  go_wp2_with fail
  refine (HS.out _ HX3.out).mono ?_
  rintro e w4 ⟨rfl, hb4⟩
  have HX4 := Lib.hid (HX3.out.trans (hb4.mono HX3.out.size))
  clear a0 a1 a2 a3 a4 a5 hb4
  have hpl : n.ptrs.length ≤ 2000000 := totL_len' HN2.out.2.1 (by have := HT.out; unfold totN at this; omega)
  have hil : n.items.length ≤ 2000000 := totL_len' HN2.out.2.2 (by have := HT.out; unfold totN at this; omega)
  go_wp2_with fail
  go_loopw [5] (fun i wr => ∃ k : Nat, i = .int .i64 k ∧ k ≤ n.ptrs.length ∧ Hid (Below W2.heap.size W2 wr)) (fun i _ => n.ptrs.length - (intOf i).toNat)
  case atStart => exact ⟨0, rfl, by omega, HX4⟩
  case round =>
    obtain ⟨k, rfl, hk, HX⟩ := hrel
    obtain ⟨a0, a1, a2, a3, a4, a5⟩ := cells6 ((HX.out.block _ HLT.out).trans HR2.out)
    by_cases hlt : k < n.ptrs.length
    · obtain ⟨x, hx, hA, hc, hp⟩ := (HN2.out.below HX.out).2.1.at_ (m := 17) hlt
      have htp : totN 17 n.ptrs[k] ≤ 2000000 := by have h1 : 1 + totN 17 n.ptrs[k] ≤ totL 18 n.ptrs := totL_at (m := 17) hlt; have h2 := HT.out; unfold totN at h2; unfold totN at h1 ⊢; omega
      have hpo : nodeOk n.ptrs[k] = true := ok_ptr HOK.out _ (List.getElem_mem hlt)
      generalize n.ptrs[k] = p at hc hp htp hpo
      have HC := Lib.hid (implNodeOk_a 17 p hx wr Any hp htp)
      rw [hpo] at HC
      rw [hA] at a2
      clear hA
      obtain ⟨c0, c1, c2, c3, c4, c5⟩ := hc
      clear hp htp hpo
      go_wp2_with fail
      refine HC.out.mono ?_
      rintro e w5 ⟨rfl, hb5⟩
      have HX5 := Lib.hid (HX.out.trans (hb5.mono HX.out.size))
      clear hb5 HC
      go_wp2
      go_roundw
      case rel => exact ⟨k + 1, by go_num, by omega, HX5⟩
      case measure => simp [intOf]; omega
    · obtain rfl : k = n.ptrs.length := by omega
      go_wp2_with fail
      go_loopw [6] (fun i wr => ∃ k : Nat, i = .int .i64 k ∧ k ≤ n.items.length ∧ Hid (Below W2.heap.size W2 wr)) (fun i _ => n.items.length - (intOf i).toNat)
      case atStart => exact ⟨0, rfl, by omega, HX⟩
      case round =>
        clear a0 a1 a2 a3 a4 a5
        obtain ⟨k, rfl, hk, HX⟩ := hrel
        obtain ⟨a0, a1, a2, a3, a4, a5⟩ := cells6 ((HX.out.block _ HLT.out).trans HR2.out)
        by_cases hlt : k < n.items.length
        · obtain ⟨x, hx, hA, hc, hp⟩ := (HN2.out.below HX.out).2.2.at_ (m := 17) hlt
          have htp : totN 17 n.items[k] ≤ 2000000 := by have h1 : 1 + totN 17 n.items[k] ≤ totL 18 n.items := totL_at (m := 17) hlt; have h2 := HT.out; unfold totN at h2; unfold totN at h1 ⊢; omega
          have hpo : nodeOk n.items[k] = true := ok_item HOK.out _ (List.getElem_mem hlt)
          generalize n.items[k] = p at hc hp htp hpo
          have HC := Lib.hid (implNodeOk_a 17 p hx wr Any hp htp)
          rw [hpo] at HC
          rw [hA] at a5
          clear hA
          obtain ⟨c0, c1, c2, c3, c4, c5⟩ := hc
          clear hp htp hpo
          go_wp2_with fail
          refine HC.out.mono ?_
          rintro e w5 ⟨rfl, hb5⟩
          have HX5 := Lib.hid (HX.out.trans (hb5.mono HX.out.size))
          clear hb5 HC
          go_wp2
          go_roundw
          case rel => exact ⟨k + 1, by go_num, by omega, HX5⟩
          case measure => simp [intOf]; omega
        · obtain rfl : k = n.items.length := by omega
          go_wp2_with fail
          have hax : (wr.alloc (.cells #[.int .i64 n.kind, .string n.data, .slice h1.A n.ptrs.length h1.a, .int .i64 n.size, .int .i64 n.count, .slice h1.B n.items.length h1.b] nodeT)).heap.size = wr.heap.size + 1 := by simp
          have hbx : Below wr.heap.size wr ((wr.alloc (.cells #[.int .i64 n.kind, .string n.data, .slice h1.A n.ptrs.length h1.a, .int .i64 n.size, .int .i64 n.count, .slice h1.B n.items.length h1.b] nodeT)).alloc (.cells #[.int .i64 1, .string { data := #[] }, .slice (some ⟨wr.heap.size, 0, none⟩) 1 1, .int .i64 0, .int .i64 0, .slice none 0 0] nodeT)) := ((Below.refl _ _).alloc (Nat.le_refl _) _).alloc (by simp) _
          have hg0 : ((wr.alloc (.cells #[.int .i64 n.kind, .string n.data, .slice h1.A n.ptrs.length h1.a, .int .i64 n.size, .int .i64 n.count, .slice h1.B n.items.length h1.b] nodeT)).alloc (.cells #[.int .i64 1, .string { data := #[] }, .slice (some ⟨wr.heap.size, 0, none⟩) 1 1, .int .i64 0, .int .i64 0, .slice none 0 0] nodeT)).heap[wr.heap.size]? = some (.cells #[.int .i64 n.kind, .string n.data, .slice h1.A n.ptrs.length h1.a, .int .i64 n.size, .int .i64 n.count, .slice h1.B n.items.length h1.b] nodeT (0, 0)) := heap_alloc_keep (heap_alloc_new wr _) _
          have hg1 : ((wr.alloc (.cells #[.int .i64 n.kind, .string n.data, .slice h1.A n.ptrs.length h1.a, .int .i64 n.size, .int .i64 n.count, .slice h1.B n.items.length h1.b] nodeT)).alloc (.cells #[.int .i64 1, .string { data := #[] }, .slice (some ⟨wr.heap.size, 0, none⟩) 1 1, .int .i64 0, .int .i64 0, .slice none 0 0] nodeT)).heap[wr.heap.size + 1]? = some (.cells #[.int .i64 1, .string { data := #[] }, .slice (some ⟨wr.heap.size, 0, none⟩) 1 1, .int .i64 0, .int .i64 0, .slice none 0 0] nodeT (0, 0)) := hax ▸ heap_alloc_new _ _
          generalize ((wr.alloc (.cells #[.int .i64 n.kind, .string n.data, .slice h1.A n.ptrs.length h1.a, .int .i64 n.size, .int .i64 n.count, .slice h1.B n.items.length h1.b] nodeT)).alloc (.cells #[.int .i64 1, .string { data := #[] }, .slice (some ⟨wr.heap.size, 0, none⟩) 1 1, .int .i64 0, .int .i64 0, .slice none 0 0] nodeT)) = W5 at *
          have HX5 := Lib.hid (HX.out.trans (hbx.mono HX.out.size))
          have hnx : NdAt W5 Any 19 (oneN n) ⟨some ⟨wr.heap.size, 0, none⟩, 1, none, 0⟩ :=
            ⟨show (0 : Nat) ≤ maxLen by decide, nds_of_row (m := 18) (q := [(n, h1)]) hg0 trivial (show 1 ≤ maxLen by decide) (fun j u h => by rw [← h]; simp [rowOf]) (fun r hr => by obtain rfl := List.mem_singleton.1 hr; exact HN2.out.below HX5.out), NdsAt.nil _ _ _ _⟩
          have htx : totN 19 (oneN n) ≤ 2000000 := by
            have : totN 19 (oneN n) = 0 + (1 + totN 18 n + 0) + 0 := rfl
            have := HT1.out
            omega
          have HXO : Hid (∀ (d : Nat) (os : Array Obj), Calls Try.prog 10 #[.agg #[.int .i64 1, .string { data := #[] }, .slice (some ⟨wr.heap.size, 0, none⟩) 1 1, .int .i64 0, .int .i64 0, .slice none 0 0]] («Sort».grow (redrawn W5 d) os) fun e w' => e = .returned (.bool (nodeOk (oneN n))) ∧ Below («Sort».grow (redrawn W5 d) os).heap.size («Sort».grow (redrawn W5 d) os) w') := Lib.hid fun d os => implNodeOk_a 19 (oneN n) ⟨some ⟨wr.heap.size, 0, none⟩, 1, none, 0⟩ _ Any (hnx.below (below_regrown W5 d os)) htx
          have HXW : Hid (∀ (d : Nat) (os : Array Obj), Calls Try.prog 12 #[.agg #[.int .i64 1, .string { data := #[] }, .slice (some ⟨wr.heap.size, 0, none⟩) 1 1, .int .i64 0, .int .i64 0, .slice none 0 0]] («Sort».grow (redrawn W5 d) os) fun e w' => e = .returned (.int .i64 (nodeWords (oneN n) : Nat)) ∧ Below («Sort».grow (redrawn W5 d) os).heap.size («Sort».grow (redrawn W5 d) os) w') := Lib.hid fun d os => implNodeWords_a 19 (oneN n) ⟨some ⟨wr.heap.size, 0, none⟩, 1, none, 0⟩ _ Any (hnx.below (below_regrown W5 d os)) htx
          have HNW : Hid (∀ (d : Nat) (os : Array Obj), Calls Try.prog 12 #[.agg #[.int .i64 n.kind, .string n.data, .slice h1.A n.ptrs.length h1.a, .int .i64 n.size, .int .i64 n.count, .slice h1.B n.items.length h1.b]] («Sort».grow (redrawn W5 d) os) fun e w' => e = .returned (.int .i64 (nodeWords n : Nat)) ∧ Below («Sort».grow (redrawn W5 d) os).heap.size («Sort».grow (redrawn W5 d) os) w') := Lib.hid fun d os => HW.out _ (HX5.out.trans ((below_regrown W5 d os).mono HX5.out.size))
          have HRB := Lib.hid ((HX5.out.block _ HLT.out).trans HR2.out)
          clear a0 a1 a2 a3 a4 a5 hnx htx hbx hg0 hax
          obtain ⟨a0, a1, a2, a3, a4, a5⟩ := cells6 HRB.out
          obtain ⟨b0, b1, b2, b3, b4, b5⟩ := cells6 hg1
          have q0 := cell_regrown a0
          have q1 := cell_regrown a1
          have q2 := cell_regrown a2
          have q3 := cell_regrown a3
          have q4 := cell_regrown a4
          have q5 := cell_regrown a5
          have r0 := cell_regrown b0
          have r1 := cell_regrown b1
          have r2 := cell_regrown b2
          have r3 := cell_regrown b3
          have r4 := cell_regrown b4
          have r5 := cell_regrown b5
          clear hg1
          cases hox : nodeOk (oneN n)
          · rw [hox] at HXO
            clear hox
            refine wp_region_quiet_below (by kernel_rfl) (by kernel_rfl) ?_
            repeat (first | go_big_quiet_step ((go_at_call 10; exact Calls.regrown_of (HXO.out _ _))) | quiet_step ((go_at_call 10; exact Calls.regrown_of (HXO.out _ _))))
            refine wpQuiet_nil ?_
            intro _ hw'
            obtain ⟨⟨dq, osq⟩, hw''⟩ := hw'
            subst hw''
            have HB6 := Lib.hid (HB2.out.trans ((HX5.out.trans ((below_regrown W5 dq osq).mono HX5.out.size)).mono HB2.out.size))
            clear q0 q1 q2 q3 q4 q5 a0 a1 a2 a3 a4 a5 r0 r1 r2 r3 r4 r5 b0 b1 b2 b3 b4 b5
            generalize «Sort».grow (redrawn W5 dq) osq = W6 at HB6 ⊢
            go_wp2
            go_ret
            exact ⟨rfl, HB6.out⟩
          · have hww : nodeWords (oneN n) = nodeWords n + 1 := one_words HOK.out hox
            have hnb : nodeWords n ≤ 199 := by
              unfold nodeWords
              split
              · rename_i h; exact (node_ok h).2
              · omega
            rw [hox] at HXO
            rw [hww] at HXW
            clear hox hww
            generalize nodeWords n = nw at *
            have hwr : IntKind.i64.wrap ((nw : Int) + 1) = ((nw + 1 : Nat) : Int) := by rw [IntKind.wrap_i64]; omega
            refine wp_region_quiet_below (by kernel_rfl) (by kernel_rfl) ?_
            repeat (first | go_big_quiet_step (first | (go_at_call 10; exact Calls.regrown_of (HXO.out _ _)) | (go_at_call 12; first | with_reducible exact Calls.regrown_of (HXW.out _ _) | with_reducible exact Calls.regrown_of (HNW.out _ _))) | quiet_step (first | (go_at_call 10; exact Calls.regrown_of (HXO.out _ _)) | (go_at_call 12; first | with_reducible exact Calls.regrown_of (HXW.out _ _) | with_reducible exact Calls.regrown_of (HNW.out _ _))))
            refine wpQuiet_nil ?_
            intro _ hw'
            obtain ⟨⟨dq, osq⟩, hw''⟩ := hw'
            subst hw''
            have HB6 := Lib.hid (HB2.out.trans ((HX5.out.trans ((below_regrown W5 dq osq).mono HX5.out.size)).mono HB2.out.size))
            clear q0 q1 q2 q3 q4 q5 a0 a1 a2 a3 a4 a5 r0 r1 r2 r3 r4 r5 b0 b1 b2 b3 b4 b5
            generalize «Sort».grow (redrawn W5 dq) osq = W6 at HB6 ⊢
            go_wp2
            go_ret
            exact ⟨rfl, HB6.out⟩
end Go.Proofs.Ytabipkpgmlmkcaa
