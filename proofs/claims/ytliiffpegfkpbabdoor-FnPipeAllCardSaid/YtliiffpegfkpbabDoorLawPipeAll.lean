/- The walk of the law FnPipeAll. -/
import Derived.Test.YtliiffpegfkpbabDoorFeedM
import Derived.Test.YtliiffpegfkpbabDoorLawFramePart
namespace Go.Proofs.YtliiffpegfkpbabDoor
open Go.RowKit
/-- two lists, as they read. -/
theorem RS.two {w : World} {v : Value} {q : List Inn} {ss tt : List ByteArray} (h : RS w v q) (hq : q.map (·.2) = [ss, tt]) :
    ∃ x cap A1 c1 A2 c2, v = .slice (some x) 2 cap ∧ w.cell? (x.add 0) = some (.slice A1 ss.length c1) ∧ w.cell? (x.add 1) = some (.slice A2 tt.length c2) ∧ Strs w A1 ss ∧ Strs w A2 tt := by
  obtain ⟨A, c, rfl, hA, hi⟩ := h
  match q, hq with
  | [r1, r2], hq =>
    simp only [List.map_cons, List.map_nil, List.cons.injEq, and_true] at hq
    obtain ⟨rfl, rfl⟩ := hq
    obtain ⟨x, rfl, _, hc⟩ := hA.resolve_left (by simp)
    obtain ⟨A1, c1, e1, s1⟩ := hi r1 (List.mem_cons_self)
    obtain ⟨A2, c2, e2, s2⟩ := hi r2 (List.mem_cons_of_mem _ (List.mem_cons_self))
    have h0 := hc 0 (by simp)
    have h1 := hc 1 (by simp)
    simp only [List.map_cons, List.map_nil, List.getElem_cons_zero, List.getElem_cons_succ] at h0 h1
    rw [e1] at h0
    rw [e2] at h1
    exact ⟨x, c, A1, c1, A2, c2, rfl, h0, h1, s1, s2⟩
theorem eql_pip (w : World) : (binOp .eql 33 (.agg #[.string { data := #[] }, .bool false]) (.agg #[.string { data := #[] }, .bool false])).run Tryd.prog w = .ok (.bool true) w := by
  rw [run_eql_struct]
  go_simp
theorem guard_pip (x y : Operand) (w : World) : (eqGuard .eql 33 x y (.agg #[.string { data := #[] }, .bool false]) (.agg #[.string { data := #[] }, .bool false])).run Tryd.prog w = .ok () w := run_eqGuard_agg w _ _ _ _ _ _ (by kernel_rfl)
set_option maxHeartbeats 8000000 in
set_option maxRecDepth 100000 in
theorem walkFnPipeAll (w : World) (a : Option Addr) (len cap : Nat) (h : Arg w a len cap) (a2 : Option Addr) (len2 cap2 : Nat) (h2 : Arg w a2 len2 cap2) :
    Calls Tryd.prog 4 #[.slice a len cap, .slice a2 len2 cap2] w fun e w' => e = .returned (.bool true) ∧ Below w.heap.size w w' := by
  have hlen := h.1.1
  have hlen2 := h2.1.1
  unfold maxLen at hlen hlen2
  by_cases hbig : 1048576 < len
  · go_enter Tryd.func4, Tryd.ntmps4
    go_wp2
    go_ret
    exact ⟨rfl, Below.refl _ _⟩
  by_cases hbig2 : 1048576 < len2
  · go_enter Tryd.func4, Tryd.ntmps4
    go_wp2
    go_ret
    exact ⟨rfl, Below.refl _ _⟩
  go_enter Tryd.func4, Tryd.ntmps4
  go_wp2_with fail
  refine (drawFramePut_any a len cap _ h).mono ?_
  rintro e w1 ⟨A, cp, ss, rfl, hl, hall, hst, hb⟩
  have hn : ss.length ≤ 1048576 := by omega
  have htot : tot ss ≤ 13600 := Nat.le_trans (tot_le8 ss 1700 hall) (by omega)
  have HST := Lib.hid hst
  clear hst hall
  go_wp2_with fail
  refine (drawFramePut_any a2 len2 cap2 _ (h2.below hb)).mono ?_
  rintro e w2 ⟨B, cq, tt, rfl, hl2, hall2, hst2, hb2⟩
  have hn2 : tt.length ≤ 1048576 := by omega
  have htot2 : tot tt ≤ 13600 := Nat.le_trans (tot_le8 tt 1700 hall2) (by omega)
  have HST2 := Lib.hid hst2
  replace HST := Lib.hid (HST.out.below hb2)
  replace hb := hb.trans (hb2.mono hb.size)
  clear hst2 hall2 hb2
  go_wp2_with fail
  refine (implFramePut_any A cp ss _ HST.out hn).mono ?_
  rintro e w3 ⟨rfl, hb3⟩
  replace HST := Lib.hid (HST.out.below hb3)
  replace HST2 := Lib.hid (HST2.out.below hb3)
  replace hb := hb.trans (hb3.mono hb.size)
  have HSP : Hid (∀ w : World, Strs w A ss → Calls Tryd.prog 9 #[.slice A ss.length cp] w fun e w' => e = .returned (.string ⟨(frameL ss).toArray⟩) ∧ Below w.heap.size w w') := Lib.hid (fun w h => specFramePut_any A cp ss w h hn (by omega))
  obtain ⟨X, hX⟩ : ∃ X, (⟨(frameL ss).toArray⟩ : ByteArray) = X := ⟨_, rfl⟩
  rw [hX] at HSP ⊢
  clear hb3
  go_wp2_with fail
  refine (implFramePut_any B cq tt _ HST2.out hn2).mono ?_
  rintro e w4 ⟨rfl, hb4⟩
  replace HST := Lib.hid (HST.out.below hb4)
  replace HST2 := Lib.hid (HST2.out.below hb4)
  replace hb := hb.trans (hb4.mono hb.size)
  obtain ⟨Y, hY⟩ : ∃ Y, (⟨(frameL tt).toArray⟩ : ByteArray) = Y := ⟨_, rfl⟩
  rw [hY]
  clear hb4
  have fin : ∀ ss : List ByteArray, ∀ X : ByteArray, (⟨(frameL ss).toArray⟩ : ByteArray) = X → frOk ss = false → X = ⟨#[]⟩ := fun ss X hX hok => by
    rw [← hX, frameL, hok, if_neg (by simp)]
  cases hok : frOk ss
  · have hX0 := fin ss X hX hok
    clear fin hX hY hok
    subst hX0
    go_wp2_with fail
    refine (HSP.out _ HST.out).mono ?_
    rintro e w5 ⟨rfl, hb5⟩
    replace HST := Lib.hid (HST.out.below hb5)
    replace hb := hb.trans (hb5.mono hb.size)
    go_wp2_with fail
    refine (HSP.out _ HST.out).mono ?_
    rintro e w6 ⟨rfl, hb6⟩
    replace hb := hb.trans (hb6.mono hb.size)
    go_wp2
    go_ret
    exact ⟨rfl, hb⟩
  obtain ⟨hm8, hx8, hx16⟩ := fr_mod8 hok
  have hXl : X.data.toList = frameL ss := by rw [← hX]
  have hXs : X.size = (frameL ss).length := by rw [← hX, mk_size]
  have he := str_not_empty X (by omega)
  cases hok2 : frOk tt
  · have hY0 := fin tt Y hY hok2
    clear fin hX hY hok hok2 hm8 hx8 hx16 hXl hXs
    subst hY0
    go_wp2_with fail
    refine (HSP.out _ HST.out).mono ?_
    rintro e w5 ⟨rfl, hb5⟩
    replace HST := Lib.hid (HST.out.below hb5)
    replace hb := hb.trans (hb5.mono hb.size)
    go_wp2_with fail
    refine (HSP.out _ HST.out).mono ?_
    rintro e w6 ⟨rfl, hb6⟩
    replace hb := hb.trans (hb6.mono hb.size)
    go_wp2
    go_ret
    exact ⟨rfl, hb⟩
  obtain ⟨hm8b, hy8, hy16⟩ := fr_mod8 hok2
  have hYl : Y.data.toList = frameL tt := by rw [← hY]
  have hYs : Y.size = (frameL tt).length := by rw [← hY, mk_size]
  have he2 := str_not_empty Y (by omega)
  have hxy : (X ++ Y).data.toList = frameL ss ++ frameL tt := by simp [hXl, hYl]
  have hxys : (X ++ Y).size = X.size + Y.size := by simp
  have hcut : (X ++ Y).extract X.size (X ++ Y).size = Y := by
    apply ext_ba
    rw [hxys, Lib.extract_data, hxy, hXs, List.drop_append_of_le_length (by omega), List.drop_of_length_le (by omega), List.nil_append, hYl, List.take_of_length_le]
    omega
  have hG1 := fg_frame hok (X ++ Y) (frameL tt) hxy
  have hG2 := fg_frame hok2 Y [] (by rw [hYl, List.append_nil])
  have hF1 : feedB (X ++ Y) = (false, ⟨#[]⟩, [ss, tt]) := by
    have e1 := feed_more (s := X ++ Y) (n := X.size) (by rw [hG1, hXs]) (by omega) (by omega)
    have e2 := feed_more (s := Y) (n := Y.size) (by rw [hG2, hYs]) (by omega) (Nat.le_refl _)
    have e3 : Y.extract Y.size Y.size = ⟨#[]⟩ := size0 (by simp)
    rw [e3, feed_wait (show (fg ⟨#[]⟩).1 = 0 by rw [fg0 (by decide)]), hG2] at e2
    rw [hcut, e2, hG1] at e1
    exact e1
  have hP1 : pipeF ⟨#[]⟩ false (X ++ Y) = (false, ⟨#[]⟩, [ss, tt]) := by
    unfold pipeF
    rw [if_neg (by rw [show pipeB ⟨#[]⟩ false = true by unfold pipeB; rw [if_neg (by decide), fg0 (by decide)]; rfl]; simp; omega), if_neg (by decide)]
    rw [show (⟨#[]⟩ : ByteArray) ++ (X ++ Y) = X ++ Y from ByteArray.empty_append]
    exact hF1
  have hP2 : pipeF ⟨#[]⟩ true X = (true, ⟨#[]⟩, []) := by
    unfold pipeF
    rw [if_neg (by rw [show pipeB ⟨#[]⟩ true = true from rfl]; simp; omega), if_pos rfl]
  have H1 : Hid (∀ w : World, Calls Tryd.prog 16 #[.agg #[.string { data := #[] }, .bool false], .string (X ++ Y)] w fun e w' => ∃ (v : Value) (q : List Inn), e = .returned (.tuple #[.agg #[.string { data := #[] }, .bool false], v]) ∧ RS w' v q ∧ q.map (·.2) = [ss, tt] ∧ Below w.heap.size w w') := Lib.hid (fun w => by
    refine (implPipeFeed_any ⟨#[]⟩ false (X ++ Y) w (by decide) (by omega)).mono ?_
    rintro e w' ⟨v, q, he, hS, hq, hb⟩
    have hbd := (pipeF_bounds ⟨#[]⟩ false (X ++ Y)).2
    rw [hP1] at he hq hbd
    exact ⟨v, q, he, hS.reads (fun r hr x hx => by
      have := (hbd r.2 (by rw [← hq]; exact List.mem_map.2 ⟨r, hr, rfl⟩)).2 x hx
      unfold maxLen; omega), hq, hb⟩)
  have H2 : Hid (∀ w : World, Calls Tryd.prog 16 #[.agg #[.string { data := #[] }, .bool true], .string X] w fun e w' => ∃ (A : Option Addr) (c : Nat), e = .returned (.tuple #[.agg #[.string { data := #[] }, .bool true], .slice A 0 c]) ∧ Below w.heap.size w w') := Lib.hid (fun w => by
    refine (implPipeFeed_any ⟨#[]⟩ true X w (by decide) (by omega)).mono ?_
    rintro e w' ⟨v, q, he, hS, hq, hb⟩
    rw [hP2] at he hq
    obtain rfl : q = [] := List.map_eq_nil_iff.1 hq
    obtain ⟨A, c, rfl⟩ := own_shape hS.out
    exact ⟨A, c, he, hb⟩)
  have f1 : ¬ 9223372036854775807 < X.size + Y.size := by omega
  clear fin hX hY hok hok2 hm8 hx8 hx16 hXl hXs hm8b hy8 hy16 hYl hYs hxy hcut hG1 hG2 hxys htot htot2 hF1 hP1 hP2
  go_wp2_with fail
  refine (HSP.out _ HST.out).mono ?_
  rintro e w5 ⟨rfl, hb5⟩
  replace HST := Lib.hid (HST.out.below hb5)
  replace HST2 := Lib.hid (HST2.out.below hb5)
  replace hb := hb.trans (hb5.mono hb.size)
  clear hb5
  go_wp2_with fail
  refine (H1.out _).mono ?_
  rintro e w6 ⟨v6, q6, rfl, hr6, hq6, hb6⟩
  have HR6 := Lib.hid (hr6.below ((Below.refl w6.heap.size w6).alloc (Nat.le_refl _) (.cells #[.string { data := #[] }, .bool false] 33)))
  have HQ6 := Lib.hid hq6
  replace HST := Lib.hid ((HST.out.below hb6).below ((Below.refl w6.heap.size w6).alloc (Nat.le_refl _) (.cells #[.string { data := #[] }, .bool false] 33)))
  replace HST2 := Lib.hid ((HST2.out.below hb6).below ((Below.refl w6.heap.size w6).alloc (Nat.le_refl _) (.cells #[.string { data := #[] }, .bool false] 33)))
  have HB6 := Lib.hid ((hb.trans (hb6.mono hb.size)).alloc (by have := hb.size; have := hb6.size; omega) (.cells #[.string { data := #[] }, .bool false] 33))
  have HP6 := Lib.hid (heap_alloc_new w6 (.cells #[.string { data := #[] }, .bool false] 33))
  clear hr6 hq6 hb6 hb
  go_wp2_with fail
  generalize hp6 : w6.heap.size = p6 at *
  generalize w6.alloc (.cells #[.string { data := #[] }, .bool false] 33) = W6 at *
  refine (H2.out _).mono ?_
  rintro e w7 ⟨A7, c7, rfl, hb7⟩
  have HK7 := Lib.hid (kept2 HP6.out hb7)
  have hlt7 : p6 < w7.heap.size := row_lt HK7.out
  have HR8 := Lib.hid ((HR6.out.below hb7).below ((Below.refl w7.heap.size w7).alloc (Nat.le_refl _) (.cells #[.string { data := #[] }, .bool true] 33)))
  replace HST := Lib.hid ((HST.out.below hb7).below ((Below.refl w7.heap.size w7).alloc (Nat.le_refl _) (.cells #[.string { data := #[] }, .bool true] 33)))
  replace HST2 := Lib.hid ((HST2.out.below hb7).below ((Below.refl w7.heap.size w7).alloc (Nat.le_refl _) (.cells #[.string { data := #[] }, .bool true] 33)))
  have HB8 := Lib.hid ((HB6.out.trans (hb7.mono HB6.out.size)).alloc (by have := HB6.out.size; have := hb7.size; omega) (.cells #[.string { data := #[] }, .bool true] 33))
  have HP8 := Lib.hid (heap_alloc_new w7 (.cells #[.string { data := #[] }, .bool true] 33))
  obtain ⟨x, cap, A1, c1, A2, c2, rfl, hx0, hx1, hs1, hs2⟩ := HR8.out.two HQ6.out
  have HS1 := Lib.hid hs1
  have HS2 := Lib.hid hs2
  have HX1 := Lib.hid hx1
  have hx00 : (w7.alloc (.cells #[.string { data := #[] }, .bool true] 33)).cell? x = some (.slice A1 ss.length c1) := hx0
  have hltx : x.block < (w7.alloc (.cells #[.string { data := #[] }, .bool true] 33)).heap.size := World.block_lt_of_cell? _ _ hx00
  have k0 : ∀ o : Obj, (w7.alloc o).cell? ⟨p6, 0, none⟩ = some (.string { data := #[] }) := fun o => (World.cell?_of_block (heap_alloc_old w7 o hlt7)).trans (cells2 HK7.out).1
  have k1 : ∀ o : Obj, (w7.alloc o).cell? ⟨p6, 1, none⟩ = some (.bool false) := fun o => (World.cell?_of_block (heap_alloc_old w7 o hlt7)).trans (cells2 HK7.out).2
  have heq := eql_pip
  have hgp := guard_pip
  clear hb7 hs1 hs2 hx1
  go_wp2_with fail
  generalize hp7 : w7.heap.size = p7 at *
  generalize w7.alloc (.cells #[.string { data := #[] }, .bool true] 33) = W8 at *
  refine (qnTexts_same A1 A c1 cp ss W8 HS1.out HST.out hn).mono ?_
  rintro e w9 ⟨rfl, hb9⟩
  have hx9 := (hb9.cell (p := x.add 1) (by rw [add_block]; exact hltx)).trans HX1.out
  have hx9b : w9.cell? ⟨x.block, x.off + 1, none⟩ = some (.slice A2 tt.length c2) := by simpa [Addr.add] using hx9
  have HS9 := Lib.hid (HS2.out.below hb9)
  replace HST2 := Lib.hid (HST2.out.below hb9)
  have HP9 := Lib.hid (kept2 HP8.out hb9)
  have HB9 := Lib.hid (HB8.out.trans (hb9.mono HB8.out.size))
  clear hb9
  go_wp2_with fail
  refine (qnTexts_same A2 B c2 cq tt w9 HS9.out HST2.out hn2).mono ?_
  rintro e w10 ⟨rfl, hb10⟩
  obtain ⟨g0, g1⟩ := cells2 (kept2 HP9.out hb10)
  have HB10 := Lib.hid (HB9.out.trans (hb10.mono HB9.out.size))
  clear hb10
  go_wp2
  go_ret
  exact ⟨rfl, HB10.out⟩
end Go.Proofs.YtliiffpegfkpbabDoor
