/- Texts of the proof of the law FnPipe, side by side: part 9. -/
import Derived.Deep.RegionWith
import Derived.Test.YtfiiopchfmcjdabDoorMPipe00
import Derived.Test.YtfiiopchfmcjdabDoorMPipe01
import Derived.Test.YtfiiopchfmcjdabDoorMPipe02
import Derived.Test.YtfiiopchfmcjdabDoorMPipe03
import Derived.Test.YtfiiopchfmcjdabDoorMPipe04
import Derived.Test.YtfiiopchfmcjdabDoorMPipe05
import Derived.Test.YtfiiopchfmcjdabDoorMPipe06
import Derived.Test.YtfiiopchfmcjdabDoorMPipe07
import Derived.Test.YtfiiopchfmcjdabDoorMPipe08
/- The walk of the law FnPipe. -/
namespace Go.Proofs.YtfiiopchfmcjdabDoor
open Go.RowKit
set_option maxHeartbeats 16000000 in
set_option maxRecDepth 100000 in
theorem walkFnPipe (w : World) (a : Option Addr) (len cap : Nat) (h : Arg w a len cap) (a2 : Option Addr) (len2 cap2 : Nat) (h2 : Arg w a2 len2 cap2) :
    Calls Tryd.prog 3 #[.slice a len cap, .slice a2 len2 cap2] w fun e w' => e = .returned (.bool true) ∧ Below w.heap.size w w' := by
  have hlen := h.1.1
  have hlen2 := h2.1.1
  unfold maxLen at hlen hlen2
  by_cases hbig : 1048576 < len
  · go_enter Tryd.func3, Tryd.ntmps3
    go_wp2
    go_ret
    exact ⟨rfl, Below.refl _ _⟩
  by_cases hbig2 : 1048576 < len2
  · go_enter Tryd.func3, Tryd.ntmps3
    go_wp2
    go_ret
    exact ⟨rfl, Below.refl _ _⟩
  clear h2
  go_enter Tryd.func3, Tryd.ntmps3
  go_wp2_with fail
  refine (drawPipeFeed_any a len cap _ h).mono ?_
  rintro e w1 ⟨L, b, T, hL, hT, rfl, hb1⟩
  have HP := Lib.hid (fun w => pf_px L b T w (by omega) (by omega))
  have HR := Lib.hid (fun w => pr_px L b T w (by omega) (by omega))
  obtain ⟨k, hk⟩ : ∃ k, len2 % (T.size + 1) = k := ⟨_, rfl⟩
  have hkT : k ≤ T.size := by have := Nat.mod_lt len2 (show 0 < T.size + 1 by omega); omega
  have hkm : ((len2 : Nat) : Int).tmod (((T.size : Nat) : Int) + 1) = (k : Int) := by
    rw [Int.tmod_eq_emod_of_nonneg (by omega), ← hk]
    push_cast
    rfl
  have hsp := split_at T k hkT
  have hx0 : (T.extract 0 k).size = k := by simp; omega
  have hx1 : (T.extract k T.size).size = T.size - k := by simp
  have HP1 := Lib.hid (fun w => pf_pz L b (T.extract 0 k) w (by omega) (by omega))
  have HP2 := Lib.hid (fun w => pf_pz (pipeF L b (T.extract 0 k)).2.1 (pipeF L b (T.extract 0 k)).1 (T.extract k T.size) w (by have := pipeF_left L b (T.extract 0 k); omega) (by omega))
  have HJ : Hid (pipeB L b = true → pipeF L b T = ((pipeF (pipeF L b (T.extract 0 k)).2.1 (pipeF L b (T.extract 0 k)).1 (T.extract k T.size)).1, (pipeF (pipeF L b (T.extract 0 k)).2.1 (pipeF L b (T.extract 0 k)).1 (T.extract k T.size)).2.1, (pipeF L b (T.extract 0 k)).2.2 ++ (pipeF (pipeF L b (T.extract 0 k)).2.1 (pipeF L b (T.extract 0 k)).1 (T.extract k T.size)).2.2)) := Lib.hid (fun hp => by
    have := pipe_join hp (t := T.extract 0 k) (u := T.extract k T.size) (by omega)
    rwa [← hsp] at this)
  have HAF : Hid (pipeB L b = true → pipeB (pipeF L b T).2.1 (pipeF L b T).1 = true ∧ ∀ l ∈ (pipeF L b T).2.2, frOk l = true) := Lib.hid (fun hp => pipe_after hp (by omega))
  have HBD := Lib.hid (pipeF_bounds L b T)
  have HBD1 := Lib.hid (pipeF_bounds L b (T.extract 0 k))
  have HBD2 := Lib.hid (pipeF_bounds (pipeF L b (T.extract 0 k)).2.1 (pipeF L b (T.extract 0 k)).1 (T.extract k T.size))
  have HLF := Lib.hid (pipeF_left L b T)
  obtain ⟨X, hX⟩ : ∃ X, (pipeF L b T).2.1 = X := ⟨_, rfl⟩
  obtain ⟨Y, hY⟩ : ∃ Y, (pipeF L b T).1 = Y := ⟨_, rfl⟩
  obtain ⟨Z, hZ⟩ : ∃ Z, (pipeF L b T).2.2 = Z := ⟨_, rfl⟩
  obtain ⟨X1, hX1⟩ : ∃ X, (pipeF L b (T.extract 0 k)).2.1 = X := ⟨_, rfl⟩
  obtain ⟨Y1, hY1⟩ : ∃ Y, (pipeF L b (T.extract 0 k)).1 = Y := ⟨_, rfl⟩
  obtain ⟨Z1, hZ1⟩ : ∃ Z, (pipeF L b (T.extract 0 k)).2.2 = Z := ⟨_, rfl⟩
  rw [hX, hY, hZ] at HP HR HAF
  rw [hZ] at HBD
  rw [hX] at HLF
  rw [hX1, hY1, hZ1] at HP1
  rw [hX1, hY1] at HP2
  rw [hZ1] at HBD1
  rw [hX1, hY1] at HBD2
  rw [hX1, hY1, hZ1] at HJ
  obtain ⟨X2, hX2⟩ : ∃ X, (pipeF X1 Y1 (T.extract k T.size)).2.1 = X := ⟨_, rfl⟩
  obtain ⟨Y2, hY2⟩ : ∃ Y, (pipeF X1 Y1 (T.extract k T.size)).1 = Y := ⟨_, rfl⟩
  obtain ⟨Z2, hZ2⟩ : ∃ Z, (pipeF X1 Y1 (T.extract k T.size)).2.2 = Z := ⟨_, rfl⟩
  rw [hX2, hY2, hZ2] at HP2 HJ
  rw [hZ2] at HBD2
  have HJJ : Hid (pipeB L b = true → Y = Y2 ∧ X = X2 ∧ Z = Z1 ++ Z2) := Lib.hid (fun hp => by
    have := HJ.out hp
    rw [← hX, ← hY, ← hZ, this]
    exact ⟨rfl, rfl, rfl⟩)
  have HOI := Lib.hid (fun w => implPipeOk_any L b w (by omega))
  have HOS := Lib.hid (fun w => specPipeOk_any L b w (by omega))
  have HOX := Lib.hid (fun w => implPipeOk_any X Y w (by have := HLF.out; omega))
  unfold pipV at HOI HOS HOX
  have HQP := Lib.hid (qnPipe_same X Y)
  have hN5 := heap_alloc_new w1 (.cells #[.string L, .bool b] 24)
  have HN5 := Lib.hid hN5
  have HB1 := Lib.hid (hb1.alloc hb1.size (.cells #[.string L, .bool b] 24))
  have hs1 : (w1.alloc (.cells #[.string L, .bool b] 24)).heap.size = w1.heap.size + 1 := by simp
  clear hX hY hZ hX1 hY1 hZ1 hX2 hY2 hZ2 HJ hsp hb1 hN5 hk
  go_wp2_with fail
  generalize hg5 : w1.heap.size = g5 at *
  generalize w1.alloc (.cells #[.string L, .bool b] 24) = W1 at *
  refine (HP.out _).mono ?_
  rintro e w2 ⟨v8, q8, rfl, hr8, hq8, hb2⟩
  have HN5' := Lib.hid (kept2 HN5.out hb2)
  have hlt5 : g5 < w2.heap.size := row_lt HN5'.out
  have c50 : ∀ o : Obj, (w2.alloc o).cell? ⟨g5, 0, none⟩ = some (.string L) := fun o => (World.cell?_of_block (heap_alloc_old w2 o hlt5)).trans (cells2 HN5'.out).1
  have c51 : ∀ o : Obj, (w2.alloc o).cell? ⟨g5, 1, none⟩ = some (.bool b) := fun o => (World.cell?_of_block (heap_alloc_old w2 o hlt5)).trans (cells2 HN5'.out).2
  have HK5 := Lib.hid ((heap_alloc_old w2 (.cells #[.string X, .bool Y] 24) hlt5).trans HN5'.out)
  have HN7 := Lib.hid (heap_alloc_new w2 (.cells #[.string X, .bool Y] 24))
  have HR8 := Lib.hid (hr8.below ((Below.refl w2.heap.size w2).alloc (Nat.le_refl _) (.cells #[.string X, .bool Y] 24)))
  have HQ8 := Lib.hid hq8
  have HB2 := Lib.hid ((HB1.out.trans (hb2.mono HB1.out.size)).alloc (by have := HB1.out.size; have := hb2.size; omega) (.cells #[.string X, .bool Y] 24))
  clear hr8 hq8 hb2
  go_wp2_with fail
  clear c50 c51
  generalize hg7 : w2.heap.size = g7 at *
  generalize w2.alloc (.cells #[.string X, .bool Y] 24) = W2 at *
  refine (HR.out _).mono ?_
  rintro e w3 ⟨v10, q10, rfl, hr10, hq10, hb3⟩
  have HM5 := Lib.hid (kept2 HK5.out hb3)
  have HM7 := Lib.hid (kept2 HN7.out hb3)
  have hl5 : g5 < w3.heap.size := row_lt HM5.out
  have hl7 : g7 < w3.heap.size := row_lt HM7.out
  have HG5 := Lib.hid ((heap_alloc_old w3 (.cells #[.string X, .bool Y] 24) hl5).trans HM5.out)
  have HG7 := Lib.hid ((heap_alloc_old w3 (.cells #[.string X, .bool Y] 24) hl7).trans HM7.out)
  have HG9 := Lib.hid (heap_alloc_new w3 (.cells #[.string X, .bool Y] 24))
  have HRA := Lib.hid ((HR8.out.below hb3).below ((Below.refl w3.heap.size w3).alloc (Nat.le_refl _) (.cells #[.string X, .bool Y] 24)))
  have HRB := Lib.hid (hr10.below ((Below.refl w3.heap.size w3).alloc (Nat.le_refl _) (.cells #[.string X, .bool Y] 24)))
  have HQ10 := Lib.hid hq10
  have HB3 := Lib.hid ((HB2.out.trans (hb3.mono HB2.out.size)).alloc (by have := HB2.out.size; have := hb3.size; omega) (.cells #[.string X, .bool Y] 24))
  clear hr10 hq10 hb3 HM5 HM7 HK5 HN7 HR8
  go_wp2_with fail
  generalize hg9 : w3.heap.size = g9 at *
  generalize w3.alloc (.cells #[.string X, .bool Y] 24) = W3 at *
  obtain ⟨A8, c8, rfl, _, _⟩ := HRA.out
  obtain ⟨A10, c10, rfl, _, _⟩ := HRB.out
  have hlen8 : q8.length = q10.length := by
    have := congrArg List.length (HQ8.out.trans HQ10.out.symm)
    simpa using this
  obtain ⟨N, hN⟩ : ∃ N, q10.length = N := ⟨_, rfl⟩
  rw [hlen8, hN]
  have HN8 := Lib.hid (hlen8.trans hN)
  clear hlen8 hN
  have p0 := cell_regrown (cells2 HG5.out).1
  have p1 := cell_regrown (cells2 HG5.out).2
  have x0 := cell_regrown (cells2 HG7.out).1
  have x1 := cell_regrown (cells2 HG7.out).2
  have y0 := cell_regrown (cells2 HG9.out).1
  have y1 := cell_regrown (cells2 HG9.out).2
  have hT4 : ¬ (4000 : Int) < ((T.size : Nat) : Int) := by omega
  have hs3 := HB3.out.size
  cases hG : pipeB L b
  · rw [hG] at HOI HOS
    clear hG HJJ HAF HP1 HP2 HOX HBD HBD1 HBD2 HLF hkm hx0 hx1
    refine wp_region_quiet_below (by kernel_rfl) (by kernel_rfl) ?_
    repeat (first | go_big_quiet_step (first | (go_at_call 10; exact Calls.regrown_of (HQP.out _)) | (go_at_call 11; exact Calls.regrown_of (HOI.out _)) | (go_at_call 12; exact Calls.regrown_of (HOS.out _))) | quiet_step (first | (go_at_call 10; exact Calls.regrown_of (HQP.out _)) | (go_at_call 11; exact Calls.regrown_of (HOI.out _)) | (go_at_call 12; exact Calls.regrown_of (HOS.out _))))
    refine wpQuiet_nil ?_
    intro _ hw'
    obtain ⟨⟨dq, osq⟩, hw''⟩ := hw'
    subst hw''
    have hbf := below_regrown W3 dq osq
    have HG5' := Lib.hid (kept2 HG5.out hbf)
    have HG7' := Lib.hid (kept2 HG7.out hbf)
    have HG9' := Lib.hid (kept2 HG9.out hbf)
    have HB4 := Lib.hid (HB3.out.trans (hbf.mono hs3))
    clear p0 p1 x0 x1 y0 y1 hbf
    generalize «Sort».grow (redrawn W3 dq) osq = W4 at *
    have hs4 := HB4.out.size
    go_wp2_with fail
    have p0 := cell_regrown (cells2 HG5'.out).1
    have p1 := cell_regrown (cells2 HG5'.out).2
    have x0 := cell_regrown (cells2 HG7'.out).1
    have x1 := cell_regrown (cells2 HG7'.out).2
    have y0 := cell_regrown (cells2 HG9'.out).1
    have y1 := cell_regrown (cells2 HG9'.out).2
    refine wp_region_quiet_below (by kernel_rfl) (by kernel_rfl) ?_
    repeat (first | go_big_quiet_step (first | (go_at_call 10; exact Calls.regrown_of (HQP.out _)) | (go_at_call 11; exact Calls.regrown_of (HOI.out _)) | (go_at_call 12; exact Calls.regrown_of (HOS.out _))) | quiet_step (first | (go_at_call 10; exact Calls.regrown_of (HQP.out _)) | (go_at_call 11; exact Calls.regrown_of (HOI.out _)) | (go_at_call 12; exact Calls.regrown_of (HOS.out _))))
    refine wpQuiet_nil ?_
    intro _ hw'
    obtain ⟨⟨dq, osq⟩, hw''⟩ := hw'
    subst hw''
    have HFIN := Lib.hid (HB4.out.trans ((below_regrown W4 dq osq).mono hs4))
    clear p0 p1 x0 x1 y0 y1
    generalize «Sort».grow (redrawn W4 dq) osq = W5 at *
    go_wp2
    go_ret
    exact ⟨rfl, HFIN.out⟩
  · obtain ⟨rfl, rfl, hZZ⟩ := HJJ.out hG
    obtain ⟨hGX, hFr⟩ := HAF.out hG
    rw [hG] at HOI HOS
    rw [hGX] at HOX
    have HZZ := Lib.hid hZZ
    have HFr := Lib.hid hFr
    clear hG HJJ HAF hGX hZZ hFr
    refine wp_region_quiet_below (by kernel_rfl) (by kernel_rfl) ?_
    repeat (first | go_big_quiet_step (first | (go_at_call 10; exact Calls.regrown_of (HQP.out _)) | (go_at_call 11; exact Calls.regrown_of (HOI.out _)) | (go_at_call 12; exact Calls.regrown_of (HOS.out _))) | quiet_step (first | (go_at_call 10; exact Calls.regrown_of (HQP.out _)) | (go_at_call 11; exact Calls.regrown_of (HOI.out _)) | (go_at_call 12; exact Calls.regrown_of (HOS.out _))))
    refine wpQuiet_nil ?_
    intro _ hw'
    obtain ⟨⟨dq, osq⟩, hw''⟩ := hw'
    subst hw''
    have hbf := below_regrown W3 dq osq
    have HG5' := Lib.hid (kept2 HG5.out hbf)
    have HG7' := Lib.hid (kept2 HG7.out hbf)
    have HG9' := Lib.hid (kept2 HG9.out hbf)
    have HRA' := Lib.hid (HRA.out.below hbf)
    have HRB' := Lib.hid (HRB.out.below hbf)
    have HB4 := Lib.hid (HB3.out.trans (hbf.mono hs3))
    clear p0 p1 x0 x1 y0 y1 hbf HG5 HG7 HG9 HRA HRB HB3 hs3
    generalize «Sort».grow (redrawn W3 dq) osq = W4 at *
    have hs4 := HB4.out.size
    obtain ⟨c0, c1⟩ := cells2 HG5'.out
    have k1 : (k : Int) ≤ ((T.size : Nat) : Int) := by omega
    have k0 : (0 : Int) ≤ (k : Int) := by omega
    have hwT : IntKind.i64.wrap (((T.size : Nat) : Int) + 1) = ((T.size : Nat) : Int) + 1 := by rw [IntKind.wrap_i64]; omega
    have hT0 : (((T.size : Nat) : Int) + 1 == 0) = false := by simp; omega
    go_wp2_with fail
    have hlt5 : g5 < W4.heap.size := row_lt HG5'.out
    have ca0 : ∀ o : Obj, (W4.alloc o).cell? ⟨g5, 0, none⟩ = some (.string L) := fun o => (World.cell?_of_block (heap_alloc_old W4 o hlt5)).trans c0
    have ca1 : ∀ o : Obj, (W4.alloc o).cell? ⟨g5, 1, none⟩ = some (.bool b) := fun o => (World.cell?_of_block (heap_alloc_old W4 o hlt5)).trans c1
    have HBA := Lib.hid ((Below.refl W4.heap.size W4).alloc (Nat.le_refl _) (.cells #[.string { data := #[] }, .bool false] 24))
    have HNA := Lib.hid (heap_alloc_new W4 (.cells #[.string { data := #[] }, .bool false] 24))
    go_region_with (first | (go_at_call 8; refine (HP1.out ((W4.alloc (.cells #[.string { data := #[] }, .bool false] 24)).drew)).mono ?_; rintro e w9 ⟨v13, q1, rfl, hr9, hq9, hb9⟩; have hn9 := kept2 (show (W4.alloc (.cells #[.string { data := #[] }, .bool false] 24)).drew.heap[W4.heap.size]? = _ from HNA.out) hb9; obtain ⟨n0, n1⟩ := cells2 hn9; have zn := row_free hn9; have HN9 := Lib.hid hn9; have HB9 := Lib.hid (HBA.out.drew.trans (hb9.mono (by simp))); have HR9 : Hid (SS w9 (W4.heap.size + 1) v13 q1) := Lib.hid (hr9.mono (by simp)); have HQv13 := Lib.hid hq9; clear hr9 hq9 hb9 hn9) | (go_at_call 8; refine (HP1.out W4.drew).mono ?_; rintro e w9 ⟨v13, q1, rfl, hr9, hq9, hb9⟩; have HB9 := Lib.hid (((Below.refl W4.heap.size W4).drew).trans (hb9.mono (by simp))); have HR9 : Hid (SS w9 W4.heap.size v13 q1) := Lib.hid (hr9.mono (by simp)); have HQv13 := Lib.hid hq9; clear hr9 hq9 hb9))
    all_goals
      first
      | (have Hg12 := Lib.hid (rowSet (rowSet HN9.out 0 (.string X1)) 1 (.bool Y1))
         have HDW5 := Lib.hid (bel_set (i := 1) (bel_set (i := 0) HB9.out (Nat.le_refl W4.heap.size) (.string X1)) (Nat.le_refl W4.heap.size) (.bool Y1))
         have HSv13 := Lib.hid ((((HR9.out.store (i := 0) (u := .string X1) (Nat.lt_succ_self _)).store (i := 1) (u := .bool Y1) (Nat.lt_succ_self _))).mono (Nat.le_succ _))
         go_wp2_with fail
         generalize hg12 : W4.heap.size = g12 at Hg12 HSv13 HDW5 ⊢
         generalize (w9.setCell ⟨g12, 0, none⟩ (.string X1)).setCell ⟨g12, 1, none⟩ (.bool Y1) = W5 at Hg12 HSv13 HDW5 ⊢
         rw [← hg12] at HDW5
         clear HN9 HR9 HB9 n0 n1 zn)
      | (have Hg12 := Lib.hid (heap_alloc_new w9 (.cells #[.string X1, .bool Y1] 24))
         have HDW5 := Lib.hid (HB9.out.alloc HB9.out.size (.cells #[.string X1, .bool Y1] 24))
         have HSv13 := Lib.hid (HR9.out.below ((Below.refl w9.heap.size w9).alloc (Nat.le_refl _) (.cells #[.string X1, .bool Y1] 24)))
         have hlg12 := HB9.out.size
         go_wp2_with fail
         generalize hg12 : w9.heap.size = g12 at Hg12 HSv13 HDW5 hlg12 ⊢
         generalize w9.alloc (.cells #[.string X1, .bool Y1] 24) = W5 at Hg12 HSv13 HDW5 ⊢
         clear HR9 HB9)
    all_goals
      obtain ⟨e0, e1⟩ := cells2 Hg12.out
      have hlt12 : g12 < W5.heap.size := row_lt Hg12.out
      have ea0 : ∀ o : Obj, (W5.alloc o).cell? ⟨g12, 0, none⟩ = some (.string X1) := fun o => (World.cell?_of_block (heap_alloc_old W5 o hlt12)).trans e0
      have ea1 : ∀ o : Obj, (W5.alloc o).cell? ⟨g12, 1, none⟩ = some (.bool Y1) := fun o => (World.cell?_of_block (heap_alloc_old W5 o hlt12)).trans e1
      clear HBA HNA ca0 ca1 c0 c1
      have HBA := Lib.hid ((Below.refl W5.heap.size W5).alloc (Nat.le_refl _) (.cells #[.string { data := #[] }, .bool false] 24))
      have HNA := Lib.hid (heap_alloc_new W5 (.cells #[.string { data := #[] }, .bool false] 24))
      go_region_with (first | (go_at_call 8; refine (HP2.out ((W5.alloc (.cells #[.string { data := #[] }, .bool false] 24)).drew)).mono ?_; rintro e w9 ⟨v15, q2, rfl, hr9, hq9, hb9⟩; have hn9 := kept2 (show (W5.alloc (.cells #[.string { data := #[] }, .bool false] 24)).drew.heap[W5.heap.size]? = _ from HNA.out) hb9; obtain ⟨n0, n1⟩ := cells2 hn9; have zn := row_free hn9; have HN9 := Lib.hid hn9; have HB9 := Lib.hid (HBA.out.drew.trans (hb9.mono (by simp))); have HR9 : Hid (SS w9 (W5.heap.size + 1) v15 q2) := Lib.hid (hr9.mono (by simp)); have HQv15 := Lib.hid hq9; clear hr9 hq9 hb9 hn9) | (go_at_call 8; refine (HP2.out W5.drew).mono ?_; rintro e w9 ⟨v15, q2, rfl, hr9, hq9, hb9⟩; have HB9 := Lib.hid (((Below.refl W5.heap.size W5).drew).trans (hb9.mono (by simp))); have HR9 : Hid (SS w9 W5.heap.size v15 q2) := Lib.hid (hr9.mono (by simp)); have HQv15 := Lib.hid hq9; clear hr9 hq9 hb9))
      all_goals
        first
        | (have Hg14 := Lib.hid (rowSet (rowSet HN9.out 0 (.string X)) 1 (.bool Y))
           have HDW6 := Lib.hid (bel_set (i := 1) (bel_set (i := 0) HB9.out (Nat.le_refl W5.heap.size) (.string X)) (Nat.le_refl W5.heap.size) (.bool Y))
           have HSv15 := Lib.hid ((((HR9.out.store (i := 0) (u := .string X) (Nat.lt_succ_self _)).store (i := 1) (u := .bool Y) (Nat.lt_succ_self _))).mono (Nat.le_succ _))
           skip
           generalize hg14 : W5.heap.size = g14 at Hg14 HSv15 HDW6 ⊢
           generalize (w9.setCell ⟨g14, 0, none⟩ (.string X)).setCell ⟨g14, 1, none⟩ (.bool Y) = W6 at Hg14 HSv15 HDW6 ⊢
           rw [← hg14] at HDW6
           clear HN9 HR9 HB9 n0 n1 zn)
        | (have Hg14 := Lib.hid (heap_alloc_new w9 (.cells #[.string X, .bool Y] 24))
           have HDW6 := Lib.hid (HB9.out.alloc HB9.out.size (.cells #[.string X, .bool Y] 24))
           have HSv15 := Lib.hid (HR9.out.below ((Below.refl w9.heap.size w9).alloc (Nat.le_refl _) (.cells #[.string X, .bool Y] 24)))
           have hlg14 := HB9.out.size
           skip
           generalize hg14 : w9.heap.size = g14 at Hg14 HSv15 HDW6 hlg14 ⊢
           generalize w9.alloc (.cells #[.string X, .bool Y] 24) = W6 at Hg14 HSv15 HDW6 ⊢
           clear HR9 HB9)
      all_goals
        clear ea0 ea1 e0 e1 HBA HNA
        have hz1 := HBD1.out
        have hz2 := HBD2.out
        have hRS : ∀ {B : Nat} {v : Value} {q : List Inn} {Z : List (List ByteArray)} {W : World}, SS W B v q → q.map (·.2) = Z → (∀ l ∈ Z, l.length ≤ 6 ∧ ∀ x ∈ l, x.size ≤ 6000) → RS W v q := fun h1 h2 h3 => h1.reads (fun r hr x hx => by
          have := (h3 r.2 (by rw [← h2]; exact List.mem_map.2 ⟨r, hr, rfl⟩)).2 x hx
          unfold maxLen; omega)
        have HR1 := Lib.hid (hRS (HSv13.out.below (HDW6.out)) HQv13.out hz1.2)
        have HR2 := Lib.hid (hRS HSv15.out HQv15.out hz2.2)
        have hqn : (q1 ++ q2).map (·.2) = Z := by rw [List.map_append, HQv13.out, HQv15.out, HZZ.out]
        have HQN := Lib.hid hqn
        have hql : (q1 ++ q2).length = N := by
          have h1 := congrArg List.length hqn
          have h2 := congrArg List.length HQ8.out
          rw [← HN8.out]
          simp at h1 h2 ⊢
          omega
        have hN750 : N ≤ 750 := by
          have h2 := congrArg List.length HQ8.out
          have := HBD.out.1
          rw [← HN8.out]
          simp at h2
          omega
        have hl1 : q1.length + q2.length ≤ 750 := by rw [List.length_append] at hql; omega
        have hq1 : ([] : List Inn).length + q1.length ≤ 10000 := by rw [List.length_nil]; omega
        have hq2 : q1.length + q2.length ≤ 10000 := by omega
        have HB6 := Lib.hid (HB4.out.trans ((HDW5.out.trans (HDW6.out.mono HDW5.out.size)).mono hs4))
        have HRA6 := Lib.hid (HRA'.out.below (HDW5.out.trans (HDW6.out.mono HDW5.out.size)))
        have HRB6 := Lib.hid (HRB'.out.below (HDW5.out.trans (HDW6.out.mono HDW5.out.size)))
        have HG76 := Lib.hid (kept2 HG7'.out (HDW5.out.trans (HDW6.out.mono HDW5.out.size)))
        have HS0 : Hid (SR2 (W6.alloc (.cells #[] 33)) W6.heap.size (.slice (some ⟨W6.heap.size, 0, none⟩) 0 0) []) := Lib.hid ⟨World.ownsRow_made W6 #[] 0 (Nat.le_refl _) (by decide) rfl, fun r h => (by cases h)⟩
        have HBZ := Lib.hid ((Below.refl W6.heap.size W6).alloc (Nat.le_refl _) (.cells #[] 33))
        clear HP1 HP2 HOI HOS HDW5 HDW6 HSv13 HSv15 HRA' HRB' HG5' HG7' HG9' HB4 hz1 hz2 hRS hqn hkm hx0 hx1 k0 k1
        go_wp2_with (first | (at_builtin; refine append_all rfl (.tmp 112) (.tmp 113) rfl W6.heap.size (.slice A20 q1.length c20) v15 q1 q2 W6 _ rfl rfl HS20.out HR2.out rfl HB20.out hq2 ?_; intro A21 c21 w21 HS21 HB21; rw [hql] at HS21 ⊢) | (at_builtin; go_must (refine append_all rfl (.tmp 110) (.tmp 111) rfl W6.heap.size (.slice (some ⟨W6.heap.size, 0, none⟩) 0 0) v13 [] q1 W6 _ rfl rfl HS0.out HR1.out rfl HBZ.out hq1 ?_); intro A20 c20 w20 HS20 HB20; rw [List.nil_append] at HS20 ⊢))
        obtain ⟨B21, hB21⟩ : ∃ B, W6.heap.size = B := ⟨_, rfl⟩
        have HBW := Lib.hid HB21.out
        have HRS := Lib.hid HS21.out.reads
        have hNZ : Z.length = N := by rw [← HQ8.out, List.length_map]; exact HN8.out
        have HRA7 := Lib.hid (HRA6.out.below HBW.out)
        have HRB7 := Lib.hid (HRB6.out.below HBW.out)
        have HG77 := Lib.hid (kept2 HG76.out HBW.out)
        have HG147 := Lib.hid (kept2 Hg14.out HBW.out)
        have HB7 := Lib.hid (HB6.out.trans (HBW.out.mono HB6.out.size))
        clear HRA6 HRB6 HG76 HBW HB20 HS20 HS21 HB21 HS0 HBZ HR1 HR2 hB21 B21 Hg12 Hg14 HB6
        go_loopw [17] (fun i wr => ∃ j : Nat, j ≤ N ∧ i = .int .i64 j ∧ Hid (Below w21.heap.size w21 wr)) (fun i _ => N - (intOf i).toNat)
        case atStart => exact ⟨0, Nat.zero_le _, rfl, Lib.hid (Below.refl _ _)⟩
        case round =>
          obtain ⟨j, hj, rfl, HBr⟩ := hrel
          by_cases hjn : j < N
          · have i0 : (0 : Int) ≤ j := by omega
            have i1 : (j : Int) < N := by omega
            have hjZ : j < Z.length := by rw [hNZ]; exact hjn
            have hA := RS.at_ (HRA7.out.below HBr.out) HQ8.out j hjZ
            have hB := RS.at_ (HRB7.out.below HBr.out) HQ10.out j hjZ
            have hC := RS.at_ (HRS.out.below HBr.out) HQN.out j hjZ
            generalize hl : Z[j]'hjZ = l at hA hB hC
            have hlm : l ∈ Z := by rw [← hl]; exact List.getElem_mem hjZ
            have hfr := HFr.out l hlm
            have hln : l.length ≤ 6 := (HBD.out.2 l hlm).1
            obtain ⟨xa, A1, c1, ea, ca, sa⟩ := hA
            obtain ⟨xb, A2, c2, eb, cb, sb⟩ := hB
            obtain ⟨xc, A3, c3, ec, cc, sc⟩ := hC
            subst ea; subst eb; subst ec
            have hwx : ∀ d os, Below wr.heap.size wr («Sort».grow (redrawn wr d) os) := fun d os => below_regrown wr d os
            have HO1 := Lib.hid (fun w' (hb : Below wr.heap.size wr w') => qnTexts_same A1 A2 c1 c2 l w' (sa.below hb) (sb.below hb) (by omega))
            have HO2 := Lib.hid (fun w' (hb : Below wr.heap.size wr w') => qnTexts_same A3 A1 c3 c1 l w' (sc.below hb) (sa.below hb) (by omega))
            have HO3 : Hid (∀ w', Below wr.heap.size wr w' → Calls Tryd.prog 14 #[.slice A1 l.length c1] w' fun e w'' => e = .returned (.bool true) ∧ Below w'.heap.size w' w'') := Lib.hid (fun w' hb => (implFrameOk_any A1 c1 l w' (sa.below hb) (by omega)).mono (by
              rintro e w'' ⟨rfl, rfl⟩
              exact ⟨by rw [hfr], Below.refl _ _⟩))
            have ra := cell_regrown ca
            have rb := cell_regrown cb
            have rc := cell_regrown cc
            clear sa sb sc hfr hl hlm
            go_wp2_with fail
            refine wp_region_quiet_below (by kernel_rfl) (by kernel_rfl) ?_
            repeat (first | go_big_quiet_step (first | (go_at_call 13; first | with_reducible exact Calls.regrown_of (HO1.out _ (hwx _ _)) | with_reducible exact Calls.regrown_of (HO2.out _ (hwx _ _))) | (go_at_call 14; exact Calls.regrown_of (HO3.out _ (hwx _ _)))) | quiet_step (first | (go_at_call 13; first | with_reducible exact Calls.regrown_of (HO1.out _ (hwx _ _)) | with_reducible exact Calls.regrown_of (HO2.out _ (hwx _ _))) | (go_at_call 14; exact Calls.regrown_of (HO3.out _ (hwx _ _)))))
            refine wpQuiet_nil ?_
            intro _ hw'
            obtain ⟨⟨dq, osq⟩, hw''⟩ := hw'
            subst hw''
            have HBn := Lib.hid (HBr.out.trans ((below_regrown wr dq osq).mono HBr.out.size))
            clear ra rb rc hwx HO1 HO2 HO3
            generalize «Sort».grow (redrawn wr dq) osq = wn at *
            go_wp2_with fail
            go_roundw
            case rel => exact ⟨j + 1, by omega, by go_num, HBn⟩
            case measure => simp [intOf]; omega
          · have HGx := Lib.hid (kept2 HG77.out HBr.out)
            have HGz := Lib.hid (kept2 HG147.out HBr.out)
            obtain ⟨u0, u1⟩ := cells2 HGx.out
            obtain ⟨z0, z1⟩ := cells2 HGz.out
            go_wp2_with fail
            refine (HOX.out _).mono ?_
            rintro e w30 ⟨rfl, hb30⟩
            obtain ⟨u2, u3⟩ := cells2 (kept2 HGx.out hb30)
            obtain ⟨z2, z3⟩ := cells2 (kept2 HGz.out hb30)
            have HB30 := Lib.hid ((HB7.out.trans (HBr.out.mono HB7.out.size)).trans (hb30.mono (Nat.le_trans HB7.out.size HBr.out.size)))
            clear u0 u1 z0 z1 hb30
            go_wp2_with fail
            refine (HQP.out _).mono ?_
            rintro e w31 ⟨rfl, hb31⟩
            have HB31 := Lib.hid (HB30.out.trans (hb31.mono HB30.out.size))
            clear hb31
            go_wp2_with fail
            go_ret
            exact ⟨rfl, HB31.out⟩
end Go.Proofs.YtfiiopchfmcjdabDoor
