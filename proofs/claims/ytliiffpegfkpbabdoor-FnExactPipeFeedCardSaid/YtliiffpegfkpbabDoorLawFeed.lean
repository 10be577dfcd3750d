/- The walk of the law FnExactPipeFeed. -/
import Derived.Test.YtliiffpegfkpbabDoorFeedK
namespace Go.Proofs.YtliiffpegfkpbabDoor
open Go.RowKit
set_option maxHeartbeats 8000000 in
set_option maxRecDepth 100000 in
theorem walkExactPipeFeed (s : ByteArray) (b : Bool) (hs : s.size ≤ maxLen) (_ : True) (t : ByteArray) (ht : t.size ≤ maxLen) (w : World) :
    Calls Tryd.prog 6 #[pipV s b, .string t] w fun e w' => e = .returned (.bool true) ∧ Below w.heap.size w w' := by
  have hs' := hs
  have ht' := ht
  unfold maxLen at hs' ht'
  have HB0 := Lib.hid ((Below.refl w.heap.size w).alloc (Nat.le_refl _) (.cells #[.string s, .bool b] 37))
  have K0 := Lib.hid (heap_alloc_new w (.cells #[.string s, .bool b] 37))
  by_cases hbig : 1048576 < t.size
  · have hb2 : (1048576 : Int) < ((t.size : Nat) : Int) := by omega
    unfold pipV
    go_enter Tryd.func6, Tryd.ntmps6
    go_wp2
    go_ret
    exact ⟨rfl, HB0.out⟩
  have hb2 : ¬ (1048576 : Int) < ((t.size : Nat) : Int) := by omega
  have HZ := Lib.hid (fun w => szPipe_any s b 1048576 w hs (by decide) (by decide))
  have HT := Lib.hid (toPipe_any s b)
  by_cases hlong : (1048576 : Int) - s.size < 0
  · have HL : Hid ((if (1048576 : Int) - (s.size : Int) < 0 then -1 else (1048576 : Int) - (s.size : Int)) = -1) := Lib.hid (by rw [if_pos hlong])
    clear hlong hs' ht'
    unfold pipV at HZ ⊢
    go_enter Tryd.func6, Tryd.ntmps6
    go_wp2_with (first | (go_at_call 17; refine (HZ.out _).mono ?_; rintro e w1 ⟨rfl, hb1⟩; rw [HL.out]))
    go_ret
    exact ⟨rfl, HB0.out.trans (hb1.mono (by simp))⟩
  have hbd := pipeF_bounds s b t
  have hS := fun w => specPipeFeed_any s b t w (by omega) (by omega)
  have hI := fun w => implPipeFeed_any s b t w (by omega) (by omega)
  unfold PR at hS
  unfold PF at hI
  obtain ⟨X, hX⟩ : ∃ X, (pipeF s b t).2.1 = X := ⟨_, rfl⟩
  obtain ⟨Y, hY⟩ : ∃ Y, (pipeF s b t).1 = Y := ⟨_, rfl⟩
  obtain ⟨Z, hZ⟩ : ∃ Z, (pipeF s b t).2.2 = Z := ⟨_, rfl⟩
  rw [hX, hY, hZ] at hS hI
  rw [hZ] at hbd
  obtain ⟨hz1, hz2⟩ := hbd
  have HS := Lib.hid hS
  have HI := Lib.hid hI
  have HQ := Lib.hid (eqPipe_same X Y)
  have HZL : Hid (∀ q : List Inn, q.map (·.2) = Z → q.length ≤ 750 ∧ (∀ r ∈ q, r.2.length ≤ 6) ∧ ∀ r ∈ q, ∀ x ∈ r.2, x.size ≤ maxLen) := Lib.hid (fun q hq => by
    subst hq
    refine ⟨by simpa using hz1, fun r hr => (hz2 r.2 (List.mem_map.2 ⟨r, hr, rfl⟩)).1, fun r hr x hx => ?_⟩
    have := (hz2 r.2 (List.mem_map.2 ⟨r, hr, rfl⟩)).2 x hx
    unfold maxLen; omega)
  obtain ⟨z, hz⟩ : ∃ z : Int, z = 1048576 - s.size := ⟨_, rfl⟩
  have HL : Hid ((if (1048576 : Int) - (s.size : Int) < 0 then -1 else (1048576 : Int) - (s.size : Int)) = z) := Lib.hid (by rw [if_neg hlong, hz])
  have hz0 : ¬ z < 0 := by omega
  clear hlong hz hS hI hX hY hZ hz1 hz2 hs' ht'
  unfold pipV at HZ HT HS HI HQ ⊢
  go_enter Tryd.func6, Tryd.ntmps6
  go_wp2_with fail
  refine (HZ.out _).mono ?_
  rintro e w1 ⟨rfl, hb1⟩
  rw [HL.out]
  have hk1 := kept2 K0.out hb1
  obtain ⟨c0, c1⟩ := cells2 hk1
  have HK1 := Lib.hid hk1
  have HB1 := Lib.hid (HB0.out.trans (hb1.mono (by simp)))
  clear hk1 hb1
  go_wp2_with fail
  refine (HT.out _).mono ?_
  rintro e w2 ⟨rfl, hb2'⟩
  have HK2 := Lib.hid (kept2 HK1.out hb2')
  have HB2 := Lib.hid (HB1.out.trans (hb2'.mono HB1.out.size))
  clear hb2' c0 c1
  go_wp2_with fail
  refine (HS.out _).mono ?_
  rintro e w3 ⟨v3, q3, rfl, hR3, hq3, hb3⟩
  have HK3 := Lib.hid (kept2 HK2.out hb3)
  have HB3 := Lib.hid (HB2.out.trans (hb3.mono HB2.out.size))
  have HR3 := Lib.hid hR3
  have HQ3 := Lib.hid hq3
  have hlt3 : w.heap.size < w3.heap.size := row_lt HK3.out
  have HP3 := Lib.hid (heap_alloc_new w3 (.cells #[.string X, .bool Y] 33))
  clear hR3 hq3 hb3
  have c0 : ∀ o : Obj, (w3.alloc o).cell? ⟨w.heap.size, 0, none⟩ = some (.string s) := fun o => (World.cell?_of_block (heap_alloc_old w3 o hlt3)).trans (cells2 HK3.out).1
  have c1 : ∀ o : Obj, (w3.alloc o).cell? ⟨w.heap.size, 1, none⟩ = some (.bool b) := fun o => (World.cell?_of_block (heap_alloc_old w3 o hlt3)).trans (cells2 HK3.out).2
  go_wp2_with fail
  have HB3' := Lib.hid (HB3.out.alloc HB3.out.size (.cells #[.string X, .bool Y] 33))
  have HK3' := Lib.hid ((heap_alloc_old w3 (.cells #[.string X, .bool Y] 33) hlt3).trans HK3.out)
  have HR3' := Lib.hid (HR3.out.below ((Below.refl w3.heap.size w3).alloc (Nat.le_refl _) (.cells #[.string X, .bool Y] 33)))
  have hlt6 : w3.heap.size < (w3.alloc (.cells #[.string X, .bool Y] 33)).heap.size := by simp
  clear c0 c1 HR3 HK3 HB3
  generalize hp6 : w3.heap.size = p6 at *
  generalize w3.alloc (.cells #[.string X, .bool Y] 33) = W3 at *
  refine (HT.out _).mono ?_
  rintro e w4 ⟨rfl, hb4⟩
  have HK4 := Lib.hid (kept2 HK3'.out hb4)
  have HP4 := Lib.hid (kept2 HP3.out hb4)
  have HR4 := Lib.hid (HR3'.out.below hb4)
  have HB4 := Lib.hid (HB3'.out.trans (hb4.mono HB3'.out.size))
  clear hb4
  go_wp2_with fail
  refine (HI.out _).mono ?_
  rintro e w5 ⟨v5, q5, rfl, hS5, hq5, hb5⟩
  have HD5 := Lib.hid hb5
  have HS5 := Lib.hid hS5
  have HQ5 := Lib.hid hq5
  have hsz5 := hb5.size
  have hlt6b : p6 < w4.heap.size := row_lt HP4.out
  have hlt0b : w.heap.size < w4.heap.size := row_lt HK4.out
  have hlt5 : p6 < w5.heap.size := by omega
  have hlt0 : w.heap.size < w5.heap.size := by omega
  clear hS5 hq5 hb5
  have d0 : ∀ o : Obj, (w5.alloc o).cell? ⟨p6, 0, none⟩ = some (.string X) := fun o => (World.cell?_of_block (heap_alloc_old w5 o hlt5)).trans (cells2 (kept2 HP4.out HD5.out)).1
  have d1 : ∀ o : Obj, (w5.alloc o).cell? ⟨p6, 1, none⟩ = some (.bool Y) := fun o => (World.cell?_of_block (heap_alloc_old w5 o hlt5)).trans (cells2 (kept2 HP4.out HD5.out)).2
  go_wp2_with fail
  have HD6 := Lib.hid (HD5.out.alloc hsz5 (.cells #[.string X, .bool Y] 33))
  have HS6 := Lib.hid (HS5.out.below ((Below.refl w5.heap.size w5).alloc (Nat.le_refl _) (.cells #[.string X, .bool Y] 33)))
  clear d0 d1 HD5 HS5
  generalize w5.alloc (.cells #[.string X, .bool Y] 33) = W6 at *
  refine (HQ.out _).mono ?_
  rintro e w7 ⟨rfl, hb7⟩
  have HD7 := Lib.hid (HD6.out.trans (hb7.mono HD6.out.size))
  have HS7 := Lib.hid (HS6.out.below hb7)
  clear hb7
  obtain ⟨hl5, hl6, hlm⟩ := HZL.out q5 HQ5.out
  have HL6 := Lib.hid hl6
  have HLM := Lib.hid hlm
  clear hl6 hlm
  go_wp2_with fail
  refine (eqStringSS_same v5 v3 q5 q3 w7 (HS7.out.reads HLM.out) (HR4.out.below HD7.out) (by rw [HQ5.out, HQ3.out]) (by omega) (fun r hr => by have := HL6.out r hr; omega)).mono ?_
  rintro e w8 ⟨rfl, hb8⟩
  have HD8 := Lib.hid (HD7.out.trans (hb8.mono HD7.out.size))
  have HS8 := Lib.hid (HS7.out.below hb8)
  clear hb8
  go_wp2_with fail
  refine (markStringSS_any _ v5 q5 1 w8 (HS8.out.marks 1) HD8.out.size (by omega) (by omega) HL6.out).mono ?_
  rintro e w9 ⟨rfl, hM9, hb9⟩
  have HM9 := Lib.hid hM9
  have HD9 := Lib.hid (HD8.out.trans hb9)
  clear hM9 hb9
  have hpre := pre_le q5 HL6.out q5.length
  obtain ⟨m, hm⟩ : ∃ m : Nat, 1 + pre q5 q5.length = m := ⟨_, rfl⟩
  have HMM := Lib.hid hm
  rw [hm]
  have hm0 : ¬ ((m : Nat) : Int) < 0 := by omega
  have hmm : (((m : Nat) : Int) != ((m : Nat) : Int)) = false := by simp
  clear hm hpre
  go_wp2_with fail
  refine (heldStringSS_any _ v5 q5 1 w9 HM9.out (by omega) (by omega) HL6.out).mono ?_
  rintro e w10 ⟨rfl, hb10⟩
  rw [HMM.out]
  have HM10 := Lib.hid (HM9.out.below hb10)
  have HD10 := Lib.hid (HD9.out.trans (hb10.mono HD9.out.size))
  clear hb10
  obtain ⟨f0, f1⟩ := cells2 (kept2 HK4.out HD10.out)
  go_wp2_with fail
  refine (HT.out _).mono ?_
  rintro e w11 ⟨rfl, hb11⟩
  have HM11 := Lib.hid (HM10.out.below hb11)
  have HD11 := Lib.hid (HD10.out.trans (hb11.mono HD10.out.size))
  clear hb11 f0 f1
  go_wp2_with fail
  refine (HI.out _).mono ?_
  rintro e w12 ⟨v12, q12, rfl, hS12, hq12, hb12⟩
  have HM12 := Lib.hid (HM11.out.below hb12)
  have HD12 := Lib.hid (HD11.out.trans (hb12.mono HD11.out.size))
  have HS12 := Lib.hid hS12
  have HQ12 := Lib.hid hq12
  have hlt12 : p6 < w12.heap.size := by have := HD12.out.size; omega
  clear hS12 hq12 hb12
  have d0 : ∀ o : Obj, (w12.alloc o).cell? ⟨p6, 0, none⟩ = some (.string X) := fun o => (World.cell?_of_block (heap_alloc_old w12 o hlt12)).trans (cells2 (kept2 HP4.out HD12.out)).1
  have d1 : ∀ o : Obj, (w12.alloc o).cell? ⟨p6, 1, none⟩ = some (.bool Y) := fun o => (World.cell?_of_block (heap_alloc_old w12 o hlt12)).trans (cells2 (kept2 HP4.out HD12.out)).2
  go_wp2_with fail
  have HD13 := Lib.hid (HD12.out.alloc HD12.out.size (.cells #[.string X, .bool Y] 33))
  have HS13 := Lib.hid (HS12.out.below ((Below.refl w12.heap.size w12).alloc (Nat.le_refl _) (.cells #[.string X, .bool Y] 33)))
  have HM13 := Lib.hid (HM12.out.below ((Below.refl w12.heap.size w12).alloc (Nat.le_refl _) (.cells #[.string X, .bool Y] 33)))
  clear d0 d1 HD12 HS12 HM12
  generalize w12.alloc (.cells #[.string X, .bool Y] 33) = W13 at *
  refine (HQ.out _).mono ?_
  rintro e w14 ⟨rfl, hb14⟩
  have HD14 := Lib.hid (HD13.out.trans (hb14.mono HD13.out.size))
  have HS14 := Lib.hid (HS13.out.below hb14)
  have HM14 := Lib.hid (HM13.out.below hb14)
  clear hb14
  obtain ⟨hk5, hk6, hkm⟩ := HZL.out q12 HQ12.out
  have HK6 := Lib.hid hk6
  have HKM := Lib.hid hkm
  clear hk6 hkm
  go_wp2_with fail
  refine (eqStringSS_same v12 v3 q12 q3 w14 (HS14.out.reads HKM.out) (HR4.out.below HD14.out) (by rw [HQ12.out, HQ3.out]) (by omega) (fun r hr => by have := HK6.out r hr; omega)).mono ?_
  rintro e w15 ⟨rfl, hb15⟩
  have HD15 := Lib.hid (HD14.out.trans (hb15.mono HD14.out.size))
  have HM15 := Lib.hid (HM14.out.below hb15)
  clear hb15
  go_wp2_with fail
  refine (heldStringSS_any _ v5 q5 1 w15 HM15.out (by omega) (by omega) HL6.out).mono ?_
  rintro e w16 ⟨rfl, hb16⟩
  rw [HMM.out]
  have HD16 := Lib.hid (HD15.out.trans (hb16.mono HD15.out.size))
  clear hb16
  go_wp2
  go_ret
  exact ⟨rfl, HB4.out.trans (HD16.out.mono (by omega))⟩
end Go.Proofs.YtliiffpegfkpbabDoor
