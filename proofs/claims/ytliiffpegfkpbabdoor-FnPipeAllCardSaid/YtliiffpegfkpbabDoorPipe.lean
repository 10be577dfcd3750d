/- Which pipes are ok: the program and the specification answer the same; the laws' helpers of pipes. -/
import Derived.Test.YtliiffpegfkpbabDoorFrameGetI
import Derived.Test.YtliiffpegfkpbabDoorFrameGetS
namespace Go.Proofs.YtliiffpegfkpbabDoor
open Go.RowKit
/-- a pipe as a value. -/
def pipV (s : ByteArray) (b : Bool) : Value := .agg #[.string s, .bool b]
def pipeB (s : ByteArray) (b : Bool) : Bool := if b then s.size == 0 else decide ((fg s).1 = 0 ∧ s.size ≤ 1800)
theorem pp_loop (d : ByteArray) (i : Nat) (r : List UInt8) : (ByteArray.toList.loop d i r).length = r.length + (d.size - i) := by
  fun_induction ByteArray.toList.loop d i r with
  | case1 i r h ih => rw [ih]; simp only [List.length_cons]; omega
  | case2 i r h => simp only [List.length_reverse]; omega
theorem pp_empty (d : ByteArray) : d.toList.isEmpty = (d.size == 0) := by
  have h := pp_loop d 0 []
  simp only [List.length_nil] at h
  unfold ByteArray.toList
  rw [Bool.eq_iff_iff, List.isEmpty_iff, ← List.length_eq_zero_iff, h]
  simp
theorem cells2 {w : World} {b : Nat} {a0 a1 : Value} {T : TypeId} (h : w.heap[b]? = some (.cells #[a0, a1] T (0, 0))) : w.cell? ⟨b, 0, none⟩ = some a0 ∧ w.cell? ⟨b, 1, none⟩ = some a1 := by
  simp [World.cell?, h]
theorem kept2 {w w' : World} {b : Nat} {o : Obj} (h : w.heap[b]? = some o) (hb : Below w.heap.size w w') : w'.heap[b]? = some o := by
  have hlt : b < w.heap.size := by
    rcases Nat.lt_or_ge b w.heap.size with hlt | hge
    · exact hlt
    · rw [Array.getElem?_eq_none hge] at h; cases h
  exact (hb.block b hlt).trans h
set_option maxHeartbeats 1000000 in
theorem implPipeOk_any (s : ByteArray) (b : Bool) (w : World) (hs : s.size ≤ 1099511627776) :
    Calls Tryd.prog 20 #[pipV s b] w fun e w' => e = .returned (.bool (pipeB s b)) ∧ Below w.heap.size w w' := by
  unfold pipV
  have HB0 := Lib.hid ((Below.refl w.heap.size w).alloc (Nat.le_refl _) (.cells #[.string s, .bool b] 33))
  cases b
  · have HE : Hid (pipeB s false = (decide ((fg s).1 = 0) && decide (s.size ≤ 1800))) := Lib.hid (by rw [Bool.eq_iff_iff]; simp [pipeB])
    have HI : Hid (∀ w : World, Calls Tryd.prog 13 #[.string s] w (FG s w)) := Lib.hid (fun w => implFrameGet_any s w hs)
    obtain ⟨c, hc⟩ : ∃ c, (fg s).1 = c := ⟨_, rfl⟩
    have HC := Lib.hid hc
    clear hc
    by_cases h0 : c = 0
    · subst h0
      go_enter Tryd.func20, Tryd.ntmps20
      go_wp2_with (go_at_call 13; refine (HI.out _).mono ?_; rintro e w1 ⟨v, rfl, hown, hb1⟩; rw [HC.out]; have hk1 := kept2 (heap_alloc_new w _) hb1; obtain ⟨c0, c1⟩ := cells2 hk1; have HB1 := Lib.hid hb1; clear hown hb1 hk1)
      go_ret
      refine ⟨?_, HB0.out.trans (HB1.out.mono (by simp))⟩
      rw [HE.out, HC.out]
      exact ret_bool (by rw [Bool.eq_iff_iff]; simp; try omega)
    · have hn : (c == 0) = false := by simpa using h0
      have H0 := Lib.hid h0
      clear h0
      go_enter Tryd.func20, Tryd.ntmps20
      go_wp2_with (go_at_call 13; refine (HI.out _).mono ?_; rintro e w1 ⟨v, rfl, hown, hb1⟩; rw [HC.out]; have hk1 := kept2 (heap_alloc_new w _) hb1; obtain ⟨c0, c1⟩ := cells2 hk1; have HB1 := Lib.hid hb1; clear hown hb1 hk1)
      go_ret
      refine ⟨?_, HB0.out.trans (HB1.out.mono (by simp))⟩
      rw [HE.out, HC.out, decide_eq_false H0.out]
      rfl
  · have he := pp_empty s
    have HE : Hid (pipeB s true = (s.size == 0)) := Lib.hid rfl
    go_enter Tryd.func20, Tryd.ntmps20
    go_wp2
    go_ret
    refine ⟨?_, HB0.out⟩
    rw [HE.out]
    exact ret_bool (by simp_all)
set_option maxHeartbeats 1000000 in
theorem specPipeOk_any (s : ByteArray) (b : Bool) (w : World) (hs : s.size ≤ 1099511627776) :
    Calls Tryd.prog 18 #[pipV s b] w fun e w' => e = .returned (.bool (pipeB s b)) ∧ Below w.heap.size w w' := by
  unfold pipV
  have HB0 := Lib.hid ((Below.refl w.heap.size w).alloc (Nat.le_refl _) (.cells #[.string s, .bool b] 33))
  cases b
  · have HE : Hid (pipeB s false = (decide ((fg s).1 = 0) && decide (s.size ≤ 1800))) := Lib.hid (by rw [Bool.eq_iff_iff]; simp [pipeB])
    have HI : Hid (∀ w : World, Calls Tryd.prog 15 #[.string s] w (SG s w)) := Lib.hid (fun w => specFrameGet_any s w hs)
    obtain ⟨c, hc⟩ : ∃ c, (fg s).1 = c := ⟨_, rfl⟩
    have HC := Lib.hid hc
    clear hc
    by_cases h0 : c = 0
    · subst h0
      go_enter Tryd.func18, Tryd.ntmps18
      go_wp2_with (go_at_call 15; refine (HI.out _).mono ?_; rintro e w1 ⟨A0, cp, rfl, hst, hb1⟩; rw [HC.out]; have hk1 := kept2 (heap_alloc_new w _) hb1; obtain ⟨c0, c1⟩ := cells2 hk1; have HB1 := Lib.hid hb1; clear hst hb1 hk1)
      go_ret
      refine ⟨?_, HB0.out.trans (HB1.out.mono (by simp))⟩
      rw [HE.out, HC.out]
      exact ret_bool (by rw [Bool.eq_iff_iff]; simp; try omega)
    · have hn : (c == 0) = false := by simpa using h0
      have H0 := Lib.hid h0
      clear h0
      go_enter Tryd.func18, Tryd.ntmps18
      go_wp2_with (go_at_call 15; refine (HI.out _).mono ?_; rintro e w1 ⟨A0, cp, rfl, hst, hb1⟩; rw [HC.out]; have hk1 := kept2 (heap_alloc_new w _) hb1; obtain ⟨c0, c1⟩ := cells2 hk1; have HB1 := Lib.hid hb1; clear hst hb1 hk1)
      go_ret
      refine ⟨?_, HB0.out.trans (HB1.out.mono (by simp))⟩
      rw [HE.out, HC.out, decide_eq_false H0.out]
      rfl
  · have he := pp_empty s
    have HE : Hid (pipeB s true = (s.size == 0)) := Lib.hid rfl
    go_enter Tryd.func18, Tryd.ntmps18
    go_wp2
    go_ret
    refine ⟨?_, HB0.out⟩
    rw [HE.out]
    exact ret_bool (by simp_all)
set_option maxHeartbeats 1000000 in
theorem toPipe_any (s : ByteArray) (b : Bool) (w : World) :
    Calls Tryd.prog 19 #[pipV s b] w fun e w' => e = .returned (pipV s b) ∧ Below w.heap.size w w' := by
  unfold pipV
  go_enter Tryd.func19, Tryd.ntmps19
  go_wp2
  exact bodyPost_ret (v := .agg #[.string s, .bool b]) (by simp [results, Tryd.results19, go_sem]) rfl ⟨rfl, by repeat (first | exact Below.refl _ _ | refine Below.alloc ?_ (by simp; try omega) _)⟩
set_option maxHeartbeats 1000000 in
theorem szPipe_any (s : ByteArray) (b : Bool) (left : Int) (w : World) (hs : s.size ≤ maxLen) (h0 : 0 ≤ left) (h1 : left ≤ 1048576) :
    Calls Tryd.prog 17 #[pipV s b, .int .i64 left] w fun e w' => e = .returned (.int .i64 (if left - s.size < 0 then -1 else left - s.size)) ∧ Below w.heap.size w w' := by
  unfold pipV
  unfold maxLen at hs
  by_cases h : left - s.size < 0
  all_goals
    go_enter Tryd.func17, Tryd.ntmps17
    go_wp2
    go_ret
    exact ⟨by simp [h], by repeat (first | exact Below.refl _ _ | refine Below.alloc ?_ (by simp; try omega) _)⟩
set_option maxHeartbeats 2000000 in
theorem walkExactPipeOk (s : ByteArray) (b : Bool) (hs : s.size ≤ maxLen) (_ : True) (w : World) :
    Calls Tryd.prog 5 #[pipV s b] w fun e w' => e = .returned (.bool true) ∧ Below w.heap.size w w' := by
  have HZ := Lib.hid (fun w => szPipe_any s b 1048576 w hs (by decide) (by decide))
  have HT := Lib.hid (toPipe_any s b)
  have HB0 := Lib.hid ((Below.refl w.heap.size w).alloc (Nat.le_refl _) (.cells #[.string s, .bool b] 37))
  by_cases hlong : (1048576 : Int) - s.size < 0
  · have HL : Hid ((if (1048576 : Int) - (s.size : Int) < 0 then -1 else (1048576 : Int) - (s.size : Int)) = -1) := Lib.hid (by rw [if_pos hlong])
    clear hlong
    unfold pipV at HZ ⊢
    go_enter Tryd.func5, Tryd.ntmps5
    go_wp2_with (first | (go_at_call 17; refine (HZ.out _).mono ?_; rintro e w1 ⟨rfl, hb1⟩; rw [HL.out]))
    go_ret
    exact ⟨rfl, HB0.out.trans (hb1.mono (by simp))⟩
  · have HS := Lib.hid (fun w => specPipeOk_any s b w (by omega))
    have HI := Lib.hid (fun w => implPipeOk_any s b w (by omega))
    obtain ⟨z, hz⟩ : ∃ z : Int, z = 1048576 - s.size := ⟨_, rfl⟩
    have HL : Hid ((if (1048576 : Int) - (s.size : Int) < 0 then -1 else (1048576 : Int) - (s.size : Int)) = z) := Lib.hid (by rw [if_neg hlong, hz])
    have hz0 : ¬ z < 0 := by omega
    clear hlong hz
    generalize pipeB s b = r at HS HI
    have hd : (r != r) = false := by simp
    unfold pipV at HZ HT HS HI ⊢
    go_enter Tryd.func5, Tryd.ntmps5
    go_wp2_with (first | (go_at_call 17; refine (HZ.out _).mono ?_; rintro e w1 ⟨rfl, hb1⟩; rw [HL.out]; have hk1 := kept2 (heap_alloc_new w _) hb1; have HK1 := Lib.hid hk1; obtain ⟨c0, c1⟩ := cells2 hk1; clear hk1) | (go_at_call 19; refine (HT.out w3).mono ?_; rintro e w4 ⟨rfl, hb4⟩) | (go_at_call 19; refine (HT.out _).mono ?_; rintro e w2 ⟨rfl, hb2⟩; have HK2 := Lib.hid (kept2 HK1.out hb2)) | (go_at_call 18; refine (HS.out _).mono ?_; rintro e w3 ⟨rfl, hb3⟩; have hk3 := kept2 HK2.out hb3; obtain ⟨d0, d1⟩ := cells2 hk3; clear hk3) | (go_at_call 20; refine (HI.out _).mono ?_; rintro e w5 ⟨rfl, hb5⟩))
    go_ret
    have H1 := HB0.out.trans (hb1.mono (by simp))
    have H2 := H1.trans (hb2.mono H1.size)
    have H3 := H2.trans (hb3.mono H2.size)
    have H4 := H3.trans (hb4.mono H3.size)
    exact ⟨rfl, H4.trans (hb5.mono H4.size)⟩
end Go.Proofs.YtliiffpegfkpbabDoor
