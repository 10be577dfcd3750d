/- The law FnExactAccessOk walked. -/
import Derived.Test.YtliiffpegfkpbabAccSpec
namespace Go.Proofs.Ytliiffpegfkpbab
open Go.RowKit
set_option maxHeartbeats 2000000 in
set_option maxRecDepth 100000 in
theorem walkExactAccessOk (nm : ByteArray) (hs : nm.size ≤ maxLen) (k at_ sz tu tg pl : Int) (_ : (Lit.int .i64 k).wf = true) (_ : (Lit.int .i64 at_).wf = true) (_ : (Lit.int .i64 sz).wf = true) (wtu : (Lit.int .i64 tu).wf = true) (_ : (Lit.int .i64 tg).wf = true) (wpl : (Lit.int .i64 pl).wf = true) (w : World) :
    Calls Try.prog 3 #[accV nm k at_ sz tu tg pl] w fun e w' => e = .returned (.bool true) ∧ Below w.heap.size w w' := by
  have HZ := Lib.hid (fun w => szAccess_any nm k at_ sz tu tg pl 1048576 w hs (by decide) (by decide))
  have HT := Lib.hid (toAccess_any nm k at_ sz tu tg pl)
  have HS := Lib.hid (fun w => specAccessOk_any nm k at_ sz tu tg pl w hs)
  have HI := Lib.hid (fun w => implAccessOk_any nm k at_ sz tu tg pl w hs (wf_bd wtu) (wf_bd wpl))
  have HB0 := Lib.hid ((Below.refl w.heap.size w).alloc (Nat.le_refl _) (.cells #[.string nm, .int .i64 k, .int .i64 at_, .int .i64 sz, .int .i64 tu, .int .i64 tg, .int .i64 pl] 23))
  clear wtu wpl
  by_cases hlong : (1048576 : Int) - nm.size < 0
  · have HL : Hid ((if (1048576 : Int) - (nm.size : Int) < 0 then -1 else (1048576 : Int) - (nm.size : Int)) = -1) := Lib.hid (by rw [if_pos hlong])
    clear hlong
    unfold accV at HZ ⊢
    go_enter Try.func3, Try.ntmps3
    go_wp2_with (first | (go_at_call 4; refine (HZ.out _).mono ?_; rintro e w1 ⟨rfl, hb1⟩; rw [HL.out]))
    go_ret
    exact ⟨rfl, HB0.out.trans (hb1.mono (by simp))⟩
  · obtain ⟨z, hz⟩ : ∃ z : Int, z = 1048576 - nm.size := ⟨_, rfl⟩
    have HL : Hid ((if (1048576 : Int) - (nm.size : Int) < 0 then -1 else (1048576 : Int) - (nm.size : Int)) = z) := Lib.hid (by rw [if_neg hlong, hz])
    have hz0 : ¬ z < 0 := by omega
    clear hlong hz
    generalize accB nm k at_ sz tu tg pl = r at HS HI
    have hd : (r != r) = false := by simp
    unfold accV at HZ HT HS HI ⊢
    go_enter Try.func3, Try.ntmps3
    go_wp2_with (first | (go_at_call 4; refine (HZ.out _).mono ?_; rintro e w1 ⟨rfl, hb1⟩; rw [HL.out]; have hk1 := kept7 (heap_alloc_new w _) hb1; have HK1 := Lib.hid hk1; obtain ⟨c0, c1, c2, c3, c4, c5, c6⟩ := cells7 hk1; clear hk1) | (go_at_call 6; refine (HT.out w3).mono ?_; rintro e w4 ⟨rfl, hb4⟩) | (go_at_call 6; refine (HT.out _).mono ?_; rintro e w2 ⟨rfl, hb2⟩; have HK2 := Lib.hid (kept7 HK1.out hb2)) | (go_at_call 5; refine (HS.out _).mono ?_; rintro e w3 ⟨rfl, hb3⟩; have hk3 := kept7 HK2.out hb3; obtain ⟨d0, d1, d2, d3, d4, d5, d6⟩ := cells7 hk3; clear hk3) | (go_at_call 7; refine (HI.out _).mono ?_; rintro e w5 ⟨rfl, hb5⟩))
    go_ret
    have H1 := HB0.out.trans (hb1.mono (by simp))
    have H2 := H1.trans (hb2.mono H1.size)
    have H3 := H2.trans (hb3.mono H2.size)
    have H4 := H3.trans (hb4.mono H3.size)
    exact ⟨rfl, H4.trans (hb5.mono H4.size)⟩
end Go.Proofs.Ytliiffpegfkpbab
