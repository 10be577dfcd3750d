/- The specification's draw of a frame to be read. -/
import Derived.Test.YtliiffpegfkpbabDoorDrawCutF
import Derived.Test.YtliiffpegfkpbabDoorDrawSeg
import Derived.Test.YtliiffpegfkpbabDoorFgFrame
import Derived.Test.YtliiffpegfkpbabDoorFramePutS
namespace Go.Proofs.YtliiffpegfkpbabDoor
open Go.RowKit
set_option maxHeartbeats 4000000 in
set_option maxRecDepth 100000 in
theorem drawFrameGet_any (a : Option Addr) (len cap : Nat) (w : World) (h : Arg w a len cap) :
    Calls Tryd.prog 12 #[.slice a len cap] w fun e w' => ∃ s : ByteArray, s.size ≤ 5000 ∧ e = .returned (.string s) ∧ Below w.heap.size w w' := by
  go_enter Tryd.func12, Tryd.ntmps12
  go_wp2_with fail
  refine (l1Open_any a len cap _ h.1 h.2.1 h.2.2).mono ?_
  rintro e w1 ⟨R, rfl, hR, hrd, hb1⟩
  go_wp2_with fail
  refine (l13Segs_any R 0 _ hrd (by omega)).mono ?_
  rintro e w2 ⟨v, ss, rfl, hl, hall, hown, hp2⟩
  obtain ⟨A, cp, rfl, hst⟩ := strs_of_own hown (fun s hs => by have := hall s hs; unfold maxLen; omega)
  have htot : tot ss ≤ 13600 := Nat.le_trans (tot_le8 ss 1700 hall) (by omega)
  have HST := Lib.hid hst
  clear hown hst hall
  go_wp2_with fail
  refine (specFramePut_any A cp ss _ HST.out (by omega) (by omega)).mono ?_
  rintro e w3 ⟨rfl, hb3⟩
  have hX : (⟨(frameL ss).toArray⟩ : ByteArray).size ≤ 1632 := by
    rw [mk_size]
    cases hok : frOk ss
    · rw [frameL, hok, if_neg (by simp)]; simp
    · exact (fr_mod8 hok).2.2
  generalize (⟨(frameL ss).toArray⟩ : ByteArray) = X at hX ⊢
  have hq := hp2.below hb3
  clear hb3 hp2
  go_wp2_with fail
  refine (l13Cut_c R 60 X _ hq.1 (by omega) (by omega)).mono ?_
  rintro e w4 ⟨u, hu, rfl, hp4⟩
  have hu2 : u.size ≤ X.size + 1 := hu
  have hq4 := hq.then hp4
  have HQ4 := Lib.hid hq4
  have hR4 := hq4.1.lt
  clear hu hq hp4 hq4
  go_wp2_with fail
  refine (of_any R 63 w4.heap.size 3 3 (fun z => z.size ≤ 4) _ _ (by exact HQ4.out.1.below ((Below.refl _ _).alloc (Nat.le_refl _) _)) (by omega) (by exact Lits.new _ _ _ _) (by
      intro v hv
      simp at hv
      rcases hv with rfl | rfl | rfl
      all_goals exact ⟨_, rfl, by decide⟩) (by omega) (by simp) (by omega) (by omega)).mono ?_
  rintro e w5 ⟨x, hx, rfl, hp5⟩
  have hx1 : x.size ≤ 4 := hx
  have f1 : ¬ 9223372036854775807 < u.size + x.size := by omega
  have hq5 := (HQ4.out.below ((Below.refl w4.heap.size w4).alloc (Nat.le_refl _) _)).then hp5
  have HB5 := Lib.hid (opened_below hR hb1 hq5)
  clear hp5 hq5
  go_wp2
  go_ret
  exact ⟨u ++ x, by rw [ByteArray.size_append]; omega, rfl, HB5.out⟩
end Go.Proofs.YtliiffpegfkpbabDoor
