/- impl.FrameGet: what it answers at every text of at most 2^40 bytes. -/
import Derived.Test.YtliiffpegfkpbabDoorCutSegs
import Derived.Test.YtliiffpegfkpbabDoorFramePut
namespace Go.Proofs.YtliiffpegfkpbabDoor
open Go.RowKit
/-- what FrameGet answers. -/
def FG (s : ByteArray) (w : World) (e : Ending) (w' : World) : Prop :=
  ∃ v, e = .returned (.tuple #[v, .int .i64 (fg s).1]) ∧ w'.ownsRow w.heap.size 9 1 v (fg s).2.length ((fg s).2.map Value.string) ∧ Below w.heap.size w w'
theorem FG.none {s : ByteArray} {w w' : World} {c : Int} (h : fg s = (c, [])) (hb : Below w.heap.size w w') : FG s w (.returned (.tuple #[.slice none 0 0, .int .i64 c])) w' :=
  ⟨_, by rw [h], by rw [h]; exact World.ownsRow_nil _ _ _ _, hb⟩
set_option maxHeartbeats 2000000 in
theorem implFrameGet_any (s : ByteArray) (w : World) (hs : s.size ≤ 1099511627776) :
    Calls Tryd.prog 13 #[.string s] w (FG s w) := by
  have hpost : ∃ P : Ending → World → Prop, P = FG s w := ⟨_, rfl⟩
  obtain ⟨P, hP⟩ := hpost
  rw [← hP]
  have HP := Lib.hid hP
  clear hP
  by_cases h4 : s.size < 4
  · have h4' : ((s.size : Nat) : Int) < 4 := by omega
    have hf := fg0 h4
    have HF := Lib.hid hf
    clear hf
    go_enter Tryd.func13, Tryd.ntmps13
    go_wp2
    rw [HP.out]
    exact FG.none HF.out (Below.refl _ _)
  have h4 : 4 ≤ s.size := by omega
  have h4' : ¬ ((s.size : Nat) : Int) < 4 := by omega
  have hg := gN_lt s.data.toList 0
  obtain ⟨n, hn⟩ : ∃ n, gN s.data.toList 0 + 1 = n := ⟨_, rfl⟩
  have hG : ((gN s.data.toList 0 : Nat) : Int) + 1 = (n : Int) := by omega
  have hn1 : 1 ≤ n := by omega
  have HN := Lib.hid hn
  have HGN := Lib.hid hG
  have hGN : Hid (∀ w : World, Calls Tryd.prog 39 #[.string s, .int .i64 0] w fun e w' => e = .returned (.int .i64 ((n : Int) - 1)) ∧ Below w.heap.size w w') := Lib.hid (fun w => by
    have := getNumber_any s 0 w (by unfold maxLen; omega) (by omega)
    rw [show ((gN s.data.toList 0 : Nat) : Int) = (n : Int) - 1 by omega] at this
    exact this)
  have hnl : n ≤ 4294967296 := by omega
  clear hg hn hG
  go_enter Tryd.func13, Tryd.ntmps13
  go_wp2_with fail
  refine (hGN.out _).mono ?_
  rintro e w1 ⟨rfl, hb1⟩
  have HB1 := Lib.hid hb1
  clear hb1
  by_cases h6 : 6 < n
  · have h6' : (6 : Int) < (n : Int) - 1 + 1 := by omega
    go_wp2
    rw [HP.out]
    exact FG.none (fg1 HN.out h4 h6) HB1.out
  have h6' : ¬ (6 : Int) < (n : Int) - 1 + 1 := by omega
  have h6 : n ≤ 6 := by omega
  have he : (n : Int) - 1 + 1 = n := by omega
  have HE := Lib.hid he
  clear he
  go_wp2_with fail
  refine (headBytes_any n _ (by omega)).mono ?_
  rintro e w' ⟨rfl, rfl⟩
  obtain ⟨hd, hhd⟩ : ∃ hd, fgHead n = hd := ⟨_, rfl⟩
  have hhd2 : (n / 2 + 1) * 8 = hd := hhd
  rw [hhd2]
  have hdl : hd ≤ 32 ∧ 8 ≤ hd := by omega
  obtain ⟨hdl, hd8⟩ := hdl
  have HHD := Lib.hid hhd
  clear hhd hhd2
  by_cases hsh : s.size < hd
  · have h7 : ((s.size : Nat) : Int) < (hd : Int) := by omega
    go_wp2
    rw [HP.out]
    exact FG.none (fg2 HN.out h4 h6 (by rw [HHD.out]; exact hsh)) HB1.out
  have hsh : hd ≤ s.size := by omega
  have h7 : ¬ ((s.size : Nat) : Int) < (hd : Int) := by omega
  have hxs : (s.extract 0 hd).size = fgHead n := by rw [HHD.out]; simp; omega
  have hxl : (s.extract 0 hd).data.toList = s.data.toList.take hd := by rw [Lib.extract_data]; simp
  have HFS : Hid (∀ w : World, Calls Tryd.prog 40 #[.string (s.extract 0 hd), .int .i64 n] w (FSz (s.extract 0 hd) n w)) := Lib.hid (fun w => frameSizes_any _ n w hn1 h6 hxs)
  have hsz : szs (s.extract 0 hd).data.toList n = szs s.data.toList n := by
    refine szs_congr n (fun j hj => ?_)
    rw [hxl, List.getElem?_take_of_lt (by have := HHD.out; unfold fgHead at this; omega)]
  have hfz : fgZ (s.extract 0 hd).data.toList n = fgZ s.data.toList n := by
    rw [fgZ, fgZ, hxl, HHD.out, List.take_take, Nat.min_self]
  have HSZ := Lib.hid hsz
  have HFZ := Lib.hid hfz
  clear hxs hxl hsz hfz
  go_wp2_with fail
  refine (HFS.out _).mono ?_
  rintro e w2 ⟨v, rfl, hown, hb2⟩
  rw [HSZ.out, HFZ.out]
  rw [HSZ.out] at hown
  have HB2 := Lib.hid (HB1.out.trans (hb2.mono HB1.out.size))
  obtain ⟨A, cp, rfl⟩ := own_shape hown
  have HON := Lib.hid (Ones.own hown)
  clear hown hb2
  by_cases hbad : fgZ s.data.toList n = false ∨ 200 < (szs s.data.toList n).sum
  · have hb : (fgZ s.data.toList n && decide ((szs s.data.toList n).sum ≤ 200)) = false := by
      rcases hbad with h | h
      · rw [h]; rfl
      · rw [decide_eq_false (by omega)]; simp
    rw [hb]
    clear hb
    have HBAD := Lib.hid hbad
    clear hbad
    go_wp2
    rw [HP.out]
    exact FG.none (fg3 HN.out h4 h6 (by rw [HHD.out]; exact hsh) HBAD.out) HB2.out
  have hz1 : fgZ s.data.toList n = true := by
    cases h : fgZ s.data.toList n
    · exact absurd (.inl h) hbad
    · rfl
  have hz2 : (szs s.data.toList n).sum ≤ 200 := by omega
  rw [hz1, decide_eq_true hz2]
  have HZ1 := Lib.hid hz1
  have HZ2 := Lib.hid hz2
  have hzl := szs_length s.data.toList n
  have HCS : Hid (∀ w : World, Ones w A (szCells (szs s.data.toList n)) → Calls Tryd.prog 41 #[.string s, .int .i64 hd, .slice A n cp] w (fun e w' => if s.size < hd + 8 * (szs s.data.toList n).sum then CutNo w e w' else CutYes s hd (szs s.data.toList n) w e w')) := Lib.hid (fun w h => by
    have := cutSegments_any s hd A cp (szs s.data.toList n) w hs hsh (by omega) hz2 h
    rw [hzl] at this
    exact this)
  have HZL := Lib.hid hzl
  clear hbad hz1 hz2 hzl
  go_wp2_with fail
  refine (HCS.out _ HON.out).mono ?_
  intro e w3 h3
  by_cases hlt : s.size < hd + 8 * (szs s.data.toList n).sum
  · rw [if_pos hlt] at h3
    obtain ⟨rfl, hb3⟩ := h3
    have HL := Lib.hid hlt
    have HB3 := Lib.hid (HB2.out.trans (hb3.mono HB2.out.size))
    clear hlt hb3
    go_wp2
    rw [HP.out]
    exact FG.none (fg4 HN.out h4 h6 (by rw [HHD.out]; exact hsh) HZ1.out HZ2.out (by rw [HHD.out]; exact HL.out)) HB3.out
  · rw [if_neg hlt] at h3
    obtain ⟨v, rfl, ho3, hb3⟩ := h3
    have HO3 := Lib.hid ho3
    have hf := fg5 HN.out h4 h6 (by rw [HHD.out]; exact hsh) HZ1.out HZ2.out (by rw [HHD.out]; omega)
    rw [HHD.out] at hf
    have HF := Lib.hid hf
    have HB3 := Lib.hid (HB2.out.trans (hb3.mono HB2.out.size))
    have HBW := Lib.hid HB2.out.size
    clear hlt hb3 ho3 hf
    go_wp2
    rw [HP.out]
    refine ⟨v, by rw [HF.out]; rfl, ?_, HB3.out⟩
    rw [HF.out]
    show World.ownsRow w3 w.heap.size _ 1 v (cutB s hd (szs s.data.toList n)).length _
    rw [cutB_length]
    exact ⟨HO3.out.1, HO3.out.2.imp (fun x => x) (fun ⟨g, cap, cur, hv, hg, r⟩ => ⟨g, cap, cur, hv, Nat.le_trans HBW.out hg, r⟩)⟩
end Go.Proofs.YtliiffpegfkpbabDoor
