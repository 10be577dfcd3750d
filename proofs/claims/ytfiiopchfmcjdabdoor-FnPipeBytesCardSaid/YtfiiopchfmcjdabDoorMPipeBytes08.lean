/- Texts of the proof of the law FnPipeBytes, side by side: part 8. -/
import Derived.Lib.QuietBelow
import Derived.BigQuiet
import Derived.Test.YtfiiopchfmcjdabDoorMPipeBytes00
import Derived.Test.YtfiiopchfmcjdabDoorMPipeBytes01
import Derived.Test.YtfiiopchfmcjdabDoorMPipeBytes02
import Derived.Test.YtfiiopchfmcjdabDoorMPipeBytes03
import Derived.Test.YtfiiopchfmcjdabDoorMPipeBytes04
import Derived.Test.YtfiiopchfmcjdabDoorMPipeBytes05
import Derived.Test.YtfiiopchfmcjdabDoorMPipeBytes06
import Derived.Test.YtfiiopchfmcjdabDoorMPipeBytes07
/- The specification's draws of pipes. -/
namespace Go.Proofs.YtfiiopchfmcjdabDoor
open Go.RowKit
theorem pipeF_left (s : ByteArray) (b : Bool) (t : ByteArray) : (pipeF s b t).2.1.size ≤ 5800 := by
  unfold pipeF
  split
  · exact Nat.zero_le _
  · rename_i h
    split
    · exact Nat.zero_le _
    · have hb : pipeB s b = true := by
        cases hb : pipeB s b
        · exact absurd (.inl hb) h
        · rfl
      have h1 := pipe_small hb
      have h2 : ¬ 4000 < t.size := fun h3 => h (.inr h3)
      have hsz : (s ++ t).size ≤ 5800 := by simp; omega
      obtain ⟨_, _, b3⟩ := feedN_bounds ((s ++ t).size + 1) (s ++ t) (by omega)
      exact Nat.le_trans b3 hsz
/-- some pipe. -/
def PpP (R n : Nat) (w : World) (e : Ending) (w' : World) : Prop := ∃ (L : ByteArray) (b : Bool), L.size ≤ 6000 ∧ e = .returned (pipV L b) ∧ Picked w R n w'
theorem frame_size (ss : List ByteArray) : (⟨(frameL ss).toArray⟩ : ByteArray).size ≤ 1632 := by
  rw [mk_size]
  cases hok : frOk ss
  · rw [frameL, hok, if_neg (by simp)]; simp
  · exact (fr_mod8 hok).2.2
theorem pick_row {w w' : World} {R n g : Nat} {o : Obj} (h : w.heap[g]? = some o) (hp : Picked w R n w') (hg : g ≠ R) : w'.heap[g]? = some o := (hp.2.block g (row_lt h) hg).trans h
theorem picked_set' {w w1 : World} {R n b i : Nat} {v : Value} (h : Picked w R n w1) (hR : R < w.heap.size) (hb : w.heap.size ≤ b) : Picked w R n (w1.setCell ⟨b, i, none⟩ v) := by
  obtain ⟨⟨a, l, c, p, hp, hr, hc⟩, hk⟩ := h
  have hs := set_keeps w1.heap.size b w1 i v
  refine ⟨⟨a, l, c, p, hp, (hs.block R (row_lt hr) (by omega)).trans hr, hc.keeps hs (Nat.le_of_lt (row_lt hr)) (by omega)⟩, ?_⟩
  exact ⟨hs.os.trans hk.os, hs.tape.trans hk.tape, hs.output.trans hk.output, Nat.le_trans hk.size hs.size, fun k hk1 hk2 => (hs.block k (Nat.lt_of_lt_of_le hk1 hk.size) (by omega)).trans (hk.block k hk1 hk2)⟩
set_option maxHeartbeats 4000000 in
set_option maxRecDepth 100000 in
theorem l13Pipe_any (R n : Nat) (w : World) (h : Rd w R n) (hn : n ≤ 600000) :
    Calls Tryd.prog 55 #[.pointer (some ⟨R, 0, none⟩)] w (PpP R (n + 300) w) := by
  have hRw := h.lt
  have hpost : ∃ P : Ending → World → Prop, P = PpP R (n + 300) w := ⟨_, rfl⟩
  obtain ⟨P, hP⟩ := hpost
  rw [← hP]
  have HP := Lib.hid hP
  clear hP
  have HW0 := Lib.hid (h.self.below (((Below.refl w.heap.size w).alloc (Nat.le_refl _) (.cells #[.string { data := #[] }, .bool false] 24)).alloc (by simp) (.cells #[.string { data := #[] }, .bool false] 24)))
  have K0 : Hid (((w.alloc (.cells #[.string { data := #[] }, .bool false] 24)).alloc (.cells #[.string { data := #[] }, .bool false] 24)).heap[w.heap.size]? = some (.cells #[.string { data := #[] }, .bool false] 24 (0, 0))) := Lib.hid ((heap_alloc_old _ _ (by simp)).trans (heap_alloc_new w _))
  have K1 : Hid (((w.alloc (.cells #[.string { data := #[] }, .bool false] 24)).alloc (.cells #[.string { data := #[] }, .bool false] 24)).heap[w.heap.size + 1]? = some (.cells #[.string { data := #[] }, .bool false] 24 (0, 0))) := Lib.hid (by
    have := heap_alloc_new (w.alloc (.cells #[.string { data := #[] }, .bool false] 24)) (.cells #[.string { data := #[] }, .bool false] 24)
    simpa using this)
  clear h
  go_enter Tryd.func55, Tryd.ntmps55
  go_wp2_with fail
  generalize (w.alloc (.cells #[.string { data := #[] }, .bool false] 24)).alloc (.cells #[.string { data := #[] }, .bool false] 24) = W0 at *
  refine (pick_any R n _ _ HW0.out.1 (by omega)).mono ?_
  rintro e w1 ⟨v, ⟨hv0, hv1⟩, rfl, hp1⟩
  obtain ⟨m, rfl⟩ := Int.eq_ofNat_of_zero_le hv0
  have hm : m ≤ 2 := by omega
  have HK0 := Lib.hid (pick_row K0.out hp1 (by omega))
  have HK1 := Lib.hid (pick_row K1.out hp1 (by omega))
  have HP1 := Lib.hid (HW0.out.then hp1)
  clear hv0 hv1 hp1
  go_wp2_with fail
  go_loopw [4] (fun u wr => ∃ (k : Nat) (L : ByteArray) (b : Bool), k ≤ 2 ∧ u = .int .i64 (k : Int) ∧ L.size ≤ 6000 ∧ Hid (wr.heap[w.heap.size]? = some (.cells #[.string { data := #[] }, .bool false] 24 (0, 0))) ∧ Hid (wr.heap[w.heap.size + 1]? = some (.cells #[.string L, .bool b] 24 (0, 0))) ∧ Hid (Picked w R (n + 1 + (2 - k) * 61) wr)) (fun u _ => (intOf u).toNat)
  case atStart => exact ⟨m, _, _, hm, rfl, Nat.zero_le _, HK0, HK1, Lib.hid (HP1.out.mono (by omega))⟩
  case round =>
    obtain ⟨k, L, b, hk, rfl, hL, HK0, HK1, HPK⟩ := hrel
    by_cases h0 : k = 0
    · subst h0
      obtain ⟨c0, c1⟩ := cells2 HK0.out
      obtain ⟨d0, d1⟩ := cells2 HK1.out
      have zf := row_free HK0.out
      go_wp2
      obtain ⟨wf, hwf⟩ : ∃ wf, (wr.setCell ⟨w.heap.size, 0, none⟩ (.string L)).setCell ⟨w.heap.size, 1, none⟩ (.bool b) = wf := ⟨_, rfl⟩
      have hrw : wf.heap[w.heap.size]? = some (.cells #[.string L, .bool b] 24 (0, 0)) := by rw [← hwf]; exact rowSet (rowSet HK0.out 0 _) 1 _
      have hpf : Picked w R (n + 300) wf := by rw [← hwf]; exact (picked_set' (picked_set' HPK.out hRw (Nat.le_refl _)) hRw (Nat.le_refl _)).mono (by omega)
      rw [hwf]
      obtain ⟨e0, e1⟩ := cells2 hrw
      refine bodyPost_ret (v := .agg #[.string L, .bool b]) (by simp [results, Tryd.results55, go_sem, e0, e1]) rfl ?_
      rw [HP.out]
      exact ⟨L, b, hL, rfl, hpf⟩
    · have hk0 : (0 : Int) < (k : Int) := by omega
      have hRr := HPK.out.1.lt
      have hsz := HPK.out.2.size
      go_wp2_with fail
      refine (l13Segs_any R _ _ HPK.out.1 (by omega)).mono ?_
      rintro e w2 ⟨v, ss, rfl, hl, hall, hown, hp2⟩
      obtain ⟨A, cp, rfl, hst⟩ := strs_of_own hown (fun s hs => by have := hall s hs; unfold maxLen; omega)
      have htot : tot ss ≤ 13600 := Nat.le_trans (tot_le8 ss 1700 hall) (by omega)
      have HST := Lib.hid hst
      have HA0 := Lib.hid (pick_row HK0.out hp2 (by omega))
      have HA1 := Lib.hid (pick_row HK1.out hp2 (by omega))
      have HPA := Lib.hid (HPK.out.then hp2)
      clear hown hst hall hp2 HK0 HK1 HPK
      go_wp2_with fail
      refine (specFramePut_any A cp ss _ HST.out (by omega) (by omega)).mono ?_
      rintro e w3 ⟨rfl, hb3⟩
      have hX := frame_size ss
      generalize (⟨(frameL ss).toArray⟩ : ByteArray) = X at hX ⊢
      have HB0 := Lib.hid (kept2 HA0.out hb3)
      have HB1 := Lib.hid (kept2 HA1.out hb3)
      have HPB := Lib.hid (HPA.out.below hb3)
      clear hb3 HA0 HA1 HPA HST htot hl
      have HPD : Hid (Picked w R (n + 1 + (2 - k) * 61 + 60) w3.drew) := Lib.hid (HPB.out.drewN 1)
      have hsz3 := HPB.out.2.size
      obtain ⟨d0, d1⟩ := cells2 HB1.out
      have zf := row_free HB1.out
      have HPF : Hid (∀ (t : ByteArray) (W : World), t.size ≤ 2000 → Calls Tryd.prog 9 #[.agg #[.string L, .bool b], .string t] W fun e w' => ∃ (M : ByteArray) (c : Bool) (v : Value), M.size ≤ 5800 ∧ e = .returned (.tuple #[.agg #[.string M, .bool c], v]) ∧ Below W.heap.size W w') := Lib.hid (fun t W ht => by
        refine (specPipeFeed_any L b t W (by omega) (by omega)).mono ?_
        rintro e w' ⟨v, q, he, _, _, hb⟩
        exact ⟨_, _, v, pipeF_left L b t, he, hb⟩)
      have HRR := Lib.hid hRr
      have hsx : (0 : Int) ≤ ((X.size : Nat) : Int) := by omega
      have hwx : IntKind.i64.wrap (((X.size : Nat) : Int) + 1) = ((X.size : Nat) : Int) + 1 := by rw [IntKind.wrap_i64]; omega
      go_wp2_with fail
      go_region_with (first | (go_at_call 32; refine (pick_any R (n + 1 + (2 - k) * 61 + 60) _ _ (by exact HPD.out.1) (by omega)).mono ?_; rintro e w4 ⟨v, ⟨hv0, hv1⟩, rfl, hp4⟩; obtain ⟨j, rfl⟩ := Int.eq_ofNat_of_zero_le hv0; have hj : j ≤ X.size := (by omega); have hj1 : (j : Int) ≤ ((X.size : Nat) : Int) := (by omega); have HC0 := Lib.hid (pick_row (show w3.drew.heap[w.heap.size]? = _ from HB0.out) hp4 (by omega)); have hc1 := pick_row (show w3.drew.heap[w.heap.size + 1]? = _ from HB1.out) hp4 (by omega); have HC1 := Lib.hid hc1; obtain ⟨e0, e1⟩ := cells2 hc1; have HP4 := Lib.hid (HPD.out.then hp4); clear hv0 hv1 hp4 hc1) | (go_at_call 9; refine (HPF.out _ _ (by rw [ByteArray.size_extract]; omega)).mono ?_; rintro e w5 ⟨M, c, v5, hM, rfl, hb5⟩; have HE0 := Lib.hid (kept2 HC0.out hb5); have he1 := kept2 HC1.out hb5; have HE1 := Lib.hid he1; obtain ⟨g0, g1⟩ := cells2 he1; have zg := row_free he1; have HP5 := Lib.hid (HP4.out.below hb5); clear hb5 he1))
      all_goals
        have HF0 : Hid (((w5.setCell ⟨w.heap.size + 1, 0, none⟩ (.string M)).setCell ⟨w.heap.size + 1, 1, none⟩ (.bool c)).heap[w.heap.size]? = some (.cells #[.string { data := #[] }, .bool false] 24 (0, 0))) := Lib.hid (((Below.heap_setCell _ _ _ _ (by show w.heap.size ≠ w.heap.size + 1; omega)).trans (Below.heap_setCell _ _ _ _ (by show w.heap.size ≠ w.heap.size + 1; omega))).trans HE0.out)
        have HF1 : Hid (((w5.setCell ⟨w.heap.size + 1, 0, none⟩ (.string M)).setCell ⟨w.heap.size + 1, 1, none⟩ (.bool c)).heap[w.heap.size + 1]? = some (.cells #[.string M, .bool c] 24 (0, 0))) := Lib.hid (rowSet (rowSet HE1.out 0 _) 1 _)
        have HP6 : Hid (Picked w R (n + 1 + (2 - (k - 1)) * 61) ((w5.setCell ⟨w.heap.size + 1, 0, none⟩ (.string M)).setCell ⟨w.heap.size + 1, 1, none⟩ (.bool c))) := Lib.hid ((picked_set' (picked_set' HP5.out hRw (by omega)) hRw (by omega)).mono (by omega))
        go_wp2
        go_roundw
        case rel => exact ⟨k - 1, M, c, by omega, by go_num, by omega, HF0, HF1, HP6⟩
        case measure => simp [intOf]; omega
/-- some pipe that is drawn. -/
def PpO (w : World) (e : Ending) (w' : World) : Prop := ∃ (L : ByteArray) (b : Bool), L.size ≤ 6000 ∧ e = .returned (pipV L b) ∧ Below w.heap.size w w'
set_option maxHeartbeats 4000000 in
set_option maxRecDepth 100000 in
theorem drawPipeOk_any (a : Option Addr) (len cap : Nat) (w : World) (h : Arg w a len cap) :
    Calls Tryd.prog 27 #[.slice a len cap] w (PpO w) := by
  have hpost : ∃ P : Ending → World → Prop, P = PpO w := ⟨_, rfl⟩
  obtain ⟨P, hP⟩ := hpost
  rw [← hP]
  have HP := Lib.hid hP
  clear hP
  have K0 := Lib.hid (heap_alloc_new w (.cells #[.string { data := #[] }, .bool false] 24))
  have HB0 := Lib.hid ((Below.refl w.heap.size w).alloc (Nat.le_refl _) (.cells #[.string { data := #[] }, .bool false] 24))
  have HA := Lib.hid (h.below ((Below.refl w.heap.size w).alloc (Nat.le_refl _) (.cells #[.string { data := #[] }, .bool false] 24)))
  clear h
  go_enter Tryd.func27, Tryd.ntmps27
  go_wp2_with fail
  have hs0 : w.heap.size + 1 = (w.alloc (.cells #[.string { data := #[] }, .bool false] 24)).heap.size := by simp
  generalize w.alloc (.cells #[.string { data := #[] }, .bool false] 24) = W0 at *
  refine (l1Open_any a len cap _ HA.out.1 HA.out.2.1 HA.out.2.2).mono ?_
  rintro e w1 ⟨R, rfl, hR, hrd, hb1⟩
  have HK1 := Lib.hid (kept2 K0.out hb1)
  have hR1 := hrd.lt
  go_wp2_with fail
  refine (l13Pipe_any R 0 _ hrd (by omega)).mono ?_
  rintro e w2 ⟨L, b, hL, rfl, hp2⟩
  unfold pipV
  have HK2 := Lib.hid (pick_row HK1.out hp2 (by have := hb1.size; omega))
  have HPK := Lib.hid (hp2.below ((Below.refl w2.heap.size w2).alloc (Nat.le_refl _) (.cells #[.string L, .bool b] 24)))
  have HN2 := Lib.hid (heap_alloc_new w2 (.cells #[.string L, .bool b] 24))
  have hlt2 : w.heap.size < w2.heap.size := row_lt HK2.out
  have hR2 : R < w2.heap.size := hp2.1.lt
  have HK2' := Lib.hid ((heap_alloc_old w2 (.cells #[.string L, .bool b] 24) hlt2).trans HK2.out)
  have hw1s : w1.heap.size ≤ w2.heap.size := hp2.2.size
  clear hp2
  go_wp2_with fail
  generalize hg : w2.heap.size = g at *
  generalize w2.alloc (.cells #[.string L, .bool b] 24) = W2 at *
  refine (pick_any R _ _ _ HPK.out.1 (by omega)).mono ?_
  rintro e w3 ⟨v, ⟨hv0, hv1⟩, rfl, hp3⟩
  have HK3 := Lib.hid (pick_row HK2'.out hp3 (by omega))
  have hn3 := pick_row HN2.out hp3 (by omega)
  have HN3 := Lib.hid hn3
  have HP3 := Lib.hid (HPK.out.then hp3)
  obtain ⟨c0, c1⟩ := cells2 HK3.out
  obtain ⟨d0, d1⟩ := cells2 hn3
  have zf := row_free HK3.out
  have zg := row_free hn3
  have hne : ¬ w.heap.size = g := by omega
  have hne2 : ¬ g = w.heap.size := by omega
  clear hp3 hn3
  have fin : ∀ (M : ByteArray) (c : Bool) (W : World), M.size ≤ 6000 → W.heap[w.heap.size]? = some (.cells #[.string { data := #[] }, .bool false] 24 (0, 0)) → Below w.heap.size w W →
      ∃ wf, (W.setCell ⟨w.heap.size, 0, none⟩ (.string M)).setCell ⟨w.heap.size, 1, none⟩ (.bool c) = wf ∧ wf.heap[w.heap.size]? = some (.cells #[.string M, .bool c] 24 (0, 0)) ∧ PpO w (.returned (.agg #[.string M, .bool c])) wf := fun M c W hM hW hb => by
    obtain ⟨wf, h1, h2, h3⟩ := fin2 (.string M) (.bool c) hW hb (Nat.le_refl _)
    exact ⟨wf, h1, h2, M, c, hM, rfl, h3⟩
  have FIN := Lib.hid fin
  have HBB : Hid (∀ W, Picked w1 R 400 W → Below w.heap.size w W) := Lib.hid (fun W hp => HB0.out.trans ((opened_below hR hb1 hp).mono (by omega)))
  clear fin
  by_cases v0 : v = 0
  · subst v0
    go_wp2
    obtain ⟨wf, hwf, hrw, hpo⟩ := FIN.out L (!b) (w3.setCell ⟨g, 1, none⟩ (.bool (!b))) hL ((Below.heap_setCell _ _ _ _ hne).trans HK3.out) (HBB.out _ ((picked_set' HP3.out (by omega) (by omega)).mono (by omega)))
    rw [hwf]
    obtain ⟨e0, e1⟩ := cells2 hrw
    refine bodyPost_ret (v := .agg #[.string L, .bool (!b)]) (by simp [results, Tryd.results27, go_sem, e0, e1]) rfl ?_
    rw [HP.out]
    exact hpo
  have b0 : (v == 0) = false := by simpa using v0
  by_cases v1 : v = 1
  · subst v1
    go_wp2_with fail
    refine (l13Segs_any R _ _ HP3.out.1 (by omega)).mono ?_
    rintro e w4 ⟨v4, ss, rfl, hl, hall, hown, hp4⟩
    obtain ⟨A, cp, rfl, hst⟩ := strs_of_own hown (fun s hs => by have := hall s hs; unfold maxLen; omega)
    have htot : tot ss ≤ 13600 := Nat.le_trans (tot_le8 ss 1700 hall) (by omega)
    have HST := Lib.hid hst
    have HA0 := Lib.hid (pick_row HK3.out hp4 (by omega))
    have HA1 := Lib.hid (pick_row HN3.out hp4 (by omega))
    have HPA := Lib.hid (HP3.out.then hp4)
    clear hown hst hall hp4
    go_wp2_with fail
    refine (specFramePut_any A cp ss _ HST.out (by omega) (by omega)).mono ?_
    rintro e w5 ⟨rfl, hb5⟩
    have hX := frame_size ss
    generalize (⟨(frameL ss).toArray⟩ : ByteArray) = X at hX ⊢
    have ha0 := kept2 HA0.out hb5
    have ha1 := kept2 HA1.out hb5
    have HC0 := Lib.hid ha0
    have HPB := Lib.hid (HPA.out.below hb5)
    obtain ⟨g0, g1⟩ := cells2 ha1
    obtain ⟨j0, j1⟩ := cells2 ha0
    have zh := row_free ha0
    have zi := row_free ha1
    clear hb5 ha0 ha1
    go_wp2
    obtain ⟨wf, hwf, hrw, hpo⟩ := FIN.out X b (w5.setCell ⟨g, 0, none⟩ (.string X)) (by omega) ((Below.heap_setCell _ _ _ _ hne).trans HC0.out) (HBB.out _ ((picked_set' HPB.out (by omega) (by omega)).mono (by omega)))
    rw [hwf]
    obtain ⟨e0, e1⟩ := cells2 hrw
    refine bodyPost_ret (v := .agg #[.string X, .bool b]) (by simp [results, Tryd.results27, go_sem, e0, e1]) rfl ?_
    rw [HP.out]
    exact hpo
  have b1 : (v == 1) = false := by simpa using v1
  go_wp2
  obtain ⟨wf, hwf, hrw, hpo⟩ := FIN.out L b w3 hL HK3.out (HBB.out _ (HP3.out.mono (by omega)))
  rw [hwf]
  obtain ⟨e0, e1⟩ := cells2 hrw
  refine bodyPost_ret (v := .agg #[.string L, .bool b]) (by simp [results, Tryd.results27, go_sem, e0, e1]) rfl ?_
  rw [HP.out]
  exact hpo
/-- a pipe's block is none of the drawer's. -/
theorem Rd.pipe {W : World} {R n g : Nat} {s s' : ByteArray} {b b' : Bool} {T : TypeId} (h : Rd W R n) (hg : W.heap[g]? = some (.cells #[.string s, .bool b] T (0, 0))) (hne : g ≠ R) :
    Rd ((W.setCell ⟨g, 0, none⟩ (.string s')).setCell ⟨g, 1, none⟩ (.bool b')) R n := by
  obtain ⟨a, l, c, p, hp, hr, hc⟩ := h
  have hk : ∀ k, k ≠ g → ((W.setCell ⟨g, 0, none⟩ (.string s')).setCell ⟨g, 1, none⟩ (.bool b')).heap[k]? = W.heap[k]? := fun k hk => (Below.heap_setCell _ _ _ _ (by show k ≠ g; exact hk)).trans (Below.heap_setCell _ _ _ _ (by show k ≠ g; exact hk))
  refine ⟨a, l, c, p, hp, (hk R (fun e => hne e.symm)).trans hr, hc.1, ?_⟩
  rcases hc.2 with h0 | ⟨x, rfl, hx, hcl⟩
  · exact .inl h0
  · by_cases h0 : l = 0
    · exact .inl h0
    · have hxg : x.block ≠ g := by
        intro e
        obtain ⟨v, hv⟩ := hcl 0 (by omega)
        rw [show x.add 0 = x by simp [Addr.add]] at hv
        subst e
        unfold World.cell? at hv
        rw [hg] at hv
        by_cases hsp : x.spot.isSome
        · simp [hsp] at hv
        · match ho : x.off with
          | 0 => simp [hsp, ho] at hv
          | 1 => simp [hsp, ho] at hv
          | k + 2 => simp [hsp, ho] at hv
      exact .inr ⟨x, rfl, hx, fun i hi => by
        obtain ⟨v, hv⟩ := hcl i hi
        exact ⟨v, (World.cell?_of_block (a := x.add i) (by rw [addr_block]; exact hk _ hxg)).trans hv⟩⟩
/-- some pipe and some bytes that are drawn. -/
def PpF (w : World) (e : Ending) (w' : World) : Prop := ∃ (L : ByteArray) (b : Bool) (t : ByteArray), L.size ≤ 6000 ∧ t.size ≤ 3300 ∧ e = .returned (.tuple #[.agg #[.string L, .bool b], .string t]) ∧ Below w.heap.size w w'
set_option maxHeartbeats 8000000 in
set_option maxRecDepth 100000 in
theorem drawPipeFeed_any (a : Option Addr) (len cap : Nat) (w : World) (h : Arg w a len cap) :
    Calls Tryd.prog 7 #[.slice a len cap] w (PpF w) := by
  have hpost : ∃ P : Ending → World → Prop, P = PpF w := ⟨_, rfl⟩
  obtain ⟨P, hP⟩ := hpost
  rw [← hP]
  have HP := Lib.hid hP
  clear hP
  have K0 := Lib.hid (heap_alloc_new w (.cells #[.string { data := #[] }, .bool false] 24))
  have HB0 := Lib.hid ((Below.refl w.heap.size w).alloc (Nat.le_refl _) (.cells #[.string { data := #[] }, .bool false] 24))
  have HA := Lib.hid (h.below ((Below.refl w.heap.size w).alloc (Nat.le_refl _) (.cells #[.string { data := #[] }, .bool false] 24)))
  clear h
  go_enter Tryd.func7, Tryd.ntmps7
  go_wp2_with fail
  have hs0 : w.heap.size + 1 = (w.alloc (.cells #[.string { data := #[] }, .bool false] 24)).heap.size := by simp
  generalize w.alloc (.cells #[.string { data := #[] }, .bool false] 24) = W0 at *
  refine (drawPipeOk_any a len cap _ HA.out).mono ?_
  rintro e w1 ⟨L, b, hL, rfl, hb1⟩
  unfold pipV
  have hlt1 : w.heap.size < w1.heap.size := by have := hb1.size; omega
  have HK1 := Lib.hid ((heap_alloc_old w1 (.cells #[.string L, .bool b] 24) hlt1).trans (kept2 K0.out hb1))
  have HN1 := Lib.hid (heap_alloc_new w1 (.cells #[.string L, .bool b] 24))
  have HB1 := Lib.hid ((HB0.out.trans (hb1.mono (by omega))).alloc (by omega) (.cells #[.string L, .bool b] 24))
  replace HA := Lib.hid ((HA.out.below hb1).below ((Below.refl w1.heap.size w1).alloc (Nat.le_refl _) (.cells #[.string L, .bool b] 24)))
  have hs1 : w1.heap.size + 1 = (w1.alloc (.cells #[.string L, .bool b] 24)).heap.size := by simp
  clear hb1
  go_wp2_with fail
  generalize hg : w1.heap.size = g at *
  generalize w1.alloc (.cells #[.string L, .bool b] 24) = W1 at *
  refine (l1Open_any a len cap _ HA.out.1 HA.out.2.1 HA.out.2.2).mono ?_
  rintro e w2 ⟨R, rfl, hR, hrd, hb2⟩
  have HK2 := Lib.hid (kept2 HK1.out hb2)
  have HN2 := Lib.hid (kept2 HN1.out hb2)
  have hR1 := hrd.lt
  have hsz2 := hb2.size
  have HBB : Hid (∀ W, Picked w2 R 400 W → Below w.heap.size w W) := Lib.hid (fun W hp => HB1.out.trans ((opened_below hR hb2 hp).mono (by omega)))
  go_wp2_with fail
  refine (l13Segs_any R 0 _ hrd (by omega)).mono ?_
  rintro e w3 ⟨v3, ss, rfl, hl, hall, hown, hp3⟩
  obtain ⟨A, cp, rfl, hst⟩ := strs_of_own hown (fun s hs => by have := hall s hs; unfold maxLen; omega)
  have htot : tot ss ≤ 13600 := Nat.le_trans (tot_le8 ss 1700 hall) (by omega)
  have HST := Lib.hid hst
  have HK3 := Lib.hid (pick_row HK2.out hp3 (by omega))
  have HN3 := Lib.hid (pick_row HN2.out hp3 (by omega))
  clear hown hst hall
  go_wp2_with fail
  refine (specFramePut_any A cp ss _ HST.out (by omega) (by omega)).mono ?_
  rintro e w4 ⟨rfl, hb4⟩
  have hX := frame_size ss
  generalize (⟨(frameL ss).toArray⟩ : ByteArray) = X at hX ⊢
  have HK4 := Lib.hid (kept2 HK3.out hb4)
  have HN4 := Lib.hid (kept2 HN3.out hb4)
  have HP4 := Lib.hid (hp3.below hb4)
  clear hp3 hb4 HST htot hl
  go_wp2_with fail
  refine (l13Segs_any R _ _ HP4.out.1 (by omega)).mono ?_
  rintro e w5 ⟨v5, tt, rfl, hl, hall, hown, hp5⟩
  obtain ⟨B, cq, rfl, hst⟩ := strs_of_own hown (fun s hs => by have := hall s hs; unfold maxLen; omega)
  have htot : tot tt ≤ 13600 := Nat.le_trans (tot_le8 tt 1700 hall) (by omega)
  have HST := Lib.hid hst
  have HK5 := Lib.hid (pick_row HK4.out hp5 (by omega))
  have HN5 := Lib.hid (pick_row HN4.out hp5 (by omega))
  have HP5 := Lib.hid (HP4.out.then hp5)
  clear hown hst hall hp5
  go_wp2_with fail
  refine (specFramePut_any B cq tt _ HST.out (by omega) (by omega)).mono ?_
  rintro e w6 ⟨rfl, hb6⟩
  have hY := frame_size tt
  generalize (⟨(frameL tt).toArray⟩ : ByteArray) = Y at hY ⊢
  have HK6 := Lib.hid (kept2 HK5.out hb6)
  have HN6 := Lib.hid (kept2 HN5.out hb6)
  have HP6 := Lib.hid (HP5.out.below hb6)
  have f1 : ¬ 9223372036854775807 < X.size + Y.size := by omega
  have hS : (X ++ Y).size ≤ 3264 := by simp; omega
  have f2 : ¬ 9223372036854775807 < L.size + (X ++ Y).size := by omega
  obtain ⟨c0, c1⟩ := cells2 HN6.out
  clear hb6 HST htot hl HK2 HK3 HK4 HK5 HN2 HN3 HN4 HN5
  go_wp2_with fail
  generalize hSe : X ++ Y = S at *
  refine (specFrameGet_any (L ++ S) _ (by simp; omega)).mono ?_
  rintro e w7 ⟨A7, c7, rfl, _, hb7⟩
  obtain ⟨c, hc⟩ : ∃ c, (fg (L ++ S)).1 = c := ⟨_, rfl⟩
  rw [hc]
  have HK7 := Lib.hid (kept2 HK6.out hb7)
  have HN7 := Lib.hid (kept2 HN6.out hb7)
  have HP7 := Lib.hid (HP6.out.below hb7)
  have hsz7 := HP7.out.2.size
  clear hb7 hc c0 c1
  by_cases hc0 : c ≤ 0
  · go_wp2_with fail
    refine (pick_any R _ _ _ HP7.out.1 (by omega)).mono ?_
    rintro e w8 ⟨v, ⟨hv0, hv1⟩, rfl, hp8⟩
    have HK8 := Lib.hid (pick_row HK7.out hp8 (by omega))
    have hn8 := pick_row HN7.out hp8 (by omega)
    have HN8 := Lib.hid hn8
    have HP8 := Lib.hid (HP7.out.then hp8)
    obtain ⟨c0, c1⟩ := cells2 hn8
    have zn := row_free hn8
    clear hp8 hn8
    by_cases v0 : v = 0
    · subst v0
      go_wp2_with fail
      obtain ⟨W9, hW9⟩ : ∃ W9, (w8.setCell ⟨g, 0, none⟩ (.string { data := #[] })).setCell ⟨g, 1, none⟩ (.bool false) = W9 := ⟨_, rfl⟩
      have HKr : Hid (W9.heap[w.heap.size]? = some (.cells #[.string { data := #[] }, .bool false] 24 (0, 0))) := Lib.hid (by rw [← hW9]; exact ((Below.heap_setCell _ _ _ _ (by show w.heap.size ≠ g; omega)).trans (Below.heap_setCell _ _ _ _ (by show w.heap.size ≠ g; omega))).trans HK8.out)
      have HKp : Hid (W9.heap[g]? = some (.cells #[.string { data := #[] }, .bool false] 24 (0, 0))) := Lib.hid (by rw [← hW9]; exact rowSet (rowSet HN8.out 0 _) 1 _)
      have HRk : Hid (Rd W9 R 121) := Lib.hid (by rw [← hW9]; exact HP8.out.1.pipe HN8.out (by omega))
      have HBk : Hid (Below w.heap.size w W9) := Lib.hid (by rw [← hW9]; exact bel_set (bel_set (HBB.out _ (HP8.out.mono (by omega))) (by omega) _) (by omega) _)
      rw [hW9]
      clear hW9 c0 c1 zn HK8 HN8 HP8
      have hBk9 : w.heap.size ≤ W9.drew.heap.size := HBk.out.size
      have HRD : Hid (Rd W9.drew R (121)) := Lib.hid ((HRk.out.self.drewN 1).1)
      obtain ⟨c0, c1⟩ := cells2 HKr.out
      obtain ⟨d0, d1⟩ := cells2 HKp.out
      have zf := row_free HKr.out
      go_wp2_with fail
      go_region_with (go_at_call 33; refine (l13Cut_c R _ S _ (by exact HRD.out) (by omega) (by omega)).mono ?_; rintro e w9 ⟨u, hu, rfl, hp9⟩; have hu2 : u.size ≤ S.size + 1 := hu; have hr9 := pick_row (show W9.drew.heap[w.heap.size]? = _ from HKr.out) hp9 (by omega); have hk9 := pick_row (show W9.drew.heap[g]? = _ from HKp.out) hp9 (by omega); have HR9 := Lib.hid hr9; obtain ⟨e0, e1⟩ := cells2 hr9; obtain ⟨f0, f1⟩ := cells2 hk9; have zr := row_free hr9; have HP9 := Lib.hid (hp9.2.below (hBk9) (by omega)); clear hu hp9 hr9 hk9)
      all_goals
        obtain ⟨wf, hwf, hrw, hbf⟩ := fin2 (.string { data := #[] }) (.bool false) HR9.out ((HBk.out.drew).trans HP9.out) (Nat.le_refl _)
        rw [hwf]
        obtain ⟨e0, e1⟩ := cells2 hrw
        go_wp2
        refine bodyPost_ret (v := .tuple #[.agg #[.string { data := #[] }, .bool false], .string u]) (by simp [results, Tryd.results7, go_sem, e0, e1]) rfl ?_
        rw [HP.out]
        exact ⟨{ data := #[] }, false, u, by first | exact hL | exact Nat.zero_le _, by omega, rfl, hbf⟩
    · have b0 : (v == 0) = false := by simpa using v0
      have HKr := HK8
      have HKp := HN8
      have HRk := Lib.hid HP8.out.1
      have HBk := Lib.hid (HBB.out _ (HP8.out.mono (by omega)))
      clear c0 c1 zn
      have hBk9 : w.heap.size ≤ w8.drew.heap.size := HBk.out.size
      have HRD : Hid (Rd w8.drew R (0 + 60 + 60 + 1)) := Lib.hid ((HRk.out.self.drewN 1).1)
      obtain ⟨c0, c1⟩ := cells2 HKr.out
      obtain ⟨d0, d1⟩ := cells2 HKp.out
      have zf := row_free HKr.out
      go_wp2_with fail
      go_region_with (go_at_call 33; refine (l13Cut_c R _ S _ (by exact HRD.out) (by omega) (by omega)).mono ?_; rintro e w9 ⟨u, hu, rfl, hp9⟩; have hu2 : u.size ≤ S.size + 1 := hu; have hr9 := pick_row (show w8.drew.heap[w.heap.size]? = _ from HKr.out) hp9 (by omega); have hk9 := pick_row (show w8.drew.heap[g]? = _ from HKp.out) hp9 (by omega); have HR9 := Lib.hid hr9; obtain ⟨e0, e1⟩ := cells2 hr9; obtain ⟨f0, f1⟩ := cells2 hk9; have zr := row_free hr9; have HP9 := Lib.hid (hp9.2.below (hBk9) (by omega)); clear hu hp9 hr9 hk9)
      all_goals
        obtain ⟨wf, hwf, hrw, hbf⟩ := fin2 (.string L) (.bool b) HR9.out ((HBk.out.drew).trans HP9.out) (Nat.le_refl _)
        rw [hwf]
        obtain ⟨e0, e1⟩ := cells2 hrw
        go_wp2
        refine bodyPost_ret (v := .tuple #[.agg #[.string L, .bool b], .string u]) (by simp [results, Tryd.results7, go_sem, e0, e1]) rfl ?_
        rw [HP.out]
        exact ⟨L, b, u, by first | exact hL | exact Nat.zero_le _, by omega, rfl, hbf⟩
  · have HKr := HK7
    have HKp := HN7
    have HRk := Lib.hid HP7.out.1
    have HBk := Lib.hid (HBB.out _ (HP7.out.mono (by omega)))
    have hBk9 : w.heap.size ≤ w7.drew.heap.size := HBk.out.size
    have HRD : Hid (Rd w7.drew R (0 + 60 + 60)) := Lib.hid ((HRk.out.self.drewN 1).1)
    obtain ⟨c0, c1⟩ := cells2 HKr.out
    obtain ⟨d0, d1⟩ := cells2 HKp.out
    have zf := row_free HKr.out
    go_wp2_with fail
    go_region_with (go_at_call 33; refine (l13Cut_c R _ S _ (by exact HRD.out) (by omega) (by omega)).mono ?_; rintro e w9 ⟨u, hu, rfl, hp9⟩; have hu2 : u.size ≤ S.size + 1 := hu; have hr9 := pick_row (show w7.drew.heap[w.heap.size]? = _ from HKr.out) hp9 (by omega); have hk9 := pick_row (show w7.drew.heap[g]? = _ from HKp.out) hp9 (by omega); have HR9 := Lib.hid hr9; obtain ⟨e0, e1⟩ := cells2 hr9; obtain ⟨f0, f1⟩ := cells2 hk9; have zr := row_free hr9; have HP9 := Lib.hid (hp9.2.below (hBk9) (by omega)); clear hu hp9 hr9 hk9)
    all_goals
      obtain ⟨wf, hwf, hrw, hbf⟩ := fin2 (.string L) (.bool b) HR9.out ((HBk.out.drew).trans HP9.out) (Nat.le_refl _)
      rw [hwf]
      obtain ⟨e0, e1⟩ := cells2 hrw
      go_wp2
      refine bodyPost_ret (v := .tuple #[.agg #[.string L, .bool b], .string u]) (by simp [results, Tryd.results7, go_sem, e0, e1]) rfl ?_
      rw [HP.out]
      exact ⟨L, b, u, by first | exact hL | exact Nat.zero_le _, by omega, rfl, hbf⟩
end Go.Proofs.YtfiiopchfmcjdabDoor

/- Lists of lists of texts put behind each other; what the laws on pipes call. -/
namespace Go.Proofs.YtfiiopchfmcjdabDoor
open Go.RowKit
theorem run_append_noneS (v : Value) (c : Nat) (ty : TypeId) (w : World) (hv : v = .slice none 0 0 ∨ ∃ g n cap, v = .slice (some g) n cap ∧ n ≤ cap) :
    (Builtin.append_ #[27, 27] ty #[v, .slice none 0 c]).run Tryd.prog w = .ok v w := by
  obtain ⟨i0, hi, hz0, hz1, hz2⟩ := info_parts infoStrs
  rcases hv with rfl | ⟨g, n, cap, rfl, hn⟩
  · simp [Builtin.append_, run_underlying (P := Tryd.prog) Tryd.underlying27, sizeOf, typeInfo, hi, Builtin.lenOf, run_firstCells_none]
  · simp [Builtin.append_, run_underlying (P := Tryd.prog) Tryd.underlying27, sizeOf, typeInfo, hi, Builtin.lenOf, hn, run_firstCells_none, storeCells]
/-- lists that lie below a block, told by a row above it. -/
structure SR2 (w : World) (B : Nat) (v : Value) (q : List Inn) : Prop where
  out : w.ownsRow B 33 1 v q.length (q.map (·.1))
  inn : ∀ r ∈ q, ∃ A' c', r.1 = .slice A' r.2.length c' ∧ Strs w A' r.2 ∧ ∀ a, A' = some a → 0 < r.2.length → a.block < B
theorem SR2.reads {w : World} {B : Nat} {v : Value} {q : List Inn} (h : SR2 w B v q) : RS w v q := by
  obtain ⟨A, c, rfl⟩ := own_shape h.out
  exact ⟨A, c, rfl, Ones.own h.out, fun r hr => by obtain ⟨A', c', e, hs, _⟩ := h.inn r hr; exact ⟨A', c', e, hs⟩⟩
theorem append_all {ops : Array Oper} {rest : List Oper} {o : Oper} {a : Act} {Q : Exit → Act → World → Prop} (hgd : o.guard = none) (s x : Operand)
    (ho : o.op = .call { callee := .builtin .append, args := #[s, x], argTypes := #[27, 27] })
    (B : Nat) (v u : Value) (qa qb : List Inn) (w0 w : World) (hs : a.eval s = v) (hx : a.eval x = u) (hS : SR2 w B v qa) (hR : RS w0 u qb) (h0 : w0.heap.size = B) (hb0 : Below B w0 w) (hq : qa.length + qb.length ≤ 10000)
    (h : ∀ A2 c2 wn, Hid (SR2 wn B (.slice A2 (qa ++ qb).length c2) (qa ++ qb)) → Hid (Below B w0 wn) → wpList Tryd.prog ops Q rest (a.put o.dst (.slice A2 (qa ++ qb).length c2)) wn) :
    wpList Tryd.prog ops Q (o :: rest) a w := by
  obtain ⟨i0, hi, hz0, hz1, hz2⟩ := info_parts infoStrs
  have hBw : B ≤ w.heap.size := by have := hb0.size; omega
  have hin : ∀ (wn : World), Below B w0 wn → ∀ r ∈ qb, ∃ A' c', r.1 = .slice A' r.2.length c' ∧ Strs wn A' r.2 ∧ ∀ a, A' = some a → 0 < r.2.length → a.block < B := fun wn hbn r hr => by
    obtain ⟨_, _, _, _, hi⟩ := hR
    obtain ⟨A', c', e, st⟩ := hi r hr
    exact ⟨A', c', e, st.below (by rw [h0]; exact hbn), fun a ha hl => by have := strs_lt st a ha hl; omega⟩
  have hap : ∃ v' wn, (Builtin.append_ #[27, 27] o.type #[v, u]).run Tryd.prog w = .ok v' wn ∧ wn.ownsRow B 33 1 v' (qa.length + qb.length) (qa.map (·.1) ++ qb.map (·.1)) ∧ w.grownBy wn v.ownBlock := by
    obtain ⟨A, c, rfl, hA, hinn⟩ := hR.below (by rw [h0]; exact hb0)
    have hone : ∀ z ∈ qb.map (·.1), z.oneCell' = true := by
      intro z hz
      obtain ⟨r, hr, rfl⟩ := List.mem_map.1 hz
      obtain ⟨A', c', e, _⟩ := hinn r hr
      rw [e]; rfl
    cases A with
    | none =>
      have hq0 : qb = [] := by
        rcases hA with h | ⟨x, hx, _⟩
        · exact List.map_eq_nil_iff.1 h
        · cases hx
      subst hq0
      refine ⟨v, w, run_append_noneS v c _ w ?_, by simpa using hS.out, ⟨rfl, rfl, rfl, Nat.le_refl _, fun _ _ _ => rfl⟩⟩
      rcases hS.out.2 with ⟨rfl, _⟩ | ⟨g, cap, cur, rfl, _, _, hc, _⟩
      · exact .inl rfl
      · exact .inr ⟨_, _, _, rfl, hc⟩
    | some x =>
      have hnews : ∀ (j : Nat) (z : Value), (qb.map (·.1))[j]? = some z → w.cell? (x.add j) = some z := by
        rcases hA with h | ⟨x', hx, _, h⟩
        · rw [h]; intro j z hj; cases hj
        · obtain rfl := Option.some.inj hx
          intro j z hj
          obtain ⟨hlt, e⟩ := List.getElem?_eq_some_iff.1 hj
          rw [h j hlt, e]
      obtain ⟨v', w', h1, h2, h3, _⟩ := run_append_own (P := Tryd.prog) w B 27 o.type 33 i0 _ 1 24 Tryd.underlying27 hi hz0 hz1 hz2 rfl (by decide) v qa.length (qa.map (·.1)) hS.out x qb.length c (qb.map (·.1)) (by simp) hnews hone (by unfold maxLen; omega) (by omega) hBw
      exact ⟨v', w', h1, h2, h3⟩
  obtain ⟨v', wn, hr, h2, h3⟩ := hap
  have hbn : Below B w0 wn := hb0.trans ((Below.refl B w).grown h3 hBw (fun k hk => (hS.out.lt k hk).1))
  have hSn : SR2 wn B v' (qa ++ qb) := by
    refine ⟨by rw [List.length_append, List.map_append]; exact h2, fun r hr => ?_⟩
    rcases List.mem_append.1 hr with hr | hr
    · obtain ⟨A', c', e, st, hlt⟩ := hS.inn r hr
      refine ⟨A', c', e, st.at_ h3.size (fun a ha hl => h3.block a.block (strs_lt st a ha hl) (fun e2 => by
        have := hlt a ha hl
        have := (hS.out.lt a.block e2.symm).1
        omega)), hlt⟩
    · exact hin wn hbn r hr
  obtain ⟨A2, c2, rfl⟩ := own_shape hSn.out
  refine wpList_plain hgd fun _ hK => ?_
  unfold Oper.wp execOp
  simp only [ho, resolve, invoke, builtin, Sem.run_bind, Sem.run_pure, Result.andThen_ok, List.map_toArray, List.map_cons, List.map_nil, hs, hx, hr]
  exact hK _ _ (h A2 c2 wn (Lib.hid hSn) (Lib.hid hbn))
theorem eql_pip2 (s : ByteArray) (b : Bool) (w : World) : (binOp .eql 24 (.agg #[.string s, .bool b]) (.agg #[.string s, .bool b])).run Tryd.prog w = .ok (.bool true) w := by
  rw [run_eql_struct]
  go_simp
theorem guard_pip2 (x y : Operand) (s : ByteArray) (b : Bool) (w : World) : (eqGuard .eql 24 x y (.agg #[.string s, .bool b]) (.agg #[.string s, .bool b])).run Tryd.prog w = .ok () w := run_eqGuard_agg w _ _ _ _ _ _ (by kernel_rfl)
set_option maxHeartbeats 1000000 in
theorem qnPipe_same (s : ByteArray) (b : Bool) (w : World) :
    Calls Tryd.prog 10 #[.agg #[.string s, .bool b], .agg #[.string s, .bool b]] w fun e w' => e = .returned (.bool true) ∧ Below w.heap.size w w' := by
  have h1 := eql_pip2 s b
  have h2 := fun x y => guard_pip2 x y s b
  go_enter Tryd.func10, Tryd.ntmps10
  go_wp2
  go_ret
  exact ⟨rfl, ((Below.refl _ _).alloc (Nat.le_refl _) _).alloc (by simp) _⟩
end Go.Proofs.YtfiiopchfmcjdabDoor

/- What PipeFeed answers, as it reads; lists of lists at a place. -/
namespace Go.Proofs.YtfiiopchfmcjdabDoor
open Go.RowKit
/-- a list of the lists, as it reads. -/
theorem RS.at_ {w : World} {A : Option Addr} {N c : Nat} {q : List Inn} {Z : List (List ByteArray)} (h : RS w (.slice A N c) q) (hq : q.map (·.2) = Z) (j : Nat) (hj : j < Z.length) : ∃ x A1 c1, A = some x ∧ w.cell? (x.add j) = some (.slice A1 (Z[j]'hj).length c1) ∧ Strs w A1 (Z[j]'hj) := by
  subst hq
  have hj' : j < q.length := by rwa [List.length_map] at hj
  obtain ⟨A', c', hv, hA, hi⟩ := h
  injection hv with h1 h2 h3
  subst h1
  obtain ⟨x, hx, _, hc⟩ := hA.resolve_left (by intro h0; rw [List.map_eq_nil_iff] at h0; rw [h0] at hj'; exact absurd hj' (Nat.not_lt_zero _))
  obtain ⟨A1, c1, e1, s1⟩ := hi q[j] (List.getElem_mem hj')
  have h0 := hc j (by simpa using hj')
  rw [List.getElem_map, e1] at h0
  rw [List.getElem_map]
  exact ⟨x, A1, c1, hx, h0, s1⟩
theorem split_at (T : ByteArray) (k : Nat) (h : k ≤ T.size) : T = T.extract 0 k ++ T.extract k T.size := by
  apply ext_ba
  have hl : T.data.toList.length = T.size := rfl
  rw [app_toList, Lib.extract_data, Lib.extract_data, List.drop_zero, List.take_of_length_le (l := T.data.toList.drop k) (by rw [List.length_drop]; omega), Nat.sub_zero, List.take_append_drop]
/-- what PipeFeed answers, as it reads. -/
def PX (X : ByteArray) (Y : Bool) (Z : List (List ByteArray)) (w : World) (e : Ending) (w' : World) : Prop :=
  ∃ (v : Value) (q : List Inn), e = .returned (.tuple #[.agg #[.string X, .bool Y], v]) ∧ RS w' v q ∧ q.map (·.2) = Z ∧ Below w.heap.size w w'
theorem pf_px (s : ByteArray) (b : Bool) (t : ByteArray) (w : World) (hs : s.size ≤ 1099511627776) (ht : t.size ≤ 1099511627776) :
    Calls Tryd.prog 8 #[.agg #[.string s, .bool b], .string t] w (PX (pipeF s b t).2.1 (pipeF s b t).1 (pipeF s b t).2.2 w) := by
  refine (implPipeFeed_any s b t w hs ht).mono ?_
  rintro e w' ⟨v, q, rfl, hS, hq, hb⟩
  have hbd := (pipeF_bounds s b t).2
  exact ⟨v, q, rfl, hS.reads (fun r hr x hx => by
    have := (hbd r.2 (by rw [← hq]; exact List.mem_map.2 ⟨r, hr, rfl⟩)).2 x hx
    unfold maxLen; omega), hq, hb⟩
/-- the same, in memory of its own. -/
def PZ (X : ByteArray) (Y : Bool) (Z : List (List ByteArray)) (w : World) (e : Ending) (w' : World) : Prop :=
  ∃ (v : Value) (q : List Inn), e = .returned (.tuple #[.agg #[.string X, .bool Y], v]) ∧ SS w' w.heap.size v q ∧ q.map (·.2) = Z ∧ Below w.heap.size w w'
theorem pf_pz (s : ByteArray) (b : Bool) (t : ByteArray) (w : World) (hs : s.size ≤ 1099511627776) (ht : t.size ≤ 1099511627776) :
    Calls Tryd.prog 8 #[.agg #[.string s, .bool b], .string t] w (PZ (pipeF s b t).2.1 (pipeF s b t).1 (pipeF s b t).2.2 w) := implPipeFeed_any s b t w hs ht
theorem pr_px (s : ByteArray) (b : Bool) (t : ByteArray) (w : World) (hs : s.size ≤ 1099511627776) (ht : t.size ≤ 1099511627776) :
    Calls Tryd.prog 9 #[.agg #[.string s, .bool b], .string t] w (PX (pipeF s b t).2.1 (pipeF s b t).1 (pipeF s b t).2.2 w) := by
  refine (specPipeFeed_any s b t w hs ht).mono ?_
  rintro e w' ⟨v, q, rfl, hS, hq, hb⟩
  exact ⟨v, q, rfl, hS, hq, hb⟩
end Go.Proofs.YtfiiopchfmcjdabDoor
