/- Texts of the proof of the law FnCanonPut, side by side: part 14. -/
import Derived.Deep.RegionWith
import Derived.Deep.RegionLaw
import Derived.Test.YtbijfkpilncclaaGreatMCanonPut00
import Derived.Test.YtbijfkpilncclaaGreatMCanonPut01
import Derived.Test.YtbijfkpilncclaaGreatMCanonPut02
import Derived.Test.YtbijfkpilncclaaGreatMCanonPut03
import Derived.Test.YtbijfkpilncclaaGreatMCanonPut04
import Derived.Test.YtbijfkpilncclaaGreatMCanonPut05
import Derived.Test.YtbijfkpilncclaaGreatMCanonPut06
import Derived.Test.YtbijfkpilncclaaGreatMCanonPut07
import Derived.Test.YtbijfkpilncclaaGreatMCanonPut08
import Derived.Test.YtbijfkpilncclaaGreatMCanonPut09
import Derived.Test.YtbijfkpilncclaaGreatMCanonPut10
import Derived.Test.YtbijfkpilncclaaGreatMCanonPut11
import Derived.Test.YtbijfkpilncclaaGreatMCanonPut12
import Derived.Test.YtbijfkpilncclaaGreatMCanonPut13
namespace Go.Proofs.YtbijfkpilncclaaGreat
open Go.RowKit Go.Deep
theorem l1Trim_w (s : ByteArray) (w : World) (h8 : s.size % 8 = 0) (hs : s.size ≤ 2000000) : Calls Tryz.prog 70 #[.string s] w fun e w' => e = .returned (.string (trimD s)) ∧ w = w' := by
  have := l1Trim_any s (s.size / 8) w (by unfold maxLen; omega) (by omega)
  have hl : s.data.toList.length = s.size := by simp
  have he : (⟨(s.data.toList.take (8 * trimN s.data.toList (s.size / 8))).toArray⟩ : ByteArray) = trimD s := by
    unfold trimD trimL tw
    rw [hl]
  rw [he] at this
  exact this
def rawN (y : Nd) : Nd := .mk 1 y.data (y.ptrs.map canN) 0 0 []
def SiR (l : List Nd) (B m : Nat) (u : Value) (k : Nat) (wr : World) : Prop := ∃ q : List NB, q.length = k ∧ RowO wr B u q m ∧ q.map (·.1) = (l.take k).map rawN
def tpD (l : List Nd) (k : Nat) : Nat := topD ((l.take k).map canN)
def tpP (l : List Nd) (k : Nat) : Nat := topP ((l.take k).map canN)
def CuR (l : List Nd) (D P g c m B : Nat) (k : Nat) (wr : World) : Prop :=
  ∃ pre post : List NB, pre.length = k ∧ pre.map (·.1) = (l.take k).map (fun y => (.mk 1 (y.data.extract 0 D) ((y.ptrs.map canN).take P) 0 0 [] : Nd)) ∧ post.map (·.1) = (l.drop k).map rawN ∧ RowG wr g c (pre ++ post) m ∧ ∀ b ∈ g :: blkB (pre ++ post), B ≤ b
def Itm (l : List Nd) : Prop := ∀ y ∈ l, y.kind = 1 ∧ y.data.size % 8 = 0 ∧ y.size = 0 ∧ y.count = 0 ∧ y.items = [] ∧ topD (l.map canN) ≤ y.data.size ∧ topP (l.map canN) ≤ y.ptrs.length
def SpI (m : Nat) : Prop := ∀ (A : Option Addr) (c : Nat) (l : List Nd) (w : World) (S : Nat → Prop), NdsAt w S m A l → Itm l → (∀ y ∈ l, nodeOk y = true) → sizL l ≤ 2000000 → Calls Tryz.prog 72 #[.slice A l.length c] w (NewOS (m + 1) (l.map fun y => .mk 1 (y.data.extract 0 (topD (l.map canN))) ((y.ptrs.map canN).take (topP (l.map canN))) 0 0 []) w)
set_option maxHeartbeats 8000000 in
set_option maxRecDepth 100000 in
theorem spI_of (m : Nat) (IH : ∀ j, m = j + 1 → SpP j) : SpI m := by
  intro A c l w S hl hit hok hsz
  have hlm : l.length ≤ 2000000 := Nat.le_trans (sizL_len l) hsz
  have HF := Lib.hid hl
  have HIT := Lib.hid hit
  have HOK := Lib.hid hok
  have HSZ := Lib.hid hsz
  have HIH := Lib.hid IH
  obtain ⟨Z0, hZ0⟩ : ∃ Z0 : List Nd, Z0 = l.map fun y => (.mk 1 (y.data.extract 0 (topD (l.map canN))) ((y.ptrs.map canN).take (topP (l.map canN))) 0 0 [] : Nd) := ⟨_, rfl⟩
  rw [← hZ0]
  have HZ00 := Lib.hid hZ0
  clear hl hit hok hsz IH hZ0
  go_enter Tryz.func72, Tryz.ntmps72
  go_wp2
  go_loopw [3, 4, 5, 6] (fun d p v i wr => ∃ (u : Value) (k : Nat), d = .int .i64 (tpD l k : Nat) ∧ p = .int .i64 (tpP l k : Nat) ∧ u = v ∧ i = .int .i64 k ∧ k ≤ l.length ∧ Hid (SiR l w.heap.size m u k wr) ∧ Hid (Below w.heap.size w wr)) (fun _ _ _ i _ => l.length - (intOf i).toNat)
  case atStart => exact ⟨_, 0, rfl, rfl, rfl, rfl, by omega, Lib.hid ⟨[], rfl, RowO.made w m, rfl⟩, Lib.hid ((Below.refl _ _).alloc (Nat.le_refl _) _)⟩
  case round =>
    obtain ⟨v, k, rfl, rfl, hv0, rfl, hk, HR, HB⟩ := hrel
    subst hv0
    by_cases hlt : k < l.length
    · obtain ⟨q, hql, hro, hqm⟩ := HR.out
      subst hql
      obtain ⟨j, rfl⟩ := HF.out.pred hlt
      obtain ⟨x, hd, rfl, hc, hn⟩ := (HF.out.below HB.out).at_ hlt
      have hmy := List.getElem_mem hlt
      have hity := HIT.out _ hmy
      have hoy := HOK.out _ hmy
      have hzy : sizN l[q.length] ≤ 2000000 := Nat.le_trans (sizL_at hlt) HSZ.out
      have htn : l.take (q.length + 1) = l.take q.length ++ [l[q.length]] := List.take_succ_eq_append_getElem hlt
      have HT1 : Hid (tpD l (q.length + 1) = max (tpD l q.length) (canN l[q.length]).data.size ∧ tpP l (q.length + 1) = max (tpP l q.length) (canN l[q.length]).ptrs.length) := Lib.hid ⟨by unfold tpD; rw [htn, List.map_append]; exact topD_snoc _ _, by unfold tpP; rw [htn, List.map_append]; exact topP_snoc _ _⟩
      generalize tpD l q.length = D0 at *
      generalize tpP l q.length = P0 at *
      have HM : Hid (q.map (·.1) ++ [rawN l[q.length]] = (l.take (q.length + 1)).map rawN) := Lib.hid (by rw [hqm, htn, List.map_append]; rfl)
      clear htn
      generalize l[q.length] = y at *
      have hpy : sizL y.ptrs ≤ 2000000 := by rw [sizN_eq] at hzy; omega
      have hdy : y.data.size ≤ 2000000 := by rw [sizN_eq] at hzy; omega
      have HC : Hid (∀ W : World, Below wr.heap.size wr W → Calls Tryz.prog 69 #[.slice hd.A y.ptrs.length hd.a] W (NewOS (j + 1) (y.ptrs.map canN) W)) := Lib.hid fun W hW => HIH.out j rfl hd.A hd.a y.ptrs W S (hn.below hW).2.1 (ok_ptr hoy) hpy
      have hplen : (y.ptrs.map canN).length ≤ 2000000 := by rw [List.length_map]; exact Nat.le_trans (sizL_len _) hpy
      have HCD : Hid ((canN y).data.size = (trimD y.data).size ∧ (canN y).ptrs.length = endC (y.ptrs.map canN)) := Lib.hid (by rw [can_str hity.1 hity.2.2.1 hity.2.2.2.1 hity.2.2.2.2.1]; exact ⟨rfl, endP_length _⟩)
      have HTR := Lib.hid (fun W => l1Trim_w y.data W hity.2.1 hdy)
      have HNC := Lib.hid hc
      have HRO := Lib.hid hro
      obtain ⟨d0, d1, d2, d3, d4, d5⟩ := hc
      unfold NewOS at HC
      have HRW : Hid (rawN y = .mk 1 y.data (y.ptrs.map canN) 0 0 []) := Lib.hid rfl
      rw [HRW.out] at HM
      rw [HCD.out.1, HCD.out.2] at HT1
      clear HRW HCD
      generalize y.ptrs.map canN = PL at *
      have hd1 : (wr.drew).heap.size = wr.heap.size := rfl
      have hq3 : q.length ≤ 3000000 := by omega
      clear hmy hoy hzy hn hro hqm HR hity
      go_wp2_with fail
      have hbA : Below wr.heap.size wr (wr.alloc (.cells #[.int .i64 0, .string { data := #[] }, .slice none 0 0, .int .i64 0, .int .i64 0, .slice none 0 0] nodeT)).drew := ((Below.refl wr.heap.size wr).alloc (Nat.le_refl _) (.cells #[.int .i64 0, .string { data := #[] }, .slice none 0 0, .int .i64 0, .int .i64 0, .slice none 0 0] nodeT)).drew
      have hbB : Below wr.heap.size wr wr.drew := Below.mk rfl rfl rfl (Nat.le_refl _) (fun _ _ => rfl)
      have hzA : ((wr.alloc (.cells #[.int .i64 0, .string { data := #[] }, .slice none 0 0, .int .i64 0, .int .i64 0, .slice none 0 0] nodeT)).drew).heap[wr.heap.size]? = some (.cells #[.int .i64 0, .string { data := #[] }, .slice none 0 0, .int .i64 0, .int .i64 0, .slice none 0 0] nodeT (0, 0)) := heap_alloc_new wr _
      have hsA : ((wr.alloc (.cells #[.int .i64 0, .string { data := #[] }, .slice none 0 0, .int .i64 0, .int .i64 0, .slice none 0 0] nodeT)).drew).heap.size = wr.heap.size + 1 := by show (wr.alloc (.cells #[.int .i64 0, .string { data := #[] }, .slice none 0 0, .int .i64 0, .int .i64 0, .slice none 0 0] nodeT)).heap.size = _; simp
      obtain ⟨g0, g1, g2, g3, g4, g5⟩ := cell_below hbA _ _ _ HNC.out
      go_region_law (go_simp; go_at_call 69; first | ((with_reducible refine (HC.out _ (by exact hbA)).mono ?_); rintro e w2 ⟨A2, c2, bs2, rfl, hown2, hnd2, hge2, hb2⟩; have hZA := (hb2.block _ (row_lt hzA)).trans hzA; have hbw : Below wr.heap.size wr w2 := hbA.trans (hb2.mono hbA.size); have hgew : ∀ b ∈ bs2, wr.heap.size < b := fun b hb => Nat.lt_of_lt_of_le (row_lt hzA) (hge2 b hb); obtain ⟨q0, q1, q2, q3, q4, q5⟩ := cell_below hbw _ _ _ HNC.out; obtain ⟨z0, z1, z2, z3, z4, z5⟩ := cells6 hZA; have zf := row_free hZA; clear hb2) | ((with_reducible refine (HC.out _ (by exact hbB)).mono ?_); rintro e w2 ⟨A2, c2, bs2, rfl, hown2, hnd2, hge2, hb2⟩; have hbw : Below wr.heap.size wr w2 := hbB.trans (hb2.mono hbB.size); have hZB := heap_alloc_new w2 (.cells #[.int .i64 0, .string { data := #[] }, .slice none 0 0, .int .i64 0, .int .i64 0, .slice none 0 0] nodeT); obtain ⟨q0, q1, q2, q3, q4, q5⟩ := cell_below hbw _ _ _ HNC.out; obtain ⟨r0, r1, r2, r3, r4, r5⟩ := cell_below (hbw.alloc hbw.size (.cells #[.int .i64 0, .string { data := #[] }, .slice none 0 0, .int .i64 0, .int .i64 0, .slice none 0 0] nodeT)) _ _ _ HNC.out; clear hb2))
      all_goals clear q0 q1 q2 q3 q4 q5
      all_goals first
        | (obtain ⟨wf, hwf, hrw, hbf, hkf⟩ := fin6w (w := wr) hZA hbw (Nat.le_refl _) (.int .i64 1) (.string y.data) (.slice A2 PL.length c2) (.int .i64 0) (.int .i64 0) (.slice none 0 0)
           rw [hwf]
           have hOW : OwS wf (j + 1 + 0) A2 c2 PL bs2 := hown2.frame _ _ _ _ _ (fun b hb => hkf b (by have := hgew b hb; omega))
           have hxl : ∀ b ∈ bs2, wr.heap.size ≤ b := fun b hb => Nat.le_of_lt (hgew b hb)
           have hbge : wr.heap.size ≤ wr.heap.size := Nat.le_refl _
           clear hwf hkf hown2 hZA zf z0 z1 z2 z3 z4 z5 hgew hge2)
        | (have hrw := heap_alloc_new w2 (.cells #[.int .i64 1, .string y.data, .slice A2 PL.length c2, .int .i64 0, .int .i64 0, .slice none 0 0] nodeT)
           have hbf : Below wr.heap.size wr (w2.alloc (.cells #[.int .i64 1, .string y.data, .slice A2 PL.length c2, .int .i64 0, .int .i64 0, .slice none 0 0] nodeT)) := hbw.alloc hbw.size _
           have hOW : OwS (w2.alloc (.cells #[.int .i64 1, .string y.data, .slice A2 PL.length c2, .int .i64 0, .int .i64 0, .slice none 0 0] nodeT)) (j + 1 + 0) A2 c2 PL bs2 := hown2.below ((Below.refl _ w2).alloc (Nat.le_refl _) _)
           have hxl : ∀ b ∈ bs2, wr.heap.size ≤ b := hge2
           have hbge : wr.heap.size ≤ w2.heap.size := hbw.size
           clear hown2 hZB r0 r1 r2 r3 r4 r5 hge2
           generalize w2.alloc (.cells #[.int .i64 1, .string y.data, .slice A2 PL.length c2, .int .i64 0, .int .i64 0, .slice none 0 0] nodeT) = wf at hrw hbf hOW ⊢)
      all_goals
        have HRW2 := Lib.hid hrw
        have HOW := Lib.hid hOW
        have HO3 := Lib.hid (HRO.out.low hbf)
        have HBF := Lib.hid (HB.out.trans (hbf.mono HB.out.size))
        have HND := Lib.hid (And.intro hnd2 hxl)
        have HQH := Lib.hid HRO.out.lt
        have HVH : Hid (∀ k, v.ownBlock = some k → k < wr.heap.size) := Lib.hid fun k hk => (HRO.out.1.lt k hk).2
        have hsf := hbf.size
        have hws := HB.out.size
        have HBGE := Lib.hid hbge
        obtain ⟨e0, e1, e2, e3, e4, e5⟩ := cells6 hrw
        clear hrw hOW hbf hnd2 hxl hbge d0 d1 d2 d3 d4 d5 g0 g1 g2 g3 g4 g5 hbw hzA hsA hbA hbB
        have htd : (trimD y.data).size ≤ 2000000 := by
          have l1 := trimD_size y.data
          have l2 := tw_le y.data.data.toList
          have l3 : y.data.data.toList.length = y.data.size := by simp
          omega
        by_cases h1 : D0 < (trimD y.data).size
        · have HT2 : Hid (tpD l (q.length + 1) = (trimD y.data).size) := Lib.hid (by rw [HT1.out.1]; omega)
          by_cases h2 : P0 < endC PL
          · have HT3 : Hid (tpP l (q.length + 1) = endC PL) := Lib.hid (by rw [HT1.out.2]; omega)
            go_wp2_with (first | (at_builtin; go_must (refine wpList_append_ndB rfl (.tmp 28) (.tmp 30) rfl w.heap.size v q.length (rowB q) rfl (HO3.out.1.alloc _) ⟨wf.heap.size, 0, none⟩ 1 ((.mk 1 y.data PL 0 0 [] : Nd), (⟨A2, c2, none, 0⟩ : Hd)) rfl (cells_six_new wf ((.mk 1 y.data PL 0 0 [] : Nd), (⟨A2, c2, none, 0⟩ : Hd)) _) hq3 (by simp; omega) ?_); intro A4 c4 w4 hown4 hgrow4 hat4; have HX4 := Lib.hid ((hgrow4.out.block _ (Nat.lt_of_lt_of_le (row_lt HRW2.out) (by simp)) (fun e => (by have := HVH.out _ e.symm; have := HBGE.out; omega))).trans ((Below.heap_alloc wf _ _ (row_lt HRW2.out)).trans HRW2.out)); have hlt2 : ∀ b ∈ bs2, b < wf.heap.size := fun b hb => (HOW.out.lt _ _ _ _ _ b hb).1; have HOW4 : Hid (OwS w4 (j + 1 + 0) A2 c2 PL bs2) := Lib.hid (HOW.out.frame (w' := w4) _ _ _ _ _ (fun b hb => (hgrow4.out.block b (Nat.lt_of_lt_of_le (hlt2 b hb) (by simp)) (fun e => (by have := HVH.out _ e.symm; have := HND.out.2 b hb; omega))).trans (Below.heap_alloc wf _ b (hlt2 b hb)))); have hnx := (HO3.out.alloc _).next (y := (.mk 1 y.data PL 0 0 [] : Nd)) (hy := (⟨A2, c2, none, 0⟩ : Hd)) (bs := bs2) ⟨(show y.data.size ≤ maxLen by unfold maxLen; omega), bs2, [], (List.append_nil _).symm, HOW.out.below ((Below.refl wf.heap.size wf).alloc (Nat.le_refl _) _), OwS.nil _ _⟩ HND.out.1 HND.out.2 (by omega) HQH.out HVH.out hown4.out hgrow4.out hat4.out; have HB4 := Lib.hid ((HBF.out.alloc HBF.out.size _).grown hgrow4.out (by simp; omega) (fun k hk => (HO3.out.1.lt k hk).1)); have HSI : Hid (SiR l w.heap.size (j + 1) (.slice A4 (q.length + 1) c4) (q.length + 1) w4) := Lib.hid ⟨q ++ [((.mk 1 y.data PL 0 0 [] : Nd), (⟨A2, c2, none, 0⟩ : Hd), bs2)], by simp, hnx, (by rw [List.map_append]; exact HM.out)⟩; have HLS := Lib.hid (l6Last_a (j + 1 + 0) A2 c2 PL w4 _ (HOW4.out.nds _ _ _ _ _) hplen); clear hown4 hgrow4 hat4 hnx hlt2 e0 e1 e2 e3 e4 e5 HRW2 HO3 HOW HBF; obtain ⟨b0, b1, b2, b3, b4, b5⟩ := cells6 HX4.out) | (go_at_call 70; go_must (refine (HTR.out _).mono ?_); rintro e w' ⟨rfl, rfl⟩) | (go_at_call 71; go_must (refine HLS.out.mono ?_); rintro e w' ⟨rfl, rfl⟩))
            go_roundw
            case rel => exact ⟨_, q.length + 1, by rw [HT2.out], by rw [HT3.out], rfl, by go_num, by omega, HSI, HB4⟩
            case measure => simp [intOf]; omega
          · have HT3 : Hid (tpP l (q.length + 1) = P0) := Lib.hid (by rw [HT1.out.2]; omega)
            go_wp2_with (first | (at_builtin; go_must (refine wpList_append_ndB rfl (.tmp 28) (.tmp 30) rfl w.heap.size v q.length (rowB q) rfl (HO3.out.1.alloc _) ⟨wf.heap.size, 0, none⟩ 1 ((.mk 1 y.data PL 0 0 [] : Nd), (⟨A2, c2, none, 0⟩ : Hd)) rfl (cells_six_new wf ((.mk 1 y.data PL 0 0 [] : Nd), (⟨A2, c2, none, 0⟩ : Hd)) _) hq3 (by simp; omega) ?_); intro A4 c4 w4 hown4 hgrow4 hat4; have HX4 := Lib.hid ((hgrow4.out.block _ (Nat.lt_of_lt_of_le (row_lt HRW2.out) (by simp)) (fun e => (by have := HVH.out _ e.symm; have := HBGE.out; omega))).trans ((Below.heap_alloc wf _ _ (row_lt HRW2.out)).trans HRW2.out)); have hlt2 : ∀ b ∈ bs2, b < wf.heap.size := fun b hb => (HOW.out.lt _ _ _ _ _ b hb).1; have HOW4 : Hid (OwS w4 (j + 1 + 0) A2 c2 PL bs2) := Lib.hid (HOW.out.frame (w' := w4) _ _ _ _ _ (fun b hb => (hgrow4.out.block b (Nat.lt_of_lt_of_le (hlt2 b hb) (by simp)) (fun e => (by have := HVH.out _ e.symm; have := HND.out.2 b hb; omega))).trans (Below.heap_alloc wf _ b (hlt2 b hb)))); have hnx := (HO3.out.alloc _).next (y := (.mk 1 y.data PL 0 0 [] : Nd)) (hy := (⟨A2, c2, none, 0⟩ : Hd)) (bs := bs2) ⟨(show y.data.size ≤ maxLen by unfold maxLen; omega), bs2, [], (List.append_nil _).symm, HOW.out.below ((Below.refl wf.heap.size wf).alloc (Nat.le_refl _) _), OwS.nil _ _⟩ HND.out.1 HND.out.2 (by omega) HQH.out HVH.out hown4.out hgrow4.out hat4.out; have HB4 := Lib.hid ((HBF.out.alloc HBF.out.size _).grown hgrow4.out (by simp; omega) (fun k hk => (HO3.out.1.lt k hk).1)); have HSI : Hid (SiR l w.heap.size (j + 1) (.slice A4 (q.length + 1) c4) (q.length + 1) w4) := Lib.hid ⟨q ++ [((.mk 1 y.data PL 0 0 [] : Nd), (⟨A2, c2, none, 0⟩ : Hd), bs2)], by simp, hnx, (by rw [List.map_append]; exact HM.out)⟩; have HLS := Lib.hid (l6Last_a (j + 1 + 0) A2 c2 PL w4 _ (HOW4.out.nds _ _ _ _ _) hplen); clear hown4 hgrow4 hat4 hnx hlt2 e0 e1 e2 e3 e4 e5 HRW2 HO3 HOW HBF; obtain ⟨b0, b1, b2, b3, b4, b5⟩ := cells6 HX4.out) | (go_at_call 70; go_must (refine (HTR.out _).mono ?_); rintro e w' ⟨rfl, rfl⟩) | (go_at_call 71; go_must (refine HLS.out.mono ?_); rintro e w' ⟨rfl, rfl⟩))
            go_roundw
            case rel => exact ⟨_, q.length + 1, by rw [HT2.out], by rw [HT3.out], rfl, by go_num, by omega, HSI, HB4⟩
            case measure => simp [intOf]; omega
        · have HT2 : Hid (tpD l (q.length + 1) = D0) := Lib.hid (by rw [HT1.out.1]; omega)
          by_cases h2 : P0 < endC PL
          · have HT3 : Hid (tpP l (q.length + 1) = endC PL) := Lib.hid (by rw [HT1.out.2]; omega)
            go_wp2_with (first | (at_builtin; go_must (refine wpList_append_ndB rfl (.tmp 28) (.tmp 30) rfl w.heap.size v q.length (rowB q) rfl (HO3.out.1.alloc _) ⟨wf.heap.size, 0, none⟩ 1 ((.mk 1 y.data PL 0 0 [] : Nd), (⟨A2, c2, none, 0⟩ : Hd)) rfl (cells_six_new wf ((.mk 1 y.data PL 0 0 [] : Nd), (⟨A2, c2, none, 0⟩ : Hd)) _) hq3 (by simp; omega) ?_); intro A4 c4 w4 hown4 hgrow4 hat4; have HX4 := Lib.hid ((hgrow4.out.block _ (Nat.lt_of_lt_of_le (row_lt HRW2.out) (by simp)) (fun e => (by have := HVH.out _ e.symm; have := HBGE.out; omega))).trans ((Below.heap_alloc wf _ _ (row_lt HRW2.out)).trans HRW2.out)); have hlt2 : ∀ b ∈ bs2, b < wf.heap.size := fun b hb => (HOW.out.lt _ _ _ _ _ b hb).1; have HOW4 : Hid (OwS w4 (j + 1 + 0) A2 c2 PL bs2) := Lib.hid (HOW.out.frame (w' := w4) _ _ _ _ _ (fun b hb => (hgrow4.out.block b (Nat.lt_of_lt_of_le (hlt2 b hb) (by simp)) (fun e => (by have := HVH.out _ e.symm; have := HND.out.2 b hb; omega))).trans (Below.heap_alloc wf _ b (hlt2 b hb)))); have hnx := (HO3.out.alloc _).next (y := (.mk 1 y.data PL 0 0 [] : Nd)) (hy := (⟨A2, c2, none, 0⟩ : Hd)) (bs := bs2) ⟨(show y.data.size ≤ maxLen by unfold maxLen; omega), bs2, [], (List.append_nil _).symm, HOW.out.below ((Below.refl wf.heap.size wf).alloc (Nat.le_refl _) _), OwS.nil _ _⟩ HND.out.1 HND.out.2 (by omega) HQH.out HVH.out hown4.out hgrow4.out hat4.out; have HB4 := Lib.hid ((HBF.out.alloc HBF.out.size _).grown hgrow4.out (by simp; omega) (fun k hk => (HO3.out.1.lt k hk).1)); have HSI : Hid (SiR l w.heap.size (j + 1) (.slice A4 (q.length + 1) c4) (q.length + 1) w4) := Lib.hid ⟨q ++ [((.mk 1 y.data PL 0 0 [] : Nd), (⟨A2, c2, none, 0⟩ : Hd), bs2)], by simp, hnx, (by rw [List.map_append]; exact HM.out)⟩; have HLS := Lib.hid (l6Last_a (j + 1 + 0) A2 c2 PL w4 _ (HOW4.out.nds _ _ _ _ _) hplen); clear hown4 hgrow4 hat4 hnx hlt2 e0 e1 e2 e3 e4 e5 HRW2 HO3 HOW HBF; obtain ⟨b0, b1, b2, b3, b4, b5⟩ := cells6 HX4.out) | (go_at_call 70; go_must (refine (HTR.out _).mono ?_); rintro e w' ⟨rfl, rfl⟩) | (go_at_call 71; go_must (refine HLS.out.mono ?_); rintro e w' ⟨rfl, rfl⟩))
            go_roundw
            case rel => exact ⟨_, q.length + 1, by rw [HT2.out], by rw [HT3.out], rfl, by go_num, by omega, HSI, HB4⟩
            case measure => simp [intOf]; omega
          · have HT3 : Hid (tpP l (q.length + 1) = P0) := Lib.hid (by rw [HT1.out.2]; omega)
            go_wp2_with (first | (at_builtin; go_must (refine wpList_append_ndB rfl (.tmp 28) (.tmp 30) rfl w.heap.size v q.length (rowB q) rfl (HO3.out.1.alloc _) ⟨wf.heap.size, 0, none⟩ 1 ((.mk 1 y.data PL 0 0 [] : Nd), (⟨A2, c2, none, 0⟩ : Hd)) rfl (cells_six_new wf ((.mk 1 y.data PL 0 0 [] : Nd), (⟨A2, c2, none, 0⟩ : Hd)) _) hq3 (by simp; omega) ?_); intro A4 c4 w4 hown4 hgrow4 hat4; have HX4 := Lib.hid ((hgrow4.out.block _ (Nat.lt_of_lt_of_le (row_lt HRW2.out) (by simp)) (fun e => (by have := HVH.out _ e.symm; have := HBGE.out; omega))).trans ((Below.heap_alloc wf _ _ (row_lt HRW2.out)).trans HRW2.out)); have hlt2 : ∀ b ∈ bs2, b < wf.heap.size := fun b hb => (HOW.out.lt _ _ _ _ _ b hb).1; have HOW4 : Hid (OwS w4 (j + 1 + 0) A2 c2 PL bs2) := Lib.hid (HOW.out.frame (w' := w4) _ _ _ _ _ (fun b hb => (hgrow4.out.block b (Nat.lt_of_lt_of_le (hlt2 b hb) (by simp)) (fun e => (by have := HVH.out _ e.symm; have := HND.out.2 b hb; omega))).trans (Below.heap_alloc wf _ b (hlt2 b hb)))); have hnx := (HO3.out.alloc _).next (y := (.mk 1 y.data PL 0 0 [] : Nd)) (hy := (⟨A2, c2, none, 0⟩ : Hd)) (bs := bs2) ⟨(show y.data.size ≤ maxLen by unfold maxLen; omega), bs2, [], (List.append_nil _).symm, HOW.out.below ((Below.refl wf.heap.size wf).alloc (Nat.le_refl _) _), OwS.nil _ _⟩ HND.out.1 HND.out.2 (by omega) HQH.out HVH.out hown4.out hgrow4.out hat4.out; have HB4 := Lib.hid ((HBF.out.alloc HBF.out.size _).grown hgrow4.out (by simp; omega) (fun k hk => (HO3.out.1.lt k hk).1)); have HSI : Hid (SiR l w.heap.size (j + 1) (.slice A4 (q.length + 1) c4) (q.length + 1) w4) := Lib.hid ⟨q ++ [((.mk 1 y.data PL 0 0 [] : Nd), (⟨A2, c2, none, 0⟩ : Hd), bs2)], by simp, hnx, (by rw [List.map_append]; exact HM.out)⟩; have HLS := Lib.hid (l6Last_a (j + 1 + 0) A2 c2 PL w4 _ (HOW4.out.nds _ _ _ _ _) hplen); clear hown4 hgrow4 hat4 hnx hlt2 e0 e1 e2 e3 e4 e5 HRW2 HO3 HOW HBF; obtain ⟨b0, b1, b2, b3, b4, b5⟩ := cells6 HX4.out) | (go_at_call 70; go_must (refine (HTR.out _).mono ?_); rintro e w' ⟨rfl, rfl⟩) | (go_at_call 71; go_must (refine HLS.out.mono ?_); rintro e w' ⟨rfl, rfl⟩))
            go_roundw
            case rel => exact ⟨_, q.length + 1, by rw [HT2.out], by rw [HT3.out], rfl, by go_num, by omega, HSI, HB4⟩
            case measure => simp [intOf]; omega
    · obtain rfl : k = l.length := by omega
      have HDP : Hid (tpD l l.length = topD (l.map canN) ∧ tpP l l.length = topP (l.map canN)) := Lib.hid ⟨by unfold tpD; rw [List.take_of_length_le (Nat.le_refl _)], by unfold tpP; rw [List.take_of_length_le (Nat.le_refl _)]⟩
      obtain ⟨q, hql, hro, hqm⟩ := HR.out
      obtain ⟨A2, c2, bs, hv, hown, hnd, hge⟩ := hro.done
      rw [hql] at hv
      rw [List.take_of_length_le (Nat.le_refl _)] at hqm
      rw [hqm] at hown
      subst hv
      have HIT2 := HIT
      unfold Itm at HIT2
      rw [← HDP.out.1, ← HDP.out.2] at HIT2
      have hZ0 := HZ00.out
      have HZ0 : Hid (Z0 = l.map fun y => (.mk 1 (y.data.extract 0 (tpD l l.length)) ((y.ptrs.map canN).take (tpP l l.length)) 0 0 [] : Nd)) := Lib.hid (by rw [HDP.out.1, HDP.out.2]; exact hZ0)
      clear hZ0
      generalize tpD l l.length = D at *
      generalize tpP l l.length = P at *
      have HOW := Lib.hid hown
      have HND := Lib.hid (And.intro hnd hge)
      clear hown hnd hge hro hql hqm HR HDP hlt
      have HLZ : Hid (Z0.length = l.length) := Lib.hid (by rw [HZ0.out, List.length_map])
      rcases own_cap HOW.out with ⟨rfl, hl0, rfl⟩ | ⟨⟨g, rfl⟩, _⟩
      · have hl : l = [] := List.eq_nil_of_length_eq_zero (by have := congrArg List.length hl0; rw [List.length_map] at this; exact this)
        have hl1 : l.length = 0 := by rw [hl]; rfl
        have HRES : Hid (NewOS (m + 1) Z0 w (.returned (.slice none 0 0)) wr) := Lib.hid ⟨none, 0, [], by rw [HLZ.out, hl1], by rw [HZ0.out, hl]; exact OwS.nil _ _, List.nodup_nil, fun b h => (by cases h), HB.out⟩
        rw [hl1]
        clear hl0 hl HIT2 HZ0 HLZ
        go_wp2
        go_loopw [8] (fun i wq => i = .int .i64 0 ∧ wq = wr) (fun _ _ => 0)
        case atStart => exact ⟨rfl, rfl⟩
        case round =>
          obtain ⟨rfl, rfl⟩ := hrel
          go_wp2
          go_ret
          exact HRES.out
      · obtain ⟨q2, hq2, hb2, hg2⟩ := HOW.out.rowG HND.out.1
        have HCU : Hid (CuR l D P g c2 m w.heap.size 0 wr) := Lib.hid ⟨[], q2, rfl, rfl, hq2, hg2, fun b hb => HND.out.2 b (by rw [hb2]; exact hb)⟩
        clear hq2 hb2 hg2 HND HOW
        go_wp2
        go_loopw [8] (fun i wq => ∃ k : Nat, i = .int .i64 k ∧ k ≤ l.length ∧ Hid (CuR l D P g c2 m w.heap.size k wq) ∧ Hid (Below w.heap.size w wq)) (fun i _ => l.length - (intOf i).toNat)
        case atStart => exact ⟨0, rfl, by omega, HCU, HB⟩
        case round =>
          clear HCU HB
          obtain ⟨k, rfl, hk, HCU, HB⟩ := hrel
          obtain ⟨pre, post, hpk, hm1, hm2, hgg, hbg⟩ := HCU.out
          subst hpk
          cases post with
          | nil =>
            have hpl : pre.length = l.length := by
              have := congrArg List.length hm2
              simp at this; omega
            have HRES : Hid (NewOS (m + 1) Z0 w (.returned (.slice (some ⟨g, 0, none⟩) l.length c2)) wr) := Lib.hid (by
              rw [List.append_nil] at hgg hbg
              obtain ⟨o1, o2⟩ := hgg.own
              rw [hpl, List.take_of_length_le (Nat.le_refl _)] at hm1
              rw [hm1, ← HZ0.out] at o1
              exact ⟨_, _, _, by rw [HLZ.out], o1, o2, hbg, HB.out⟩)
            clear hm1 hm2 hgg hbg HCU HIT2
            go_wp2
            go_ret
            exact HRES.out
          | cons r t =>
            have hlen : l.length = pre.length + (t.length + 1) := by
              have h1 := congrArg List.length hm2
              simp at h1; omega
            have hlt : pre.length < l.length := by omega
            have hdrop : l.drop pre.length = l[pre.length] :: l.drop (pre.length + 1) := List.drop_eq_getElem_cons hlt
            have hr1 : r.1 = rawN l[pre.length] ∧ t.map (·.1) = (l.drop (pre.length + 1)).map rawN := by
              have := hm2
              rw [hdrop, List.map_cons, List.map_cons] at this
              injection this with e1 e2
              exact ⟨e1, e2⟩
            have hity := HIT2.out _ (List.getElem_mem hlt)
            have hmm : (l.take (pre.length + 1)).map (fun y => (.mk 1 (y.data.extract 0 D) ((y.ptrs.map canN).take P) 0 0 [] : Nd)) = pre.map (·.1) ++ [(.mk 1 (l[pre.length].data.extract 0 D) ((l[pre.length].ptrs.map canN).take P) 0 0 [] : Nd)] := by rw [List.take_succ_eq_append_getElem hlt, List.map_append, hm1]; rfl
            generalize l[pre.length] = y at *
            obtain ⟨n0, ⟨hA0, ha0, hB0, hb0⟩, bs0⟩ := r
            obtain rfl : n0 = rawN y := hr1.1
            have hDy : D ≤ y.data.size := hity.2.2.2.2.2.1
            have hpl2 : (rawN y).ptrs.length = y.ptrs.length := by show (y.ptrs.map canN).length = _; rw [List.length_map]
            have hPy : P ≤ (rawN y).ptrs.length := by rw [hpl2]; exact hity.2.2.2.2.2.2
            obtain ⟨d0, d1, d2, d3, d4, d5, df⟩ := hgg.cells
            have hd1 := df (pre.length * 6 + 1)
            have hgl := hgg.lt.1
            have hgB : w.heap.size ≤ g := hbg g List.mem_cons_self
            have hg3 := hgg.set (n' := .mk 1 (y.data.extract 0 D) (rawN y).ptrs 0 0 []) 1 (.string (y.data.extract 0 D)) (by decide) rfl (fun f hf hf1 => by
              match f, hf with
              | 0, _ => rfl
              | 1, _ => exact absurd rfl hf1
              | 2, _ => rfl
              | 3, _ => rfl
              | 4, _ => rfl
              | 5, _ => rfl) rfl rfl (by
                have hdm : y.data.size ≤ maxLen := by
                  obtain ⟨_, _, _, _, _, _, h6, _⟩ := hgg
                  exact (h6 _ (List.mem_append_right _ List.mem_cons_self)).1
                show (y.data.extract 0 D).size ≤ maxLen
                rw [ByteArray.size_extract]; omega)
            have hcap := slice_cap hgg
            obtain ⟨bs', hg4, hsub⟩ := hg3.cut (k := P) hPy
            obtain ⟨f0, f1, f2, f3, f4, f5, ff⟩ := hg3.cells
            have hff := ff (pre.length * 6 + 2)
            have hds : y.data.extract 0 D = y.data.extract 0 D := rfl
            have hbl : blkB (pre ++ ((.mk 1 (y.data.extract 0 D) (rawN y).ptrs 0 0 [] : Nd), (⟨hA0, ha0, hB0, hb0⟩ : Hd), bs0) :: t) = blkB (pre ++ (rawN y, (⟨hA0, ha0, hB0, hb0⟩ : Hd), bs0) :: t) := by rw [blkB_app, blkB_app, blkB_cons, blkB_cons]
            have HG5 : Hid (CuR l D P g c2 m w.heap.size (pre.length + 1) ((wr.setCell ⟨g, pre.length * 6 + 1, none⟩ (.string (y.data.extract 0 D))).setCell ⟨g, pre.length * 6 + 2, none⟩ (.slice hA0 P ha0))) := Lib.hid ⟨pre ++ [((.mk 1 (y.data.extract 0 D) ((rawN y).ptrs.take P) 0 0 [] : Nd), (⟨hA0, ha0, hB0, hb0⟩ : Hd), bs')], t, by simp, by rw [hmm, List.map_append]; rfl, hr1.2, by rw [List.append_assoc]; exact hg4, fun b hb => by
              rcases List.mem_cons.1 hb with rfl | hb
              · exact hgB
              · refine hbg b (List.mem_cons_of_mem _ ?_)
                rw [List.append_assoc, blkB_app] at hb
                rw [blkB_app, blkB_cons]
                rcases List.mem_append.1 hb with hb | hb
                · exact List.mem_append_left _ hb
                · rw [show [((.mk 1 (y.data.extract 0 D) ((rawN y).ptrs.take P) 0 0 [] : Nd), (⟨hA0, ha0, hB0, hb0⟩ : Hd), bs')] ++ t = ((.mk 1 (y.data.extract 0 D) ((rawN y).ptrs.take P) 0 0 [] : Nd), (⟨hA0, ha0, hB0, hb0⟩ : Hd), bs') :: t from rfl, blkB_cons] at hb
                  rcases List.mem_append.1 hb with hb | hb
                  · exact List.mem_append_right _ (List.mem_append_left _ (hsub b hb))
                  · exact List.mem_append_right _ (List.mem_append_right _ hb)⟩
            have HB5 : Hid (Below w.heap.size w ((wr.setCell ⟨g, pre.length * 6 + 1, none⟩ (.string (y.data.extract 0 D))).setCell ⟨g, pre.length * 6 + 2, none⟩ (.slice hA0 P ha0))) := Lib.hid ((HB.out.setCell (p := ⟨g, pre.length * 6 + 1, none⟩) hgB _).setCell (p := ⟨g, pre.length * 6 + 2, none⟩) hgB _)
            have hpt : pre.length < pre.length + (t.length + 1) := by omega
            clear hgg hbg hg3 hg4 hsub hm1 hm2 hmm hr1 hdrop hity HCU HB df ff hbl hds HIT2
            have d1' : wr.cell? ⟨g, pre.length * 6 + 1, none⟩ = some (.string y.data) := d1
            have g2 : (wr.setCell ⟨g, pre.length * 6 + 1, none⟩ (.string (y.data.extract 0 D))).cell? ⟨g, pre.length * 6 + 2, none⟩ = some (.slice hA0 (y.ptrs.map canN).length ha0) := f2
            have hcap' : (hA0 = none ∧ y.ptrs.map canN = [] ∧ ha0 = 0) ∨ (∃ g', hA0 = some ⟨g', 0, none⟩) ∧ (y.ptrs.map canN).length ≤ ha0 := hcap
            have hPy' : P ≤ (y.ptrs.map canN).length := hPy
            clear d0 d1 d2 d3 d4 d5 f0 f1 f2 f3 f4 f5 hcap hPy hpl2
            generalize y.ptrs.map canN = PL at *
            generalize y.data = yd at *
            rcases hcap' with ⟨rfl, rfl, rfl⟩ | ⟨⟨g', rfl⟩, hle⟩
            · have hP0 : P = 0 := by simpa using hPy'
              subst hP0
              go_wp2
              go_roundw
              case rel => exact ⟨pre.length + 1, by go_num, by omega, HG5, HB5⟩
              case measure => simp [intOf]; omega
            · go_wp2
              go_roundw
              case rel => exact ⟨pre.length + 1, by go_num, by omega, HG5, HB5⟩
              case measure => simp [intOf]; omega
end Go.Proofs.YtbijfkpilncclaaGreat
