/- Texts of the proof of the law FnCanonPut, side by side: part 15. -/
import Derived.Test.YtbijfkpilncclaaGreatMCanonPut00
import Derived.Test.YtbijfkpilncclaaGreatMCanonPut01
import Derived.Test.YtbijfkpilncclaaGreatMCanonPut02
import Derived.Test.YtbijfkpilncclaaGreatMCanonPut03
import Derived.Test.YtbijfkpilncclaaGreatMCanonPut04
import Derived.Test.YtbijfkpilncclaaGreatMCanonPut05
import Derived.Test.YtbijfkpilncclaaGreatMCanonPut06
import Derived.Test.YtbijfkpilncclaaGreatMCanonPut07
import Derived.Test.YtbijfkpilncclaaGreatMCanonPut08
import Derived.Test.YtbijfkpilncclaaGreatMCanonPut09
import Derived.Test.YtbijfkpilncclaaGreatMCanonPut10
import Derived.Test.YtbijfkpilncclaaGreatMCanonPut11
import Derived.Test.YtbijfkpilncclaaGreatMCanonPut12
import Derived.Test.YtbijfkpilncclaaGreatMCanonPut13
import Derived.Test.YtbijfkpilncclaaGreatMCanonPut14
namespace Go.Proofs.YtbijfkpilncclaaGreat
open Go.RowKit Go.Deep
theorem ok_itm {n : Nd} (hok : nodeOk n = true) : Itm n.items := by
  have h1 := (node_ok hok).1
  have hk := ok_kids h1
  exact (evenL_cut hk.1 (fun p hp => (ok_kids (hk.2 p hp)).1)).2
theorem ok_even {n : Nd} (hok : nodeOk n = true) : evenL (n.items.map canN) = n.items.map (fun y => .mk 1 (y.data.extract 0 (topD (n.items.map canN))) ((y.ptrs.map canN).take (topP (n.items.map canN))) 0 0 []) := by
  have h1 := (node_ok hok).1
  have hk := ok_kids h1
  exact (evenL_cut hk.1 (fun p hp => (ok_kids (hk.2 p hp)).1)).1
set_option maxHeartbeats 8000000 in
set_option maxRecDepth 100000 in
theorem spN_of (m : Nat) (hP : SpP m) (hI : SpI m) : SpN m := by
  intro n h w S hn hok hsz
  obtain ⟨qA, qa, qB, qb⟩ := h
  have hz1 : sizL n.ptrs ≤ 2000000 := by rw [sizN_eq] at hsz; omega
  have hz2 : sizL n.items ≤ 2000000 := by rw [sizN_eq] at hsz; omega
  have HF := Lib.hid (form_cases (ok_kids (node_ok hok).1).1)
  have HDA : Hid (n.kind = 1 → n.data.size % 8 = 0 ∧ n.data.size ≤ 1600) := Lib.hid fun hk => by have := ok_data hok hk; omega
  have HP : Hid (∀ W : World, Below w.heap.size w W → Calls Tryz.prog 69 #[.slice qA n.ptrs.length qa] W (NewOS (m + 1) (n.ptrs.map canN) W)) := Lib.hid fun W hW => hP qA qa n.ptrs W S ((show NdsAt w S m qA n.ptrs from hn.2.1).below hW) (ok_ptr hok) hz1
  have HI : Hid (∀ W : World, Below w.heap.size w W → Calls Tryz.prog 72 #[.slice qB n.items.length qb] W (NewOS (m + 1) (evenL (n.items.map canN)) W)) := Lib.hid fun W hW => by
    rw [ok_even hok]
    exact hI qB qb n.items W S ((show NdsAt w S m qB n.items from hn.2.2).below hW) (ok_itm hok) (ok_item hok) hz2
  have hpl : (n.ptrs.map canN).length ≤ 2000000 := by rw [List.length_map]; have := ok_small hok; omega
  have hdm : n.data.size ≤ maxLen := hn.1
  have hcan := canN_eq n
  unfold formT at hcan
  obtain ⟨Z0, hZ0⟩ : ∃ Z0, Z0 = canN n := ⟨_, rfl⟩
  rw [← hZ0]
  have HZE := Lib.hid (hZ0.trans hcan)
  have HNL : Hid ((n.ptrs = [] → n.ptrs.map canN = []) ∧ (n.items = [] → n.items.map canN = [])) := Lib.hid ⟨fun h => by rw [h]; rfl, fun h => by rw [h]; rfl⟩
  clear hcan hZ0 hn hok hsz hz1 hz2 hP hI
  unfold NewOS at HP HI
  generalize n.ptrs.map canN = PL at *
  generalize n.items.map canN = IL at *
  have hb0 : Below w.heap.size w ((w.alloc (.cells #[.int .i64 n.kind, .string n.data, .slice qA n.ptrs.length qa, .int .i64 n.size, .int .i64 n.count, .slice qB n.items.length qb] nodeT)).alloc (.cells #[.int .i64 0, .string { data := #[] }, .slice none 0 0, .int .i64 0, .int .i64 0, .slice none 0 0] nodeT)) := ((Below.refl _ w).alloc (Nat.le_refl _) _).alloc (by simp) _
  have hx0 : ((w.alloc (.cells #[.int .i64 n.kind, .string n.data, .slice qA n.ptrs.length qa, .int .i64 n.size, .int .i64 n.count, .slice qB n.items.length qb] nodeT)).alloc (.cells #[.int .i64 0, .string { data := #[] }, .slice none 0 0, .int .i64 0, .int .i64 0, .slice none 0 0] nodeT)).heap[w.heap.size]? = some (.cells #[.int .i64 n.kind, .string n.data, .slice qA n.ptrs.length qa, .int .i64 n.size, .int .i64 n.count, .slice qB n.items.length qb] nodeT (0, 0)) := heap_alloc_keep (heap_alloc_new w _) _
  have hz0 : ((w.alloc (.cells #[.int .i64 n.kind, .string n.data, .slice qA n.ptrs.length qa, .int .i64 n.size, .int .i64 n.count, .slice qB n.items.length qb] nodeT)).alloc (.cells #[.int .i64 0, .string { data := #[] }, .slice none 0 0, .int .i64 0, .int .i64 0, .slice none 0 0] nodeT)).heap[w.heap.size + 1]? = some (.cells #[.int .i64 0, .string { data := #[] }, .slice none 0 0, .int .i64 0, .int .i64 0, .slice none 0 0] nodeT (0, 0)) := by have := heap_alloc_new (w.alloc (.cells #[.int .i64 n.kind, .string n.data, .slice qA n.ptrs.length qa, .int .i64 n.size, .int .i64 n.count, .slice qB n.items.length qb] nodeT)) (.cells #[.int .i64 0, .string { data := #[] }, .slice none 0 0, .int .i64 0, .int .i64 0, .slice none 0 0] nodeT); rwa [show (w.alloc (.cells #[.int .i64 n.kind, .string n.data, .slice qA n.ptrs.length qa, .int .i64 n.size, .int .i64 n.count, .slice qB n.items.length qb] nodeT)).heap.size = w.heap.size + 1 by simp] at this
  have hs0 : ((w.alloc (.cells #[.int .i64 n.kind, .string n.data, .slice qA n.ptrs.length qa, .int .i64 n.size, .int .i64 n.count, .slice qB n.items.length qb] nodeT)).alloc (.cells #[.int .i64 0, .string { data := #[] }, .slice none 0 0, .int .i64 0, .int .i64 0, .slice none 0 0] nodeT)).heap.size = w.heap.size + 2 := by simp
  have HB0 := Lib.hid hb0
  have HX0 := Lib.hid hx0
  have HZ0 := Lib.hid hz0
  clear hb0 hx0 hz0
  rcases HF.out with hc | hc | ⟨hk2, hc2, hc⟩
  · obtain ⟨hk, hd0, hp0, hs00, hc0, hi0⟩ := hc
    have hze := HZE.out
    rw [if_neg (by omega)] at hze
    have hPL := HNL.out.1 (nil_of_len hp0)
    have hIL := HNL.out.2 (nil_of_len hi0)
    rw [hPL, hIL] at hze
    subst hze
    have hk1 : (n.kind == 1) = false := by rw [hk]; rfl
    have hk2 : (n.kind == 2) = false := by rw [hk]; rfl
    clear HP HI HNL HF HDA hPL hIL hk hd0 hs00 hc0 hp0 hi0 HZE
    go_enter Tryz.func32, Tryz.ntmps32
    clear HX0 HB0 HZ0 hs0
    go_wp2_with fail
    have hrw : ((w.alloc (.cells #[.int .i64 n.kind, .string n.data, .slice qA n.ptrs.length qa, .int .i64 n.size, .int .i64 n.count, .slice qB n.items.length qb] nodeT)).alloc (.cells #[.int .i64 n.kind, .string n.data, .slice none 0 0, .int .i64 n.size, .int .i64 n.count, .slice none 0 0] nodeT)).heap[w.heap.size + 1]? = some (.cells #[.int .i64 n.kind, .string n.data, .slice none 0 0, .int .i64 n.size, .int .i64 n.count, .slice none 0 0] nodeT (0, 0)) := by have := heap_alloc_new (w.alloc (.cells #[.int .i64 n.kind, .string n.data, .slice qA n.ptrs.length qa, .int .i64 n.size, .int .i64 n.count, .slice qB n.items.length qb] nodeT)) (.cells #[.int .i64 n.kind, .string n.data, .slice none 0 0, .int .i64 n.size, .int .i64 n.count, .slice none 0 0] nodeT); rwa [show (w.alloc (.cells #[.int .i64 n.kind, .string n.data, .slice qA n.ptrs.length qa, .int .i64 n.size, .int .i64 n.count, .slice qB n.items.length qb] nodeT)).heap.size = w.heap.size + 1 by simp] at this
    have hbf : Below w.heap.size w ((w.alloc (.cells #[.int .i64 n.kind, .string n.data, .slice qA n.ptrs.length qa, .int .i64 n.size, .int .i64 n.count, .slice qB n.items.length qb] nodeT)).alloc (.cells #[.int .i64 n.kind, .string n.data, .slice none 0 0, .int .i64 n.size, .int .i64 n.count, .slice none 0 0] nodeT)) := ((Below.refl _ w).alloc (Nat.le_refl _) _).alloc (by simp) _
    obtain ⟨e0, e1, e2, e3, e4, e5⟩ := cells6 hrw
    refine bodyPost_ret (v := .agg #[.int .i64 n.kind, .string n.data, .slice none 0 0, .int .i64 n.size, .int .i64 n.count, .slice none 0 0]) (by simp [results, Tryz.results32, go_sem, e0, e1, e2, e3, e4, e5]) rfl ?_
    exact ⟨nHd, [], rfl, ⟨hdm, [], [], rfl, OwS.nil _ _, OwS.nil _ _⟩, List.nodup_nil, fun b h => (by cases h), hbf⟩
  · obtain ⟨hk, h8, hs00, hc0, hi0⟩ := hc
    have hze := HZE.out
    have hIL := HNL.out.2 (nil_of_len hi0)
    rw [if_pos hk, hk, hs00, hc0, hIL] at hze
    subst hze
    have hk1 : (n.kind == 1) = true := by rw [hk]; rfl
    have HTR := Lib.hid (fun W => l1Trim_w n.data W (HDA.out hk).1 (by have := (HDA.out hk).2; omega))
    clear HI HNL HF HDA hIL hs00 hc0 hi0 HZE h8 hk
    go_enter Tryz.func32, Tryz.ntmps32
    go_wp2_with fail
    generalize ((w.alloc (.cells #[.int .i64 n.kind, .string n.data, .slice qA n.ptrs.length qa, .int .i64 n.size, .int .i64 n.count, .slice qB n.items.length qb] nodeT)).alloc (.cells #[.int .i64 0, .string { data := #[] }, .slice none 0 0, .int .i64 0, .int .i64 0, .slice none 0 0] nodeT)) = W0 at *
    refine (HP.out _ HB0.out).mono ?_
    rintro e w1 ⟨A1, c1, bs1, rfl, hown1, hnd1, hge1, hb1⟩
    have hx1 := (hb1.block _ (row_lt HX0.out)).trans HX0.out
    have HZ1 := Lib.hid ((hb1.block _ (row_lt HZ0.out)).trans HZ0.out)
    have HB1 := Lib.hid (HB0.out.trans (hb1.mono HB0.out.size))
    have HLS := Lib.hid (l6Last_a (m + 1) A1 c1 PL w1 _ (hown1.nds _ _ _ _ _) hpl)
    have hcap := own_cap hown1
    have HOW := Lib.hid hown1
    have HND := Lib.hid (And.intro hnd1 hge1)
    have hle := endC_le PL
    have hs1 := HB1.out.size
    have hs2' := HB0.out.size
    obtain ⟨a0, a1, a2, a3, a4, a5⟩ := cells6 hx1
    obtain ⟨z0, z1, z2, z3, z4, z5⟩ := cells6 HZ1.out
    have zf := row_free HZ1.out
    clear hown1 hnd1 hge1 hb1 hx1
    have HSN : Hid (∃ bs4 : List Nat, OwS w1 (m + 1) A1 c1 (endP PL) bs4 ∧ bs4.Sublist bs1) := Lib.hid (HOW.out.take (endC PL) hle)
    rcases hcap with ⟨rfl, rfl, rfl⟩ | ⟨⟨g, rfl⟩, hlc⟩
    · have hez : endC ([] : List Nd) = 0 := rfl
      rw [hez] at HLS
      clear hle
      go_wp2_with (first | (go_at_call 70; go_must (refine (HTR.out _).mono ?_); rintro e w' ⟨rfl, rfl⟩) | (go_at_call 71; go_must (refine HLS.out.mono ?_); rintro e w' ⟨rfl, rfl⟩))
      obtain ⟨wf, hwf, hrw, hbf, hkf⟩ := fin6w HZ1.out HB1.out (by omega) (.int .i64 1) (.string (trimD n.data)) (.slice none 0 0) (.int .i64 0) (.int .i64 0) (.slice none 0 0)
      rw [hwf]
      obtain ⟨e0, e1, e2, e3, e4, e5⟩ := cells6 hrw
      obtain ⟨bs4, hot, hsub⟩ := HSN.out
      refine bodyPost_ret (v := .agg #[.int .i64 1, .string (trimD n.data), .slice none 0 0, .int .i64 0, .int .i64 0, .slice none 0 0]) (by simp [results, Tryz.results32, go_sem, e0, e1, e2, e3, e4, e5]) rfl ⟨⟨none, 0, none, 0⟩, bs4, ?_, ?_, HND.out.1.sublist hsub, fun b hb => by have := HND.out.2 b (hsub.subset hb); omega, hbf⟩
      · show _ = Ending.returned (.agg #[.int .i64 1, .string (trimD n.data), .slice none (endP _).length 0, .int .i64 0, .int .i64 0, .slice none 0 0])
        rw [endP_length] <;> rfl
      · refine ⟨?_, bs4, [], (List.append_nil _).symm, hot.frame _ _ _ _ _ (fun b hb => hkf b (by have := HND.out.2 b (hsub.subset hb); omega)), OwS.nil _ _⟩
        show (trimD n.data).size ≤ maxLen
        have l1 := trimD_size n.data
        have l2 := tw_le n.data.data.toList
        have l3 : n.data.data.toList.length = n.data.size := by simp
        omega
    · go_wp2_with (first | (go_at_call 70; go_must (refine (HTR.out _).mono ?_); rintro e w' ⟨rfl, rfl⟩) | (go_at_call 71; go_must (refine HLS.out.mono ?_); rintro e w' ⟨rfl, rfl⟩))
      obtain ⟨wf, hwf, hrw, hbf, hkf⟩ := fin6w HZ1.out HB1.out (by omega) (.int .i64 1) (.string (trimD n.data)) (.slice (some ⟨g, 0, none⟩) (endC PL) c1) (.int .i64 0) (.int .i64 0) (.slice none 0 0)
      rw [hwf]
      obtain ⟨e0, e1, e2, e3, e4, e5⟩ := cells6 hrw
      obtain ⟨bs4, hot, hsub⟩ := HSN.out
      refine bodyPost_ret (v := .agg #[.int .i64 1, .string (trimD n.data), .slice (some ⟨g, 0, none⟩) (endC PL) c1, .int .i64 0, .int .i64 0, .slice none 0 0]) (by simp [results, Tryz.results32, go_sem, e0, e1, e2, e3, e4, e5]) rfl ⟨⟨(some ⟨g, 0, none⟩), c1, none, 0⟩, bs4, ?_, ?_, HND.out.1.sublist hsub, fun b hb => by have := HND.out.2 b (hsub.subset hb); omega, hbf⟩
      · show _ = Ending.returned (.agg #[.int .i64 1, .string (trimD n.data), .slice (some ⟨g, 0, none⟩) (endP _).length c1, .int .i64 0, .int .i64 0, .slice none 0 0])
        rw [endP_length] <;> rfl
      · refine ⟨?_, bs4, [], (List.append_nil _).symm, hot.frame _ _ _ _ _ (fun b hb => hkf b (by have := HND.out.2 b (hsub.subset hb); omega)), OwS.nil _ _⟩
        show (trimD n.data).size ≤ maxLen
        have l1 := trimD_size n.data
        have l2 := tw_le n.data.data.toList
        have l3 : n.data.data.toList.length = n.data.size := by simp
        omega
  · have hk1 : (n.kind == 1) = false := by rw [hk2]; rfl
    have hk2b : (n.kind == 2) = true := by rw [hk2]; rfl
    have hze := HZE.out
    rw [if_neg (by omega)] at hze
    rcases hc with ⟨hs0', hs5, hbb, hp0, hi0⟩ | ⟨hs6, hd0, hpc, hi0⟩ | ⟨hs7, hd0, hp0, hic, hib⟩
    · have hPL := HNL.out.1 (nil_of_len hp0)
      have hIL := HNL.out.2 (nil_of_len hi0)
      rw [hPL, hIL] at hze
      subst hze
      have hz6 : (n.size == 6) = false := by simp; omega
      have hz7 : (n.size == 7) = false := by simp; omega
      clear HP HI HNL HF HDA hPL hIL hp0 hi0 HZE hk2 hs0' hs5 hbb hc2 HX0 HB0 HZ0 hs0
      go_enter Tryz.func32, Tryz.ntmps32
      go_wp2_with fail
      have hrw : ((w.alloc (.cells #[.int .i64 n.kind, .string n.data, .slice qA n.ptrs.length qa, .int .i64 n.size, .int .i64 n.count, .slice qB n.items.length qb] nodeT)).alloc (.cells #[.int .i64 n.kind, .string n.data, .slice none 0 0, .int .i64 n.size, .int .i64 n.count, .slice none 0 0] nodeT)).heap[w.heap.size + 1]? = some (.cells #[.int .i64 n.kind, .string n.data, .slice none 0 0, .int .i64 n.size, .int .i64 n.count, .slice none 0 0] nodeT (0, 0)) := by have := heap_alloc_new (w.alloc (.cells #[.int .i64 n.kind, .string n.data, .slice qA n.ptrs.length qa, .int .i64 n.size, .int .i64 n.count, .slice qB n.items.length qb] nodeT)) (.cells #[.int .i64 n.kind, .string n.data, .slice none 0 0, .int .i64 n.size, .int .i64 n.count, .slice none 0 0] nodeT); rwa [show (w.alloc (.cells #[.int .i64 n.kind, .string n.data, .slice qA n.ptrs.length qa, .int .i64 n.size, .int .i64 n.count, .slice qB n.items.length qb] nodeT)).heap.size = w.heap.size + 1 by simp] at this
      have hbf : Below w.heap.size w ((w.alloc (.cells #[.int .i64 n.kind, .string n.data, .slice qA n.ptrs.length qa, .int .i64 n.size, .int .i64 n.count, .slice qB n.items.length qb] nodeT)).alloc (.cells #[.int .i64 n.kind, .string n.data, .slice none 0 0, .int .i64 n.size, .int .i64 n.count, .slice none 0 0] nodeT)) := ((Below.refl _ w).alloc (Nat.le_refl _) _).alloc (by simp) _
      obtain ⟨e0, e1, e2, e3, e4, e5⟩ := cells6 hrw
      refine bodyPost_ret (v := .agg #[.int .i64 n.kind, .string n.data, .slice none 0 0, .int .i64 n.size, .int .i64 n.count, .slice none 0 0]) (by simp [results, Tryz.results32, go_sem, e0, e1, e2, e3, e4, e5]) rfl ?_
      exact ⟨nHd, [], rfl, ⟨hdm, [], [], rfl, OwS.nil _ _, OwS.nil _ _⟩, List.nodup_nil, fun b h => (by cases h), hbf⟩
    · have hIL := HNL.out.2 (nil_of_len hi0)
      have hnd : n.data = ⟨#[]⟩ := data_nil hd0
      rw [hIL, hk2, hnd] at hze
      subst hze
      have hz6 : (n.size == 6) = true := by rw [hs6]; rfl
      clear HI HNL HF HDA hIL hi0 HZE hk2 hc2 hs6 hpc hd0 hnd hpl
      go_enter Tryz.func32, Tryz.ntmps32
      go_wp2_with fail
      generalize ((w.alloc (.cells #[.int .i64 n.kind, .string n.data, .slice qA n.ptrs.length qa, .int .i64 n.size, .int .i64 n.count, .slice qB n.items.length qb] nodeT)).alloc (.cells #[.int .i64 0, .string { data := #[] }, .slice none 0 0, .int .i64 0, .int .i64 0, .slice none 0 0] nodeT)) = W0 at *
      have hbd : Below W0.heap.size W0 W0.drew := Below.mk rfl rfl rfl (Nat.le_refl _) (fun _ _ => rfl)
      obtain ⟨a0, a1, a2, a3, a4, a5⟩ := cells6 HX0.out
      go_region_with (go_at_call 69; (with_reducible refine (HP.out _ (by exact HB0.out.trans (hbd.mono HB0.out.size))).mono ?_); rintro e w1 ⟨A1, c1, bs1, rfl, hown1, hnd1, hge1, hb1⟩; have hbw : Below W0.heap.size W0 w1 := hbd.trans (hb1.mono hbd.size); have hz1 := (hbw.block _ (row_lt HZ0.out)).trans HZ0.out; obtain ⟨q0, q1, q2, q3, q4, q5⟩ := cells6 ((hbw.block _ (row_lt HX0.out)).trans HX0.out); obtain ⟨z0, z1, z2, z3, z4, z5⟩ := cells6 hz1; have zf := row_free hz1; have hd0 : W0.drew.heap.size = W0.heap.size := rfl)
      all_goals
        have HB1 := Lib.hid (HB0.out.trans (hbw.mono HB0.out.size))
        have HZ1 := Lib.hid hz1
        have HOW := Lib.hid hown1
        have HND := Lib.hid (And.intro hnd1 hge1)
        clear hown1 hnd1 hge1 hb1 hbw hz1 q0 q1 q2 q3 q4 q5 z0 z1 z2 z3 z4 z5 zf a0 a1 a2 a3 a4 a5
        go_wp2_with fail
        obtain ⟨wf, hwf, hrw, hbf, hkf⟩ := fin6w HZ1.out HB1.out (by omega) (.int .i64 2) (.string ⟨#[]⟩) (.slice A1 PL.length c1) (.int .i64 n.size) (.int .i64 n.count) (.slice none 0 0)
        rw [hwf]
        obtain ⟨e0, e1, e2, e3, e4, e5⟩ := cells6 hrw
        refine bodyPost_ret (v := .agg #[.int .i64 2, .string ⟨#[]⟩, .slice A1 PL.length c1, .int .i64 n.size, .int .i64 n.count, .slice none 0 0]) (by simp [results, Tryz.results32, go_sem, e0, e1, e2, e3, e4, e5]) rfl ?_
        have hfr : ∀ b ∈ bs1, wf.heap[b]? = w1.heap[b]? := fun b hb => hkf b (by have := HND.out.2 b hb; omega)
        exact ⟨⟨A1, c1, none, 0⟩, bs1, rfl, ⟨(by decide : (0 : Nat) ≤ maxLen), bs1, [], (List.append_nil _).symm, HOW.out.frame _ _ _ _ _ hfr, OwS.nil _ _⟩, HND.out.1, fun b hb => by have := HND.out.2 b hb; omega, hbf⟩

    · have hPL := HNL.out.1 (nil_of_len hp0)
      have hnd : n.data = ⟨#[]⟩ := data_nil hd0
      rw [hPL, hk2, hnd] at hze
      subst hze
      have hz6 : (n.size == 6) = false := by rw [hs7]; rfl
      have hz7 : (n.size == 7) = true := by rw [hs7]; rfl
      clear HP HNL HF HDA hPL hp0 HZE hk2 hc2 hs7 hic hib hd0 hnd hpl
      generalize evenL IL = EL at *
      go_enter Tryz.func32, Tryz.ntmps32
      go_wp2_with fail
      generalize ((w.alloc (.cells #[.int .i64 n.kind, .string n.data, .slice qA n.ptrs.length qa, .int .i64 n.size, .int .i64 n.count, .slice qB n.items.length qb] nodeT)).alloc (.cells #[.int .i64 0, .string { data := #[] }, .slice none 0 0, .int .i64 0, .int .i64 0, .slice none 0 0] nodeT)) = W0 at *
      have hbd : Below W0.heap.size W0 W0.drew := Below.mk rfl rfl rfl (Nat.le_refl _) (fun _ _ => rfl)
      obtain ⟨a0, a1, a2, a3, a4, a5⟩ := cells6 HX0.out
      go_region_with (go_at_call 72; (with_reducible refine (HI.out _ (by exact HB0.out.trans (hbd.mono HB0.out.size))).mono ?_); rintro e w1 ⟨A1, c1, bs1, rfl, hown1, hnd1, hge1, hb1⟩; have hbw : Below W0.heap.size W0 w1 := hbd.trans (hb1.mono hbd.size); have hz1 := (hbw.block _ (row_lt HZ0.out)).trans HZ0.out; obtain ⟨q0, q1, q2, q3, q4, q5⟩ := cells6 ((hbw.block _ (row_lt HX0.out)).trans HX0.out); obtain ⟨z0, z1, z2, z3, z4, z5⟩ := cells6 hz1; have zf := row_free hz1; have hd0 : W0.drew.heap.size = W0.heap.size := rfl)
      all_goals
        have HB1 := Lib.hid (HB0.out.trans (hbw.mono HB0.out.size))
        have HZ1 := Lib.hid hz1
        have HOW := Lib.hid hown1
        have HND := Lib.hid (And.intro hnd1 hge1)
        clear hown1 hnd1 hge1 hb1 hbw hz1 q0 q1 q2 q3 q4 q5 z0 z1 z2 z3 z4 z5 zf a0 a1 a2 a3 a4 a5
        go_wp2_with fail
        obtain ⟨wf, hwf, hrw, hbf, hkf⟩ := fin6w HZ1.out HB1.out (by omega) (.int .i64 2) (.string ⟨#[]⟩) (.slice none 0 0) (.int .i64 n.size) (.int .i64 n.count) (.slice A1 EL.length c1)
        rw [hwf]
        obtain ⟨e0, e1, e2, e3, e4, e5⟩ := cells6 hrw
        refine bodyPost_ret (v := .agg #[.int .i64 2, .string ⟨#[]⟩, .slice none 0 0, .int .i64 n.size, .int .i64 n.count, .slice A1 EL.length c1]) (by simp [results, Tryz.results32, go_sem, e0, e1, e2, e3, e4, e5]) rfl ?_
        have hfr : ∀ b ∈ bs1, wf.heap[b]? = w1.heap[b]? := fun b hb => hkf b (by have := HND.out.2 b hb; omega)
        exact ⟨⟨none, 0, A1, c1⟩, bs1, rfl, ⟨(by decide : (0 : Nat) ≤ maxLen), [], bs1, rfl, OwS.nil _ _, HOW.out.frame _ _ _ _ _ hfr⟩, HND.out.1, fun b hb => by have := HND.out.2 b hb; omega, hbf⟩

theorem spP_any : ∀ m, SpP m
  | 0 => spP_of 0 (fun j h => by cases h)
  | m + 1 => spP_of (m + 1) (fun j h => by obtain rfl : m = j := by omega
                                           exact spN_of m (spP_any m) (spI_of m (fun i hi => by
                                             cases m with
                                             | zero => cases hi
                                             | succ k => obtain rfl : k = i := by omega
                                                         exact spP_any k)))
theorem spI_any (m : Nat) : SpI m := spI_of m (fun j _ => spP_any j)
theorem spN_any (m : Nat) : SpN m := spN_of m (spP_any m) (spI_any m)
end Go.Proofs.YtbijfkpilncclaaGreat

namespace Go.Proofs.YtbijfkpilncclaaGreat
open Go.RowKit
theorem in_wi (c : Int) : inB c 0 12800 = wiB c 12801 := by unfold inB wiB; rw [Bool.eq_iff_iff]; simp; omega
set_option maxHeartbeats 4000000 in
set_option maxRecDepth 100000 in
theorem l4List_0 (m : Nat) (s c : Int) (d : ByteArray) (A B : Option Addr) (lp cp ci : Nat) (is : List Nd) (w : World) (S : Nat → Prop) (_hn : NdsAt w S m B is) (hdm : d.size ≤ maxLen) (_hlm : is.length ≤ 2000000) (_hpm : lp ≤ 2000000) (hs0 : 0 ≤ s) (hs5 : s ≤ 5) (hw : wiB c 12801 = true) :
    Calls Tryz.prog 106 #[.agg #[.int .i64 2, .string d, .slice A lp cp, .int .i64 s, .int .i64 c, .slice B is.length ci]] w fun e w' => e = .returned (.bool (listB 2 s c d lp is.length (itemsB is))) ∧ Below w.heap.size w w' := by
  obtain ⟨hc0, hc1⟩ := wi_out hw
  have HLN : Hid (listB 2 s c d lp is.length (itemsB is) = (bitsB d (c * bz s) && (decide (lp = 0) && decide (is.length = 0)))) := Lib.hid (by unfold listB; rw [hw, if_pos ⟨hs0, hs5⟩]; simp)
  have HS7 : Hid (inB s 0 7 = true) := Lib.hid (by simp [inB]; omega)
  have HW : Hid (inB c 0 12800 = true) := Lib.hid (by rw [in_wi]; exact hw)
  have HPL := Lib.hid (fun W => l4Plain_a 2 s c d A B lp cp is.length ci W hs0 hs5 hc0 (by omega) hdm)
  have z6 : (s == 6) = false := by simp; omega
  have z7 : (s == 7) = false := by simp; omega
  clear _hn hw hdm _hlm _hpm hs0 hs5 hc0 hc1
  generalize bitsB d (c * bz s) = bb at *
  by_cases hp : lp = 0
  · have hpb : ((lp : Int) == 0) = true := by rw [hp]; rfl
    by_cases hi : is.length = 0
    · have hib : ((is.length : Int) == 0) = true := by rw [hi]; rfl
      have HX : Hid (listB 2 s c d lp is.length (itemsB is) = bb) := Lib.hid (by rw [HLN.out, hp, hi]; simp)
      clear hp hi
      go_enter Tryz.func106, Tryz.ntmps106
      go_wp2_with (first | (go_at_call 57; go_must (refine (l1In_any _ _ _ _).mono ?_); rintro e w1 ⟨rfl, rfl⟩; first | rw [HS7.out] | rw [HW.out]) | (go_at_call 130; go_must (with_reducible refine (HPL.out _).mono ?_); rintro e w2 ⟨rfl, hb2⟩))
      go_ret
      exact ⟨by rw [HX.out]; rfl, ((Below.refl _ _).alloc (Nat.le_refl _) _).trans (hb2.mono (by simp))⟩
    · have hib : ((is.length : Int) == 0) = false := by rw [beq_eq_false_iff_ne]; omega
      have HX : Hid (listB 2 s c d lp is.length (itemsB is) = false) := Lib.hid (by rw [HLN.out]; simp [hi])
      clear hp hi
      go_enter Tryz.func106, Tryz.ntmps106
      go_wp2_with (go_at_call 57; go_must (refine (l1In_any _ _ _ _).mono ?_); rintro e w1 ⟨rfl, rfl⟩; first | rw [HS7.out] | rw [HW.out])
      go_ret
      exact ⟨by rw [HX.out]; rfl, (Below.refl _ _).alloc (Nat.le_refl _) _⟩
  · have hpb : ((lp : Int) == 0) = false := by rw [beq_eq_false_iff_ne]; omega
    have HX : Hid (listB 2 s c d lp is.length (itemsB is) = false) := Lib.hid (by rw [HLN.out]; simp [hp])
    clear hp
    go_enter Tryz.func106, Tryz.ntmps106
    go_wp2_with (go_at_call 57; go_must (refine (l1In_any _ _ _ _).mono ?_); rintro e w1 ⟨rfl, rfl⟩; first | rw [HS7.out] | rw [HW.out])
    go_ret
    exact ⟨by rw [HX.out]; rfl, (Below.refl _ _).alloc (Nat.le_refl _) _⟩
set_option maxHeartbeats 4000000 in
set_option maxRecDepth 100000 in
theorem l4List_6 (m : Nat) (c : Int) (d : ByteArray) (A B : Option Addr) (lp cp ci : Nat) (is : List Nd) (w : World) (S : Nat → Prop) (_hn : NdsAt w S m B is) (_hdm : d.size ≤ maxLen) (_hlm : is.length ≤ 2000000) (_hpm : lp ≤ 2000000) (hw : wiB c 12801 = true) :
    Calls Tryz.prog 106 #[.agg #[.int .i64 2, .string d, .slice A lp cp, .int .i64 6, .int .i64 c, .slice B is.length ci]] w fun e w' => e = .returned (.bool (listB 2 6 c d lp is.length (itemsB is))) ∧ Below w.heap.size w w' := by
  have HLN : Hid (listB 2 6 c d lp is.length (itemsB is) = decide (d.size = 0 ∧ (lp : Int) = c ∧ is.length = 0)) := Lib.hid (by unfold listB; rw [hw, Bool.eq_iff_iff]; simp)
  have hse := toList_isEmpty d
  have HS7 : Hid (inB 6 0 7 = true) := Lib.hid (by decide)
  have HW : Hid (inB c 0 12800 = true) := Lib.hid (by rw [in_wi]; exact hw)
  clear hw _hn
  go_enter Tryz.func106, Tryz.ntmps106
  go_wp2_with (go_at_call 57; go_must (refine (l1In_any _ _ _ _).mono ?_); rintro e w1 ⟨rfl, rfl⟩; first | rw [HS7.out] | rw [HW.out])
  all_goals go_ret
  all_goals refine ⟨ret_bool ?_, (Below.refl _ _).alloc (Nat.le_refl _) _⟩
  all_goals (rw [HLN.out, Bool.eq_iff_iff]; simp_all)
set_option maxHeartbeats 4000000 in
set_option maxRecDepth 100000 in
theorem l4List_7 (m : Nat) (c : Int) (d : ByteArray) (A B : Option Addr) (lp cp ci : Nat) (is : List Nd) (w : World) (S : Nat → Prop) (hn : NdsAt w S m B is) (_hdm : d.size ≤ maxLen) (hlm : is.length ≤ 2000000) (_hpm : lp ≤ 2000000) (hw : wiB c 12801 = true) :
    Calls Tryz.prog 106 #[.agg #[.int .i64 2, .string d, .slice A lp cp, .int .i64 7, .int .i64 c, .slice B is.length ci]] w fun e w' => e = .returned (.bool (listB 2 7 c d lp is.length (itemsB is))) ∧ Below w.heap.size w w' := by
  have HLN : Hid (listB 2 7 c d lp is.length (itemsB is) = (decide (d.size = 0 ∧ lp = 0 ∧ (is.length : Int) = c) && itemsB is)) := Lib.hid (by unfold listB; rw [hw, Bool.eq_iff_iff]; simp [and_assoc])
  have HFALSE : Hid (itemsB is = false → listB 2 7 c d lp is.length (itemsB is) = false) := Lib.hid (fun h => by rw [HLN.out, h, Bool.and_false])
  have hse := toList_isEmpty d
  have HS7 : Hid (inB 7 0 7 = true) := Lib.hid (by decide)
  have HW : Hid (inB c 0 12800 = true) := Lib.hid (by rw [in_wi]; exact hw)
  have hba := (Below.refl w.heap.size w).alloc (Nat.le_refl _) (.cells #[.int .i64 2, .string d, .slice A lp cp, .int .i64 7, .int .i64 c, .slice B is.length ci] nodeT)
  have HF := Lib.hid (NdsAt.succ _ _ _ (hn.below hba))
  have HBW := Lib.hid hba
  have HR := Lib.hid (heap_alloc_new w (.cells #[.int .i64 2, .string d, .slice A lp cp, .int .i64 7, .int .i64 c, .slice B is.length ci] nodeT))
  have hsz : w.heap.size < (w.alloc (.cells #[.int .i64 2, .string d, .slice A lp cp, .int .i64 7, .int .i64 c, .slice B is.length ci] nodeT)).heap.size := by simp
  clear hw hn hba
  go_enter Tryz.func106, Tryz.ntmps106
  go_wp2_with (go_at_call 57; go_must (refine (l1In_any _ _ _ _).mono ?_); rintro e w1 ⟨rfl, rfl⟩; first | rw [HS7.out] | rw [HW.out])
  generalize w.alloc (.cells #[.int .i64 2, .string d, .slice A lp cp, .int .i64 7, .int .i64 c, .slice B is.length ci] nodeT) = W at *
  go_loopw [3] (fun i wr => ∃ k : Nat, i = .int .i64 k ∧ k ≤ is.length ∧ Hid ((is.take k).all (fun n => itemB n (is.headD default)) = true) ∧ Hid (Below W.heap.size W wr)) (fun i _ => is.length - (intOf i).toNat)
  case atStart => exact ⟨0, rfl, by omega, Lib.hid rfl, Lib.hid (Below.refl _ _)⟩
  case round =>
    obtain ⟨k, rfl, hk, HA, HB⟩ := hrel
    have hrw := (HB.out.block _ hsz).trans HR.out
    obtain ⟨e0, e1, e2, e3, e4, e5⟩ := cells6 hrw
    by_cases hlt : k < is.length
    · clear e0 e1 e2 e3 e4
      obtain ⟨x, hd, rfl, hc, hn⟩ := (HF.out.below HB.out).at_ hlt
      obtain ⟨x', hd0, hxx, hc0, hn0⟩ := (HF.out.below HB.out).at_ (k := 0) (by omega)
      obtain rfl : x = x' := Option.some.inj hxx
      rw [addr_zero] at hc0
      have HFL := Lib.hid (fun h => itemsB_false hlt h)
      have HTR := Lib.hid (fun h => itemsB_take hlt HA.out h)
      have h0l : 0 < is.length := by omega
      rw [head_at h0l] at hc0
      generalize is.headD default = hdn at hc0 HFL HTR
      generalize is[k] = n at hc HFL HTR
      obtain ⟨c0, c1, c2, c3, c4, c5⟩ := hc
      obtain ⟨-, d1, d2, -, -, -⟩ := hc0
      have HI := Lib.hid (fun W => l4Struct_any n.kind n.size n.count n.data hd.A hd.B n.ptrs.length hd.a n.items.length hd.b W)
      clear hn hn0 hrw
      go_wp2_with fail
      have q0 := cell_regrown c0
      have q1 := cell_regrown c1
      have q2 := cell_regrown c2
      have q3 := cell_regrown c3
      have q4 := cell_regrown c4
      have q5 := cell_regrown c5
      have e5' := cell_regrown e5
      have p1 := cell_regrown d1
      have p2 := cell_regrown d2
      cases hst : structB n.kind n.data n.size n.count n.items.length
      · have HX := Lib.hid (HFALSE.out (HFL.out (by simp [itemB, hst])))
        rw [hst] at HI
        refine wp_region_quiet_below (by kernel_rfl) (by kernel_rfl) ?_
        repeat (first | go_big_quiet_step ((go_at_call 105; with_reducible exact Calls.regrown_of (HI.out _))) | quiet_step ((go_at_call 105; with_reducible exact Calls.regrown_of (HI.out _))))
        refine wpQuiet_nil ?_
        intro _ hw'
        obtain ⟨⟨dq, osq⟩, hw''⟩ := hw'
        subst hw''
        have HB2 := Lib.hid (HB.out.trans ((below_regrown wr dq osq).mono HB.out.size))
        clear q0 q1 q2 q3 q4 q5 e5 e5' p1 p2 d1 d2 c0 c1 c2 c3 c4 c5
        generalize «Sort».grow (redrawn wr dq) osq = W2 at *
        go_wp2
        go_ret
        exact ⟨by rw [HX.out]; rfl, HBW.out.trans (HB2.out.mono HBW.out.size)⟩
      · rw [hst] at HI
        by_cases hz : n.data.size = hdn.data.size
        · have HZ := Lib.hid hz
          have hzb : ((n.data.size : Int) == (hdn.data.size : Int)) = true := by rw [hz]; simp
          have hzn : ((n.data.size : Int) != (hdn.data.size : Int)) = false := by rw [hz]; simp
          clear hz
          by_cases hp : n.ptrs.length = hdn.ptrs.length
          · have HX := Lib.hid (HTR.out (by simp [itemB, hst, HZ.out, hp]))
            have hpn : ((n.ptrs.length : Int) != (hdn.ptrs.length : Int)) = false := by rw [hp]; simp
            clear hp
            refine wp_region_quiet_below (by kernel_rfl) (by kernel_rfl) ?_
            repeat (first | go_big_quiet_step ((go_at_call 105; with_reducible exact Calls.regrown_of (HI.out _))) | quiet_step ((go_at_call 105; with_reducible exact Calls.regrown_of (HI.out _))))
            refine wpQuiet_nil ?_
            intro _ hw'
            obtain ⟨⟨dq, osq⟩, hw''⟩ := hw'
            subst hw''
            have HB2 := Lib.hid (HB.out.trans ((below_regrown wr dq osq).mono HB.out.size))
            clear q0 q1 q2 q3 q4 q5 e5 e5' p1 p2 d1 d2 c0 c1 c2 c3 c4 c5
            generalize «Sort».grow (redrawn wr dq) osq = W2 at *
            go_wp2
            go_roundw
            case rel => exact ⟨k + 1, by go_num, by omega, HX, HB2⟩
            case measure => simp [intOf]; omega
          · have HX := Lib.hid (HFALSE.out (HFL.out (by simp [itemB, hst, HZ.out, hp])))
            have hpn : ((n.ptrs.length : Int) != (hdn.ptrs.length : Int)) = true := by simp; omega
            clear hp
            refine wp_region_quiet_below (by kernel_rfl) (by kernel_rfl) ?_
            repeat (first | go_big_quiet_step ((go_at_call 105; with_reducible exact Calls.regrown_of (HI.out _))) | quiet_step ((go_at_call 105; with_reducible exact Calls.regrown_of (HI.out _))))
            refine wpQuiet_nil ?_
            intro _ hw'
            obtain ⟨⟨dq, osq⟩, hw''⟩ := hw'
            subst hw''
            have HB2 := Lib.hid (HB.out.trans ((below_regrown wr dq osq).mono HB.out.size))
            clear q0 q1 q2 q3 q4 q5 e5 e5' p1 p2 d1 d2 c0 c1 c2 c3 c4 c5
            generalize «Sort».grow (redrawn wr dq) osq = W2 at *
            go_wp2
            go_ret
            exact ⟨by rw [HX.out]; rfl, HBW.out.trans (HB2.out.mono HBW.out.size)⟩
        · have HX := Lib.hid (HFALSE.out (HFL.out (by simp [itemB, hst, hz])))
          have hzb : ((n.data.size : Int) == (hdn.data.size : Int)) = false := by simp; omega
          have hzn : ((n.data.size : Int) != (hdn.data.size : Int)) = true := by simp; omega
          refine wp_region_quiet_below (by kernel_rfl) (by kernel_rfl) ?_
          repeat (first | go_big_quiet_step ((go_at_call 105; with_reducible exact Calls.regrown_of (HI.out _))) | quiet_step ((go_at_call 105; with_reducible exact Calls.regrown_of (HI.out _))))
          refine wpQuiet_nil ?_
          intro _ hw'
          obtain ⟨⟨dq, osq⟩, hw''⟩ := hw'
          subst hw''
          have HB2 := Lib.hid (HB.out.trans ((below_regrown wr dq osq).mono HB.out.size))
          clear q0 q1 q2 q3 q4 q5 e5 e5' p1 p2 d1 d2 c0 c1 c2 c3 c4 c5
          generalize «Sort».grow (redrawn wr dq) osq = W2 at *
          go_wp2
          go_ret
          exact ⟨by rw [HX.out]; rfl, HBW.out.trans (HB2.out.mono HBW.out.size)⟩
    · obtain rfl : k = is.length := by omega
      rw [List.take_of_length_le (Nat.le_refl _)] at HA
      have HIB : Hid (itemsB is = true) := Lib.hid HA.out
      have HX : Hid (listB 2 7 c d lp is.length (itemsB is) = decide (d.size = 0 ∧ lp = 0 ∧ (is.length : Int) = c)) := Lib.hid (by rw [HLN.out, HIB.out, Bool.and_true])
      have HBE := Lib.hid (HBW.out.trans (HB.out.mono HBW.out.size))
      go_wp2
      all_goals go_ret
      all_goals refine ⟨?_, HBE.out⟩
      all_goals rw [HX.out]
      all_goals exact ret_bool (by rw [Bool.eq_iff_iff]; simp_all)
set_option maxHeartbeats 4000000 in
set_option maxRecDepth 100000 in
theorem l4List_a (m : Nat) (k s c : Int) (d : ByteArray) (A B : Option Addr) (lp cp ci : Nat) (is : List Nd) (w : World) (S : Nat → Prop) (hn : NdsAt w S m B is) (hdm : d.size ≤ maxLen) (hlm : is.length ≤ 2000000) (hpm : lp ≤ 2000000) :
    Calls Tryz.prog 106 #[.agg #[.int .i64 k, .string d, .slice A lp cp, .int .i64 s, .int .i64 c, .slice B is.length ci]] w fun e w' => e = .returned (.bool (listB k s c d lp is.length (itemsB is))) ∧ Below w.heap.size w w' := by
  by_cases hk : k = 2
  · subst hk
    by_cases hs : 0 ≤ s ∧ s ≤ 7
    · cases hw : wiB c 12801
      · have HX : Hid (listB 2 s c d lp is.length (itemsB is) = false) := Lib.hid (by unfold listB; rw [hw]; simp)
        have HS7 : Hid (inB s 0 7 = true) := Lib.hid (by simp [inB]; omega)
        have HW : Hid (inB c 0 12800 = false) := Lib.hid (by rw [in_wi]; exact hw)
        clear hw hn hs
        go_enter Tryz.func106, Tryz.ntmps106
        go_wp2_with (go_at_call 57; go_must (refine (l1In_any _ _ _ _).mono ?_); rintro e w1 ⟨rfl, rfl⟩; first | rw [HS7.out] | rw [HW.out])
        go_ret
        exact ⟨by rw [HX.out]; rfl, (Below.refl _ _).alloc (Nat.le_refl _) _⟩
      · by_cases h5 : s ≤ 5
        · exact l4List_0 m s c d A B lp cp ci is w S hn hdm hlm hpm hs.1 h5 hw
        · have h67 : s = 6 ∨ s = 7 := by omega
          rcases h67 with rfl | rfl
          · exact l4List_6 m c d A B lp cp ci is w S hn hdm hlm hpm hw
          · exact l4List_7 m c d A B lp cp ci is w S hn hdm hlm hpm hw
    · have HX : Hid (listB 2 s c d lp is.length (itemsB is) = false) := Lib.hid (by unfold listB; rw [if_neg (by omega), if_neg (by omega), if_neg (by omega)]; simp)
      have HS7 : Hid (inB s 0 7 = false) := Lib.hid (by simp [inB]; omega)
      have HW := HS7
      clear hn hs
      go_enter Tryz.func106, Tryz.ntmps106
      go_wp2_with (go_at_call 57; go_must (refine (l1In_any _ _ _ _).mono ?_); rintro e w1 ⟨rfl, rfl⟩; first | rw [HS7.out] | rw [HW.out])
      go_ret
      exact ⟨by rw [HX.out]; rfl, (Below.refl _ _).alloc (Nat.le_refl _) _⟩
  · have HX : Hid (listB k s c d lp is.length (itemsB is) = false) := Lib.hid (by unfold listB; simp [hk])
    clear hn
    go_enter Tryz.func106, Tryz.ntmps106
    go_wp2
    go_ret
    exact ⟨by rw [HX.out]; rfl, (Below.refl _ _).alloc (Nat.le_refl _) _⟩
end Go.Proofs.YtbijfkpilncclaaGreat
