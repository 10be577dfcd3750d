/- Texts of the proof of the law FnExactCanonPut, side by side: part 17. -/
import Derived.Test.YtbijfkpilncclaaGreatMExactCanonPut00
import Derived.Test.YtbijfkpilncclaaGreatMExactCanonPut01
import Derived.Test.YtbijfkpilncclaaGreatMExactCanonPut02
import Derived.Test.YtbijfkpilncclaaGreatMExactCanonPut03
import Derived.Test.YtbijfkpilncclaaGreatMExactCanonPut04
import Derived.Test.YtbijfkpilncclaaGreatMExactCanonPut05
import Derived.Test.YtbijfkpilncclaaGreatMExactCanonPut06
import Derived.Test.YtbijfkpilncclaaGreatMExactCanonPut07
import Derived.Test.YtbijfkpilncclaaGreatMExactCanonPut08
import Derived.Test.YtbijfkpilncclaaGreatMExactCanonPut09
import Derived.Test.YtbijfkpilncclaaGreatMExactCanonPut10
import Derived.Test.YtbijfkpilncclaaGreatMExactCanonPut11
import Derived.Test.YtbijfkpilncclaaGreatMExactCanonPut12
import Derived.Test.YtbijfkpilncclaaGreatMExactCanonPut13
import Derived.Test.YtbijfkpilncclaaGreatMExactCanonPut14
import Derived.Test.YtbijfkpilncclaaGreatMExactCanonPut15
import Derived.Test.YtbijfkpilncclaaGreatMExactCanonPut16
/- The specification's one form: of any node that is ok. -/
namespace Go.Proofs.YtbijfkpilncclaaGreat
open Go.RowKit Go.Deep
theorem ok_itm {n : Nd} (hok : nodeOk n = true) : Itm n.items := by
  have h1 := (node_ok hok).1
  have hk := ok_kids h1
  exact (evenL_cut hk.1 (fun p hp => (ok_kids (hk.2 p hp)).1)).2
theorem ok_even {n : Nd} (hok : nodeOk n = true) : evenL (n.items.map canN) = n.items.map (fun y => .mk 1 (y.data.extract 0 (topD (n.items.map canN))) ((y.ptrs.map canN).take (topP (n.items.map canN))) 0 0 []) := by
  have h1 := (node_ok hok).1
  have hk := ok_kids h1
  exact (evenL_cut hk.1 (fun p hp => (ok_kids (hk.2 p hp)).1)).1
set_option maxHeartbeats 8000000 in
set_option maxRecDepth 100000 in
theorem spN_of (m : Nat) (hP : SpP m) (hI : SpI m) : SpN m := by
  intro n h w S hn hok hsz
  obtain ⟨qA, qa, qB, qb⟩ := h
  have hz1 : sizL n.ptrs ≤ 2000000 := by rw [sizN_eq] at hsz; omega
  have hz2 : sizL n.items ≤ 2000000 := by rw [sizN_eq] at hsz; omega
  have HF := Lib.hid (form_cases (ok_kids (node_ok hok).1).1)
  have HDA : Hid (n.kind = 1 → n.data.size % 8 = 0 ∧ n.data.size ≤ 1600) := Lib.hid fun hk => by have := ok_data hok hk; omega
  have HP : Hid (∀ W : World, Below w.heap.size w W → Calls Tryz.prog 69 #[.slice qA n.ptrs.length qa] W (NewOS (m + 1) (n.ptrs.map canN) W)) := Lib.hid fun W hW => hP qA qa n.ptrs W S ((show NdsAt w S m qA n.ptrs from hn.2.1).below hW) (ok_ptr hok) hz1
  have HI : Hid (∀ W : World, Below w.heap.size w W → Calls Tryz.prog 72 #[.slice qB n.items.length qb] W (NewOS (m + 1) (evenL (n.items.map canN)) W)) := Lib.hid fun W hW => by
    rw [ok_even hok]
    exact hI qB qb n.items W S ((show NdsAt w S m qB n.items from hn.2.2).below hW) (ok_itm hok) (ok_item hok) hz2
  have hpl : (n.ptrs.map canN).length ≤ 2000000 := by rw [List.length_map]; have := ok_small hok; omega
  have hdm : n.data.size ≤ maxLen := hn.1
  have hcan := canN_eq n
  unfold formT at hcan
  obtain ⟨Z0, hZ0⟩ : ∃ Z0, Z0 = canN n := ⟨_, rfl⟩
  rw [← hZ0]
  have HZE := Lib.hid (hZ0.trans hcan)
  have HNL : Hid ((n.ptrs = [] → n.ptrs.map canN = []) ∧ (n.items = [] → n.items.map canN = [])) := Lib.hid ⟨fun h => by rw [h]; rfl, fun h => by rw [h]; rfl⟩
  clear hcan hZ0 hn hok hsz hz1 hz2 hP hI
  unfold NewOS at HP HI
  generalize n.ptrs.map canN = PL at *
  generalize n.items.map canN = IL at *
  have hb0 : Below w.heap.size w ((w.alloc (.cells #[.int .i64 n.kind, .string n.data, .slice qA n.ptrs.length qa, .int .i64 n.size, .int .i64 n.count, .slice qB n.items.length qb] nodeT)).alloc (.cells #[.int .i64 0, .string { data := #[] }, .slice none 0 0, .int .i64 0, .int .i64 0, .slice none 0 0] nodeT)) := ((Below.refl _ w).alloc (Nat.le_refl _) _).alloc (by simp) _
  have hx0 : ((w.alloc (.cells #[.int .i64 n.kind, .string n.data, .slice qA n.ptrs.length qa, .int .i64 n.size, .int .i64 n.count, .slice qB n.items.length qb] nodeT)).alloc (.cells #[.int .i64 0, .string { data := #[] }, .slice none 0 0, .int .i64 0, .int .i64 0, .slice none 0 0] nodeT)).heap[w.heap.size]? = some (.cells #[.int .i64 n.kind, .string n.data, .slice qA n.ptrs.length qa, .int .i64 n.size, .int .i64 n.count, .slice qB n.items.length qb] nodeT (0, 0)) := heap_alloc_keep (heap_alloc_new w _) _
  have hz0 : ((w.alloc (.cells #[.int .i64 n.kind, .string n.data, .slice qA n.ptrs.length qa, .int .i64 n.size, .int .i64 n.count, .slice qB n.items.length qb] nodeT)).alloc (.cells #[.int .i64 0, .string { data := #[] }, .slice none 0 0, .int .i64 0, .int .i64 0, .slice none 0 0] nodeT)).heap[w.heap.size + 1]? = some (.cells #[.int .i64 0, .string { data := #[] }, .slice none 0 0, .int .i64 0, .int .i64 0, .slice none 0 0] nodeT (0, 0)) := by have := heap_alloc_new (w.alloc (.cells #[.int .i64 n.kind, .string n.data, .slice qA n.ptrs.length qa, .int .i64 n.size, .int .i64 n.count, .slice qB n.items.length qb] nodeT)) (.cells #[.int .i64 0, .string { data := #[] }, .slice none 0 0, .int .i64 0, .int .i64 0, .slice none 0 0] nodeT); rwa [show (w.alloc (.cells #[.int .i64 n.kind, .string n.data, .slice qA n.ptrs.length qa, .int .i64 n.size, .int .i64 n.count, .slice qB n.items.length qb] nodeT)).heap.size = w.heap.size + 1 by simp] at this
  have hs0 : ((w.alloc (.cells #[.int .i64 n.kind, .string n.data, .slice qA n.ptrs.length qa, .int .i64 n.size, .int .i64 n.count, .slice qB n.items.length qb] nodeT)).alloc (.cells #[.int .i64 0, .string { data := #[] }, .slice none 0 0, .int .i64 0, .int .i64 0, .slice none 0 0] nodeT)).heap.size = w.heap.size + 2 := by simp
  have HB0 := Lib.hid hb0
  have HX0 := Lib.hid hx0
  have HZ0 := Lib.hid hz0
  clear hb0 hx0 hz0
  rcases HF.out with hc | hc | ⟨hk2, hc2, hc⟩
  · obtain ⟨hk, hd0, hp0, hs00, hc0, hi0⟩ := hc
    have hze := HZE.out
    rw [if_neg (by omega)] at hze
    have hPL := HNL.out.1 (nil_of_len hp0)
    have hIL := HNL.out.2 (nil_of_len hi0)
    rw [hPL, hIL] at hze
    subst hze
    have hk1 : (n.kind == 1) = false := by rw [hk]; rfl
    have hk2 : (n.kind == 2) = false := by rw [hk]; rfl
    clear HP HI HNL HF HDA hPL hIL hk hd0 hs00 hc0 hp0 hi0 HZE
    go_enter Tryz.func32, Tryz.ntmps32
    clear HX0 HB0 HZ0 hs0
    go_wp2_with fail
    have hrw : ((w.alloc (.cells #[.int .i64 n.kind, .string n.data, .slice qA n.ptrs.length qa, .int .i64 n.size, .int .i64 n.count, .slice qB n.items.length qb] nodeT)).alloc (.cells #[.int .i64 n.kind, .string n.data, .slice none 0 0, .int .i64 n.size, .int .i64 n.count, .slice none 0 0] nodeT)).heap[w.heap.size + 1]? = some (.cells #[.int .i64 n.kind, .string n.data, .slice none 0 0, .int .i64 n.size, .int .i64 n.count, .slice none 0 0] nodeT (0, 0)) := by have := heap_alloc_new (w.alloc (.cells #[.int .i64 n.kind, .string n.data, .slice qA n.ptrs.length qa, .int .i64 n.size, .int .i64 n.count, .slice qB n.items.length qb] nodeT)) (.cells #[.int .i64 n.kind, .string n.data, .slice none 0 0, .int .i64 n.size, .int .i64 n.count, .slice none 0 0] nodeT); rwa [show (w.alloc (.cells #[.int .i64 n.kind, .string n.data, .slice qA n.ptrs.length qa, .int .i64 n.size, .int .i64 n.count, .slice qB n.items.length qb] nodeT)).heap.size = w.heap.size + 1 by simp] at this
    have hbf : Below w.heap.size w ((w.alloc (.cells #[.int .i64 n.kind, .string n.data, .slice qA n.ptrs.length qa, .int .i64 n.size, .int .i64 n.count, .slice qB n.items.length qb] nodeT)).alloc (.cells #[.int .i64 n.kind, .string n.data, .slice none 0 0, .int .i64 n.size, .int .i64 n.count, .slice none 0 0] nodeT)) := ((Below.refl _ w).alloc (Nat.le_refl _) _).alloc (by simp) _
    obtain ⟨e0, e1, e2, e3, e4, e5⟩ := cells6 hrw
    refine bodyPost_ret (v := .agg #[.int .i64 n.kind, .string n.data, .slice none 0 0, .int .i64 n.size, .int .i64 n.count, .slice none 0 0]) (by simp [results, Tryz.results32, go_sem, e0, e1, e2, e3, e4, e5]) rfl ?_
    exact ⟨nHd, [], rfl, ⟨hdm, [], [], rfl, OwS.nil _ _, OwS.nil _ _⟩, List.nodup_nil, fun b h => (by cases h), hbf⟩
  · obtain ⟨hk, h8, hs00, hc0, hi0⟩ := hc
    have hze := HZE.out
    have hIL := HNL.out.2 (nil_of_len hi0)
    rw [if_pos hk, hk, hs00, hc0, hIL] at hze
    subst hze
    have hk1 : (n.kind == 1) = true := by rw [hk]; rfl
    have HTR := Lib.hid (fun W => l1Trim_w n.data W (HDA.out hk).1 (by have := (HDA.out hk).2; omega))
    clear HI HNL HF HDA hIL hs00 hc0 hi0 HZE h8 hk
    go_enter Tryz.func32, Tryz.ntmps32
    go_wp2_with fail
    generalize ((w.alloc (.cells #[.int .i64 n.kind, .string n.data, .slice qA n.ptrs.length qa, .int .i64 n.size, .int .i64 n.count, .slice qB n.items.length qb] nodeT)).alloc (.cells #[.int .i64 0, .string { data := #[] }, .slice none 0 0, .int .i64 0, .int .i64 0, .slice none 0 0] nodeT)) = W0 at *
    refine (HP.out _ HB0.out).mono ?_
    rintro e w1 ⟨A1, c1, bs1, rfl, hown1, hnd1, hge1, hb1⟩
    have hx1 := (hb1.block _ (row_lt HX0.out)).trans HX0.out
    have HZ1 := Lib.hid ((hb1.block _ (row_lt HZ0.out)).trans HZ0.out)
    have HB1 := Lib.hid (HB0.out.trans (hb1.mono HB0.out.size))
    have HLS := Lib.hid (l6Last_a (m + 1) A1 c1 PL w1 _ (hown1.nds _ _ _ _ _) hpl)
    have hcap := own_cap hown1
    have HOW := Lib.hid hown1
    have HND := Lib.hid (And.intro hnd1 hge1)
    have hle := endC_le PL
    have hs1 := HB1.out.size
    have hs2' := HB0.out.size
    obtain ⟨a0, a1, a2, a3, a4, a5⟩ := cells6 hx1
    obtain ⟨z0, z1, z2, z3, z4, z5⟩ := cells6 HZ1.out
    have zf := row_free HZ1.out
    clear hown1 hnd1 hge1 hb1 hx1
    have HSN : Hid (∃ bs4 : List Nat, OwS w1 (m + 1) A1 c1 (endP PL) bs4 ∧ bs4.Sublist bs1) := Lib.hid (HOW.out.take (endC PL) hle)
    rcases hcap with ⟨rfl, rfl, rfl⟩ | ⟨⟨g, rfl⟩, hlc⟩
    · have hez : endC ([] : List Nd) = 0 := rfl
      rw [hez] at HLS
      clear hle
      go_wp2_with (first | (go_at_call 70; go_must (refine (HTR.out _).mono ?_); rintro e w' ⟨rfl, rfl⟩) | (go_at_call 71; go_must (refine HLS.out.mono ?_); rintro e w' ⟨rfl, rfl⟩))
      obtain ⟨wf, hwf, hrw, hbf, hkf⟩ := fin6w HZ1.out HB1.out (by omega) (.int .i64 1) (.string (trimD n.data)) (.slice none 0 0) (.int .i64 0) (.int .i64 0) (.slice none 0 0)
      rw [hwf]
      obtain ⟨e0, e1, e2, e3, e4, e5⟩ := cells6 hrw
      obtain ⟨bs4, hot, hsub⟩ := HSN.out
      refine bodyPost_ret (v := .agg #[.int .i64 1, .string (trimD n.data), .slice none 0 0, .int .i64 0, .int .i64 0, .slice none 0 0]) (by simp [results, Tryz.results32, go_sem, e0, e1, e2, e3, e4, e5]) rfl ⟨⟨none, 0, none, 0⟩, bs4, ?_, ?_, HND.out.1.sublist hsub, fun b hb => by have := HND.out.2 b (hsub.subset hb); omega, hbf⟩
      · show _ = Ending.returned (.agg #[.int .i64 1, .string (trimD n.data), .slice none (endP _).length 0, .int .i64 0, .int .i64 0, .slice none 0 0])
        rw [endP_length] <;> rfl
      · refine ⟨?_, bs4, [], (List.append_nil _).symm, hot.frame _ _ _ _ _ (fun b hb => hkf b (by have := HND.out.2 b (hsub.subset hb); omega)), OwS.nil _ _⟩
        show (trimD n.data).size ≤ maxLen
        have l1 := trimD_size n.data
        have l2 := tw_le n.data.data.toList
        have l3 : n.data.data.toList.length = n.data.size := by simp
        omega
    · go_wp2_with (first | (go_at_call 70; go_must (refine (HTR.out _).mono ?_); rintro e w' ⟨rfl, rfl⟩) | (go_at_call 71; go_must (refine HLS.out.mono ?_); rintro e w' ⟨rfl, rfl⟩))
      obtain ⟨wf, hwf, hrw, hbf, hkf⟩ := fin6w HZ1.out HB1.out (by omega) (.int .i64 1) (.string (trimD n.data)) (.slice (some ⟨g, 0, none⟩) (endC PL) c1) (.int .i64 0) (.int .i64 0) (.slice none 0 0)
      rw [hwf]
      obtain ⟨e0, e1, e2, e3, e4, e5⟩ := cells6 hrw
      obtain ⟨bs4, hot, hsub⟩ := HSN.out
      refine bodyPost_ret (v := .agg #[.int .i64 1, .string (trimD n.data), .slice (some ⟨g, 0, none⟩) (endC PL) c1, .int .i64 0, .int .i64 0, .slice none 0 0]) (by simp [results, Tryz.results32, go_sem, e0, e1, e2, e3, e4, e5]) rfl ⟨⟨(some ⟨g, 0, none⟩), c1, none, 0⟩, bs4, ?_, ?_, HND.out.1.sublist hsub, fun b hb => by have := HND.out.2 b (hsub.subset hb); omega, hbf⟩
      · show _ = Ending.returned (.agg #[.int .i64 1, .string (trimD n.data), .slice (some ⟨g, 0, none⟩) (endP _).length c1, .int .i64 0, .int .i64 0, .slice none 0 0])
        rw [endP_length] <;> rfl
      · refine ⟨?_, bs4, [], (List.append_nil _).symm, hot.frame _ _ _ _ _ (fun b hb => hkf b (by have := HND.out.2 b (hsub.subset hb); omega)), OwS.nil _ _⟩
        show (trimD n.data).size ≤ maxLen
        have l1 := trimD_size n.data
        have l2 := tw_le n.data.data.toList
        have l3 : n.data.data.toList.length = n.data.size := by simp
        omega
  · have hk1 : (n.kind == 1) = false := by rw [hk2]; rfl
    have hk2b : (n.kind == 2) = true := by rw [hk2]; rfl
    have hze := HZE.out
    rw [if_neg (by omega)] at hze
    rcases hc with ⟨hs0', hs5, hbb, hp0, hi0⟩ | ⟨hs6, hd0, hpc, hi0⟩ | ⟨hs7, hd0, hp0, hic, hib⟩
    · have hPL := HNL.out.1 (nil_of_len hp0)
      have hIL := HNL.out.2 (nil_of_len hi0)
      rw [hPL, hIL] at hze
      subst hze
      have hz6 : (n.size == 6) = false := by simp; omega
      have hz7 : (n.size == 7) = false := by simp; omega
      clear HP HI HNL HF HDA hPL hIL hp0 hi0 HZE hk2 hs0' hs5 hbb hc2 HX0 HB0 HZ0 hs0
      go_enter Tryz.func32, Tryz.ntmps32
      go_wp2_with fail
      have hrw : ((w.alloc (.cells #[.int .i64 n.kind, .string n.data, .slice qA n.ptrs.length qa, .int .i64 n.size, .int .i64 n.count, .slice qB n.items.length qb] nodeT)).alloc (.cells #[.int .i64 n.kind, .string n.data, .slice none 0 0, .int .i64 n.size, .int .i64 n.count, .slice none 0 0] nodeT)).heap[w.heap.size + 1]? = some (.cells #[.int .i64 n.kind, .string n.data, .slice none 0 0, .int .i64 n.size, .int .i64 n.count, .slice none 0 0] nodeT (0, 0)) := by have := heap_alloc_new (w.alloc (.cells #[.int .i64 n.kind, .string n.data, .slice qA n.ptrs.length qa, .int .i64 n.size, .int .i64 n.count, .slice qB n.items.length qb] nodeT)) (.cells #[.int .i64 n.kind, .string n.data, .slice none 0 0, .int .i64 n.size, .int .i64 n.count, .slice none 0 0] nodeT); rwa [show (w.alloc (.cells #[.int .i64 n.kind, .string n.data, .slice qA n.ptrs.length qa, .int .i64 n.size, .int .i64 n.count, .slice qB n.items.length qb] nodeT)).heap.size = w.heap.size + 1 by simp] at this
      have hbf : Below w.heap.size w ((w.alloc (.cells #[.int .i64 n.kind, .string n.data, .slice qA n.ptrs.length qa, .int .i64 n.size, .int .i64 n.count, .slice qB n.items.length qb] nodeT)).alloc (.cells #[.int .i64 n.kind, .string n.data, .slice none 0 0, .int .i64 n.size, .int .i64 n.count, .slice none 0 0] nodeT)) := ((Below.refl _ w).alloc (Nat.le_refl _) _).alloc (by simp) _
      obtain ⟨e0, e1, e2, e3, e4, e5⟩ := cells6 hrw
      refine bodyPost_ret (v := .agg #[.int .i64 n.kind, .string n.data, .slice none 0 0, .int .i64 n.size, .int .i64 n.count, .slice none 0 0]) (by simp [results, Tryz.results32, go_sem, e0, e1, e2, e3, e4, e5]) rfl ?_
      exact ⟨nHd, [], rfl, ⟨hdm, [], [], rfl, OwS.nil _ _, OwS.nil _ _⟩, List.nodup_nil, fun b h => (by cases h), hbf⟩
    · have hIL := HNL.out.2 (nil_of_len hi0)
      have hnd : n.data = ⟨#[]⟩ := data_nil hd0
      rw [hIL, hk2, hnd] at hze
      subst hze
      have hz6 : (n.size == 6) = true := by rw [hs6]; rfl
      clear HI HNL HF HDA hIL hi0 HZE hk2 hc2 hs6 hpc hd0 hnd hpl
      go_enter Tryz.func32, Tryz.ntmps32
      go_wp2_with fail
      generalize ((w.alloc (.cells #[.int .i64 n.kind, .string n.data, .slice qA n.ptrs.length qa, .int .i64 n.size, .int .i64 n.count, .slice qB n.items.length qb] nodeT)).alloc (.cells #[.int .i64 0, .string { data := #[] }, .slice none 0 0, .int .i64 0, .int .i64 0, .slice none 0 0] nodeT)) = W0 at *
      have hbd : Below W0.heap.size W0 W0.drew := Below.mk rfl rfl rfl (Nat.le_refl _) (fun _ _ => rfl)
      obtain ⟨a0, a1, a2, a3, a4, a5⟩ := cells6 HX0.out
      go_region_with (go_at_call 69; (with_reducible refine (HP.out _ (by exact HB0.out.trans (hbd.mono HB0.out.size))).mono ?_); rintro e w1 ⟨A1, c1, bs1, rfl, hown1, hnd1, hge1, hb1⟩; have hbw : Below W0.heap.size W0 w1 := hbd.trans (hb1.mono hbd.size); have hz1 := (hbw.block _ (row_lt HZ0.out)).trans HZ0.out; obtain ⟨q0, q1, q2, q3, q4, q5⟩ := cells6 ((hbw.block _ (row_lt HX0.out)).trans HX0.out); obtain ⟨z0, z1, z2, z3, z4, z5⟩ := cells6 hz1; have zf := row_free hz1; have hd0 : W0.drew.heap.size = W0.heap.size := rfl)
      all_goals
        have HB1 := Lib.hid (HB0.out.trans (hbw.mono HB0.out.size))
        have HZ1 := Lib.hid hz1
        have HOW := Lib.hid hown1
        have HND := Lib.hid (And.intro hnd1 hge1)
        clear hown1 hnd1 hge1 hb1 hbw hz1 q0 q1 q2 q3 q4 q5 z0 z1 z2 z3 z4 z5 zf a0 a1 a2 a3 a4 a5
        go_wp2_with fail
        obtain ⟨wf, hwf, hrw, hbf, hkf⟩ := fin6w HZ1.out HB1.out (by omega) (.int .i64 2) (.string ⟨#[]⟩) (.slice A1 PL.length c1) (.int .i64 n.size) (.int .i64 n.count) (.slice none 0 0)
        rw [hwf]
        obtain ⟨e0, e1, e2, e3, e4, e5⟩ := cells6 hrw
        refine bodyPost_ret (v := .agg #[.int .i64 2, .string ⟨#[]⟩, .slice A1 PL.length c1, .int .i64 n.size, .int .i64 n.count, .slice none 0 0]) (by simp [results, Tryz.results32, go_sem, e0, e1, e2, e3, e4, e5]) rfl ?_
        have hfr : ∀ b ∈ bs1, wf.heap[b]? = w1.heap[b]? := fun b hb => hkf b (by have := HND.out.2 b hb; omega)
        exact ⟨⟨A1, c1, none, 0⟩, bs1, rfl, ⟨(by decide : (0 : Nat) ≤ maxLen), bs1, [], (List.append_nil _).symm, HOW.out.frame _ _ _ _ _ hfr, OwS.nil _ _⟩, HND.out.1, fun b hb => by have := HND.out.2 b hb; omega, hbf⟩

    · have hPL := HNL.out.1 (nil_of_len hp0)
      have hnd : n.data = ⟨#[]⟩ := data_nil hd0
      rw [hPL, hk2, hnd] at hze
      subst hze
      have hz6 : (n.size == 6) = false := by rw [hs7]; rfl
      have hz7 : (n.size == 7) = true := by rw [hs7]; rfl
      clear HP HNL HF HDA hPL hp0 HZE hk2 hc2 hs7 hic hib hd0 hnd hpl
      generalize evenL IL = EL at *
      go_enter Tryz.func32, Tryz.ntmps32
      go_wp2_with fail
      generalize ((w.alloc (.cells #[.int .i64 n.kind, .string n.data, .slice qA n.ptrs.length qa, .int .i64 n.size, .int .i64 n.count, .slice qB n.items.length qb] nodeT)).alloc (.cells #[.int .i64 0, .string { data := #[] }, .slice none 0 0, .int .i64 0, .int .i64 0, .slice none 0 0] nodeT)) = W0 at *
      have hbd : Below W0.heap.size W0 W0.drew := Below.mk rfl rfl rfl (Nat.le_refl _) (fun _ _ => rfl)
      obtain ⟨a0, a1, a2, a3, a4, a5⟩ := cells6 HX0.out
      go_region_with (go_at_call 72; (with_reducible refine (HI.out _ (by exact HB0.out.trans (hbd.mono HB0.out.size))).mono ?_); rintro e w1 ⟨A1, c1, bs1, rfl, hown1, hnd1, hge1, hb1⟩; have hbw : Below W0.heap.size W0 w1 := hbd.trans (hb1.mono hbd.size); have hz1 := (hbw.block _ (row_lt HZ0.out)).trans HZ0.out; obtain ⟨q0, q1, q2, q3, q4, q5⟩ := cells6 ((hbw.block _ (row_lt HX0.out)).trans HX0.out); obtain ⟨z0, z1, z2, z3, z4, z5⟩ := cells6 hz1; have zf := row_free hz1; have hd0 : W0.drew.heap.size = W0.heap.size := rfl)
      all_goals
        have HB1 := Lib.hid (HB0.out.trans (hbw.mono HB0.out.size))
        have HZ1 := Lib.hid hz1
        have HOW := Lib.hid hown1
        have HND := Lib.hid (And.intro hnd1 hge1)
        clear hown1 hnd1 hge1 hb1 hbw hz1 q0 q1 q2 q3 q4 q5 z0 z1 z2 z3 z4 z5 zf a0 a1 a2 a3 a4 a5
        go_wp2_with fail
        obtain ⟨wf, hwf, hrw, hbf, hkf⟩ := fin6w HZ1.out HB1.out (by omega) (.int .i64 2) (.string ⟨#[]⟩) (.slice none 0 0) (.int .i64 n.size) (.int .i64 n.count) (.slice A1 EL.length c1)
        rw [hwf]
        obtain ⟨e0, e1, e2, e3, e4, e5⟩ := cells6 hrw
        refine bodyPost_ret (v := .agg #[.int .i64 2, .string ⟨#[]⟩, .slice none 0 0, .int .i64 n.size, .int .i64 n.count, .slice A1 EL.length c1]) (by simp [results, Tryz.results32, go_sem, e0, e1, e2, e3, e4, e5]) rfl ?_
        have hfr : ∀ b ∈ bs1, wf.heap[b]? = w1.heap[b]? := fun b hb => hkf b (by have := HND.out.2 b hb; omega)
        exact ⟨⟨none, 0, A1, c1⟩, bs1, rfl, ⟨(by decide : (0 : Nat) ≤ maxLen), [], bs1, rfl, OwS.nil _ _, HOW.out.frame _ _ _ _ _ hfr⟩, HND.out.1, fun b hb => by have := HND.out.2 b hb; omega, hbf⟩

theorem spP_any : ∀ m, SpP m
  | 0 => spP_of 0 (fun j h => by cases h)
  | m + 1 => spP_of (m + 1) (fun j h => by obtain rfl : m = j := by omega
                                           exact spN_of m (spP_any m) (spI_of m (fun i hi => by
                                             cases m with
                                             | zero => cases hi
                                             | succ k => obtain rfl : k = i := by omega
                                                         exact spP_any k)))
theorem spI_any (m : Nat) : SpI m := spI_of m (fun j _ => spP_any j)
theorem spN_any (m : Nat) : SpN m := spN_of m (spP_any m) (spI_any m)
end Go.Proofs.YtbijfkpilncclaaGreat

/- The program's Canon. -/
namespace Go.Proofs.YtbijfkpilncclaaGreat
open Go.RowKit Go.Deep
/-- what Canon answers. -/
def canX (n : Nd) : Nd := if nodeOk n = true then canN n else noneNd
set_option maxHeartbeats 8000000 in
set_option maxRecDepth 100000 in
theorem implCanon_a (m : Nat) (n : Nd) (h : Hd) (w : World) (S : Nat → Prop) (hn : NdAt w S m n h) (ht : totN m n ≤ 2000000) :
    Calls Tryz.prog 35 #[.agg #[.int .i64 n.kind, .string n.data, .slice h.A n.ptrs.length h.a, .int .i64 n.size, .int .i64 n.count, .slice h.B n.items.length h.b]] w (NewO (m + 1) (canX n) w) := by
  have HO : Hid (∀ W : World, Below w.heap.size w W → Calls Tryz.prog 33 #[.agg #[.int .i64 n.kind, .string n.data, .slice h.A n.ptrs.length h.a, .int .i64 n.size, .int .i64 n.count, .slice h.B n.items.length h.b]] W fun e w' => e = .returned (.bool (nodeOk n)) ∧ Below W.heap.size W w') := Lib.hid fun W hW => implNodeOk_a m n h W S (hn.below hW) ht
  have HF : Hid (nodeOk n = true → ∀ W : World, Below w.heap.size w W → Calls Tryz.prog 74 #[.agg #[.int .i64 n.kind, .string n.data, .slice h.A n.ptrs.length h.a, .int .i64 n.size, .int .i64 n.count, .slice h.B n.items.length h.b], .func (.func 74) #[] #[]] W (NewO (m + 1) (canN n) W)) := Lib.hid fun hok W hW => foN_any m n h W S (hn.below hW) hok (by rw [← totN_siz hn]; exact ht)
  have hb0 : Below w.heap.size w ((w.alloc (.cells #[.int .i64 n.kind, .string n.data, .slice h.A n.ptrs.length h.a, .int .i64 n.size, .int .i64 n.count, .slice h.B n.items.length h.b] nodeT)).alloc (.cells #[.int .i64 0, .string { data := #[] }, .slice none 0 0, .int .i64 0, .int .i64 0, .slice none 0 0] nodeT)) := ((Below.refl _ w).alloc (Nat.le_refl _) _).alloc (by simp) _
  have hx0 : ((w.alloc (.cells #[.int .i64 n.kind, .string n.data, .slice h.A n.ptrs.length h.a, .int .i64 n.size, .int .i64 n.count, .slice h.B n.items.length h.b] nodeT)).alloc (.cells #[.int .i64 0, .string { data := #[] }, .slice none 0 0, .int .i64 0, .int .i64 0, .slice none 0 0] nodeT)).heap[w.heap.size]? = some (.cells #[.int .i64 n.kind, .string n.data, .slice h.A n.ptrs.length h.a, .int .i64 n.size, .int .i64 n.count, .slice h.B n.items.length h.b] nodeT (0, 0)) := heap_alloc_keep (heap_alloc_new w _) _
  have hz0 : ((w.alloc (.cells #[.int .i64 n.kind, .string n.data, .slice h.A n.ptrs.length h.a, .int .i64 n.size, .int .i64 n.count, .slice h.B n.items.length h.b] nodeT)).alloc (.cells #[.int .i64 0, .string { data := #[] }, .slice none 0 0, .int .i64 0, .int .i64 0, .slice none 0 0] nodeT)).heap[w.heap.size + 1]? = some (.cells #[.int .i64 0, .string { data := #[] }, .slice none 0 0, .int .i64 0, .int .i64 0, .slice none 0 0] nodeT (0, 0)) := by have := heap_alloc_new (w.alloc (.cells #[.int .i64 n.kind, .string n.data, .slice h.A n.ptrs.length h.a, .int .i64 n.size, .int .i64 n.count, .slice h.B n.items.length h.b] nodeT)) (.cells #[.int .i64 0, .string { data := #[] }, .slice none 0 0, .int .i64 0, .int .i64 0, .slice none 0 0] nodeT); rwa [show (w.alloc (.cells #[.int .i64 n.kind, .string n.data, .slice h.A n.ptrs.length h.a, .int .i64 n.size, .int .i64 n.count, .slice h.B n.items.length h.b] nodeT)).heap.size = w.heap.size + 1 by simp] at this
  have hs0 : ((w.alloc (.cells #[.int .i64 n.kind, .string n.data, .slice h.A n.ptrs.length h.a, .int .i64 n.size, .int .i64 n.count, .slice h.B n.items.length h.b] nodeT)).alloc (.cells #[.int .i64 0, .string { data := #[] }, .slice none 0 0, .int .i64 0, .int .i64 0, .slice none 0 0] nodeT)).heap.size = w.heap.size + 2 := by simp
  have HB0 := Lib.hid hb0
  have HX0 := Lib.hid hx0
  have HZ0 := Lib.hid hz0
  obtain ⟨Z0, hZ0⟩ : ∃ Z0, Z0 = canX n := ⟨_, rfl⟩
  rw [← hZ0]
  have HZE : Hid (Z0 = if nodeOk n = true then canN n else noneNd) := Lib.hid hZ0
  clear hb0 hx0 hz0 hn ht hZ0
  unfold NewO at HF
  go_enter Tryz.func35, Tryz.ntmps35
  go_wp2_with fail
  generalize ((w.alloc (.cells #[.int .i64 n.kind, .string n.data, .slice h.A n.ptrs.length h.a, .int .i64 n.size, .int .i64 n.count, .slice h.B n.items.length h.b] nodeT)).alloc (.cells #[.int .i64 0, .string { data := #[] }, .slice none 0 0, .int .i64 0, .int .i64 0, .slice none 0 0] nodeT)) = W0 at *
  refine (HO.out _ HB0.out).mono ?_
  rintro e w1 ⟨rfl, hb1⟩
  have HB1 := Lib.hid (HB0.out.trans (hb1.mono HB0.out.size))
  have HX1 := Lib.hid ((hb1.block _ (row_lt HX0.out)).trans HX0.out)
  have HZ1 := Lib.hid ((hb1.block _ (row_lt HZ0.out)).trans HZ0.out)
  have hs1 := hb1.size
  clear hb1 HX0 HZ0 HB0
  cases hok : nodeOk n
  · have hze := HZE.out
    rw [if_neg (by rw [hok]; decide)] at hze
    subst hze
    clear hok HF HO
    obtain ⟨z0, z1, z2, z3, z4, z5⟩ := cells6 HZ1.out
    have zf := row_free HZ1.out
    go_wp2_with fail
    obtain ⟨wf, hwf, hrw, hbf, hkf⟩ := fin6w HZ1.out HB1.out (by omega) (.int .i64 0) (.string ⟨#[]⟩) (.slice none 0 0) (.int .i64 0) (.int .i64 0) (.slice none 0 0)
    rw [hwf]
    obtain ⟨e0, e1, e2, e3, e4, e5⟩ := cells6 hrw
    exact bodyPost_ret (v := .agg #[.int .i64 0, .string ⟨#[]⟩, .slice none 0 0, .int .i64 0, .int .i64 0, .slice none 0 0]) (by simp [results, Tryz.results35, go_sem, e0, e1, e2, e3, e4, e5]) rfl ⟨nHd, [], rfl, OwN.none wf (m + 1), List.nodup_nil, fun b h => (by cases h), hbf⟩
  · have hze := HZE.out
    rw [if_pos hok] at hze
    rw [← hze] at HF
    have HC := Lib.hid (HF.out hok)
    clear HF HO hze hok HZE
    obtain ⟨a0, a1, a2, a3, a4, a5⟩ := cells6 HX1.out
    go_wp2_with fail
    clear a0 a1 a2 a3 a4 a5
    refine (HC.out _ HB1.out).mono ?_
    rintro e w2 ⟨hy, bs, rfl, hown, hnd, hge, hb2⟩
    have HZ2 := Lib.hid ((hb2.block _ (row_lt HZ1.out)).trans HZ1.out)
    have HB2 := Lib.hid (HB1.out.trans (hb2.mono HB1.out.size))
    have HOW := Lib.hid hown
    have HND := Lib.hid (And.intro hnd hge)
    obtain ⟨z0, z1, z2, z3, z4, z5⟩ := cells6 HZ2.out
    have zf := row_free HZ2.out
    clear hb2 hown hnd hge
    go_wp2_with fail
    obtain ⟨wf, hwf, hrw, hbf, hkf⟩ := fin6w HZ2.out HB2.out (by omega) (.int .i64 Z0.kind) (.string Z0.data) (.slice hy.A Z0.ptrs.length hy.a) (.int .i64 Z0.size) (.int .i64 Z0.count) (.slice hy.B Z0.items.length hy.b)
    rw [hwf]
    obtain ⟨e0, e1, e2, e3, e4, e5⟩ := cells6 hrw
    exact bodyPost_ret (v := .agg #[.int .i64 Z0.kind, .string Z0.data, .slice hy.A Z0.ptrs.length hy.a, .int .i64 Z0.size, .int .i64 Z0.count, .slice hy.B Z0.items.length hy.b]) (by simp [results, Tryz.results35, go_sem, e0, e1, e2, e3, e4, e5]) rfl ⟨hy, bs, rfl, HOW.out.frame (fun b hb => hkf b (by have := HND.out.2 b hb; omega)), HND.out.1, fun b hb => by have := HND.out.2 b hb; omega, hbf⟩
end Go.Proofs.YtbijfkpilncclaaGreat
