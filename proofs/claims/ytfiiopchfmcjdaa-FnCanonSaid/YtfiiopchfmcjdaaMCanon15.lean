/- Texts of the proof of the law FnCanon, side by side: part 15. -/
import Derived.Test.YtfiiopchfmcjdaaMCanon00
import Derived.Test.YtfiiopchfmcjdaaMCanon01
import Derived.Test.YtfiiopchfmcjdaaMCanon02
import Derived.Test.YtfiiopchfmcjdaaMCanon03
import Derived.Test.YtfiiopchfmcjdaaMCanon04
import Derived.Test.YtfiiopchfmcjdaaMCanon05
import Derived.Test.YtfiiopchfmcjdaaMCanon06
import Derived.Test.YtfiiopchfmcjdaaMCanon07
import Derived.Test.YtfiiopchfmcjdaaMCanon08
import Derived.Test.YtfiiopchfmcjdaaMCanon09
import Derived.Test.YtfiiopchfmcjdaaMCanon10
import Derived.Test.YtfiiopchfmcjdaaMCanon11
import Derived.Test.YtfiiopchfmcjdaaMCanon12
import Derived.Test.YtfiiopchfmcjdaaMCanon13
import Derived.Test.YtfiiopchfmcjdaaMCanon14
/- The program's one form: of any node that is ok. -/
namespace Go.Proofs.Ytfiiopchfmcjdaa
open Go.RowKit Go.Deep
theorem OwS.empty {w : World} {m k c : Nat} {A : Option Addr} {bs : List Nat} (h : OwS w (m + 1) A c [] bs) : OwS w (k + 1) A c [] bs := by
  obtain ⟨q, hq, ho, hb, hr⟩ := h
  obtain rfl : q = [] := by cases q with
    | nil => rfl
    | cons a t => cases hq
  exact ⟨[], rfl, ho, hb, fun r h => by cases h⟩
theorem evened_a (m : Nat) (A : Option Addr) (c : Nat) (l : List Nd) (bs : List Nat) (w : World) (hown : OwS w (m + 1) A c l bs) (hnd : bs.Nodup) (hm : m = 0 → l = []) (hD : ∀ n ∈ l, n.data.size ≤ 2000) (hP : ∀ n ∈ l, n.ptrs.length ≤ 1000000) (hlm : l.length ≤ 2000000) :
    Calls Try.prog 47 #[.slice A l.length c] w (EvP A c l m bs w) := by
  rcases own_cap hown with ⟨rfl, rfl, rfl⟩ | ⟨⟨g, rfl⟩, _⟩
  · obtain ⟨q, hq, ho, hb, hr⟩ := hown
    obtain rfl : q = [] := by cases q with
      | nil => rfl
      | cons a t => cases hq
    exact evened_none 0 m bs w rfl hb
  · cases m with
    | zero =>
      obtain rfl := hm rfl
      refine (evened_some 0 g c [] bs w (hown.succ _ _ _ _ _) hnd hD hP hlm).mono ?_
      rintro e w' ⟨he, bs', h1, h2, h3, h4⟩
      exact ⟨he, bs', h1.empty, h2, h3, h4⟩
    | succ m => exact evened_some m g c l bs w hown hnd hD hP hlm
theorem ok_small {n : Nd} (h : nodeOk n = true) : n.ptrs.length ≤ 199 := by
  obtain ⟨h1, h2⟩ := node_ok h
  rw [words_kids h1] at h2
  have h3 : n.ptrs.length ≤ ownN n := by unfold ownN ownB; omega
  omega
theorem can_item_small {n : Nd} (h : nodeOk n = true) : ∀ z ∈ n.items.map canN, z.data.size ≤ 2000 ∧ z.ptrs.length ≤ 1000000 := by
  intro z hz
  obtain ⟨y, hy, rfl⟩ := List.mem_map.1 hz
  have hoy := ok_item h y hy
  have hk := (item_form (ok_kids (node_ok h).1).1 y hy).2.1
  obtain ⟨h8, hs⟩ := ok_data hoy hk
  have hp := ok_small hoy
  rw [canN_eq, hk]
  have l1 := trimD_size y.data
  have l2 := tw_le y.data.data.toList
  have l3 : y.data.data.toList.length = y.data.size := by simp
  have l4 := endC_le (y.ptrs.map canN)
  have l5 := endP_length (y.ptrs.map canN)
  rw [List.length_map] at l4
  refine ⟨?_, ?_⟩
  · show (trimD y.data).size ≤ 2000; omega
  · show (endP (y.ptrs.map canN)).length ≤ 1000000; omega
theorem items_le {n : Nd} : n.items.length ≤ sizN n := by
  rw [sizN_eq]
  have := sizL_len n.items
  omega
set_option maxHeartbeats 8000000 in
set_option maxRecDepth 100000 in
theorem foN_of (m : Nat) (hS : FaS m) : FoN m := by
  intro n h w S hn hok hsz
  obtain ⟨qA, qa, qB, qb⟩ := h
  have hz1 : sizL n.ptrs ≤ 2000000 := by rw [sizN_eq] at hsz; omega
  have hz2 : sizL n.items ≤ 2000000 := by rw [sizN_eq] at hsz; omega
  have hil : n.items.length ≤ 2000000 := Nat.le_trans items_le hsz
  have HM0 : Hid (m = 0 → n.items.map canN = []) := Lib.hid fun h0 => by
    subst h0
    have : n.items = [] := (show NdsAt w S 0 qB n.items from hn.2.2).zero
    rw [this]; rfl
  have HSM := Lib.hid (can_item_small hok)
  have HPL : Hid ((n.ptrs.map canN).length ≤ 2000000) := Lib.hid (by rw [List.length_map]; have := ok_small hok; omega)
  have HIL : Hid ((n.items.map canN).length ≤ 2000000) := Lib.hid (by rw [List.length_map]; exact hil)
  have HDA : Hid (n.kind = 1 → n.data.size % 8 = 0 ∧ n.data.size ≤ 1600) := Lib.hid fun hk => by have := ok_data hok hk; omega
  have HP : Hid (∀ W : World, Below w.heap.size w W → Calls Try.prog 46 #[.slice qA n.ptrs.length qa, .func (.func 25) #[] #[]] W (NewOS (m + 1) (n.ptrs.map canN) W)) := Lib.hid fun W hW => hS qA qa n.ptrs W S ((show NdsAt w S m qA n.ptrs from hn.2.1).below hW) (ok_ptr hok) hz1
  have HI : Hid (∀ W : World, Below w.heap.size w W → Calls Try.prog 46 #[.slice qB n.items.length qb, .func (.func 25) #[] #[]] W (NewOS (m + 1) (n.items.map canN) W)) := Lib.hid fun W hW => hS qB qb n.items W S ((show NdsAt w S m qB n.items from hn.2.2).below hW) (ok_item hok) hz2
  have hdm : n.data.size ≤ maxLen := hn.1
  have hcan := canN_eq n
  unfold formT at hcan
  obtain ⟨Z0, hZ0⟩ : ∃ Z0, Z0 = canN n := ⟨_, rfl⟩
  rw [← hZ0]
  have HZE := Lib.hid (hZ0.trans hcan)
  clear hcan hZ0 hn hok hsz hz1 hz2 hil hS
  unfold NewOS at HP HI
  generalize n.ptrs.map canN = PL at *
  generalize n.items.map canN = IL at *
  have hb0 : Below w.heap.size w ((w.alloc (.cells #[.int .i64 n.kind, .string n.data, .slice qA n.ptrs.length qa, .int .i64 n.size, .int .i64 n.count, .slice qB n.items.length qb] nodeT)).alloc (.cells #[.int .i64 0, .string { data := #[] }, .slice none 0 0, .int .i64 0, .int .i64 0, .slice none 0 0] nodeT)) := ((Below.refl _ w).alloc (Nat.le_refl _) _).alloc (by simp) _
  have hx0 : ((w.alloc (.cells #[.int .i64 n.kind, .string n.data, .slice qA n.ptrs.length qa, .int .i64 n.size, .int .i64 n.count, .slice qB n.items.length qb] nodeT)).alloc (.cells #[.int .i64 0, .string { data := #[] }, .slice none 0 0, .int .i64 0, .int .i64 0, .slice none 0 0] nodeT)).heap[w.heap.size]? = some (.cells #[.int .i64 n.kind, .string n.data, .slice qA n.ptrs.length qa, .int .i64 n.size, .int .i64 n.count, .slice qB n.items.length qb] nodeT (0, 0)) := heap_alloc_keep (heap_alloc_new w _) _
  have hz0 : ((w.alloc (.cells #[.int .i64 n.kind, .string n.data, .slice qA n.ptrs.length qa, .int .i64 n.size, .int .i64 n.count, .slice qB n.items.length qb] nodeT)).alloc (.cells #[.int .i64 0, .string { data := #[] }, .slice none 0 0, .int .i64 0, .int .i64 0, .slice none 0 0] nodeT)).heap[w.heap.size + 1]? = some (.cells #[.int .i64 0, .string { data := #[] }, .slice none 0 0, .int .i64 0, .int .i64 0, .slice none 0 0] nodeT (0, 0)) := by have := heap_alloc_new (w.alloc (.cells #[.int .i64 n.kind, .string n.data, .slice qA n.ptrs.length qa, .int .i64 n.size, .int .i64 n.count, .slice qB n.items.length qb] nodeT)) (.cells #[.int .i64 0, .string { data := #[] }, .slice none 0 0, .int .i64 0, .int .i64 0, .slice none 0 0] nodeT); rwa [show (w.alloc (.cells #[.int .i64 n.kind, .string n.data, .slice qA n.ptrs.length qa, .int .i64 n.size, .int .i64 n.count, .slice qB n.items.length qb] nodeT)).heap.size = w.heap.size + 1 by simp] at this
  have hs0 : ((w.alloc (.cells #[.int .i64 n.kind, .string n.data, .slice qA n.ptrs.length qa, .int .i64 n.size, .int .i64 n.count, .slice qB n.items.length qb] nodeT)).alloc (.cells #[.int .i64 0, .string { data := #[] }, .slice none 0 0, .int .i64 0, .int .i64 0, .slice none 0 0] nodeT)).heap.size = w.heap.size + 2 := by simp
  have HB0 := Lib.hid hb0
  have HX0 := Lib.hid hx0
  have HZ0 := Lib.hid hz0
  clear hb0 hx0 hz0
  go_enter Try.func25, Try.ntmps25
  go_wp2_with fail
  generalize ((w.alloc (.cells #[.int .i64 n.kind, .string n.data, .slice qA n.ptrs.length qa, .int .i64 n.size, .int .i64 n.count, .slice qB n.items.length qb] nodeT)).alloc (.cells #[.int .i64 0, .string { data := #[] }, .slice none 0 0, .int .i64 0, .int .i64 0, .slice none 0 0] nodeT)) = W0 at *
  refine (HP.out _ HB0.out).mono ?_
  rintro e w1 ⟨A1, c1, bs1, rfl, hown1, hnd1, hge1, hb1⟩
  have hx1 := (hb1.block _ (row_lt HX0.out)).trans HX0.out
  have hz1 := (hb1.block _ (row_lt HZ0.out)).trans HZ0.out
  have hs1 := hb1.size
  have hb1' := HB0.out.trans (hb1.mono HB0.out.size)
  have HX2 := Lib.hid (row_setN hx1 2 (.slice A1 PL.length c1))
  have HZ2 := Lib.hid ((Below.heap_setCell w1 ⟨w.heap.size, 2, none⟩ (.slice A1 PL.length c1) (w.heap.size + 1) (by simp)).trans hz1)
  have HB2 := Lib.hid (hb1'.setCell (p := ⟨w.heap.size, 2, none⟩) (Nat.le_refl _) (.slice A1 PL.length c1))
  have HO2 := Lib.hid (hown1.frame (w' := w1.setCell ⟨w.heap.size, 2, none⟩ (.slice A1 PL.length c1)) _ _ _ _ _ (fun b hb => Below.heap_setCell w1 ⟨w.heap.size, 2, none⟩ _ b (by have := hge1 b hb; show b ≠ w.heap.size; omega)))
  have HN2 := Lib.hid (And.intro hnd1 hge1)
  have hs2 : (w1.setCell ⟨w.heap.size, 2, none⟩ (.slice A1 PL.length c1)).heap.size = w1.heap.size := by simp [World.setCell]
  obtain ⟨a0, a1, a2, a3, a4, a5⟩ := cells6 hx1
  have f1 := row_free hx1 2
  obtain ⟨b0, b1, b2, b3, b4, b5⟩ := cells6 HX2.out
  clear hown1 hnd1 hge1 hb1 hx1 hz1 hb1' HX0 HZ0 HB0
  go_wp2_with fail
  clear a0 a1 a2 a3 a4 a5 f1 b0 b1 b2 b3 b4 b5
  generalize w1.setCell ⟨w.heap.size, 2, none⟩ (.slice A1 PL.length c1) = W2 at *
  refine (HI.out _ HB2.out).mono ?_
  rintro e w3 ⟨A2, c2, bs2, rfl, hown3, hnd3, hge3, hb3⟩
  have HX3 := Lib.hid ((hb3.block _ (row_lt HX2.out)).trans HX2.out)
  have HZ3 := Lib.hid ((hb3.block _ (row_lt HZ2.out)).trans HZ2.out)
  have hs3 := hb3.size
  have HB3 := Lib.hid (HB2.out.trans (hb3.mono HB2.out.size))
  have HO3 := Lib.hid (HO2.out.below hb3)
  have HLT2 := Lib.hid (fun b hb => (HO2.out.lt _ _ _ _ _ b hb).1)
  have HE3 := Lib.hid (evened_a m A2 c2 IL bs2 w3 hown3 hnd3 HM0.out (fun z hz => (HSM.out z hz).1) (fun z hz => (HSM.out z hz).2) HIL.out)
  have HN3 := Lib.hid hge3
  clear hown3 hnd3 hge3 hb3
  unfold EvP at HE3
  go_wp2_with fail
  refine HE3.out.mono ?_
  rintro e w4 ⟨rfl, bs3, hown4, hnd4, hin4, ho4⟩
  have hgeb : ∀ b ∈ bs2, W2.heap.size ≤ b := HN3.out
  have hb4 : Below W2.heap.size w3 w4 := ho4.below hs3 hgeb
  have hx4 := (hb4.block _ (row_lt HX2.out)).trans HX3.out
  have hz4 := (hb4.block _ (row_lt HZ2.out)).trans HZ3.out
  have hs4 := ho4.size
  have hb4' := HB3.out.trans (hb4.mono (by omega))
  have hge4 : ∀ b ∈ bs3, W2.heap.size ≤ b := fun b hb => by
    rcases hin4 b hb with h | h
    · exact hgeb b h
    · omega
  have ho1 := HO3.out.frame (w' := w4) _ _ _ _ _ (fun b hb => hb4.block b (HLT2.out b hb))
  have HX5 := Lib.hid (row_setN hx4 5 (.slice A2 IL.length c2))
  have HZ5 := Lib.hid ((Below.heap_setCell w4 ⟨w.heap.size, 5, none⟩ (.slice A2 IL.length c2) (w.heap.size + 1) (by simp)).trans hz4)
  have HB5 := Lib.hid (hb4'.setCell (p := ⟨w.heap.size, 5, none⟩) (Nat.le_refl _) (.slice A2 IL.length c2))
  have HO5 := Lib.hid (ho1.frame (w' := w4.setCell ⟨w.heap.size, 5, none⟩ (.slice A2 IL.length c2)) _ _ _ _ _ (fun b hb => Below.heap_setCell w4 ⟨w.heap.size, 5, none⟩ _ b (by have := HN2.out.2 b hb; show b ≠ w.heap.size; omega)))
  have HI5 := Lib.hid (hown4.frame (w' := w4.setCell ⟨w.heap.size, 5, none⟩ (.slice A2 IL.length c2)) _ _ _ _ _ (fun b hb => Below.heap_setCell w4 ⟨w.heap.size, 5, none⟩ _ b (by have := hge4 b hb; show b ≠ w.heap.size; omega)))
  have HND : Hid ((bs1 ++ bs3).Nodup ∧ ∀ b ∈ bs1 ++ bs3, w.heap.size + 2 ≤ b) := Lib.hid ⟨List.nodup_append.2 ⟨HN2.out.1, hnd4, fun a ha b hb e => by have := HLT2.out a ha; have := hge4 b hb; omega⟩, fun b hb => by
    rcases List.mem_append.1 hb with hb | hb
    · have := HN2.out.2 b hb; omega
    · have := hge4 b hb; omega⟩
  obtain ⟨a0, a1, a2, a3, a4, a5⟩ := cells6 hx4
  have f1 := row_free hx4 5
  obtain ⟨b0, b1, b2, b3, b4, b5⟩ := cells6 HX5.out
  clear hown4 hnd4 hin4 ho4 hb4 hx4 hz4 hb4' hge4 ho1 hgeb HX3 HZ3 HB3 HO3 HX2 HZ2 HB2 HO2
  have HLE : Hid ((evenL IL).length = IL.length) := Lib.hid (by unfold evenL; rw [List.length_map])
  by_cases hk : n.kind = 1
  · have hze := HZE.out
    rw [if_pos hk] at hze
    subst hze
    have hkb : (n.kind == 1) = true := by rw [hk]; rfl
    have HWE : Hid (∀ W : World, OwN W (m + 1) (.mk n.kind n.data PL n.size n.count (evenL IL)) ⟨A1, c1, A2, c2⟩ (bs1 ++ bs3) → Calls Try.prog 48 #[.agg #[.int .i64 n.kind, .string n.data, .slice A1 PL.length c1, .int .i64 n.size, .int .i64 n.count, .slice A2 IL.length c2]] W fun e w' => e = .returned (.agg #[.int .i64 n.kind, .string (trimD n.data), .slice A1 (endC PL) c1, .int .i64 n.size, .int .i64 n.count, .slice A2 IL.length c2]) ∧ Below W.heap.size W w') := Lib.hid (fun W hW => by
      have := withoutEnds_a (m + 1) (.mk n.kind n.data PL n.size n.count (evenL IL)) ⟨A1, c1, A2, c2⟩ (bs1 ++ bs3) W hW (HDA.out hk).1 (HDA.out hk).2 HPL.out
      rw [show (Nd.mk n.kind n.data PL n.size n.count (evenL IL)).items.length = IL.length from HLE.out] at this
      exact this)
    clear HDA hk
    go_wp2_with fail
    clear a0 a1 a2 a3 a4 a5 f1 b0 b1 b2 b3 b4 b5
    generalize w4.setCell ⟨w.heap.size, 5, none⟩ (.slice A2 IL.length c2) = W5 at *
    have hcw := HWE.out W5 ⟨hdm, bs1, bs3, rfl, HO5.out, HI5.out⟩
    refine hcw.mono ?_
    rintro e w6 ⟨rfl, hb6⟩
    have HZ6 := Lib.hid ((hb6.block _ (row_lt HZ5.out)).trans HZ5.out)
    have HB6 := Lib.hid (HB5.out.trans (hb6.mono HB5.out.size))
    have HO6 := Lib.hid (HO5.out.below hb6)
    have HI6 := Lib.hid (HI5.out.below hb6)
    obtain ⟨z0, z1, z2, z3, z4, z5⟩ := cells6 HZ6.out
    have zf := row_free HZ6.out
    clear hb6 hcw HO5 HI5 HX5 HZ5 HB5
    go_wp2_with fail
    obtain ⟨wf, hwf, hrw, hbf, hkf⟩ := fin6w HZ6.out HB6.out (by omega) (.int .i64 n.kind) (.string (trimD n.data)) (.slice A1 (endC PL) c1) (.int .i64 n.size) (.int .i64 n.count) (.slice A2 IL.length c2)
    rw [hwf]
    obtain ⟨e0, e1, e2, e3, e4, e5⟩ := cells6 hrw
    obtain ⟨bs4, hot, hsub⟩ := HO6.out.take (endC PL) (endC_le PL)
    refine bodyPost_ret (v := .agg #[.int .i64 n.kind, .string (trimD n.data), .slice A1 (endC PL) c1, .int .i64 n.size, .int .i64 n.count, .slice A2 IL.length c2]) (by simp [results, Try.results25, go_sem, e0, e1, e2, e3, e4, e5]) rfl ⟨⟨A1, c1, A2, c2⟩, bs4 ++ bs3, ?_, ?_, ?_, ?_, hbf⟩
    · show _ = Ending.returned (.agg #[.int .i64 n.kind, .string (trimD n.data), .slice A1 (endP PL).length c1, .int .i64 n.size, .int .i64 n.count, .slice A2 (evenL IL).length c2])
      rw [endP_length, HLE.out]
    · have hfr : ∀ b ∈ bs1 ++ bs3, wf.heap[b]? = w6.heap[b]? := fun b hb => hkf b (by have := HND.out.2 b hb; omega)
      refine ⟨?_, bs4, bs3, rfl, ?_, ?_⟩
      · show (trimD n.data).size ≤ maxLen
        have l1 := trimD_size n.data
        have l2 := tw_le n.data.data.toList
        have l3 : n.data.data.toList.length = n.data.size := by simp
        omega
      · exact hot.frame _ _ _ _ _ (fun b hb => hfr b (List.mem_append_left _ (hsub.subset hb)))
      · exact HI6.out.frame _ _ _ _ _ (fun b hb => hfr b (List.mem_append_right _ hb))
    · exact HND.out.1.sublist (List.Sublist.append hsub (List.Sublist.refl _))
    · intro b hb
      have : b ∈ bs1 ++ bs3 := (List.Sublist.append hsub (List.Sublist.refl _)).subset hb
      have := HND.out.2 b this
      omega
  · have hze := HZE.out
    rw [if_neg hk] at hze
    subst hze
    have hkb : (n.kind == 1) = false := by simpa using hk
    have hz5 := HZ5.out
    obtain ⟨z0, z1, z2, z3, z4, z5⟩ := cells6 hz5
    have zf := row_free hz5
    clear hk HDA hz5
    go_wp2_with fail
    clear a0 a1 a2 a3 a4 a5 f1
    generalize w4.setCell ⟨w.heap.size, 5, none⟩ (.slice A2 IL.length c2) = W5 at *
    obtain ⟨wf, hwf, hrw, hbf, hkf⟩ := fin6w HZ5.out HB5.out (by omega) (.int .i64 n.kind) (.string n.data) (.slice A1 PL.length c1) (.int .i64 n.size) (.int .i64 n.count) (.slice A2 IL.length c2)
    rw [hwf]
    obtain ⟨e0, e1, e2, e3, e4, e5⟩ := cells6 hrw
    refine bodyPost_ret (v := .agg #[.int .i64 n.kind, .string n.data, .slice A1 PL.length c1, .int .i64 n.size, .int .i64 n.count, .slice A2 IL.length c2]) (by simp [results, Try.results25, go_sem, e0, e1, e2, e3, e4, e5]) rfl ⟨⟨A1, c1, A2, c2⟩, bs1 ++ bs3, ?_, ?_, HND.out.1, ?_, hbf⟩
    · show _ = Ending.returned (.agg #[.int .i64 n.kind, .string n.data, .slice A1 PL.length c1, .int .i64 n.size, .int .i64 n.count, .slice A2 (evenL IL).length c2])
      rw [HLE.out]
    · have hfr : ∀ b ∈ bs1 ++ bs3, wf.heap[b]? = W5.heap[b]? := fun b hb => hkf b (by have := HND.out.2 b hb; omega)
      exact ⟨hdm, bs1, bs3, rfl, HO5.out.frame _ _ _ _ _ (fun b hb => hfr b (List.mem_append_left _ hb)), HI5.out.frame _ _ _ _ _ (fun b hb => hfr b (List.mem_append_right _ hb))⟩
    · intro b hb
      have := HND.out.2 b hb
      omega
theorem faS_any : ∀ m, FaS m
  | 0 => faS_of 0 (fun j h => by cases h)
  | m + 1 => faS_of (m + 1) (fun j h => by obtain rfl : m = j := by omega
                                           exact foN_of m (faS_any m))
theorem foN_any (m : Nat) : FoN m := foN_of m (faS_any m)
end Go.Proofs.Ytfiiopchfmcjdaa

/- The program's Canon. -/
namespace Go.Proofs.Ytfiiopchfmcjdaa
open Go.RowKit Go.Deep
/-- what Canon answers. -/
def canX (n : Nd) : Nd := if nodeOk n = true then canN n else noneNd
set_option maxHeartbeats 8000000 in
set_option maxRecDepth 100000 in
theorem implCanon_a (m : Nat) (n : Nd) (h : Hd) (w : World) (S : Nat → Prop) (hn : NdAt w S m n h) (ht : totN m n ≤ 2000000) :
    Calls Try.prog 8 #[.agg #[.int .i64 n.kind, .string n.data, .slice h.A n.ptrs.length h.a, .int .i64 n.size, .int .i64 n.count, .slice h.B n.items.length h.b]] w (NewO (m + 1) (canX n) w) := by
  have HO : Hid (∀ W : World, Below w.heap.size w W → Calls Try.prog 13 #[.agg #[.int .i64 n.kind, .string n.data, .slice h.A n.ptrs.length h.a, .int .i64 n.size, .int .i64 n.count, .slice h.B n.items.length h.b]] W fun e w' => e = .returned (.bool (nodeOk n)) ∧ Below W.heap.size W w') := Lib.hid fun W hW => implNodeOk_a m n h W S (hn.below hW) ht
  have HF : Hid (nodeOk n = true → ∀ W : World, Below w.heap.size w W → Calls Try.prog 25 #[.agg #[.int .i64 n.kind, .string n.data, .slice h.A n.ptrs.length h.a, .int .i64 n.size, .int .i64 n.count, .slice h.B n.items.length h.b], .func (.func 25) #[] #[]] W (NewO (m + 1) (canN n) W)) := Lib.hid fun hok W hW => foN_any m n h W S (hn.below hW) hok (by rw [← totN_siz hn]; exact ht)
  have hb0 : Below w.heap.size w ((w.alloc (.cells #[.int .i64 n.kind, .string n.data, .slice h.A n.ptrs.length h.a, .int .i64 n.size, .int .i64 n.count, .slice h.B n.items.length h.b] nodeT)).alloc (.cells #[.int .i64 0, .string { data := #[] }, .slice none 0 0, .int .i64 0, .int .i64 0, .slice none 0 0] nodeT)) := ((Below.refl _ w).alloc (Nat.le_refl _) _).alloc (by simp) _
  have hx0 : ((w.alloc (.cells #[.int .i64 n.kind, .string n.data, .slice h.A n.ptrs.length h.a, .int .i64 n.size, .int .i64 n.count, .slice h.B n.items.length h.b] nodeT)).alloc (.cells #[.int .i64 0, .string { data := #[] }, .slice none 0 0, .int .i64 0, .int .i64 0, .slice none 0 0] nodeT)).heap[w.heap.size]? = some (.cells #[.int .i64 n.kind, .string n.data, .slice h.A n.ptrs.length h.a, .int .i64 n.size, .int .i64 n.count, .slice h.B n.items.length h.b] nodeT (0, 0)) := heap_alloc_keep (heap_alloc_new w _) _
  have hz0 : ((w.alloc (.cells #[.int .i64 n.kind, .string n.data, .slice h.A n.ptrs.length h.a, .int .i64 n.size, .int .i64 n.count, .slice h.B n.items.length h.b] nodeT)).alloc (.cells #[.int .i64 0, .string { data := #[] }, .slice none 0 0, .int .i64 0, .int .i64 0, .slice none 0 0] nodeT)).heap[w.heap.size + 1]? = some (.cells #[.int .i64 0, .string { data := #[] }, .slice none 0 0, .int .i64 0, .int .i64 0, .slice none 0 0] nodeT (0, 0)) := by have := heap_alloc_new (w.alloc (.cells #[.int .i64 n.kind, .string n.data, .slice h.A n.ptrs.length h.a, .int .i64 n.size, .int .i64 n.count, .slice h.B n.items.length h.b] nodeT)) (.cells #[.int .i64 0, .string { data := #[] }, .slice none 0 0, .int .i64 0, .int .i64 0, .slice none 0 0] nodeT); rwa [show (w.alloc (.cells #[.int .i64 n.kind, .string n.data, .slice h.A n.ptrs.length h.a, .int .i64 n.size, .int .i64 n.count, .slice h.B n.items.length h.b] nodeT)).heap.size = w.heap.size + 1 by simp] at this
  have hs0 : ((w.alloc (.cells #[.int .i64 n.kind, .string n.data, .slice h.A n.ptrs.length h.a, .int .i64 n.size, .int .i64 n.count, .slice h.B n.items.length h.b] nodeT)).alloc (.cells #[.int .i64 0, .string { data := #[] }, .slice none 0 0, .int .i64 0, .int .i64 0, .slice none 0 0] nodeT)).heap.size = w.heap.size + 2 := by simp
  have HB0 := Lib.hid hb0
  have HX0 := Lib.hid hx0
  have HZ0 := Lib.hid hz0
  obtain ⟨Z0, hZ0⟩ : ∃ Z0, Z0 = canX n := ⟨_, rfl⟩
  rw [← hZ0]
  have HZE : Hid (Z0 = if nodeOk n = true then canN n else noneNd) := Lib.hid hZ0
  clear hb0 hx0 hz0 hn ht hZ0
  unfold NewO at HF
  go_enter Try.func8, Try.ntmps8
  go_wp2_with fail
  generalize ((w.alloc (.cells #[.int .i64 n.kind, .string n.data, .slice h.A n.ptrs.length h.a, .int .i64 n.size, .int .i64 n.count, .slice h.B n.items.length h.b] nodeT)).alloc (.cells #[.int .i64 0, .string { data := #[] }, .slice none 0 0, .int .i64 0, .int .i64 0, .slice none 0 0] nodeT)) = W0 at *
  refine (HO.out _ HB0.out).mono ?_
  rintro e w1 ⟨rfl, hb1⟩
  have HB1 := Lib.hid (HB0.out.trans (hb1.mono HB0.out.size))
  have HX1 := Lib.hid ((hb1.block _ (row_lt HX0.out)).trans HX0.out)
  have HZ1 := Lib.hid ((hb1.block _ (row_lt HZ0.out)).trans HZ0.out)
  have hs1 := hb1.size
  clear hb1 HX0 HZ0 HB0
  cases hok : nodeOk n
  · have hze := HZE.out
    rw [if_neg (by rw [hok]; decide)] at hze
    subst hze
    clear hok HF HO
    obtain ⟨z0, z1, z2, z3, z4, z5⟩ := cells6 HZ1.out
    have zf := row_free HZ1.out
    go_wp2_with fail
    obtain ⟨wf, hwf, hrw, hbf, hkf⟩ := fin6w HZ1.out HB1.out (by omega) (.int .i64 0) (.string ⟨#[]⟩) (.slice none 0 0) (.int .i64 0) (.int .i64 0) (.slice none 0 0)
    rw [hwf]
    obtain ⟨e0, e1, e2, e3, e4, e5⟩ := cells6 hrw
    exact bodyPost_ret (v := .agg #[.int .i64 0, .string ⟨#[]⟩, .slice none 0 0, .int .i64 0, .int .i64 0, .slice none 0 0]) (by simp [results, Try.results8, go_sem, e0, e1, e2, e3, e4, e5]) rfl ⟨nHd, [], rfl, OwN.none wf (m + 1), List.nodup_nil, fun b h => (by cases h), hbf⟩
  · have hze := HZE.out
    rw [if_pos hok] at hze
    rw [← hze] at HF
    have HC := Lib.hid (HF.out hok)
    clear HF HO hze hok HZE
    obtain ⟨a0, a1, a2, a3, a4, a5⟩ := cells6 HX1.out
    go_wp2_with fail
    clear a0 a1 a2 a3 a4 a5
    refine (HC.out _ HB1.out).mono ?_
    rintro e w2 ⟨hy, bs, rfl, hown, hnd, hge, hb2⟩
    have HZ2 := Lib.hid ((hb2.block _ (row_lt HZ1.out)).trans HZ1.out)
    have HB2 := Lib.hid (HB1.out.trans (hb2.mono HB1.out.size))
    have HOW := Lib.hid hown
    have HND := Lib.hid (And.intro hnd hge)
    obtain ⟨z0, z1, z2, z3, z4, z5⟩ := cells6 HZ2.out
    have zf := row_free HZ2.out
    clear hb2 hown hnd hge
    go_wp2_with fail
    obtain ⟨wf, hwf, hrw, hbf, hkf⟩ := fin6w HZ2.out HB2.out (by omega) (.int .i64 Z0.kind) (.string Z0.data) (.slice hy.A Z0.ptrs.length hy.a) (.int .i64 Z0.size) (.int .i64 Z0.count) (.slice hy.B Z0.items.length hy.b)
    rw [hwf]
    obtain ⟨e0, e1, e2, e3, e4, e5⟩ := cells6 hrw
    exact bodyPost_ret (v := .agg #[.int .i64 Z0.kind, .string Z0.data, .slice hy.A Z0.ptrs.length hy.a, .int .i64 Z0.size, .int .i64 Z0.count, .slice hy.B Z0.items.length hy.b]) (by simp [results, Try.results8, go_sem, e0, e1, e2, e3, e4, e5]) rfl ⟨hy, bs, rfl, HOW.out.frame (fun b hb => hkf b (by have := HND.out.2 b hb; omega)), HND.out.1, fun b hb => by have := HND.out.2 b hb; omega, hbf⟩
end Go.Proofs.Ytfiiopchfmcjdaa

/- The laws' qnNode: whether two nodes are the same. -/
namespace Go.Proofs.Ytfiiopchfmcjdaa
open Go.RowKit
theorem nd_eq (n n' : Nd) : n = n' ↔ n.kind = n'.kind ∧ n.data = n'.data ∧ n.size = n'.size ∧ n.count = n'.count ∧ n.ptrs = n'.ptrs ∧ n.items = n'.items := by
  cases n
  cases n'
  simp only [Nd.mk.injEq, Nd.kind, Nd.data, Nd.size, Nd.count, Nd.ptrs, Nd.items]
  exact ⟨fun h => ⟨h.1, h.2.1, h.2.2.2.1, h.2.2.2.2.1, h.2.2.1, h.2.2.2.2.2⟩, fun h => ⟨h.1, h.2.1, h.2.2.2.2.1, h.2.2.1, h.2.2.2.1, h.2.2.2.2.2⟩⟩
theorem bool_of {b : Bool} {p : Prop} (h : b = true ↔ p) (hp : p) : b = true := h.2 hp
theorem bool_no {b : Bool} {p : Prop} (h : b = true ↔ p) (hp : ¬ p) : b = false := by cases b; rfl; exact absurd (h.1 rfl) hp
theorem iff_true_of {p : Prop} (hp : p) : (true = true ↔ p) := ⟨fun _ => hp, fun _ => rfl⟩
theorem iff_false_of {p : Prop} (hp : ¬ p) : (false = true ↔ p) := ⟨fun h => (by cases h), fun h => absurd h hp⟩
def QnS (m : Nat) : Prop := ∀ (m' : Nat) (A B : Option Addr) (c c' : Nat) (l l' : List Nd) (w : World) (S S' : Nat → Prop) (b : Bool), NdsAt w S m A l → NdsAt w S' m' B l' → (b = true ↔ l = l') →
  Calls Try.prog 26 #[.slice A l.length c, .slice B l'.length c'] w fun e w' => e = .returned (.bool b) ∧ Below w.heap.size w w'
def QnN (m : Nat) : Prop := ∀ (m' : Nat) (n n' : Nd) (h h' : Hd) (w : World) (S S' : Nat → Prop) (b : Bool), NdAt w S m n h → NdAt w S' m' n' h' → (b = true ↔ n = n') →
  Calls Try.prog 9 #[.agg #[.int .i64 n.kind, .string n.data, .slice h.A n.ptrs.length h.a, .int .i64 n.size, .int .i64 n.count, .slice h.B n.items.length h.b], .agg #[.int .i64 n'.kind, .string n'.data, .slice h'.A n'.ptrs.length h'.a, .int .i64 n'.size, .int .i64 n'.count, .slice h'.B n'.items.length h'.b]] w fun e w' => e = .returned (.bool b) ∧ Below w.heap.size w w'
set_option maxHeartbeats 4000000 in
set_option maxRecDepth 100000 in
theorem qnN_of (m : Nat) (hS : QnS m) : QnN m := by
  intro m' n n' h h' w S S' b hn hn' hb
  have HS := Lib.hid hS
  have hba : Below w.heap.size w ((w.alloc (.cells #[.int .i64 n.kind, .string n.data, .slice h.A n.ptrs.length h.a, .int .i64 n.size, .int .i64 n.count, .slice h.B n.items.length h.b] nodeT)).alloc (.cells #[.int .i64 n'.kind, .string n'.data, .slice h'.A n'.ptrs.length h'.a, .int .i64 n'.size, .int .i64 n'.count, .slice h'.B n'.items.length h'.b] nodeT)) := ((Below.refl _ _).alloc (Nat.le_refl _) _).alloc (by simp) _
  have k1 : ((w.alloc (.cells #[.int .i64 n.kind, .string n.data, .slice h.A n.ptrs.length h.a, .int .i64 n.size, .int .i64 n.count, .slice h.B n.items.length h.b] nodeT)).alloc (.cells #[.int .i64 n'.kind, .string n'.data, .slice h'.A n'.ptrs.length h'.a, .int .i64 n'.size, .int .i64 n'.count, .slice h'.B n'.items.length h'.b] nodeT)).heap[w.heap.size]? = some (.cells #[.int .i64 n.kind, .string n.data, .slice h.A n.ptrs.length h.a, .int .i64 n.size, .int .i64 n.count, .slice h.B n.items.length h.b] nodeT (0, 0)) := (Below.heap_alloc _ _ _ (by simp)).trans (heap_alloc_new w _)
  have k2 : ((w.alloc (.cells #[.int .i64 n.kind, .string n.data, .slice h.A n.ptrs.length h.a, .int .i64 n.size, .int .i64 n.count, .slice h.B n.items.length h.b] nodeT)).alloc (.cells #[.int .i64 n'.kind, .string n'.data, .slice h'.A n'.ptrs.length h'.a, .int .i64 n'.size, .int .i64 n'.count, .slice h'.B n'.items.length h'.b] nodeT)).heap[w.heap.size + 1]? = some (.cells #[.int .i64 n'.kind, .string n'.data, .slice h'.A n'.ptrs.length h'.a, .int .i64 n'.size, .int .i64 n'.count, .slice h'.B n'.items.length h'.b] nodeT (0, 0)) := by have := heap_alloc_new (w.alloc (.cells #[.int .i64 n.kind, .string n.data, .slice h.A n.ptrs.length h.a, .int .i64 n.size, .int .i64 n.count, .slice h.B n.items.length h.b] nodeT)) (.cells #[.int .i64 n'.kind, .string n'.data, .slice h'.A n'.ptrs.length h'.a, .int .i64 n'.size, .int .i64 n'.count, .slice h'.B n'.items.length h'.b] nodeT); rwa [show (w.alloc (.cells #[.int .i64 n.kind, .string n.data, .slice h.A n.ptrs.length h.a, .int .i64 n.size, .int .i64 n.count, .slice h.B n.items.length h.b] nodeT)).heap.size = w.heap.size + 1 by simp] at this
  have HN := Lib.hid (hn.below hba)
  have HN' := Lib.hid (hn'.below hba)
  have hts : ((w.alloc (.cells #[.int .i64 n.kind, .string n.data, .slice h.A n.ptrs.length h.a, .int .i64 n.size, .int .i64 n.count, .slice h.B n.items.length h.b] nodeT)).alloc (.cells #[.int .i64 n'.kind, .string n'.data, .slice h'.A n'.ptrs.length h'.a, .int .i64 n'.size, .int .i64 n'.count, .slice h'.B n'.items.length h'.b] nodeT)).heap.size = w.heap.size + 2 := by simp
  have HBA := Lib.hid hba
  have HK1 := Lib.hid k1
  have HK2 := Lib.hid k2
  have HTS := Lib.hid hts
  have HQ := Lib.hid (hb.trans (nd_eq n n'))
  clear hS hn hn' hba k1 k2 hts hb
  by_cases hx : n.kind = n'.kind
  case neg =>
    have hxb : (n.kind == n'.kind) = false := by simpa using hx
    obtain rfl : b = false := by
      cases b
      · rfl
      · exact absurd (HQ.out.1 rfl).1 hx
    clear hx
    go_enter Try.func9, Try.ntmps9
    go_wp2
    go_ret
    exact ⟨rfl, HBA.out⟩
  have h1b : (n.kind == n'.kind) = true := by simpa using hx
  have H1 := Lib.hid hx
  clear hx
  by_cases hx : n.data = n'.data
  case neg =>
    have hxb : (n.data.toList == n'.data.toList) = false := by rw [toList_eq]; exact decide_eq_false hx
    obtain rfl : b = false := by
      cases b
      · rfl
      · exact absurd (HQ.out.1 rfl).2.1 hx
    clear hx
    go_enter Try.func9, Try.ntmps9
    go_wp2
    go_ret
    exact ⟨rfl, HBA.out⟩
  have h2b : (n.data.toList == n'.data.toList) = true := by rw [toList_eq]; exact decide_eq_true hx
  have H2 := Lib.hid hx
  clear hx
  by_cases hx : n.size = n'.size
  case neg =>
    have hxb : (n.size == n'.size) = false := by simpa using hx
    obtain rfl : b = false := by
      cases b
      · rfl
      · exact absurd (HQ.out.1 rfl).2.2.1 hx
    clear hx
    go_enter Try.func9, Try.ntmps9
    go_wp2
    go_ret
    exact ⟨rfl, HBA.out⟩
  have h3b : (n.size == n'.size) = true := by simpa using hx
  have H3 := Lib.hid hx
  clear hx
  by_cases hx : n.count = n'.count
  case neg =>
    have hxb : (n.count == n'.count) = false := by simpa using hx
    obtain rfl : b = false := by
      cases b
      · rfl
      · exact absurd (HQ.out.1 rfl).2.2.2.1 hx
    clear hx
    go_enter Try.func9, Try.ntmps9
    go_wp2
    go_ret
    exact ⟨rfl, HBA.out⟩
  have h4b : (n.count == n'.count) = true := by simpa using hx
  have H4 := Lib.hid hx
  clear hx
  by_cases hx : n.ptrs = n'.ptrs
  case neg =>
    obtain rfl : b = false := by
      cases b
      · rfl
      · exact absurd (HQ.out.1 rfl).2.2.2.2.1 hx
    have HC := Lib.hid (HS.out m' h.A h'.A h.a h'.a n.ptrs n'.ptrs _ S S' false HN.out.2.1 HN'.out.2.1 (iff_false_of hx))
    clear hx
    go_enter Try.func9, Try.ntmps9
    go_wp2_with fail
    refine HC.out.mono ?_
    rintro e w1 ⟨rfl, hb1⟩
    have HB1 := Lib.hid (HBA.out.trans (hb1.mono HBA.out.size))
    clear hb1
    go_wp2
    go_ret
    exact ⟨rfl, HB1.out⟩
  have H5 := Lib.hid hx
  have HC := Lib.hid (HS.out m' h.A h'.A h.a h'.a n.ptrs n'.ptrs _ S S' true HN.out.2.1 HN'.out.2.1 (iff_true_of hx))
  have H6 : Hid (b = true ↔ n.items = n'.items) := Lib.hid ⟨fun h => (HQ.out.1 h).2.2.2.2.2, fun h => HQ.out.2 ⟨H1.out, H2.out, H3.out, H4.out, H5.out, h⟩⟩
  clear hx
  go_enter Try.func9, Try.ntmps9
  go_wp2_with fail
  generalize ((w.alloc (.cells #[.int .i64 n.kind, .string n.data, .slice h.A n.ptrs.length h.a, .int .i64 n.size, .int .i64 n.count, .slice h.B n.items.length h.b] nodeT)).alloc (.cells #[.int .i64 n'.kind, .string n'.data, .slice h'.A n'.ptrs.length h'.a, .int .i64 n'.size, .int .i64 n'.count, .slice h'.B n'.items.length h'.b] nodeT)) = W at *
  refine HC.out.mono ?_
  rintro e w1 ⟨rfl, hb1⟩
  have HB1 := Lib.hid hb1
  obtain ⟨a0, a1, a2, a3, a4, a5⟩ := cells6 ((hb1.block _ (by have := HTS.out; omega)).trans HK1.out)
  obtain ⟨b0, b1, b2, b3, b4, b5⟩ := cells6 ((hb1.block _ (by have := HTS.out; omega)).trans HK2.out)
  clear hb1
  go_wp2_with fail
  refine (HS.out m' h.B h'.B h.b h'.b n.items n'.items w1 S S' b (HN.out.below HB1.out).2.2 (HN'.out.below HB1.out).2.2 H6.out).mono ?_
  rintro e w2 ⟨rfl, hb2⟩
  have HB2 := Lib.hid (HBA.out.trans ((HB1.out.trans (hb2.mono HB1.out.size)).mono (by have := HTS.out; omega)))
  clear hb2
  go_wp2
  go_ret
  exact ⟨rfl, HB2.out⟩
theorem qnS_zero : QnS 0 := by
  intro m' A B c c' l l' w S S' b hl hl' hb
  obtain rfl := hl.zero
  have hlen := hl'.len
  unfold maxLen at hlen
  by_cases h0 : l'.length = 0
  · obtain rfl : b = true := hb.2 (List.eq_nil_of_length_eq_zero h0).symm
    rw [h0]
    clear hb hl hl' h0 hlen
    go_enter Try.func26, Try.ntmps26
    go_wp2
    go_loop [5] (fun i => i = .int .i64 0) (fun _ => 0)
    case atStart => rfl
    case round =>
      obtain rfl := hrel
      go_wp2
      go_ret
      exact ⟨rfl, Below.refl _ _⟩
  · obtain rfl : b = false := bool_no hb (fun e => h0 (by rw [← e]; rfl))
    have hxb : ((([] : List Nd).length : Int) != (l'.length : Int)) = true := by simp; omega
    clear hb hl hl'
    go_enter Try.func26, Try.ntmps26
    go_wp2
    go_ret
    exact ⟨rfl, Below.refl _ _⟩
set_option maxHeartbeats 4000000 in
set_option maxRecDepth 100000 in
theorem qnS_succ (m : Nat) (hN : QnN m) : QnS (m + 1) := by
  intro m' A B c c' l l' w S S' b h h' hb
  have hlm := h.len
  have hlm' := h'.len
  unfold maxLen at hlm hlm'
  by_cases hll : l'.length = l.length
  case neg =>
    obtain rfl : b = false := bool_no hb (fun e => hll (by rw [e]))
    have hxb : ((l.length : Int) != (l'.length : Int)) = true := by simp; omega
    clear hb h h' hN
    go_enter Try.func26, Try.ntmps26
    go_wp2
    go_ret
    exact ⟨rfl, Below.refl _ _⟩
  have HF := Lib.hid h
  have HG := Lib.hid (h'.mono (Nat.le_succ m'))
  have HN := Lib.hid hN
  have HQ := Lib.hid hb
  rw [hll]
  have HLL := Lib.hid hll
  clear h h' hN hb hll hlm'
  go_enter Try.func26, Try.ntmps26
  go_wp2
  go_loopw [5] (fun i wr => ∃ k : Nat, i = .int .i64 k ∧ k ≤ l.length ∧ Hid (Below w.heap.size w wr) ∧ Hid (∀ j, j < k → l[j]? = l'[j]?)) (fun i _ => l.length - (intOf i).toNat)
  case atStart => exact ⟨0, rfl, by omega, Lib.hid (Below.refl _ _), Lib.hid (fun j hj => by omega)⟩
  case round =>
    obtain ⟨k, rfl, hk, HB, HE⟩ := hrel
    by_cases hlt : k < l.length
    · have hlt' : k < l'.length := by have := HLL.out; omega
      obtain ⟨x, hx, rfl, cx, nx⟩ := (HF.out.below HB.out).at_ hlt
      obtain ⟨y, hy, rfl, cy, ny⟩ := (HG.out.below HB.out).at_ hlt'
      have HEQ : Hid (l[k] = l'[k] → l[k]? = l'[k]?) := Lib.hid (fun e => by rw [List.getElem?_eq_getElem hlt, List.getElem?_eq_getElem hlt', e])
      have HNE : Hid (l[k] ≠ l'[k] → l ≠ l') := Lib.hid (fun e hl => e (by subst hl; rfl))
      generalize l[k] = n at cx nx HEQ HNE
      generalize l'[k] = n' at cy ny HEQ HNE
      have hd1 : Below wr.heap.size wr wr.drew := ⟨rfl, rfl, rfl, Nat.le_refl _, fun _ _ => rfl⟩
      have hx1 := cx.lt
      have hx2 := cy.lt
      obtain ⟨c0, c1, c2, c3, c4, c5⟩ := cx
      obtain ⟨d0, d1, d2, d3, d4, d5⟩ := cy
      have hk2 : (k : Int) < (l.length : Int) := by omega
      have hs := HB.out.size
      by_cases hnn : n = n'
      · have HP := Lib.hid (HN.out m' n n' hx hy wr.drew S S' true (nx.below hd1) (ny.below hd1) (iff_true_of hnn))
        have HP0 := Lib.hid (HN.out m' n n' hx hy wr S S' true nx ny (iff_true_of hnn))
        have HE1 := Lib.hid (HEQ.out hnn)
        clear nx ny hnn HEQ HNE
        go_wp2
        go_region_with (go_at_call 9; refine HP.out.mono ?_; rintro e w2 ⟨rfl, hb2⟩)
        all_goals
          have HB2 := Lib.hid (HB.out.trans ((show Below w.heap.size wr wr.drew from ⟨rfl, rfl, rfl, Nat.le_refl _, fun _ _ => rfl⟩).trans (hb2.mono (by simpa using hs))))
          clear hb2
          go_wp2
          go_roundw
          case rel =>
            refine ⟨k + 1, by go_num, by omega, HB2, Lib.hid fun j hj => ?_⟩
            rcases Nat.lt_or_ge j k with hl | hge
            · exact HE.out j hl
            · obtain rfl : j = k := by omega
              exact HE1.out
          case measure => simp [intOf]; omega
      · have HP := Lib.hid (HN.out m' n n' hx hy wr.drew S S' false (nx.below hd1) (ny.below hd1) (iff_false_of hnn))
        obtain rfl : b = false := bool_no HQ.out (HNE.out hnn)
        clear nx ny hnn HEQ HNE
        go_wp2
        go_region_with (go_at_call 9; refine HP.out.mono ?_; rintro e w2 ⟨rfl, hb2⟩)
        all_goals
          have HB2 := Lib.hid (HB.out.trans ((show Below w.heap.size wr wr.drew from ⟨rfl, rfl, rfl, Nat.le_refl _, fun _ _ => rfl⟩).trans (hb2.mono (by simpa using hs))))
          clear hb2
          go_wp2
          go_ret
          exact ⟨rfl, HB2.out⟩
    · obtain rfl : k = l.length := by omega
      obtain rfl : b = true := HQ.out.2 (List.ext_getElem? fun j => by
        rcases Nat.lt_or_ge j l.length with hl | hge
        · exact HE.out j hl
        · rw [List.getElem?_eq_none hge, List.getElem?_eq_none (by have := HLL.out; omega)])
      go_wp2
      go_ret
      exact ⟨rfl, HB.out⟩
theorem qnS_any : ∀ m, QnS m
  | 0 => qnS_zero
  | m + 1 => qnS_succ m (qnN_of m (qnS_any m))
theorem qnN_any (m : Nat) : QnN m := qnN_of m (qnS_any m)
end Go.Proofs.Ytfiiopchfmcjdaa
