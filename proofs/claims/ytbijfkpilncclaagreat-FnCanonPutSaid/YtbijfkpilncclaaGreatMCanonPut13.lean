/- Texts of the proof of the law FnCanonPut, side by side: part 13. -/
import Derived.Deep.RegionHeld3
import Derived.Lib.QuietBelow
import Derived.Test.YtbijfkpilncclaaGreatMCanonPut00
import Derived.Test.YtbijfkpilncclaaGreatMCanonPut01
import Derived.Test.YtbijfkpilncclaaGreatMCanonPut02
import Derived.Test.YtbijfkpilncclaaGreatMCanonPut03
import Derived.Test.YtbijfkpilncclaaGreatMCanonPut04
import Derived.Test.YtbijfkpilncclaaGreatMCanonPut05
import Derived.Test.YtbijfkpilncclaaGreatMCanonPut06
import Derived.Test.YtbijfkpilncclaaGreatMCanonPut07
import Derived.Test.YtbijfkpilncclaaGreatMCanonPut08
import Derived.Test.YtbijfkpilncclaaGreatMCanonPut09
import Derived.Test.YtbijfkpilncclaaGreatMCanonPut10
import Derived.Test.YtbijfkpilncclaaGreatMCanonPut11
import Derived.Test.YtbijfkpilncclaaGreatMCanonPut12
namespace Go.Proofs.YtbijfkpilncclaaGreat
open Go.RowKit Go.Deep
theorem kc {V V' : World} {a : Addr} {v : Value} (hb : Below V.heap.size V V') (h : V.cell? a = some v) : V'.cell? a = some v := (hb.cell (World.block_lt_of_cell? V a h)).trans h
set_option maxHeartbeats 8000000 in
set_option maxRecDepth 100000 in
theorem implAlike_a (m m' : Nat) (n n' : Nd) (h h' : Hd) (w : World) (S S' : Nat → Prop) (b : Bool) (hn : NdAt w S m n h) (hn' : NdAt w S' m' n' h') (ht : totN m n ≤ 2000000) (ht' : totN m' n' ≤ 2000000) (hb : b = true ↔ (nodeOk n = true ∧ nodeOk n' = true ∧ canN n = canN n')) :
    Calls Tryz.prog 19 #[.agg #[.int .i64 n.kind, .string n.data, .slice h.A n.ptrs.length h.a, .int .i64 n.size, .int .i64 n.count, .slice h.B n.items.length h.b], .agg #[.int .i64 n'.kind, .string n'.data, .slice h'.A n'.ptrs.length h'.a, .int .i64 n'.size, .int .i64 n'.count, .slice h'.B n'.items.length h'.b]] w fun e w' => e = .returned (.bool b) ∧ Below w.heap.size w w' := by
  have HO1 : Hid (∀ W : World, Below w.heap.size w W → Calls Tryz.prog 33 #[.agg #[.int .i64 n.kind, .string n.data, .slice h.A n.ptrs.length h.a, .int .i64 n.size, .int .i64 n.count, .slice h.B n.items.length h.b]] W fun e w' => e = .returned (.bool (nodeOk n)) ∧ Below W.heap.size W w') := Lib.hid fun W hW => implNodeOk_a m n h W S (hn.below hW) ht
  have HO2 : Hid (∀ W : World, Below w.heap.size w W → Calls Tryz.prog 33 #[.agg #[.int .i64 n'.kind, .string n'.data, .slice h'.A n'.ptrs.length h'.a, .int .i64 n'.size, .int .i64 n'.count, .slice h'.B n'.items.length h'.b]] W fun e w' => e = .returned (.bool (nodeOk n')) ∧ Below W.heap.size W w') := Lib.hid fun W hW => implNodeOk_a m' n' h' W S' (hn'.below hW) ht'
  have HC1 : Hid (nodeOk n = true → ∀ W : World, Below w.heap.size w W → Calls Tryz.prog 35 #[.agg #[.int .i64 n.kind, .string n.data, .slice h.A n.ptrs.length h.a, .int .i64 n.size, .int .i64 n.count, .slice h.B n.items.length h.b]] W (NewO (m + 1) (canN n) W)) := Lib.hid fun hok W hW => by
    have := implCanon_a m n h W S (hn.below hW) ht
    unfold canX at this
    rwa [if_pos hok] at this
  have HC2 : Hid (nodeOk n' = true → ∀ W : World, Below w.heap.size w W → Calls Tryz.prog 35 #[.agg #[.int .i64 n'.kind, .string n'.data, .slice h'.A n'.ptrs.length h'.a, .int .i64 n'.size, .int .i64 n'.count, .slice h'.B n'.items.length h'.b]] W (NewO (m' + 1) (canN n') W)) := Lib.hid fun hok W hW => by
    have := implCanon_a m' n' h' W S' (hn'.below hW) ht'
    unfold canX at this
    rwa [if_pos hok] at this
  have HTZ : Hid (nodeOk n = true → ∀ (W : World) (hy : Hd) (bs : List Nat), OwN W (m + 1) (canN n) hy bs → totN (m + 1) (canN n) ≤ 2000000) := Lib.hid fun hok W hy bs ho => by
    rw [totN_siz ho.nd]
    have h1 := siz_can 8 n (node_ok hok).1
    rw [← totN_siz hn] at h1
    omega
  have hba : Below w.heap.size w ((w.alloc (.cells #[.int .i64 n.kind, .string n.data, .slice h.A n.ptrs.length h.a, .int .i64 n.size, .int .i64 n.count, .slice h.B n.items.length h.b] nodeT)).alloc (.cells #[.int .i64 n'.kind, .string n'.data, .slice h'.A n'.ptrs.length h'.a, .int .i64 n'.size, .int .i64 n'.count, .slice h'.B n'.items.length h'.b] nodeT)) := ((Below.refl _ w).alloc (Nat.le_refl _) _).alloc (by simp) _
  have hx0 : ((w.alloc (.cells #[.int .i64 n.kind, .string n.data, .slice h.A n.ptrs.length h.a, .int .i64 n.size, .int .i64 n.count, .slice h.B n.items.length h.b] nodeT)).alloc (.cells #[.int .i64 n'.kind, .string n'.data, .slice h'.A n'.ptrs.length h'.a, .int .i64 n'.size, .int .i64 n'.count, .slice h'.B n'.items.length h'.b] nodeT)).heap[w.heap.size]? = some (.cells #[.int .i64 n.kind, .string n.data, .slice h.A n.ptrs.length h.a, .int .i64 n.size, .int .i64 n.count, .slice h.B n.items.length h.b] nodeT (0, 0)) := heap_alloc_keep (heap_alloc_new w _) _
  have hy0 : ((w.alloc (.cells #[.int .i64 n.kind, .string n.data, .slice h.A n.ptrs.length h.a, .int .i64 n.size, .int .i64 n.count, .slice h.B n.items.length h.b] nodeT)).alloc (.cells #[.int .i64 n'.kind, .string n'.data, .slice h'.A n'.ptrs.length h'.a, .int .i64 n'.size, .int .i64 n'.count, .slice h'.B n'.items.length h'.b] nodeT)).heap[w.heap.size + 1]? = some (.cells #[.int .i64 n'.kind, .string n'.data, .slice h'.A n'.ptrs.length h'.a, .int .i64 n'.size, .int .i64 n'.count, .slice h'.B n'.items.length h'.b] nodeT (0, 0)) := by have := heap_alloc_new (w.alloc (.cells #[.int .i64 n.kind, .string n.data, .slice h.A n.ptrs.length h.a, .int .i64 n.size, .int .i64 n.count, .slice h.B n.items.length h.b] nodeT)) (.cells #[.int .i64 n'.kind, .string n'.data, .slice h'.A n'.ptrs.length h'.a, .int .i64 n'.size, .int .i64 n'.count, .slice h'.B n'.items.length h'.b] nodeT); rwa [show (w.alloc (.cells #[.int .i64 n.kind, .string n.data, .slice h.A n.ptrs.length h.a, .int .i64 n.size, .int .i64 n.count, .slice h.B n.items.length h.b] nodeT)).heap.size = w.heap.size + 1 by simp] at this
  have HBA := Lib.hid hba
  have HBB := Lib.hid hb
  obtain ⟨a0, a1, a2, a3, a4, a5⟩ := cells6 hx0
  obtain ⟨b0, b1, b2, b3, b4, b5⟩ := cells6 hy0
  clear hn hn' ht ht' hb hba hx0 hy0
  go_enter Tryz.func19, Tryz.ntmps19
  go_wp2_with fail
  generalize ((w.alloc (.cells #[.int .i64 n.kind, .string n.data, .slice h.A n.ptrs.length h.a, .int .i64 n.size, .int .i64 n.count, .slice h.B n.items.length h.b] nodeT)).alloc (.cells #[.int .i64 n'.kind, .string n'.data, .slice h'.A n'.ptrs.length h'.a, .int .i64 n'.size, .int .i64 n'.count, .slice h'.B n'.items.length h'.b] nodeT)) = W0 at *
  cases hok : nodeOk n
  · have hbf : b = false := bool_no HBB.out (fun h => by rw [hok] at h; cases h.1)
    subst hbf
    rw [hok] at HO1
    clear hok HC1 HC2 HTZ HBB
    have q0 := cell_regrown a0
    have q1 := cell_regrown a1
    have q2 := cell_regrown a2
    have q3 := cell_regrown a3
    have q4 := cell_regrown a4
    have q5 := cell_regrown a5
    have r0 := cell_regrown b0
    have r1 := cell_regrown b1
    have r2 := cell_regrown b2
    have r3 := cell_regrown b3
    have r4 := cell_regrown b4
    have r5 := cell_regrown b5
    have hwx : ∀ d os, Below w.heap.size w («Sort».grow (redrawn W0 d) os) := fun d os => HBA.out.trans ((below_regrown W0 d os).mono HBA.out.size)
    refine wp_region_quiet_below (by kernel_rfl) (by kernel_rfl) ?_
    repeat (first | go_big_quiet_step (first | (go_at_call 33; first | with_reducible exact Calls.regrown_of (HO1.out _ (hwx _ _)) | with_reducible exact Calls.regrown_of (HO2.out _ (hwx _ _)))) | quiet_step (first | (go_at_call 33; first | with_reducible exact Calls.regrown_of (HO1.out _ (hwx _ _)) | with_reducible exact Calls.regrown_of (HO2.out _ (hwx _ _)))))
    refine wpQuiet_nil ?_
    intro _ hw'
    obtain ⟨⟨dq, osq⟩, hw''⟩ := hw'
    subst hw''
    have HFIN := Lib.hid (hwx dq osq)
    clear hwx q0 q1 q2 q3 q4 q5 r0 r1 r2 r3 r4 r5 a0 a1 a2 a3 a4 a5 b0 b1 b2 b3 b4 b5
    generalize «Sort».grow (redrawn W0 dq) osq = W1 at HFIN ⊢
    go_wp2
    go_ret
    exact ⟨rfl, HFIN.out⟩
  · cases hok' : nodeOk n'
    · have hbf : b = false := bool_no HBB.out (fun h => by rw [hok'] at h; cases h.2.1)
      subst hbf
      rw [hok] at HO1
      rw [hok'] at HO2
      clear hok hok' HC1 HC2 HTZ HBB
      have q0 := cell_regrown a0
      have q1 := cell_regrown a1
      have q2 := cell_regrown a2
      have q3 := cell_regrown a3
      have q4 := cell_regrown a4
      have q5 := cell_regrown a5
      have r0 := cell_regrown b0
      have r1 := cell_regrown b1
      have r2 := cell_regrown b2
      have r3 := cell_regrown b3
      have r4 := cell_regrown b4
      have r5 := cell_regrown b5
      have hwx : ∀ d os, Below w.heap.size w («Sort».grow (redrawn W0 d) os) := fun d os => HBA.out.trans ((below_regrown W0 d os).mono HBA.out.size)
      refine wp_region_quiet_below (by kernel_rfl) (by kernel_rfl) ?_
      repeat (first | go_big_quiet_step (first | (go_at_call 33; first | with_reducible exact Calls.regrown_of (HO1.out _ (hwx _ _)) | with_reducible exact Calls.regrown_of (HO2.out _ (hwx _ _)))) | quiet_step (first | (go_at_call 33; first | with_reducible exact Calls.regrown_of (HO1.out _ (hwx _ _)) | with_reducible exact Calls.regrown_of (HO2.out _ (hwx _ _)))))
      refine wpQuiet_nil ?_
      intro _ hw'
      obtain ⟨⟨dq, osq⟩, hw''⟩ := hw'
      subst hw''
      have HFIN := Lib.hid (hwx dq osq)
      clear hwx q0 q1 q2 q3 q4 q5 r0 r1 r2 r3 r4 r5 a0 a1 a2 a3 a4 a5 b0 b1 b2 b3 b4 b5
      generalize «Sort».grow (redrawn W0 dq) osq = W1 at HFIN ⊢
      go_wp2
      go_ret
      exact ⟨rfl, HFIN.out⟩
    · have HBZ : Hid (b = true ↔ canN n = canN n') := Lib.hid (HBB.out.trans ⟨fun h => h.2.2, fun h => ⟨hok, hok', h⟩⟩)
      replace HC1 := Lib.hid (HC1.out hok)
      replace HC2 := Lib.hid (HC2.out hok')
      replace HTZ := Lib.hid (HTZ.out hok)
      rw [hok] at HO1
      rw [hok'] at HO2
      clear hok hok' HBB
      unfold NewO at HC1 HC2
      generalize canN n = z at *
      generalize canN n' = z' at *
      first | go_region_held3 (fun V => (V.cell? ⟨w.heap.size, 0, none⟩ = some (.int .i64 n.kind) ∧ V.cell? ⟨w.heap.size, 1, none⟩ = some (.string n.data) ∧ V.cell? ⟨w.heap.size, 2, none⟩ = some (.slice h.A n.ptrs.length h.a) ∧ V.cell? ⟨w.heap.size, 3, none⟩ = some (.int .i64 n.size) ∧ V.cell? ⟨w.heap.size, 4, none⟩ = some (.int .i64 n.count) ∧ V.cell? ⟨w.heap.size, 5, none⟩ = some (.slice h.B n.items.length h.b)) ∧ (V.cell? ⟨w.heap.size + 1, 0, none⟩ = some (.int .i64 n'.kind) ∧ V.cell? ⟨w.heap.size + 1, 1, none⟩ = some (.string n'.data) ∧ V.cell? ⟨w.heap.size + 1, 2, none⟩ = some (.slice h'.A n'.ptrs.length h'.a) ∧ V.cell? ⟨w.heap.size + 1, 3, none⟩ = some (.int .i64 n'.size) ∧ V.cell? ⟨w.heap.size + 1, 4, none⟩ = some (.int .i64 n'.count) ∧ V.cell? ⟨w.heap.size + 1, 5, none⟩ = some (.slice h'.B n'.items.length h'.b)) ∧ Below w.heap.size w V) ((first | exact ⟨⟨a0, a1, a2, a3, a4, a5⟩, ⟨b0, b1, b2, b3, b4, b5⟩, HBA.out.drew⟩ | (obtain ⟨⟨s0, s1, s2, s3, s4, s5⟩, ⟨t0, t1, t2, t3, t4, t5⟩, sb⟩ := ‹(_ ∧ _) ∧ (_ ∧ _) ∧ Below w.heap.size w _›; exact ⟨⟨kc hbq s0, kc hbq s1, kc hbq s2, kc hbq s3, kc hbq s4, kc hbq s5⟩, ⟨kc hbq t0, kc hbq t1, kc hbq t2, kc hbq t3, kc hbq t4, kc hbq t5⟩, sb.trans (hbq.mono sb.size)⟩))) (first | (go_at_call 33; first | ((with_reducible refine (HO1.out _ (by have hh := ‹(_ ∧ _) ∧ (_ ∧ _) ∧ Below w.heap.size w _›; exact hh.2.2)).mono ?_); rintro e w4 ⟨rfl, hbq⟩) | ((with_reducible refine (HO2.out _ (by have hh := ‹(_ ∧ _) ∧ (_ ∧ _) ∧ Below w.heap.size w _›; exact hh.2.2)).mono ?_); rintro e w4 ⟨rfl, hbq⟩)) | (go_at_call 35; first | ((with_reducible refine (HC1.out _ (by have hh := ‹(_ ∧ _) ∧ (_ ∧ _) ∧ Below w.heap.size w _›; exact hh.2.2)).mono ?_); rintro e w4 ⟨hy1, bs1, rfl, hown1, hnd1, hge1, hbq⟩) | ((with_reducible refine (HC2.out _ (by have hh := ‹(_ ∧ _) ∧ (_ ∧ _) ∧ Below w.heap.size w _›; exact hh.2.2)).mono ?_); rintro e w5 ⟨hy2, bs2, rfl, hown2, hnd2, hge2, hbq⟩; have hown3 := hown1.below hbq)) | (go_at_call 55; (with_reducible refine (implNodeSame_a (m + 1) (m' + 1) z z' hy1 hy2 _ b hown3.clean hown2.clean (HTZ.out _ _ _ hown3) HBZ.out).mono ?_); rintro e w6 ⟨rfl, hbq⟩)) | fail
      all_goals
        have hfin := ‹(_ ∧ _) ∧ (_ ∧ _) ∧ Below w.heap.size w _›
        have HFIN := Lib.hid hfin.2.2
        clear hfin
        go_wp2
        go_ret
        exact ⟨rfl, HFIN.out⟩
end Go.Proofs.YtbijfkpilncclaaGreat

namespace Go.Proofs.YtbijfkpilncclaaGreat
open Go.RowKit Go.Deep
def SpN (m : Nat) : Prop := ∀ (n : Nd) (h : Hd) (w : World) (S : Nat → Prop), NdAt w S m n h → nodeOk n = true → sizN n ≤ 2000000 → Calls Tryz.prog 32 #[.agg #[.int .i64 n.kind, .string n.data, .slice h.A n.ptrs.length h.a, .int .i64 n.size, .int .i64 n.count, .slice h.B n.items.length h.b]] w (NewO (m + 1) (canN n) w)
def SpP (m : Nat) : Prop := ∀ (A : Option Addr) (c : Nat) (l : List Nd) (w : World) (S : Nat → Prop), NdsAt w S m A l → (∀ n ∈ l, nodeOk n = true) → sizL l ≤ 2000000 → Calls Tryz.prog 69 #[.slice A l.length c] w (NewOS (m + 1) (l.map canN) w)
theorem RowO.made (w : World) (M : Nat) : RowO (w.alloc (.cells #[] nodeT)) w.heap.size (.slice (some ⟨w.heap.size, 0, none⟩) 0 0) [] M := ⟨World.ownsRow_made w #[] 0 (Nat.le_refl _) (by unfold maxLen; omega) rfl, fun r h => (by cases h), List.nodup_nil, fun b h => (by cases h)⟩
set_option maxHeartbeats 4000000 in
set_option maxRecDepth 100000 in
theorem spP_of (m : Nat) (IH : ∀ j, m = j + 1 → SpN j) : SpP m := by
  intro A c l w S hl hok hsz
  have hlm : l.length ≤ 2000000 := Nat.le_trans (sizL_len l) hsz
  have HF := Lib.hid hl
  have HOK := Lib.hid hok
  have HSZ := Lib.hid hsz
  have HIH := Lib.hid IH
  clear hl hok hsz IH
  go_enter Tryz.func69, Tryz.ntmps69
  go_wp2
  go_loopw [3, 4] (fun v i wr => ∃ (u : Value) (k : Nat) (q : List NB), u = v ∧ i = .int .i64 k ∧ k ≤ l.length ∧ q.length = k ∧ Hid (RowO wr w.heap.size u q m ∧ q.map (·.1) = (l.take k).map canN) ∧ Hid (Below w.heap.size w wr)) (fun _ i _ => l.length - (intOf i).toNat)
  case atStart => exact ⟨_, 0, [], rfl, rfl, by omega, rfl, Lib.hid ⟨RowO.made w m, rfl⟩, Lib.hid ((Below.refl _ _).alloc (Nat.le_refl _) _)⟩
  case round =>
    obtain ⟨v, k, q, hv0, rfl, hk, hql, HR, HB⟩ := hrel
    subst hv0
    by_cases hlt : k < l.length
    · obtain ⟨j, rfl⟩ := HF.out.pred hlt
      obtain ⟨x, hd, rfl, hc, hn⟩ := (HF.out.below HB.out).at_ hlt
      have htn : l.take k ++ [l[k]] = l.take (k + 1) := (List.take_succ_eq_append_getElem hlt).symm
      have hoy := HOK.out _ (List.getElem_mem hlt)
      have hzy : sizN l[k] ≤ 2000000 := Nat.le_trans (sizL_at hlt) HSZ.out
      have HM : Hid (q.map (·.1) ++ [canN l[k]] = (l.take (k + 1)).map canN) := Lib.hid (by rw [HR.out.2, ← htn, List.map_append]; rfl)
      generalize l[k] = y at *
      obtain ⟨d0, d1, d2, d3, d4, d5⟩ := hc
      have HC := Lib.hid (HIH.out j rfl y hd wr S hn hoy hzy)
      have HR2 := Lib.hid HR.out.1
      have HB2 := Lib.hid HB.out
      have hs1 := HB.out.size
      unfold NewO at HC
      clear hn hoy hzy htn
      generalize canN y = z at HC HM
      go_wp2_with fail
      clear d0 d1 d2 d3 d4 d5
      refine HC.out.mono ?_
      rintro e w3 ⟨hy, bs, rfl, hny, hnd, hge, hb3⟩
      have HO3 := Lib.hid (HR2.out.low hb3)
      have HB3 := Lib.hid (HB2.out.trans (hb3.mono HB2.out.size))
      have hs3 := hb3.size
      have HQH : Hid (∀ b ∈ blkB q, b < wr.heap.size) := Lib.hid HR2.out.lt
      have HVH : Hid (∀ k, v.ownBlock = some k → k < wr.heap.size) := Lib.hid fun k hk => (HR2.out.1.lt k hk).2
      have HNY := Lib.hid hny
      have HND := Lib.hid (And.intro hnd hge)
      have hq3 : q.length ≤ 3000000 := by omega
      clear hny hnd hge hb3
      go_wp2_with (at_builtin; go_must (refine wpList_append_ndB rfl (.tmp 12) (.tmp 18) rfl w.heap.size v q.length (rowB q) rfl (HO3.out.1.alloc _) ⟨w3.heap.size, 0, none⟩ 1 (z, hy) rfl (cells_six_new w3 (z, hy) _) hq3 (by simp; omega) ?_); intro A4 c4 w4 hown4 hgrow4 hat4)
      have hnx := (HO3.out.alloc _).next (HNY.out.below ((Below.refl w3.heap.size w3).alloc (Nat.le_refl _) _)) HND.out.1 HND.out.2 (by omega) HQH.out HVH.out hown4.out hgrow4.out hat4.out
      have HB4 := Lib.hid ((HB3.out.alloc HB3.out.size _).grown hgrow4.out (by simp; omega) (fun k hk => (HO3.out.1.lt k hk).1))
      have HR4 := Lib.hid (And.intro hnx (show (q ++ [(z, hy, bs)]).map (·.1) = (l.take (k + 1)).map canN by rw [List.map_append]; exact HM.out))
      clear hown4 hgrow4 hat4 hnx
      rw [hql] at HR4
      go_roundw
      case rel => exact ⟨_, k + 1, q ++ [(z, hy, bs)], rfl, by go_num, by omega, by simp; omega, HR4, HB4⟩
      case measure => simp [intOf]; omega
    · obtain rfl : k = l.length := by omega
      obtain ⟨A2, c2, bs, hv, hown, hnd, hge⟩ := HR.out.1.done
      have hm := HR.out.2
      rw [List.take_of_length_le (Nat.le_refl _)] at hm
      subst hv
      have hll : (l.map canN).length = q.length := by rw [List.length_map]; omega
      rw [hm] at hown
      have HRES : Hid (NewOS (m + 1) (l.map canN) w (.returned (.slice A2 q.length c2)) wr) := Lib.hid ⟨A2, c2, bs, by rw [hll], hown, hnd, hge, HB.out⟩
      clear hown hnd hge hm HR
      go_wp2
      go_ret
      exact HRES.out
set_option maxHeartbeats 4000000 in
set_option maxRecDepth 100000 in
theorem l6Last_a (m : Nat) (A : Option Addr) (c : Nat) (l : List Nd) (w : World) (S : Nat → Prop) (hl : NdsAt w S m A l) (hlm : l.length ≤ 2000000) :
    Calls Tryz.prog 71 #[.slice A l.length c] w fun e w' => e = .returned (.int .i64 (endC l : Nat)) ∧ w' = w := by
  have HF := Lib.hid hl
  clear hl
  go_enter Tryz.func71, Tryz.ntmps71
  go_wp2
  go_loopw [3] (fun i wr => ∃ t : Nat, i = .int .i64 t ∧ t ≤ l.length ∧ Hid (endC l = endK l t) ∧ wr = w) (fun i _ => (intOf i).toNat)
  case atStart => exact ⟨_, rfl, Nat.le_refl _, Lib.hid rfl, rfl⟩
  case round =>
    obtain ⟨t, rfl, ht, HE, rfl⟩ := hrel
    cases t with
    | zero =>
      have HE0 : Hid (endC l = 0) := Lib.hid HE.out
      go_wp2
      go_ret
      exact ⟨by rw [HE0.out]; rfl, rfl⟩
    | succ k =>
      have hk : k < l.length := by omega
      obtain ⟨j, rfl⟩ := HF.out.pred hk
      obtain ⟨x, hd, rfl, hc, -⟩ := HF.out.at_ hk
      have hget : (l[k]?.getD noneNd) = l[k] := by rw [List.getElem?_eq_getElem hk]; rfl
      have HE2 : Hid (endC l = if l[k].kind = 0 then endK l k else k + 1) := Lib.hid (by rw [HE.out, endK, hget])
      obtain ⟨d0, d1, d2, d3, d4, d5⟩ := hc
      clear d1 d2 d3 d4 d5 hget
      by_cases hk0 : l[k].kind = 0
      · rw [hk0] at d0
        rw [if_pos hk0] at HE2
        clear hk0
        go_wp2
        go_roundw
        case rel => exact ⟨k, by go_num, by omega, HE2, trivial⟩
        case measure => simp [intOf]
      · rw [if_neg hk0] at HE2
        have hkb : (l[k].kind == 0) = false := by simpa using hk0
        clear hk0
        go_wp2
        go_ret
        exact ⟨ret_int (by rw [HE2.out]), rfl⟩
end Go.Proofs.YtbijfkpilncclaaGreat

namespace Go.Proofs.YtbijfkpilncclaaGreat
open Go.RowKit
theorem RowG.cut {w : World} {M g c k : Nat} {pre post : List NB} {r : NB} (h : RowG w g c (pre ++ r :: post) M) (hk : k ≤ r.1.ptrs.length) :
    ∃ bs' : List Nat, RowG (w.setCell ⟨g, pre.length * 6 + 2, none⟩ (.slice r.2.1.A k r.2.1.a)) g c (pre ++ ((.mk r.1.kind r.1.data (r.1.ptrs.take k) r.1.size r.1.count r.1.items : Nd), r.2.1, bs') :: post) M ∧ ∀ b ∈ bs', b ∈ r.2.2 := by
  obtain ⟨cur, h1, h2, h3, h4, h5, h6, h7, h8⟩ := h
  obtain ⟨hd, b1, b2, he, ho1, ho2⟩ := h6 r (List.mem_append_right _ List.mem_cons_self)
  obtain ⟨b1', ho3, hsub⟩ := ho1.take k hk
  have hs2 : (b1' ++ b2).Sublist r.2.2 := by rw [he]; exact List.Sublist.append hsub (List.Sublist.refl _)
  have hsb : (blkB (pre ++ ((.mk r.1.kind r.1.data (r.1.ptrs.take k) r.1.size r.1.count r.1.items : Nd), r.2.1, b1' ++ b2) :: post)).Sublist (blkB (pre ++ r :: post)) := by
    rw [blkB_app, blkB_app, blkB_cons, blkB_cons]
    exact List.Sublist.append (List.Sublist.refl _) (List.Sublist.append hs2 (List.Sublist.refl _))
  have hother : ∀ b, b ≠ g → (w.setCell ⟨g, pre.length * 6 + 2, none⟩ (.slice r.2.1.A k r.2.1.a)).heap[b]? = w.heap[b]? := fun b hb => Below.heap_setCell w ⟨g, pre.length * 6 + 2, none⟩ _ b hb
  have hfr : ∀ x ∈ pre ++ r :: post, ∀ b ∈ x.2.2, b ≠ g := fun x hx b hb e => h8 (by rw [← e]; exact List.mem_flatMap.2 ⟨x, hx, hb⟩)
  refine ⟨b1' ++ b2, ⟨_, row_setN h1 _ _, by simpa using h2, by simpa using h3, h4, ?_, fun x hx => ?_, h7.sublist hsb, fun hm => h8 (hsb.subset hm)⟩, fun b hb => hs2.subset hb⟩
  · have h5' : cur.toList.take ((pre.map (fun r => (r.1, r.2.1)) ++ (r.1, r.2.1) :: post.map (fun r => (r.1, r.2.1))).length * 6) = rowOf (pre.map (fun r => (r.1, r.2.1)) ++ (r.1, r.2.1) :: post.map (fun r => (r.1, r.2.1))) := by
      have := h5
      unfold rowB at this
      rw [List.map_append, List.map_cons] at this
      simpa using this
    have := row_upd (e := 2) (r' := ((.mk r.1.kind r.1.data (r.1.ptrs.take k) r.1.size r.1.count r.1.items : Nd), r.2.1)) h2 (by simpa using h3) h5' (by decide) (fun f hf hf2 => by
      match f, hf with
      | 0, _ => rfl
      | 1, _ => rfl
      | 2, _ => exact absurd rfl hf2
      | 3, _ => rfl
      | 4, _ => rfl
      | 5, _ => rfl)
    have hce : cellE ((.mk r.1.kind r.1.data (r.1.ptrs.take k) r.1.size r.1.count r.1.items : Nd), r.2.1) 2 = .slice r.2.1.A k r.2.1.a := by
      show Value.slice r.2.1.A (r.1.ptrs.take k).length r.2.1.a = _
      rw [List.length_take, Nat.min_eq_left hk]
    rw [hce] at this
    unfold rowB
    rw [List.map_append, List.map_cons]
    simpa using this
  · have hold : ∀ x ∈ pre ++ r :: post, OwN (w.setCell ⟨g, pre.length * 6 + 2, none⟩ (.slice r.2.1.A k r.2.1.a)) M x.1 x.2.1 x.2.2 := fun x hx => (h6 x hx).frame (fun b hb => hother b (hfr x hx b hb))
    rcases List.mem_append.1 hx with hx | hx
    · exact hold x (List.mem_append_left _ hx)
    · rcases List.mem_cons.1 hx with rfl | hx
      · have hrg := hfr r (List.mem_append_right _ List.mem_cons_self)
        refine ⟨hd, b1', b2, rfl, ?_, ?_⟩
        · exact ho3.frame _ _ _ _ _ (fun b hb => hother b (hrg b (by rw [he]; exact List.mem_append_left _ (hsub.subset hb))))
        · exact ho2.frame _ _ _ _ _ (fun b hb => hother b (hrg b (by rw [he]; exact List.mem_append_right _ hb)))
      · exact hold x (List.mem_append_right _ (List.mem_cons_of_mem _ hx))
theorem slice_cap {w : World} {M g c : Nat} {pre post : List NB} {r : NB} (h : RowG w g c (pre ++ r :: post) M) : (r.2.1.A = none ∧ r.1.ptrs = [] ∧ r.2.1.a = 0) ∨ (∃ g', r.2.1.A = some ⟨g', 0, none⟩) ∧ r.1.ptrs.length ≤ r.2.1.a := by
  obtain ⟨cur, h1, h2, h3, h4, h5, h6, h7, h8⟩ := h
  obtain ⟨hd, b1, b2, he, ho1, ho2⟩ := h6 r (List.mem_append_right _ List.mem_cons_self)
  exact own_cap ho1
end Go.Proofs.YtbijfkpilncclaaGreat
