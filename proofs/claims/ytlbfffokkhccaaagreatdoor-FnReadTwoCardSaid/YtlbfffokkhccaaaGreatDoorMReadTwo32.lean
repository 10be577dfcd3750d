/- Texts of the proof of the law FnReadTwo, side by side: part 32. -/
import Derived.Test.YtlbfffokkhccaaaGreatDoorMReadTwo31
namespace Go.Proofs.YtlbfffokkhccaaaGreatDoor
open Go.RowKit Go.Deep
def One1 (r : Option Segs) (w : World) (e : Ending) (w' : World) : Prop := (∃ s t, r = some (s :: t) ∧ e = .returned (.tuple #[strV s, .bool true]) ∧ Below w.heap.size w w') ∨ (r = none ∧ e = .returned (.tuple #[.string { data := #[] }, .bool false]) ∧ Below w.heap.size w w')
set_option maxHeartbeats 4000000 in
set_option maxRecDepth 100000 in
theorem implBuildOne_a (m : Nat) (n : Nd) (h : Hd) (w : World) (S : Nat → Prop) (hn : NdAt w S m n h) (ht : totN m n ≤ 2000000) :
 Calls Tryz.prog 19 #[.agg #[.int .i64 n.kind, .string n.data, .slice h.A n.ptrs.length h.a, .int .i64 n.size, .int .i64 n.count, .slice h.B n.items.length h.b]] w (One1 (bldV n 200) w) := by
 have hne : ∀ ss, bldV n 200 = some ss → ∃ s t, ss = s :: t := fun ss hss => by
  unfold bldV at hss
  split at hss
  · rename_i hh
    obtain ⟨s, hs, _⟩ := build_one (size := 200) hh.1 (by have := node_ok hh.1; unfold nodeWords; rw [if_pos hh.1]; omega)
    rw [show (200 : Int).toNat = 200 from rfl, hs] at hss
    injection hss with hss
    exact ⟨s, [], hss.symm⟩
  · cases hss
 have HNE := Lib.hid hne
 obtain ⟨qA, qa, qB, qb⟩ := h
 have hb0 := (Below.refl w.heap.size w).alloc (Nat.le_refl _) (.cells #[.int .i64 n.kind, .string n.data, .slice qA n.ptrs.length qa, .int .i64 n.size, .int .i64 n.count, .slice qB n.items.length qb] nodeT)
 have HB := Lib.hid (implBuild_a m n ⟨qA, qa, qB, qb⟩ _ S 200 (hn.below hb0) ht)
 dsimp only at HB ⊢
 have HB0 := Lib.hid hb0
 generalize bldV n 200 = r at *
 clear hn hb0 hne
 go_enter Tryz.func19, Tryz.ntmps19
 go_wp2_with fail
 refine HB.out.mono ?_
 rintro e w1 (⟨rfl, rfl, hb1⟩ | ⟨ss, A, c, rfl, rfl, ho, hb1⟩)
 · have HB1 := Lib.hid (HB0.out.trans (hb1.mono HB0.out.size))
   clear hb1
   go_wp2
   exact bodyPost_ret (v := .tuple #[.string { data := #[] }, .bool false]) (by simp [results, Tryz.results19, go_sem]) rfl (.inr ⟨rfl, rfl, HB1.out⟩)
 · have HB1 := Lib.hid (HB0.out.trans (hb1.mono HB0.out.size))
   obtain ⟨s, t, rfl⟩ := HNE.out ss rfl
   obtain ⟨g, cap, cur, hv, -⟩ := own_cases ho (by simp)
   injection hv with e1 e2 e3
   subst e1
   have hc := ho.cells (g := g) rfl 0 (strV s) (by simp)
   rw [add_zero0] at hc
   clear hb1 ho
   go_wp2
   exact bodyPost_ret (v := .tuple #[strV s, .bool true]) (by simp [results, Tryz.results19, go_sem]) rfl (.inl ⟨s, t, rfl, rfl, HB1.out⟩)
end Go.Proofs.YtlbfffokkhccaaaGreatDoor
namespace Go.Proofs.YtlbfffokkhccaaaGreatDoor
open Go.RowKit Go.Deep
def txS (ss : Segs) : List ByteArray := ss.map fun s => ⟨s.toArray⟩
theorem txS_length (ss : Segs) : (txS ss).length = ss.length := by simp [txS]
theorem frOk_txS {ss : Segs} (hk : SOk LS ss) : frOk (txS ss) = decide (totS ss ≤ 200) := by
 have h1 : ∀ s ∈ ss, s.length % 8 = 0 := fun s hs => by
  obtain ⟨i, hi, e⟩ := List.getElem_of_mem hs
  have := hk.wds i
  rw [sgq_eq hi, e] at this
  exact this
 have h2 : ∀ (l : Segs), (∀ s ∈ l, s.length % 8 = 0) → (txS l).all (fun s => decide (s.size % 8 = 0)) = true ∧ tot (txS l) = 8 * totS l := by
  intro l
  induction l with
  | nil => intro _; exact ⟨rfl, rfl⟩
  | cons s t ih =>
   intro h
   obtain ⟨i1, i2⟩ := ih (fun x hx => h x (List.mem_cons_of_mem _ hx))
   have h0 := h s (List.mem_cons_self ..)
   have hs : (⟨s.toArray⟩ : ByteArray).size = s.length := by simp [ByteArray.size]
   have hw : s.length = 8 * wn s := by unfold wn; omega
   simp only [txS, tot, totS] at i1 i2 ⊢
   rw [List.map_cons, List.all_cons, List.map_cons, List.sum_cons, List.map_cons, List.sum_cons, i1, i2, hs]
   exact ⟨by simp [h0], by omega⟩
 obtain ⟨h3, h4⟩ := h2 ss h1
 unfold frOk
 rw [h3, h4, txS_length]
 have h5 := hk.one
 have h6 := hk.six
 by_cases h : totS ss ≤ 200
 · rw [decide_eq_true h, decide_eq_true (show 1 ≤ ss.length ∧ ss.length ≤ 6 from ⟨h5, h6⟩), decide_eq_true (show 8 * totS ss ≤ 1600 by omega)]; rfl
 · rw [decide_eq_false h, decide_eq_false (show ¬ 8 * totS ss ≤ 1600 by omega)]; simp
theorem tot_txS {ss : Segs} (hk : SOk LS ss) : tot (txS ss) ≤ 1099511627776 := by
 have : ∀ (l : Segs), tot (txS l) ≤ 8 * totS l + 8 * l.length := by
  intro l
  induction l with
  | nil => exact Nat.le_refl _
  | cons s t ih =>
   have hs : (⟨s.toArray⟩ : ByteArray).size = s.length := by simp [ByteArray.size]
   have hw : s.length ≤ 8 * wn s + 8 := by unfold wn; omega
   simp only [txS, tot, totS] at ih ⊢
   rw [List.map_cons, List.map_cons, List.sum_cons, List.map_cons, List.sum_cons, List.length_cons, hs]
   omega
 have h1 := this ss
 have h2 := hk.totS
 have h3 := hk.six
 unfold LS at h2
 omega
theorem strs_txS {w : World} {r : Nat} {ss : Segs} (hk : SOk LS ss) (hr : r < w.heap.size) (hc : ∀ i, i < ss.length → w.cell? ⟨r, i, none⟩ = some (strS (sgS ss i))) : Strs w (some ⟨r, 0, none⟩) (txS ss) := by
 refine ⟨fun s hs => ?_, .inr ⟨_, rfl, hr, fun i hi => ?_⟩⟩
 · obtain ⟨x, hx, rfl⟩ := List.mem_map.1 hs
   obtain ⟨i, hi, e⟩ := List.getElem_of_mem hx
   have h1 := sb_len hk i
   rw [sgq_eq hi, e] at h1
   have hs : (⟨x.toArray⟩ : ByteArray).size = x.length := by simp [ByteArray.size]
   rw [hs]
   unfold maxLen
   omega
 · have hi' : i < ss.length := by rw [txS_length] at hi; exact hi
   rw [add_zero0, hc i hi', sgq_eq hi']
   simp [txS]
def BuildSQ (r : Option Segs) (w : World) (e : Ending) (w' : World) : Prop :=
 (r = none ∧ ∃ A c, e = .returned (.tuple #[.slice A 0 c, .bool false]) ∧ Below w.heap.size w w') ∨
 ∃ ss A c, r = some ss ∧ SOk LS ss ∧ e = .returned (.tuple #[.slice A ss.length c, .bool true]) ∧ w'.ownsRow w.heap.size stT 1 (.slice A ss.length c) ss.length (ss.map strS) ∧ Below w.heap.size w w'
set_option maxHeartbeats 4000000 in
set_option maxRecDepth 100000 in
theorem l5Build_yes (m : Nat) (n : Nd) (h : Hd) (w : World) (S : Nat → Prop) (z : Nat) (hn : NdAt w S m n h) (ht : totN m n ≤ 2000000) (hok : nodeOk n = true) (h1 : 1 ≤ z) (h2 : z ≤ 200) :
 Calls Tryz.prog 40 #[.agg #[.int .i64 n.kind, .string n.data, .slice h.A n.ptrs.length h.a, .int .i64 n.size, .int .i64 n.count, .slice h.B n.items.length h.b], .int .i64 (z : Int)] w (BuildSQ (buildP 200 z n) w) := by
 obtain ⟨qA, qa, qB, qb⟩ := h
 dsimp only
 obtain ⟨ho8, hw8⟩ := node_ok hok
 have hlim := build_lim (size := z) ho8 LS (by decide)
 have HLIM := Lib.hid hlim
 have hk0 := SOKL LS (by decide)
 have hbW : Below w.heap.size w (((w.alloc (.cells #[.int .i64 n.kind, .string n.data, .slice qA n.ptrs.length qa, .int .i64 n.size, .int .i64 n.count, .slice qB n.items.length qb] nodeT)).alloc (.cells #[strS (zer 1)] stT)).alloc (.cells #[.slice (some ⟨w.heap.size + 1, 0, none⟩) 1 1, .int .i64 (z : Int), .bool false] wrT)) := (((Below.refl _ w).alloc (Nat.le_refl _) _).alloc (by simp) _).alloc (by simp; omega) _
 have r0 : ((((w.alloc (.cells #[.int .i64 n.kind, .string n.data, .slice qA n.ptrs.length qa, .int .i64 n.size, .int .i64 n.count, .slice qB n.items.length qb] nodeT)).alloc (.cells #[strS (zer 1)] stT)).alloc (.cells #[.slice (some ⟨w.heap.size + 1, 0, none⟩) 1 1, .int .i64 (z : Int), .bool false] wrT))).heap[w.heap.size]? = some (.cells #[.int .i64 n.kind, .string n.data, .slice qA n.ptrs.length qa, .int .i64 n.size, .int .i64 n.count, .slice qB n.items.length qb] nodeT (0, 0)) := heap_alloc_keep (heap_alloc_keep (heap_alloc_new w _) _) _
 have r1 : ((((w.alloc (.cells #[.int .i64 n.kind, .string n.data, .slice qA n.ptrs.length qa, .int .i64 n.size, .int .i64 n.count, .slice qB n.items.length qb] nodeT)).alloc (.cells #[strS (zer 1)] stT)).alloc (.cells #[.slice (some ⟨w.heap.size + 1, 0, none⟩) 1 1, .int .i64 (z : Int), .bool false] wrT))).heap[w.heap.size + 1]? = some (.cells #[strS (zer 1)] stT (0, 0)) := by
  have := heap_alloc_keep (heap_alloc_new (w.alloc (.cells #[.int .i64 n.kind, .string n.data, .slice qA n.ptrs.length qa, .int .i64 n.size, .int .i64 n.count, .slice qB n.items.length qb] nodeT)) (.cells #[strS (zer 1)] stT)) (.cells #[.slice (some ⟨w.heap.size + 1, 0, none⟩) 1 1, .int .i64 (z : Int), .bool false] wrT)
  simpa using this
 have r2 : ((((w.alloc (.cells #[.int .i64 n.kind, .string n.data, .slice qA n.ptrs.length qa, .int .i64 n.size, .int .i64 n.count, .slice qB n.items.length qb] nodeT)).alloc (.cells #[strS (zer 1)] stT)).alloc (.cells #[.slice (some ⟨w.heap.size + 1, 0, none⟩) 1 1, .int .i64 (z : Int), .bool false] wrT))).heap[w.heap.size + 2]? = some (.cells #[.slice (some ⟨w.heap.size + 1, 0, none⟩) 1 1, .int .i64 (z : Int), .bool false] wrT (0, 0)) := by
  have := heap_alloc_new ((w.alloc (.cells #[.int .i64 n.kind, .string n.data, .slice qA n.ptrs.length qa, .int .i64 n.size, .int .i64 n.count, .slice qB n.items.length qb] nodeT)).alloc (.cells #[strS (zer 1)] stT)) (.cells #[.slice (some ⟨w.heap.size + 1, 0, none⟩) 1 1, .int .i64 (z : Int), .bool false] wrT)
  simpa using this
 have hsb : Sb (((w.alloc (.cells #[.int .i64 n.kind, .string n.data, .slice qA n.ptrs.length qa, .int .i64 n.size, .int .i64 n.count, .slice qB n.items.length qb] nodeT)).alloc (.cells #[strS (zer 1)] stT)).alloc (.cells #[.slice (some ⟨w.heap.size + 1, 0, none⟩) 1 1, .int .i64 (z : Int), .bool false] wrT)) w.heap.size (w.heap.size + 2) z [zer 1] false (fun k => k = w.heap.size + 1 ∨ k = w.heap.size + 2) :=
  ⟨_, r2, ⟨by decide, .inr ⟨w.heap.size + 1, 1, #[strS (zer 1)], rfl, by omega, r1, Nat.le_refl _, by decide, rfl, rfl⟩⟩, by omega, .inr rfl, fun k hk => .inl (Option.some.inj hk).symm⟩
 have HNODE := Lib.hid (swrite_any z h2 8 w.heap.size (w.heap.size + 2) [zer 1] _ (((w.alloc (.cells #[.int .i64 n.kind, .string n.data, .slice qA n.ptrs.length qa, .int .i64 n.size, .int .i64 n.count, .slice qB n.items.length qb] nodeT)).alloc (.cells #[strS (zer 1)] stT)).alloc (.cells #[.slice (some ⟨w.heap.size + 1, 0, none⟩) 1 1, .int .i64 (z : Int), .bool false] wrT)) 0 0 m n ⟨qA, qa, qB, qb⟩ hsb (fun k hk => by
  have : ((((w.alloc (.cells #[.int .i64 n.kind, .string n.data, .slice qA n.ptrs.length qa, .int .i64 n.size, .int .i64 n.count, .slice qB n.items.length qb] nodeT)).alloc (.cells #[strS (zer 1)] stT)).alloc (.cells #[.slice (some ⟨w.heap.size + 1, 0, none⟩) 1 1, .int .i64 (z : Int), .bool false] wrT))).heap.size = w.heap.size + 3 := by simp
  rw [this]
  omega) hk0 (by decide) (by decide) (nd_baseS hn.lt' hbW) ho8 ht (by omega) (by rw [show totS [zer 1] = 1 by decide]; unfold LS; omega))
 dsimp only at HNODE
 have HM := Lib.hid (fun W => l1Many_any ⟨#[0]⟩ 8 W (by omega) (by omega) (by decide) (by decide))
 have hmz : (⟨(repL (⟨#[0]⟩ : ByteArray).data.toList (8 : Int).toNat).toArray⟩ : ByteArray) = ⟨(zer 1).toArray⟩ := by decide +kernel
 rw [hmz] at HM
 have HBW := Lib.hid hbW
 have HSOK : Hid (∀ s1, wrP LS z 8 n [zer 1] 0 0 = some s1 → SOk LS s1) := Lib.hid (fun s1 hs => (wr_some LS z 8 n [zer 1] 0 0 s1 ho8 hk0 (by decide) (by decide) hs).1)
 have HBP : Hid (buildP LS z n = wrP LS z 8 n [zer 1] 0 0) := Lib.hid rfl
 rw [HBP.out] at HLIM
 generalize wrP LS z 8 n [zer 1] 0 0 = rr at *
 clear hn hok ho8 hlim hk0 hbW r0 r1 r2 hsb hmz HBP
 go_enter Tryz.func40, Tryz.ntmps40
 go_wp2_with fail
 refine (HM.out _).mono ?_
 rintro e w9 ⟨rfl, rfl⟩
 go_wp2_with fail
 refine HNODE.out.mono ?_
 rintro e w1 ⟨rfl, hk1, hor⟩
 have HK1 := Lib.hid (HBW.out.trans (hk1.below HBW.out.size (fun k hk => by rcases hk with h | h <;> omega)))
 rcases hor with ⟨hnone, s1, hs1⟩ | ⟨s1, hsome, hs1⟩
 · have HR : Hid (buildP 200 z n = none) := Lib.hid (by rw [HLIM.out, hnone]; rfl)
   obtain ⟨v, hb, -⟩ := hs1
   obtain ⟨c0, c1, c2⟩ := cells3 hb
   clear hb hk1
   go_wp2
   exact bodyPost_ret (v := .tuple #[.slice (some ⟨w1.heap.size, 0, none⟩) 0 0, .bool false]) (by simp [results, Tryz.results40, go_sem]) rfl (.inl ⟨HR.out, _, _, rfl, HK1.out.alloc HK1.out.size _⟩)
 · have hks := HSOK.out s1 hsome
   obtain ⟨r, cap, hb, ho, hlb, hPb, hPr, hc⟩ := hs1.open2 hks.one
   obtain ⟨c0, c1, c2⟩ := cells3 hb
   have HO := Lib.hid ho
   have HKS := Lib.hid hks
   have hrl : r < w1.heap.size := (ho.lt r rfl).2
   have HFR := Lib.hid (specFrameOk_any (some ⟨r, 0, none⟩) cap (txS s1) w1 (strs_txS hks hrl (fun i hi => (hc i hi).1)) (by rw [txS_length]; have := hks.six; omega) (tot_txS hks))
   rw [txS_length, frOk_txS hks] at HFR
   clear hb ho hlb hPb hPr hc hs1 hks hrl hk1
   by_cases hle : totS s1 ≤ 200
   · have HR : Hid (buildP 200 z n = some s1) := Lib.hid (by rw [HLIM.out, hsome, Option.bind_some, if_pos hle])
     rw [decide_eq_true hle] at HFR
     clear hsome hle
     go_wp2_with fail
     refine HFR.out.mono ?_
     rintro e w2 ⟨rfl, rfl⟩
     go_wp2
     exact bodyPost_ret (v := .tuple #[.slice (some ⟨r, 0, none⟩) s1.length cap, .bool true]) (by simp [results, Tryz.results40, go_sem]) rfl (.inr ⟨s1, _, _, HR.out, HKS.out, rfl, HO.out, HK1.out⟩)
   · have HR : Hid (buildP 200 z n = none) := Lib.hid (by rw [HLIM.out, hsome, Option.bind_some, if_neg hle])
     rw [decide_eq_false hle] at HFR
     clear hsome hle
     go_wp2_with fail
     refine HFR.out.mono ?_
     rintro e w2 ⟨rfl, rfl⟩
     go_wp2
     exact bodyPost_ret (v := .tuple #[.slice (some ⟨w1.heap.size, 0, none⟩) 0 0, .bool false]) (by simp [results, Tryz.results40, go_sem]) rfl (.inl ⟨HR.out, _, _, rfl, HK1.out.alloc HK1.out.size _⟩)
end Go.Proofs.YtlbfffokkhccaaaGreatDoor
namespace Go.Proofs.YtlbfffokkhccaaaGreatDoor
open Go.RowKit Go.Deep
set_option maxHeartbeats 4000000 in
set_option maxRecDepth 100000 in
theorem specBuildOne_a (m : Nat) (n : Nd) (h : Hd) (w : World) (S : Nat → Prop) (hn : NdAt w S m n h) (ht : totN m n ≤ 2000000) :
 Calls Tryz.prog 20 #[.agg #[.int .i64 n.kind, .string n.data, .slice h.A n.ptrs.length h.a, .int .i64 n.size, .int .i64 n.count, .slice h.B n.items.length h.b]] w (One1 (bldV n 200) w) := by
 obtain ⟨qA, qa, qB, qb⟩ := h
 have hb0 := (Below.refl w.heap.size w).alloc (Nat.le_refl _) (.cells #[.int .i64 n.kind, .string n.data, .slice qA n.ptrs.length qa, .int .i64 n.size, .int .i64 n.count, .slice qB n.items.length qb] nodeT)
 have HB0 := Lib.hid hb0
 have R0 := Lib.hid (heap_alloc_new w (.cells #[.int .i64 n.kind, .string n.data, .slice qA n.ptrs.length qa, .int .i64 n.size, .int .i64 n.count, .slice qB n.items.length qb] nodeT))
 have HOK := Lib.hid (fun (W : World) (hW : Below w.heap.size w W) => specNodeOk_a m n ⟨qA, qa, qB, qb⟩ W S (hn.below hW) ht)
 have HLB := Lib.hid (fun (hok : nodeOk n = true) (W : World) (hW : Below w.heap.size w W) => l5Build_yes m n ⟨qA, qa, qB, qb⟩ W S 200 (hn.below hW) ht hok (by decide) (by decide))
 dsimp only at HOK HLB ⊢
 by_cases hok : nodeOk n = true
 · have HL2 := Lib.hid (HLB.out hok)
   obtain ⟨s0, hs0, -⟩ := build_one (size := 200) hok (by have := node_ok hok; unfold nodeWords; rw [if_pos hok]; omega)
   have HV : Hid (bldV n 200 = some [s0]) := Lib.hid (by unfold bldV; rw [if_pos ⟨hok, by decide, by decide⟩]; exact hs0)
   rw [hok] at HOK
   rw [hs0] at HL2
   clear HLB hn hb0 hok hs0
   go_enter Tryz.func20, Tryz.ntmps20
   go_wp2_with fail
   refine (HOK.out _ HB0.out).mono ?_
   rintro e w1 ⟨rfl, hb1⟩
   have HB1 := Lib.hid (HB0.out.trans (hb1.mono HB0.out.size))
   obtain ⟨n0, n1, n2, n3, n4, n5⟩ := cells6 ((hb1.block _ (row_lt R0.out)).trans R0.out)
   clear hb1
   go_wp2_with fail
   refine (HL2.out _ HB1.out).mono ?_
   rintro e w3 (⟨hnone, A, c, rfl, hb3⟩ | ⟨ss, A, c, hsome, hks, rfl, ho, hb3⟩)
   · cases hnone
   · injection hsome with hsome
     subst hsome
     have HB3 := Lib.hid (HB1.out.trans (hb3.mono HB1.out.size))
     obtain ⟨g, cap, cur, hv, -⟩ := own_cases ho (by simp)
     injection hv with e1 e2 e3
     subst e1
     have hc := ho.cells (g := g) rfl 0 (strS s0) (by simp)
     rw [add_zero0] at hc
     clear hb3 hks ho n0 n1 n2 n3 n4 n5
     go_wp2
     exact bodyPost_ret (v := .tuple #[strV s0, .bool true]) (by simp [results, Tryz.results20, go_sem]) rfl (.inl ⟨s0, [], HV.out, rfl, HB3.out⟩)
 · have HV : Hid (bldV n 200 = none) := Lib.hid (by unfold bldV; rw [if_neg (fun h => hok h.1)])
   rw [show nodeOk n = false by simpa using hok] at HOK
   clear HLB hn hb0 hok
   go_enter Tryz.func20, Tryz.ntmps20
   go_wp2_with fail
   refine (HOK.out _ HB0.out).mono ?_
   rintro e w1 ⟨rfl, hb1⟩
   have HB1 := Lib.hid (HB0.out.trans (hb1.mono HB0.out.size))
   clear hb1
   go_wp2
   exact bodyPost_ret (v := .tuple #[.string { data := #[] }, .bool false]) (by simp [results, Tryz.results20, go_sem]) rfl (.inr ⟨HV.out, rfl, HB1.out⟩)
end Go.Proofs.YtlbfffokkhccaaaGreatDoor
namespace Go.Proofs.YtlbfffokkhccaaaGreatDoor
open Go.RowKit
def oneS : Option Segs → ByteArray
 | some (s :: _) => ⟨s.toArray⟩
 | _ => { data := #[] }
def oneB : Option Segs → Bool
 | some _ => true
 | none => false
theorem One1.det {r : Option Segs} {w : World} {e : Ending} {w' : World} (h : One1 r w e w') : e = .returned (.tuple #[.string (oneS r), .bool (oneB r)]) ∧ Below w.heap.size w w' := by
 rcases h with ⟨s, t, rfl, rfl, hb⟩ | ⟨rfl, rfl, hb⟩
 · exact ⟨rfl, hb⟩
 · exact ⟨rfl, hb⟩
end Go.Proofs.YtlbfffokkhccaaaGreatDoor
namespace Go.Proofs.YtlbfffokkhccaaaGreatDoor
open Go.RowKit Go.Deep
theorem one_rd {n : Nd} (h : oneB (bldV n 200) = true) : nodeOk n = true ∧ ∃ s : List UInt8, bldV n 200 = some [s] ∧ s.length ≤ 1600 ∧ s.length % 8 = 0 ∧ oneS (bldV n 200) = ⟨s.toArray⟩ ∧ frOk [(⟨s.toArray⟩ : ByteArray)] = true ∧ RepN (sgz [(⟨s.toArray⟩ : ByteArray)]) 8 n 0 0 := by
 have hok : nodeOk n = true := by
  unfold bldV at h
  by_cases e : nodeOk n = true ∧ 1 ≤ (200 : Int) ∧ (200 : Int) ≤ 200
  · exact e.1
  · rw [if_neg e] at h; cases h
 have hw := (node_ok hok).2
 have hnw : nodeWords n = wordsN 8 n := by unfold nodeWords; rw [if_pos hok]
 obtain ⟨s, h1, h2⟩ := build_one (size := 200) hok (by omega)
 have hb : bldV n 200 = some [s] := by
  unfold bldV
  rw [if_pos ⟨hok, by decide, by decide⟩]
  exact h1
 have hz : (⟨s.toArray⟩ : ByteArray).size = s.length := by simp [ByteArray.size]
 refine ⟨hok, s, hb, by omega, by omega, by rw [hb]; rfl, ?_, ?_⟩
 · unfold frOk tot
   simp only [List.length_cons, List.length_nil, List.all_cons, List.all_nil, List.map_cons, List.map_nil, List.sum_cons, List.sum_nil, Bool.and_eq_true, decide_eq_true_eq, hz]
   refine ⟨by decide, ⟨by omega, trivial⟩, by omega⟩
 · have := build_rep (L := 200) (size := 200) (by decide) (node_ok hok).1 h1
   have e : sgz [(⟨s.toArray⟩ : ByteArray)] = [s] := by simp [sgz]
   rw [e]
   exact this
end Go.Proofs.YtlbfffokkhccaaaGreatDoor
namespace Go.Proofs.YtlbfffokkhccaaaGreatDoor
open Go.RowKit Go.Deep
set_option maxHeartbeats 4000000 in
set_option maxRecDepth 100000 in
theorem implRead_g (A : Option Addr) (cap : Nat) (zs : List ByteArray) (limit : Int) (w : World) (n : Nd) (L2 : Int) (h : Strs w A zs) (hok : frOk zs = true) (hl0 : 0 ≤ limit) (hl1 : limit ≤ 1000) (h0 : 0 < zs.length) (hle : 8 ≤ (zs[0]).size) (HC0 : ∀ (W : World) (x y : Nat), Rdr W (w.heap.size + 1) A cap zs limit → W.heap[x]? = some (.cells #[.pointer (some ⟨w.heap.size + 1, 0, none⟩)] 64 (0, 0)) → W.heap[y]? = some (.cells #[.int .i64 1] 3 (0, 0)) → Calls Tryz.prog 84 #[plV 0 0, .pointer (some ⟨x, 0, none⟩), .pointer (some ⟨y, 0, none⟩)] W (NdQ 16 (w.heap.size + 1) A cap zs L2 n W)) :
 Calls Tryz.prog 15 #[.slice A zs.length cap, .int .i64 limit] w (ReadQ n w) := by
 have hfo := hok
 unfold frOk at hfo
 rw [Bool.and_eq_true, Bool.and_eq_true, decide_eq_true_eq, List.all_eq_true, decide_eq_true_eq] at hfo
 obtain ⟨f1, f2, f3⟩ := hfo
 have hsm : ∀ s ∈ zs, s.size ≤ 1600 ∧ s.size % 8 = 0 := fun s hs => ⟨Nat.le_trans (tot_mem zs s hs) f3, by have := f2 s hs; simpa using this⟩
 have HFO : Hid (∀ W : World, Below w.heap.size w W → Calls Tryz.prog 17 #[.slice A zs.length cap] W fun e w' => e = .returned (.bool true) ∧ W = w') := Lib.hid fun W hW => by
  have := implFrameOk_any A cap zs W (h.below hW) (by omega)
  rwa [hok] at this
 have HWI : Hid (∀ W : World, Calls Tryz.prog 43 #[.int .i64 limit, .int .i64 1001] W fun e w' => e = .returned (.bool true) ∧ W = w') := Lib.hid fun W => by
  have := within_a limit 1001 W
  rwa [show wiB limit 1001 = true by simp [wiB]; omega] at this
 have hb0 := ((Below.refl w.heap.size w).alloc (Nat.le_refl _) (.cells #[.int .i64 0, .string { data := #[] }, .slice none 0 0, .int .i64 0, .int .i64 0, .slice none 0 0] nodeT)).alloc (by simp) (.cells #[.slice A zs.length cap, .int .i64 limit] rdrT)
 have hr1 : ((w.alloc (.cells #[.int .i64 0, .string { data := #[] }, .slice none 0 0, .int .i64 0, .int .i64 0, .slice none 0 0] nodeT)).alloc (.cells #[.slice A zs.length cap, .int .i64 limit] rdrT)).heap[w.heap.size + 1]? = some (.cells #[.slice A zs.length cap, .int .i64 limit] rdrT (0, 0)) := heap_alloc2_new w _ _
 have hr0 : ((w.alloc (.cells #[.int .i64 0, .string { data := #[] }, .slice none 0 0, .int .i64 0, .int .i64 0, .slice none 0 0] nodeT)).alloc (.cells #[.slice A zs.length cap, .int .i64 limit] rdrT)).heap[w.heap.size]? = some (.cells #[.int .i64 0, .string { data := #[] }, .slice none 0 0, .int .i64 0, .int .i64 0, .slice none 0 0] nodeT (0, 0)) := heap_alloc2_old w _ _
 have hrdr : Rdr ((w.alloc (.cells #[.int .i64 0, .string { data := #[] }, .slice none 0 0, .int .i64 0, .int .i64 0, .slice none 0 0] nodeT)).alloc (.cells #[.slice A zs.length cap, .int .i64 limit] rdrT)) (w.heap.size + 1) A cap zs limit := ⟨hr1, h.below hb0, fun a ha => by
  rcases h.2 with e | ⟨a', ha', hlt, _⟩
  · rw [e] at h0; cases h0
  · rw [ha] at ha'; injection ha' with ha'; subst ha'; omega, f1.2, hsm⟩
 have HRD := Lib.hid hrdr
 have HB0 := Lib.hid hb0
 have R0 := Lib.hid hr0
 have HHA : Hid (∀ W : World, Rdr W (w.heap.size + 1) A cap zs limit → Calls Tryz.prog 44 #[.pointer (some ⟨w.heap.size + 1, 0, none⟩), plV 0 0, .int .i64 1] W fun e w' => e = .returned (.bool true) ∧ Below W.heap.size W w') := Lib.hid fun W h1 => has_a h1 0 0 1 h0 (by omega)
 have HPD := Lib.hid (pointed_a (w.heap.size + 1) 1)
 have HCL := Lib.hid HC0
 have HAS := Lib.hid as_nil
 clear h hok hl0 hl1 HC0 f1 f2 f3 hsm h0 hle hb0 hr1 hr0 hrdr
 have hba1 := (Below.refl w.heap.size w).alloc (Nat.le_refl _) (.cells #[.int .i64 0, .string { data := #[] }, .slice none 0 0, .int .i64 0, .int .i64 0, .slice none 0 0] nodeT)
 go_enter Tryz.func15, Tryz.ntmps15
 go_wp2_with (first | (go_at_call 17; (with_reducible refine (HFO.out _ hba1).mono ?_); rintro e w1 ⟨rfl, rfl⟩) | (go_at_call 43; (with_reducible refine (HWI.out _).mono ?_); rintro e w1 ⟨rfl, rfl⟩) | fail)
 generalize ((w.alloc (.cells #[.int .i64 0, .string { data := #[] }, .slice none 0 0, .int .i64 0, .int .i64 0, .slice none 0 0] nodeT)).alloc (.cells #[.slice A zs.length cap, .int .i64 limit] rdrT)) = W at *
 refine (HHA.out _ HRD.out).mono ?_
 rintro e w2 ⟨rfl, hb2⟩
 have HR2 := Lib.hid (HRD.out.below hb2)
 have HB2 := Lib.hid (HB0.out.trans (hb2.mono HB0.out.size))
 have q0 := (hb2.block _ (row_lt R0.out)).trans R0.out
 have Q0 := Lib.hid q0
 clear q0 hb2 hba1 HRD HB0 R0
 go_wp2_with fail
 refine (HPD.out _).mono ?_
 rintro e w3 ⟨rfl, hb3, hv1, hv2⟩
 have HC3 := Lib.hid (HCL.out w3 _ _ (HR2.out.below hb3) hv1 hv2)
 have HB3 := Lib.hid (HB2.out.trans (hb3.mono HB2.out.size))
 have q0 := (hb3.block _ (row_lt Q0.out)).trans Q0.out
 have Q3 := Lib.hid q0
 have HS3 : Hid (w.heap.size + 1 < w3.heap.size) := Lib.hid (Nat.lt_of_lt_of_le HR2.out.lt hb3.size)
 clear q0 hb3 hv1 hv2 HR2 HB2 Q0
 unfold NdQ at HC3
 go_wp2_with fail
 refine HC3.out.mono ?_
 rintro e w4 ⟨hy, rfl, hny, hrd4, hk4⟩
 have hba := ((Below.refl w4.heap.size w4).alloc (Nat.le_refl _) (.cells #[.int .i64 n.kind, .string n.data, .slice hy.A n.ptrs.length hy.a, .int .i64 n.size, .int .i64 n.count, .slice hy.B n.items.length hy.b] nodeT)).alloc (by simp) (.cells #[.int .i64 0] 75)
 have y0 := heap_alloc2_old w4 (.cells #[.int .i64 n.kind, .string n.data, .slice hy.A n.ptrs.length hy.a, .int .i64 n.size, .int .i64 n.count, .slice hy.B n.items.length hy.b] nodeT) (.cells #[.int .i64 0] 75)
 have Y0 := Lib.hid y0
 have q4 := (hba.block _ (by have := hk4.size; have := row_lt Q3.out; omega)).trans ((hk4.block _ (row_lt Q3.out) (by omega)).trans Q3.out)
 have Q4 := Lib.hid q4
 have HN4 := Lib.hid (hny.below hba)
 have HB4 : Hid (Below w.heap.size w4 ((w4.alloc (.cells #[.int .i64 n.kind, .string n.data, .slice hy.A n.ptrs.length hy.a, .int .i64 n.size, .int .i64 n.count, .slice hy.B n.items.length hy.b] nodeT)).alloc (.cells #[.int .i64 0] 75))) := Lib.hid (hba.mono (by have := hk4.size; have := HS3.out; omega))
 have HK4 : Hid (Below w.heap.size w3 w4) := Lib.hid (hk4.below (by have := HS3.out; omega) (by omega))
 clear hny hrd4 hk4 hba y0 q4 HC3
 go_wp2_with fail
 generalize (w4.alloc (.cells #[.int .i64 n.kind, .string n.data, .slice hy.A n.ptrs.length hy.a, .int .i64 n.size, .int .i64 n.count, .slice hy.B n.items.length hy.b] nodeT)).alloc (.cells #[.int .i64 0] 75) = W5 at *
 refine (HAS.out _ _ _).mono ?_
 rintro e w6 ⟨rfl, hb6⟩
 have y6 := (hb6.block _ (row_lt Y0.out)).trans Y0.out
 have q6 := (hb6.block _ (row_lt Q4.out)).trans Q4.out
 have Q6 := Lib.hid q6
 have HN6 := Lib.hid (HN4.out.below hb6)
 have hs5 : w.heap.size ≤ W5.heap.size := by have := row_lt Q4.out; omega
 have HB6 := Lib.hid (((HB3.out.trans HK4.out).trans HB4.out).trans (hb6.mono hs5))
 obtain ⟨m0, m1, m2, m3, m4, m5⟩ := cells6 y6
 obtain ⟨c0, c1, c2, c3, c4, c5⟩ := cells6 q6
 have hfz := row_free q6
 clear y6 q6 hb6 hs5
 go_wp2
 obtain ⟨wf, hwf, hrw, hkf⟩ := store6K Q6.out (.int .i64 n.kind) (.string n.data) (.slice hy.A n.ptrs.length hy.a) (.int .i64 n.size) (.int .i64 n.count) (.slice hy.B n.items.length hy.b)
 rw [hwf]
 obtain ⟨e0, e1, e2, e3, e4, e5⟩ := cells6 hrw
 have hbf : Below w.heap.size w6 wf := hkf.below (by have := HB6.out.size; omega) (by omega)
 exact bodyPost_ret (v := .tuple #[.agg #[.int .i64 n.kind, .string n.data, .slice hy.A n.ptrs.length hy.a, .int .i64 n.size, .int .i64 n.count, .slice hy.B n.items.length hy.b], .int .i64 0]) (by simp [results, Tryz.results15, go_sem, e0, e1, e2, e3, e4, e5]) rfl ⟨hy, rfl, (HN6.out.keepsR hkf (fun k (hk : w3.heap.size ≤ k) => by have := HS3.out; omega)).weak (fun k (hk : w3.heap.size ≤ k) => by have := HS3.out; show w.heap.size ≤ k; omega), HB6.out.trans hbf⟩
end Go.Proofs.YtlbfffokkhccaaaGreatDoor