/- Texts of the proof of the law FnBuildOne, side by side: part 32. -/
import Derived.Laws.OwnMore
import Derived.OwnWalk
import Derived.Deep.QuietTactic
import Derived.BigQuiet
import Derived.Deep.RegionLaw
import Derived.Deep.RegionWith
import Derived.Test.YtlbfffokkhccaaaGreatDoorMBuildOne00
import Derived.Test.YtlbfffokkhccaaaGreatDoorMBuildOne01
import Derived.Test.YtlbfffokkhccaaaGreatDoorMBuildOne02
import Derived.Test.YtlbfffokkhccaaaGreatDoorMBuildOne03
import Derived.Test.YtlbfffokkhccaaaGreatDoorMBuildOne04
import Derived.Test.YtlbfffokkhccaaaGreatDoorMBuildOne05
import Derived.Test.YtlbfffokkhccaaaGreatDoorMBuildOne06
import Derived.Test.YtlbfffokkhccaaaGreatDoorMBuildOne07
import Derived.Test.YtlbfffokkhccaaaGreatDoorMBuildOne08
import Derived.Test.YtlbfffokkhccaaaGreatDoorMBuildOne09
import Derived.Test.YtlbfffokkhccaaaGreatDoorMBuildOne10
import Derived.Test.YtlbfffokkhccaaaGreatDoorMBuildOne11
import Derived.Test.YtlbfffokkhccaaaGreatDoorMBuildOne12
import Derived.Test.YtlbfffokkhccaaaGreatDoorMBuildOne13
import Derived.Test.YtlbfffokkhccaaaGreatDoorMBuildOne14
import Derived.Test.YtlbfffokkhccaaaGreatDoorMBuildOne15
import Derived.Test.YtlbfffokkhccaaaGreatDoorMBuildOne16
import Derived.Test.YtlbfffokkhccaaaGreatDoorMBuildOne17
import Derived.Test.YtlbfffokkhccaaaGreatDoorMBuildOne18
import Derived.Test.YtlbfffokkhccaaaGreatDoorMBuildOne19
import Derived.Test.YtlbfffokkhccaaaGreatDoorMBuildOne20
import Derived.Test.YtlbfffokkhccaaaGreatDoorMBuildOne21
import Derived.Test.YtlbfffokkhccaaaGreatDoorMBuildOne22
import Derived.Test.YtlbfffokkhccaaaGreatDoorMBuildOne23
import Derived.Test.YtlbfffokkhccaaaGreatDoorMBuildOne24
import Derived.Test.YtlbfffokkhccaaaGreatDoorMBuildOne25
import Derived.Test.YtlbfffokkhccaaaGreatDoorMBuildOne26
import Derived.Test.YtlbfffokkhccaaaGreatDoorMBuildOne27
import Derived.Test.YtlbfffokkhccaaaGreatDoorMBuildOne28
import Derived.Test.YtlbfffokkhccaaaGreatDoorMBuildOne29
import Derived.Test.YtlbfffokkhccaaaGreatDoorMBuildOne30
import Derived.Test.YtlbfffokkhccaaaGreatDoorMBuildOne31
namespace Go.Proofs.YtlbfffokkhccaaaGreatDoor
open Go.RowKit Go.Deep
def One1 (r : Option Segs) (w : World) (e : Ending) (w' : World) : Prop := (∃ s t, r = some (s :: t) ∧ e = .returned (.tuple #[strV s, .bool true]) ∧ Below w.heap.size w w') ∨ (r = none ∧ e = .returned (.tuple #[.string { data := #[] }, .bool false]) ∧ Below w.heap.size w w')
set_option maxHeartbeats 4000000 in
set_option maxRecDepth 100000 in
theorem implBuildOne_a (m : Nat) (n : Nd) (h : Hd) (w : World) (S : Nat → Prop) (hn : NdAt w S m n h) (ht : totN m n ≤ 2000000) :
    Calls Tryz.prog 19 #[.agg #[.int .i64 n.kind, .string n.data, .slice h.A n.ptrs.length h.a, .int .i64 n.size, .int .i64 n.count, .slice h.B n.items.length h.b]] w (One1 (bldV n 200) w) := by
  have hne : ∀ ss, bldV n 200 = some ss → ∃ s t, ss = s :: t := fun ss hss => by
    unfold bldV at hss
    split at hss
    · rename_i hh
      obtain ⟨s, hs, _⟩ := build_one (size := 200) hh.1 (by have := node_ok hh.1; unfold nodeWords; rw [if_pos hh.1]; omega)
      rw [show (200 : Int).toNat = 200 from rfl, hs] at hss
      injection hss with hss
      exact ⟨s, [], hss.symm⟩
    · cases hss
  have HNE := Lib.hid hne
  obtain ⟨qA, qa, qB, qb⟩ := h
  have hb0 := (Below.refl w.heap.size w).alloc (Nat.le_refl _) (.cells #[.int .i64 n.kind, .string n.data, .slice qA n.ptrs.length qa, .int .i64 n.size, .int .i64 n.count, .slice qB n.items.length qb] nodeT)
  have HB := Lib.hid (implBuild_a m n ⟨qA, qa, qB, qb⟩ _ S 200 (hn.below hb0) ht)
  dsimp only at HB ⊢
  have HB0 := Lib.hid hb0
  generalize bldV n 200 = r at *
  clear hn hb0 hne
  go_enter Tryz.func19, Tryz.ntmps19
  go_wp2_with fail
  refine HB.out.mono ?_
  rintro e w1 (⟨rfl, rfl, hb1⟩ | ⟨ss, A, c, rfl, rfl, ho, hb1⟩)
  · have HB1 := Lib.hid (HB0.out.trans (hb1.mono HB0.out.size))
    clear hb1
    go_wp2
    exact bodyPost_ret (v := .tuple #[.string { data := #[] }, .bool false]) (by simp [results, Tryz.results19, go_sem]) rfl (.inr ⟨rfl, rfl, HB1.out⟩)
  · have HB1 := Lib.hid (HB0.out.trans (hb1.mono HB0.out.size))
    obtain ⟨s, t, rfl⟩ := HNE.out ss rfl
    obtain ⟨g, cap, cur, hv, -⟩ := own_cases ho (by simp)
    injection hv with e1 e2 e3
    subst e1
    have hc := ho.cells (g := g) rfl 0 (strV s) (by simp)
    rw [add_zero0] at hc
    clear hb1 ho
    go_wp2
    exact bodyPost_ret (v := .tuple #[strV s, .bool true]) (by simp [results, Tryz.results19, go_sem]) rfl (.inl ⟨s, t, rfl, rfl, HB1.out⟩)
end Go.Proofs.YtlbfffokkhccaaaGreatDoor

namespace Go.Proofs.YtlbfffokkhccaaaGreatDoor
open Go.RowKit Go.Deep
def txS (ss : Segs) : List ByteArray := ss.map fun s => ⟨s.toArray⟩
theorem txS_length (ss : Segs) : (txS ss).length = ss.length := by simp [txS]
theorem frOk_txS {ss : Segs} (hk : SOk LS ss) : frOk (txS ss) = decide (totS ss ≤ 200) := by
  have h1 : ∀ s ∈ ss, s.length % 8 = 0 := fun s hs => by
    obtain ⟨i, hi, e⟩ := List.getElem_of_mem hs
    have := hk.wds i
    rw [sgq_eq hi, e] at this
    exact this
  have h2 : ∀ (l : Segs), (∀ s ∈ l, s.length % 8 = 0) → (txS l).all (fun s => decide (s.size % 8 = 0)) = true ∧ tot (txS l) = 8 * totS l := by
    intro l
    induction l with
    | nil => intro _; exact ⟨rfl, rfl⟩
    | cons s t ih =>
      intro h
      obtain ⟨i1, i2⟩ := ih (fun x hx => h x (List.mem_cons_of_mem _ hx))
      have h0 := h s (List.mem_cons_self ..)
      have hs : (⟨s.toArray⟩ : ByteArray).size = s.length := by simp [ByteArray.size]
      have hw : s.length = 8 * wn s := by unfold wn; omega
      simp only [txS, tot, totS] at i1 i2 ⊢
      rw [List.map_cons, List.all_cons, List.map_cons, List.sum_cons, List.map_cons, List.sum_cons, i1, i2, hs]
      exact ⟨by simp [h0], by omega⟩
  obtain ⟨h3, h4⟩ := h2 ss h1
  unfold frOk
  rw [h3, h4, txS_length]
  have h5 := hk.one
  have h6 := hk.six
  by_cases h : totS ss ≤ 200
  · rw [decide_eq_true h, decide_eq_true (show 1 ≤ ss.length ∧ ss.length ≤ 6 from ⟨h5, h6⟩), decide_eq_true (show 8 * totS ss ≤ 1600 by omega)]; rfl
  · rw [decide_eq_false h, decide_eq_false (show ¬ 8 * totS ss ≤ 1600 by omega)]; simp
theorem tot_txS {ss : Segs} (hk : SOk LS ss) : tot (txS ss) ≤ 1099511627776 := by
  have : ∀ (l : Segs), tot (txS l) ≤ 8 * totS l + 8 * l.length := by
    intro l
    induction l with
    | nil => exact Nat.le_refl _
    | cons s t ih =>
      have hs : (⟨s.toArray⟩ : ByteArray).size = s.length := by simp [ByteArray.size]
      have hw : s.length ≤ 8 * wn s + 8 := by unfold wn; omega
      simp only [txS, tot, totS] at ih ⊢
      rw [List.map_cons, List.map_cons, List.sum_cons, List.map_cons, List.sum_cons, List.length_cons, hs]
      omega
  have h1 := this ss
  have h2 := hk.totS
  have h3 := hk.six
  unfold LS at h2
  omega
theorem strs_txS {w : World} {r : Nat} {ss : Segs} (hk : SOk LS ss) (hr : r < w.heap.size) (hc : ∀ i, i < ss.length → w.cell? ⟨r, i, none⟩ = some (strS (sgS ss i))) : Strs w (some ⟨r, 0, none⟩) (txS ss) := by
  refine ⟨fun s hs => ?_, .inr ⟨_, rfl, hr, fun i hi => ?_⟩⟩
  · obtain ⟨x, hx, rfl⟩ := List.mem_map.1 hs
    obtain ⟨i, hi, e⟩ := List.getElem_of_mem hx
    have h1 := sb_len hk i
    rw [sgq_eq hi, e] at h1
    have hs : (⟨x.toArray⟩ : ByteArray).size = x.length := by simp [ByteArray.size]
    rw [hs]
    unfold maxLen
    omega
  · have hi' : i < ss.length := by rw [txS_length] at hi; exact hi
    rw [add_zero0, hc i hi', sgq_eq hi']
    simp [txS]
def BuildSQ (r : Option Segs) (w : World) (e : Ending) (w' : World) : Prop :=
  (r = none ∧ ∃ A c, e = .returned (.tuple #[.slice A 0 c, .bool false]) ∧ Below w.heap.size w w') ∨
  ∃ ss A c, r = some ss ∧ SOk LS ss ∧ e = .returned (.tuple #[.slice A ss.length c, .bool true]) ∧ w'.ownsRow w.heap.size stT 1 (.slice A ss.length c) ss.length (ss.map strS) ∧ Below w.heap.size w w'
set_option maxHeartbeats 4000000 in
set_option maxRecDepth 100000 in
theorem l5Build_yes (m : Nat) (n : Nd) (h : Hd) (w : World) (S : Nat → Prop) (z : Nat) (hn : NdAt w S m n h) (ht : totN m n ≤ 2000000) (hok : nodeOk n = true) (h1 : 1 ≤ z) (h2 : z ≤ 200) :
    Calls Tryz.prog 40 #[.agg #[.int .i64 n.kind, .string n.data, .slice h.A n.ptrs.length h.a, .int .i64 n.size, .int .i64 n.count, .slice h.B n.items.length h.b], .int .i64 (z : Int)] w (BuildSQ (buildP 200 z n) w) := by
  obtain ⟨qA, qa, qB, qb⟩ := h
  dsimp only
  obtain ⟨ho8, hw8⟩ := node_ok hok
  have hlim := build_lim (size := z) ho8 LS (by decide)
  have HLIM := Lib.hid hlim
  have hk0 := SOKL LS (by decide)
  have hbW : Below w.heap.size w (((w.alloc (.cells #[.int .i64 n.kind, .string n.data, .slice qA n.ptrs.length qa, .int .i64 n.size, .int .i64 n.count, .slice qB n.items.length qb] nodeT)).alloc (.cells #[strS (zer 1)] stT)).alloc (.cells #[.slice (some ⟨w.heap.size + 1, 0, none⟩) 1 1, .int .i64 (z : Int), .bool false] wrT)) := (((Below.refl _ w).alloc (Nat.le_refl _) _).alloc (by simp) _).alloc (by simp; omega) _
  have r0 : ((((w.alloc (.cells #[.int .i64 n.kind, .string n.data, .slice qA n.ptrs.length qa, .int .i64 n.size, .int .i64 n.count, .slice qB n.items.length qb] nodeT)).alloc (.cells #[strS (zer 1)] stT)).alloc (.cells #[.slice (some ⟨w.heap.size + 1, 0, none⟩) 1 1, .int .i64 (z : Int), .bool false] wrT))).heap[w.heap.size]? = some (.cells #[.int .i64 n.kind, .string n.data, .slice qA n.ptrs.length qa, .int .i64 n.size, .int .i64 n.count, .slice qB n.items.length qb] nodeT (0, 0)) := heap_alloc_keep (heap_alloc_keep (heap_alloc_new w _) _) _
  have r1 : ((((w.alloc (.cells #[.int .i64 n.kind, .string n.data, .slice qA n.ptrs.length qa, .int .i64 n.size, .int .i64 n.count, .slice qB n.items.length qb] nodeT)).alloc (.cells #[strS (zer 1)] stT)).alloc (.cells #[.slice (some ⟨w.heap.size + 1, 0, none⟩) 1 1, .int .i64 (z : Int), .bool false] wrT))).heap[w.heap.size + 1]? = some (.cells #[strS (zer 1)] stT (0, 0)) := by
    have := heap_alloc_keep (heap_alloc_new (w.alloc (.cells #[.int .i64 n.kind, .string n.data, .slice qA n.ptrs.length qa, .int .i64 n.size, .int .i64 n.count, .slice qB n.items.length qb] nodeT)) (.cells #[strS (zer 1)] stT)) (.cells #[.slice (some ⟨w.heap.size + 1, 0, none⟩) 1 1, .int .i64 (z : Int), .bool false] wrT)
    simpa using this
  have r2 : ((((w.alloc (.cells #[.int .i64 n.kind, .string n.data, .slice qA n.ptrs.length qa, .int .i64 n.size, .int .i64 n.count, .slice qB n.items.length qb] nodeT)).alloc (.cells #[strS (zer 1)] stT)).alloc (.cells #[.slice (some ⟨w.heap.size + 1, 0, none⟩) 1 1, .int .i64 (z : Int), .bool false] wrT))).heap[w.heap.size + 2]? = some (.cells #[.slice (some ⟨w.heap.size + 1, 0, none⟩) 1 1, .int .i64 (z : Int), .bool false] wrT (0, 0)) := by
    have := heap_alloc_new ((w.alloc (.cells #[.int .i64 n.kind, .string n.data, .slice qA n.ptrs.length qa, .int .i64 n.size, .int .i64 n.count, .slice qB n.items.length qb] nodeT)).alloc (.cells #[strS (zer 1)] stT)) (.cells #[.slice (some ⟨w.heap.size + 1, 0, none⟩) 1 1, .int .i64 (z : Int), .bool false] wrT)
    simpa using this
  have hsb : Sb (((w.alloc (.cells #[.int .i64 n.kind, .string n.data, .slice qA n.ptrs.length qa, .int .i64 n.size, .int .i64 n.count, .slice qB n.items.length qb] nodeT)).alloc (.cells #[strS (zer 1)] stT)).alloc (.cells #[.slice (some ⟨w.heap.size + 1, 0, none⟩) 1 1, .int .i64 (z : Int), .bool false] wrT)) w.heap.size (w.heap.size + 2) z [zer 1] false (fun k => k = w.heap.size + 1 ∨ k = w.heap.size + 2) :=
    ⟨_, r2, ⟨by decide, .inr ⟨w.heap.size + 1, 1, #[strS (zer 1)], rfl, by omega, r1, Nat.le_refl _, by decide, rfl, rfl⟩⟩, by omega, .inr rfl, fun k hk => .inl (Option.some.inj hk).symm⟩
  have HNODE := Lib.hid (swrite_any z h2 8 w.heap.size (w.heap.size + 2) [zer 1] _ (((w.alloc (.cells #[.int .i64 n.kind, .string n.data, .slice qA n.ptrs.length qa, .int .i64 n.size, .int .i64 n.count, .slice qB n.items.length qb] nodeT)).alloc (.cells #[strS (zer 1)] stT)).alloc (.cells #[.slice (some ⟨w.heap.size + 1, 0, none⟩) 1 1, .int .i64 (z : Int), .bool false] wrT)) 0 0 m n ⟨qA, qa, qB, qb⟩ hsb (fun k hk => by
    have : ((((w.alloc (.cells #[.int .i64 n.kind, .string n.data, .slice qA n.ptrs.length qa, .int .i64 n.size, .int .i64 n.count, .slice qB n.items.length qb] nodeT)).alloc (.cells #[strS (zer 1)] stT)).alloc (.cells #[.slice (some ⟨w.heap.size + 1, 0, none⟩) 1 1, .int .i64 (z : Int), .bool false] wrT))).heap.size = w.heap.size + 3 := by simp
    rw [this]
    omega) hk0 (by decide) (by decide) (nd_baseS hn.lt' hbW) ho8 ht (by omega) (by rw [show totS [zer 1] = 1 by decide]; unfold LS; omega))
  dsimp only at HNODE
  have HM := Lib.hid (fun W => l1Many_any ⟨#[0]⟩ 8 W (by omega) (by omega) (by decide) (by decide))
  have hmz : (⟨(repL (⟨#[0]⟩ : ByteArray).data.toList (8 : Int).toNat).toArray⟩ : ByteArray) = ⟨(zer 1).toArray⟩ := by decide +kernel
  rw [hmz] at HM
  have HBW := Lib.hid hbW
  have HSOK : Hid (∀ s1, wrP LS z 8 n [zer 1] 0 0 = some s1 → SOk LS s1) := Lib.hid (fun s1 hs => (wr_some LS z 8 n [zer 1] 0 0 s1 ho8 hk0 (by decide) (by decide) hs).1)
  have HBP : Hid (buildP LS z n = wrP LS z 8 n [zer 1] 0 0) := Lib.hid rfl
  rw [HBP.out] at HLIM
  generalize wrP LS z 8 n [zer 1] 0 0 = rr at *
  clear hn hok ho8 hlim hk0 hbW r0 r1 r2 hsb hmz HBP
  go_enter Tryz.func40, Tryz.ntmps40
  go_wp2_with fail
  refine (HM.out _).mono ?_
  rintro e w9 ⟨rfl, rfl⟩
  go_wp2_with fail
  refine HNODE.out.mono ?_
  rintro e w1 ⟨rfl, hk1, hor⟩
  have HK1 := Lib.hid (HBW.out.trans (hk1.below HBW.out.size (fun k hk => by rcases hk with h | h <;> omega)))
  rcases hor with ⟨hnone, s1, hs1⟩ | ⟨s1, hsome, hs1⟩
  · have HR : Hid (buildP 200 z n = none) := Lib.hid (by rw [HLIM.out, hnone]; rfl)
    obtain ⟨v, hb, -⟩ := hs1
    obtain ⟨c0, c1, c2⟩ := cells3 hb
    clear hb hk1
    go_wp2
    exact bodyPost_ret (v := .tuple #[.slice (some ⟨w1.heap.size, 0, none⟩) 0 0, .bool false]) (by simp [results, Tryz.results40, go_sem]) rfl (.inl ⟨HR.out, _, _, rfl, HK1.out.alloc HK1.out.size _⟩)
  · have hks := HSOK.out s1 hsome
    obtain ⟨r, cap, hb, ho, hlb, hPb, hPr, hc⟩ := hs1.open2 hks.one
    obtain ⟨c0, c1, c2⟩ := cells3 hb
    have HO := Lib.hid ho
    have HKS := Lib.hid hks
    have hrl : r < w1.heap.size := (ho.lt r rfl).2
    have HFR := Lib.hid (specFrameOk_any (some ⟨r, 0, none⟩) cap (txS s1) w1 (strs_txS hks hrl (fun i hi => (hc i hi).1)) (by rw [txS_length]; have := hks.six; omega) (tot_txS hks))
    rw [txS_length, frOk_txS hks] at HFR
    clear hb ho hlb hPb hPr hc hs1 hks hrl hk1
    by_cases hle : totS s1 ≤ 200
    · have HR : Hid (buildP 200 z n = some s1) := Lib.hid (by rw [HLIM.out, hsome, Option.bind_some, if_pos hle])
      rw [decide_eq_true hle] at HFR
      clear hsome hle
      go_wp2_with fail
      refine HFR.out.mono ?_
      rintro e w2 ⟨rfl, rfl⟩
      go_wp2
      exact bodyPost_ret (v := .tuple #[.slice (some ⟨r, 0, none⟩) s1.length cap, .bool true]) (by simp [results, Tryz.results40, go_sem]) rfl (.inr ⟨s1, _, _, HR.out, HKS.out, rfl, HO.out, HK1.out⟩)
    · have HR : Hid (buildP 200 z n = none) := Lib.hid (by rw [HLIM.out, hsome, Option.bind_some, if_neg hle])
      rw [decide_eq_false hle] at HFR
      clear hsome hle
      go_wp2_with fail
      refine HFR.out.mono ?_
      rintro e w2 ⟨rfl, rfl⟩
      go_wp2
      exact bodyPost_ret (v := .tuple #[.slice (some ⟨w1.heap.size, 0, none⟩) 0 0, .bool false]) (by simp [results, Tryz.results40, go_sem]) rfl (.inl ⟨HR.out, _, _, rfl, HK1.out.alloc HK1.out.size _⟩)
end Go.Proofs.YtlbfffokkhccaaaGreatDoor

namespace Go.Proofs.YtlbfffokkhccaaaGreatDoor
open Go.RowKit Go.Deep
set_option maxHeartbeats 4000000 in
set_option maxRecDepth 100000 in
theorem specBuildOne_a (m : Nat) (n : Nd) (h : Hd) (w : World) (S : Nat → Prop) (hn : NdAt w S m n h) (ht : totN m n ≤ 2000000) :
    Calls Tryz.prog 20 #[.agg #[.int .i64 n.kind, .string n.data, .slice h.A n.ptrs.length h.a, .int .i64 n.size, .int .i64 n.count, .slice h.B n.items.length h.b]] w (One1 (bldV n 200) w) := by
  obtain ⟨qA, qa, qB, qb⟩ := h
  have hb0 := (Below.refl w.heap.size w).alloc (Nat.le_refl _) (.cells #[.int .i64 n.kind, .string n.data, .slice qA n.ptrs.length qa, .int .i64 n.size, .int .i64 n.count, .slice qB n.items.length qb] nodeT)
  have HB0 := Lib.hid hb0
  have R0 := Lib.hid (heap_alloc_new w (.cells #[.int .i64 n.kind, .string n.data, .slice qA n.ptrs.length qa, .int .i64 n.size, .int .i64 n.count, .slice qB n.items.length qb] nodeT))
  have HOK := Lib.hid (fun (W : World) (hW : Below w.heap.size w W) => specNodeOk_a m n ⟨qA, qa, qB, qb⟩ W S (hn.below hW) ht)
  have HLB := Lib.hid (fun (hok : nodeOk n = true) (W : World) (hW : Below w.heap.size w W) => l5Build_yes m n ⟨qA, qa, qB, qb⟩ W S 200 (hn.below hW) ht hok (by decide) (by decide))
  dsimp only at HOK HLB ⊢
  by_cases hok : nodeOk n = true
  · have HL2 := Lib.hid (HLB.out hok)
    obtain ⟨s0, hs0, -⟩ := build_one (size := 200) hok (by have := node_ok hok; unfold nodeWords; rw [if_pos hok]; omega)
    have HV : Hid (bldV n 200 = some [s0]) := Lib.hid (by unfold bldV; rw [if_pos ⟨hok, by decide, by decide⟩]; exact hs0)
    rw [hok] at HOK
    rw [hs0] at HL2
    clear HLB hn hb0 hok hs0
    go_enter Tryz.func20, Tryz.ntmps20
    go_wp2_with fail
    refine (HOK.out _ HB0.out).mono ?_
    rintro e w1 ⟨rfl, hb1⟩
    have HB1 := Lib.hid (HB0.out.trans (hb1.mono HB0.out.size))
    obtain ⟨n0, n1, n2, n3, n4, n5⟩ := cells6 ((hb1.block _ (row_lt R0.out)).trans R0.out)
    clear hb1
    go_wp2_with fail
    refine (HL2.out _ HB1.out).mono ?_
    rintro e w3 (⟨hnone, A, c, rfl, hb3⟩ | ⟨ss, A, c, hsome, hks, rfl, ho, hb3⟩)
    · cases hnone
    · injection hsome with hsome
      subst hsome
      have HB3 := Lib.hid (HB1.out.trans (hb3.mono HB1.out.size))
      obtain ⟨g, cap, cur, hv, -⟩ := own_cases ho (by simp)
      injection hv with e1 e2 e3
      subst e1
      have hc := ho.cells (g := g) rfl 0 (strS s0) (by simp)
      rw [add_zero0] at hc
      clear hb3 hks ho n0 n1 n2 n3 n4 n5
      go_wp2
      exact bodyPost_ret (v := .tuple #[strV s0, .bool true]) (by simp [results, Tryz.results20, go_sem]) rfl (.inl ⟨s0, [], HV.out, rfl, HB3.out⟩)
  · have HV : Hid (bldV n 200 = none) := Lib.hid (by unfold bldV; rw [if_neg (fun h => hok h.1)])
    rw [show nodeOk n = false by simpa using hok] at HOK
    clear HLB hn hb0 hok
    go_enter Tryz.func20, Tryz.ntmps20
    go_wp2_with fail
    refine (HOK.out _ HB0.out).mono ?_
    rintro e w1 ⟨rfl, hb1⟩
    have HB1 := Lib.hid (HB0.out.trans (hb1.mono HB0.out.size))
    clear hb1
    go_wp2
    exact bodyPost_ret (v := .tuple #[.string { data := #[] }, .bool false]) (by simp [results, Tryz.results20, go_sem]) rfl (.inr ⟨HV.out, rfl, HB1.out⟩)
end Go.Proofs.YtlbfffokkhccaaaGreatDoor

namespace Go.Proofs.YtlbfffokkhccaaaGreatDoor
open Go.RowKit
def oneS : Option Segs → ByteArray
  | some (s :: _) => ⟨s.toArray⟩
  | _ => { data := #[] }
def oneB : Option Segs → Bool
  | some _ => true
  | none => false
theorem One1.det {r : Option Segs} {w : World} {e : Ending} {w' : World} (h : One1 r w e w') : e = .returned (.tuple #[.string (oneS r), .bool (oneB r)]) ∧ Below w.heap.size w w' := by
  rcases h with ⟨s, t, rfl, rfl, hb⟩ | ⟨rfl, rfl, hb⟩
  · exact ⟨rfl, hb⟩
  · exact ⟨rfl, hb⟩
end Go.Proofs.YtlbfffokkhccaaaGreatDoor

namespace Go.Proofs.YtlbfffokkhccaaaGreatDoor
open Go.RowKit Go.Deep
theorem one_rd {n : Nd} (h : oneB (bldV n 200) = true) : nodeOk n = true ∧ ∃ s : List UInt8, bldV n 200 = some [s] ∧ s.length ≤ 1600 ∧ s.length % 8 = 0 ∧ oneS (bldV n 200) = ⟨s.toArray⟩ ∧ frOk [(⟨s.toArray⟩ : ByteArray)] = true ∧ RepN (sgz [(⟨s.toArray⟩ : ByteArray)]) 8 n 0 0 := by
  have hok : nodeOk n = true := by
    unfold bldV at h
    by_cases e : nodeOk n = true ∧ 1 ≤ (200 : Int) ∧ (200 : Int) ≤ 200
    · exact e.1
    · rw [if_neg e] at h; cases h
  have hw := (node_ok hok).2
  have hnw : nodeWords n = wordsN 8 n := by unfold nodeWords; rw [if_pos hok]
  obtain ⟨s, h1, h2⟩ := build_one (size := 200) hok (by omega)
  have hb : bldV n 200 = some [s] := by
    unfold bldV
    rw [if_pos ⟨hok, by decide, by decide⟩]
    exact h1
  have hz : (⟨s.toArray⟩ : ByteArray).size = s.length := by simp [ByteArray.size]
  refine ⟨hok, s, hb, by omega, by omega, by rw [hb]; rfl, ?_, ?_⟩
  · unfold frOk tot
    simp only [List.length_cons, List.length_nil, List.all_cons, List.all_nil, List.map_cons, List.map_nil, List.sum_cons, List.sum_nil, Bool.and_eq_true, decide_eq_true_eq, hz]
    refine ⟨by decide, ⟨by omega, trivial⟩, by omega⟩
  · have := build_rep (L := 200) (size := 200) (by decide) (node_ok hok).1 h1
    have e : sgz [(⟨s.toArray⟩ : ByteArray)] = [s] := by simp [sgz]
    rw [e]
    exact this
theorem strs_new (w : World) (S : ByteArray) (hS : S.size ≤ maxLen) : Strs (w.alloc (.cells #[.string S] 9)) (some ⟨w.heap.size, 0, none⟩) [S] := by
  refine ⟨fun s hs => by rw [List.mem_singleton.1 hs]; exact hS, .inr ⟨_, rfl, by simp, fun i hi => ?_⟩⟩
  obtain rfl : i = 0 := by simp at hi; omega
  have h := heap_alloc_new w (.cells #[.string S] 9)
  rw [add_zero0, cell_of_row _ _ _ _ _ _ h]
  rfl
end Go.Proofs.YtlbfffokkhccaaaGreatDoor

namespace Go.Proofs.YtlbfffokkhccaaaGreatDoor
open Go.RowKit
set_option maxHeartbeats 400000 in
theorem qnTexts_same (A B : Option Addr) (c d : Nat) (ss : List ByteArray) (w : World) (h : Strs w A ss) (k : Strs w B ss) (hn : ss.length ≤ 1048576) :
    Calls Tryz.prog 13 #[.slice A ss.length c, .slice B ss.length d] w fun e w' => e = .returned (.bool true) ∧ Below w.heap.size w w' := by
  have H := Lib.hid h
  have K := Lib.hid k
  clear h k
  go_enter Tryz.func13, Tryz.ntmps13
  go_wp2
  go_loopw [5] (fun i wr => ∃ k : Nat, k ≤ ss.length ∧ i = .int .i64 k ∧ Hid (Below w.heap.size w wr)) (fun i _ => ss.length - (intOf i).toNat)
  case atStart => exact ⟨0, by omega, rfl, Below.refl _ _⟩
  case round =>
    obtain ⟨k, hk, rfl, HB⟩ := hrel
    by_cases hk1 : k < ss.length
    · obtain ⟨a, rfl, _, hc⟩ := (H.out.below HB.out).2.resolve_left (by intro h; rw [h] at hk1; simp at hk1)
      obtain ⟨b, rfl, _, hd⟩ := (K.out.below HB.out).2.resolve_left (by intro h; rw [h] at hk1; simp at hk1)
      have hck := hc k hk1
      have hdk := hd k hk1
      clear hc hd
      have i0 : (0 : Int) ≤ k := by omega
      have i1 : (k : Int) < ss.length := by omega
      go_wp2
      go_quiet (fail)
      go_wp2
      go_roundw
      case rel => exact ⟨k + 1, by omega, by go_num, below_drawn HB.out _⟩
      case measure => simp [intOf]; omega
    · go_wp2
      go_ret
      exact ⟨rfl, HB.out⟩
end Go.Proofs.YtlbfffokkhccaaaGreatDoor

namespace Go.Proofs.YtlbfffokkhccaaaGreatDoor
open Go.RowKit Go.Deep
def dK : Nat → Nat
  | 0 => 0
  | d + 1 => 50 + 6 * dK d
def dT : Nat → Nat
  | 0 => 0
  | d + 1 => 1001 + 6 * dT d
def DrN (d : Nat) : Prop := ∀ (R n : Nat) (w : World), Rd w R n → n + dK d ≤ 500000 → Calls Tryz.prog 65 #[.pointer (some ⟨R, 0, none⟩), .int .i64 (d : Int)] w (NdP (2 * d) (dT d) R (n + dK d) w)
def StD (g : Nat) (k : Nat) (w : World) : Prop := ∃ dd : ByteArray, dd.size = 8 * k ∧ w.heap[g]? = some (.cells #[.int .i64 1, .string dd, .slice none 0 0, .int .i64 0, .int .i64 0, .slice none 0 0] nodeT (0, 0))
set_option maxHeartbeats 8000000 in
set_option maxRecDepth 100000 in
theorem l13Struct_any (d : Nat) (hN : DrN d) (R n : Nat) (data ptrs : Nat) (w : World) (h : Rd w R n) (hn : n + 3 * data + ptrs * dK d ≤ 500000) (hd : data ≤ 3) (hp : ptrs ≤ 3) (hdd : d ≤ 8) (_hkd : dK d ≤ 20000) (_htd : dT d ≤ 300000) :
    Calls Tryz.prog 115 #[.pointer (some ⟨R, 0, none⟩), .int .i64 data, .int .i64 ptrs, .int .i64 ((d : Int) + 1)] w (NdP (2 * d + 1) (8 * data + ptrs * (1 + dT d)) R (n + 3 * data + ptrs * dK d) w) := by
  have hRw := h.lt
  obtain ⟨i0, hi, hz0, hz1, hz2⟩ := info_parts infoNd
  have hq0 := h.self.below (((Below.refl w.heap.size w).alloc (Nat.le_refl _) (.cells #[.int .i64 0, .string { data := #[] }, .slice none 0 0, .int .i64 0, .int .i64 0, .slice none 0 0] nodeT)).alloc (by simp) (.cells #[.int .i64 1, .string { data := #[] }, .slice none 0 0, .int .i64 0, .int .i64 0, .slice none 0 0] nodeT))
  have hr0 : ((w.alloc (.cells #[.int .i64 0, .string { data := #[] }, .slice none 0 0, .int .i64 0, .int .i64 0, .slice none 0 0] nodeT)).alloc (.cells #[.int .i64 1, .string { data := #[] }, .slice none 0 0, .int .i64 0, .int .i64 0, .slice none 0 0] nodeT)).heap[w.heap.size]? = some (.cells #[.int .i64 0, .string { data := #[] }, .slice none 0 0, .int .i64 0, .int .i64 0, .slice none 0 0] nodeT (0, 0)) := (Below.heap_alloc _ _ _ (by simp)).trans (heap_alloc_new w _)
  have hx0 : ((w.alloc (.cells #[.int .i64 0, .string { data := #[] }, .slice none 0 0, .int .i64 0, .int .i64 0, .slice none 0 0] nodeT)).alloc (.cells #[.int .i64 1, .string { data := #[] }, .slice none 0 0, .int .i64 0, .int .i64 0, .slice none 0 0] nodeT)).heap[w.heap.size + 1]? = some (.cells #[.int .i64 1, .string { data := #[] }, .slice none 0 0, .int .i64 0, .int .i64 0, .slice none 0 0] nodeT (0, 0)) := by have := heap_alloc_new (w.alloc (.cells #[.int .i64 0, .string { data := #[] }, .slice none 0 0, .int .i64 0, .int .i64 0, .slice none 0 0] nodeT)) (.cells #[.int .i64 1, .string { data := #[] }, .slice none 0 0, .int .i64 0, .int .i64 0, .slice none 0 0] nodeT); rwa [show (w.alloc (.cells #[.int .i64 0, .string { data := #[] }, .slice none 0 0, .int .i64 0, .int .i64 0, .slice none 0 0] nodeT)).heap.size = w.heap.size + 1 by simp] at this
  have hs0 : ((w.alloc (.cells #[.int .i64 0, .string { data := #[] }, .slice none 0 0, .int .i64 0, .int .i64 0, .slice none 0 0] nodeT)).alloc (.cells #[.int .i64 1, .string { data := #[] }, .slice none 0 0, .int .i64 0, .int .i64 0, .slice none 0 0] nodeT)).heap.size = w.heap.size + 2 := by simp
  have HQ0 := Lib.hid hq0
  have HR0 := Lib.hid hr0
  have HX0 := Lib.hid hx0
  have HNN := Lib.hid hN
  clear h hq0 hr0 hx0 hN
  go_enter Tryz.func115, Tryz.ntmps115
  go_wp2_with fail
  generalize (w.alloc (.cells #[.int .i64 0, .string { data := #[] }, .slice none 0 0, .int .i64 0, .int .i64 0, .slice none 0 0] nodeT)).alloc (.cells #[.int .i64 1, .string { data := #[] }, .slice none 0 0, .int .i64 0, .int .i64 0, .slice none 0 0] nodeT) = W0 at *
  go_loopw [10] (fun i wr => ∃ k : Nat, i = .int .i64 k ∧ k ≤ data ∧ Hid (StD (w.heap.size + 1) k wr) ∧ Hid (wr.heap[w.heap.size]? = some (.cells #[.int .i64 0, .string { data := #[] }, .slice none 0 0, .int .i64 0, .int .i64 0, .slice none 0 0] nodeT (0, 0))) ∧ Hid (Picked w R (n + 3 * k) wr ∧ w.heap.size + 2 ≤ wr.heap.size)) (fun i _ => data - (intOf i).toNat)
  case atStart => exact ⟨0, rfl, by omega, Lib.hid ⟨_, rfl, HX0.out⟩, HR0, Lib.hid ⟨HQ0.out, by omega⟩⟩
  case round =>
    obtain ⟨k, rfl, hk, HS, HZ, HP⟩ := hrel
    obtain ⟨dd, hds, hrow⟩ := HS.out
    obtain ⟨hpk, hsz⟩ := HP.out
    have hdb : dd.size ≤ 24 := by omega
    by_cases hlt : k < data
    · have hc := cells6 hrow
      obtain ⟨c0, c1, c2, c3, c4, c5⟩ := hc
      have hfr := row_free hrow 1
      have HPK := Lib.hid hpk
      have HROW := Lib.hid hrow
      have HDS := Lib.hid hds
      have hdr : (wr.drew).heap.size = wr.heap.size := rfl
      clear hpk hrow hds HS HP
      go_wp2_with fail
      go_region_with (go_at_call 156; go_must (refine (l13Word_any R (n + 3 * k) _ (by exact HPK.out.1.below ⟨rfl, rfl, rfl, Nat.le_refl _, fun _ _ => rfl⟩) (by omega)).mono ?_); rintro e w2 ⟨u, hu, rfl, hp2⟩; have hx2 := pick_rowN (w := wr.drew) HROW.out hp2 (by omega); obtain ⟨q0, q1, q2, q3, q4, q5⟩ := cells6 hx2; have qf := row_free hx2 1; have f1 : ¬ 9223372036854775807 < dd.size + u.size := by omega)
      all_goals
        have hp3 : Picked wr R (n + 3 * k + 3) w2 := ⟨hp2.1, ⟨hp2.2.os, hp2.2.tape, hp2.2.output, hp2.2.size, hp2.2.block⟩⟩
        have HP3 := Lib.hid (picked_storeN (HPK.out.then hp3) hRw (b := w.heap.size + 1) (by omega) 1 (.string (dd ++ u)))
        have HS3 : Hid (StD (w.heap.size + 1) (k + 1) (w2.setCell ⟨w.heap.size + 1, 1, none⟩ (.string (dd ++ u)))) := Lib.hid ⟨dd ++ u, by rw [getD_size, HDS.out, hu]; omega, row_setN hx2 1 _⟩
        have HZ3 := Lib.hid ((Below.heap_setCell w2 ⟨w.heap.size + 1, 1, none⟩ (.string (dd ++ u)) w.heap.size (by simp)).trans (pick_rowN (w := wr) HZ.out hp3 (by omega)))
        have hsz3 : w.heap.size + 2 ≤ (w2.setCell ⟨w.heap.size + 1, 1, none⟩ (.string (dd ++ u))).heap.size := by have := hp3.2.size; simp [World.setCell]; omega
        have HPP := Lib.hid (And.intro (HP3.out.mono (show n + 3 * k + 3 ≤ n + 3 * (k + 1) by omega)) hsz3)
        clear hp2 hp3 hx2 q0 q1 q2 q3 q4 q5 qf hsz3 hu
        go_wp2
        go_roundw
        case rel => exact ⟨k + 1, by go_num, by omega, HS3, HZ3, HPP⟩
        case measure => simp [intOf]; omega
    · obtain rfl : k = data := by omega
      have HROW := Lib.hid hrow
      have HPK := Lib.hid hpk
      have HZ1 := Lib.hid HZ.out
      have HDS := Lib.hid hds
      clear hrow hpk hds HS HP hlt
      go_wp2_with fail
      go_loopw [11] (fun i wr => ∃ j : Nat, i = .int .i64 j ∧ j ≤ ptrs ∧ Hid (∃ (v : Value) (q : List (Nd × Hd)), wr.heap[w.heap.size + 1]? = some (.cells #[.int .i64 1, .string dd, v, .int .i64 0, .int .i64 0, .slice none 0 0] nodeT (0, 0)) ∧ q.length = j ∧ NRowC wr (w.heap.size + 2) v q (2 * d) (dT d)) ∧ Hid (wr.heap[w.heap.size]? = some (.cells #[.int .i64 0, .string { data := #[] }, .slice none 0 0, .int .i64 0, .int .i64 0, .slice none 0 0] nodeT (0, 0))) ∧ Hid (Picked w R (n + 3 * k + j * dK d) wr ∧ w.heap.size + 2 ≤ wr.heap.size)) (fun i _ => ptrs - (intOf i).toNat)
      case atStart => exact ⟨0, rfl, by omega, Lib.hid ⟨_, [], HROW.out, rfl, NRowC.nil _ _ _ _⟩, HZ1, Lib.hid ⟨by have := HPK.out; simpa using this, hsz⟩⟩
      case round =>
        clear hsz
        obtain ⟨j, rfl, hj, HS, HZ, HP⟩ := hrel
        obtain ⟨v, q, hrow, hql, hnr⟩ := HS.out
        obtain ⟨hpk, hsz⟩ := HP.out
        have HQL := Lib.hid hql
        by_cases hlt : j < ptrs
        · obtain ⟨c0, c1, c2, c3, c4, c5⟩ := cells6 hrow
          have hq1000 : q.length ≤ 1000 := by omega
          have HPK2 := Lib.hid hpk
          have HROW2 := Lib.hid hrow
          have HNR := Lib.hid hnr
          have hdr : (wr.drew).heap.size = wr.heap.size := rfl
          have hjk : j * dK d + dK d ≤ ptrs * dK d := by have := Nat.mul_le_mul_right (dK d) (show j + 1 ≤ ptrs by omega); rw [Nat.add_mul] at this; omega
          have hwr : IntKind.i64.wrap (d : Int) = (d : Int) := by rw [IntKind.wrap_i64]; omega
          have HC := Lib.hid (HNN.out R (n + 3 * k + j * dK d) wr.drew (by exact HPK2.out.1.below ⟨rfl, rfl, rfl, Nat.le_refl _, fun _ _ => rfl⟩) (by omega))
          unfold NdP at HC
          clear hpk hrow hnr HS HP hql
          go_wp2_with fail
          go_region_law (first | (refine step_append_nd rfl (.tmp 30) (.tmp 35) rfl (w.heap.size + 2) v q.length (rowOf q) (by simp [Act.eval]) (HO2.out.1.alloc _) ⟨w2.heap.size, 0, none⟩ 1 (y, hy) (by simp [Act.eval]) (cells_six_new w2 (y, hy) _) hq1000 (by simp; omega) ?_; intro A4 c4 w4 hown4 hgrow4 hat4; have hx4 := (hgrow4.out.block (w.heap.size + 1) (by simp; omega) (fun e => by have := (HO2.out.1.lt _ e.symm).1; omega)).trans ((Below.heap_alloc w2 _ (w.heap.size + 1) (by omega)).trans HX2.out); have qf4 := row_free hx4 2; obtain ⟨r0, r1, r2, r3, r4, r5⟩ := cells6 hx4) | (go_simp; go_at_call 65; (with_reducible refine HC.out.mono ?_); rintro e w2 ⟨y, hy, rfl, hny, hty, hp2⟩; have hx2 := pick_rowN (w := wr.drew) HROW2.out hp2 (by omega); have HX2 := Lib.hid hx2; have HO2 := Lib.hid (NRowC.picked (w := wr.drew) HNR.out.drew hp2 (by omega)); have hsz2 : wr.heap.size ≤ w2.heap.size := hp2.2.size; obtain ⟨q0, q1, q2, q3, q4, q5⟩ := cells6 hx2; have hlt2 := row_lt hx2; have qa : ∀ o, (w2.alloc o).cell? ⟨w.heap.size + 1, 2, none⟩ = some v := fun o => (((Below.refl w2.heap.size w2).alloc (Nat.le_refl _) o).cell hlt2).trans q2))
          all_goals
            have hp3 : Picked wr R (n + 3 * k + j * dK d + dK d) w2 := ⟨hp2.1, ⟨hp2.2.os, hp2.2.tape, hp2.2.output, hp2.2.size, hp2.2.block⟩⟩
            have hbel : Below w.heap.size w2 w4 := ((Below.refl w.heap.size w2).alloc (by omega) _).grown hgrow4.out (by simp; omega) (fun k hk => by have := (HO2.out.1.lt k hk).1; omega)
            have hp4 : Picked w R (n + 3 * k + j * dK d + dK d) w4 := by
              obtain ⟨⟨a, l, c, p, hpn, hr, hc⟩, hk⟩ := HPK2.out.then hp3
              exact ⟨⟨a, l, c, p, hpn, (hbel.block R hRw).trans hr, hc.keeps (R := w.heap.size) (Keeps.of_below hbel) (Nat.le_of_lt hRw) (Nat.le_of_lt hRw)⟩, ⟨hbel.os.trans hk.os, hbel.tape.trans hk.tape, hbel.output.trans hk.output, Nat.le_trans hk.size hbel.size, fun k hk1 hk2 => (hbel.block k hk1).trans (hk.block k hk1 hk2)⟩⟩
            have hnx := (HO2.out.alloc _).next (hny.belowC ((Below.refl w2.heap.size w2).alloc (Nat.le_refl _) _)) hty.1 (show w.heap.size + 2 ≤ (wr.drew).heap.size from hsz) (fun k hk => (HNR.out.1.lt k hk).2) hown4.out hgrow4.out hat4.out
            have HS5 : Hid (∃ (v' : Value) (q' : List (Nd × Hd)), (w4.setCell ⟨w.heap.size + 1, 2, none⟩ (.slice A4 (q.length + 1) c4)).heap[w.heap.size + 1]? = some (.cells #[.int .i64 1, .string dd, v', .int .i64 0, .int .i64 0, .slice none 0 0] nodeT (0, 0)) ∧ q'.length = j + 1 ∧ NRowC (w4.setCell ⟨w.heap.size + 1, 2, none⟩ (.slice A4 (q.length + 1) c4)) (w.heap.size + 2) v' q' (2 * d) (dT d)) := Lib.hid ⟨_, _, row_setN hx4 2 _, by have := HQL.out; simp; omega, hnx.store (by omega)⟩
            have HZ5 := Lib.hid ((Below.heap_setCell w4 ⟨w.heap.size + 1, 2, none⟩ (.slice A4 (q.length + 1) c4) w.heap.size (by simp)).trans ((hgrow4.out.block w.heap.size (by simp; omega) (fun e => by have := (HO2.out.1.lt _ e.symm).1; omega)).trans ((Below.heap_alloc w2 _ w.heap.size (by omega)).trans (pick_rowN (w := wr) HZ.out hp3 (by omega)))))
            have HP5 : Hid (Picked w R (n + 3 * k + (j + 1) * dK d) (w4.setCell ⟨w.heap.size + 1, 2, none⟩ (.slice A4 (q.length + 1) c4)) ∧ w.heap.size + 2 ≤ (w4.setCell ⟨w.heap.size + 1, 2, none⟩ (.slice A4 (q.length + 1) c4)).heap.size) := Lib.hid ⟨(picked_storeN hp4 hRw (b := w.heap.size + 1) (by omega) 2 _).mono (by rw [Nat.add_mul]; omega), by have := hbel.size; simp [World.setCell]; omega⟩
            clear hp2 hp3 hp4 hbel hnx hx4 hx2 hown4 hgrow4 hat4 q0 q1 q2 q3 q4 q5 r0 r1 r2 r3 r4 r5 qf4 qa hlt2 hny hty
            go_wp2
            go_roundw
            case rel => exact ⟨j + 1, by go_num, by omega, HS5, HZ5, HP5⟩
            case measure => simp [intOf]; omega
        · obtain rfl : j = ptrs := by omega
          obtain ⟨A, cap, hv, hnds, htot⟩ := hnr.nds (by omega)
          subst hv
          have HND := Lib.hid hnds
          have HTOT := Lib.hid htot
          have HROW3 := Lib.hid hrow
          have HPK3 := Lib.hid hpk
          obtain ⟨c0, c1, c2, c3, c4, c5⟩ := cells6 hrow
          have hz0 : ∀ k, wr.cell? ⟨w.heap.size, k, none⟩ = (#[.int .i64 0, .string { data := #[] }, .slice none 0 0, .int .i64 0, .int .i64 0, .slice none 0 0] : Array Value)[k]? := fun k => cell_of_row _ _ _ _ _ _ HZ.out
          have hzf := row_free HZ.out
          clear hnr hnds htot hrow hpk HS HP hql hlt hi
          go_wp2_with fail
          obtain ⟨wf, hwf, hrw, hpw, huw⟩ := store6 (w1 := wr) (b := w.heap.size) HZ.out HPK3.out hRw (Nat.le_refl _) (.int .i64 1) (.string dd) (.slice A q.length cap) (.int .i64 0) (.int .i64 0) (.slice none 0 0)
          rw [hwf]
          obtain ⟨e0, e1, e2, e3, e4, e5⟩ := cells6 hrw
          exact bodyPost_ret (v := .agg #[.int .i64 1, .string dd, .slice A q.length cap, .int .i64 0, .int .i64 0, .slice none 0 0])
            (by simp [results, Tryz.results115, go_sem, e0, e1, e2, e3, e4, e5]) rfl
            ⟨.mk 1 dd (q.map (·.1)) 0 0 [], ⟨A, cap, none, 0⟩, by show _ = Ending.returned (.agg #[.int .i64 1, .string dd, .slice A (q.map (·.1)).length cap, .int .i64 0, .int .i64 0, .slice none 0 0]); rw [List.length_map], ⟨by show dd.size ≤ maxLen; unfold maxLen; omega, ((HND.out.fromC (by omega)).uponC huw).fromC (by omega), NdsAt.nil _ _ _ _⟩, ⟨by
              have h1 := HTOT.out
              rw [HQL.out] at h1
              show dd.size + totL (2 * d + 1) (q.map (·.1)) + totL (2 * d + 1) [] ≤ _
              have h2 : totL (2 * d + 1) [] = 0 := rfl
              have h3 := HDS.out
              omega, SB.small (by show dd.size ≤ 1100; have h3 := HDS.out; omega) (show (0 : Nat) ≤ 1000 by decide)⟩, hpw.mono (by omega)⟩
end Go.Proofs.YtlbfffokkhccaaaGreatDoor
