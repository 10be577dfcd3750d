/- Texts of the proof of the law FnCanonPut, side by side: part 41. -/
import Derived.Test.YtbijfkpilncclaaGreatMCanonPut00
import Derived.Test.YtbijfkpilncclaaGreatMCanonPut01
import Derived.Test.YtbijfkpilncclaaGreatMCanonPut02
import Derived.Test.YtbijfkpilncclaaGreatMCanonPut03
import Derived.Test.YtbijfkpilncclaaGreatMCanonPut04
import Derived.Test.YtbijfkpilncclaaGreatMCanonPut05
import Derived.Test.YtbijfkpilncclaaGreatMCanonPut06
import Derived.Test.YtbijfkpilncclaaGreatMCanonPut07
import Derived.Test.YtbijfkpilncclaaGreatMCanonPut08
import Derived.Test.YtbijfkpilncclaaGreatMCanonPut09
import Derived.Test.YtbijfkpilncclaaGreatMCanonPut10
import Derived.Test.YtbijfkpilncclaaGreatMCanonPut11
import Derived.Test.YtbijfkpilncclaaGreatMCanonPut12
import Derived.Test.YtbijfkpilncclaaGreatMCanonPut13
import Derived.Test.YtbijfkpilncclaaGreatMCanonPut14
import Derived.Test.YtbijfkpilncclaaGreatMCanonPut15
import Derived.Test.YtbijfkpilncclaaGreatMCanonPut16
import Derived.Test.YtbijfkpilncclaaGreatMCanonPut17
import Derived.Test.YtbijfkpilncclaaGreatMCanonPut18
import Derived.Test.YtbijfkpilncclaaGreatMCanonPut19
import Derived.Test.YtbijfkpilncclaaGreatMCanonPut20
import Derived.Test.YtbijfkpilncclaaGreatMCanonPut21
import Derived.Test.YtbijfkpilncclaaGreatMCanonPut22
import Derived.Test.YtbijfkpilncclaaGreatMCanonPut23
import Derived.Test.YtbijfkpilncclaaGreatMCanonPut24
import Derived.Test.YtbijfkpilncclaaGreatMCanonPut25
import Derived.Test.YtbijfkpilncclaaGreatMCanonPut26
import Derived.Test.YtbijfkpilncclaaGreatMCanonPut27
import Derived.Test.YtbijfkpilncclaaGreatMCanonPut28
import Derived.Test.YtbijfkpilncclaaGreatMCanonPut29
import Derived.Test.YtbijfkpilncclaaGreatMCanonPut30
import Derived.Test.YtbijfkpilncclaaGreatMCanonPut31
import Derived.Test.YtbijfkpilncclaaGreatMCanonPut32
import Derived.Test.YtbijfkpilncclaaGreatMCanonPut33
import Derived.Test.YtbijfkpilncclaaGreatMCanonPut34
import Derived.Test.YtbijfkpilncclaaGreatMCanonPut35
import Derived.Test.YtbijfkpilncclaaGreatMCanonPut36
import Derived.Test.YtbijfkpilncclaaGreatMCanonPut37
import Derived.Test.YtbijfkpilncclaaGreatMCanonPut38
import Derived.Test.YtbijfkpilncclaaGreatMCanonPut39
import Derived.Test.YtbijfkpilncclaaGreatMCanonPut40
namespace Go.Proofs.YtbijfkpilncclaaGreat
open Go.RowKit Go.Deep
def One1 (r : Option Segs) (w : World) (e : Ending) (w' : World) : Prop := (∃ s t, r = some (s :: t) ∧ e = .returned (.tuple #[strV s, .bool true]) ∧ Below w.heap.size w w') ∨ (r = none ∧ e = .returned (.tuple #[.string { data := #[] }, .bool false]) ∧ Below w.heap.size w w')
set_option maxHeartbeats 4000000 in
set_option maxRecDepth 100000 in
theorem implBuildOne_a (m : Nat) (n : Nd) (h : Hd) (w : World) (S : Nat → Prop) (hn : NdAt w S m n h) (ht : totN m n ≤ 2000000) :
    Calls Tryz.prog 34 #[.agg #[.int .i64 n.kind, .string n.data, .slice h.A n.ptrs.length h.a, .int .i64 n.size, .int .i64 n.count, .slice h.B n.items.length h.b]] w (One1 (bldV n 200) w) := by
  have hne : ∀ ss, bldV n 200 = some ss → ∃ s t, ss = s :: t := fun ss hss => by
    unfold bldV at hss
    split at hss
    · rename_i hh
      obtain ⟨s, hs, _⟩ := build_one (size := 200) hh.1 (by have := node_ok hh.1; unfold nodeWords; rw [if_pos hh.1]; omega)
      rw [show (200 : Int).toNat = 200 from rfl, hs] at hss
      injection hss with hss
      exact ⟨s, [], hss.symm⟩
    · cases hss
  have HNE := Lib.hid hne
  obtain ⟨qA, qa, qB, qb⟩ := h
  have hb0 := (Below.refl w.heap.size w).alloc (Nat.le_refl _) (.cells #[.int .i64 n.kind, .string n.data, .slice qA n.ptrs.length qa, .int .i64 n.size, .int .i64 n.count, .slice qB n.items.length qb] nodeT)
  have HB := Lib.hid (implBuild_a m n ⟨qA, qa, qB, qb⟩ _ S 200 (hn.below hb0) ht)
  dsimp only at HB ⊢
  have HB0 := Lib.hid hb0
  generalize bldV n 200 = r at *
  clear hn hb0 hne
  go_enter Tryz.func34, Tryz.ntmps34
  go_wp2_with fail
  refine HB.out.mono ?_
  rintro e w1 (⟨rfl, rfl, hb1⟩ | ⟨ss, A, c, rfl, rfl, ho, hb1⟩)
  · have HB1 := Lib.hid (HB0.out.trans (hb1.mono HB0.out.size))
    clear hb1
    go_wp2
    exact bodyPost_ret (v := .tuple #[.string { data := #[] }, .bool false]) (by simp [results, Tryz.results34, go_sem]) rfl (.inr ⟨rfl, rfl, HB1.out⟩)
  · have HB1 := Lib.hid (HB0.out.trans (hb1.mono HB0.out.size))
    obtain ⟨s, t, rfl⟩ := HNE.out ss rfl
    obtain ⟨g, cap, cur, hv, -⟩ := own_cases ho (by simp)
    injection hv with e1 e2 e3
    subst e1
    have hc := ho.cells (g := g) rfl 0 (strV s) (by simp)
    rw [add_zero0] at hc
    clear hb1 ho
    go_wp2
    exact bodyPost_ret (v := .tuple #[strV s, .bool true]) (by simp [results, Tryz.results34, go_sem]) rfl (.inl ⟨s, t, rfl, rfl, HB1.out⟩)
end Go.Proofs.YtbijfkpilncclaaGreat

namespace Go.Proofs.YtbijfkpilncclaaGreat
open Go.RowKit Go.Deep
def txS (ss : Segs) : List ByteArray := ss.map fun s => ⟨s.toArray⟩
theorem txS_length (ss : Segs) : (txS ss).length = ss.length := by simp [txS]
theorem frOk_txS {ss : Segs} (hk : SOk LS ss) : frOk (txS ss) = decide (totS ss ≤ 200) := by
  have h1 : ∀ s ∈ ss, s.length % 8 = 0 := fun s hs => by
    obtain ⟨i, hi, e⟩ := List.getElem_of_mem hs
    have := hk.wds i
    rw [sg_eq hi, e] at this
    exact this
  have h2 : ∀ (l : Segs), (∀ s ∈ l, s.length % 8 = 0) → (txS l).all (fun s => decide (s.size % 8 = 0)) = true ∧ tot (txS l) = 8 * totS l := by
    intro l
    induction l with
    | nil => intro _; exact ⟨rfl, rfl⟩
    | cons s t ih =>
      intro h
      obtain ⟨i1, i2⟩ := ih (fun x hx => h x (List.mem_cons_of_mem _ hx))
      have h0 := h s (List.mem_cons_self ..)
      have hs : (⟨s.toArray⟩ : ByteArray).size = s.length := by simp [ByteArray.size]
      have hw : s.length = 8 * wn s := by unfold wn; omega
      simp only [txS, tot, totS] at i1 i2 ⊢
      rw [List.map_cons, List.all_cons, List.map_cons, List.sum_cons, List.map_cons, List.sum_cons, i1, i2, hs]
      exact ⟨by simp [h0], by omega⟩
  obtain ⟨h3, h4⟩ := h2 ss h1
  unfold frOk
  rw [h3, h4, txS_length]
  have h5 := hk.one
  have h6 := hk.six
  by_cases h : totS ss ≤ 200
  · rw [decide_eq_true h, decide_eq_true (show 1 ≤ ss.length ∧ ss.length ≤ 6 from ⟨h5, h6⟩), decide_eq_true (show 8 * totS ss ≤ 1600 by omega)]; rfl
  · rw [decide_eq_false h, decide_eq_false (show ¬ 8 * totS ss ≤ 1600 by omega)]; simp
theorem tot_txS {ss : Segs} (hk : SOk LS ss) : tot (txS ss) ≤ 1099511627776 := by
  have : ∀ (l : Segs), tot (txS l) ≤ 8 * totS l + 8 * l.length := by
    intro l
    induction l with
    | nil => exact Nat.le_refl _
    | cons s t ih =>
      have hs : (⟨s.toArray⟩ : ByteArray).size = s.length := by simp [ByteArray.size]
      have hw : s.length ≤ 8 * wn s + 8 := by unfold wn; omega
      simp only [txS, tot, totS] at ih ⊢
      rw [List.map_cons, List.map_cons, List.sum_cons, List.map_cons, List.sum_cons, List.length_cons, hs]
      omega
  have h1 := this ss
  have h2 := hk.totS
  have h3 := hk.six
  unfold LS at h2
  omega
theorem strs_txS {w : World} {r : Nat} {ss : Segs} (hk : SOk LS ss) (hr : r < w.heap.size) (hc : ∀ i, i < ss.length → w.cell? ⟨r, i, none⟩ = some (strS (sgS ss i))) : Strs w (some ⟨r, 0, none⟩) (txS ss) := by
  refine ⟨fun s hs => ?_, .inr ⟨_, rfl, hr, fun i hi => ?_⟩⟩
  · obtain ⟨x, hx, rfl⟩ := List.mem_map.1 hs
    obtain ⟨i, hi, e⟩ := List.getElem_of_mem hx
    have h1 := sb_len hk i
    rw [sg_eq hi, e] at h1
    have hs : (⟨x.toArray⟩ : ByteArray).size = x.length := by simp [ByteArray.size]
    rw [hs]
    unfold maxLen
    omega
  · have hi' : i < ss.length := by rw [txS_length] at hi; exact hi
    rw [add_zero0, hc i hi', sg_eq hi']
    simp [txS]
def BuildSQ (r : Option Segs) (w : World) (e : Ending) (w' : World) : Prop :=
  (r = none ∧ ∃ A c, e = .returned (.tuple #[.slice A 0 c, .bool false]) ∧ Below w.heap.size w w') ∨
  ∃ ss A c, r = some ss ∧ SOk LS ss ∧ e = .returned (.tuple #[.slice A ss.length c, .bool true]) ∧ w'.ownsRow w.heap.size stT 1 (.slice A ss.length c) ss.length (ss.map strS) ∧ Below w.heap.size w w'
set_option maxHeartbeats 4000000 in
set_option maxRecDepth 100000 in
theorem l5Build_yes (m : Nat) (n : Nd) (h : Hd) (w : World) (S : Nat → Prop) (z : Nat) (hn : NdAt w S m n h) (ht : totN m n ≤ 2000000) (hok : nodeOk n = true) (h1 : 1 ≤ z) (h2 : z ≤ 200) :
    Calls Tryz.prog 58 #[.agg #[.int .i64 n.kind, .string n.data, .slice h.A n.ptrs.length h.a, .int .i64 n.size, .int .i64 n.count, .slice h.B n.items.length h.b], .int .i64 (z : Int)] w (BuildSQ (buildP 200 z n) w) := by
  obtain ⟨qA, qa, qB, qb⟩ := h
  dsimp only
  obtain ⟨ho8, hw8⟩ := node_ok hok
  have hlim := build_lim (size := z) ho8 LS (by decide)
  have HLIM := Lib.hid hlim
  have hk0 := SOKL LS (by decide)
  have hbW : Below w.heap.size w (((w.alloc (.cells #[.int .i64 n.kind, .string n.data, .slice qA n.ptrs.length qa, .int .i64 n.size, .int .i64 n.count, .slice qB n.items.length qb] nodeT)).alloc (.cells #[strS (zer 1)] stT)).alloc (.cells #[.slice (some ⟨w.heap.size + 1, 0, none⟩) 1 1, .int .i64 (z : Int), .bool false] wrT)) := (((Below.refl _ w).alloc (Nat.le_refl _) _).alloc (by simp) _).alloc (by simp; omega) _
  have r0 : ((((w.alloc (.cells #[.int .i64 n.kind, .string n.data, .slice qA n.ptrs.length qa, .int .i64 n.size, .int .i64 n.count, .slice qB n.items.length qb] nodeT)).alloc (.cells #[strS (zer 1)] stT)).alloc (.cells #[.slice (some ⟨w.heap.size + 1, 0, none⟩) 1 1, .int .i64 (z : Int), .bool false] wrT))).heap[w.heap.size]? = some (.cells #[.int .i64 n.kind, .string n.data, .slice qA n.ptrs.length qa, .int .i64 n.size, .int .i64 n.count, .slice qB n.items.length qb] nodeT (0, 0)) := heap_alloc_keep (heap_alloc_keep (heap_alloc_new w _) _) _
  have r1 : ((((w.alloc (.cells #[.int .i64 n.kind, .string n.data, .slice qA n.ptrs.length qa, .int .i64 n.size, .int .i64 n.count, .slice qB n.items.length qb] nodeT)).alloc (.cells #[strS (zer 1)] stT)).alloc (.cells #[.slice (some ⟨w.heap.size + 1, 0, none⟩) 1 1, .int .i64 (z : Int), .bool false] wrT))).heap[w.heap.size + 1]? = some (.cells #[strS (zer 1)] stT (0, 0)) := by
    have := heap_alloc_keep (heap_alloc_new (w.alloc (.cells #[.int .i64 n.kind, .string n.data, .slice qA n.ptrs.length qa, .int .i64 n.size, .int .i64 n.count, .slice qB n.items.length qb] nodeT)) (.cells #[strS (zer 1)] stT)) (.cells #[.slice (some ⟨w.heap.size + 1, 0, none⟩) 1 1, .int .i64 (z : Int), .bool false] wrT)
    simpa using this
  have r2 : ((((w.alloc (.cells #[.int .i64 n.kind, .string n.data, .slice qA n.ptrs.length qa, .int .i64 n.size, .int .i64 n.count, .slice qB n.items.length qb] nodeT)).alloc (.cells #[strS (zer 1)] stT)).alloc (.cells #[.slice (some ⟨w.heap.size + 1, 0, none⟩) 1 1, .int .i64 (z : Int), .bool false] wrT))).heap[w.heap.size + 2]? = some (.cells #[.slice (some ⟨w.heap.size + 1, 0, none⟩) 1 1, .int .i64 (z : Int), .bool false] wrT (0, 0)) := by
    have := heap_alloc_new ((w.alloc (.cells #[.int .i64 n.kind, .string n.data, .slice qA n.ptrs.length qa, .int .i64 n.size, .int .i64 n.count, .slice qB n.items.length qb] nodeT)).alloc (.cells #[strS (zer 1)] stT)) (.cells #[.slice (some ⟨w.heap.size + 1, 0, none⟩) 1 1, .int .i64 (z : Int), .bool false] wrT)
    simpa using this
  have hsb : Sb (((w.alloc (.cells #[.int .i64 n.kind, .string n.data, .slice qA n.ptrs.length qa, .int .i64 n.size, .int .i64 n.count, .slice qB n.items.length qb] nodeT)).alloc (.cells #[strS (zer 1)] stT)).alloc (.cells #[.slice (some ⟨w.heap.size + 1, 0, none⟩) 1 1, .int .i64 (z : Int), .bool false] wrT)) w.heap.size (w.heap.size + 2) z [zer 1] false (fun k => k = w.heap.size + 1 ∨ k = w.heap.size + 2) :=
    ⟨_, r2, ⟨by decide, .inr ⟨w.heap.size + 1, 1, #[strS (zer 1)], rfl, by omega, r1, Nat.le_refl _, by decide, rfl, rfl⟩⟩, by omega, .inr rfl, fun k hk => .inl (Option.some.inj hk).symm⟩
  have HNODE := Lib.hid (swrite_any z h2 8 w.heap.size (w.heap.size + 2) [zer 1] _ (((w.alloc (.cells #[.int .i64 n.kind, .string n.data, .slice qA n.ptrs.length qa, .int .i64 n.size, .int .i64 n.count, .slice qB n.items.length qb] nodeT)).alloc (.cells #[strS (zer 1)] stT)).alloc (.cells #[.slice (some ⟨w.heap.size + 1, 0, none⟩) 1 1, .int .i64 (z : Int), .bool false] wrT)) 0 0 m n ⟨qA, qa, qB, qb⟩ hsb (fun k hk => by
    have : ((((w.alloc (.cells #[.int .i64 n.kind, .string n.data, .slice qA n.ptrs.length qa, .int .i64 n.size, .int .i64 n.count, .slice qB n.items.length qb] nodeT)).alloc (.cells #[strS (zer 1)] stT)).alloc (.cells #[.slice (some ⟨w.heap.size + 1, 0, none⟩) 1 1, .int .i64 (z : Int), .bool false] wrT))).heap.size = w.heap.size + 3 := by simp
    rw [this]
    omega) hk0 (by decide) (by decide) (nd_baseS hn.lt' hbW) ho8 ht (by omega) (by rw [show totS [zer 1] = 1 by decide]; unfold LS; omega))
  dsimp only at HNODE
  have HM := Lib.hid (fun W => l1Many_any ⟨#[0]⟩ 8 W (by omega) (by omega) (by decide) (by decide))
  have hmz : (⟨(repL (⟨#[0]⟩ : ByteArray).data.toList (8 : Int).toNat).toArray⟩ : ByteArray) = ⟨(zer 1).toArray⟩ := by decide +kernel
  rw [hmz] at HM
  have HBW := Lib.hid hbW
  have HSOK : Hid (∀ s1, wrP LS z 8 n [zer 1] 0 0 = some s1 → SOk LS s1) := Lib.hid (fun s1 hs => (wr_some LS z 8 n [zer 1] 0 0 s1 ho8 hk0 (by decide) (by decide) hs).1)
  have HBP : Hid (buildP LS z n = wrP LS z 8 n [zer 1] 0 0) := Lib.hid rfl
  rw [HBP.out] at HLIM
  generalize wrP LS z 8 n [zer 1] 0 0 = rr at *
  clear hn hok ho8 hlim hk0 hbW r0 r1 r2 hsb hmz HBP
  go_enter Tryz.func58, Tryz.ntmps58
  go_wp2_with fail
  refine (HM.out _).mono ?_
  rintro e w9 ⟨rfl, rfl⟩
  go_wp2_with fail
  refine HNODE.out.mono ?_
  rintro e w1 ⟨rfl, hk1, hor⟩
  have HK1 := Lib.hid (HBW.out.trans (hk1.below HBW.out.size (fun k hk => by rcases hk with h | h <;> omega)))
  rcases hor with ⟨hnone, s1, hs1⟩ | ⟨s1, hsome, hs1⟩
  · have HR : Hid (buildP 200 z n = none) := Lib.hid (by rw [HLIM.out, hnone]; rfl)
    obtain ⟨v, hb, -⟩ := hs1
    obtain ⟨c0, c1, c2⟩ := cells3 hb
    clear hb hk1
    go_wp2
    exact bodyPost_ret (v := .tuple #[.slice (some ⟨w1.heap.size, 0, none⟩) 0 0, .bool false]) (by simp [results, Tryz.results58, go_sem]) rfl (.inl ⟨HR.out, _, _, rfl, HK1.out.alloc HK1.out.size _⟩)
  · have hks := HSOK.out s1 hsome
    obtain ⟨r, cap, hb, ho, hlb, hPb, hPr, hc⟩ := hs1.open2 hks.one
    obtain ⟨c0, c1, c2⟩ := cells3 hb
    have HO := Lib.hid ho
    have HKS := Lib.hid hks
    have hrl : r < w1.heap.size := (ho.lt r rfl).2
    have HFR := Lib.hid (specFrameOk_any (some ⟨r, 0, none⟩) cap (txS s1) w1 (strs_txS hks hrl (fun i hi => (hc i hi).1)) (by rw [txS_length]; have := hks.six; omega) (tot_txS hks))
    rw [txS_length, frOk_txS hks] at HFR
    clear hb ho hlb hPb hPr hc hs1 hks hrl hk1
    by_cases hle : totS s1 ≤ 200
    · have HR : Hid (buildP 200 z n = some s1) := Lib.hid (by rw [HLIM.out, hsome, Option.bind_some, if_pos hle])
      rw [decide_eq_true hle] at HFR
      clear hsome hle
      go_wp2_with fail
      refine HFR.out.mono ?_
      rintro e w2 ⟨rfl, rfl⟩
      go_wp2
      exact bodyPost_ret (v := .tuple #[.slice (some ⟨r, 0, none⟩) s1.length cap, .bool true]) (by simp [results, Tryz.results58, go_sem]) rfl (.inr ⟨s1, _, _, HR.out, HKS.out, rfl, HO.out, HK1.out⟩)
    · have HR : Hid (buildP 200 z n = none) := Lib.hid (by rw [HLIM.out, hsome, Option.bind_some, if_neg hle])
      rw [decide_eq_false hle] at HFR
      clear hsome hle
      go_wp2_with fail
      refine HFR.out.mono ?_
      rintro e w2 ⟨rfl, rfl⟩
      go_wp2
      exact bodyPost_ret (v := .tuple #[.slice (some ⟨w1.heap.size, 0, none⟩) 0 0, .bool false]) (by simp [results, Tryz.results58, go_sem]) rfl (.inl ⟨HR.out, _, _, rfl, HK1.out.alloc HK1.out.size _⟩)
end Go.Proofs.YtbijfkpilncclaaGreat

namespace Go.Proofs.YtbijfkpilncclaaGreat
open Go.RowKit Go.Deep
set_option maxHeartbeats 4000000 in
set_option maxRecDepth 100000 in
theorem specBuildOne_a (m : Nat) (n : Nd) (h : Hd) (w : World) (S : Nat → Prop) (hn : NdAt w S m n h) (ht : totN m n ≤ 2000000) :
    Calls Tryz.prog 31 #[.agg #[.int .i64 n.kind, .string n.data, .slice h.A n.ptrs.length h.a, .int .i64 n.size, .int .i64 n.count, .slice h.B n.items.length h.b]] w (One1 (bldV n 200) w) := by
  obtain ⟨qA, qa, qB, qb⟩ := h
  have hb0 := (Below.refl w.heap.size w).alloc (Nat.le_refl _) (.cells #[.int .i64 n.kind, .string n.data, .slice qA n.ptrs.length qa, .int .i64 n.size, .int .i64 n.count, .slice qB n.items.length qb] nodeT)
  have HB0 := Lib.hid hb0
  have R0 := Lib.hid (heap_alloc_new w (.cells #[.int .i64 n.kind, .string n.data, .slice qA n.ptrs.length qa, .int .i64 n.size, .int .i64 n.count, .slice qB n.items.length qb] nodeT))
  have HOK := Lib.hid (fun (W : World) (hW : Below w.heap.size w W) => specNodeOk_a m n ⟨qA, qa, qB, qb⟩ W S (hn.below hW) ht)
  have HLB := Lib.hid (fun (hok : nodeOk n = true) (W : World) (hW : Below w.heap.size w W) => l5Build_yes m n ⟨qA, qa, qB, qb⟩ W S 200 (hn.below hW) ht hok (by decide) (by decide))
  dsimp only at HOK HLB ⊢
  by_cases hok : nodeOk n = true
  · have HL2 := Lib.hid (HLB.out hok)
    obtain ⟨s0, hs0, -⟩ := build_one (size := 200) hok (by have := node_ok hok; unfold nodeWords; rw [if_pos hok]; omega)
    have HV : Hid (bldV n 200 = some [s0]) := Lib.hid (by unfold bldV; rw [if_pos ⟨hok, by decide, by decide⟩]; exact hs0)
    rw [hok] at HOK
    rw [hs0] at HL2
    clear HLB hn hb0 hok hs0
    go_enter Tryz.func31, Tryz.ntmps31
    go_wp2_with fail
    refine (HOK.out _ HB0.out).mono ?_
    rintro e w1 ⟨rfl, hb1⟩
    have HB1 := Lib.hid (HB0.out.trans (hb1.mono HB0.out.size))
    obtain ⟨n0, n1, n2, n3, n4, n5⟩ := cells6 ((hb1.block _ (row_lt R0.out)).trans R0.out)
    clear hb1
    go_wp2_with fail
    refine (HL2.out _ HB1.out).mono ?_
    rintro e w3 (⟨hnone, A, c, rfl, hb3⟩ | ⟨ss, A, c, hsome, hks, rfl, ho, hb3⟩)
    · cases hnone
    · injection hsome with hsome
      subst hsome
      have HB3 := Lib.hid (HB1.out.trans (hb3.mono HB1.out.size))
      obtain ⟨g, cap, cur, hv, -⟩ := own_cases ho (by simp)
      injection hv with e1 e2 e3
      subst e1
      have hc := ho.cells (g := g) rfl 0 (strS s0) (by simp)
      rw [add_zero0] at hc
      clear hb3 hks ho n0 n1 n2 n3 n4 n5
      go_wp2
      exact bodyPost_ret (v := .tuple #[strV s0, .bool true]) (by simp [results, Tryz.results31, go_sem]) rfl (.inl ⟨s0, [], HV.out, rfl, HB3.out⟩)
  · have HV : Hid (bldV n 200 = none) := Lib.hid (by unfold bldV; rw [if_neg (fun h => hok h.1)])
    rw [show nodeOk n = false by simpa using hok] at HOK
    clear HLB hn hb0 hok
    go_enter Tryz.func31, Tryz.ntmps31
    go_wp2_with fail
    refine (HOK.out _ HB0.out).mono ?_
    rintro e w1 ⟨rfl, hb1⟩
    have HB1 := Lib.hid (HB0.out.trans (hb1.mono HB0.out.size))
    clear hb1
    go_wp2
    exact bodyPost_ret (v := .tuple #[.string { data := #[] }, .bool false]) (by simp [results, Tryz.results31, go_sem]) rfl (.inr ⟨HV.out, rfl, HB1.out⟩)
end Go.Proofs.YtbijfkpilncclaaGreat

namespace Go.Proofs.YtbijfkpilncclaaGreat
open Go.RowKit
def oneS : Option Segs → ByteArray
  | some (s :: _) => ⟨s.toArray⟩
  | _ => { data := #[] }
def oneB : Option Segs → Bool
  | some _ => true
  | none => false
theorem One1.det {r : Option Segs} {w : World} {e : Ending} {w' : World} (h : One1 r w e w') : e = .returned (.tuple #[.string (oneS r), .bool (oneB r)]) ∧ Below w.heap.size w w' := by
  rcases h with ⟨s, t, rfl, rfl, hb⟩ | ⟨rfl, rfl, hb⟩
  · exact ⟨rfl, hb⟩
  · exact ⟨rfl, hb⟩
end Go.Proofs.YtbijfkpilncclaaGreat

namespace Go.Proofs.YtbijfkpilncclaaGreat
open Go.RowKit Go.Deep
def cpV (n : Nd) : Option Segs := if nodeOk n = true then bldV (canX n) 200 else none
theorem canX_sizP {n : Nd} : sizN (canX n) ≤ sizN n := by
  unfold canX
  by_cases hok : nodeOk n = true
  · rw [if_pos hok]; exact siz_can 8 n (node_ok hok).1
  · rw [if_neg hok, sizN_eq]
    have : noneNd.data.size + sizL noneNd.ptrs + sizL noneNd.items = 0 := by
      show 0 + sizL [] + sizL [] = 0
      rw [sizL_nil]
    omega
def CpQ (n : Nd) (w : World) (e : Ending) (w' : World) : Prop := e = .returned (.tuple #[.string (oneS (cpV n)), .bool (oneB (cpV n))]) ∧ Below w.heap.size w w'
set_option maxHeartbeats 4000000 in
set_option maxRecDepth 100000 in
theorem implCanonPut_a (m : Nat) (n : Nd) (h : Hd) (w : World) (S : Nat → Prop) (hn : NdAt w S m n h) (ht : totN m n ≤ 2000000) :
    Calls Tryz.prog 13 #[.agg #[.int .i64 n.kind, .string n.data, .slice h.A n.ptrs.length h.a, .int .i64 n.size, .int .i64 n.count, .slice h.B n.items.length h.b]] w (CpQ n w) := by
  obtain ⟨qA, qa, qB, qb⟩ := h
  have hb0 := (Below.refl w.heap.size w).alloc (Nat.le_refl _) (.cells #[.int .i64 n.kind, .string n.data, .slice qA n.ptrs.length qa, .int .i64 n.size, .int .i64 n.count, .slice qB n.items.length qb] nodeT)
  have HB0 := Lib.hid hb0
  have R0 := Lib.hid (heap_alloc_new w (.cells #[.int .i64 n.kind, .string n.data, .slice qA n.ptrs.length qa, .int .i64 n.size, .int .i64 n.count, .slice qB n.items.length qb] nodeT))
  have hsz : sizN (canX n) ≤ 2000000 := Nat.le_trans canX_sizP (by rw [← totN_siz hn]; exact ht)
  have HOK := Lib.hid (fun (W : World) (hW : Below w.heap.size w W) => implNodeOk_a m n ⟨qA, qa, qB, qb⟩ W S (hn.below hW) ht)
  have HCA := Lib.hid (fun (W : World) (hW : Below w.heap.size w W) => implCanon_a m n ⟨qA, qa, qB, qb⟩ W S (hn.below hW) ht)
  have HBO : Hid (∀ (W : World) (y : Hd) (S : Nat → Prop), NdAt W S (m + 1) (canX n) y → Calls Tryz.prog 34 #[.agg #[.int .i64 (canX n).kind, .string (canX n).data, .slice y.A (canX n).ptrs.length y.a, .int .i64 (canX n).size, .int .i64 (canX n).count, .slice y.B (canX n).items.length y.b]] W fun e w' => e = .returned (.tuple #[.string (oneS (bldV (canX n) 200)), .bool (oneB (bldV (canX n) 200))]) ∧ Below W.heap.size W w') := Lib.hid fun W y S hy => (implBuildOne_a (m + 1) (canX n) y W S hy (by rw [totN_siz hy]; exact hsz)).mono (fun _ _ h => h.det)
  have HV : Hid (cpV n = if nodeOk n = true then bldV (canX n) 200 else none) := Lib.hid rfl
  unfold CpQ
  rw [HV.out]
  unfold NewO at HCA
  dsimp only at HOK HCA ⊢
  generalize bldV (canX n) 200 = r at *
  generalize canX n = x at *
  clear hn hb0 hsz HV
  cases hok : nodeOk n
  all_goals
    rw [hok] at HOK
    simp only [if_true, Bool.false_eq_true, if_false]
    clear hok
    go_enter Tryz.func13, Tryz.ntmps13
    go_wp2_with fail
    refine (HOK.out _ HB0.out).mono ?_
    rintro e w1 ⟨rfl, hb1⟩
    have HB1 := Lib.hid (HB0.out.trans (hb1.mono HB0.out.size))
    obtain ⟨n0, n1, n2, n3, n4, n5⟩ := cells6 ((hb1.block _ (row_lt R0.out)).trans R0.out)
    clear hb1
  · go_wp2
    exact bodyPost_ret (v := .tuple #[.string { data := #[] }, .bool false]) (by simp [results, Tryz.results13, go_sem]) rfl ⟨rfl, HB1.out⟩
  · go_wp2_with fail
    refine (HCA.out _ HB1.out).mono ?_
    rintro e w2 ⟨h2, bs2, rfl, ho2, hd2, hg2, hb2⟩
    have HB2 := Lib.hid (HB1.out.trans (hb2.mono HB1.out.size))
    have HC := Lib.hid (HBO.out w2 h2 _ ho2.nd)
    clear hb2 ho2 hd2 hg2 n0 n1 n2 n3 n4 n5
    go_wp2_with fail
    refine HC.out.mono ?_
    rintro e w3 ⟨rfl, hb3⟩
    have HB3 := Lib.hid (HB2.out.trans (hb3.mono HB2.out.size))
    clear hb3 HC
    go_wp2
    exact bodyPost_ret (v := .tuple #[.string (oneS r), .bool (oneB r)]) (by simp [results, Tryz.results13, go_sem]) rfl ⟨rfl, HB3.out⟩
theorem canX_ok {n : Nd} (h : nodeOk n = true) : canN n = canX n := by unfold canX; rw [if_pos h]
set_option maxHeartbeats 4000000 in
set_option maxRecDepth 100000 in
theorem specCanonPut_a (m : Nat) (n : Nd) (h : Hd) (w : World) (S : Nat → Prop) (hn : NdAt w S m n h) (ht : totN m n ≤ 2000000) :
    Calls Tryz.prog 12 #[.agg #[.int .i64 n.kind, .string n.data, .slice h.A n.ptrs.length h.a, .int .i64 n.size, .int .i64 n.count, .slice h.B n.items.length h.b]] w (CpQ n w) := by
  obtain ⟨qA, qa, qB, qb⟩ := h
  have hb0 := (Below.refl w.heap.size w).alloc (Nat.le_refl _) (.cells #[.int .i64 n.kind, .string n.data, .slice qA n.ptrs.length qa, .int .i64 n.size, .int .i64 n.count, .slice qB n.items.length qb] nodeT)
  have HB0 := Lib.hid hb0
  have R0 := Lib.hid (heap_alloc_new w (.cells #[.int .i64 n.kind, .string n.data, .slice qA n.ptrs.length qa, .int .i64 n.size, .int .i64 n.count, .slice qB n.items.length qb] nodeT))
  have hsz : sizN (canX n) ≤ 2000000 := Nat.le_trans canX_sizP (by rw [← totN_siz hn]; exact ht)
  have HOK := Lib.hid (fun (W : World) (hW : Below w.heap.size w W) => specNodeOk_a m n ⟨qA, qa, qB, qb⟩ W S (hn.below hW) ht)
  have HCA := Lib.hid (fun (hok : nodeOk n = true) (W : World) (hW : Below w.heap.size w W) => (canX_ok hok) ▸ spN_any m n ⟨qA, qa, qB, qb⟩ W S (hn.below hW) hok (by rw [← totN_siz hn]; exact ht))
  have HBO : Hid (∀ (W : World) (y : Hd) (S : Nat → Prop), NdAt W S (m + 1) (canX n) y → Calls Tryz.prog 31 #[.agg #[.int .i64 (canX n).kind, .string (canX n).data, .slice y.A (canX n).ptrs.length y.a, .int .i64 (canX n).size, .int .i64 (canX n).count, .slice y.B (canX n).items.length y.b]] W fun e w' => e = .returned (.tuple #[.string (oneS (bldV (canX n) 200)), .bool (oneB (bldV (canX n) 200))]) ∧ Below W.heap.size W w') := Lib.hid fun W y S hy => (specBuildOne_a (m + 1) (canX n) y W S hy (by rw [totN_siz hy]; exact hsz)).mono (fun _ _ h => h.det)
  have HV : Hid (cpV n = if nodeOk n = true then bldV (canX n) 200 else none) := Lib.hid rfl
  unfold CpQ
  rw [HV.out]
  unfold NewO at HCA
  dsimp only at HOK HCA ⊢
  generalize bldV (canX n) 200 = r at *
  generalize canX n = x at *
  clear hn hb0 hsz HV
  cases hok : nodeOk n
  all_goals
    rw [hok] at HOK
    have HOKE := Lib.hid hok
    simp only [if_true, Bool.false_eq_true, if_false]
    clear hok
    go_enter Tryz.func12, Tryz.ntmps12
    go_wp2_with fail
    refine (HOK.out _ HB0.out).mono ?_
    rintro e w1 ⟨rfl, hb1⟩
    have HB1 := Lib.hid (HB0.out.trans (hb1.mono HB0.out.size))
    obtain ⟨n0, n1, n2, n3, n4, n5⟩ := cells6 ((hb1.block _ (row_lt R0.out)).trans R0.out)
    clear hb1
  · go_wp2
    exact bodyPost_ret (v := .tuple #[.string { data := #[] }, .bool false]) (by simp [results, Tryz.results12, go_sem]) rfl ⟨rfl, HB1.out⟩
  · go_wp2_with fail
    refine (HCA.out HOKE.out _ HB1.out).mono ?_
    rintro e w2 ⟨h2, bs2, rfl, ho2, hd2, hg2, hb2⟩
    have HB2 := Lib.hid (HB1.out.trans (hb2.mono HB1.out.size))
    have HC := Lib.hid (HBO.out w2 h2 _ ho2.nd)
    clear hb2 ho2 hd2 hg2 n0 n1 n2 n3 n4 n5
    go_wp2_with fail
    refine HC.out.mono ?_
    rintro e w3 ⟨rfl, hb3⟩
    have HB3 := Lib.hid (HB2.out.trans (hb3.mono HB2.out.size))
    clear hb3 HC
    go_wp2
    exact bodyPost_ret (v := .tuple #[.string (oneS r), .bool (oneB r)]) (by simp [results, Tryz.results12, go_sem]) rfl ⟨rfl, HB3.out⟩
end Go.Proofs.YtbijfkpilncclaaGreat

namespace Go.Proofs.YtbijfkpilncclaaGreat
def byteS (s : Segs) (j p : Nat) : Option UInt8 := (sgS s j)[p]?
def HasT (s : Segs) (j p : Nat) (t : List UInt8) : Prop := ∀ q, q < t.length → byteS s j (p + q) = t[q]?
theorem HasT.inj {s : Segs} {j p : Nat} {t u : List UInt8} (h : HasT s j p t) (g : HasT s j p u) (hl : t.length = u.length) : t = u := by
  apply List.ext_getElem?
  intro q
  by_cases hq : q < t.length
  · rw [← h q hq, g q (by omega)]
  · rw [List.getElem?_eq_none (by omega), List.getElem?_eq_none (by omega)]
theorem HasT.agree {s s' : Segs} {j p : Nat} {t : List UInt8} (h : HasT s j p t) (ha : ∀ q, q < t.length → byteS s' j (p + q) = byteS s j (p + q)) : HasT s' j p t := fun q hq => (ha q hq).trans (h q hq)
theorem spl_byte {x t : List UInt8} {o : Nat} (h : o + t.length ≤ x.length) (p : Nat) : (spl x o t)[p]? = if o ≤ p ∧ p < o + t.length then t[p - o]? else x[p]? := by
  unfold spl
  have h0 : (x.take o).length = o := by rw [List.length_take]; omega
  by_cases h1 : p < o
  · rw [if_neg (by omega), List.append_assoc, List.getElem?_append_left (by omega), List.getElem?_take_of_lt h1]
  · by_cases h2 : p < o + t.length
    · rw [if_pos ⟨by omega, h2⟩, List.getElem?_append_left (by rw [List.length_append]; omega), List.getElem?_append_right (by omega), h0]
    · rw [if_neg (by omega), List.getElem?_append_right (by rw [List.length_append]; omega), List.length_append, h0, List.getElem?_drop]
      congr 1
      omega
theorem byte_put {ss : Segs} {i a : Nat} {t : List UInt8} (hi : i < ss.length) (ha : 8 * a + t.length ≤ (sgS ss i).length) (j p : Nat) : byteS (putS ss i a t) j p = if j = i ∧ 8 * a ≤ p ∧ p < 8 * a + t.length then t[p - 8 * a]? else byteS ss j p := by
  unfold byteS putS
  rw [sgS_set hi]
  by_cases e : j = i
  · subst e
    rw [if_pos rfl, spl_byte ha]
    by_cases h : 8 * a ≤ p ∧ p < 8 * a + t.length
    · rw [if_pos h, if_pos ⟨rfl, h⟩]
    · rw [if_neg h, if_neg (fun x => h x.2)]
  · rw [if_neg e, if_neg (fun x => e x.1)]
theorem put_has {ss : Segs} {i a : Nat} {t : List UInt8} (hi : i < ss.length) (ha : 8 * a + t.length ≤ (sgS ss i).length) : HasT (putS ss i a t) i (8 * a) t := fun q hq => by
  rw [byte_put hi ha, if_pos ⟨rfl, by omega, by omega⟩]
  congr 1
  omega
theorem byte_grow {ss : Segs} {i k : Nat} (hi : i < ss.length) {j p : Nat} (hp : p < (sgS ss j).length) : byteS (growB ss i k) j p = byteS ss j p := by
  unfold byteS
  rw [sgS_grow hi]
  split
  · rename_i e; subst e; rw [List.getElem?_append_left hp]
  · rfl
theorem byte_app {ss : Segs} {j p : Nat} (hp : p < (sgS ss j).length) : byteS (ss ++ [[]]) j p = byteS ss j p := by
  unfold byteS
  rw [sgS_app]
  split
  · rename_i e; subst e; rw [sgS_out (Nat.le_refl _)] at hp; cases hp
  · rfl
def Kept (ss s1 : Segs) (i a n : Nat) : Prop := ∀ j p, p < (sgS ss j).length → ¬ (j = i ∧ 8 * a ≤ p ∧ p < 8 * (a + n)) → byteS s1 j p = byteS ss j p
def Same (ss s1 s2 : Segs) (i a n : Nat) : Prop := ∀ j p, ((j = i ∧ 8 * a ≤ p ∧ p < 8 * (a + n)) ∨ (sgS ss j).length ≤ p ∧ p < (sgS s1 j).length) → byteS s2 j p = byteS s1 j p
def BodyR (R : Nd → Nat → Nat → Prop) (s : Segs) (n : Nd) (j c : Nat) : Prop := HasT s j (8 * c) n.data.data.toList ∧ ∀ k (h : k < n.ptrs.length), R n.ptrs[k] j (c + (n.data.size + 7) / 8 + k)
def FillR (R : Nd → Nat → Nat → Prop) (s : Segs) (n : Nd) (j c : Nat) : Prop :=
  if n.kind = 2 ∧ n.size = 7 then HasT s j (8 * c) (tagW n) ∧ ∀ k (h : k < n.items.length), BodyR R s n.items[k] j (c + 1 + k * (itD n + itP n)) else BodyR R s n j c
def RepN (s : Segs) : Nat → Nd → Nat → Nat → Prop
  | 0, n, i, a => n.kind = 0 ∧ HasT s i (8 * a) (zer 1)
  | d + 1, n, i, a => (n.kind = 0 ∧ HasT s i (8 * a) (zer 1)) ∨ (n.kind ≠ 0 ∧ ownN n = 0 ∧ HasT s i (8 * a) (ptrW n (if n.kind = 1 then -1 else 0))) ∨
    (n.kind ≠ 0 ∧ ownN n ≠ 0 ∧ ∃ j c : Nat, ((j = i ∧ HasT s i (8 * a) (ptrW n ((c : Int) - a - 1))) ∨ ∃ pad : Nat, c = pad + 1 ∧ HasT s i (8 * a) (farW pad j) ∧ HasT s j (8 * pad) (ptrW n 0)) ∧ FillR (RepN s d) s n j c)
theorem Kept.refl (ss : Segs) (i a n : Nat) : Kept ss ss i a n := fun _ _ _ _ => rfl
theorem put_kept {ss : Segs} {i a n : Nat} {t : List UInt8} (hi : i < ss.length) (ha : 8 * a + t.length ≤ (sgS ss i).length) (ht : t.length ≤ 8 * n) : Kept ss (putS ss i a t) i a n := fun j p _ hn => by
  rw [byte_put hi ha, if_neg (fun h => hn ⟨h.1, h.2.1, by omega⟩)]
theorem HasT.cut {s : Segs} {j a m n k : Nat} (h : HasT s j (8 * a) (zer n)) (hk : k + m ≤ n) : HasT s j (8 * (a + k)) (zer m) := fun q hq => by
  rw [zer_length] at hq
  have := h (8 * k + q) (by rw [zer_length]; omega)
  rw [show 8 * (a + k) + q = 8 * a + (8 * k + q) by omega, this]
  unfold zer
  rw [List.getElem?_replicate, List.getElem?_replicate, if_pos (by omega), if_pos hq]
def WrRep (L : Nat) (wr : Wr) (Q : Nd → Prop) (R : Segs → Nd → Nat → Nat → Prop) : Prop := ∀ p ss i a s1, Q p → SOk L ss → i < ss.length → a < wn (sgS ss i) → HasT ss i (8 * a) (zer 1) → wr p ss i a = some s1 → Kept ss s1 i a 1 ∧ ∀ s2, Same ss s1 s2 i a 1 → R s2 p i a
theorem ptrs_rep {L : Nat} {wr : Wr} {Q : Nd → Prop} {R : Segs → Nd → Nat → Nat → Prop} (hw : WrOk L wr Q) (hr : WrRep L wr Q R) : ∀ (l : List Nd) (ss : Segs) (i a : Nat) (s1 : Segs), (∀ p ∈ l, Q p) → SOk L ss → i < ss.length → a + l.length ≤ wn (sgS ss i) → HasT ss i (8 * a) (zer l.length) → ptrsP wr l ss i a = some s1 → Kept ss s1 i a l.length ∧ ∀ s2, Same ss s1 s2 i a l.length → ∀ k (h : k < l.length), R s2 l[k] i (a + k)
  | [], ss, i, a, s1, _, hk, _, _, _, h => by
    injection h with h
    subst h
    exact ⟨Kept.refl _ _ _ _, fun s2 _ k hk => by cases hk⟩
  | p :: t, ss, i, a, s1, hq, hk, hi, ha, hz, h => by
    simp only [ptrsP, Option.bind_eq_some_iff] at h
    obtain ⟨s2, h1, h2⟩ := h
    simp only [List.length_cons] at ha hz
    obtain ⟨k2, g2⟩ := hw p ss i a s2 (hq p (List.mem_cons_self ..)) hk hi (by omega) h1
    obtain ⟨e1, r1⟩ := hr p ss i a s2 (hq p (List.mem_cons_self ..)) hk hi (by omega) (hz.cut (k := 0) (m := 1) (by omega)) h1
    have hi2 := Nat.lt_of_lt_of_le hi g2.1
    have hwi := wds_len hk.wds i
    have hz2 : HasT s2 i (8 * (a + 1)) (zer t.length) := (hz.cut (k := 1) (m := t.length) (by omega)).agree (fun q hq' => by
      rw [zer_length] at hq'
      exact e1 i _ (by omega) (fun h => by omega))
    have ha2 : a + 1 + t.length ≤ wn (sgS s2 i) := by have := g2.wn i; omega
    obtain ⟨e2, r2⟩ := ptrs_rep hw hr t s2 i (a + 1) s1 (fun q hm => hq q (List.mem_cons_of_mem _ hm)) k2 hi2 ha2 hz2 h2
    obtain ⟨k3, g3⟩ := ptrs_some hw t s2 i (a + 1) s1 (fun q hm => hq q (List.mem_cons_of_mem _ hm)) k2 hi2 ha2 h2
    refine ⟨fun j p hp hn => ?_, fun s3 h3 k hk3 => ?_⟩
    · rw [List.length_cons] at hn
      rw [e2 j p (Nat.lt_of_lt_of_le hp (g2.2 j)) (fun h => hn ⟨h.1, by omega, by omega⟩)]
      exact e1 j p hp (fun h => hn ⟨h.1, by omega, by omega⟩)
    · cases k with
      | zero =>
        refine r1 s3 (fun j p hjp => ?_)
        have hold : byteS s1 j p = byteS s2 j p := e2 j p (by
          rcases hjp with ⟨rfl, h4, h5⟩ | ⟨h4, h5⟩
          · have := g2.2 j; omega
          · exact h5) (fun h => by
          rcases hjp with ⟨_, h4, h5⟩ | ⟨h4, h5⟩
          · omega
          · have := h.1; subst this; omega)
        rw [← hold]
        refine h3 j p ?_
        rcases hjp with ⟨e, h4, h5⟩ | ⟨h4, h5⟩
        · exact .inl ⟨e, h4, by rw [List.length_cons]; omega⟩
        · exact .inr ⟨h4, Nat.lt_of_lt_of_le h5 (g3.2 j)⟩
      | succ k =>
        rw [List.length_cons] at hk3
        have := r2 s3 (fun j p hjp => h3 j p (by
          rcases hjp with ⟨e, h4, h5⟩ | ⟨h4, h5⟩
          · exact .inl ⟨e, by omega, by rw [List.length_cons]; omega⟩
          · exact .inr ⟨Nat.le_trans (g2.2 j) h4, h5⟩)) k (by omega)
        rw [show a + (k + 1) = a + 1 + k by omega]
        exact this
end Go.Proofs.YtbijfkpilncclaaGreat
