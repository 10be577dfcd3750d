/- Texts of the proof of the law FnExactCanonPut, side by side: part 37. -/
import Derived.Test.YtbijfkpilncclaaGreatMExactCanonPut00
import Derived.Test.YtbijfkpilncclaaGreatMExactCanonPut01
import Derived.Test.YtbijfkpilncclaaGreatMExactCanonPut02
import Derived.Test.YtbijfkpilncclaaGreatMExactCanonPut03
import Derived.Test.YtbijfkpilncclaaGreatMExactCanonPut04
import Derived.Test.YtbijfkpilncclaaGreatMExactCanonPut05
import Derived.Test.YtbijfkpilncclaaGreatMExactCanonPut06
import Derived.Test.YtbijfkpilncclaaGreatMExactCanonPut07
import Derived.Test.YtbijfkpilncclaaGreatMExactCanonPut08
import Derived.Test.YtbijfkpilncclaaGreatMExactCanonPut09
import Derived.Test.YtbijfkpilncclaaGreatMExactCanonPut10
import Derived.Test.YtbijfkpilncclaaGreatMExactCanonPut11
import Derived.Test.YtbijfkpilncclaaGreatMExactCanonPut12
import Derived.Test.YtbijfkpilncclaaGreatMExactCanonPut13
import Derived.Test.YtbijfkpilncclaaGreatMExactCanonPut14
import Derived.Test.YtbijfkpilncclaaGreatMExactCanonPut15
import Derived.Test.YtbijfkpilncclaaGreatMExactCanonPut16
import Derived.Test.YtbijfkpilncclaaGreatMExactCanonPut17
import Derived.Test.YtbijfkpilncclaaGreatMExactCanonPut18
import Derived.Test.YtbijfkpilncclaaGreatMExactCanonPut19
import Derived.Test.YtbijfkpilncclaaGreatMExactCanonPut20
import Derived.Test.YtbijfkpilncclaaGreatMExactCanonPut21
import Derived.Test.YtbijfkpilncclaaGreatMExactCanonPut22
import Derived.Test.YtbijfkpilncclaaGreatMExactCanonPut23
import Derived.Test.YtbijfkpilncclaaGreatMExactCanonPut24
import Derived.Test.YtbijfkpilncclaaGreatMExactCanonPut25
import Derived.Test.YtbijfkpilncclaaGreatMExactCanonPut26
import Derived.Test.YtbijfkpilncclaaGreatMExactCanonPut27
import Derived.Test.YtbijfkpilncclaaGreatMExactCanonPut28
import Derived.Test.YtbijfkpilncclaaGreatMExactCanonPut29
import Derived.Test.YtbijfkpilncclaaGreatMExactCanonPut30
import Derived.Test.YtbijfkpilncclaaGreatMExactCanonPut31
import Derived.Test.YtbijfkpilncclaaGreatMExactCanonPut32
import Derived.Test.YtbijfkpilncclaaGreatMExactCanonPut33
import Derived.Test.YtbijfkpilncclaaGreatMExactCanonPut34
import Derived.Test.YtbijfkpilncclaaGreatMExactCanonPut35
import Derived.Test.YtbijfkpilncclaaGreatMExactCanonPut36
/- The program's BuildOne. -/
namespace Go.Proofs.YtbijfkpilncclaaGreat
open Go.RowKit Go.Deep
def One1 (r : Option Segs) (w : World) (e : Ending) (w' : World) : Prop := (∃ s t, r = some (s :: t) ∧ e = .returned (.tuple #[strV s, .bool true]) ∧ Below w.heap.size w w') ∨ (r = none ∧ e = .returned (.tuple #[.string { data := #[] }, .bool false]) ∧ Below w.heap.size w w')
set_option maxHeartbeats 4000000 in
set_option maxRecDepth 100000 in
theorem implBuildOne_a (m : Nat) (n : Nd) (h : Hd) (w : World) (S : Nat → Prop) (hn : NdAt w S m n h) (ht : totN m n ≤ 2000000) :
    Calls Tryz.prog 34 #[.agg #[.int .i64 n.kind, .string n.data, .slice h.A n.ptrs.length h.a, .int .i64 n.size, .int .i64 n.count, .slice h.B n.items.length h.b]] w (One1 (bldV n 200) w) := by
  have hne : ∀ ss, bldV n 200 = some ss → ∃ s t, ss = s :: t := fun ss hss => by
    unfold bldV at hss
    split at hss
    · rename_i hh
      obtain ⟨s, hs, _⟩ := build_one (size := 200) hh.1 (by have := node_ok hh.1; unfold nodeWords; rw [if_pos hh.1]; omega)
      rw [show (200 : Int).toNat = 200 from rfl, hs] at hss
      injection hss with hss
      exact ⟨s, [], hss.symm⟩
    · cases hss
  have HNE := Lib.hid hne
  obtain ⟨qA, qa, qB, qb⟩ := h
  have hb0 := (Below.refl w.heap.size w).alloc (Nat.le_refl _) (.cells #[.int .i64 n.kind, .string n.data, .slice qA n.ptrs.length qa, .int .i64 n.size, .int .i64 n.count, .slice qB n.items.length qb] nodeT)
  have HB := Lib.hid (implBuild_a m n ⟨qA, qa, qB, qb⟩ _ S 200 (hn.below hb0) ht)
  dsimp only at HB ⊢
  have HB0 := Lib.hid hb0
  generalize bldV n 200 = r at *
  clear hn hb0 hne
  go_enter Tryz.func34, Tryz.ntmps34
  go_wp2_with fail
  refine HB.out.mono ?_
  rintro e w1 (⟨rfl, rfl, hb1⟩ | ⟨ss, A, c, rfl, rfl, ho, hb1⟩)
  · have HB1 := Lib.hid (HB0.out.trans (hb1.mono HB0.out.size))
    clear hb1
    go_wp2
    exact bodyPost_ret (v := .tuple #[.string { data := #[] }, .bool false]) (by simp [results, Tryz.results34, go_sem]) rfl (.inr ⟨rfl, rfl, HB1.out⟩)
  · have HB1 := Lib.hid (HB0.out.trans (hb1.mono HB0.out.size))
    obtain ⟨s, t, rfl⟩ := HNE.out ss rfl
    obtain ⟨g, cap, cur, hv, -⟩ := own_cases ho (by simp)
    injection hv with e1 e2 e3
    subst e1
    have hc := ho.cells (g := g) rfl 0 (strV s) (by simp)
    rw [add_zero0] at hc
    clear hb1 ho
    go_wp2
    exact bodyPost_ret (v := .tuple #[strV s, .bool true]) (by simp [results, Tryz.results34, go_sem]) rfl (.inl ⟨s, t, rfl, rfl, HB1.out⟩)
end Go.Proofs.YtbijfkpilncclaaGreat

/- The specification's Build and BuildOne. -/
namespace Go.Proofs.YtbijfkpilncclaaGreat
open Go.RowKit Go.Deep
/-- segments as texts. -/
def txS (ss : Segs) : List ByteArray := ss.map fun s => ⟨s.toArray⟩
theorem txS_length (ss : Segs) : (txS ss).length = ss.length := by simp [txS]
theorem frOk_txS {ss : Segs} (hk : SOk LS ss) : frOk (txS ss) = decide (totS ss ≤ 200) := by
  have h1 : ∀ s ∈ ss, s.length % 8 = 0 := fun s hs => by
    obtain ⟨i, hi, e⟩ := List.getElem_of_mem hs
    have := hk.wds i
    rw [sg_eq hi, e] at this
    exact this
  have h2 : ∀ (l : Segs), (∀ s ∈ l, s.length % 8 = 0) → (txS l).all (fun s => decide (s.size % 8 = 0)) = true ∧ tot (txS l) = 8 * totS l := by
    intro l
    induction l with
    | nil => intro _; exact ⟨rfl, rfl⟩
    | cons s t ih =>
      intro h
      obtain ⟨i1, i2⟩ := ih (fun x hx => h x (List.mem_cons_of_mem _ hx))
      have h0 := h s (List.mem_cons_self ..)
      have hs : (⟨s.toArray⟩ : ByteArray).size = s.length := by simp [ByteArray.size]
      have hw : s.length = 8 * wn s := by unfold wn; omega
      simp only [txS, tot, totS] at i1 i2 ⊢
      rw [List.map_cons, List.all_cons, List.map_cons, List.sum_cons, List.map_cons, List.sum_cons, i1, i2, hs]
      exact ⟨by simp [h0], by omega⟩
  obtain ⟨h3, h4⟩ := h2 ss h1
  unfold frOk
  rw [h3, h4, txS_length]
  have h5 := hk.one
  have h6 := hk.six
  by_cases h : totS ss ≤ 200
  · rw [decide_eq_true h, decide_eq_true (show 1 ≤ ss.length ∧ ss.length ≤ 6 from ⟨h5, h6⟩), decide_eq_true (show 8 * totS ss ≤ 1600 by omega)]; rfl
  · rw [decide_eq_false h, decide_eq_false (show ¬ 8 * totS ss ≤ 1600 by omega)]; simp
theorem tot_txS {ss : Segs} (hk : SOk LS ss) : tot (txS ss) ≤ 1099511627776 := by
  have : ∀ (l : Segs), tot (txS l) ≤ 8 * totS l + 8 * l.length := by
    intro l
    induction l with
    | nil => exact Nat.le_refl _
    | cons s t ih =>
      have hs : (⟨s.toArray⟩ : ByteArray).size = s.length := by simp [ByteArray.size]
      have hw : s.length ≤ 8 * wn s + 8 := by unfold wn; omega
      simp only [txS, tot, totS] at ih ⊢
      rw [List.map_cons, List.map_cons, List.sum_cons, List.map_cons, List.sum_cons, List.length_cons, hs]
      omega
  have h1 := this ss
  have h2 := hk.totS
  have h3 := hk.six
  unfold LS at h2
  omega
theorem strs_txS {w : World} {r : Nat} {ss : Segs} (hk : SOk LS ss) (hr : r < w.heap.size) (hc : ∀ i, i < ss.length → w.cell? ⟨r, i, none⟩ = some (strS (sgS ss i))) : Strs w (some ⟨r, 0, none⟩) (txS ss) := by
  refine ⟨fun s hs => ?_, .inr ⟨_, rfl, hr, fun i hi => ?_⟩⟩
  · obtain ⟨x, hx, rfl⟩ := List.mem_map.1 hs
    obtain ⟨i, hi, e⟩ := List.getElem_of_mem hx
    have h1 := sb_len hk i
    rw [sg_eq hi, e] at h1
    have hs : (⟨x.toArray⟩ : ByteArray).size = x.length := by simp [ByteArray.size]
    rw [hs]
    unfold maxLen
    omega
  · have hi' : i < ss.length := by rw [txS_length] at hi; exact hi
    rw [add_zero0, hc i hi', sg_eq hi']
    simp [txS]
theorem own_lowS {w : World} {B B' T sz n : Nat} {v : Value} {xs : List Value} (h : w.ownsRow B T sz v n xs) (hb : B' ≤ B) : w.ownsRow B' T sz v n xs := by
  refine ⟨h.1, ?_⟩
  rcases h.2 with e | ⟨g, cap, cur, e1, e2, e3⟩
  · exact .inl e
  · exact .inr ⟨g, cap, cur, e1, by omega, e3⟩
/-- what the specification's Build answers. -/
def BuildSQ (r : Option Segs) (w : World) (e : Ending) (w' : World) : Prop :=
  (r = none ∧ ∃ A c, e = .returned (.tuple #[.slice A 0 c, .bool false]) ∧ Below w.heap.size w w') ∨
  ∃ ss A c, r = some ss ∧ SOk LS ss ∧ e = .returned (.tuple #[.slice A ss.length c, .bool true]) ∧ w'.ownsRow w.heap.size stT 1 (.slice A ss.length c) ss.length (ss.map strS) ∧ Below w.heap.size w w'
set_option maxHeartbeats 4000000 in
set_option maxRecDepth 100000 in
theorem l5Build_yes (m : Nat) (n : Nd) (h : Hd) (w : World) (S : Nat → Prop) (z : Nat) (hn : NdAt w S m n h) (ht : totN m n ≤ 2000000) (hok : nodeOk n = true) (h1 : 1 ≤ z) (h2 : z ≤ 200) :
    Calls Tryz.prog 58 #[.agg #[.int .i64 n.kind, .string n.data, .slice h.A n.ptrs.length h.a, .int .i64 n.size, .int .i64 n.count, .slice h.B n.items.length h.b], .int .i64 (z : Int)] w (BuildSQ (buildP 200 z n) w) := by
  obtain ⟨qA, qa, qB, qb⟩ := h
  dsimp only
  obtain ⟨ho8, hw8⟩ := node_ok hok
  have hlim := build_lim (size := z) ho8 LS (by decide)
  have HLIM := Lib.hid hlim
  have hk0 := SOKL LS (by decide)
  have hbW : Below w.heap.size w (((w.alloc (.cells #[.int .i64 n.kind, .string n.data, .slice qA n.ptrs.length qa, .int .i64 n.size, .int .i64 n.count, .slice qB n.items.length qb] nodeT)).alloc (.cells #[strS (zer 1)] stT)).alloc (.cells #[.slice (some ⟨w.heap.size + 1, 0, none⟩) 1 1, .int .i64 (z : Int), .bool false] wrT)) := (((Below.refl _ w).alloc (Nat.le_refl _) _).alloc (by simp) _).alloc (by simp; omega) _
  have r0 : ((((w.alloc (.cells #[.int .i64 n.kind, .string n.data, .slice qA n.ptrs.length qa, .int .i64 n.size, .int .i64 n.count, .slice qB n.items.length qb] nodeT)).alloc (.cells #[strS (zer 1)] stT)).alloc (.cells #[.slice (some ⟨w.heap.size + 1, 0, none⟩) 1 1, .int .i64 (z : Int), .bool false] wrT))).heap[w.heap.size]? = some (.cells #[.int .i64 n.kind, .string n.data, .slice qA n.ptrs.length qa, .int .i64 n.size, .int .i64 n.count, .slice qB n.items.length qb] nodeT (0, 0)) := heap_alloc_keep (heap_alloc_keep (heap_alloc_new w _) _) _
  have r1 : ((((w.alloc (.cells #[.int .i64 n.kind, .string n.data, .slice qA n.ptrs.length qa, .int .i64 n.size, .int .i64 n.count, .slice qB n.items.length qb] nodeT)).alloc (.cells #[strS (zer 1)] stT)).alloc (.cells #[.slice (some ⟨w.heap.size + 1, 0, none⟩) 1 1, .int .i64 (z : Int), .bool false] wrT))).heap[w.heap.size + 1]? = some (.cells #[strS (zer 1)] stT (0, 0)) := by
    have := heap_alloc_keep (heap_alloc_new (w.alloc (.cells #[.int .i64 n.kind, .string n.data, .slice qA n.ptrs.length qa, .int .i64 n.size, .int .i64 n.count, .slice qB n.items.length qb] nodeT)) (.cells #[strS (zer 1)] stT)) (.cells #[.slice (some ⟨w.heap.size + 1, 0, none⟩) 1 1, .int .i64 (z : Int), .bool false] wrT)
    simpa using this
  have r2 : ((((w.alloc (.cells #[.int .i64 n.kind, .string n.data, .slice qA n.ptrs.length qa, .int .i64 n.size, .int .i64 n.count, .slice qB n.items.length qb] nodeT)).alloc (.cells #[strS (zer 1)] stT)).alloc (.cells #[.slice (some ⟨w.heap.size + 1, 0, none⟩) 1 1, .int .i64 (z : Int), .bool false] wrT))).heap[w.heap.size + 2]? = some (.cells #[.slice (some ⟨w.heap.size + 1, 0, none⟩) 1 1, .int .i64 (z : Int), .bool false] wrT (0, 0)) := by
    have := heap_alloc_new ((w.alloc (.cells #[.int .i64 n.kind, .string n.data, .slice qA n.ptrs.length qa, .int .i64 n.size, .int .i64 n.count, .slice qB n.items.length qb] nodeT)).alloc (.cells #[strS (zer 1)] stT)) (.cells #[.slice (some ⟨w.heap.size + 1, 0, none⟩) 1 1, .int .i64 (z : Int), .bool false] wrT)
    simpa using this
  have hsb : Sb (((w.alloc (.cells #[.int .i64 n.kind, .string n.data, .slice qA n.ptrs.length qa, .int .i64 n.size, .int .i64 n.count, .slice qB n.items.length qb] nodeT)).alloc (.cells #[strS (zer 1)] stT)).alloc (.cells #[.slice (some ⟨w.heap.size + 1, 0, none⟩) 1 1, .int .i64 (z : Int), .bool false] wrT)) w.heap.size (w.heap.size + 2) z [zer 1] false (fun k => k = w.heap.size + 1 ∨ k = w.heap.size + 2) :=
    ⟨_, r2, ⟨by decide, .inr ⟨w.heap.size + 1, 1, #[strS (zer 1)], rfl, by omega, r1, Nat.le_refl _, by decide, rfl, rfl⟩⟩, by omega, .inr rfl, fun k hk => .inl (Option.some.inj hk).symm⟩
  have HNODE := Lib.hid (swrite_any z h2 8 w.heap.size (w.heap.size + 2) [zer 1] _ (((w.alloc (.cells #[.int .i64 n.kind, .string n.data, .slice qA n.ptrs.length qa, .int .i64 n.size, .int .i64 n.count, .slice qB n.items.length qb] nodeT)).alloc (.cells #[strS (zer 1)] stT)).alloc (.cells #[.slice (some ⟨w.heap.size + 1, 0, none⟩) 1 1, .int .i64 (z : Int), .bool false] wrT)) 0 0 m n ⟨qA, qa, qB, qb⟩ hsb (fun k hk => by
    have : ((((w.alloc (.cells #[.int .i64 n.kind, .string n.data, .slice qA n.ptrs.length qa, .int .i64 n.size, .int .i64 n.count, .slice qB n.items.length qb] nodeT)).alloc (.cells #[strS (zer 1)] stT)).alloc (.cells #[.slice (some ⟨w.heap.size + 1, 0, none⟩) 1 1, .int .i64 (z : Int), .bool false] wrT))).heap.size = w.heap.size + 3 := by simp
    rw [this]
    omega) hk0 (by decide) (by decide) (nd_baseS hn.lt' hbW) ho8 ht (by omega) (by rw [show totS [zer 1] = 1 by decide]; unfold LS; omega))
  dsimp only at HNODE
  have HM := Lib.hid (fun W => l1Many_any ⟨#[0]⟩ 8 W (by omega) (by omega) (by decide) (by decide))
  have hmz : (⟨(repL (⟨#[0]⟩ : ByteArray).data.toList (8 : Int).toNat).toArray⟩ : ByteArray) = ⟨(zer 1).toArray⟩ := by decide +kernel
  rw [hmz] at HM
  have HBW := Lib.hid hbW
  have HSOK : Hid (∀ s1, wrP LS z 8 n [zer 1] 0 0 = some s1 → SOk LS s1) := Lib.hid (fun s1 hs => (wr_some LS z 8 n [zer 1] 0 0 s1 ho8 hk0 (by decide) (by decide) hs).1)
  have HBP : Hid (buildP LS z n = wrP LS z 8 n [zer 1] 0 0) := Lib.hid rfl
  rw [HBP.out] at HLIM
  generalize wrP LS z 8 n [zer 1] 0 0 = rr at *
  clear hn hok ho8 hlim hk0 hbW r0 r1 r2 hsb hmz HBP
  go_enter Tryz.func58, Tryz.ntmps58
  go_wp2_with fail
  refine (HM.out _).mono ?_
  rintro e w9 ⟨rfl, rfl⟩
  go_wp2_with fail
  refine HNODE.out.mono ?_
  rintro e w1 ⟨rfl, hk1, hor⟩
  have HK1 := Lib.hid (HBW.out.trans (hk1.below HBW.out.size (fun k hk => by rcases hk with h | h <;> omega)))
  rcases hor with ⟨hnone, s1, hs1⟩ | ⟨s1, hsome, hs1⟩
  · have HR : Hid (buildP 200 z n = none) := Lib.hid (by rw [HLIM.out, hnone]; rfl)
    obtain ⟨v, hb, -⟩ := hs1
    obtain ⟨c0, c1, c2⟩ := cells3 hb
    clear hb hk1
    go_wp2
    exact bodyPost_ret (v := .tuple #[.slice (some ⟨w1.heap.size, 0, none⟩) 0 0, .bool false]) (by simp [results, Tryz.results58, go_sem]) rfl (.inl ⟨HR.out, _, _, rfl, HK1.out.alloc HK1.out.size _⟩)
  · have hks := HSOK.out s1 hsome
    obtain ⟨r, cap, hb, ho, hlb, hPb, hPr, hc⟩ := hs1.open2 hks.one
    obtain ⟨c0, c1, c2⟩ := cells3 hb
    have HO := Lib.hid ho
    have HKS := Lib.hid hks
    have hrl : r < w1.heap.size := (ho.lt r rfl).2
    have HFR := Lib.hid (specFrameOk_any (some ⟨r, 0, none⟩) cap (txS s1) w1 (strs_txS hks hrl (fun i hi => (hc i hi).1)) (by rw [txS_length]; have := hks.six; omega) (tot_txS hks))
    rw [txS_length, frOk_txS hks] at HFR
    clear hb ho hlb hPb hPr hc hs1 hks hrl hk1
    by_cases hle : totS s1 ≤ 200
    · have HR : Hid (buildP 200 z n = some s1) := Lib.hid (by rw [HLIM.out, hsome, Option.bind_some, if_pos hle])
      rw [decide_eq_true hle] at HFR
      clear hsome hle
      go_wp2_with fail
      refine HFR.out.mono ?_
      rintro e w2 ⟨rfl, rfl⟩
      go_wp2
      exact bodyPost_ret (v := .tuple #[.slice (some ⟨r, 0, none⟩) s1.length cap, .bool true]) (by simp [results, Tryz.results58, go_sem]) rfl (.inr ⟨s1, _, _, HR.out, HKS.out, rfl, HO.out, HK1.out⟩)
    · have HR : Hid (buildP 200 z n = none) := Lib.hid (by rw [HLIM.out, hsome, Option.bind_some, if_neg hle])
      rw [decide_eq_false hle] at HFR
      clear hsome hle
      go_wp2_with fail
      refine HFR.out.mono ?_
      rintro e w2 ⟨rfl, rfl⟩
      go_wp2
      exact bodyPost_ret (v := .tuple #[.slice (some ⟨w1.heap.size, 0, none⟩) 0 0, .bool false]) (by simp [results, Tryz.results58, go_sem]) rfl (.inl ⟨HR.out, _, _, rfl, HK1.out.alloc HK1.out.size _⟩)
set_option maxHeartbeats 4000000 in
set_option maxRecDepth 100000 in
theorem specBuild_a (m : Nat) (n : Nd) (h : Hd) (w : World) (S : Nat → Prop) (size : Int) (hn : NdAt w S m n h) (ht : totN m n ≤ 2000000) :
    Calls Tryz.prog 22 #[.agg #[.int .i64 n.kind, .string n.data, .slice h.A n.ptrs.length h.a, .int .i64 n.size, .int .i64 n.count, .slice h.B n.items.length h.b], .int .i64 size] w (BuildSQ (bldV n size) w) := by
  obtain ⟨qA, qa, qB, qb⟩ := h
  have hb0 := (Below.refl w.heap.size w).alloc (Nat.le_refl _) (.cells #[.int .i64 n.kind, .string n.data, .slice qA n.ptrs.length qa, .int .i64 n.size, .int .i64 n.count, .slice qB n.items.length qb] nodeT)
  have HB0 := Lib.hid hb0
  have R0 := Lib.hid (heap_alloc_new w (.cells #[.int .i64 n.kind, .string n.data, .slice qA n.ptrs.length qa, .int .i64 n.size, .int .i64 n.count, .slice qB n.items.length qb] nodeT))
  have HOK := Lib.hid (fun (W : World) (hW : Below w.heap.size w W) => specNodeOk_a m n ⟨qA, qa, qB, qb⟩ W S (hn.below hW) ht)
  have HLB := Lib.hid (fun (hok : nodeOk n = true) (z : Nat) (h1 : 1 ≤ z) (h2 : z ≤ 200) (W : World) (hW : Below w.heap.size w W) => l5Build_yes m n ⟨qA, qa, qB, qb⟩ W S z (hn.below hW) ht hok h1 h2)
  dsimp only at HOK HLB ⊢
  by_cases hok : nodeOk n = true
  · by_cases hin : 1 ≤ size ∧ size ≤ 200
    · obtain ⟨z, rfl⟩ := Int.eq_ofNat_of_zero_le (show 0 ≤ size by omega)
      have HL2 := Lib.hid (HLB.out hok z (by omega) (by omega))
      have HV : Hid (bldV n (z : Int) = buildP 200 z n) := Lib.hid (by unfold bldV; rw [if_pos ⟨hok, hin⟩]; rfl)
      rw [hok] at HOK
      have HL1 := Lib.hid (fun W => l1In_any (z : Int) 1 200 W)
      rw [show inB (z : Int) 1 200 = true by unfold inB; simp; omega] at HL1
      have HIN := Lib.hid hin
      clear HLB hn hb0 hok
      go_enter Tryz.func22, Tryz.ntmps22
      go_wp2_with fail
      refine (HOK.out _ HB0.out).mono ?_
      rintro e w1 ⟨rfl, hb1⟩
      have HB1 := Lib.hid (HB0.out.trans (hb1.mono HB0.out.size))
      obtain ⟨n0, n1, n2, n3, n4, n5⟩ := cells6 ((hb1.block _ (row_lt R0.out)).trans R0.out)
      clear hb1
      go_wp2_with fail
      go_at_call 57
      refine (HL1.out _).mono ?_
      rintro e w2 ⟨rfl, rfl⟩
      go_wp2_with fail
      refine (HL2.out _ HB1.out).mono ?_
      rintro e w3 (⟨hnone, A, c, rfl, hb3⟩ | ⟨ss, A, c, hsome, hks, rfl, ho, hb3⟩)
      · have HB3 := Lib.hid (HB1.out.trans (hb3.mono HB1.out.size))
        have HN3 := Lib.hid hnone
        clear hb3 hnone
        go_wp2
        exact bodyPost_ret (v := .tuple #[.slice A 0 c, .bool false]) (by simp [results, Tryz.results22, go_sem]) rfl (.inl ⟨by rw [HV.out]; exact HN3.out, A, c, rfl, HB3.out⟩)
      · have HB3 := Lib.hid (HB1.out.trans (hb3.mono HB1.out.size))
        have HN3 := Lib.hid hsome
        have HKS := Lib.hid hks
        have HO3 := Lib.hid (own_lowS ho HB1.out.size)
        clear hb3 hsome hks ho
        go_wp2
        exact bodyPost_ret (v := .tuple #[.slice A ss.length c, .bool true]) (by simp [results, Tryz.results22, go_sem]) rfl (.inr ⟨ss, A, c, by rw [HV.out]; exact HN3.out, HKS.out, rfl, HO3.out, HB3.out⟩)
    · have HV : Hid (bldV n size = none) := Lib.hid (by unfold bldV; rw [if_neg (fun h => hin h.2)])
      have HL1 := Lib.hid (fun W => l1In_any size 1 200 W)
      rw [show inB size 1 200 = false by unfold inB; simp; omega] at HL1
      rw [hok] at HOK
      have HIN := Lib.hid hin
      clear HLB hn hb0 hok hin
      go_enter Tryz.func22, Tryz.ntmps22
      go_wp2_with fail
      refine (HOK.out _ HB0.out).mono ?_
      rintro e w1 ⟨rfl, hb1⟩
      have HB1 := Lib.hid (HB0.out.trans (hb1.mono HB0.out.size))
      clear hb1
      go_wp2_with fail
      go_at_call 57
      refine (HL1.out _).mono ?_
      rintro e w2 ⟨rfl, rfl⟩
      go_wp2
      exact bodyPost_ret (v := .tuple #[.slice (some ⟨w1.heap.size, 0, none⟩) 0 0, .bool false]) (by simp [results, Tryz.results22, go_sem]) rfl (.inl ⟨HV.out, _, _, rfl, HB1.out.alloc HB1.out.size _⟩)
  · have HV : Hid (bldV n size = none) := Lib.hid (by unfold bldV; rw [if_neg (fun h => hok h.1)])
    rw [show nodeOk n = false by simpa using hok] at HOK
    clear HLB hn hb0 hok
    go_enter Tryz.func22, Tryz.ntmps22
    go_wp2_with fail
    refine (HOK.out _ HB0.out).mono ?_
    rintro e w1 ⟨rfl, hb1⟩
    have HB1 := Lib.hid (HB0.out.trans (hb1.mono HB0.out.size))
    clear hb1
    go_wp2
    exact bodyPost_ret (v := .tuple #[.slice (some ⟨w1.heap.size, 0, none⟩) 0 0, .bool false]) (by simp [results, Tryz.results22, go_sem]) rfl (.inl ⟨HV.out, _, _, rfl, HB1.out.alloc HB1.out.size _⟩)
end Go.Proofs.YtbijfkpilncclaaGreat

/- The specification's BuildOne. -/
namespace Go.Proofs.YtbijfkpilncclaaGreat
open Go.RowKit Go.Deep
set_option maxHeartbeats 4000000 in
set_option maxRecDepth 100000 in
theorem specBuildOne_a (m : Nat) (n : Nd) (h : Hd) (w : World) (S : Nat → Prop) (hn : NdAt w S m n h) (ht : totN m n ≤ 2000000) :
    Calls Tryz.prog 31 #[.agg #[.int .i64 n.kind, .string n.data, .slice h.A n.ptrs.length h.a, .int .i64 n.size, .int .i64 n.count, .slice h.B n.items.length h.b]] w (One1 (bldV n 200) w) := by
  obtain ⟨qA, qa, qB, qb⟩ := h
  have hb0 := (Below.refl w.heap.size w).alloc (Nat.le_refl _) (.cells #[.int .i64 n.kind, .string n.data, .slice qA n.ptrs.length qa, .int .i64 n.size, .int .i64 n.count, .slice qB n.items.length qb] nodeT)
  have HB0 := Lib.hid hb0
  have R0 := Lib.hid (heap_alloc_new w (.cells #[.int .i64 n.kind, .string n.data, .slice qA n.ptrs.length qa, .int .i64 n.size, .int .i64 n.count, .slice qB n.items.length qb] nodeT))
  have HOK := Lib.hid (fun (W : World) (hW : Below w.heap.size w W) => specNodeOk_a m n ⟨qA, qa, qB, qb⟩ W S (hn.below hW) ht)
  have HLB := Lib.hid (fun (hok : nodeOk n = true) (W : World) (hW : Below w.heap.size w W) => l5Build_yes m n ⟨qA, qa, qB, qb⟩ W S 200 (hn.below hW) ht hok (by decide) (by decide))
  dsimp only at HOK HLB ⊢
  by_cases hok : nodeOk n = true
  · have HL2 := Lib.hid (HLB.out hok)
    obtain ⟨s0, hs0, -⟩ := build_one (size := 200) hok (by have := node_ok hok; unfold nodeWords; rw [if_pos hok]; omega)
    have HV : Hid (bldV n 200 = some [s0]) := Lib.hid (by unfold bldV; rw [if_pos ⟨hok, by decide, by decide⟩]; exact hs0)
    rw [hok] at HOK
    rw [hs0] at HL2
    clear HLB hn hb0 hok hs0
    go_enter Tryz.func31, Tryz.ntmps31
    go_wp2_with fail
    refine (HOK.out _ HB0.out).mono ?_
    rintro e w1 ⟨rfl, hb1⟩
    have HB1 := Lib.hid (HB0.out.trans (hb1.mono HB0.out.size))
    obtain ⟨n0, n1, n2, n3, n4, n5⟩ := cells6 ((hb1.block _ (row_lt R0.out)).trans R0.out)
    clear hb1
    go_wp2_with fail
    refine (HL2.out _ HB1.out).mono ?_
    rintro e w3 (⟨hnone, A, c, rfl, hb3⟩ | ⟨ss, A, c, hsome, hks, rfl, ho, hb3⟩)
    · cases hnone
    · injection hsome with hsome
      subst hsome
      have HB3 := Lib.hid (HB1.out.trans (hb3.mono HB1.out.size))
      obtain ⟨g, cap, cur, hv, -⟩ := own_cases ho (by simp)
      injection hv with e1 e2 e3
      subst e1
      have hc := ho.cells (g := g) rfl 0 (strS s0) (by simp)
      rw [add_zero0] at hc
      clear hb3 hks ho n0 n1 n2 n3 n4 n5
      go_wp2
      exact bodyPost_ret (v := .tuple #[strV s0, .bool true]) (by simp [results, Tryz.results31, go_sem]) rfl (.inl ⟨s0, [], HV.out, rfl, HB3.out⟩)
  · have HV : Hid (bldV n 200 = none) := Lib.hid (by unfold bldV; rw [if_neg (fun h => hok h.1)])
    rw [show nodeOk n = false by simpa using hok] at HOK
    clear HLB hn hb0 hok
    go_enter Tryz.func31, Tryz.ntmps31
    go_wp2_with fail
    refine (HOK.out _ HB0.out).mono ?_
    rintro e w1 ⟨rfl, hb1⟩
    have HB1 := Lib.hid (HB0.out.trans (hb1.mono HB0.out.size))
    clear hb1
    go_wp2
    exact bodyPost_ret (v := .tuple #[.string { data := #[] }, .bool false]) (by simp [results, Tryz.results31, go_sem]) rfl (.inr ⟨HV.out, rfl, HB1.out⟩)
end Go.Proofs.YtbijfkpilncclaaGreat

/- The walk of the exact law of BuildOne. -/
namespace Go.Proofs.YtbijfkpilncclaaGreat
open Go.RowKit
def oneS : Option Segs → ByteArray
  | some (s :: _) => ⟨s.toArray⟩
  | _ => { data := #[] }
def oneB : Option Segs → Bool
  | some _ => true
  | none => false
theorem One1.det {r : Option Segs} {w : World} {e : Ending} {w' : World} (h : One1 r w e w') : e = .returned (.tuple #[.string (oneS r), .bool (oneB r)]) ∧ Below w.heap.size w w' := by
  rcases h with ⟨s, t, rfl, rfl, hb⟩ | ⟨rfl, rfl, hb⟩
  · exact ⟨rfl, hb⟩
  · exact ⟨rfl, hb⟩
end Go.Proofs.YtbijfkpilncclaaGreat

/- CanonPut of both: what they answer. -/
namespace Go.Proofs.YtbijfkpilncclaaGreat
open Go.RowKit Go.Deep
/-- what CanonPut builds. -/
def cpV (n : Nd) : Option Segs := if nodeOk n = true then bldV (canX n) 200 else none
theorem canX_sizP {n : Nd} : sizN (canX n) ≤ sizN n := by
  unfold canX
  by_cases hok : nodeOk n = true
  · rw [if_pos hok]; exact siz_can 8 n (node_ok hok).1
  · rw [if_neg hok, sizN_eq]
    have : noneNd.data.size + sizL noneNd.ptrs + sizL noneNd.items = 0 := by
      show 0 + sizL [] + sizL [] = 0
      rw [sizL_nil]
    omega
def CpQ (n : Nd) (w : World) (e : Ending) (w' : World) : Prop := e = .returned (.tuple #[.string (oneS (cpV n)), .bool (oneB (cpV n))]) ∧ Below w.heap.size w w'
set_option maxHeartbeats 4000000 in
set_option maxRecDepth 100000 in
theorem implCanonPut_a (m : Nat) (n : Nd) (h : Hd) (w : World) (S : Nat → Prop) (hn : NdAt w S m n h) (ht : totN m n ≤ 2000000) :
    Calls Tryz.prog 13 #[.agg #[.int .i64 n.kind, .string n.data, .slice h.A n.ptrs.length h.a, .int .i64 n.size, .int .i64 n.count, .slice h.B n.items.length h.b]] w (CpQ n w) := by
  obtain ⟨qA, qa, qB, qb⟩ := h
  have hb0 := (Below.refl w.heap.size w).alloc (Nat.le_refl _) (.cells #[.int .i64 n.kind, .string n.data, .slice qA n.ptrs.length qa, .int .i64 n.size, .int .i64 n.count, .slice qB n.items.length qb] nodeT)
  have HB0 := Lib.hid hb0
  have R0 := Lib.hid (heap_alloc_new w (.cells #[.int .i64 n.kind, .string n.data, .slice qA n.ptrs.length qa, .int .i64 n.size, .int .i64 n.count, .slice qB n.items.length qb] nodeT))
  have hsz : sizN (canX n) ≤ 2000000 := Nat.le_trans canX_sizP (by rw [← totN_siz hn]; exact ht)
  have HOK := Lib.hid (fun (W : World) (hW : Below w.heap.size w W) => implNodeOk_a m n ⟨qA, qa, qB, qb⟩ W S (hn.below hW) ht)
  have HCA := Lib.hid (fun (W : World) (hW : Below w.heap.size w W) => implCanon_a m n ⟨qA, qa, qB, qb⟩ W S (hn.below hW) ht)
  have HBO : Hid (∀ (W : World) (y : Hd) (S : Nat → Prop), NdAt W S (m + 1) (canX n) y → Calls Tryz.prog 34 #[.agg #[.int .i64 (canX n).kind, .string (canX n).data, .slice y.A (canX n).ptrs.length y.a, .int .i64 (canX n).size, .int .i64 (canX n).count, .slice y.B (canX n).items.length y.b]] W fun e w' => e = .returned (.tuple #[.string (oneS (bldV (canX n) 200)), .bool (oneB (bldV (canX n) 200))]) ∧ Below W.heap.size W w') := Lib.hid fun W y S hy => (implBuildOne_a (m + 1) (canX n) y W S hy (by rw [totN_siz hy]; exact hsz)).mono (fun _ _ h => h.det)
  have HV : Hid (cpV n = if nodeOk n = true then bldV (canX n) 200 else none) := Lib.hid rfl
  unfold CpQ
  rw [HV.out]
  unfold NewO at HCA
  dsimp only at HOK HCA ⊢
  generalize bldV (canX n) 200 = r at *
  generalize canX n = x at *
  clear hn hb0 hsz HV
  cases hok : nodeOk n
  all_goals
    rw [hok] at HOK
    simp only [if_true, Bool.false_eq_true, if_false]
    clear hok
    go_enter Tryz.func13, Tryz.ntmps13
    go_wp2_with fail
    refine (HOK.out _ HB0.out).mono ?_
    rintro e w1 ⟨rfl, hb1⟩
    have HB1 := Lib.hid (HB0.out.trans (hb1.mono HB0.out.size))
    obtain ⟨n0, n1, n2, n3, n4, n5⟩ := cells6 ((hb1.block _ (row_lt R0.out)).trans R0.out)
    clear hb1
  · go_wp2
    exact bodyPost_ret (v := .tuple #[.string { data := #[] }, .bool false]) (by simp [results, Tryz.results13, go_sem]) rfl ⟨rfl, HB1.out⟩
  · go_wp2_with fail
    refine (HCA.out _ HB1.out).mono ?_
    rintro e w2 ⟨h2, bs2, rfl, ho2, hd2, hg2, hb2⟩
    have HB2 := Lib.hid (HB1.out.trans (hb2.mono HB1.out.size))
    have HC := Lib.hid (HBO.out w2 h2 _ ho2.nd)
    clear hb2 ho2 hd2 hg2 n0 n1 n2 n3 n4 n5
    go_wp2_with fail
    refine HC.out.mono ?_
    rintro e w3 ⟨rfl, hb3⟩
    have HB3 := Lib.hid (HB2.out.trans (hb3.mono HB2.out.size))
    clear hb3 HC
    go_wp2
    exact bodyPost_ret (v := .tuple #[.string (oneS r), .bool (oneB r)]) (by simp [results, Tryz.results13, go_sem]) rfl ⟨rfl, HB3.out⟩
theorem canX_ok {n : Nd} (h : nodeOk n = true) : canN n = canX n := by unfold canX; rw [if_pos h]
set_option maxHeartbeats 4000000 in
set_option maxRecDepth 100000 in
theorem specCanonPut_a (m : Nat) (n : Nd) (h : Hd) (w : World) (S : Nat → Prop) (hn : NdAt w S m n h) (ht : totN m n ≤ 2000000) :
    Calls Tryz.prog 12 #[.agg #[.int .i64 n.kind, .string n.data, .slice h.A n.ptrs.length h.a, .int .i64 n.size, .int .i64 n.count, .slice h.B n.items.length h.b]] w (CpQ n w) := by
  obtain ⟨qA, qa, qB, qb⟩ := h
  have hb0 := (Below.refl w.heap.size w).alloc (Nat.le_refl _) (.cells #[.int .i64 n.kind, .string n.data, .slice qA n.ptrs.length qa, .int .i64 n.size, .int .i64 n.count, .slice qB n.items.length qb] nodeT)
  have HB0 := Lib.hid hb0
  have R0 := Lib.hid (heap_alloc_new w (.cells #[.int .i64 n.kind, .string n.data, .slice qA n.ptrs.length qa, .int .i64 n.size, .int .i64 n.count, .slice qB n.items.length qb] nodeT))
  have hsz : sizN (canX n) ≤ 2000000 := Nat.le_trans canX_sizP (by rw [← totN_siz hn]; exact ht)
  have HOK := Lib.hid (fun (W : World) (hW : Below w.heap.size w W) => specNodeOk_a m n ⟨qA, qa, qB, qb⟩ W S (hn.below hW) ht)
  have HCA := Lib.hid (fun (hok : nodeOk n = true) (W : World) (hW : Below w.heap.size w W) => (canX_ok hok) ▸ spN_any m n ⟨qA, qa, qB, qb⟩ W S (hn.below hW) hok (by rw [← totN_siz hn]; exact ht))
  have HBO : Hid (∀ (W : World) (y : Hd) (S : Nat → Prop), NdAt W S (m + 1) (canX n) y → Calls Tryz.prog 31 #[.agg #[.int .i64 (canX n).kind, .string (canX n).data, .slice y.A (canX n).ptrs.length y.a, .int .i64 (canX n).size, .int .i64 (canX n).count, .slice y.B (canX n).items.length y.b]] W fun e w' => e = .returned (.tuple #[.string (oneS (bldV (canX n) 200)), .bool (oneB (bldV (canX n) 200))]) ∧ Below W.heap.size W w') := Lib.hid fun W y S hy => (specBuildOne_a (m + 1) (canX n) y W S hy (by rw [totN_siz hy]; exact hsz)).mono (fun _ _ h => h.det)
  have HV : Hid (cpV n = if nodeOk n = true then bldV (canX n) 200 else none) := Lib.hid rfl
  unfold CpQ
  rw [HV.out]
  unfold NewO at HCA
  dsimp only at HOK HCA ⊢
  generalize bldV (canX n) 200 = r at *
  generalize canX n = x at *
  clear hn hb0 hsz HV
  cases hok : nodeOk n
  all_goals
    rw [hok] at HOK
    have HOKE := Lib.hid hok
    simp only [if_true, Bool.false_eq_true, if_false]
    clear hok
    go_enter Tryz.func12, Tryz.ntmps12
    go_wp2_with fail
    refine (HOK.out _ HB0.out).mono ?_
    rintro e w1 ⟨rfl, hb1⟩
    have HB1 := Lib.hid (HB0.out.trans (hb1.mono HB0.out.size))
    obtain ⟨n0, n1, n2, n3, n4, n5⟩ := cells6 ((hb1.block _ (row_lt R0.out)).trans R0.out)
    clear hb1
  · go_wp2
    exact bodyPost_ret (v := .tuple #[.string { data := #[] }, .bool false]) (by simp [results, Tryz.results12, go_sem]) rfl ⟨rfl, HB1.out⟩
  · go_wp2_with fail
    refine (HCA.out HOKE.out _ HB1.out).mono ?_
    rintro e w2 ⟨h2, bs2, rfl, ho2, hd2, hg2, hb2⟩
    have HB2 := Lib.hid (HB1.out.trans (hb2.mono HB1.out.size))
    have HC := Lib.hid (HBO.out w2 h2 _ ho2.nd)
    clear hb2 ho2 hd2 hg2 n0 n1 n2 n3 n4 n5
    go_wp2_with fail
    refine HC.out.mono ?_
    rintro e w3 ⟨rfl, hb3⟩
    have HB3 := Lib.hid (HB2.out.trans (hb3.mono HB2.out.size))
    clear hb3 HC
    go_wp2
    exact bodyPost_ret (v := .tuple #[.string (oneS r), .bool (oneB r)]) (by simp [results, Tryz.results12, go_sem]) rfl ⟨rfl, HB3.out⟩
end Go.Proofs.YtbijfkpilncclaaGreat

/- The walk of the exact law of CanonPut. -/
namespace Go.Proofs.YtbijfkpilncclaaGreat
open Go.RowKit
theorem CpQ.det {n : Nd} {w : World} {e : Ending} {w' : World} (h : CpQ n w e w') : e = .returned (.tuple #[.string (oneS (cpV n)), .bool (oneB (cpV n))]) ∧ Below w.heap.size w w' := h
set_option maxHeartbeats 4000000 in
set_option maxRecDepth 100000 in
theorem walkExactCanonPut (w : World) (m : Nat) (n : Nd) (h : Hd) (hn : NdAt w Any m n h) :
    Calls Tryz.prog 4 #[.agg #[.int .i64 n.kind, .string n.data, .slice h.A n.ptrs.length h.a, .int .i64 n.size, .int .i64 n.count, .slice h.B n.items.length h.b]] w fun e w' => e = .returned (.bool true) ∧ Below w.heap.size w w' := by
  have hb0 := (Below.refl w.heap.size w).alloc (Nat.le_refl _) (.cells #[.int .i64 n.kind, .string n.data, .slice h.A n.ptrs.length h.a, .int .i64 n.size, .int .i64 n.count, .slice h.B n.items.length h.b] 24)
  have HR := Lib.hid (heap_alloc_new w (.cells #[.int .i64 n.kind, .string n.data, .slice h.A n.ptrs.length h.a, .int .i64 n.size, .int .i64 n.count, .slice h.B n.items.length h.b] 24))
  have HB0 := Lib.hid hb0
  have hsz : w.heap.size < (w.alloc (.cells #[.int .i64 n.kind, .string n.data, .slice h.A n.ptrs.length h.a, .int .i64 n.size, .int .i64 n.count, .slice h.B n.items.length h.b] 24)).heap.size := by simp
  have HSZ := Lib.hid (szN_any m n h _ 1048576 Any (hn.below hb0) (by decide) (by decide))
  by_cases hbig : (1048576 : Int) < (totN m n : Nat)
  · rw [szR_neg hbig] at HSZ
    clear hn hbig hb0
    go_enter Tryz.func4, Tryz.ntmps4
    go_wp2_with fail
    refine HSZ.out.mono ?_
    rintro e w1 ⟨rfl, hb1⟩
    have HB1 := Lib.hid (HB0.out.trans (hb1.mono HB0.out.size))
    clear hb1
    go_wp2
    go_ret
    exact ⟨rfl, HB1.out⟩
  have ht : totN m n ≤ 2000000 := by omega
  rw [szR_pos (by omega)] at HSZ
  have hl0 : 0 ≤ (1048576 : Int) - (totN m n : Nat) := by omega
  generalize (1048576 : Int) - (totN m n : Nat) = lf at *
  have HN := Lib.hid hn
  have HT := Lib.hid ht
  have HTO : Hid (∀ W : World, Below w.heap.size w W → Calls Tryz.prog 9 #[.agg #[.int .i64 n.kind, .string n.data, .slice h.A n.ptrs.length h.a, .int .i64 n.size, .int .i64 n.count, .slice h.B n.items.length h.b]] W (NewN m n W)) := Lib.hid fun W hb => toN_any m n h W Any (HN.out.below hb) HT.out
  clear hn ht hbig hb0
  go_enter Tryz.func4, Tryz.ntmps4
  go_wp2_with fail
  refine HSZ.out.mono ?_
  rintro e w1 ⟨rfl, hb1⟩
  have HB1 := Lib.hid (HB0.out.trans (hb1.mono HB0.out.size))
  have hr1 := (hb1.block _ hsz).trans HR.out
  have HR1 := Lib.hid hr1
  obtain ⟨a0, a1, a2, a3, a4, a5⟩ := cells6 hr1
  clear hb1 hr1
  go_wp2_with fail
  refine (HTO.out _ HB1.out).mono ?_
  rintro e w2 ⟨h2, rfl, hn2, hb2⟩
  have HB2 := Lib.hid (HB1.out.trans (hb2.mono HB1.out.size))
  have hr2 := (hb2.block _ (row_lt HR1.out)).trans HR1.out
  have HR2 := Lib.hid hr2
  clear a0 a1 a2 a3 a4 a5
  obtain ⟨a0, a1, a2, a3, a4, a5⟩ := cells6 hr2
  have HC := Lib.hid ((specCanonPut_a m n h2 w2 _ hn2 HT.out).mono (fun _ _ h => h.det))
  clear hn2 hb2 hr2
  generalize hsB : oneS (cpV n) = SB at *
  generalize hbB : oneB (cpV n) = BB at *
  go_wp2_with fail
  refine HC.out.mono ?_
  rintro e w3 ⟨rfl, hb3⟩
  have HB3 := Lib.hid (HB2.out.trans (hb3.mono HB2.out.size))
  have hr3 := (hb3.block _ (row_lt HR2.out)).trans HR2.out
  have HR3 := Lib.hid hr3
  clear a0 a1 a2 a3 a4 a5
  obtain ⟨a0, a1, a2, a3, a4, a5⟩ := cells6 hr3
  clear hb3 hr3 HC
  go_wp2_with fail
  refine (HTO.out _ HB3.out).mono ?_
  rintro e w4 ⟨h4, rfl, hn4, hb4⟩
  have HB4 := Lib.hid (HB3.out.trans (hb4.mono HB3.out.size))
  have hr4 := (hb4.block _ (row_lt HR3.out)).trans HR3.out
  have HR4 := Lib.hid hr4
  clear a0 a1 a2 a3 a4 a5
  obtain ⟨a0, a1, a2, a3, a4, a5⟩ := cells6 hr4
  have hbx := (Below.refl w4.heap.size w4).alloc (Nat.le_refl _) (.cells #[.int .i64 n.kind, .string n.data, .slice h4.A n.ptrs.length h4.a, .int .i64 n.size, .int .i64 n.count, .slice h4.B n.items.length h4.b] nodeT)
  have HRX := Lib.hid (heap_alloc_new w4 (.cells #[.int .i64 n.kind, .string n.data, .slice h4.A n.ptrs.length h4.a, .int .i64 n.size, .int .i64 n.count, .slice h4.B n.items.length h4.b] nodeT))
  have HNX := Lib.hid (hn4.below hbx)
  have HBX := Lib.hid (HB4.out.trans (hbx.mono HB4.out.size))
  have HRB := Lib.hid ((hbx.block _ (row_lt HR4.out)).trans HR4.out)
  have HLT := Lib.hid (show w4.heap.size < (w4.alloc (.cells #[.int .i64 n.kind, .string n.data, .slice h4.A n.ptrs.length h4.a, .int .i64 n.size, .int .i64 n.count, .slice h4.B n.items.length h4.b] nodeT)).heap.size by simp)
  have HC := Lib.hid ((implCanonPut_a m n h4 _ _ (HNX.out) HT.out).mono (fun _ _ h => h.det))
  rw [hsB, hbB] at HC
  clear hn4 hb4 hr4 hbx hsB hbB
  go_wp2_with fail
  clear a0 a1 a2 a3 a4 a5
  generalize w4.alloc (.cells #[.int .i64 n.kind, .string n.data, .slice h4.A n.ptrs.length h4.a, .int .i64 n.size, .int .i64 n.count, .slice h4.B n.items.length h4.b] nodeT) = W4 at *
  refine HC.out.mono ?_
  rintro e w5 ⟨rfl, hb5⟩
  have HB5 := Lib.hid (HBX.out.trans (hb5.mono HBX.out.size))
  have HN5 := Lib.hid (HNX.out.below hb5)
  have hr5 := (hb5.block _ (row_lt HRB.out)).trans HRB.out
  have hx5 := (hb5.block _ HLT.out).trans HRX.out
  have HR5 := Lib.hid hr5
  have HX5 := Lib.hid hx5
  obtain ⟨a0, a1, a2, a3, a4, a5⟩ := cells6 hr5
  obtain ⟨b0, b1, b2, b3, b4, b5⟩ := cells6 hx5
  clear hb5 HC hr5 hx5
  have hsz5 : (w5.drew).heap.size = w5.heap.size := rfl
  go_wp2_with fail
  go_region_with (first | (go_at_call 9; go_must (refine (HTO.out _ (by exact HB5.out.drew)).mono ?_); rintro e w6 ⟨h6, rfl, hn6, hb6⟩; have hx6 := (hb6.block _ (row_lt HX5.out)).trans HX5.out; obtain ⟨f0, f1, f2, f3, f4, f5⟩ := cells6 hx6) | (go_at_call 11; go_must (refine (eqN_any m n h4 h6 _ _ _ (HN5.out.below (by exact (Below.mk rfl rfl rfl (Nat.le_refl _) (fun _ _ => rfl) : Below w5.heap.size w5 w5.drew).trans hb6)) hn6 HT.out).mono ?_); rintro e w7 ⟨rfl, hb7⟩))
  all_goals
    have HB7 := Lib.hid ((HB5.out.drew.trans (hb6.mono HB5.out.drew.size)).trans (hb7.mono (HB5.out.drew.trans (hb6.mono HB5.out.drew.size)).size))
    clear hb6 hb7
    go_wp2
    go_ret
    exact ⟨rfl, HB7.out⟩
end Go.Proofs.YtbijfkpilncclaaGreat
