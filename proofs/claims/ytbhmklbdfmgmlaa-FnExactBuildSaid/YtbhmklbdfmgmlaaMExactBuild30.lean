/- Texts of the proof of the law FnExactBuild, side by side: part 30. -/
import Derived.Lib.QuietBelow
import Derived.Laws.OwnMore
import Derived.OwnWalk
import Derived.Deep.QuietTactic
import Derived.BigQuiet
import Derived.Test.YtbhmklbdfmgmlaaMExactBuild00
import Derived.Test.YtbhmklbdfmgmlaaMExactBuild01
import Derived.Test.YtbhmklbdfmgmlaaMExactBuild02
import Derived.Test.YtbhmklbdfmgmlaaMExactBuild03
import Derived.Test.YtbhmklbdfmgmlaaMExactBuild04
import Derived.Test.YtbhmklbdfmgmlaaMExactBuild05
import Derived.Test.YtbhmklbdfmgmlaaMExactBuild06
import Derived.Test.YtbhmklbdfmgmlaaMExactBuild07
import Derived.Test.YtbhmklbdfmgmlaaMExactBuild08
import Derived.Test.YtbhmklbdfmgmlaaMExactBuild09
import Derived.Test.YtbhmklbdfmgmlaaMExactBuild10
import Derived.Test.YtbhmklbdfmgmlaaMExactBuild11
import Derived.Test.YtbhmklbdfmgmlaaMExactBuild12
import Derived.Test.YtbhmklbdfmgmlaaMExactBuild13
import Derived.Test.YtbhmklbdfmgmlaaMExactBuild14
import Derived.Test.YtbhmklbdfmgmlaaMExactBuild15
import Derived.Test.YtbhmklbdfmgmlaaMExactBuild16
import Derived.Test.YtbhmklbdfmgmlaaMExactBuild17
import Derived.Test.YtbhmklbdfmgmlaaMExactBuild18
import Derived.Test.YtbhmklbdfmgmlaaMExactBuild19
import Derived.Test.YtbhmklbdfmgmlaaMExactBuild20
import Derived.Test.YtbhmklbdfmgmlaaMExactBuild21
import Derived.Test.YtbhmklbdfmgmlaaMExactBuild22
import Derived.Test.YtbhmklbdfmgmlaaMExactBuild23
import Derived.Test.YtbhmklbdfmgmlaaMExactBuild24
import Derived.Test.YtbhmklbdfmgmlaaMExactBuild25
import Derived.Test.YtbhmklbdfmgmlaaMExactBuild26
import Derived.Test.YtbhmklbdfmgmlaaMExactBuild27
import Derived.Test.YtbhmklbdfmgmlaaMExactBuild28
import Derived.Test.YtbhmklbdfmgmlaaMExactBuild29
/- The program's BuildOne. -/
namespace Go.Proofs.Ytbhmklbdfmgmlaa
open Go.RowKit Go.Deep
def One1 (r : Option Segs) (w : World) (e : Ending) (w' : World) : Prop := (∃ s t, r = some (s :: t) ∧ e = .returned (.tuple #[strV s, .bool true]) ∧ Below w.heap.size w w') ∨ (r = none ∧ e = .returned (.tuple #[.string { data := #[] }, .bool false]) ∧ Below w.heap.size w w')
set_option maxHeartbeats 4000000 in
set_option maxRecDepth 100000 in
theorem implBuildOne_a (m : Nat) (n : Nd) (h : Hd) (w : World) (S : Nat → Prop) (hn : NdAt w S m n h) (ht : totN m n ≤ 2000000) :
    Calls Try.prog 17 #[.agg #[.int .i64 n.kind, .string n.data, .slice h.A n.ptrs.length h.a, .int .i64 n.size, .int .i64 n.count, .slice h.B n.items.length h.b]] w (One1 (bldV n 200) w) := by
  have hne : ∀ ss, bldV n 200 = some ss → ∃ s t, ss = s :: t := fun ss hss => by
    unfold bldV at hss
    split at hss
    · rename_i hh
      obtain ⟨s, hs, _⟩ := build_one (size := 200) hh.1 (by have := node_ok hh.1; unfold nodeWords; rw [if_pos hh.1]; omega)
      rw [show (200 : Int).toNat = 200 from rfl, hs] at hss
      injection hss with hss
      exact ⟨s, [], hss.symm⟩
    · cases hss
  have HNE := Lib.hid hne
  obtain ⟨qA, qa, qB, qb⟩ := h
  have hb0 := (Below.refl w.heap.size w).alloc (Nat.le_refl _) (.cells #[.int .i64 n.kind, .string n.data, .slice qA n.ptrs.length qa, .int .i64 n.size, .int .i64 n.count, .slice qB n.items.length qb] nodeT)
  have HB := Lib.hid (implBuild_a m n ⟨qA, qa, qB, qb⟩ _ S 200 (hn.below hb0) ht)
  dsimp only at HB ⊢
  have HB0 := Lib.hid hb0
  generalize bldV n 200 = r at *
  clear hn hb0 hne
  go_enter Try.func17, Try.ntmps17
  go_wp2_with fail
  refine HB.out.mono ?_
  rintro e w1 (⟨rfl, rfl, hb1⟩ | ⟨ss, A, c, rfl, rfl, ho, hb1⟩)
  · have HB1 := Lib.hid (HB0.out.trans (hb1.mono HB0.out.size))
    clear hb1
    go_wp2
    exact bodyPost_ret (v := .tuple #[.string { data := #[] }, .bool false]) (by simp [results, Try.results17, go_sem]) rfl (.inr ⟨rfl, rfl, HB1.out⟩)
  · have HB1 := Lib.hid (HB0.out.trans (hb1.mono HB0.out.size))
    obtain ⟨s, t, rfl⟩ := HNE.out ss rfl
    obtain ⟨g, cap, cur, hv, -⟩ := own_cases ho (by simp)
    injection hv with e1 e2 e3
    subst e1
    have hc := ho.cells (g := g) rfl 0 (strV s) (by simp)
    rw [add_zero0] at hc
    clear hb1 ho
    go_wp2
    exact bodyPost_ret (v := .tuple #[strV s, .bool true]) (by simp [results, Try.results17, go_sem]) rfl (.inl ⟨s, t, rfl, rfl, HB1.out⟩)
end Go.Proofs.Ytbhmklbdfmgmlaa

/- The specification's Build and BuildOne. -/
namespace Go.Proofs.Ytbhmklbdfmgmlaa
open Go.RowKit Go.Deep
/-- segments as texts. -/
def txS (ss : Segs) : List ByteArray := ss.map fun s => ⟨s.toArray⟩
theorem txS_length (ss : Segs) : (txS ss).length = ss.length := by simp [txS]
theorem frOk_txS {ss : Segs} (hk : SOk LS ss) : frOk (txS ss) = decide (totS ss ≤ 200) := by
  have h1 : ∀ s ∈ ss, s.length % 8 = 0 := fun s hs => by
    obtain ⟨i, hi, e⟩ := List.getElem_of_mem hs
    have := hk.wds i
    rw [sg_eq hi, e] at this
    exact this
  have h2 : ∀ (l : Segs), (∀ s ∈ l, s.length % 8 = 0) → (txS l).all (fun s => decide (s.size % 8 = 0)) = true ∧ tot (txS l) = 8 * totS l := by
    intro l
    induction l with
    | nil => intro _; exact ⟨rfl, rfl⟩
    | cons s t ih =>
      intro h
      obtain ⟨i1, i2⟩ := ih (fun x hx => h x (List.mem_cons_of_mem _ hx))
      have h0 := h s (List.mem_cons_self ..)
      have hs : (⟨s.toArray⟩ : ByteArray).size = s.length := by simp [ByteArray.size]
      have hw : s.length = 8 * wn s := by unfold wn; omega
      simp only [txS, tot, totS] at i1 i2 ⊢
      rw [List.map_cons, List.all_cons, List.map_cons, List.sum_cons, List.map_cons, List.sum_cons, i1, i2, hs]
      exact ⟨by simp [h0], by omega⟩
  obtain ⟨h3, h4⟩ := h2 ss h1
  unfold frOk
  rw [h3, h4, txS_length]
  have h5 := hk.one
  have h6 := hk.six
  by_cases h : totS ss ≤ 200
  · rw [decide_eq_true h, decide_eq_true (show 1 ≤ ss.length ∧ ss.length ≤ 6 from ⟨h5, h6⟩), decide_eq_true (show 8 * totS ss ≤ 1600 by omega)]; rfl
  · rw [decide_eq_false h, decide_eq_false (show ¬ 8 * totS ss ≤ 1600 by omega)]; simp
theorem tot_txS {ss : Segs} (hk : SOk LS ss) : tot (txS ss) ≤ 1099511627776 := by
  have : ∀ (l : Segs), tot (txS l) ≤ 8 * totS l + 8 * l.length := by
    intro l
    induction l with
    | nil => exact Nat.le_refl _
    | cons s t ih =>
      have hs : (⟨s.toArray⟩ : ByteArray).size = s.length := by simp [ByteArray.size]
      have hw : s.length ≤ 8 * wn s + 8 := by unfold wn; omega
      simp only [txS, tot, totS] at ih ⊢
      rw [List.map_cons, List.map_cons, List.sum_cons, List.map_cons, List.sum_cons, List.length_cons, hs]
      omega
  have h1 := this ss
  have h2 := hk.totS
  have h3 := hk.six
  unfold LS at h2
  omega
theorem strs_txS {w : World} {r : Nat} {ss : Segs} (hk : SOk LS ss) (hr : r < w.heap.size) (hc : ∀ i, i < ss.length → w.cell? ⟨r, i, none⟩ = some (strS (sgS ss i))) : Strs w (some ⟨r, 0, none⟩) (txS ss) := by
  refine ⟨fun s hs => ?_, .inr ⟨_, rfl, hr, fun i hi => ?_⟩⟩
  · obtain ⟨x, hx, rfl⟩ := List.mem_map.1 hs
    obtain ⟨i, hi, e⟩ := List.getElem_of_mem hx
    have h1 := sb_len hk i
    rw [sg_eq hi, e] at h1
    have hs : (⟨x.toArray⟩ : ByteArray).size = x.length := by simp [ByteArray.size]
    rw [hs]
    unfold maxLen
    omega
  · have hi' : i < ss.length := by rw [txS_length] at hi; exact hi
    rw [add_zero0, hc i hi', sg_eq hi']
    simp [txS]
theorem own_lowS {w : World} {B B' T sz n : Nat} {v : Value} {xs : List Value} (h : w.ownsRow B T sz v n xs) (hb : B' ≤ B) : w.ownsRow B' T sz v n xs := by
  refine ⟨h.1, ?_⟩
  rcases h.2 with e | ⟨g, cap, cur, e1, e2, e3⟩
  · exact .inl e
  · exact .inr ⟨g, cap, cur, e1, by omega, e3⟩
/-- what the specification's Build answers. -/
def BuildSQ (r : Option Segs) (w : World) (e : Ending) (w' : World) : Prop :=
  (r = none ∧ ∃ A c, e = .returned (.tuple #[.slice A 0 c, .bool false]) ∧ Below w.heap.size w w') ∨
  ∃ ss A c, r = some ss ∧ SOk LS ss ∧ e = .returned (.tuple #[.slice A ss.length c, .bool true]) ∧ w'.ownsRow w.heap.size stT 1 (.slice A ss.length c) ss.length (ss.map strS) ∧ Below w.heap.size w w'
set_option maxHeartbeats 4000000 in
set_option maxRecDepth 100000 in
theorem l5Build_yes (m : Nat) (n : Nd) (h : Hd) (w : World) (S : Nat → Prop) (z : Nat) (hn : NdAt w S m n h) (ht : totN m n ≤ 2000000) (hok : nodeOk n = true) (h1 : 1 ≤ z) (h2 : z ≤ 200) :
    Calls Try.prog 26 #[.agg #[.int .i64 n.kind, .string n.data, .slice h.A n.ptrs.length h.a, .int .i64 n.size, .int .i64 n.count, .slice h.B n.items.length h.b], .int .i64 (z : Int)] w (BuildSQ (buildP 200 z n) w) := by
  obtain ⟨qA, qa, qB, qb⟩ := h
  dsimp only
  obtain ⟨ho8, hw8⟩ := node_ok hok
  have hlim := build_lim (size := z) ho8 LS (by decide)
  have HLIM := Lib.hid hlim
  have hk0 := SOKL LS (by decide)
  have hbW : Below w.heap.size w (((w.alloc (.cells #[.int .i64 n.kind, .string n.data, .slice qA n.ptrs.length qa, .int .i64 n.size, .int .i64 n.count, .slice qB n.items.length qb] nodeT)).alloc (.cells #[strS (zer 1)] stT)).alloc (.cells #[.slice (some ⟨w.heap.size + 1, 0, none⟩) 1 1, .int .i64 (z : Int), .bool false] wrT)) := (((Below.refl _ w).alloc (Nat.le_refl _) _).alloc (by simp) _).alloc (by simp; omega) _
  have r0 : ((((w.alloc (.cells #[.int .i64 n.kind, .string n.data, .slice qA n.ptrs.length qa, .int .i64 n.size, .int .i64 n.count, .slice qB n.items.length qb] nodeT)).alloc (.cells #[strS (zer 1)] stT)).alloc (.cells #[.slice (some ⟨w.heap.size + 1, 0, none⟩) 1 1, .int .i64 (z : Int), .bool false] wrT))).heap[w.heap.size]? = some (.cells #[.int .i64 n.kind, .string n.data, .slice qA n.ptrs.length qa, .int .i64 n.size, .int .i64 n.count, .slice qB n.items.length qb] nodeT (0, 0)) := heap_alloc_keep (heap_alloc_keep (heap_alloc_new w _) _) _
  have r1 : ((((w.alloc (.cells #[.int .i64 n.kind, .string n.data, .slice qA n.ptrs.length qa, .int .i64 n.size, .int .i64 n.count, .slice qB n.items.length qb] nodeT)).alloc (.cells #[strS (zer 1)] stT)).alloc (.cells #[.slice (some ⟨w.heap.size + 1, 0, none⟩) 1 1, .int .i64 (z : Int), .bool false] wrT))).heap[w.heap.size + 1]? = some (.cells #[strS (zer 1)] stT (0, 0)) := by
    have := heap_alloc_keep (heap_alloc_new (w.alloc (.cells #[.int .i64 n.kind, .string n.data, .slice qA n.ptrs.length qa, .int .i64 n.size, .int .i64 n.count, .slice qB n.items.length qb] nodeT)) (.cells #[strS (zer 1)] stT)) (.cells #[.slice (some ⟨w.heap.size + 1, 0, none⟩) 1 1, .int .i64 (z : Int), .bool false] wrT)
    simpa using this
  have r2 : ((((w.alloc (.cells #[.int .i64 n.kind, .string n.data, .slice qA n.ptrs.length qa, .int .i64 n.size, .int .i64 n.count, .slice qB n.items.length qb] nodeT)).alloc (.cells #[strS (zer 1)] stT)).alloc (.cells #[.slice (some ⟨w.heap.size + 1, 0, none⟩) 1 1, .int .i64 (z : Int), .bool false] wrT))).heap[w.heap.size + 2]? = some (.cells #[.slice (some ⟨w.heap.size + 1, 0, none⟩) 1 1, .int .i64 (z : Int), .bool false] wrT (0, 0)) := by
    have := heap_alloc_new ((w.alloc (.cells #[.int .i64 n.kind, .string n.data, .slice qA n.ptrs.length qa, .int .i64 n.size, .int .i64 n.count, .slice qB n.items.length qb] nodeT)).alloc (.cells #[strS (zer 1)] stT)) (.cells #[.slice (some ⟨w.heap.size + 1, 0, none⟩) 1 1, .int .i64 (z : Int), .bool false] wrT)
    simpa using this
  have hsb : Sb (((w.alloc (.cells #[.int .i64 n.kind, .string n.data, .slice qA n.ptrs.length qa, .int .i64 n.size, .int .i64 n.count, .slice qB n.items.length qb] nodeT)).alloc (.cells #[strS (zer 1)] stT)).alloc (.cells #[.slice (some ⟨w.heap.size + 1, 0, none⟩) 1 1, .int .i64 (z : Int), .bool false] wrT)) w.heap.size (w.heap.size + 2) z [zer 1] false (fun k => k = w.heap.size + 1 ∨ k = w.heap.size + 2) :=
    ⟨_, r2, ⟨by decide, .inr ⟨w.heap.size + 1, 1, #[strS (zer 1)], rfl, by omega, r1, Nat.le_refl _, by decide, rfl, rfl⟩⟩, by omega, .inr rfl, fun k hk => .inl (Option.some.inj hk).symm⟩
  have HNODE := Lib.hid (swrite_any z h2 8 w.heap.size (w.heap.size + 2) [zer 1] _ (((w.alloc (.cells #[.int .i64 n.kind, .string n.data, .slice qA n.ptrs.length qa, .int .i64 n.size, .int .i64 n.count, .slice qB n.items.length qb] nodeT)).alloc (.cells #[strS (zer 1)] stT)).alloc (.cells #[.slice (some ⟨w.heap.size + 1, 0, none⟩) 1 1, .int .i64 (z : Int), .bool false] wrT)) 0 0 m n ⟨qA, qa, qB, qb⟩ hsb (fun k hk => by
    have : ((((w.alloc (.cells #[.int .i64 n.kind, .string n.data, .slice qA n.ptrs.length qa, .int .i64 n.size, .int .i64 n.count, .slice qB n.items.length qb] nodeT)).alloc (.cells #[strS (zer 1)] stT)).alloc (.cells #[.slice (some ⟨w.heap.size + 1, 0, none⟩) 1 1, .int .i64 (z : Int), .bool false] wrT))).heap.size = w.heap.size + 3 := by simp
    rw [this]
    omega) hk0 (by decide) (by decide) (nd_baseS hn.lt' hbW) ho8 ht (by omega) (by rw [show totS [zer 1] = 1 by decide]; unfold LS; omega))
  dsimp only at HNODE
  have HM := Lib.hid (fun W => l1Many_any ⟨#[0]⟩ 8 W (by omega) (by omega) (by decide) (by decide))
  have hmz : (⟨(repL (⟨#[0]⟩ : ByteArray).data.toList (8 : Int).toNat).toArray⟩ : ByteArray) = ⟨(zer 1).toArray⟩ := by decide +kernel
  rw [hmz] at HM
  have HBW := Lib.hid hbW
  have HSOK : Hid (∀ s1, wrP LS z 8 n [zer 1] 0 0 = some s1 → SOk LS s1) := Lib.hid (fun s1 hs => (wr_some LS z 8 n [zer 1] 0 0 s1 ho8 hk0 (by decide) (by decide) hs).1)
  have HBP : Hid (buildP LS z n = wrP LS z 8 n [zer 1] 0 0) := Lib.hid rfl
  rw [HBP.out] at HLIM
  generalize wrP LS z 8 n [zer 1] 0 0 = rr at *
  clear hn hok ho8 hlim hk0 hbW r0 r1 r2 hsb hmz HBP
  go_enter Try.func26, Try.ntmps26
  go_wp2_with fail
  refine (HM.out _).mono ?_
  rintro e w9 ⟨rfl, rfl⟩
  go_wp2_with fail
  refine HNODE.out.mono ?_
  rintro e w1 ⟨rfl, hk1, hor⟩
  have HK1 := Lib.hid (HBW.out.trans (hk1.below HBW.out.size (fun k hk => by rcases hk with h | h <;> omega)))
  rcases hor with ⟨hnone, s1, hs1⟩ | ⟨s1, hsome, hs1⟩
  · have HR : Hid (buildP 200 z n = none) := Lib.hid (by rw [HLIM.out, hnone]; rfl)
    obtain ⟨v, hb, -⟩ := hs1
    obtain ⟨c0, c1, c2⟩ := cells3 hb
    clear hb hk1
    go_wp2
    exact bodyPost_ret (v := .tuple #[.slice (some ⟨w1.heap.size, 0, none⟩) 0 0, .bool false]) (by simp [results, Try.results26, go_sem]) rfl (.inl ⟨HR.out, _, _, rfl, HK1.out.alloc HK1.out.size _⟩)
  · have hks := HSOK.out s1 hsome
    obtain ⟨r, cap, hb, ho, hlb, hPb, hPr, hc⟩ := hs1.open2 hks.one
    obtain ⟨c0, c1, c2⟩ := cells3 hb
    have HO := Lib.hid ho
    have HKS := Lib.hid hks
    have hrl : r < w1.heap.size := (ho.lt r rfl).2
    have HFR := Lib.hid (specFrameOk_any (some ⟨r, 0, none⟩) cap (txS s1) w1 (strs_txS hks hrl (fun i hi => (hc i hi).1)) (by rw [txS_length]; have := hks.six; omega) (tot_txS hks))
    rw [txS_length, frOk_txS hks] at HFR
    clear hb ho hlb hPb hPr hc hs1 hks hrl hk1
    by_cases hle : totS s1 ≤ 200
    · have HR : Hid (buildP 200 z n = some s1) := Lib.hid (by rw [HLIM.out, hsome, Option.bind_some, if_pos hle])
      rw [decide_eq_true hle] at HFR
      clear hsome hle
      go_wp2_with fail
      refine HFR.out.mono ?_
      rintro e w2 ⟨rfl, rfl⟩
      go_wp2
      exact bodyPost_ret (v := .tuple #[.slice (some ⟨r, 0, none⟩) s1.length cap, .bool true]) (by simp [results, Try.results26, go_sem]) rfl (.inr ⟨s1, _, _, HR.out, HKS.out, rfl, HO.out, HK1.out⟩)
    · have HR : Hid (buildP 200 z n = none) := Lib.hid (by rw [HLIM.out, hsome, Option.bind_some, if_neg hle])
      rw [decide_eq_false hle] at HFR
      clear hsome hle
      go_wp2_with fail
      refine HFR.out.mono ?_
      rintro e w2 ⟨rfl, rfl⟩
      go_wp2
      exact bodyPost_ret (v := .tuple #[.slice (some ⟨w1.heap.size, 0, none⟩) 0 0, .bool false]) (by simp [results, Try.results26, go_sem]) rfl (.inl ⟨HR.out, _, _, rfl, HK1.out.alloc HK1.out.size _⟩)
set_option maxHeartbeats 4000000 in
set_option maxRecDepth 100000 in
theorem specBuild_a (m : Nat) (n : Nd) (h : Hd) (w : World) (S : Nat → Prop) (size : Int) (hn : NdAt w S m n h) (ht : totN m n ≤ 2000000) :
    Calls Try.prog 8 #[.agg #[.int .i64 n.kind, .string n.data, .slice h.A n.ptrs.length h.a, .int .i64 n.size, .int .i64 n.count, .slice h.B n.items.length h.b], .int .i64 size] w (BuildSQ (bldV n size) w) := by
  obtain ⟨qA, qa, qB, qb⟩ := h
  have hb0 := (Below.refl w.heap.size w).alloc (Nat.le_refl _) (.cells #[.int .i64 n.kind, .string n.data, .slice qA n.ptrs.length qa, .int .i64 n.size, .int .i64 n.count, .slice qB n.items.length qb] nodeT)
  have HB0 := Lib.hid hb0
  have R0 := Lib.hid (heap_alloc_new w (.cells #[.int .i64 n.kind, .string n.data, .slice qA n.ptrs.length qa, .int .i64 n.size, .int .i64 n.count, .slice qB n.items.length qb] nodeT))
  have HOK := Lib.hid (fun (W : World) (hW : Below w.heap.size w W) => specNodeOk_a m n ⟨qA, qa, qB, qb⟩ W S (hn.below hW) ht)
  have HLB := Lib.hid (fun (hok : nodeOk n = true) (z : Nat) (h1 : 1 ≤ z) (h2 : z ≤ 200) (W : World) (hW : Below w.heap.size w W) => l5Build_yes m n ⟨qA, qa, qB, qb⟩ W S z (hn.below hW) ht hok h1 h2)
  dsimp only at HOK HLB ⊢
  by_cases hok : nodeOk n = true
  · by_cases hin : 1 ≤ size ∧ size ≤ 200
    · obtain ⟨z, rfl⟩ := Int.eq_ofNat_of_zero_le (show 0 ≤ size by omega)
      have HL2 := Lib.hid (HLB.out hok z (by omega) (by omega))
      have HV : Hid (bldV n (z : Int) = buildP 200 z n) := Lib.hid (by unfold bldV; rw [if_pos ⟨hok, hin⟩]; rfl)
      rw [hok] at HOK
      have HL1 := Lib.hid (fun W => l1In_any (z : Int) 1 200 W)
      rw [show inB (z : Int) 1 200 = true by unfold inB; simp; omega] at HL1
      have HIN := Lib.hid hin
      clear HLB hn hb0 hok
      go_enter Try.func8, Try.ntmps8
      go_wp2_with fail
      refine (HOK.out _ HB0.out).mono ?_
      rintro e w1 ⟨rfl, hb1⟩
      have HB1 := Lib.hid (HB0.out.trans (hb1.mono HB0.out.size))
      obtain ⟨n0, n1, n2, n3, n4, n5⟩ := cells6 ((hb1.block _ (row_lt R0.out)).trans R0.out)
      clear hb1
      go_wp2_with fail
      go_at_call 25
      refine (HL1.out _).mono ?_
      rintro e w2 ⟨rfl, rfl⟩
      go_wp2_with fail
      refine (HL2.out _ HB1.out).mono ?_
      rintro e w3 (⟨hnone, A, c, rfl, hb3⟩ | ⟨ss, A, c, hsome, hks, rfl, ho, hb3⟩)
      · have HB3 := Lib.hid (HB1.out.trans (hb3.mono HB1.out.size))
        have HN3 := Lib.hid hnone
        clear hb3 hnone
        go_wp2
        exact bodyPost_ret (v := .tuple #[.slice A 0 c, .bool false]) (by simp [results, Try.results8, go_sem]) rfl (.inl ⟨by rw [HV.out]; exact HN3.out, A, c, rfl, HB3.out⟩)
      · have HB3 := Lib.hid (HB1.out.trans (hb3.mono HB1.out.size))
        have HN3 := Lib.hid hsome
        have HKS := Lib.hid hks
        have HO3 := Lib.hid (own_lowS ho HB1.out.size)
        clear hb3 hsome hks ho
        go_wp2
        exact bodyPost_ret (v := .tuple #[.slice A ss.length c, .bool true]) (by simp [results, Try.results8, go_sem]) rfl (.inr ⟨ss, A, c, by rw [HV.out]; exact HN3.out, HKS.out, rfl, HO3.out, HB3.out⟩)
    · have HV : Hid (bldV n size = none) := Lib.hid (by unfold bldV; rw [if_neg (fun h => hin h.2)])
      have HL1 := Lib.hid (fun W => l1In_any size 1 200 W)
      rw [show inB size 1 200 = false by unfold inB; simp; omega] at HL1
      rw [hok] at HOK
      have HIN := Lib.hid hin
      clear HLB hn hb0 hok hin
      go_enter Try.func8, Try.ntmps8
      go_wp2_with fail
      refine (HOK.out _ HB0.out).mono ?_
      rintro e w1 ⟨rfl, hb1⟩
      have HB1 := Lib.hid (HB0.out.trans (hb1.mono HB0.out.size))
      clear hb1
      go_wp2_with fail
      go_at_call 25
      refine (HL1.out _).mono ?_
      rintro e w2 ⟨rfl, rfl⟩
      go_wp2
      exact bodyPost_ret (v := .tuple #[.slice (some ⟨w1.heap.size, 0, none⟩) 0 0, .bool false]) (by simp [results, Try.results8, go_sem]) rfl (.inl ⟨HV.out, _, _, rfl, HB1.out.alloc HB1.out.size _⟩)
  · have HV : Hid (bldV n size = none) := Lib.hid (by unfold bldV; rw [if_neg (fun h => hok h.1)])
    rw [show nodeOk n = false by simpa using hok] at HOK
    clear HLB hn hb0 hok
    go_enter Try.func8, Try.ntmps8
    go_wp2_with fail
    refine (HOK.out _ HB0.out).mono ?_
    rintro e w1 ⟨rfl, hb1⟩
    have HB1 := Lib.hid (HB0.out.trans (hb1.mono HB0.out.size))
    clear hb1
    go_wp2
    exact bodyPost_ret (v := .tuple #[.slice (some ⟨w1.heap.size, 0, none⟩) 0 0, .bool false]) (by simp [results, Try.results8, go_sem]) rfl (.inl ⟨HV.out, _, _, rfl, HB1.out.alloc HB1.out.size _⟩)
end Go.Proofs.Ytbhmklbdfmgmlaa

/- The specification's BuildOne. -/
namespace Go.Proofs.Ytbhmklbdfmgmlaa
open Go.RowKit Go.Deep
set_option maxHeartbeats 4000000 in
set_option maxRecDepth 100000 in
theorem specBuildOne_a (m : Nat) (n : Nd) (h : Hd) (w : World) (S : Nat → Prop) (hn : NdAt w S m n h) (ht : totN m n ≤ 2000000) :
    Calls Try.prog 16 #[.agg #[.int .i64 n.kind, .string n.data, .slice h.A n.ptrs.length h.a, .int .i64 n.size, .int .i64 n.count, .slice h.B n.items.length h.b]] w (One1 (bldV n 200) w) := by
  obtain ⟨qA, qa, qB, qb⟩ := h
  have hb0 := (Below.refl w.heap.size w).alloc (Nat.le_refl _) (.cells #[.int .i64 n.kind, .string n.data, .slice qA n.ptrs.length qa, .int .i64 n.size, .int .i64 n.count, .slice qB n.items.length qb] nodeT)
  have HB0 := Lib.hid hb0
  have R0 := Lib.hid (heap_alloc_new w (.cells #[.int .i64 n.kind, .string n.data, .slice qA n.ptrs.length qa, .int .i64 n.size, .int .i64 n.count, .slice qB n.items.length qb] nodeT))
  have HOK := Lib.hid (fun (W : World) (hW : Below w.heap.size w W) => specNodeOk_a m n ⟨qA, qa, qB, qb⟩ W S (hn.below hW) ht)
  have HLB := Lib.hid (fun (hok : nodeOk n = true) (W : World) (hW : Below w.heap.size w W) => l5Build_yes m n ⟨qA, qa, qB, qb⟩ W S 200 (hn.below hW) ht hok (by decide) (by decide))
  dsimp only at HOK HLB ⊢
  by_cases hok : nodeOk n = true
  · have HL2 := Lib.hid (HLB.out hok)
    obtain ⟨s0, hs0, -⟩ := build_one (size := 200) hok (by have := node_ok hok; unfold nodeWords; rw [if_pos hok]; omega)
    have HV : Hid (bldV n 200 = some [s0]) := Lib.hid (by unfold bldV; rw [if_pos ⟨hok, by decide, by decide⟩]; exact hs0)
    rw [hok] at HOK
    rw [hs0] at HL2
    clear HLB hn hb0 hok hs0
    go_enter Try.func16, Try.ntmps16
    go_wp2_with fail
    refine (HOK.out _ HB0.out).mono ?_
    rintro e w1 ⟨rfl, hb1⟩
    have HB1 := Lib.hid (HB0.out.trans (hb1.mono HB0.out.size))
    obtain ⟨n0, n1, n2, n3, n4, n5⟩ := cells6 ((hb1.block _ (row_lt R0.out)).trans R0.out)
    clear hb1
    go_wp2_with fail
    refine (HL2.out _ HB1.out).mono ?_
    rintro e w3 (⟨hnone, A, c, rfl, hb3⟩ | ⟨ss, A, c, hsome, hks, rfl, ho, hb3⟩)
    · cases hnone
    · injection hsome with hsome
      subst hsome
      have HB3 := Lib.hid (HB1.out.trans (hb3.mono HB1.out.size))
      obtain ⟨g, cap, cur, hv, -⟩ := own_cases ho (by simp)
      injection hv with e1 e2 e3
      subst e1
      have hc := ho.cells (g := g) rfl 0 (strS s0) (by simp)
      rw [add_zero0] at hc
      clear hb3 hks ho n0 n1 n2 n3 n4 n5
      go_wp2
      exact bodyPost_ret (v := .tuple #[strV s0, .bool true]) (by simp [results, Try.results16, go_sem]) rfl (.inl ⟨s0, [], HV.out, rfl, HB3.out⟩)
  · have HV : Hid (bldV n 200 = none) := Lib.hid (by unfold bldV; rw [if_neg (fun h => hok h.1)])
    rw [show nodeOk n = false by simpa using hok] at HOK
    clear HLB hn hb0 hok
    go_enter Try.func16, Try.ntmps16
    go_wp2_with fail
    refine (HOK.out _ HB0.out).mono ?_
    rintro e w1 ⟨rfl, hb1⟩
    have HB1 := Lib.hid (HB0.out.trans (hb1.mono HB0.out.size))
    clear hb1
    go_wp2
    exact bodyPost_ret (v := .tuple #[.string { data := #[] }, .bool false]) (by simp [results, Try.results16, go_sem]) rfl (.inr ⟨HV.out, rfl, HB1.out⟩)
end Go.Proofs.Ytbhmklbdfmgmlaa

/- The laws' helpers markText, markStringS, heldStringS. -/
namespace Go.Proofs.Ytbhmklbdfmgmlaa
open Go.RowKit
/-- the figures of a number, nothing of 0. -/
def digsL (k : Nat) : List UInt8 := if h : k = 0 then [] else digsL (k / 10) ++ [UInt8.ofNat (48 + k % 10)]
termination_by k
decreasing_by omega
theorem digsL_0 : digsL 0 = [] := by rw [digsL]; rfl
theorem digsL_step (k : Nat) (h : k ≠ 0) : digsL k = digsL (k / 10) ++ [UInt8.ofNat (48 + k % 10)] := by rw [digsL, dif_neg h]
theorem digsL_len : ∀ k : Nat, (digsL k).length ≤ k := by
  intro k
  induction k using Nat.strongRecOn with
  | _ k ih =>
    by_cases h : k = 0
    · subst h; rw [digsL_0]; simp
    · rw [digsL_step k h, List.length_append, List.length_singleton]
      have := ih (k / 10) (by omega)
      omega
/-- the k-th mark. -/
def markB (k : Nat) : ByteArray := ⟨(109 :: digsL k).toArray⟩
theorem markB_size (k : Nat) : (markB k).size ≤ k + 1 := by
  show (109 :: digsL k).length ≤ k + 1
  rw [List.length_cons]
  have := digsL_len k
  omega
theorem cat_one (b : UInt8) (u : ByteArray) : ((⟨#[b]⟩ : ByteArray) ++ u).data.toList = b :: u.data.toList := by simp
set_option maxHeartbeats 1000000 in
set_option maxRecDepth 100000 in
theorem markText_any (k : Nat) (w : World) (h1 : 1 ≤ k) (h2 : k ≤ 2147483647) :
    Calls Try.prog 36 #[.int .i64 k] w fun e w' => e = .returned (.string (markB k)) ∧ Below w.heap.size w w' := by
  have hl := digsL_len k
  go_enter Try.func36, Try.ntmps36
  go_wp2_with fail
  go_loopw [0, 3] (fun m o wr => ∃ (j : Nat) (u : ByteArray), j ≤ k ∧ m = .int .i64 j ∧ o = .string u ∧ Hid (digsL j ++ u.data.toList = digsL k) ∧ Hid (Below w.heap.size w wr)) (fun m _ _ => (intOf m).toNat)
  case atStart => exact ⟨k, ByteArray.empty, by omega, rfl, rfl, by simp [Hid], Below.refl _ _⟩
  case round =>
    obtain ⟨j, u, hj, rfl, rfl, HU, HB⟩ := hrel
    by_cases hj0 : j = 0
    · subst hj0
      have hu : u.data.toList = digsL k := by have := HU.out; rwa [digsL_0, List.nil_append] at this
      have hcat : (⟨#[109]⟩ : ByteArray) ++ u = markB k := by apply ext_ba; rw [cat_one, hu]; rfl
      have hus : u.size ≤ k := by
        have e : u.data.toList.length = u.size := rfl
        rw [hu] at e; omega
      have HC := Lib.hid hcat
      clear hu hcat
      have f1 : ¬ 9223372036854775807 < 1 + u.size := by omega
      go_wp2
      go_ret
      exact ⟨congrArg (fun x => Ending.returned (Value.string x)) HC.out, HB.out⟩
    · have hj1 : (0 : Int) < (j : Int) := by omega
      have hus : u.size ≤ k := by
        have e : u.data.toList.length = u.size := rfl
        have h3 := congrArg List.length HU.out
        rw [List.length_append] at h3; omega
      have hd : digsL (j / 10) ++ (UInt8.ofNat (48 + j % 10) :: u.data.toList) = digsL k := by
        rw [← HU.out, digsL_step j hj0, List.append_assoc]; rfl
      have HD := Lib.hid hd
      have hbv : (48 : Int) + (j : Int) % 10 = ((UInt8.ofNat (48 + j % 10)).toNat : Int) := by rw [UInt8.toNat_ofNat']; omega
      have hrow := heap_alloc_new wr (.cells #[.int .u8 (48 + (j : Int) % 10)] 5)
      have hcv : (convert 41 9 (.slice (some ⟨wr.heap.size, 0, none⟩) 1 1)).run Try.prog (wr.alloc (.cells #[.int .u8 (48 + (j : Int) % 10)] 5)) = .ok (.string ⟨#[UInt8.ofNat (48 + j % 10)]⟩) (wr.alloc (.cells #[.int .u8 (48 + (j : Int) % 10)] 5)) := by
        exact convert_wd _ _ _ _ _ _ 1 [UInt8.ofNat (48 + j % 10)] rfl Try.underlying41 Try.underlying5 Try.underlying9 hrow (by rw [hbv]; rfl)
      have HB2 := Lib.hid (HB.out.alloc HB.out.size (.cells #[.int .u8 (48 + (j : Int) % 10)] 5))
      have f1 : ¬ 9223372036854775807 < 1 + u.size := by omega
      have hw8 : IntKind.u8.wrap (48 + (j : Int) % 10) = 48 + (j : Int) % 10 := by rw [IntKind.wrap_u8]; omega
      generalize hb : UInt8.ofNat (48 + j % 10) = b at HD hcv
      clear hrow hbv hd hb
      have hq : ((j : Int) / 10) = ((j / 10 : Nat) : Int) := by omega
      have HQ := Lib.hid hq
      clear hq
      go_wp2
      go_roundw
      case rel => exact ⟨j / 10, _, by omega, by rw [HQ.out], rfl, by rw [cat_one]; exact HD, HB2⟩
      case measure => simp [intOf]; omega
/-- the first k strings of a row are marks, the others whatever. -/
def Marks (xs : List Value) (n q k : Nat) : Prop := xs.length = n ∧ (∀ i, i < n → ∃ b : ByteArray, xs[i]? = some (.string b)) ∧ ∀ i, i < k → xs[i]? = some (.string (markB (q + i)))
theorem Marks.start (ss : List ByteArray) (q : Nat) : Marks (ss.map Value.string) ss.length q 0 :=
  ⟨by simp, fun i hi => ⟨ss[i], by simp [List.getElem?_eq_getElem hi]⟩, fun i hi => by omega⟩
theorem Marks.step {xs : List Value} {n q k : Nat} (h : Marks xs n q k) (hk : k < n) : Marks (xs.set k (.string (markB (q + k)))) n q (k + 1) := by
  obtain ⟨h1, h2, h3⟩ := h
  refine ⟨by simp [h1], fun i hi => ?_, fun i hi => ?_⟩
  · by_cases hik : k = i
    · subst hik
      exact ⟨_, by rw [List.getElem?_set, if_pos rfl, if_pos (by omega)]⟩
    · rw [List.getElem?_set, if_neg hik]; exact h2 i hi
  · by_cases hik : k = i
    · subst hik
      rw [List.getElem?_set, if_pos rfl, if_pos (by omega)]
    · rw [List.getElem?_set, if_neg hik]; exact h3 i (by omega)
theorem own_sl {w : World} {B e n : Nat} {v : Value} {xs : List Value} (h : w.ownsRow B e 1 v n xs) : (n = 0 ∧ v = .slice none 0 0) ∨ ∃ g cap, v = .slice (some ⟨g, 0, none⟩) n cap := by
  rcases h.2 with ⟨rfl, rfl⟩ | ⟨g, cap, _, rfl, _⟩
  · exact .inl ⟨rfl, rfl⟩
  · exact .inr ⟨g, cap, rfl⟩
set_option maxHeartbeats 1000000 in
theorem markStringS_any (B : Nat) (v : Value) (n q : Nat) (xs : List Value) (w : World) (hM : Marks xs n q 0) (hown : w.ownsRow B 9 1 v n xs) (hBw : B ≤ w.heap.size) (h1 : 1 ≤ q) (h2 : q ≤ 1000000) (hn : n ≤ 1000000) :
    Calls Try.prog 14 #[v, .int .i64 q] w fun e w' => e = .returned (.int .i64 ((q + n : Nat) : Int)) ∧ (∃ ys, Marks ys n q n ∧ w'.ownsRow B 9 1 v n ys) ∧ Below B w w' := by
  rcases own_sl hown with ⟨rfl, rfl⟩ | ⟨g, cap, rfl⟩
  · have HM := Lib.hid (⟨xs, hM, hown⟩ : ∃ ys, Marks ys 0 q 0 ∧ w.ownsRow B 9 1 (.slice none 0 0) 0 ys)
    clear hM hown
    go_enter Try.func14, Try.ntmps14
    go_wp2_with fail
    refine wp_loop_rounds 1 ?_
    rw [rounds_succ]
    go_wp2
    go_ret
    exact ⟨ret_int (by omega), HM.out, Below.refl _ _⟩
  have HM := Lib.hid hM
  have HO := Lib.hid hown
  clear hM hown
  go_enter Try.func14, Try.ntmps14
  go_wp2_with fail
  go_loopw [1, 5] (fun m i wr => ∃ (k : Nat) (ys : List Value), k ≤ n ∧ i = .int .i64 k ∧ m = .int .i64 ((q + k : Nat) : Int) ∧ Hid (Marks ys n q k) ∧ Hid (wr.ownsRow B 9 1 (.slice (some ⟨g, 0, none⟩) n cap) n ys) ∧ Hid (Below B w wr) ∧ Hid (B ≤ wr.heap.size)) (fun _ i _ => n - (intOf i).toNat)
  case atStart => exact ⟨0, xs, by omega, rfl, by simp, HM.out, HO.out, Below.refl _ _, hBw⟩
  case round =>
    obtain ⟨k, ys, hk, rfl, rfl, HM, HO, HB, HS⟩ := hrel
    by_cases hk1 : k < n
    · go_wp2_with fail
      refine (markText_any (q + k) _ (by omega) (by omega)).mono ?_
      rintro e w1 ⟨rfl, hb1⟩
      have HO1 := Lib.hid (HO.out.kept (row := none) ⟨hb1.os, hb1.tape, hb1.output, hb1.size, fun k hk _ => hb1.block k hk⟩ (Classical.em _))
      have HB1 := Lib.hid (HB.out.trans (hb1.mono HS.out))
      have HS1 := Lib.hid (Nat.le_trans HS.out hb1.size)
      clear hb1
      obtain ⟨b, hb⟩ := HM.out.2.1 k hk1
      have hcell := HO1.out.cellAt k (by omega)
      rw [hb] at hcell
      have hfr := HO1.out.frozenAt k
      have hst := HO1.out.stored k (.string (markB (q + k)))
      have HST := Lib.hid hst
      have HM2 := Lib.hid (HM.out.step hk1)
      clear hst hb
      generalize markB (q + k) = mk at HST HM2 ⊢
      go_wp2
      have hrow' := HST.out.1
      have hB' := HB1.out.grown HST.out.2 HS1.out (fun k e => (HO1.out.lt k e).1)
      have hS' := Nat.le_trans HS1.out HST.out.2.size
      go_roundw
      case rel => exact ⟨k + 1, _, by omega, by go_num, by go_num, HM2, hrow', hB', hS'⟩
      case measure => simp [intOf]; omega
    · obtain rfl : k = n := by omega
      go_wp2
      go_ret
      exact ⟨rfl, ⟨ys, HM.out, HO.out⟩, HB.out⟩
set_option maxHeartbeats 1000000 in
theorem heldStringS_any (B : Nat) (v : Value) (n q : Nat) (xs : List Value) (w : World) (hM : Marks xs n q n) (hown : w.ownsRow B 9 1 v n xs) (h1 : 1 ≤ q) (h2 : q ≤ 1000000) (hn : n ≤ 1000000) :
    Calls Try.prog 15 #[v, .int .i64 q] w fun e w' => e = .returned (.int .i64 ((q + n : Nat) : Int)) ∧ Below w.heap.size w w' := by
  rcases own_sl hown with ⟨rfl, rfl⟩ | ⟨g, cap, rfl⟩
  · clear hM hown
    go_enter Try.func15, Try.ntmps15
    go_wp2_with fail
    refine wp_loop_rounds 1 ?_
    rw [rounds_succ]
    go_wp2
    go_ret
    exact ⟨ret_int (by omega), Below.refl _ _⟩
  have HM := Lib.hid hM
  have HO := Lib.hid hown
  clear hM hown
  go_enter Try.func15, Try.ntmps15
  go_wp2_with fail
  go_loopw [1, 5] (fun m i wr => ∃ (k : Nat), k ≤ n ∧ i = .int .i64 k ∧ m = .int .i64 ((q + k : Nat) : Int) ∧ Hid (Below w.heap.size w wr)) (fun _ i _ => n - (intOf i).toNat)
  case atStart => exact ⟨0, by omega, rfl, by simp, Below.refl _ _⟩
  case round =>
    obtain ⟨k, hk, rfl, rfl, HB⟩ := hrel
    by_cases hk1 : k < n
    · have hlt := (HO.out.lt g rfl).2
      have hcell := (HB.out.cell (p := ⟨g, k, none⟩) hlt).trans (HO.out.cellAt k (by omega))
      rw [HM.out.2.2 k hk1] at hcell
      have hcr := cell_regrown hcell
      clear hcell hlt
      have hmt : Hid (∀ w : World, Calls Try.prog 36 #[.int .i64 ((q : Int) + (k : Int))] w fun e w' => e = .returned (.string (markB (q + k))) ∧ Below w.heap.size w w') := Lib.hid (fun w => by
        have := markText_any (q + k) w (by omega) (by omega)
        rwa [Int.natCast_add] at this)
      generalize markB (q + k) = mk at hcr hmt
      have i1 : (k : Int) < (n : Int) := by omega
      have i0 : (0 : Int) ≤ (k : Int) := by omega
      go_wp2_with fail
      refine wp_region_quiet_below (by kernel_rfl) (by kernel_rfl) ?_
      repeat (first | go_big_quiet_step ((go_at_call 36; exact Calls.regrown_of (hmt.out _))) | quiet_step ((go_at_call 36; exact Calls.regrown_of (hmt.out _))))
      refine wpQuiet_nil ?_
      intro _ hw'
      obtain ⟨⟨dq, osq⟩, hw''⟩ := hw'
      subst hw''
      have HB1 := Lib.hid (HB.out.trans ((below_regrown wr dq osq).mono HB.out.size))
      clear hcr
      go_wp2
      go_roundw
      case rel => exact ⟨k + 1, by omega, by go_num, by go_num, HB1⟩
      case measure => simp [intOf]; omega
    · obtain rfl : k = n := by omega
      go_wp2
      go_ret
      exact ⟨rfl, HB.out⟩
end Go.Proofs.Ytbhmklbdfmgmlaa

/- The laws' helper eqStringS, at equal lists. -/
namespace Go.Proofs.Ytbhmklbdfmgmlaa
open Go.RowKit

set_option maxHeartbeats 400000 in
theorem eqStringS_same (A B : Option Addr) (c d : Nat) (ss : List ByteArray) (w : World) (h : Strs w A ss) (k : Strs w B ss) (hn : ss.length ≤ 1048576) :
    Calls Try.prog 11 #[.slice A ss.length c, .slice B ss.length d] w fun e w' => e = .returned (.bool true) ∧ Below w.heap.size w w' := by
  have H := Lib.hid h
  have K := Lib.hid k
  clear h k
  go_enter Try.func11, Try.ntmps11
  go_wp2
  go_loopw [5] (fun i wr => ∃ k : Nat, k ≤ ss.length ∧ i = .int .i64 k ∧ Hid (Below w.heap.size w wr)) (fun i _ => ss.length - (intOf i).toNat)
  case atStart => exact ⟨0, by omega, rfl, Below.refl _ _⟩
  case round =>
    obtain ⟨k, hk, rfl, HB⟩ := hrel
    by_cases hk1 : k < ss.length
    · obtain ⟨a, rfl, _, hc⟩ := (H.out.below HB.out).2.resolve_left (by intro h; rw [h] at hk1; simp at hk1)
      obtain ⟨b, rfl, _, hd⟩ := (K.out.below HB.out).2.resolve_left (by intro h; rw [h] at hk1; simp at hk1)
      have hck := hc k hk1
      have hdk := hd k hk1
      clear hc hd
      have i0 : (0 : Int) ≤ k := by omega
      have i1 : (k : Int) < ss.length := by omega
      go_wp2
      go_quiet (fail)
      go_wp2
      go_roundw
      case rel => exact ⟨k + 1, by omega, by go_num, below_drawn HB.out _⟩
      case measure => simp [intOf]; omega
    · go_wp2
      go_ret
      exact ⟨rfl, HB.out⟩
end Go.Proofs.Ytbhmklbdfmgmlaa
