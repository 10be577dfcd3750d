/- Texts of the proof of the law FnSendShort, side by side: part 24. -/
import Derived.Test.YtbijfkpilncclaaGreatMSendShort00
import Derived.Test.YtbijfkpilncclaaGreatMSendShort01
import Derived.Test.YtbijfkpilncclaaGreatMSendShort02
import Derived.Test.YtbijfkpilncclaaGreatMSendShort03
import Derived.Test.YtbijfkpilncclaaGreatMSendShort04
import Derived.Test.YtbijfkpilncclaaGreatMSendShort05
import Derived.Test.YtbijfkpilncclaaGreatMSendShort06
import Derived.Test.YtbijfkpilncclaaGreatMSendShort07
import Derived.Test.YtbijfkpilncclaaGreatMSendShort08
import Derived.Test.YtbijfkpilncclaaGreatMSendShort09
import Derived.Test.YtbijfkpilncclaaGreatMSendShort10
import Derived.Test.YtbijfkpilncclaaGreatMSendShort11
import Derived.Test.YtbijfkpilncclaaGreatMSendShort12
import Derived.Test.YtbijfkpilncclaaGreatMSendShort13
import Derived.Test.YtbijfkpilncclaaGreatMSendShort14
import Derived.Test.YtbijfkpilncclaaGreatMSendShort15
import Derived.Test.YtbijfkpilncclaaGreatMSendShort16
import Derived.Test.YtbijfkpilncclaaGreatMSendShort17
import Derived.Test.YtbijfkpilncclaaGreatMSendShort18
import Derived.Test.YtbijfkpilncclaaGreatMSendShort19
import Derived.Test.YtbijfkpilncclaaGreatMSendShort20
import Derived.Test.YtbijfkpilncclaaGreatMSendShort21
import Derived.Test.YtbijfkpilncclaaGreatMSendShort22
import Derived.Test.YtbijfkpilncclaaGreatMSendShort23
namespace Go.Proofs.YtbijfkpilncclaaGreat
open Go.RowKit Go.Deep
def txS (ss : Segs) : List ByteArray := ss.map fun s => ⟨s.toArray⟩
theorem txS_length (ss : Segs) : (txS ss).length = ss.length := by simp [txS]
theorem frOk_txS {ss : Segs} (hk : SOk LS ss) : frOk (txS ss) = decide (totS ss ≤ 200) := by
  have h1 : ∀ s ∈ ss, s.length % 8 = 0 := fun s hs => by
    obtain ⟨i, hi, e⟩ := List.getElem_of_mem hs
    have := hk.wds i
    rw [sg_eq hi, e] at this
    exact this
  have h2 : ∀ (l : Segs), (∀ s ∈ l, s.length % 8 = 0) → (txS l).all (fun s => decide (s.size % 8 = 0)) = true ∧ tot (txS l) = 8 * totS l := by
    intro l
    induction l with
    | nil => intro _; exact ⟨rfl, rfl⟩
    | cons s t ih =>
      intro h
      obtain ⟨i1, i2⟩ := ih (fun x hx => h x (List.mem_cons_of_mem _ hx))
      have h0 := h s (List.mem_cons_self ..)
      have hs : (⟨s.toArray⟩ : ByteArray).size = s.length := by simp [ByteArray.size]
      have hw : s.length = 8 * wn s := by unfold wn; omega
      simp only [txS, tot, totS] at i1 i2 ⊢
      rw [List.map_cons, List.all_cons, List.map_cons, List.sum_cons, List.map_cons, List.sum_cons, i1, i2, hs]
      exact ⟨by simp [h0], by omega⟩
  obtain ⟨h3, h4⟩ := h2 ss h1
  unfold frOk
  rw [h3, h4, txS_length]
  have h5 := hk.one
  have h6 := hk.six
  by_cases h : totS ss ≤ 200
  · rw [decide_eq_true h, decide_eq_true (show 1 ≤ ss.length ∧ ss.length ≤ 6 from ⟨h5, h6⟩), decide_eq_true (show 8 * totS ss ≤ 1600 by omega)]; rfl
  · rw [decide_eq_false h, decide_eq_false (show ¬ 8 * totS ss ≤ 1600 by omega)]; simp
theorem tot_txS {ss : Segs} (hk : SOk LS ss) : tot (txS ss) ≤ 1099511627776 := by
  have : ∀ (l : Segs), tot (txS l) ≤ 8 * totS l + 8 * l.length := by
    intro l
    induction l with
    | nil => exact Nat.le_refl _
    | cons s t ih =>
      have hs : (⟨s.toArray⟩ : ByteArray).size = s.length := by simp [ByteArray.size]
      have hw : s.length ≤ 8 * wn s + 8 := by unfold wn; omega
      simp only [txS, tot, totS] at ih ⊢
      rw [List.map_cons, List.map_cons, List.sum_cons, List.map_cons, List.sum_cons, List.length_cons, hs]
      omega
  have h1 := this ss
  have h2 := hk.totS
  have h3 := hk.six
  unfold LS at h2
  omega
theorem strs_txS {w : World} {r : Nat} {ss : Segs} (hk : SOk LS ss) (hr : r < w.heap.size) (hc : ∀ i, i < ss.length → w.cell? ⟨r, i, none⟩ = some (strS (sgS ss i))) : Strs w (some ⟨r, 0, none⟩) (txS ss) := by
  refine ⟨fun s hs => ?_, .inr ⟨_, rfl, hr, fun i hi => ?_⟩⟩
  · obtain ⟨x, hx, rfl⟩ := List.mem_map.1 hs
    obtain ⟨i, hi, e⟩ := List.getElem_of_mem hx
    have h1 := sb_len hk i
    rw [sg_eq hi, e] at h1
    have hs : (⟨x.toArray⟩ : ByteArray).size = x.length := by simp [ByteArray.size]
    rw [hs]
    unfold maxLen
    omega
  · have hi' : i < ss.length := by rw [txS_length] at hi; exact hi
    rw [add_zero0, hc i hi', sg_eq hi']
    simp [txS]
theorem own_lowS {w : World} {B B' T sz n : Nat} {v : Value} {xs : List Value} (h : w.ownsRow B T sz v n xs) (hb : B' ≤ B) : w.ownsRow B' T sz v n xs := by
  refine ⟨h.1, ?_⟩
  rcases h.2 with e | ⟨g, cap, cur, e1, e2, e3⟩
  · exact .inl e
  · exact .inr ⟨g, cap, cur, e1, by omega, e3⟩
def BuildSQ (r : Option Segs) (w : World) (e : Ending) (w' : World) : Prop :=
  (r = none ∧ ∃ A c, e = .returned (.tuple #[.slice A 0 c, .bool false]) ∧ Below w.heap.size w w') ∨
  ∃ ss A c, r = some ss ∧ SOk LS ss ∧ e = .returned (.tuple #[.slice A ss.length c, .bool true]) ∧ w'.ownsRow w.heap.size stT 1 (.slice A ss.length c) ss.length (ss.map strS) ∧ Below w.heap.size w w'
set_option maxHeartbeats 4000000 in
set_option maxRecDepth 100000 in
theorem l5Build_yes (m : Nat) (n : Nd) (h : Hd) (w : World) (S : Nat → Prop) (z : Nat) (hn : NdAt w S m n h) (ht : totN m n ≤ 2000000) (hok : nodeOk n = true) (h1 : 1 ≤ z) (h2 : z ≤ 200) :
    Calls Tryz.prog 58 #[.agg #[.int .i64 n.kind, .string n.data, .slice h.A n.ptrs.length h.a, .int .i64 n.size, .int .i64 n.count, .slice h.B n.items.length h.b], .int .i64 (z : Int)] w (BuildSQ (buildP 200 z n) w) := by
  obtain ⟨qA, qa, qB, qb⟩ := h
  dsimp only
  obtain ⟨ho8, hw8⟩ := node_ok hok
  have hlim := build_lim (size := z) ho8 LS (by decide)
  have HLIM := Lib.hid hlim
  have hk0 := SOKL LS (by decide)
  have hbW : Below w.heap.size w (((w.alloc (.cells #[.int .i64 n.kind, .string n.data, .slice qA n.ptrs.length qa, .int .i64 n.size, .int .i64 n.count, .slice qB n.items.length qb] nodeT)).alloc (.cells #[strS (zer 1)] stT)).alloc (.cells #[.slice (some ⟨w.heap.size + 1, 0, none⟩) 1 1, .int .i64 (z : Int), .bool false] wrT)) := (((Below.refl _ w).alloc (Nat.le_refl _) _).alloc (by simp) _).alloc (by simp; omega) _
  have r0 : ((((w.alloc (.cells #[.int .i64 n.kind, .string n.data, .slice qA n.ptrs.length qa, .int .i64 n.size, .int .i64 n.count, .slice qB n.items.length qb] nodeT)).alloc (.cells #[strS (zer 1)] stT)).alloc (.cells #[.slice (some ⟨w.heap.size + 1, 0, none⟩) 1 1, .int .i64 (z : Int), .bool false] wrT))).heap[w.heap.size]? = some (.cells #[.int .i64 n.kind, .string n.data, .slice qA n.ptrs.length qa, .int .i64 n.size, .int .i64 n.count, .slice qB n.items.length qb] nodeT (0, 0)) := heap_alloc_keep (heap_alloc_keep (heap_alloc_new w _) _) _
  have r1 : ((((w.alloc (.cells #[.int .i64 n.kind, .string n.data, .slice qA n.ptrs.length qa, .int .i64 n.size, .int .i64 n.count, .slice qB n.items.length qb] nodeT)).alloc (.cells #[strS (zer 1)] stT)).alloc (.cells #[.slice (some ⟨w.heap.size + 1, 0, none⟩) 1 1, .int .i64 (z : Int), .bool false] wrT))).heap[w.heap.size + 1]? = some (.cells #[strS (zer 1)] stT (0, 0)) := by
    have := heap_alloc_keep (heap_alloc_new (w.alloc (.cells #[.int .i64 n.kind, .string n.data, .slice qA n.ptrs.length qa, .int .i64 n.size, .int .i64 n.count, .slice qB n.items.length qb] nodeT)) (.cells #[strS (zer 1)] stT)) (.cells #[.slice (some ⟨w.heap.size + 1, 0, none⟩) 1 1, .int .i64 (z : Int), .bool false] wrT)
    simpa using this
  have r2 : ((((w.alloc (.cells #[.int .i64 n.kind, .string n.data, .slice qA n.ptrs.length qa, .int .i64 n.size, .int .i64 n.count, .slice qB n.items.length qb] nodeT)).alloc (.cells #[strS (zer 1)] stT)).alloc (.cells #[.slice (some ⟨w.heap.size + 1, 0, none⟩) 1 1, .int .i64 (z : Int), .bool false] wrT))).heap[w.heap.size + 2]? = some (.cells #[.slice (some ⟨w.heap.size + 1, 0, none⟩) 1 1, .int .i64 (z : Int), .bool false] wrT (0, 0)) := by
    have := heap_alloc_new ((w.alloc (.cells #[.int .i64 n.kind, .string n.data, .slice qA n.ptrs.length qa, .int .i64 n.size, .int .i64 n.count, .slice qB n.items.length qb] nodeT)).alloc (.cells #[strS (zer 1)] stT)) (.cells #[.slice (some ⟨w.heap.size + 1, 0, none⟩) 1 1, .int .i64 (z : Int), .bool false] wrT)
    simpa using this
  have hsb : Sb (((w.alloc (.cells #[.int .i64 n.kind, .string n.data, .slice qA n.ptrs.length qa, .int .i64 n.size, .int .i64 n.count, .slice qB n.items.length qb] nodeT)).alloc (.cells #[strS (zer 1)] stT)).alloc (.cells #[.slice (some ⟨w.heap.size + 1, 0, none⟩) 1 1, .int .i64 (z : Int), .bool false] wrT)) w.heap.size (w.heap.size + 2) z [zer 1] false (fun k => k = w.heap.size + 1 ∨ k = w.heap.size + 2) :=
    ⟨_, r2, ⟨by decide, .inr ⟨w.heap.size + 1, 1, #[strS (zer 1)], rfl, by omega, r1, Nat.le_refl _, by decide, rfl, rfl⟩⟩, by omega, .inr rfl, fun k hk => .inl (Option.some.inj hk).symm⟩
  have HNODE := Lib.hid (swrite_any z h2 8 w.heap.size (w.heap.size + 2) [zer 1] _ (((w.alloc (.cells #[.int .i64 n.kind, .string n.data, .slice qA n.ptrs.length qa, .int .i64 n.size, .int .i64 n.count, .slice qB n.items.length qb] nodeT)).alloc (.cells #[strS (zer 1)] stT)).alloc (.cells #[.slice (some ⟨w.heap.size + 1, 0, none⟩) 1 1, .int .i64 (z : Int), .bool false] wrT)) 0 0 m n ⟨qA, qa, qB, qb⟩ hsb (fun k hk => by
    have : ((((w.alloc (.cells #[.int .i64 n.kind, .string n.data, .slice qA n.ptrs.length qa, .int .i64 n.size, .int .i64 n.count, .slice qB n.items.length qb] nodeT)).alloc (.cells #[strS (zer 1)] stT)).alloc (.cells #[.slice (some ⟨w.heap.size + 1, 0, none⟩) 1 1, .int .i64 (z : Int), .bool false] wrT))).heap.size = w.heap.size + 3 := by simp
    rw [this]
    omega) hk0 (by decide) (by decide) (nd_baseS hn.lt' hbW) ho8 ht (by omega) (by rw [show totS [zer 1] = 1 by decide]; unfold LS; omega))
  dsimp only at HNODE
  have HM := Lib.hid (fun W => l1Many_any ⟨#[0]⟩ 8 W (by omega) (by omega) (by decide) (by decide))
  have hmz : (⟨(repL (⟨#[0]⟩ : ByteArray).data.toList (8 : Int).toNat).toArray⟩ : ByteArray) = ⟨(zer 1).toArray⟩ := by decide +kernel
  rw [hmz] at HM
  have HBW := Lib.hid hbW
  have HSOK : Hid (∀ s1, wrP LS z 8 n [zer 1] 0 0 = some s1 → SOk LS s1) := Lib.hid (fun s1 hs => (wr_some LS z 8 n [zer 1] 0 0 s1 ho8 hk0 (by decide) (by decide) hs).1)
  have HBP : Hid (buildP LS z n = wrP LS z 8 n [zer 1] 0 0) := Lib.hid rfl
  rw [HBP.out] at HLIM
  generalize wrP LS z 8 n [zer 1] 0 0 = rr at *
  clear hn hok ho8 hlim hk0 hbW r0 r1 r2 hsb hmz HBP
  go_enter Tryz.func58, Tryz.ntmps58
  go_wp2_with fail
  refine (HM.out _).mono ?_
  rintro e w9 ⟨rfl, rfl⟩
  go_wp2_with fail
  refine HNODE.out.mono ?_
  rintro e w1 ⟨rfl, hk1, hor⟩
  have HK1 := Lib.hid (HBW.out.trans (hk1.below HBW.out.size (fun k hk => by rcases hk with h | h <;> omega)))
  rcases hor with ⟨hnone, s1, hs1⟩ | ⟨s1, hsome, hs1⟩
  · have HR : Hid (buildP 200 z n = none) := Lib.hid (by rw [HLIM.out, hnone]; rfl)
    obtain ⟨v, hb, -⟩ := hs1
    obtain ⟨c0, c1, c2⟩ := cells3 hb
    clear hb hk1
    go_wp2
    exact bodyPost_ret (v := .tuple #[.slice (some ⟨w1.heap.size, 0, none⟩) 0 0, .bool false]) (by simp [results, Tryz.results58, go_sem]) rfl (.inl ⟨HR.out, _, _, rfl, HK1.out.alloc HK1.out.size _⟩)
  · have hks := HSOK.out s1 hsome
    obtain ⟨r, cap, hb, ho, hlb, hPb, hPr, hc⟩ := hs1.open2 hks.one
    obtain ⟨c0, c1, c2⟩ := cells3 hb
    have HO := Lib.hid ho
    have HKS := Lib.hid hks
    have hrl : r < w1.heap.size := (ho.lt r rfl).2
    have HFR := Lib.hid (specFrameOk_any (some ⟨r, 0, none⟩) cap (txS s1) w1 (strs_txS hks hrl (fun i hi => (hc i hi).1)) (by rw [txS_length]; have := hks.six; omega) (tot_txS hks))
    rw [txS_length, frOk_txS hks] at HFR
    clear hb ho hlb hPb hPr hc hs1 hks hrl hk1
    by_cases hle : totS s1 ≤ 200
    · have HR : Hid (buildP 200 z n = some s1) := Lib.hid (by rw [HLIM.out, hsome, Option.bind_some, if_pos hle])
      rw [decide_eq_true hle] at HFR
      clear hsome hle
      go_wp2_with fail
      refine HFR.out.mono ?_
      rintro e w2 ⟨rfl, rfl⟩
      go_wp2
      exact bodyPost_ret (v := .tuple #[.slice (some ⟨r, 0, none⟩) s1.length cap, .bool true]) (by simp [results, Tryz.results58, go_sem]) rfl (.inr ⟨s1, _, _, HR.out, HKS.out, rfl, HO.out, HK1.out⟩)
    · have HR : Hid (buildP 200 z n = none) := Lib.hid (by rw [HLIM.out, hsome, Option.bind_some, if_neg hle])
      rw [decide_eq_false hle] at HFR
      clear hsome hle
      go_wp2_with fail
      refine HFR.out.mono ?_
      rintro e w2 ⟨rfl, rfl⟩
      go_wp2
      exact bodyPost_ret (v := .tuple #[.slice (some ⟨w1.heap.size, 0, none⟩) 0 0, .bool false]) (by simp [results, Tryz.results58, go_sem]) rfl (.inl ⟨HR.out, _, _, rfl, HK1.out.alloc HK1.out.size _⟩)
set_option maxHeartbeats 4000000 in
set_option maxRecDepth 100000 in
theorem specBuild_a (m : Nat) (n : Nd) (h : Hd) (w : World) (S : Nat → Prop) (size : Int) (hn : NdAt w S m n h) (ht : totN m n ≤ 2000000) :
    Calls Tryz.prog 22 #[.agg #[.int .i64 n.kind, .string n.data, .slice h.A n.ptrs.length h.a, .int .i64 n.size, .int .i64 n.count, .slice h.B n.items.length h.b], .int .i64 size] w (BuildSQ (bldV n size) w) := by
  obtain ⟨qA, qa, qB, qb⟩ := h
  have hb0 := (Below.refl w.heap.size w).alloc (Nat.le_refl _) (.cells #[.int .i64 n.kind, .string n.data, .slice qA n.ptrs.length qa, .int .i64 n.size, .int .i64 n.count, .slice qB n.items.length qb] nodeT)
  have HB0 := Lib.hid hb0
  have R0 := Lib.hid (heap_alloc_new w (.cells #[.int .i64 n.kind, .string n.data, .slice qA n.ptrs.length qa, .int .i64 n.size, .int .i64 n.count, .slice qB n.items.length qb] nodeT))
  have HOK := Lib.hid (fun (W : World) (hW : Below w.heap.size w W) => specNodeOk_a m n ⟨qA, qa, qB, qb⟩ W S (hn.below hW) ht)
  have HLB := Lib.hid (fun (hok : nodeOk n = true) (z : Nat) (h1 : 1 ≤ z) (h2 : z ≤ 200) (W : World) (hW : Below w.heap.size w W) => l5Build_yes m n ⟨qA, qa, qB, qb⟩ W S z (hn.below hW) ht hok h1 h2)
  dsimp only at HOK HLB ⊢
  by_cases hok : nodeOk n = true
  · by_cases hin : 1 ≤ size ∧ size ≤ 200
    · obtain ⟨z, rfl⟩ := Int.eq_ofNat_of_zero_le (show 0 ≤ size by omega)
      have HL2 := Lib.hid (HLB.out hok z (by omega) (by omega))
      have HV : Hid (bldV n (z : Int) = buildP 200 z n) := Lib.hid (by unfold bldV; rw [if_pos ⟨hok, hin⟩]; rfl)
      rw [hok] at HOK
      have HL1 := Lib.hid (fun W => l1In_any (z : Int) 1 200 W)
      rw [show inB (z : Int) 1 200 = true by unfold inB; simp; omega] at HL1
      have HIN := Lib.hid hin
      clear HLB hn hb0 hok
      go_enter Tryz.func22, Tryz.ntmps22
      go_wp2_with fail
      refine (HOK.out _ HB0.out).mono ?_
      rintro e w1 ⟨rfl, hb1⟩
      have HB1 := Lib.hid (HB0.out.trans (hb1.mono HB0.out.size))
      obtain ⟨n0, n1, n2, n3, n4, n5⟩ := cells6 ((hb1.block _ (row_lt R0.out)).trans R0.out)
      clear hb1
      go_wp2_with fail
      go_at_call 57
      refine (HL1.out _).mono ?_
      rintro e w2 ⟨rfl, rfl⟩
      go_wp2_with fail
      refine (HL2.out _ HB1.out).mono ?_
      rintro e w3 (⟨hnone, A, c, rfl, hb3⟩ | ⟨ss, A, c, hsome, hks, rfl, ho, hb3⟩)
      · have HB3 := Lib.hid (HB1.out.trans (hb3.mono HB1.out.size))
        have HN3 := Lib.hid hnone
        clear hb3 hnone
        go_wp2
        exact bodyPost_ret (v := .tuple #[.slice A 0 c, .bool false]) (by simp [results, Tryz.results22, go_sem]) rfl (.inl ⟨by rw [HV.out]; exact HN3.out, A, c, rfl, HB3.out⟩)
      · have HB3 := Lib.hid (HB1.out.trans (hb3.mono HB1.out.size))
        have HN3 := Lib.hid hsome
        have HKS := Lib.hid hks
        have HO3 := Lib.hid (own_lowS ho HB1.out.size)
        clear hb3 hsome hks ho
        go_wp2
        exact bodyPost_ret (v := .tuple #[.slice A ss.length c, .bool true]) (by simp [results, Tryz.results22, go_sem]) rfl (.inr ⟨ss, A, c, by rw [HV.out]; exact HN3.out, HKS.out, rfl, HO3.out, HB3.out⟩)
    · have HV : Hid (bldV n size = none) := Lib.hid (by unfold bldV; rw [if_neg (fun h => hin h.2)])
      have HL1 := Lib.hid (fun W => l1In_any size 1 200 W)
      rw [show inB size 1 200 = false by unfold inB; simp; omega] at HL1
      rw [hok] at HOK
      have HIN := Lib.hid hin
      clear HLB hn hb0 hok hin
      go_enter Tryz.func22, Tryz.ntmps22
      go_wp2_with fail
      refine (HOK.out _ HB0.out).mono ?_
      rintro e w1 ⟨rfl, hb1⟩
      have HB1 := Lib.hid (HB0.out.trans (hb1.mono HB0.out.size))
      clear hb1
      go_wp2_with fail
      go_at_call 57
      refine (HL1.out _).mono ?_
      rintro e w2 ⟨rfl, rfl⟩
      go_wp2
      exact bodyPost_ret (v := .tuple #[.slice (some ⟨w1.heap.size, 0, none⟩) 0 0, .bool false]) (by simp [results, Tryz.results22, go_sem]) rfl (.inl ⟨HV.out, _, _, rfl, HB1.out.alloc HB1.out.size _⟩)
  · have HV : Hid (bldV n size = none) := Lib.hid (by unfold bldV; rw [if_neg (fun h => hok h.1)])
    rw [show nodeOk n = false by simpa using hok] at HOK
    clear HLB hn hb0 hok
    go_enter Tryz.func22, Tryz.ntmps22
    go_wp2_with fail
    refine (HOK.out _ HB0.out).mono ?_
    rintro e w1 ⟨rfl, hb1⟩
    have HB1 := Lib.hid (HB0.out.trans (hb1.mono HB0.out.size))
    clear hb1
    go_wp2
    exact bodyPost_ret (v := .tuple #[.slice (some ⟨w1.heap.size, 0, none⟩) 0 0, .bool false]) (by simp [results, Tryz.results22, go_sem]) rfl (.inl ⟨HV.out, _, _, rfl, HB1.out.alloc HB1.out.size _⟩)
end Go.Proofs.YtbijfkpilncclaaGreat

namespace Go.Proofs.YtbijfkpilncclaaGreat
open Go.RowKit Go.Deep
end Go.Proofs.YtbijfkpilncclaaGreat

namespace Go.Proofs.YtbijfkpilncclaaGreat
open Go.RowKit Go.Deep
theorem strs_ownX {w : World} {base n cap : Nat} {e : TypeId} {A : Option Addr} {ss : List ByteArray} (h : w.ownsRow base e 1 (.slice A n cap) n (ss.map Value.string)) (hs : ∀ s ∈ ss, s.size ≤ maxLen) : Strs w A ss := by
  rcases h.2 with ⟨_, h0⟩ | ⟨g, cap, _, he, _⟩
  · have : ss = [] := by
      have h1 := h.1
      rw [h0] at h1
      exact List.eq_nil_of_length_eq_zero (by simpa using h1)
    subst this
    exact Strs.nil _ _
  · injection he with e1 e2 e3
    subst e1
    refine ⟨hs, .inr ⟨_, rfl, (h.lt g rfl).2, fun i hi => ?_⟩⟩
    exact h.cells (g := g) rfl i _ (by rw [List.getElem?_map, List.getElem?_eq_getElem hi]; rfl)
def txR (r : Option Segs) : List ByteArray := txS (r.getD [])
theorem txS_str (ss : Segs) : ss.map strS = (txS ss).map Value.string := by simp [txS]
theorem BuildQ.uni {r : Option Segs} {w : World} {e : Ending} {w' : World} (h : BuildQ r w e w') : ∃ A c, e = .returned (.tuple #[.slice A (txR r).length c, .bool r.isSome]) ∧ w'.ownsRow w.heap.size 9 1 (.slice A (txR r).length c) (txR r).length ((txR r).map Value.string) ∧ Below w.heap.size w w' := by
  rcases h with ⟨rfl, rfl, hb⟩ | ⟨ss, A, c, rfl, rfl, ho, hb⟩
  · exact ⟨none, 0, rfl, ⟨rfl, .inl ⟨rfl, rfl⟩⟩, hb⟩
  · refine ⟨A, c, ?_, ?_, hb⟩
    · unfold txR; rw [txS_length]; rfl
    · unfold txR; rw [Option.getD_some, txS_length, ← txS_str]; exact ho
theorem BuildSQ.uni {r : Option Segs} {w : World} {e : Ending} {w' : World} (h : BuildSQ r w e w') : ∃ A c, e = .returned (.tuple #[.slice A (txR r).length c, .bool r.isSome]) ∧ Strs w' A (txR r) ∧ (∀ x ∈ txR r, x.size ≤ maxLen) ∧ (txR r).length ≤ 6 ∧ Below w.heap.size w w' := by
  rcases h with ⟨rfl, A, c, rfl, hb⟩ | ⟨ss, A, c, rfl, hk, rfl, ho, hb⟩
  · exact ⟨A, c, rfl, Strs.nil _ _, (fun x hx => by cases hx), by decide, hb⟩
  · have hmx : ∀ x ∈ txS ss, x.size ≤ maxLen := fun s hs => by
      obtain ⟨x, hx, rfl⟩ := List.mem_map.1 hs
      obtain ⟨i, hi, e⟩ := List.getElem_of_mem hx
      have h1 := sb_len hk i
      rw [sg_eq hi, e] at h1
      have hs : (⟨x.toArray⟩ : ByteArray).size = x.length := by simp [ByteArray.size]
      rw [hs]
      unfold maxLen
      omega
    have hs : Strs w' A (txS ss) := strs_ownX (cap := c) (n := ss.length) (by rw [← txS_str]; exact ho) hmx
    refine ⟨A, c, ?_, hs, hmx, by rw [show txR (some ss) = txS ss from rfl, txS_length]; exact hk.six, hb⟩
    unfold txR; rw [txS_length]; rfl
end Go.Proofs.YtbijfkpilncclaaGreat

namespace Go.Proofs.YtbijfkpilncclaaGreat
open Go.RowKit
theorem sz4 (n : Int) : (⟨(leB n 4).toArray⟩ : ByteArray).size = 4 := by rw [show (⟨(leB n 4).toArray⟩ : ByteArray).size = (leB n 4).length by simp [ByteArray.size], leB_length]
theorem take_leB (n : Int) : (leB n 8).take 4 = leB n 4 := by
  have h := leB_add n 4 4
  rw [show (4 + 4 : Nat) = 8 from rfl] at h
  rw [h, List.take_append_of_le_length (by rw [leB_length]; omega), List.take_of_length_le (by rw [leB_length]; omega)]
set_option maxHeartbeats 1000000 in
theorem putNumber_any (n : Int) (w : World) (h0 : 0 ≤ n) (h1 : n ≤ 1099511627776) :
    Calls Tryz.prog 44 #[.int .i64 n] w fun e w' => e = .returned (.string ⟨(leB n 4).toArray⟩) ∧ Below w.heap.size w w' := by
  have e1 : IntKind.u64.wrap n = n := by rw [IntKind.wrap_u64]; omega
  have hcut : (⟨(leB n 8).toArray⟩ : ByteArray).extract 0 4 = ⟨(leB n 4).toArray⟩ := by
    apply ext_ba; rw [Lib.extract_data]; simp [take_leB]
  have hsz : (⟨(leB n 8).toArray⟩ : ByteArray).size = 8 := by simp [ByteArray.size, leB_length]
  have HC := Lib.hid hcut
  clear hcut
  go_enter Tryz.func44, Tryz.ntmps44
  go_wp2_with fail
  refine (wordOf_any n _ h0 (by omega)).mono ?_
  rintro e w1 ⟨rfl, hb1⟩
  go_wp2_with fail
  refine (text_any (leB n 8) _ (leB_length n 8)).mono ?_
  rintro e w2 ⟨rfl, hb2⟩
  generalize (⟨(leB n 8).toArray⟩ : ByteArray) = u at HC hsz ⊢
  have g1 : (4 : Int) ≤ (u.size : Int) := by omega
  have HS := Lib.hid hsz
  have hc := HC.out
  clear hsz
  go_wp2
  go_ret
  exact ⟨rfl, hb1.trans (hb2.mono hb1.size)⟩
def numsL (ss : List ByteArray) : List UInt8 := ss.flatMap fun s => leB ((s.size / 8 : Nat) : Int) 4
def bodyL (ss : List ByteArray) : List UInt8 := ss.flatMap fun s => s.data.toList
def fillL (n : Nat) : List UInt8 := if n % 2 = 0 then leB 0 4 else []
def frameL (ss : List ByteArray) : List UInt8 := if frOk ss = true then leB ((ss.length : Int) - 1) 4 ++ numsL ss ++ fillL ss.length ++ bodyL ss else []
theorem numsL_take (ss : List ByteArray) (k : Nat) (h : k < ss.length) : numsL (ss.take (k + 1)) = numsL (ss.take k) ++ leB (((ss[k]).size / 8 : Nat) : Int) 4 := by
  rw [List.take_succ_eq_append_getElem h, numsL, numsL, List.flatMap_append, List.flatMap_cons, List.flatMap_nil, List.append_nil]
theorem bodyL_take (ss : List ByteArray) (k : Nat) (h : k < ss.length) : bodyL (ss.take (k + 1)) = bodyL (ss.take k) ++ (ss[k]).data.toList := by
  rw [List.take_succ_eq_append_getElem h, bodyL, bodyL, List.flatMap_append, List.flatMap_cons, List.flatMap_nil, List.append_nil]
theorem numsL_length : ∀ ss : List ByteArray, (numsL ss).length = 4 * ss.length
  | [] => rfl
  | s :: r => by rw [numsL, List.flatMap_cons, List.length_append, leB_length, ← numsL, numsL_length r, List.length_cons]; omega
theorem bodyL_length : ∀ ss : List ByteArray, (bodyL ss).length = tot ss
  | [] => rfl
  | s :: r => by rw [bodyL, List.flatMap_cons, List.length_append, ← bodyL, bodyL_length r]; simp [tot]
theorem fillL_length (n : Nat) : (fillL n).length ≤ 4 := by unfold fillL; split <;> simp [leB_length]
set_option maxHeartbeats 400000 in
theorem headBytes_any (n : Nat) (w : World) (h : n ≤ 1000) :
    Calls Tryz.prog 46 #[.int .i64 n] w fun e w' => e = .returned (.int .i64 (((n / 2 + 1) * 8 : Nat) : Int)) ∧ w = w' := by
  go_enter Tryz.func46, Tryz.ntmps46
  go_wp2
  go_ret
  exact ⟨ret_int (by omega), rfl⟩
theorem frOk_parts {ss : List ByteArray} (h : frOk ss = true) : (1 ≤ ss.length ∧ ss.length ≤ 6) ∧ tot ss ≤ 1600 := by
  simp only [frOk, Bool.and_eq_true, decide_eq_true_eq] at h
  exact ⟨h.1, h.2.2⟩
theorem strCells_eq (s : ByteArray) : Lib.strCells s = Lib.byteCells s.data.toList := rfl
theorem cells_app (a b : List UInt8) : Lib.byteCells a ++ Lib.byteCells b = Lib.byteCells (a ++ b) := by simp [Lib.byteCells]
theorem mk_cells (l : List UInt8) : Lib.strCells ⟨l.toArray⟩ = Lib.byteCells l := by simp [Lib.strCells, Lib.byteCells]
theorem tot_get (ss : List ByteArray) (k : Nat) (h : k < ss.length) : (ss[k]).size ≤ tot ss := by
  have h1 := tot_take ss k h
  have h2 := tot_take_le ss (k + 1)
  omega
set_option maxHeartbeats 4000000 in
theorem implFramePut_yes (A : Option Addr) (cap : Nat) (ss : List ByteArray) (w : World) (h : Strs w A ss) (hok : frOk ss = true) :
    Calls Tryz.prog 16 #[.slice A ss.length cap] w fun e w' => e = .returned (.string ⟨(frameL ss).toArray⟩) ∧ Below w.heap.size w w' := by
  obtain ⟨⟨hn1, hn6⟩, htot⟩ := frOk_parts hok
  have HFO : Hid (∀ w : World, Strs w A ss → Calls Tryz.prog 42 #[.slice A ss.length cap] w fun e w' => e = .returned (.bool true) ∧ w = w') := Lib.hid (fun w h => by
    have := implFrameOk_any A cap ss w h (by omega)
    rw [hok] at this; exact this)
  have hfin : frameL ss = leB ((ss.length : Int) - 1) 4 ++ numsL ss ++ fillL ss.length ++ bodyL ss := by rw [frameL, if_pos hok]
  have HF := Lib.hid hfin
  obtain ⟨a, rfl, hlt, hcells⟩ := h.2.resolve_left (by intro h0; rw [h0] at hn1; simp at hn1)
  have HCells := Lib.hid hcells
  have H := Lib.hid h
  clear hfin hok h hcells
  go_enter Tryz.func16, Tryz.ntmps16
  go_wp2_with fail
  refine (HFO.out _ H.out).mono ?_
  rintro e w' ⟨rfl, rfl⟩
  go_wp2_with fail
  refine (putNumber_any _ _ (by omega) (by omega)).mono ?_
  rintro e w1 ⟨rfl, hb1⟩
  have HB0 : Hid (Bld (w.heap.size + 1) w.heap.size [] w1 ∧ Below w.heap.size w w1 ∧ w.heap.size + 1 ≤ w1.heap.size) := by
    refine ⟨Bld.fresh _ ((hb1.block _ (by simp)).trans (heap_alloc_new w _)), ((Below.refl _ w).alloc (Nat.le_refl _) _).trans (hb1.mono (by simp)), ?_⟩
    have := hb1.size
    simpa using this
  clear hb1
  go_wp2_with fail
  refine (writeString_any _ _ _ _ _ HB0.out.1 (by simp) (by rw [sz4]; omega) HB0.out.2.2).mono ?_
  rintro e w2 ⟨rfl, h2, k2⟩
  have HB : Hid (Bld (w.heap.size + 1) w.heap.size (Lib.byteCells (leB ((ss.length : Int) - 1) 4)) w2 ∧ Below w.heap.size w w2 ∧ w.heap.size + 1 ≤ w2.heap.size) := by
    refine ⟨?_, HB0.out.2.1.trans (k2.below (by omega) (Nat.le_refl _)), Nat.le_trans HB0.out.2.2 k2.size⟩
    rw [mk_cells] at h2
    exact h2
  clear h2 k2 HB0
  go_wp2_with fail
  go_loopw [5, 18] (fun _ i wr => ∃ k : Nat, k ≤ ss.length ∧ i = .int .i64 k ∧ Hid (Bld (w.heap.size + 1) w.heap.size (Lib.byteCells (leB ((ss.length : Int) - 1) 4 ++ numsL (ss.take k))) wr ∧ Below w.heap.size w wr ∧ w.heap.size + 1 ≤ wr.heap.size)) (fun _ i _ => ss.length - (intOf i).toNat)
  case atStart => exact ⟨0, by omega, rfl, by simpa [numsL] using HB.out.1, HB.out.2⟩
  case round =>
    obtain ⟨k, hk, rfl, HR⟩ := hrel
    by_cases hk1 : k < ss.length
    · have hc := (HR.out.2.1.cell (p := a.add k) (by rw [add_block]; exact hlt)).trans (HCells.out k hk1)
      have hsz := tot_get ss k hk1
      have hnt := numsL_take ss k hk1
      have HNT := Lib.hid hnt
      obtain ⟨s, hs⟩ : ∃ s, ss[k] = s := ⟨_, rfl⟩
      rw [hs] at hc hsz
      have HS := Lib.hid hs
      have hnl : (numsL (ss.take k)).length ≤ 4 * ss.length := by rw [numsL_length, List.length_take]; omega
      clear hnt hs
      go_wp2_with fail
      refine (putNumber_any _ _ (by omega) (by omega)).mono ?_
      rintro e w3 ⟨rfl, hb3⟩
      have hBld3 : Bld (w.heap.size + 1) w.heap.size (Lib.byteCells (leB ((ss.length : Int) - 1) 4 ++ numsL (ss.take k))) w3 := bld_below HR.out.1 hb3
      have HB3 := Lib.hid hBld3
      have HB4 := Lib.hid (HR.out.2.1.trans (hb3.mono (by have := HR.out.2.2; omega)))
      have HB5 := Lib.hid (Nat.le_trans HR.out.2.2 hb3.size)
      clear hBld3 hb3
      go_wp2_with fail
      refine (writeString_any _ _ _ _ _ HB3.out (by rw [Lib.byteCells_length, List.length_append, leB_length]; omega) (by rw [sz4]; omega) HB5.out).mono ?_
      rintro e w4 ⟨rfl, h4, k4⟩
      have HN : Hid (Bld (w.heap.size + 1) w.heap.size (Lib.byteCells (leB ((ss.length : Int) - 1) 4 ++ numsL (ss.take (k + 1)))) w4 ∧ Below w.heap.size w w4 ∧ w.heap.size + 1 ≤ w4.heap.size) := by
        refine ⟨?_, HB4.out.trans (k4.below (by omega) (Nat.le_refl _)), Nat.le_trans HB5.out k4.size⟩
        rw [mk_cells, cells_app] at h4
        rw [HNT.out, ← List.append_assoc, HS.out]
        exact h4
      clear h4 k4
      go_wp2
      go_roundw
      case rel => exact ⟨k + 1, by omega, by go_num, HN⟩
      case measure => simp [intOf]; omega
    · obtain rfl : k = ss.length := by omega
      clear hk1 hk HB
      have hlen : (Lib.byteCells (leB ((ss.length : Int) - 1) 4 ++ numsL (ss.take ss.length))).length = 4 + 4 * ss.length := by
        rw [Lib.byteCells_length, List.length_append, leB_length, numsL_length, List.take_length]
      have HLen := Lib.hid hlen
      clear hlen
      go_wp2_with fail
      refine (len_any _ _ _ _ HR.out.1).mono ?_
      rintro e w' ⟨rfl, rfl⟩
      rw [HLen.out]
      go_wp2_with fail
      refine (headBytes_any ss.length _ (by omega)).mono ?_
      rintro e w' ⟨rfl, rfl⟩
      by_cases hp : ss.length % 2 = 0
      · have hlt1 : ((4 + 4 * ss.length : Nat) : Int) < (((ss.length / 2 + 1) * 8 : Nat) : Int) := by omega
        have hlt2 : decide (4 + 4 * ss.length < (ss.length / 2 + 1) * 8) = true := by simp; omega
        go_wp2_with fail
        refine (putNumber_any _ _ (by omega) (by omega)).mono ?_
        rintro e w3 ⟨rfl, hb3⟩
        have hBld3 := bld_below HR.out.1 hb3
        have HB3 := Lib.hid hBld3
        have HB4 := Lib.hid (HR.out.2.1.trans (hb3.mono (by have := HR.out.2.2; omega)))
        have HB5 := Lib.hid (Nat.le_trans HR.out.2.2 hb3.size)
        clear hBld3 hb3
        go_wp2_with fail
        refine (writeString_any _ _ _ _ _ HB3.out (by rw [HLen.out]; omega) (by rw [sz4]; omega) HB5.out).mono ?_
        rintro e w4 ⟨rfl, h4, k4⟩
        have HM : Hid (Bld (w.heap.size + 1) w.heap.size (Lib.byteCells (leB ((ss.length : Int) - 1) 4 ++ numsL ss ++ fillL ss.length)) w4 ∧ Below w.heap.size w w4 ∧ w.heap.size + 1 ≤ w4.heap.size) := by
          refine ⟨?_, HB4.out.trans (k4.below (by omega) (Nat.le_refl _)), Nat.le_trans HB5.out k4.size⟩
          rw [mk_cells, cells_app, List.take_length] at h4
          rw [fillL, if_pos hp]
          exact h4
        clear h4 k4 hlt1 hlt2
        go_wp2_with fail
        go_loopw [7, 37] (fun _ i wr => ∃ k : Nat, k ≤ ss.length ∧ i = .int .i64 k ∧ Hid (Bld (w.heap.size + 1) w.heap.size (Lib.byteCells (leB ((ss.length : Int) - 1) 4 ++ numsL ss ++ fillL ss.length ++ bodyL (ss.take k))) wr ∧ Below w.heap.size w wr ∧ w.heap.size + 1 ≤ wr.heap.size)) (fun _ i _ => ss.length - (intOf i).toNat)
        case atStart => exact ⟨0, by omega, rfl, by simpa [bodyL] using HM.out.1, HM.out.2⟩
        case round =>
          obtain ⟨k, hk, rfl, HR⟩ := hrel
          by_cases hk1 : k < ss.length
          · have hc := (HR.out.2.1.cell (p := a.add k) (by rw [add_block]; exact hlt)).trans (HCells.out k hk1)
            have hsz := tot_get ss k hk1
            have hbt := bodyL_take ss k hk1
            have HBT := Lib.hid hbt
            obtain ⟨s, hs⟩ : ∃ s, ss[k] = s := ⟨_, rfl⟩
            rw [hs] at hc hsz
            have HS := Lib.hid hs
            have hbl : (bodyL (ss.take k)).length ≤ 1600 := by rw [bodyL_length]; have := tot_take_le ss k; omega
            have hnl := numsL_length ss
            have hfl := fillL_length ss.length
            have hlen : (Lib.byteCells (leB ((ss.length : Int) - 1) 4 ++ numsL ss ++ fillL ss.length ++ bodyL (ss.take k))).length ≤ 1099511627776 := by
              rw [Lib.byteCells_length, List.length_append, List.length_append, List.length_append, leB_length]; omega
            clear hbt hs hbl hnl hfl
            go_wp2_with fail
            refine (writeString_any _ _ _ _ _ HR.out.1 hlen (by omega) HR.out.2.2).mono ?_
            rintro e w4 ⟨rfl, h4, k4⟩
            have HN : Hid (Bld (w.heap.size + 1) w.heap.size (Lib.byteCells (leB ((ss.length : Int) - 1) 4 ++ numsL ss ++ fillL ss.length ++ bodyL (ss.take (k + 1)))) w4 ∧ Below w.heap.size w w4 ∧ w.heap.size + 1 ≤ w4.heap.size) := by
              refine ⟨?_, HR.out.2.1.trans (k4.below (by omega) (Nat.le_refl _)), Nat.le_trans HR.out.2.2 k4.size⟩
              rw [strCells_eq, cells_app] at h4
              rw [HBT.out, ← List.append_assoc, HS.out]
              exact h4
            clear h4 k4 hlen
            go_wp2
            go_roundw
            case rel => exact ⟨k + 1, by omega, by go_num, HN⟩
            case measure => simp [intOf]; omega
          · obtain rfl : k = ss.length := by omega
            have hbd : Bld (w.heap.size + 1) w.heap.size (Lib.byteCells (frameL ss)) wr := by
              rw [HF.out]
              have := HR.out.1
              rwa [List.take_length] at this
            have HBD := Lib.hid hbd
            clear hbd
            go_wp2_with fail
            refine (string_any w.heap.size w.heap.size (frameL ss) wr (HBD.out.is (by omega) (Nat.le_refl _)) (by have := HR.out.2.2; omega)).mono ?_
            rintro e w5 ⟨rfl, b5⟩
            have B5 := Lib.hid (HR.out.2.1.trans b5)
            clear b5
            go_wp2
            go_ret
            exact ⟨rfl, B5.out⟩
      · have hlt1 : ¬ ((4 + 4 * ss.length : Nat) : Int) < (((ss.length / 2 + 1) * 8 : Nat) : Int) := by omega
        have hlt2 : decide (4 + 4 * ss.length < (ss.length / 2 + 1) * 8) = false := by simp; omega
        have HM : Hid (Bld (w.heap.size + 1) w.heap.size (Lib.byteCells (leB ((ss.length : Int) - 1) 4 ++ numsL ss ++ fillL ss.length)) wr ∧ Below w.heap.size w wr ∧ w.heap.size + 1 ≤ wr.heap.size) := by
          refine ⟨?_, HR.out.2⟩
          have h4 := HR.out.1
          rw [List.take_length] at h4
          rw [fillL, if_neg hp, List.append_nil]
          exact h4
        go_wp2_with fail
        go_loopw [7, 37] (fun _ i wr => ∃ k : Nat, k ≤ ss.length ∧ i = .int .i64 k ∧ Hid (Bld (w.heap.size + 1) w.heap.size (Lib.byteCells (leB ((ss.length : Int) - 1) 4 ++ numsL ss ++ fillL ss.length ++ bodyL (ss.take k))) wr ∧ Below w.heap.size w wr ∧ w.heap.size + 1 ≤ wr.heap.size)) (fun _ i _ => ss.length - (intOf i).toNat)
        case atStart => exact ⟨0, by omega, rfl, by simpa [bodyL] using HM.out.1, HM.out.2⟩
        case round =>
          obtain ⟨k, hk, rfl, HR⟩ := hrel
          by_cases hk1 : k < ss.length
          · have hc := (HR.out.2.1.cell (p := a.add k) (by rw [add_block]; exact hlt)).trans (HCells.out k hk1)
            have hsz := tot_get ss k hk1
            have hbt := bodyL_take ss k hk1
            have HBT := Lib.hid hbt
            obtain ⟨s, hs⟩ : ∃ s, ss[k] = s := ⟨_, rfl⟩
            rw [hs] at hc hsz
            have HS := Lib.hid hs
            have hbl : (bodyL (ss.take k)).length ≤ 1600 := by rw [bodyL_length]; have := tot_take_le ss k; omega
            have hnl := numsL_length ss
            have hfl := fillL_length ss.length
            have hlen : (Lib.byteCells (leB ((ss.length : Int) - 1) 4 ++ numsL ss ++ fillL ss.length ++ bodyL (ss.take k))).length ≤ 1099511627776 := by
              rw [Lib.byteCells_length, List.length_append, List.length_append, List.length_append, leB_length]; omega
            clear hbt hs hbl hnl hfl
            go_wp2_with fail
            refine (writeString_any _ _ _ _ _ HR.out.1 hlen (by omega) HR.out.2.2).mono ?_
            rintro e w4 ⟨rfl, h4, k4⟩
            have HN : Hid (Bld (w.heap.size + 1) w.heap.size (Lib.byteCells (leB ((ss.length : Int) - 1) 4 ++ numsL ss ++ fillL ss.length ++ bodyL (ss.take (k + 1)))) w4 ∧ Below w.heap.size w w4 ∧ w.heap.size + 1 ≤ w4.heap.size) := by
              refine ⟨?_, HR.out.2.1.trans (k4.below (by omega) (Nat.le_refl _)), Nat.le_trans HR.out.2.2 k4.size⟩
              rw [strCells_eq, cells_app] at h4
              rw [HBT.out, ← List.append_assoc, HS.out]
              exact h4
            clear h4 k4 hlen
            go_wp2
            go_roundw
            case rel => exact ⟨k + 1, by omega, by go_num, HN⟩
            case measure => simp [intOf]; omega
          · obtain rfl : k = ss.length := by omega
            have hbd : Bld (w.heap.size + 1) w.heap.size (Lib.byteCells (frameL ss)) wr := by
              rw [HF.out]
              have := HR.out.1
              rwa [List.take_length] at this
            have HBD := Lib.hid hbd
            clear hbd
            go_wp2_with fail
            refine (string_any w.heap.size w.heap.size (frameL ss) wr (HBD.out.is (by omega) (Nat.le_refl _)) (by have := HR.out.2.2; omega)).mono ?_
            rintro e w5 ⟨rfl, b5⟩
            have B5 := Lib.hid (HR.out.2.1.trans b5)
            clear b5
            go_wp2
            go_ret
            exact ⟨rfl, B5.out⟩
end Go.Proofs.YtbijfkpilncclaaGreat
