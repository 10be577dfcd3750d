/- Texts of the proof of the law FnSend, side by side: part 35. -/
import Derived.Test.YtlbfffokkhccaaaGreatDoorMSend34
set_option maxHeartbeats 8000000
set_option maxRecDepth 100000
namespace Go.Proofs.YtlbfffokkhccaaaGreatDoor
open Go.RowKit Go.Deep
def txS (ss : Segs) : List ByteArray := ss.map fun s => ⟨s.toArray⟩
theorem txS_length (ss : Segs) : (txS ss).length = ss.length := by simp [txS]
theorem frOk_txS {ss : Segs} (hk : SOk LS ss) : frOk (txS ss) = decide (totS ss ≤ 200) := by
 have h1 : ∀ s ∈ ss, s.length % 8 = 0 := fun s hs => by
  obtain ⟨i, hi, e⟩ := List.getElem_of_mem hs
  have := hk.wds i
  rw [sgq_eq hi, e] at this
  exact this
 have h2 : ∀ (l : Segs), (∀ s ∈ l, s.length % 8 = 0) → (txS l).all (fun s => decide (s.size % 8 = 0)) = true ∧ tot (txS l) = 8 * totS l := by
  intro l
  induction l with
  | nil => intro _; exact ⟨rfl, rfl⟩
  | cons s t ih =>
   intro h
   obtain ⟨i1, i2⟩ := ih (fun x hx => h x (List.mem_cons_of_mem _ hx))
   have h0 := h s (List.mem_cons_self ..)
   have hs : (⟨s.toArray⟩ : ByteArray).size = s.length := by simp [ByteArray.size]
   have hw : s.length = 8 * wn s := by unfold wn; omega
   simp only [txS, tot, totS] at i1 i2 ⊢
   rw [List.map_cons, List.all_cons, List.map_cons, List.sum_cons, List.map_cons, List.sum_cons, i1, i2, hs]
   exact ⟨by simp [h0], by omega⟩
 obtain ⟨h3, h4⟩ := h2 ss h1
 unfold frOk
 rw [h3, h4, txS_length]
 have h5 := hk.one
 have h6 := hk.six
 by_cases h : totS ss ≤ 200
 · rw [decide_eq_true h, decide_eq_true (show 1 ≤ ss.length ∧ ss.length ≤ 6 from ⟨h5, h6⟩), decide_eq_true (show 8 * totS ss ≤ 1600 by omega)]; rfl
 · rw [decide_eq_false h, decide_eq_false (show ¬ 8 * totS ss ≤ 1600 by omega)]; simp
theorem tot_txS {ss : Segs} (hk : SOk LS ss) : tot (txS ss) ≤ 1099511627776 := by
 have : ∀ (l : Segs), tot (txS l) ≤ 8 * totS l + 8 * l.length := by
  intro l
  induction l with
  | nil => exact Nat.le_refl _
  | cons s t ih =>
   have hs : (⟨s.toArray⟩ : ByteArray).size = s.length := by simp [ByteArray.size]
   have hw : s.length ≤ 8 * wn s + 8 := by unfold wn; omega
   simp only [txS, tot, totS] at ih ⊢
   rw [List.map_cons, List.map_cons, List.sum_cons, List.map_cons, List.sum_cons, List.length_cons, hs]
   omega
 have h1 := this ss
 have h2 := hk.totS
 have h3 := hk.six
 unfold LS at h2
 omega
theorem strs_txS {w : World} {r : Nat} {ss : Segs} (hk : SOk LS ss) (hr : r < w.heap.size) (hc : ∀ i, i < ss.length → w.cell? ⟨r, i, none⟩ = some (strS (sgS ss i))) : Strs w (some ⟨r, 0, none⟩) (txS ss) := by
 refine ⟨fun s hs => ?_, .inr ⟨_, rfl, hr, fun i hi => ?_⟩⟩
 · obtain ⟨x, hx, rfl⟩ := List.mem_map.1 hs
   obtain ⟨i, hi, e⟩ := List.getElem_of_mem hx
   have h1 := sb_len hk i
   rw [sgq_eq hi, e] at h1
   have hs : (⟨x.toArray⟩ : ByteArray).size = x.length := by simp [ByteArray.size]
   rw [hs]
   unfold maxLen
   omega
 · have hi' : i < ss.length := by rw [txS_length] at hi; exact hi
   rw [add_zero0, hc i hi', sgq_eq hi']
   simp [txS]
theorem own_lowS {w : World} {B B' T sz n : Nat} {v : Value} {xs : List Value} (h : w.ownsRow B T sz v n xs) (hb : B' ≤ B) : w.ownsRow B' T sz v n xs := by
 refine ⟨h.1, ?_⟩
 rcases h.2 with e | ⟨g, cap, cur, e1, e2, e3⟩
 · exact .inl e
 · exact .inr ⟨g, cap, cur, e1, by omega, e3⟩
def BuildSQ (r : Option Segs) (w : World) (e : Ending) (w' : World) : Prop :=
 (r = none ∧ ∃ A c, e = .returned (.tuple #[.slice A 0 c, .bool false]) ∧ Below w.heap.size w w') ∨
 ∃ ss A c, r = some ss ∧ SOk LS ss ∧ e = .returned (.tuple #[.slice A ss.length c, .bool true]) ∧ w'.ownsRow w.heap.size stT 1 (.slice A ss.length c) ss.length (ss.map strS) ∧ Below w.heap.size w w'
theorem l5Build_yes (m : Nat) (n : Nd) (h : Hd) (w : World) (S : Nat → Prop) (z : Nat) (hn : NdAt w S m n h) (ht : totN m n ≤ 2000000) (hok : nodeOk n = true) (h1 : 1 ≤ z) (h2 : z ≤ 200) :
 Calls Tryz.prog 40 #[.agg #[.int .i64 n.kind, .string n.data, .slice h.A n.ptrs.length h.a, .int .i64 n.size, .int .i64 n.count, .slice h.B n.items.length h.b], .int .i64 (z : Int)] w (BuildSQ (buildP 200 z n) w) := by
 obtain ⟨qA, qa, qB, qb⟩ := h
 dsimp only
 obtain ⟨ho8, hw8⟩ := node_ok hok
 have hlim := build_lim (size := z) ho8 LS (by decide)
 have HLIM := Lib.hid hlim
 have hk0 := SOKL LS (by decide)
 have hbW : Below w.heap.size w (((w.alloc (.cells #[.int .i64 n.kind, .string n.data, .slice qA n.ptrs.length qa, .int .i64 n.size, .int .i64 n.count, .slice qB n.items.length qb] nodeT)).alloc (.cells #[strS (zer 1)] stT)).alloc (.cells #[.slice (some ⟨w.heap.size + 1, 0, none⟩) 1 1, .int .i64 (z : Int), .bool false] wrT)) := (((Below.refl _ w).alloc (Nat.le_refl _) _).alloc (by simp) _).alloc (by simp; omega) _
 have r0 : ((((w.alloc (.cells #[.int .i64 n.kind, .string n.data, .slice qA n.ptrs.length qa, .int .i64 n.size, .int .i64 n.count, .slice qB n.items.length qb] nodeT)).alloc (.cells #[strS (zer 1)] stT)).alloc (.cells #[.slice (some ⟨w.heap.size + 1, 0, none⟩) 1 1, .int .i64 (z : Int), .bool false] wrT))).heap[w.heap.size]? = some (.cells #[.int .i64 n.kind, .string n.data, .slice qA n.ptrs.length qa, .int .i64 n.size, .int .i64 n.count, .slice qB n.items.length qb] nodeT (0, 0)) := heap_alloc_keep (heap_alloc_keep (heap_alloc_new w _) _) _
 have r1 : ((((w.alloc (.cells #[.int .i64 n.kind, .string n.data, .slice qA n.ptrs.length qa, .int .i64 n.size, .int .i64 n.count, .slice qB n.items.length qb] nodeT)).alloc (.cells #[strS (zer 1)] stT)).alloc (.cells #[.slice (some ⟨w.heap.size + 1, 0, none⟩) 1 1, .int .i64 (z : Int), .bool false] wrT))).heap[w.heap.size + 1]? = some (.cells #[strS (zer 1)] stT (0, 0)) := by
  have := heap_alloc_keep (heap_alloc_new (w.alloc (.cells #[.int .i64 n.kind, .string n.data, .slice qA n.ptrs.length qa, .int .i64 n.size, .int .i64 n.count, .slice qB n.items.length qb] nodeT)) (.cells #[strS (zer 1)] stT)) (.cells #[.slice (some ⟨w.heap.size + 1, 0, none⟩) 1 1, .int .i64 (z : Int), .bool false] wrT)
  simpa using this
 have r2 : ((((w.alloc (.cells #[.int .i64 n.kind, .string n.data, .slice qA n.ptrs.length qa, .int .i64 n.size, .int .i64 n.count, .slice qB n.items.length qb] nodeT)).alloc (.cells #[strS (zer 1)] stT)).alloc (.cells #[.slice (some ⟨w.heap.size + 1, 0, none⟩) 1 1, .int .i64 (z : Int), .bool false] wrT))).heap[w.heap.size + 2]? = some (.cells #[.slice (some ⟨w.heap.size + 1, 0, none⟩) 1 1, .int .i64 (z : Int), .bool false] wrT (0, 0)) := by
  have := heap_alloc_new ((w.alloc (.cells #[.int .i64 n.kind, .string n.data, .slice qA n.ptrs.length qa, .int .i64 n.size, .int .i64 n.count, .slice qB n.items.length qb] nodeT)).alloc (.cells #[strS (zer 1)] stT)) (.cells #[.slice (some ⟨w.heap.size + 1, 0, none⟩) 1 1, .int .i64 (z : Int), .bool false] wrT)
  simpa using this
 have hsb : Sb (((w.alloc (.cells #[.int .i64 n.kind, .string n.data, .slice qA n.ptrs.length qa, .int .i64 n.size, .int .i64 n.count, .slice qB n.items.length qb] nodeT)).alloc (.cells #[strS (zer 1)] stT)).alloc (.cells #[.slice (some ⟨w.heap.size + 1, 0, none⟩) 1 1, .int .i64 (z : Int), .bool false] wrT)) w.heap.size (w.heap.size + 2) z [zer 1] false (fun k => k = w.heap.size + 1 ∨ k = w.heap.size + 2) :=
  ⟨_, r2, ⟨by decide, .inr ⟨w.heap.size + 1, 1, #[strS (zer 1)], rfl, by omega, r1, Nat.le_refl _, by decide, rfl, rfl⟩⟩, by omega, .inr rfl, fun k hk => .inl (Option.some.inj hk).symm⟩
 have HNODE := Lib.hid (swrite_any z h2 8 w.heap.size (w.heap.size + 2) [zer 1] _ (((w.alloc (.cells #[.int .i64 n.kind, .string n.data, .slice qA n.ptrs.length qa, .int .i64 n.size, .int .i64 n.count, .slice qB n.items.length qb] nodeT)).alloc (.cells #[strS (zer 1)] stT)).alloc (.cells #[.slice (some ⟨w.heap.size + 1, 0, none⟩) 1 1, .int .i64 (z : Int), .bool false] wrT)) 0 0 m n ⟨qA, qa, qB, qb⟩ hsb (fun k hk => by
  have : ((((w.alloc (.cells #[.int .i64 n.kind, .string n.data, .slice qA n.ptrs.length qa, .int .i64 n.size, .int .i64 n.count, .slice qB n.items.length qb] nodeT)).alloc (.cells #[strS (zer 1)] stT)).alloc (.cells #[.slice (some ⟨w.heap.size + 1, 0, none⟩) 1 1, .int .i64 (z : Int), .bool false] wrT))).heap.size = w.heap.size + 3 := by simp
  rw [this]
  omega) hk0 (by decide) (by decide) (nd_baseS hn.lt' hbW) ho8 ht (by omega) (by rw [show totS [zer 1] = 1 by decide]; unfold LS; omega))
 dsimp only at HNODE
 have HM := Lib.hid (fun W => l1Many_any ⟨#[0]⟩ 8 W (by omega) (by omega) (by decide) (by decide))
 have hmz : (⟨(repL (⟨#[0]⟩ : ByteArray).data.toList (8 : Int).toNat).toArray⟩ : ByteArray) = ⟨(zer 1).toArray⟩ := by decide +kernel
 rw [hmz] at HM
 have HBW := Lib.hid hbW
 have HSOK : Hid (∀ s1, wrP LS z 8 n [zer 1] 0 0 = some s1 → SOk LS s1) := Lib.hid (fun s1 hs => (wr_some LS z 8 n [zer 1] 0 0 s1 ho8 hk0 (by decide) (by decide) hs).1)
 have HBP : Hid (buildP LS z n = wrP LS z 8 n [zer 1] 0 0) := Lib.hid rfl
 rw [HBP.out] at HLIM
 generalize wrP LS z 8 n [zer 1] 0 0 = rr at *
 clear hn hok ho8 hlim hk0 hbW r0 r1 r2 hsb hmz HBP
 go_enter Tryz.func40, Tryz.ntmps40
 go_wp2_with fail
 refine (HM.out _).mono ?_
 rintro e w9 ⟨rfl, rfl⟩
 go_wp2_with fail
 refine HNODE.out.mono ?_
 rintro e w1 ⟨rfl, hk1, hor⟩
 have HK1 := Lib.hid (HBW.out.trans (hk1.below HBW.out.size (fun k hk => by rcases hk with h | h <;> omega)))
 rcases hor with ⟨hnone, s1, hs1⟩ | ⟨s1, hsome, hs1⟩
 · have HR : Hid (buildP 200 z n = none) := Lib.hid (by rw [HLIM.out, hnone]; rfl)
   obtain ⟨v, hb, -⟩ := hs1
   obtain ⟨c0, c1, c2⟩ := cells3 hb
   clear hb hk1
   go_wp2
   exact bodyPost_ret (v := .tuple #[.slice (some ⟨w1.heap.size, 0, none⟩) 0 0, .bool false]) (by simp [results, Tryz.results40, go_sem]) rfl (.inl ⟨HR.out, _, _, rfl, HK1.out.alloc HK1.out.size _⟩)
 · have hks := HSOK.out s1 hsome
   obtain ⟨r, cap, hb, ho, hlb, hPb, hPr, hc⟩ := hs1.open2 hks.one
   obtain ⟨c0, c1, c2⟩ := cells3 hb
   have HO := Lib.hid ho
   have HKS := Lib.hid hks
   have hrl : r < w1.heap.size := (ho.lt r rfl).2
   have HFR := Lib.hid (specFrameOk_any (some ⟨r, 0, none⟩) cap (txS s1) w1 (strs_txS hks hrl (fun i hi => (hc i hi).1)) (by rw [txS_length]; have := hks.six; omega) (tot_txS hks))
   rw [txS_length, frOk_txS hks] at HFR
   clear hb ho hlb hPb hPr hc hs1 hks hrl hk1
   by_cases hle : totS s1 ≤ 200
   · have HR : Hid (buildP 200 z n = some s1) := Lib.hid (by rw [HLIM.out, hsome, Option.bind_some, if_pos hle])
     rw [decide_eq_true hle] at HFR
     clear hsome hle
     go_wp2_with fail
     refine HFR.out.mono ?_
     rintro e w2 ⟨rfl, rfl⟩
     go_wp2
     exact bodyPost_ret (v := .tuple #[.slice (some ⟨r, 0, none⟩) s1.length cap, .bool true]) (by simp [results, Tryz.results40, go_sem]) rfl (.inr ⟨s1, _, _, HR.out, HKS.out, rfl, HO.out, HK1.out⟩)
   · have HR : Hid (buildP 200 z n = none) := Lib.hid (by rw [HLIM.out, hsome, Option.bind_some, if_neg hle])
     rw [decide_eq_false hle] at HFR
     clear hsome hle
     go_wp2_with fail
     refine HFR.out.mono ?_
     rintro e w2 ⟨rfl, rfl⟩
     go_wp2
     exact bodyPost_ret (v := .tuple #[.slice (some ⟨w1.heap.size, 0, none⟩) 0 0, .bool false]) (by simp [results, Tryz.results40, go_sem]) rfl (.inl ⟨HR.out, _, _, rfl, HK1.out.alloc HK1.out.size _⟩)
theorem specBuild_a (m : Nat) (n : Nd) (h : Hd) (w : World) (S : Nat → Prop) (size : Int) (hn : NdAt w S m n h) (ht : totN m n ≤ 2000000) :
 Calls Tryz.prog 11 #[.agg #[.int .i64 n.kind, .string n.data, .slice h.A n.ptrs.length h.a, .int .i64 n.size, .int .i64 n.count, .slice h.B n.items.length h.b], .int .i64 size] w (BuildSQ (bldV n size) w) := by
 obtain ⟨qA, qa, qB, qb⟩ := h
 have hb0 := (Below.refl w.heap.size w).alloc (Nat.le_refl _) (.cells #[.int .i64 n.kind, .string n.data, .slice qA n.ptrs.length qa, .int .i64 n.size, .int .i64 n.count, .slice qB n.items.length qb] nodeT)
 have HB0 := Lib.hid hb0
 have R0 := Lib.hid (heap_alloc_new w (.cells #[.int .i64 n.kind, .string n.data, .slice qA n.ptrs.length qa, .int .i64 n.size, .int .i64 n.count, .slice qB n.items.length qb] nodeT))
 have HOK := Lib.hid (fun (W : World) (hW : Below w.heap.size w W) => specNodeOk_a m n ⟨qA, qa, qB, qb⟩ W S (hn.below hW) ht)
 have HLB := Lib.hid (fun (hok : nodeOk n = true) (z : Nat) (h1 : 1 ≤ z) (h2 : z ≤ 200) (W : World) (hW : Below w.heap.size w W) => l5Build_yes m n ⟨qA, qa, qB, qb⟩ W S z (hn.below hW) ht hok h1 h2)
 dsimp only at HOK HLB ⊢
 by_cases hok : nodeOk n = true
 · by_cases hin : 1 ≤ size ∧ size ≤ 200
   · obtain ⟨z, rfl⟩ := Int.eq_ofNat_of_zero_le (show 0 ≤ size by omega)
     have HL2 := Lib.hid (HLB.out hok z (by omega) (by omega))
     have HV : Hid (bldV n (z : Int) = buildP 200 z n) := Lib.hid (by unfold bldV; rw [if_pos ⟨hok, hin⟩]; rfl)
     rw [hok] at HOK
     have HL1 := Lib.hid (fun W => l1In_any (z : Int) 1 200 W)
     rw [show inB (z : Int) 1 200 = true by unfold inB; simp; omega] at HL1
     have HIN := Lib.hid hin
     clear HLB hn hb0 hok
     go_enter Tryz.func11, Tryz.ntmps11
     go_wp2_with fail
     refine (HOK.out _ HB0.out).mono ?_
     rintro e w1 ⟨rfl, hb1⟩
     have HB1 := Lib.hid (HB0.out.trans (hb1.mono HB0.out.size))
     obtain ⟨n0, n1, n2, n3, n4, n5⟩ := cells6 ((hb1.block _ (row_lt R0.out)).trans R0.out)
     clear hb1
     go_wp2_with fail
     go_at_call 39
     refine (HL1.out _).mono ?_
     rintro e w2 ⟨rfl, rfl⟩
     go_wp2_with fail
     refine (HL2.out _ HB1.out).mono ?_
     rintro e w3 (⟨hnone, A, c, rfl, hb3⟩ | ⟨ss, A, c, hsome, hks, rfl, ho, hb3⟩)
     · have HB3 := Lib.hid (HB1.out.trans (hb3.mono HB1.out.size))
       have HN3 := Lib.hid hnone
       clear hb3 hnone
       go_wp2
       exact bodyPost_ret (v := .tuple #[.slice A 0 c, .bool false]) (by simp [results, Tryz.results11, go_sem]) rfl (.inl ⟨by rw [HV.out]; exact HN3.out, A, c, rfl, HB3.out⟩)
     · have HB3 := Lib.hid (HB1.out.trans (hb3.mono HB1.out.size))
       have HN3 := Lib.hid hsome
       have HKS := Lib.hid hks
       have HO3 := Lib.hid (own_lowS ho HB1.out.size)
       clear hb3 hsome hks ho
       go_wp2
       exact bodyPost_ret (v := .tuple #[.slice A ss.length c, .bool true]) (by simp [results, Tryz.results11, go_sem]) rfl (.inr ⟨ss, A, c, by rw [HV.out]; exact HN3.out, HKS.out, rfl, HO3.out, HB3.out⟩)
   · have HV : Hid (bldV n size = none) := Lib.hid (by unfold bldV; rw [if_neg (fun h => hin h.2)])
     have HL1 := Lib.hid (fun W => l1In_any size 1 200 W)
     rw [show inB size 1 200 = false by unfold inB; simp; omega] at HL1
     rw [hok] at HOK
     have HIN := Lib.hid hin
     clear HLB hn hb0 hok hin
     go_enter Tryz.func11, Tryz.ntmps11
     go_wp2_with fail
     refine (HOK.out _ HB0.out).mono ?_
     rintro e w1 ⟨rfl, hb1⟩
     have HB1 := Lib.hid (HB0.out.trans (hb1.mono HB0.out.size))
     clear hb1
     go_wp2_with fail
     go_at_call 39
     refine (HL1.out _).mono ?_
     rintro e w2 ⟨rfl, rfl⟩
     go_wp2
     exact bodyPost_ret (v := .tuple #[.slice (some ⟨w1.heap.size, 0, none⟩) 0 0, .bool false]) (by simp [results, Tryz.results11, go_sem]) rfl (.inl ⟨HV.out, _, _, rfl, HB1.out.alloc HB1.out.size _⟩)
 · have HV : Hid (bldV n size = none) := Lib.hid (by unfold bldV; rw [if_neg (fun h => hok h.1)])
   rw [show nodeOk n = false by simpa using hok] at HOK
   clear HLB hn hb0 hok
   go_enter Tryz.func11, Tryz.ntmps11
   go_wp2_with fail
   refine (HOK.out _ HB0.out).mono ?_
   rintro e w1 ⟨rfl, hb1⟩
   have HB1 := Lib.hid (HB0.out.trans (hb1.mono HB0.out.size))
   clear hb1
   go_wp2
   exact bodyPost_ret (v := .tuple #[.slice (some ⟨w1.heap.size, 0, none⟩) 0 0, .bool false]) (by simp [results, Tryz.results11, go_sem]) rfl (.inl ⟨HV.out, _, _, rfl, HB1.out.alloc HB1.out.size _⟩)
theorem strs_ownX {w : World} {base n cap : Nat} {e : TypeId} {A : Option Addr} {ss : List ByteArray} (h : w.ownsRow base e 1 (.slice A n cap) n (ss.map Value.string)) (hs : ∀ s ∈ ss, s.size ≤ maxLen) : Strs w A ss := by
 rcases h.2 with ⟨_, h0⟩ | ⟨g, cap, _, he, _⟩
 · have : ss = [] := by
    have h1 := h.1
    rw [h0] at h1
    exact List.eq_nil_of_length_eq_zero (by simpa using h1)
   subst this
   exact Strs.nil _ _
 · injection he with e1 e2 e3
   subst e1
   refine ⟨hs, .inr ⟨_, rfl, (h.lt g rfl).2, fun i hi => ?_⟩⟩
   exact h.cells (g := g) rfl i _ (by rw [List.getElem?_map, List.getElem?_eq_getElem hi]; rfl)
def txR (r : Option Segs) : List ByteArray := txS (r.getD [])
theorem txS_str (ss : Segs) : ss.map strS = (txS ss).map Value.string := by simp [txS]
theorem BuildQ.uni {r : Option Segs} {w : World} {e : Ending} {w' : World} (h : BuildQ r w e w') : ∃ A c, e = .returned (.tuple #[.slice A (txR r).length c, .bool r.isSome]) ∧ w'.ownsRow w.heap.size 9 1 (.slice A (txR r).length c) (txR r).length ((txR r).map Value.string) ∧ Below w.heap.size w w' := by
 rcases h with ⟨rfl, rfl, hb⟩ | ⟨ss, A, c, rfl, rfl, ho, hb⟩
 · exact ⟨none, 0, rfl, ⟨rfl, .inl ⟨rfl, rfl⟩⟩, hb⟩
 · refine ⟨A, c, ?_, ?_, hb⟩
   · unfold txR; rw [txS_length]; rfl
   · unfold txR; rw [Option.getD_some, txS_length, ← txS_str]; exact ho
theorem BuildSQ.uni {r : Option Segs} {w : World} {e : Ending} {w' : World} (h : BuildSQ r w e w') : ∃ A c, e = .returned (.tuple #[.slice A (txR r).length c, .bool r.isSome]) ∧ Strs w' A (txR r) ∧ (∀ x ∈ txR r, x.size ≤ maxLen) ∧ (txR r).length ≤ 6 ∧ Below w.heap.size w w' := by
 rcases h with ⟨rfl, A, c, rfl, hb⟩ | ⟨ss, A, c, rfl, hk, rfl, ho, hb⟩
 · exact ⟨A, c, rfl, Strs.nil _ _, (fun x hx => by cases hx), by decide, hb⟩
 · have hmx : ∀ x ∈ txS ss, x.size ≤ maxLen := fun s hs => by
    obtain ⟨x, hx, rfl⟩ := List.mem_map.1 hs
    obtain ⟨i, hi, e⟩ := List.getElem_of_mem hx
    have h1 := sb_len hk i
    rw [sgq_eq hi, e] at h1
    have hs : (⟨x.toArray⟩ : ByteArray).size = x.length := by simp [ByteArray.size]
    rw [hs]
    unfold maxLen
    omega
   have hs : Strs w' A (txS ss) := strs_ownX (cap := c) (n := ss.length) (by rw [← txS_str]; exact ho) hmx
   refine ⟨A, c, ?_, hs, hmx, by rw [show txR (some ss) = txS ss from rfl, txS_length]; exact hk.six, hb⟩
   unfold txR; rw [txS_length]; rfl
theorem own_slice {w : World} {B n : Nat} {e : TypeId} {v : Value} {xs : List Value} (h : w.ownsRow B e 1 v n xs) : ∃ A cap, v = .slice A n cap := by
 rcases h.2 with ⟨rfl, rfl⟩ | ⟨g, cap, cur, rfl, _⟩
 · exact ⟨none, 0, rfl⟩
 · exact ⟨_, cap, rfl⟩
theorem take_yes (S F : ByteArray) (zs : List ByteArray) (n : Nd) (w : World) (hu : unV S = .tuple #[.string F, .bool true]) (hF : F.size ≤ 1600) (hfg : fg F = ((F.size : Int), zs)) (hz : ∀ s ∈ zs, s.size ≤ maxLen)
 (HR : ∀ (A : Option Addr) (c : Nat) (W : World), Strs W A zs → Calls Tryz.prog 15 #[.slice A zs.length c, .int .i64 1000] W (ReadQ n W)) :
 Calls Tryz.prog 24 #[.string S, .int .i64 1000] w (ReadQ n w) := by
 have HU := Lib.hid (fun W : World => implUnpack_any S W)
 rw [hu] at HU
 have HG := Lib.hid (fun W : World => implFrameGet_any F W (by omega))
 unfold FG at HG
 rw [hfg] at HG
 have HRR := Lib.hid HR
 have HZ := Lib.hid hz
 have hb0 := (Below.refl w.heap.size w).alloc (Nat.le_refl _) (.cells #[.int .i64 0, .string { data := #[] }, .slice none 0 0, .int .i64 0, .int .i64 0, .slice none 0 0] nodeT)
 have hr0 := heap_alloc_new w (.cells #[.int .i64 0, .string { data := #[] }, .slice none 0 0, .int .i64 0, .int .i64 0, .slice none 0 0] nodeT)
 have HB0 := Lib.hid hb0
 have R0 := Lib.hid hr0
 clear hu hF hfg hz HR hb0 hr0
 go_enter Tryz.func24, Tryz.ntmps24
 go_wp2_with fail
 generalize w.alloc (.cells #[.int .i64 0, .string { data := #[] }, .slice none 0 0, .int .i64 0, .int .i64 0, .slice none 0 0] nodeT) = W at *
 refine (HU.out _).mono ?_
 rintro e w1 ⟨rfl, hb1⟩
 have HB1 := Lib.hid (HB0.out.trans (hb1.mono HB0.out.size))
 have R1 := Lib.hid ((hb1.block _ (row_lt R0.out)).trans R0.out)
 clear hb1
 go_wp2_with fail
 refine (HG.out _).mono ?_
 rintro e w2 ⟨v, rfl, ho, hb2⟩
 obtain ⟨A, c, rfl⟩ := own_slice ho
 have HS2 := Lib.hid (strs_ownX ho HZ.out)
 have HB2 := Lib.hid (HB1.out.trans (hb2.mono HB1.out.size))
 have R2 := Lib.hid ((hb2.block _ (row_lt R1.out)).trans R1.out)
 have HC := Lib.hid (HRR.out A c w2 HS2.out)
 unfold ReadQ at HC
 clear ho hb2
 go_wp2_with fail
 refine HC.out.mono ?_
 rintro e w3 ⟨hy, rfl, hny, hb3⟩
 have q3 := (hb3.block _ (row_lt R2.out)).trans R2.out
 obtain ⟨c0, c1, c2, c3, c4, c5⟩ := cells6 q3
 have hfz := row_free q3
 have Q3 := Lib.hid q3
 have HN := Lib.hid hny
 have HB3 := Lib.hid (HB2.out.trans (hb3.mono HB2.out.size))
 clear q3 hny hb3 HC
 go_wp2
 obtain ⟨wf, hwf, hrw, hkf⟩ := store6K Q3.out (.int .i64 n.kind) (.string n.data) (.slice hy.A n.ptrs.length hy.a) (.int .i64 n.size) (.int .i64 n.count) (.slice hy.B n.items.length hy.b)
 rw [hwf]
 obtain ⟨e0, e1, e2, e3, e4, e5⟩ := cells6 hrw
 have hlt := row_lt R2.out
 have hbf : Below w.heap.size w3 wf := hkf.below (by have := HB3.out.size; omega) (Nat.le_refl _)
 exact bodyPost_ret (v := .tuple #[.agg #[.int .i64 n.kind, .string n.data, .slice hy.A n.ptrs.length hy.a, .int .i64 n.size, .int .i64 n.count, .slice hy.B n.items.length hy.b], .int .i64 0]) (by simp [results, Tryz.results24, go_sem, e0, e1, e2, e3, e4, e5]) rfl ⟨hy, rfl, (HN.out.keepsR hkf (fun k (hk : w2.heap.size ≤ k) => by omega)).weak (fun k (hk : w2.heap.size ≤ k) => by have := HB2.out.size; show w.heap.size ≤ k; omega), HB3.out.trans hbf⟩
theorem take_no (S F : ByteArray) (ok : Bool) (w : World) (hu : unV S = .tuple #[.string F, .bool ok]) (hF : F.size ≤ 1600) (hno : ok = false ∨ (fg F).1 ≠ (F.size : Int)) :
 Calls Tryz.prog 24 #[.string S, .int .i64 1000] w fun e w' => e = .returned (.tuple #[.agg #[.int .i64 0, .string { data := #[] }, .slice none 0 0, .int .i64 0, .int .i64 0, .slice none 0 0], .int .i64 2]) ∧ Below w.heap.size w w' := by
 have HU := Lib.hid (fun W : World => implUnpack_any S W)
 rw [hu] at HU
 have HG := Lib.hid (fun W : World => implFrameGet_any F W (by omega))
 unfold FG at HG
 have hb0 := (Below.refl w.heap.size w).alloc (Nat.le_refl _) (.cells #[.int .i64 0, .string { data := #[] }, .slice none 0 0, .int .i64 0, .int .i64 0, .slice none 0 0] nodeT)
 have hr0 := heap_alloc_new w (.cells #[.int .i64 0, .string { data := #[] }, .slice none 0 0, .int .i64 0, .int .i64 0, .slice none 0 0] nodeT)
 have HB0 := Lib.hid hb0
 have R0 := Lib.hid hr0
 obtain ⟨g, hg⟩ : ∃ g : Int, (fg F).1 = g := ⟨_, rfl⟩
 rw [hg] at HG hno
 have hne : ok = true → (g == (F.size : Int)) = false := fun e => by
  rcases hno with h | h
  · rw [e] at h; cases h
  · simpa using h
 have hnb : ok = true → (g != (F.size : Int)) = true := fun e => by rw [bne, hne e]; rfl
 clear hu hF hno hb0 hr0 hg
 cases ok
 all_goals
  (first | have hq1 := hne rfl | skip)
  (first | have hq2 := hnb rfl | skip)
  clear hne hnb
  go_enter Tryz.func24, Tryz.ntmps24
  go_wp2_with fail
  generalize w.alloc (.cells #[.int .i64 0, .string { data := #[] }, .slice none 0 0, .int .i64 0, .int .i64 0, .slice none 0 0] nodeT) = W at *
  refine (HU.out _).mono ?_
  rintro e w1 ⟨rfl, hb1⟩
  have HB1 := Lib.hid (HB0.out.trans (hb1.mono HB0.out.size))
  have R1 := Lib.hid ((hb1.block _ (row_lt R0.out)).trans R0.out)
  clear hb1
  go_wp2_with fail
  refine (HG.out _).mono ?_
  rintro e w2 ⟨v, rfl, ho, hb2⟩
  have HB2 := Lib.hid (HB1.out.trans (hb2.mono HB1.out.size))
  have q2 := (hb2.block _ (row_lt R1.out)).trans R1.out
  have Q2 := Lib.hid q2
  obtain ⟨c0, c1, c2, c3, c4, c5⟩ := cells6 q2
  have hfz := row_free q2
  clear ho hb2 q2
  go_wp2
  obtain ⟨wf, hwf, hrw, hkf⟩ := store6K Q2.out (.int .i64 0) (.string { data := #[] }) (.slice none 0 0) (.int .i64 0) (.int .i64 0) (.slice none 0 0)
  rw [hwf]
  obtain ⟨e0, e1, e2, e3, e4, e5⟩ := cells6 hrw
  have hbf : Below w.heap.size w2 wf := hkf.below (by have := HB2.out.size; omega) (Nat.le_refl _)
  exact bodyPost_ret (v := .tuple #[.agg #[.int .i64 0, .string { data := #[] }, .slice none 0 0, .int .i64 0, .int .i64 0, .slice none 0 0], .int .i64 2]) (by simp [results, Tryz.results24, go_sem, e0, e1, e2, e3, e4, e5]) rfl ⟨rfl, HB2.out.trans hbf⟩
end Go.Proofs.YtlbfffokkhccaaaGreatDoor
namespace Go.Proofs.YtlbfffokkhccaaaGreatDoor
open Go.RowKit
theorem fr_len {ss : List ByteArray} (h : frOk ss = true) : (frameL ss).length = fgHead ss.length + tot ss := by
 rw [frameL, if_pos h, List.length_append, List.length_append, List.length_append, leB_length, numsL_length, bodyL_length, fillL, fgHead]
 split
 · rw [leB_length]; omega
 · simp; omega
theorem nums_at : ∀ (ss : List ByteArray) (i : Nat) (h : i < ss.length) (r : List UInt8), leN (numsL ss ++ r) (4 * i) 4 = leN (leB (((ss[i]).size / 8 : Nat) : Int) 4) 0 4
 | s :: ss, 0, _, r => by
   refine leN_congr _ _ 4 _ _ (fun j hj => ?_)
   rw [numsL, List.flatMap_cons, List.append_assoc, Nat.mul_zero, List.getElem?_append_left (by rw [leB_length]; omega)]
   rfl
 | s :: ss, i + 1, h, r => by
   have ih := nums_at ss i (by simpa using h) r
   rw [List.getElem_cons_succ, ← ih]
   refine leN_congr _ _ 4 _ _ (fun j hj => ?_)
   rw [numsL, List.flatMap_cons, List.append_assoc, List.getElem?_append_right (by rw [leB_length]; omega), leB_length, ← numsL]
   congr 1; omega
theorem leN_leB_small (n : Nat) (h : n < 4294967296) : leN (leB (n : Int) 4) 0 4 = n := by
 have e := leN_leB 4 (n : Int)
 rw [show (256 : Int) ^ 4 = 4294967296 from rfl] at e
 omega
theorem frOk_all {ss : List ByteArray} (h : frOk ss = true) : ss.all (fun s => decide (s.size % 8 = 0)) = true := by
 simp only [frOk, Bool.and_eq_true] at h
 exact h.2.1
theorem fillL_zero (n : Nat) : ∀ b ∈ fillL n, b = 0 := by
 intro b hb
 unfold fillL at hb
 split at hb
 · simp [leB] at hb; exact hb
 · cases hb
theorem head_of {ss : List ByteArray} (hok : frOk ss = true) {l : List UInt8} (hl : ∀ j, j < fgHead ss.length → l[j]? = (frameL ss)[j]?) (h8 : fgHead ss.length ≤ l.length) :
 gN l 0 + 1 = ss.length ∧ szs l ss.length = ss.map (fun s => s.size / 8) ∧ fgZ l ss.length = true := by
 obtain ⟨⟨h1, h6⟩, htot⟩ := frOk_parts hok
 have hF : frameL ss = leB ((ss.length : Int) - 1) 4 ++ (numsL ss ++ (fillL ss.length ++ bodyL ss)) := by rw [frameL, if_pos hok, List.append_assoc, List.append_assoc]
 have hh : 4 * ss.length + 4 ≤ fgHead ss.length := by unfold fgHead; omega
 refine ⟨?_, ?_, ?_⟩
 · have e : gN l 0 = leN (leB (((ss.length - 1 : Nat) : Int)) 4) 0 4 := by
    refine leN_congr _ _ 4 _ _ (fun i hi => ?_)
    rw [hl _ (by omega), hF, List.getElem?_append_left (by rw [leB_length]; omega)]
    rw [show ((ss.length : Int) - 1) = ((ss.length - 1 : Nat) : Int) by omega]
   rw [e, leN_leB_small _ (by omega)]; omega
 · apply List.ext_getElem
   · rw [szs_length, List.length_map]
   · intro i hi1 hi2
     rw [szs_length] at hi1
     rw [List.getElem_map]
     have hsz := tot_get ss i hi1
     have e : (szs l ss.length)[i]'(by rw [szs_length]; exact hi1) = gN l (i + 1) := by simp [szs]
     rw [e, ← leN_leB_small ((ss[i]).size / 8) (by omega), ← nums_at ss i hi1 (fillL ss.length ++ bodyL ss)]
     refine leN_congr _ _ 4 _ _ (fun j hj => ?_)
     rw [hl _ (by omega), hF, List.getElem?_append_right (by rw [leB_length]; omega), leB_length]
     congr 1; omega
 · rw [fgZ, List.all_eq_true]
   intro b hb
   obtain ⟨i, hi, rfl⟩ := List.mem_iff_getElem.1 hb
   have hi2 : 4 * (ss.length + 1) + i < fgHead ss.length := by
    rw [List.length_drop, List.length_take] at hi; omega
   have hfl : (fillL ss.length).length = fgHead ss.length - 4 * (ss.length + 1) := by
    unfold fillL fgHead
    split
    · rw [leB_length]; omega
    · simp; omega
   have e : ((l.take (fgHead ss.length)).drop (4 * (ss.length + 1)))[i]? = (fillL ss.length)[i]? := by
    rw [List.getElem?_drop, List.getElem?_take_of_lt hi2, hl _ hi2, hF, List.getElem?_append_right (by rw [leB_length]; omega), leB_length, List.getElem?_append_right (by rw [numsL_length]; omega), numsL_length,
     List.getElem?_append_left (by omega)]
    congr 1; omega
   rw [List.getElem?_eq_getElem hi, List.getElem?_eq_getElem (by omega)] at e
   have e2 : ((l.take (fgHead ss.length)).drop (4 * (ss.length + 1)))[i] = (fillL ss.length)[i]'(by omega) := by simpa using e
   rw [e2]
   have := fillL_zero ss.length _ (List.getElem_mem (show i < (fillL ss.length).length by omega))
   rw [this]; rfl
theorem cut_body (s : ByteArray) : ∀ (ss : List ByteArray) (a : Nat) (r : List UInt8), s.data.toList.drop a = bodyL ss ++ r → ss.all (fun s => decide (s.size % 8 = 0)) = true → cutB s a (ss.map fun s => s.size / 8) = ss
 | [], _, _, _, _ => rfl
 | x :: ss, a, r, h, hw => by
   simp only [List.all_cons, Bool.and_eq_true, decide_eq_true_eq] at hw
   have hx : 8 * (x.size / 8) = x.size := by omega
   have hxl : x.data.toList.length = x.size := rfl
   rw [bodyL, List.flatMap_cons, List.append_assoc, ← bodyL] at h
   rw [List.map_cons, cutB, hx]
   congr 1
   · apply ext_ba
     rw [Lib.extract_data, h, show a + x.size - a = x.size by omega, List.take_append_of_le_length (by omega), List.take_of_length_le (by omega)]
   · refine cut_body s ss (a + x.size) r ?_ hw.2
     rw [← List.drop_drop, h, List.drop_append_of_le_length (by omega), List.drop_of_length_le (by omega), List.nil_append]
theorem fg_frame {ss : List ByteArray} (hok : frOk ss = true) (s : ByteArray) (r : List UInt8) (h : s.data.toList = frameL ss ++ r) : fg s = (((frameL ss).length : Int), ss) := by
 obtain ⟨⟨h1, h6⟩, htot⟩ := frOk_parts hok
 have hlen := fr_len hok
 have hsl : s.data.toList.length = s.size := rfl
 rw [h, List.length_append] at hsl
 have hall := frOk_all hok
 have hw := wds_tot ss hall
 obtain ⟨g1, g2, g3⟩ := head_of hok (l := s.data.toList) (fun j hj => by rw [h, List.getElem?_append_left (by omega)]) (by rw [h, List.length_append]; omega)
 have h4 : 4 ≤ fgHead ss.length := by unfold fgHead; omega
 have hsum : (ss.map fun s => s.size / 8).sum = wds ss := rfl
 rw [fg5 g1 (by omega) h6 (by omega) g3 (by rw [g2, hsum]; omega) (by rw [g2, hsum]; omega), g2, hsum, hw, ← hlen]
 rw [cut_body s ss _ r ?_ hall]
 have hF : frameL ss = (leB ((ss.length : Int) - 1) 4 ++ numsL ss ++ fillL ss.length) ++ bodyL ss := by rw [frameL, if_pos hok]
 have hhl : (leB ((ss.length : Int) - 1) 4 ++ numsL ss ++ fillL ss.length).length = fgHead ss.length := by
  have := congrArg List.length hF
  rw [List.length_append, bodyL_length] at this
  omega
 rw [h, hF, List.append_assoc, List.drop_append_of_le_length (by omega), List.drop_of_length_le (by omega), List.nil_append]
end Go.Proofs.YtlbfffokkhccaaaGreatDoor
