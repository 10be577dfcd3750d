/- Texts of the proof of the law FnSend, side by side: part 25. -/
import Derived.Test.YtlbfffokkhccaaaGreatDoorMSend24
set_option maxHeartbeats 8000000
set_option maxRecDepth 100000
namespace Go.Proofs.YtlbfffokkhccaaaGreatDoor
open Go.RowKit Go.Deep
abbrev LS : Nat := 1000
def SWrQ (base b size : Nat) (P : Nat → Prop) (w : World) (r : Option Segs) (e : Ending) (w' : World) : Prop :=
 e = .returned (.tuple #[]) ∧ KP P w w' ∧ ((r = none ∧ ∃ s1, Sb w' base b size s1 true (fun k => P k ∨ w.heap.size ≤ k)) ∨ ∃ s1, r = some s1 ∧ Sb w' base b size s1 false (fun k => P k ∨ w.heap.size ≤ k))
def SWrD (size d : Nat) : Prop := ∀ (base b : Nat) (ss : Segs) (P : Nat → Prop) (w : World) (i a m : Nat) (n : Nd) (h1 : Hd), Sb w base b size ss false P → (∀ k, P k → base ≤ k ∧ k < w.heap.size) → SOk LS ss → i < ss.length → a < wn (sgS ss i) →
 NdAt w (fun k => k < base) m n h1 → okN d n = true → totN m n ≤ 2000000 → wordsN d n ≤ 300 → totS ss + 2 * wordsN d n ≤ LS →
 Calls Tryz.prog 79 #[.pointer (some ⟨b, 0, none⟩), .agg #[.int .i64 n.kind, .string n.data, .slice h1.A n.ptrs.length h1.a, .int .i64 n.size, .int .i64 n.count, .slice h1.B n.items.length h1.b], .int .i64 (i : Int), .int .i64 (a : Int)] w (SWrQ base b size P w (wrP LS size d n ss i a))
theorem mem_le_sumS {x : Nat} : ∀ {l : List Nat}, x ∈ l → x ≤ l.sum
 | [], h => by cases h
 | y :: t, h => by
   rw [List.sum_cons]
   rcases List.mem_cons.1 h with rfl | h
   · omega
   · have := mem_le_sumS h; omega
theorem take_sum_le (l : List Nd) (f : Nd → Nat) (k : Nat) (hk : k < l.length) : ((l.take k).map f).sum + f l[k] ≤ (l.map f).sum := by
 have h1 := sum_take_succ l f k hk
 have h2 := sum_take_le l f (k + 1)
 omega
theorem inner_any (size d : Nat) (IH : SWrD size d) (base b : Nat) (ss : Segs) (P : Nat → Prop) (w : World) (i a m : Nat) (n : Nd) (h1 : Hd) (h : Sb w base b size ss false P) (hP0 : ∀ k, P k → base ≤ k ∧ k < w.heap.size) (hk : SOk LS ss) (hi : i < ss.length) (ha : a + ownB n ≤ wn (sgS ss i)) (h8 : n.data.size % 8 = 0)
 (hn : NdAt w (fun k => k < base) m n h1) (ho : ∀ p ∈ n.ptrs, okN d p = true) (hm : totN m n ≤ 2000000) (hws : (n.ptrs.map (wordsN d)).sum ≤ 300) (htt : totS ss + 2 * (n.ptrs.map (wordsN d)).sum ≤ LS) :
 Calls Tryz.prog 163 #[.pointer (some ⟨b, 0, none⟩), .agg #[.int .i64 n.kind, .string n.data, .slice h1.A n.ptrs.length h1.a, .int .i64 n.size, .int .i64 n.count, .slice h1.B n.items.length h1.b], .int .i64 (i : Int), .int .i64 (a : Int)] w (SWrQ base b size P w (bodyP (wrP LS size d) n ss i a)) := by
 obtain ⟨qA, qa, qB, qb⟩ := h1
 dsimp only at hn ⊢
 have hwi := wn_le_totS ss i
 have hto := hk.totS
 unfold LS at hto htt
 have hbd : (n.data.size + 7) / 8 + n.ptrs.length ≤ 1000 := by unfold ownB at ha; omega
 have hb0 : Below w.heap.size w ((w.alloc (.cells #[.int .i64 n.kind, .string n.data, .slice qA n.ptrs.length qa, .int .i64 n.size, .int .i64 n.count, .slice qB n.items.length qb] nodeT))) := (Below.refl _ w).alloc (Nat.le_refl _) _
 have r0 : ((w.alloc (.cells #[.int .i64 n.kind, .string n.data, .slice qA n.ptrs.length qa, .int .i64 n.size, .int .i64 n.count, .slice qB n.items.length qb] nodeT))).heap[w.heap.size]? = some (.cells #[.int .i64 n.kind, .string n.data, .slice qA n.ptrs.length qa, .int .i64 n.size, .int .i64 n.count, .slice qB n.items.length qb] nodeT (0, 0)) := heap_alloc_new w _
 have hs0 : ((w.alloc (.cells #[.int .i64 n.kind, .string n.data, .slice qA n.ptrs.length qa, .int .i64 n.size, .int .i64 n.count, .slice qB n.items.length qb] nodeT))).heap.size = w.heap.size + 1 := by simp
 have hbb : base ≤ w.heap.size := by have := h.base; omega
 have hl8 := wds_len hk.wds i
 have HFIT := Lib.hid (body_fits hk.wds ha)
 have hdl : n.data.size ≤ 10000 := by omega
 have hdd : (⟨n.data.data.toList.toArray⟩ : ByteArray) = n.data := by simp
 have HPUT := Lib.hid (sput_any base b size ss P ((w.alloc (.cells #[.int .i64 n.kind, .string n.data, .slice qA n.ptrs.length qa, .int .i64 n.size, .int .i64 n.count, .slice qB n.items.length qb] nodeT))) (h.low hb0) i a n.data.data.toList hi HFIT.out (by omega))
 rw [hdd] at HPUT
 have HN := Lib.hid hn
 have HB0 := Lib.hid hb0
 have R0 := Lib.hid r0
 have HP0 := Lib.hid hP0
 have HO := Lib.hid ho
 obtain ⟨dw, hdw⟩ : ∃ dw, (n.data.size + 7) / 8 = dw := ⟨_, rfl⟩
 have HE : Hid (bodyP (wrP LS size d) n ss i a = ptrsP (wrP LS size d) n.ptrs (putS ss i a n.data.data.toList) i (a + dw)) := Lib.hid (by unfold bodyP; rw [hdw])
 have HDX : Hid (a + dw + n.ptrs.length ≤ wn (sgS (putS ss i a n.data.data.toList) i)) := Lib.hid (by rw [← (put_alen hi HFIT.out).wn]; unfold ownB at ha; omega)
 have hdv : (n.data.size : Int) / 8 = (dw : Int) := by omega
 have HSS : Hid (SOk LS (putS ss i a n.data.data.toList)) := Lib.hid (hk.put hi HFIT.out)
 have HTS : Hid (totS (putS ss i a n.data.data.toList) = totS ss) := Lib.hid (put_totS hi HFIT.out)
 have hii : i < (putS ss i a n.data.data.toList).length := by rw [putS_length]; exact hi
 rw [hdw] at hbd
 have HWO : Hid (WrOk LS (wrP LS size d) (fun n => okN d n = true)) := Lib.hid (wr_some LS size d)
 have HTO : Hid (WrTot LS (wrP LS size d) (fun n => okN d n = true) (wordsN d)) := Lib.hid (wr_tot LS size d)
 clear hn h hb0 r0 hP0 ho hk hdd hdw h8 ha hl8
 go_enter Tryz.func163, Tryz.ntmps163
 go_wp2_with fail
 refine HPUT.out.mono ?_
 rintro e w1 ⟨rfl, hk1, hB1⟩
 have HQ0 := Lib.hid (hk1.rowS R0.out (fun hp => by have := (HP0.out _ hp).2; omega))
 have HK1 := Lib.hid ((KP.of_below HB0.out).trans hk1 (fun _ _ h => h) : KP P w w1)
 have HB1 := Lib.hid hB1
 have HS1 : Hid (w.heap.size + 1 ≤ w1.heap.size) := Lib.hid (by have := hk1.size; omega)
 clear hk1 hB1 hs0 HPUT
 go_wp2_with fail
 go_loopw [8] (fun c wr => ∃ k : Nat, c = .int .i64 k ∧ k ≤ n.ptrs.length ∧ Hid (KP P w wr ∧ w.heap.size + 1 ≤ wr.heap.size ∧ wr.heap[w.heap.size]? = some (.cells #[.int .i64 n.kind, .string n.data, .slice qA n.ptrs.length qa, .int .i64 n.size, .int .i64 n.count, .slice qB n.items.length qb] nodeT (0, 0)) ∧
  ((bodyP (wrP LS size d) n ss i a = none ∧ ∃ s1, Sb wr base b size s1 true (fun k => P k ∨ w.heap.size + 1 ≤ k)) ∨ ∃ s1, ptrsP (wrP LS size d) (n.ptrs.take k) (putS ss i a n.data.data.toList) i (a + dw) = some s1 ∧ SOk LS s1 ∧ Grew (putS ss i a n.data.data.toList) s1 ∧ totS s1 ≤ totS ss + 2 * ((n.ptrs.take k).map (wordsN d)).sum ∧ Sb wr base b size s1 false (fun k => P k ∨ w.heap.size + 1 ≤ k)))) (fun c _ => n.ptrs.length - (intOf c).toNat)
 case atStart => exact ⟨0, rfl, by omega, Lib.hid ⟨HK1.out, HS1.out, HQ0.out, .inr ⟨_, rfl, HSS.out, Grew.refl _, by rw [HTS.out]; exact Nat.le_add_right _ _, HB1.out.weak (fun _ h => .inl h)⟩⟩⟩
 case round =>
  obtain ⟨k, rfl, hkk, HZ⟩ := hrel
  obtain ⟨zp, zs, zq0, zor⟩ := HZ.out
  have ZP := Lib.hid zp
  have ZQ0 := Lib.hid zq0
  obtain ⟨n0, n1, n2, n3, n4, n5⟩ := cells6 zq0
  clear zp zq0 HZ
  rcases zor with ⟨zn, s1, zb⟩ | ⟨s1, zr, zk, zg, zt, zb⟩
  · have ZN := Lib.hid zn
    have ZB := Lib.hid zb
    obtain ⟨v, hbv, -⟩ := zb
    obtain ⟨c0, c1, c2⟩ := cells3 hbv
    have ZBW := Lib.hid (ZB.out.weak (Q := fun k => P k ∨ w.heap.size ≤ k) (fun x hx => hx.imp id (fun h => by omega)))
    clear zn hbv
    by_cases hlt3 : k < n.ptrs.length
    all_goals
     go_wp2
     go_end0
     exact ⟨rfl, ZP.out, .inl ⟨ZN.out, s1, ZBW.out⟩⟩
  · have ZR := Lib.hid zr
    have ZK := Lib.hid zk
    have ZG := Lib.hid zg
    have ZT := Lib.hid zt
    have ZB := Lib.hid zb
    obtain ⟨v, hbv, -⟩ := zb
    obtain ⟨c0, c1, c2⟩ := cells3 hbv
    clear zr zk zg zt hbv
    by_cases hlt3 : k < n.ptrs.length
    · obtain ⟨m', rfl⟩ := HN.out.2.1.pred hlt3
      obtain ⟨xx, hdp, hqa, hc, hp⟩ := (HN.out.2.1).at_ hlt3
      obtain rfl : qA = some xx := hqa
      have hbw := ZP.out.below hbb (fun k hp => (HP0.out k hp).1)
      have hcb : (xx.add (k * 6)).block < base := by
       obtain ⟨_, q, hq, hcq, _⟩ := HN.out.2.1
       rcases hcq with h | ⟨x2, e2, hs2, _⟩
       · rw [h] at hq; rw [← hq] at hlt3; cases hlt3
       · injection e2 with e2; rw [addr_block, e2]; exact hs2
      obtain ⟨d0, d1, d2, d3, d4, d5⟩ := hc.block (hbw.block _ hcb)
      have hmem := List.getElem_mem hlt3
      have HOK := Lib.hid (HO.out _ hmem)
      have HTP : Hid (totN m' n.ptrs[k] ≤ 2000000) := Lib.hid (by have := totL_at (m := m') hlt3; unfold totN at hm; omega)
      have HWP : Hid (wordsN d n.ptrs[k] ≤ 300) := Lib.hid (Nat.le_trans (mem_le_sumS (List.mem_map_of_mem hmem)) hws)
      have HWT : Hid (totS s1 + 2 * wordsN d n.ptrs[k] ≤ LS) := Lib.hid (by have h1 := ZT.out; have h2 := take_sum_le n.ptrs (wordsN d) k hlt3; unfold LS; omega)
      have HSN := Lib.hid (sum_take_succ n.ptrs (wordsN d) k hlt3)
      have HSTEP := Lib.hid (ptrsP_take (wrP LS size d) n.ptrs k hlt3 (putS ss i a n.data.data.toList) i (a + dw))
      have HCUT := Lib.hid (ptrsP_cut (wrP LS size d) n.ptrs (k + 1) (putS ss i a n.data.data.toList) i (a + dw))
      have HNP := Lib.hid hp
      generalize n.ptrs[k] = p at *
      have HCB := Lib.hid hcb
      have HND := Lib.hid (nd_baseS HNP.out hbw)
      have hw0 : IntKind.i64.wrap (dw : Int) = (dw : Int) := by rw [IntKind.wrap_i64]; have := HDX.out; have := wn_le_totS (putS ss i a n.data.data.toList) i; have := HTS.out; omega
      have hw1 : IntKind.i64.wrap ((a : Int) + (dw : Int)) = ((a + dw : Nat) : Int) := by rw [IntKind.wrap_i64]; have := HDX.out; have := wn_le_totS (putS ss i a n.data.data.toList) i; have := HTS.out; omega
      have hw2 : IntKind.i64.wrap (((a + dw : Nat) : Int) + (k : Int)) = ((a + dw + k : Nat) : Int) := by rw [IntKind.wrap_i64]; have := HDX.out; have := wn_le_totS (putS ss i a n.data.data.toList) i; have := HTS.out; omega
      have hw3 : IntKind.i64.wrap ((a : Int) + (dw : Int) + (k : Int)) = ((a + dw + k : Nat) : Int) := by rw [IntKind.wrap_i64]; have := HDX.out; have := wn_le_totS (putS ss i a n.data.data.toList) i; have := HTS.out; omega
      have hii1 : i < s1.length := Nat.lt_of_lt_of_le hii ZG.out.1
      have haa1 : a + dw + k < wn (sgS s1 i) := by have h1 := ZG.out.wn i; have h2 := HDX.out; omega
      have HCALL := Lib.hid (fun (V : World) (hV : Below wr.heap.size wr V) => IH base b s1 _ V i (a + dw + k) m' p hdp (ZB.out.tight.low hV) (fun x hx => ⟨hx.2.1, Nat.lt_of_lt_of_le hx.2.2 hV.size⟩) ZK.out hii1 haa1 (nd_baseS HND.out (hV.mono (by omega))) HOK.out HTP.out HWP.out HWT.out)
      have HNP7 : Hid (∀ x, (w.heap.size ≤ x ∧ x < w.heap.size + 1) ∨ x < base → ¬ ((P x ∨ w.heap.size + 1 ≤ x) ∧ base ≤ x ∧ x < wr.heap.size)) := Lib.hid (fun x hx hp => by
       rcases hx with hx | hx
       · rcases hp.1 with h | h
         · have := HP0.out x h; omega
         · omega
       · omega)
      have HPW : Hid (∀ x, x < w.heap.size → ((P x ∨ w.heap.size + 1 ≤ x) ∧ base ≤ x ∧ x < wr.heap.size) → P x) := Lib.hid (fun x hx hp => by
       rcases hp.1 with h | h
       · exact h
       · omega)
      have hki : (k : Int) < (n.ptrs.length : Int) := by omega
      clear hc hp hmem hcb hbw
      go_wp2_with fail
      refine wp_region_held_drew (S := (fun V => (V.cell? ⟨w.heap.size, 1, none⟩ = some (.string n.data) ∧ V.cell? ⟨w.heap.size, 2, none⟩ = some (.slice (some xx) n.ptrs.length qa)) ∧ V.cell? (xx.add (k * 6)) = some (.int .i64 p.kind) ∧ V.cell? ⟨(xx.add (k * 6)).block, (xx.add (k * 6)).off + 1, none⟩ = some (.string p.data) ∧ V.cell? ⟨(xx.add (k * 6)).block, (xx.add (k * 6)).off + 2, none⟩ = some (.slice hdp.A p.ptrs.length hdp.a) ∧ V.cell? ⟨(xx.add (k * 6)).block, (xx.add (k * 6)).off + 3, none⟩ = some (.int .i64 p.size) ∧ V.cell? ⟨(xx.add (k * 6)).block, (xx.add (k * 6)).off + 4, none⟩ = some (.int .i64 p.count) ∧ V.cell? ⟨(xx.add (k * 6)).block, (xx.add (k * 6)).off + 5, none⟩ = some (.slice hdp.B p.items.length hdp.b))) (by kernel_rfl) ?_ (fun hH0 => ?_)
      · exact ⟨⟨n1, n2⟩, d0, d1, d2, d3, d4, d5⟩
      refine wpAnyH_take (i := 0) (v := ?_) rfl (by kernel_rfl) (by kernel_rfl) (by kernel_rfl) (fun _ _ _ h => h) (Or.inl ⟨by rfl, ?_⟩) (by assumption) ?_
      rotate_left
      · intro w hSw
        (try dsimp only at hSw)
        go_simp
        try with_reducible rfl
      try simp only [List.getElem_toArray, List.getElem_cons_succ, List.getElem_cons_zero, Act.put, List.setIfInBounds_toArray, List.set_cons_zero, List.set_cons_succ]
      refine wpAnyH_take (i := 1) (v := ?_) rfl (by kernel_rfl) (by kernel_rfl) (by kernel_rfl) (fun _ _ _ h => h) (Or.inl ⟨by rfl, ?_⟩) (by assumption) ?_
      rotate_left
      · intro w hSw
        (try dsimp only at hSw)
        go_simp
        try with_reducible rfl
      try simp only [List.getElem_toArray, List.getElem_cons_succ, List.getElem_cons_zero, Act.put, List.setIfInBounds_toArray, List.set_cons_zero, List.set_cons_succ]
      refine wpAnyH_take (i := 2) (v := ?_) rfl (by kernel_rfl) (by kernel_rfl) (by kernel_rfl) (fun _ _ _ h => h) (Or.inl ⟨by rfl, ?_⟩) (by assumption) ?_
      rotate_left
      · intro w hSw
        (try dsimp only at hSw)
        go_simp
        try with_reducible rfl
      try simp only [List.getElem_toArray, List.getElem_cons_succ, List.getElem_cons_zero, Act.put, List.setIfInBounds_toArray, List.set_cons_zero, List.set_cons_succ]
      refine wpAnyH_take (i := 3) (v := ?_) rfl (by kernel_rfl) (by kernel_rfl) (by kernel_rfl) (fun _ _ _ h => h) (Or.inl ⟨by rfl, ?_⟩) (by assumption) ?_
      rotate_left
      · intro w hSw
        (try dsimp only at hSw)
        go_simp
        try with_reducible rfl
      try simp only [List.getElem_toArray, List.getElem_cons_succ, List.getElem_cons_zero, Act.put, List.setIfInBounds_toArray, List.set_cons_zero, List.set_cons_succ]
      refine wpAnyH_take (i := 4) (v := ?_) rfl (by kernel_rfl) (by kernel_rfl) (by kernel_rfl) (fun _ _ _ h => h) (Or.inl ⟨by rfl, ?_⟩) (by assumption) ?_
      rotate_left
      · intro w hSw
        (try dsimp only at hSw)
        go_simp
        try with_reducible rfl
      try simp only [List.getElem_toArray, List.getElem_cons_succ, List.getElem_cons_zero, Act.put, List.setIfInBounds_toArray, List.set_cons_zero, List.set_cons_succ]
      refine wpAnyH_take (i := 5) (v := ?_) rfl (by kernel_rfl) (by kernel_rfl) (by kernel_rfl) (fun _ _ _ h => h) (Or.inl ⟨by rfl, ?_⟩) (by assumption) ?_
      rotate_left
      · intro w hSw
        (try dsimp only at hSw)
        go_simp
        try with_reducible rfl
      try simp only [List.getElem_toArray, List.getElem_cons_succ, List.getElem_cons_zero, Act.put, List.setIfInBounds_toArray, List.set_cons_zero, List.set_cons_succ]
      refine wpAnyH_take (i := 6) (v := ?_) rfl (by kernel_rfl) (by kernel_rfl) (by kernel_rfl) (fun _ _ _ h => h) (Or.inl ⟨by rfl, ?_⟩) (by assumption) ?_
      rotate_left
      · intro w hSw
        (try dsimp only at hSw)
        go_simp
        try with_reducible rfl
      try simp only [List.getElem_toArray, List.getElem_cons_succ, List.getElem_cons_zero, Act.put, List.setIfInBounds_toArray, List.set_cons_zero, List.set_cons_succ]
      refine wpAnyH_take (i := 7) (v := ?_) rfl (by kernel_rfl) (by kernel_rfl) (by kernel_rfl) (fun _ _ _ h => h) (Or.inl ⟨by rfl, ?_⟩) (by assumption) ?_
      rotate_left
      · intro w hSw
        (try dsimp only at hSw)
        go_simp
        try with_reducible rfl
      try simp only [List.getElem_toArray, List.getElem_cons_succ, List.getElem_cons_zero, Act.put, List.setIfInBounds_toArray, List.set_cons_zero, List.set_cons_succ]
      refine wpAnyH_take (i := 8) (v := ?_) rfl (by kernel_rfl) (by kernel_rfl) (by kernel_rfl) (fun _ _ _ h => h) (Or.inl ⟨by rfl, ?_⟩) (by assumption) ?_
      rotate_left
      · intro w hSw
        (try dsimp only at hSw)
        go_simp
        try with_reducible rfl
      try simp only [List.getElem_toArray, List.getElem_cons_succ, List.getElem_cons_zero, Act.put, List.setIfInBounds_toArray, List.set_cons_zero, List.set_cons_succ]
      refine wpAnyH_take (i := 9) (v := ?_) rfl (by kernel_rfl) (by kernel_rfl) (by kernel_rfl) (fun _ _ _ h => h) (Or.inl ⟨by rfl, ?_⟩) (by assumption) ?_
      rotate_left
      · intro w hSw
        (try dsimp only at hSw)
        go_simp
        try with_reducible rfl
      try simp only [List.getElem_toArray, List.getElem_cons_succ, List.getElem_cons_zero, Act.put, List.setIfInBounds_toArray, List.set_cons_zero, List.set_cons_succ]
      refine wpAnyH_take (i := 10) (v := ?_) rfl (by kernel_rfl) (by kernel_rfl) (by kernel_rfl) (fun _ _ _ h => h) (Or.inl ⟨by rfl, ?_⟩) (by assumption) ?_
      rotate_left
      · intro w hSw
        (try dsimp only at hSw)
        go_simp
        try with_reducible rfl
      try simp only [List.getElem_toArray, List.getElem_cons_succ, List.getElem_cons_zero, Act.put, List.setIfInBounds_toArray, List.set_cons_zero, List.set_cons_succ]
      refine wpAnyH_take (i := 11) (v := ?_) rfl (by kernel_rfl) (by kernel_rfl) (by kernel_rfl) (fun _ _ _ h => h) (Or.inl ⟨by rfl, ?_⟩) (by assumption) ?_
      rotate_left
      · intro w hSw
        (try dsimp only at hSw)
        go_simp
        try with_reducible rfl
      try simp only [List.getElem_toArray, List.getElem_cons_succ, List.getElem_cons_zero, Act.put, List.setIfInBounds_toArray, List.set_cons_zero, List.set_cons_succ]
      refine wpAnyH_take (i := 12) (v := ?_) rfl (by kernel_rfl) (by kernel_rfl) (by kernel_rfl) (fun _ _ _ h => h) (Or.inl ⟨by rfl, ?_⟩) (by assumption) ?_
      rotate_left
      · intro w hSw
        (try dsimp only at hSw)
        go_simp
        try with_reducible rfl
      try simp only [List.getElem_toArray, List.getElem_cons_succ, List.getElem_cons_zero, Act.put, List.setIfInBounds_toArray, List.set_cons_zero, List.set_cons_succ]
      refine wpAnyH_take (i := 13) (v := ?_) rfl (by kernel_rfl) (by kernel_rfl) (by kernel_rfl) (fun _ _ _ h => h) (Or.inl ⟨by rfl, ?_⟩) (by assumption) ?_
      rotate_left
      · intro w hSw
        (try dsimp only at hSw)
        go_simp
        try with_reducible rfl
      try simp only [List.getElem_toArray, List.getElem_cons_succ, List.getElem_cons_zero, Act.put, List.setIfInBounds_toArray, List.set_cons_zero, List.set_cons_succ]
      refine wpAnyH_take (i := 14) (v := ?_) rfl (by kernel_rfl) (by kernel_rfl) (by kernel_rfl) (fun _ _ _ h => h) (Or.inl ⟨by rfl, ?_⟩) (by assumption) ?_
      rotate_left
      · intro w hSw
        (try dsimp only at hSw)
        go_simp
        try with_reducible rfl
      try simp only [List.getElem_toArray, List.getElem_cons_succ, List.getElem_cons_zero, Act.put, List.setIfInBounds_toArray, List.set_cons_zero, List.set_cons_succ]
      refine wpAnyH_ready (rs := [15]) (by kernel_rfl) (by simp) ?_
      refine AllReadyH.cons rfl (fun K hK => ?_) AllReadyH.nil
      go_simp
      go_at_call 79
      rw [show ((a : Int) + (dw : Int) + (k : Int)) = ((a + dw + k : Nat) : Int) by omega]
      with_reducible refine (HCALL.out wr.drew (Below.refl _ _).drew).mono ?_
      rintro e w2 ⟨rfl, hk2, hor⟩
      have HKA := Lib.hid (ZP.out.trans ((KP.of_below (Below.refl _ wr).drew).trans hk2 (fun _ _ h => h)) HPW.out : KP P w w2)
      have HQ2 := Lib.hid (hk2.rowS (w := wr.drew) ZQ0.out (HNP7.out _ (.inl (by omega))))
      have HS2 : Hid (w.heap.size + 1 ≤ w2.heap.size) := Lib.hid (by have h1 := hk2.size; have h2 := row_lt ZQ0.out; have h3 : wr.drew.heap.size = wr.heap.size := rfl; omega)
      have v1 := kpS hk2 (w := wr.drew) n1 (HNP7.out w.heap.size (.inl (by omega)))
      have v2 := kpS hk2 (w := wr.drew) n2 (HNP7.out w.heap.size (.inl (by omega)))
      have x0 := kpS hk2 (w := wr.drew) d0 (HNP7.out _ (.inr HCB.out))
      have x1 := kpS hk2 (w := wr.drew) d1 (HNP7.out _ (.inr HCB.out))
      have x2 := kpS hk2 (w := wr.drew) d2 (HNP7.out _ (.inr HCB.out))
      have x3 := kpS hk2 (w := wr.drew) d3 (HNP7.out _ (.inr HCB.out))
      have x4 := kpS hk2 (w := wr.drew) d4 (HNP7.out _ (.inr HCB.out))
      have x5 := kpS hk2 (w := wr.drew) d5 (HNP7.out _ (.inr HCB.out))
      have HWK : Hid (∀ x, ((P x ∨ w.heap.size + 1 ≤ x) ∧ base ≤ x ∧ x < wr.heap.size) ∨ wr.drew.heap.size ≤ x → P x ∨ w.heap.size + 1 ≤ x) := Lib.hid (fun x hx => by
       rcases hx with hx | hx
       · exact hx.1
       · have h2 := row_lt ZQ0.out; have h3 : wr.drew.heap.size = wr.heap.size := rfl; exact .inr (by omega))
      have HZN : Hid (KP P w w2 ∧ w.heap.size + 1 ≤ w2.heap.size ∧ w2.heap[w.heap.size]? = some (.cells #[.int .i64 n.kind, .string n.data, .slice (some xx) n.ptrs.length qa, .int .i64 n.size, .int .i64 n.count, .slice qB n.items.length qb] nodeT (0, 0)) ∧
       ((bodyP (wrP LS size d) n ss i a = none ∧ ∃ s1, Sb w2 base b size s1 true (fun k => P k ∨ w.heap.size + 1 ≤ k)) ∨ ∃ s1, ptrsP (wrP LS size d) (n.ptrs.take (k + 1)) (putS ss i a n.data.data.toList) i (a + dw) = some s1 ∧ SOk LS s1 ∧ Grew (putS ss i a n.data.data.toList) s1 ∧ totS s1 ≤ totS ss + 2 * ((n.ptrs.take (k + 1)).map (wordsN d)).sum ∧ Sb w2 base b size s1 false (fun k => P k ∨ w.heap.size + 1 ≤ k))) := Lib.hid ⟨HKA.out, HS2.out, HQ2.out, by
       rcases hor with ⟨hnone, s2, hs2⟩ | ⟨s2, hsome, hs2⟩
       · exact .inl ⟨by rw [HE.out]; exact HCUT.out (by rw [HSTEP.out, ZR.out, Option.bind_some]; exact hnone), s2, hs2.weak HWK.out⟩
       · obtain ⟨k7a, k7b⟩ := HWO.out p s1 i (a + dw + k) s2 HOK.out ZK.out hii1 haa1 hsome
         have hto2 := HTO.out p s1 i (a + dw + k) s2 HOK.out ZK.out hii1 haa1 hsome
         have hz1 := ZT.out
         exact .inr ⟨s2, by rw [HSTEP.out, ZR.out, Option.bind_some]; exact hsome, k7a, ZG.out.trans k7b, by rw [HSN.out]; omega, hs2.weak HWK.out⟩⟩
      refine hK.out _ _ ?_ (fun hH2 => ?_)
      · exact ⟨⟨v1, v2⟩, x0, x1, x2, x3, x4, x5⟩
      clear hK K hH0 hk2 hor v1 v2 x0 x1 x2 x3 x4 x5 d0 d1 d2 d3 d4 d5 n0 n1 n2 n3 n4 n5 c0 c1 c2
      refine wpAnyH_done (by kernel_rfl) ?_ _
      clear hH2
      go_wp2_with fail
      go_roundw
      case rel => exact ⟨k + 1, by go_num, by omega, HZN⟩
      case measure => simp [intOf]; omega
    · obtain rfl : k = n.ptrs.length := by omega
      rw [List.take_of_length_le (Nat.le_refl _)] at ZR
      have HE9 : Hid (bodyP (wrP LS size d) n ss i a = some s1) := Lib.hid (by rw [HE.out]; exact ZR.out)
      have HBF := Lib.hid (ZB.out.weak (Q := fun k => P k ∨ w.heap.size ≤ k) (fun x hx => hx.imp id (fun h => by omega)))
      go_wp2
      go_end0
      exact ⟨rfl, ZP.out, .inr ⟨s1, HE9.out, HBF.out⟩⟩
end Go.Proofs.YtlbfffokkhccaaaGreatDoor
