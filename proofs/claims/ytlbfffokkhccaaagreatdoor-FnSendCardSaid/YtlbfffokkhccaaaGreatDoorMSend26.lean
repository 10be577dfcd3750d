/- Texts of the proof of the law FnSend, side by side: part 26. -/
import Derived.Test.YtlbfffokkhccaaaGreatDoorMSend25
set_option maxHeartbeats 8000000
set_option maxRecDepth 100000
namespace Go.Proofs.YtlbfffokkhccaaaGreatDoor
open Go.RowKit Go.Deep
theorem SWrQ.from {base b size : Nat} {P : Nat → Prop} {w W : World} {r : Option Segs} {e : Ending} {w' : World} (hb : Below w.heap.size w W) (h : SWrQ base b size P W r e w') : SWrQ base b size P w r e w' := by
 obtain ⟨h1, h2, h3⟩ := h
 have hs := hb.size
 have hq : ∀ k, P k ∨ W.heap.size ≤ k → P k ∨ w.heap.size ≤ k := fun k hk => hk.imp id (fun h => by omega)
 refine ⟨h1, (KP.of_below hb).trans h2 (fun _ _ h => h), ?_⟩
 rcases h3 with ⟨h3, s1, h4⟩ | ⟨s1, h3, h4⟩
 · exact .inl ⟨h3, s1, h4.weak hq⟩
 · exact .inr ⟨s1, h3, h4.weak hq⟩
theorem ptrsL_nil {n : Nd} (h : n.items = []) : ptrsL n = n.ptrs := by unfold ptrsL; rw [h]; simp
theorem sbody_struct (size d : Nat) (IH : SWrD size d) (base b : Nat) (ss : Segs) (P : Nat → Prop) (w : World) (i a m : Nat) (n : Nd) (h1 : Hd) (h : Sb w base b size ss false P) (hP0 : ∀ k, P k → base ≤ k ∧ k < w.heap.size) (hk : SOk LS ss) (hi : i < ss.length) (ha : a + ownN n ≤ wn (sgS ss i))
 (hn : NdAt w (fun k => k < base) m n h1) (hf : formN n = true) (ho : ∀ p ∈ ptrsL n, okN d p = true) (hm : totN m n ≤ 2000000) (hws : ((ptrsL n).map (wordsN d)).sum ≤ 300) (htt : totS ss + 2 * ((ptrsL n).map (wordsN d)).sum ≤ LS) (hk1 : n.kind = 1) :
 Calls Tryz.prog 128 #[.pointer (some ⟨b, 0, none⟩), .agg #[.int .i64 n.kind, .string n.data, .slice h1.A n.ptrs.length h1.a, .int .i64 n.size, .int .i64 n.count, .slice h1.B n.items.length h1.b], .int .i64 (i : Int), .int .i64 (a : Int)] w (SWrQ base b size P w (fillP (wrP LS size d) n ss i a)) := by
 have hmany : ¬ (n.kind = 2 ∧ n.size = 7) := by omega
 obtain ⟨qA, qa, qB, qb⟩ := h1
 dsimp only at hn ⊢
 have hwi := wn_le_totS ss i
 have hto := hk.totS
 obtain ⟨ho1, ho2⟩ := own_plain hf hmany
 have hpl := ptrsL_nil ho2
 rw [hpl] at ho hws htt
 have HE : Hid (fillP (wrP LS size d) n ss i a = bodyP (wrP LS size d) n ss i a) := Lib.hid (by unfold fillP; rw [if_neg hmany])
 have hb0 : Below w.heap.size w (w.alloc (.cells #[.int .i64 n.kind, .string n.data, .slice qA n.ptrs.length qa, .int .i64 n.size, .int .i64 n.count, .slice qB n.items.length qb] nodeT)) := (Below.refl _ w).alloc (Nat.le_refl _) _
 have HB0 := Lib.hid hb0
 have hP1 : ∀ k, P k → base ≤ k ∧ k < ((w.alloc (.cells #[.int .i64 n.kind, .string n.data, .slice qA n.ptrs.length qa, .int .i64 n.size, .int .i64 n.count, .slice qB n.items.length qb] nodeT))).heap.size := fun k hk => ⟨(hP0 k hk).1, Nat.lt_of_lt_of_le (hP0 k hk).2 hb0.size⟩
 have hbb : base ≤ w.heap.size := by have := h.base; omega
 have h8 : n.data.size % 8 = 0 := (form_cases hf).elim (fun h => by omega) (fun h => h.elim (fun h => by omega) (fun h => by omega))
 have HCALL := Lib.hid (inner_any size d IH base b ss P (w.alloc (.cells #[.int .i64 n.kind, .string n.data, .slice qA n.ptrs.length qa, .int .i64 n.size, .int .i64 n.count, .slice qB n.items.length qb] nodeT)) i a m n ⟨qA, qa, qB, qb⟩ (h.low hb0) hP1 hk hi (by omega) h8 (nd_baseS hn (hb0.mono hbb)) ho hm hws htt)
 dsimp only at HCALL
 have hkb : (n.kind == 1) = true := by rw [hk1]; rfl
 rw [HE.out]
 clear hn h hb0 hP0 hP1 ho hf hk ho2 hmany hk1 h8 hws htt hpl ho1 HE
 go_enter Tryz.func128, Tryz.ntmps128
 go_wp2_with fail
 refine HCALL.out.mono ?_
 rintro e w1 ⟨rfl, hk1, hor⟩
 have HQ := Lib.hid (SWrQ.from HB0.out ⟨rfl, hk1, hor⟩)
 clear hk1 hor
 go_wp2
 go_end0
 exact HQ.out
theorem sbody_bytes (size d : Nat) (IH : SWrD size d) (base b : Nat) (ss : Segs) (P : Nat → Prop) (w : World) (i a m : Nat) (n : Nd) (h1 : Hd) (h : Sb w base b size ss false P) (hP0 : ∀ k, P k → base ≤ k ∧ k < w.heap.size) (hk : SOk LS ss) (hi : i < ss.length) (ha : a + ownN n ≤ wn (sgS ss i))
 (hn : NdAt w (fun k => k < base) m n h1) (hf : formN n = true) (ho : ∀ p ∈ ptrsL n, okN d p = true) (hm : totN m n ≤ 2000000) (hws : ((ptrsL n).map (wordsN d)).sum ≤ 300) (htt : totS ss + 2 * ((ptrsL n).map (wordsN d)).sum ≤ LS) (hk1 : n.kind = 2) (hs5 : n.size ≤ 5) :
 Calls Tryz.prog 128 #[.pointer (some ⟨b, 0, none⟩), .agg #[.int .i64 n.kind, .string n.data, .slice h1.A n.ptrs.length h1.a, .int .i64 n.size, .int .i64 n.count, .slice h1.B n.items.length h1.b], .int .i64 (i : Int), .int .i64 (a : Int)] w (SWrQ base b size P w (fillP (wrP LS size d) n ss i a)) := by
 have hmany : ¬ (n.kind = 2 ∧ n.size = 7) := by omega
 obtain ⟨qA, qa, qB, qb⟩ := h1
 dsimp only at hn ⊢
 have hwi := wn_le_totS ss i
 have hto := hk.totS
 obtain ⟨ho1, ho2⟩ := own_plain hf hmany
 have hpl := ptrsL_nil ho2
 rw [hpl] at ho hws htt
 have HE : Hid (fillP (wrP LS size d) n ss i a = bodyP (wrP LS size d) n ss i a) := Lib.hid (by unfold fillP; rw [if_neg hmany])
 have hb0 : Below w.heap.size w (w.alloc (.cells #[.int .i64 n.kind, .string n.data, .slice qA n.ptrs.length qa, .int .i64 n.size, .int .i64 n.count, .slice qB n.items.length qb] nodeT)) := (Below.refl _ w).alloc (Nat.le_refl _) _
 have HB0 := Lib.hid hb0
 have hP1 : ∀ k, P k → base ≤ k ∧ k < ((w.alloc (.cells #[.int .i64 n.kind, .string n.data, .slice qA n.ptrs.length qa, .int .i64 n.size, .int .i64 n.count, .slice qB n.items.length qb] nodeT))).heap.size := fun k hk => ⟨(hP0 k hk).1, Nat.lt_of_lt_of_le (hP0 k hk).2 hb0.size⟩
 have hbb : base ≤ w.heap.size := by have := h.base; omega
 have hp0 : n.ptrs = [] := List.eq_nil_of_length_eq_zero ((form_cases hf).elim (fun h => by omega) (fun h => h.elim (fun h => by omega) (fun h => by rcases h.2.2 with h | h | h <;> omega)))
 have HR : Hid (fillP (wrP LS size d) n ss i a = some (putS ss i a n.data.data.toList)) := Lib.hid (by rw [HE.out]; unfold bodyP; rw [hp0]; rfl)
 have HFIT := Lib.hid (body_fits (n := n) hk.wds (i := i) (a := a) (by omega))
 have hl8 := wds_len hk.wds i
 unfold LS at hto
 have hdd : (⟨n.data.data.toList.toArray⟩ : ByteArray) = n.data := by simp
 have HPUT := Lib.hid (sput_any base b size ss P (w.alloc (.cells #[.int .i64 n.kind, .string n.data, .slice qA n.ptrs.length qa, .int .i64 n.size, .int .i64 n.count, .slice qB n.items.length qb] nodeT)) (h.low hb0) i a n.data.data.toList hi HFIT.out (by omega))
 rw [hdd] at HPUT
 have hkb : (n.kind == 1) = false := by rw [hk1]; rfl
 have hsb : (n.size == 6) = false := by simp; omega
 have hsc : (n.size == 7) = false := by simp; omega
 rw [HR.out]
 clear hn h hb0 hP0 hP1 ho hf hk ho2 hmany hk1 hws htt hpl ho1 HE HR hp0 hdd hs5
 go_enter Tryz.func128, Tryz.ntmps128
 go_wp2_with fail
 refine HPUT.out.mono ?_
 rintro e w1 ⟨rfl, hk1, hB1⟩
 have HQ : Hid (SWrQ base b size P w (some (putS ss i a n.data.data.toList)) (.returned (.tuple #[])) w1) := Lib.hid (SWrQ.from HB0.out ⟨rfl, hk1, .inr ⟨_, rfl, hB1.weak (fun _ h => .inl h)⟩⟩)
 clear hk1 hB1
 go_wp2
 go_end0
 exact HQ.out
theorem sbody_points (size d : Nat) (IH : SWrD size d) (base b : Nat) (ss : Segs) (P : Nat → Prop) (w : World) (i a m : Nat) (n : Nd) (h1 : Hd) (h : Sb w base b size ss false P) (hP0 : ∀ k, P k → base ≤ k ∧ k < w.heap.size) (hk : SOk LS ss) (hi : i < ss.length) (ha : a + ownN n ≤ wn (sgS ss i))
 (hn : NdAt w (fun k => k < base) m n h1) (hf : formN n = true) (ho : ∀ p ∈ ptrsL n, okN d p = true) (hm : totN m n ≤ 2000000) (hws : ((ptrsL n).map (wordsN d)).sum ≤ 300) (htt : totS ss + 2 * ((ptrsL n).map (wordsN d)).sum ≤ LS) (hk1 : n.kind = 2) (hs6 : n.size = 6) :
 Calls Tryz.prog 128 #[.pointer (some ⟨b, 0, none⟩), .agg #[.int .i64 n.kind, .string n.data, .slice h1.A n.ptrs.length h1.a, .int .i64 n.size, .int .i64 n.count, .slice h1.B n.items.length h1.b], .int .i64 (i : Int), .int .i64 (a : Int)] w (SWrQ base b size P w (fillP (wrP LS size d) n ss i a)) := by
 have hmany : ¬ (n.kind = 2 ∧ n.size = 7) := by omega
 obtain ⟨qA, qa, qB, qb⟩ := h1
 dsimp only at hn ⊢
 have hwi := wn_le_totS ss i
 have hto := hk.totS
 obtain ⟨ho1, ho2⟩ := own_plain hf hmany
 have hpl := ptrsL_nil ho2
 rw [hpl] at ho hws htt
 have HE : Hid (fillP (wrP LS size d) n ss i a = bodyP (wrP LS size d) n ss i a) := Lib.hid (by unfold fillP; rw [if_neg hmany])
 have hb0 : Below w.heap.size w (w.alloc (.cells #[.int .i64 n.kind, .string n.data, .slice qA n.ptrs.length qa, .int .i64 n.size, .int .i64 n.count, .slice qB n.items.length qb] nodeT)) := (Below.refl _ w).alloc (Nat.le_refl _) _
 have HB0 := Lib.hid hb0
 have hP1 : ∀ k, P k → base ≤ k ∧ k < ((w.alloc (.cells #[.int .i64 n.kind, .string n.data, .slice qA n.ptrs.length qa, .int .i64 n.size, .int .i64 n.count, .slice qB n.items.length qb] nodeT))).heap.size := fun k hk => ⟨(hP0 k hk).1, Nat.lt_of_lt_of_le (hP0 k hk).2 hb0.size⟩
 have hbb : base ≤ w.heap.size := by have := h.base; omega
 have hd0 : n.data.size = 0 := (form_cases hf).elim (fun h => by omega) (fun h => h.elim (fun h => by omega) (fun h => by rcases h.2.2 with h | h | h <;> omega))
 have hdl : n.data.data.toList = [] := List.eq_nil_of_length_eq_zero (by rw [data_toList]; exact hd0)
 unfold LS at hto htt
 have hbd : n.ptrs.length ≤ 1000 := by unfold ownB at ho1; omega
 have r0 : ((w.alloc (.cells #[.int .i64 n.kind, .string n.data, .slice qA n.ptrs.length qa, .int .i64 n.size, .int .i64 n.count, .slice qB n.items.length qb] nodeT))).heap[w.heap.size]? = some (.cells #[.int .i64 n.kind, .string n.data, .slice qA n.ptrs.length qa, .int .i64 n.size, .int .i64 n.count, .slice qB n.items.length qb] nodeT (0, 0)) := heap_alloc_new w _
 have hs0 : ((w.alloc (.cells #[.int .i64 n.kind, .string n.data, .slice qA n.ptrs.length qa, .int .i64 n.size, .int .i64 n.count, .slice qB n.items.length qb] nodeT))).heap.size = w.heap.size + 1 := by simp
 have HN := Lib.hid hn
 have HP0 := Lib.hid hP0
 have HO := Lib.hid ho
 have HEB : Hid (fillP (wrP LS size d) n ss i a = ptrsP (wrP LS size d) n.ptrs (ss) i (a)) := Lib.hid (by rw [HE.out]; unfold bodyP; rw [hdl, hd0, putS_nil]; rfl)
 have HDX : Hid (a + n.ptrs.length ≤ wn (sgS (ss) i)) := Lib.hid (by unfold ownB at ho1; omega)
 have HSS : Hid (SOk LS (ss)) := Lib.hid hk
 have HTS : Hid (totS (ss) = totS ss) := Lib.hid rfl
 have HWO : Hid (WrOk LS (wrP LS size d) (fun n => okN d n = true)) := Lib.hid (wr_some LS size d)
 have HTO : Hid (WrTot LS (wrP LS size d) (fun n => okN d n = true) (wordsN d)) := Lib.hid (wr_tot LS size d)
 have HK1 : Hid (KP P w (w.alloc (.cells #[.int .i64 n.kind, .string n.data, .slice qA n.ptrs.length qa, .int .i64 n.size, .int .i64 n.count, .slice qB n.items.length qb] nodeT))) := Lib.hid (KP.of_below hb0)
 have HB1 := Lib.hid (h.low hb0)
 have HQ0 := Lib.hid r0
 have HS1 : Hid (w.heap.size + 1 ≤ ((w.alloc (.cells #[.int .i64 n.kind, .string n.data, .slice qA n.ptrs.length qa, .int .i64 n.size, .int .i64 n.count, .slice qB n.items.length qb] nodeT))).heap.size) := Lib.hid (by omega)
 have hkb : (n.kind == 1) = false := by rw [hk1]; rfl
 have hsb : (n.size == 6) = true := by rw [hs6]; rfl
 have hii := hi
 clear hn h hb0 r0 hP0 hP1 ho hk hdl hd0 hk1 hs6 hpl ho2 hmany hf hs0 HE
 go_enter Tryz.func128, Tryz.ntmps128
 go_wp2_with fail
 go_loopw [8] (fun c wr => ∃ k : Nat, c = .int .i64 k ∧ k ≤ n.ptrs.length ∧ Hid (KP P w wr ∧ w.heap.size + 1 ≤ wr.heap.size ∧ wr.heap[w.heap.size]? = some (.cells #[.int .i64 n.kind, .string n.data, .slice qA n.ptrs.length qa, .int .i64 n.size, .int .i64 n.count, .slice qB n.items.length qb] nodeT (0, 0)) ∧
  ((fillP (wrP LS size d) n ss i a = none ∧ ∃ s1, Sb wr base b size s1 true (fun k => P k ∨ w.heap.size + 1 ≤ k)) ∨ ∃ s1, ptrsP (wrP LS size d) (n.ptrs.take k) (ss) i a = some s1 ∧ SOk LS s1 ∧ Grew (ss) s1 ∧ totS s1 ≤ totS ss + 2 * ((n.ptrs.take k).map (wordsN d)).sum ∧ Sb wr base b size s1 false (fun k => P k ∨ w.heap.size + 1 ≤ k)))) (fun c _ => n.ptrs.length - (intOf c).toNat)
 case atStart => exact ⟨0, rfl, by omega, Lib.hid ⟨HK1.out, HS1.out, HQ0.out, .inr ⟨_, rfl, HSS.out, Grew.refl _, Nat.le_add_right _ _, HB1.out.weak (fun _ h => .inl h)⟩⟩⟩
 case round =>
  obtain ⟨k, rfl, hkk, HZ⟩ := hrel
  obtain ⟨zp, zs, zq0, zor⟩ := HZ.out
  have ZP := Lib.hid zp
  have ZQ0 := Lib.hid zq0
  obtain ⟨n0, n1, n2, n3, n4, n5⟩ := cells6 zq0
  clear zp zq0 HZ
  rcases zor with ⟨zn, s1, zb⟩ | ⟨s1, zr, zk, zg, zt, zb⟩
  · have ZN := Lib.hid zn
    have ZB := Lib.hid zb
    obtain ⟨v, hbv, -⟩ := zb
    obtain ⟨c0, c1, c2⟩ := cells3 hbv
    have ZBW := Lib.hid (ZB.out.weak (Q := fun k => P k ∨ w.heap.size ≤ k) (fun x hx => hx.imp id (fun h => by omega)))
    clear zn hbv
    by_cases hlt3 : k < n.ptrs.length
    all_goals
     go_wp2
     go_end0
     exact ⟨rfl, ZP.out, .inl ⟨ZN.out, s1, ZBW.out⟩⟩
  · have ZR := Lib.hid zr
    have ZK := Lib.hid zk
    have ZG := Lib.hid zg
    have ZT := Lib.hid zt
    have ZB := Lib.hid zb
    obtain ⟨v, hbv, -⟩ := zb
    obtain ⟨c0, c1, c2⟩ := cells3 hbv
    clear zr zk zg zt hbv
    by_cases hlt3 : k < n.ptrs.length
    · obtain ⟨m', rfl⟩ := HN.out.2.1.pred hlt3
      obtain ⟨xx, hdp, hqa, hc, hp⟩ := (HN.out.2.1).at_ hlt3
      obtain rfl : qA = some xx := hqa
      have hbw := ZP.out.below hbb (fun k hp => (HP0.out k hp).1)
      have hcb : (xx.add (k * 6)).block < base := by
       obtain ⟨_, q, hq, hcq, _⟩ := HN.out.2.1
       rcases hcq with h | ⟨x2, e2, hs2, _⟩
       · rw [h] at hq; rw [← hq] at hlt3; cases hlt3
       · injection e2 with e2; rw [addr_block, e2]; exact hs2
      obtain ⟨d0, d1, d2, d3, d4, d5⟩ := hc.block (hbw.block _ hcb)
      have hmem := List.getElem_mem hlt3
      have HOK := Lib.hid (HO.out _ hmem)
      have HTP : Hid (totN m' n.ptrs[k] ≤ 2000000) := Lib.hid (by have := totL_at (m := m') hlt3; unfold totN at hm; omega)
      have HWP : Hid (wordsN d n.ptrs[k] ≤ 300) := Lib.hid (Nat.le_trans (mem_le_sumS (List.mem_map_of_mem hmem)) hws)
      have HWT : Hid (totS s1 + 2 * wordsN d n.ptrs[k] ≤ LS) := Lib.hid (by have h1 := ZT.out; have h2 := take_sum_le n.ptrs (wordsN d) k hlt3; unfold LS; omega)
      have HSN := Lib.hid (sum_take_succ n.ptrs (wordsN d) k hlt3)
      have HSTEP := Lib.hid (ptrsP_take (wrP LS size d) n.ptrs k hlt3 (ss) i a)
      have HCUT := Lib.hid (ptrsP_cut (wrP LS size d) n.ptrs (k + 1) (ss) i a)
      have HNP := Lib.hid hp
      generalize n.ptrs[k] = p at *
      have HCB := Lib.hid hcb
      have HND := Lib.hid (nd_baseS HNP.out hbw)
      have hw3 : IntKind.i64.wrap ((a : Int) + (k : Int)) = ((a + k : Nat) : Int) := by rw [IntKind.wrap_i64]; have := HDX.out; have := wn_le_totS ss i; omega
      have hii1 : i < s1.length := Nat.lt_of_lt_of_le hii ZG.out.1
      have haa1 : a + k < wn (sgS s1 i) := by have h1 := ZG.out.wn i; have h2 := HDX.out; omega
      have HCALL := Lib.hid (fun (V : World) (hV : Below wr.heap.size wr V) => IH base b s1 _ V i (a + k) m' p hdp (ZB.out.tight.low hV) (fun x hx => ⟨hx.2.1, Nat.lt_of_lt_of_le hx.2.2 hV.size⟩) ZK.out hii1 haa1 (nd_baseS HND.out (hV.mono (by omega))) HOK.out HTP.out HWP.out HWT.out)
      have HNP7 : Hid (∀ x, (w.heap.size ≤ x ∧ x < w.heap.size + 1) ∨ x < base → ¬ ((P x ∨ w.heap.size + 1 ≤ x) ∧ base ≤ x ∧ x < wr.heap.size)) := Lib.hid (fun x hx hp => by
       rcases hx with hx | hx
       · rcases hp.1 with h | h
         · have := HP0.out x h; omega
         · omega
       · omega)
      have HPW : Hid (∀ x, x < w.heap.size → ((P x ∨ w.heap.size + 1 ≤ x) ∧ base ≤ x ∧ x < wr.heap.size) → P x) := Lib.hid (fun x hx hp => by
       rcases hp.1 with h | h
       · exact h
       · omega)
      have hki : (k : Int) < (n.ptrs.length : Int) := by omega
      clear hc hp hmem hcb hbw
      go_wp2_with fail
      (try rw [show ((a : Int) + (k : Int)) = ((a + k : Nat) : Int) by omega])
      with_reducible refine (HCALL.out wr (Below.refl _ _)).mono ?_
      rintro e w2 ⟨rfl, hk2, hor⟩
      have HKA := Lib.hid (ZP.out.trans hk2 HPW.out : KP P w w2)
      have HQ2 := Lib.hid (hk2.rowS ZQ0.out (HNP7.out _ (.inl (by omega))))
      have HS2 : Hid (w.heap.size + 1 ≤ w2.heap.size) := Lib.hid (by have h1 := hk2.size; have h2 := row_lt ZQ0.out; omega)
      have HWK : Hid (∀ x, ((P x ∨ w.heap.size + 1 ≤ x) ∧ base ≤ x ∧ x < wr.heap.size) ∨ wr.heap.size ≤ x → P x ∨ w.heap.size + 1 ≤ x) := Lib.hid (fun x hx => by
       rcases hx with hx | hx
       · exact hx.1
       · have h2 := row_lt ZQ0.out; exact .inr (by omega))
      have HZN : Hid (KP P w w2 ∧ w.heap.size + 1 ≤ w2.heap.size ∧ w2.heap[w.heap.size]? = some (.cells #[.int .i64 n.kind, .string n.data, .slice (some xx) n.ptrs.length qa, .int .i64 n.size, .int .i64 n.count, .slice qB n.items.length qb] nodeT (0, 0)) ∧
       ((fillP (wrP LS size d) n ss i a = none ∧ ∃ s1, Sb w2 base b size s1 true (fun k => P k ∨ w.heap.size + 1 ≤ k)) ∨ ∃ s1, ptrsP (wrP LS size d) (n.ptrs.take (k + 1)) (ss) i a = some s1 ∧ SOk LS s1 ∧ Grew (ss) s1 ∧ totS s1 ≤ totS ss + 2 * ((n.ptrs.take (k + 1)).map (wordsN d)).sum ∧ Sb w2 base b size s1 false (fun k => P k ∨ w.heap.size + 1 ≤ k))) := Lib.hid ⟨HKA.out, HS2.out, HQ2.out, by
       rcases hor with ⟨hnone, s2, hs2⟩ | ⟨s2, hsome, hs2⟩
       · exact .inl ⟨by rw [HEB.out]; exact HCUT.out (by rw [HSTEP.out, ZR.out, Option.bind_some]; exact hnone), s2, hs2.weak HWK.out⟩
       · obtain ⟨k7a, k7b⟩ := HWO.out p s1 i (a + k) s2 HOK.out ZK.out hii1 haa1 hsome
         have hto2 := HTO.out p s1 i (a + k) s2 HOK.out ZK.out hii1 haa1 hsome
         have hz1 := ZT.out
         exact .inr ⟨s2, by rw [HSTEP.out, ZR.out, Option.bind_some]; exact hsome, k7a, ZG.out.trans k7b, by rw [HSN.out]; omega, hs2.weak HWK.out⟩⟩
      clear hk2 hor d0 d1 d2 d3 d4 d5 n0 n1 n2 n3 n4 n5 c0 c1 c2
      go_wp2_with fail
      go_roundw
      case rel => exact ⟨k + 1, by go_num, by omega, HZN⟩
      case measure => simp [intOf]; omega
    · obtain rfl : k = n.ptrs.length := by omega
      rw [List.take_of_length_le (Nat.le_refl _)] at ZR
      have HE9 : Hid (fillP (wrP LS size d) n ss i a = some s1) := Lib.hid (by rw [HEB.out]; exact ZR.out)
      have HBF := Lib.hid (ZB.out.weak (Q := fun k => P k ∨ w.heap.size ≤ k) (fun x hx => hx.imp id (fun h => by omega)))
      go_wp2
      go_end0
      exact ⟨rfl, ZP.out, .inr ⟨s1, HE9.out, HBF.out⟩⟩
end Go.Proofs.YtlbfffokkhccaaaGreatDoor
