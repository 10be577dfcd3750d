/- Texts of the proof of the law FnSend, side by side: part 31. -/
import Derived.Test.YtlbfffokkhccaaaGreatDoorMSend30
set_option maxHeartbeats 8000000
set_option maxRecDepth 100000
namespace Go.Proofs.YtlbfffokkhccaaaGreatDoor
open Go.RowKit Go.Deep
theorem mem_le_sum {x : Nat} : ∀ {l : List Nat}, x ∈ l → x ≤ l.sum
 | [], h => by cases h
 | y :: t, h => by
   rw [List.sum_cons]
   rcases List.mem_cons.1 h with rfl | h
   · omega
   · have := mem_le_sum h; omega
def WrQ (base b size : Nat) (P : Nat → Prop) (w : World) (r : Option Segs) (e : Ending) (w' : World) : Prop :=
 (r = none ∧ Too P w e w') ∨ ∃ s1, r = some s1 ∧ e = .returned (.tuple #[]) ∧ KP P w w' ∧ Bun w' base b size s1 (fun k => P k ∨ w.heap.size ≤ k)
def WrD (size d : Nat) : Prop := ∀ (base b : Nat) (ss : Segs) (P : Nat → Prop) (w : World) (i a m : Nat) (n : Nd) (h1 : Hd), Bun w base b size ss P → (∀ k, P k → base ≤ k ∧ k < w.heap.size) → SOk 200 ss → i < ss.length → a < wn (sgS ss i) →
 NdAt w (fun k => k < base) m n h1 → okN d n = true → totN m n ≤ 2000000 → wordsN d n ≤ 300 →
 Calls Tryz.prog 34 #[.pointer (some ⟨b, 0, none⟩), .agg #[.int .i64 n.kind, .string n.data, .slice h1.A n.ptrs.length h1.a, .int .i64 n.size, .int .i64 n.count, .slice h1.B n.items.length h1.b], .agg #[.int .i64 (i : Int), .int .i64 (a : Int)]] w (WrQ base b size P w (wrP 200 size d n ss i a))
theorem body_any (size d : Nat) (IH : WrD size d) (base b : Nat) (ss : Segs) (P : Nat → Prop) (w : World) (i a m : Nat) (n : Nd) (h1 : Hd) (h : Bun w base b size ss P) (hP0 : ∀ k, P k → base ≤ k ∧ k < w.heap.size) (hk : SOk 200 ss) (hi : i < ss.length) (ha : a + ownB n ≤ wn (sgS ss i)) (hw1 : 1 ≤ wn (sgS ss i))
 (hn : NdAt w (fun k => k < base) m n h1) (ho : ∀ p ∈ n.ptrs, okN d p = true) (hm : totN m n ≤ 2000000) (hws : (n.ptrs.map (wordsN d)).sum ≤ 300) :
 Calls Tryz.prog 117 #[.pointer (some ⟨b, 0, none⟩), .agg #[.int .i64 n.kind, .string n.data, .slice h1.A n.ptrs.length h1.a, .int .i64 n.size, .int .i64 n.count, .slice h1.B n.items.length h1.b], .agg #[.int .i64 (i : Int), .int .i64 (a : Int)]] w (WrQ base b size P w (bodyP (wrP 200 size d) n ss i a)) := by
 obtain ⟨qA, qa, qB, qb⟩ := h1
 dsimp only at hn ⊢
 have hwi := wn_le_totS ss i
 have hto := hk.totS
 have hbd : (n.data.size + 7) / 8 + n.ptrs.length ≤ 200 := by unfold ownB at ha; omega
 have hb0 : Below w.heap.size w ((w.alloc (.cells #[.int .i64 n.kind, .string n.data, .slice qA n.ptrs.length qa, .int .i64 n.size, .int .i64 n.count, .slice qB n.items.length qb] nodeT)).alloc (.cells #[.int .i64 (i : Int), .int .i64 (a : Int)] plT)) := ((Below.refl _ w).alloc (Nat.le_refl _) _).alloc (by simp) _
 have r0 : ((w.alloc (.cells #[.int .i64 n.kind, .string n.data, .slice qA n.ptrs.length qa, .int .i64 n.size, .int .i64 n.count, .slice qB n.items.length qb] nodeT)).alloc (.cells #[.int .i64 (i : Int), .int .i64 (a : Int)] plT)).heap[w.heap.size]? = some (.cells #[.int .i64 n.kind, .string n.data, .slice qA n.ptrs.length qa, .int .i64 n.size, .int .i64 n.count, .slice qB n.items.length qb] nodeT (0, 0)) := heap_alloc_keep (heap_alloc_new w _) _
 have r1 : ((w.alloc (.cells #[.int .i64 n.kind, .string n.data, .slice qA n.ptrs.length qa, .int .i64 n.size, .int .i64 n.count, .slice qB n.items.length qb] nodeT)).alloc (.cells #[.int .i64 (i : Int), .int .i64 (a : Int)] plT)).heap[w.heap.size + 1]? = some (.cells #[.int .i64 (i : Int), .int .i64 (a : Int)] plT (0, 0)) := by
  have := heap_alloc_new (w.alloc (.cells #[.int .i64 n.kind, .string n.data, .slice qA n.ptrs.length qa, .int .i64 n.size, .int .i64 n.count, .slice qB n.items.length qb] nodeT)) (.cells #[.int .i64 (i : Int), .int .i64 (a : Int)] plT)
  simpa using this
 have hs0 : ((w.alloc (.cells #[.int .i64 n.kind, .string n.data, .slice qA n.ptrs.length qa, .int .i64 n.size, .int .i64 n.count, .slice qB n.items.length qb] nodeT)).alloc (.cells #[.int .i64 (i : Int), .int .i64 (a : Int)] plT)).heap.size = w.heap.size + 2 := by simp
 obtain ⟨row, g, v, hB, hP⟩ := h
 obtain ⟨x, cp, cur, hv, hx1, hx2, hx3, hx4, hx5, hx6⟩ := own_cases (hB.ho i hi) (by omega)
 obtain ⟨r, cap, hrow, hcr⟩ := (hB.keep (fun k hk => hb0.block k (hB.lt k hk).2)).row hi
 obtain ⟨c0, c1, c2⟩ := cells3 (hB.keep (fun k hk => hb0.block k (hB.lt k hk).2)).hb
 obtain ⟨A, cp', hv', hcg, hfg⟩ := (hB.keep (fun k hk => hb0.block k (hB.lt k hk).2)).seg hi
 have hcri := hcr i hi
 have hgi := row_lt (hB.hg i hi)
 rw [hv] at hcg
 rw [hrow] at c0
 have hlt : (i : Int) < (ss.length : Int) := by omega
 have HB := Lib.hid hB
 have HP := Lib.hid hP
 have HV := Lib.hid hv
 have HN := Lib.hid hn
 have HB0 := Lib.hid hb0
 have R0 := Lib.hid r0
 have R1 := Lib.hid r1
 have HP0 := Lib.hid hP0
 have HS0 := Lib.hid hs0
 have HX := Lib.hid (And.intro hx2 (And.intro hx3 hx5))
 have HO := Lib.hid ho
 obtain ⟨n0, n1, n2, n3, n4, n5⟩ := cells6 r0
 obtain ⟨t0, t1⟩ := cell_pair r1
 have hle : (a : Int) ≤ (wn (sgS ss i) : Int) := by unfold ownB at ha; omega
 have hcpc : (wn (sgS ss i) : Int) ≤ (cp : Int) := by omega
 clear hn hb0 r0 r1 hP0 hs0 hB hP hv hv' hrow hcr hx1 hx2 hx3 hx4 hx5 hx6 hfg ho
 obtain ⟨gi, hgie⟩ : ∃ gi, g i = gi := ⟨_, rfl⟩
 rw [hgie] at hcri hcg hgi
 have HGI := Lib.hid hgie
 clear hgie
 have HSZ : Hid (n.data.size = 0 ∨ ¬ cp = a) := Lib.hid (by unfold ownB at ha; omega)
 have HFIT := Lib.hid (body_fits hk.wds ha)
 have hs8 := wds_len hk.wds i
 by_cases hz : cp = a
 all_goals
  go_enter Tryz.func117, Tryz.ntmps117
  go_wp2_with fail
  generalize (w.alloc (.cells #[.int .i64 n.kind, .string n.data, .slice qA n.ptrs.length qa, .int .i64 n.size, .int .i64 n.count, .slice qB n.items.length qb] nodeT)).alloc (.cells #[.int .i64 (i : Int), .int .i64 (a : Int)] plT) = W0 at *
  go_quiet (fail)
  go_wp2_with fail
  have hW1 : Below w.heap.size w (W0.drewN nq) := ⟨HB0.out.os, HB0.out.tape, HB0.out.output, HB0.out.size, HB0.out.block⟩
  have HW1 := Lib.hid hW1
  have S0 : Hid ((W0.drewN nq).heap[w.heap.size]? = some (.cells #[.int .i64 n.kind, .string n.data, .slice qA n.ptrs.length qa, .int .i64 n.size, .int .i64 n.count, .slice qB n.items.length qb] nodeT (0, 0))) := Lib.hid R0.out
  have S1 : Hid ((W0.drewN nq).heap[w.heap.size + 1]? = some (.cells #[.int .i64 (i : Int), .int .i64 (a : Int)] plT (0, 0))) := Lib.hid R1.out
  have HS1 : Hid ((W0.drewN nq).heap.size = w.heap.size + 2) := Lib.hid HS0.out
  clear hW1 n0 n1 n2 n3 n4 n5 t0 t1 c0 c1 c2 hcri hcg HB0 R0 R1 HS0
  generalize W0.drewN nq = W1 at *
  go_loopw [28] (fun c wr => ∃ k : Nat, c = .int .i64 k ∧ k ≤ n.data.size ∧ Hid (KP P W1 wr ∧ Bu wr base b size (totS ss) (putS ss i a (n.data.data.toList.take k)) row g v)) (fun c _ => n.data.size - (intOf c).toNat)
  case atStart => exact ⟨0, rfl, by omega, Lib.hid ⟨KP.refl _ _, by rw [List.take_zero, putS_nil]; exact HB.out.keep (fun k hk => HW1.out.block k (HB.out.lt k hk).2)⟩⟩
  case round =>
   obtain ⟨k, rfl, hkk, HR⟩ := hrel
   have hr0 := HR.out.1.row S0.out (fun hp => by have := HP0.out _ hp; omega)
   obtain ⟨m0, m1, m2, m3, m4, m5⟩ := cells6 hr0
   by_cases hlt2 : k < n.data.size
   · rcases HSZ.out with hz0 | hz0
     · omega
     · try exact absurd hz hz0
       all_goals
        obtain ⟨q, t, hqt, ht8⟩ : ∃ q t : Nat, k = 8 * q + t ∧ t < 8 := ⟨k / 8, k % 8, by omega, by omega⟩
        have hq1 : (k : Int) / 8 = (q : Int) := by omega
        have hq2 : (k : Int).tdiv 8 = (q : Int) := by rw [Int.tdiv_eq_ediv_of_nonneg (by omega)]; omega
        have hq3 : (k : Int).tmod 8 = (t : Int) := by rw [Int.tmod_eq_emod_of_nonneg (by omega)]; omega
        have hqb : (q : Int) < ((wn (sgS ss i) - a : Nat) : Int) := by
         have := HFIT.out
         rw [data_toList] at this
         omega
        have hq8 : (t : Int) < 8 := by omega
        have hx : ∃ cu, wr.heap[x]? = some (.cells cu wdT (0, 0)) ∧ a * 8 + q * 8 + t < cu.size := by
         have h1 := HR.out.2.ho i (by rw [putS_length]; exact hi)
         rw [HV.out] at h1
         obtain ⟨x', cp', cu, e1, e2, e3, e4, e5, e6, e7⟩ := own_cases h1 (by rw [← (put_alen hi (by have := HFIT.out; rw [List.length_take]; omega)).wn]; omega)
         injection e1 with e1
         injection e1 with e1
         injection e1 with e1
         subst e1
         refine ⟨cu, e3, ?_⟩
         have h2 : (cu.toList.take (wn (sgS (putS ss i a (List.take k n.data.data.toList)) i) * 8)).length ≤ cu.size := by rw [List.length_take]; simp; omega
         have h3 := HFIT.out
         rw [data_toList] at h3
         have h4 : wn (sgS (putS ss i a (List.take k n.data.data.toList)) i) = wn (sgS ss i) := (put_alen hi (by have := HFIT.out; rw [List.length_take]; omega)).wn i |>.symm
         rw [h4] at e4
         omega
        obtain ⟨cu, hx1, hx2⟩ := hx
        have hxc : wr.cell? ⟨x, a * 8 + q * 8 + t, none⟩ = some (cu[a * 8 + q * 8 + t]'hx2) := by rw [cell_of_row _ _ _ _ _ _ hx1, Array.getElem?_eq_getElem hx2]
        have hxf := row_free hx1 (a * 8 + q * 8 + t)
        have HX1 := Lib.hid hx1
        have HQT := Lib.hid hqt
        generalize cu[a * 8 + q * 8 + t]'hx2 = u at hxc
        clear hx1 hx2 hr0 hqt
        have hkl : k < n.data.data.toList.length := by rw [data_toList]; exact hlt2
        have hbu := HR.out.2.putAt (by rw [putS_length]; exact hi) (o := 8 * a + k) (t := [n.data.data.toList[k]'hkl]) (by
         have h3 := HFIT.out
         have h4 : (sgS ss i).length = (sgS (putS ss i a (List.take k n.data.data.toList)) i).length := (put_alen hi (by rw [List.length_take]; omega)).2 i
         rw [← h4, List.length_singleton]
         omega) x _ _ HV.out
        rw [putS_step ss i a k _ hi hkl HFIT.out] at hbu
        have hval : Lib.byteCells [n.data.data.toList[k]'hkl] = [.int .u8 (n.data[k].toNat : Int)] := rfl
        rw [hval, show 8 * a + k = a * 8 + q * 8 + t by have := HQT.out; omega] at hbu
        have HNX : Hid (∀ W : World, W = wr.setCell ⟨x, a * 8 + q * 8 + t, none⟩ (.int .u8 (n.data[k].toNat : Int)) → Hid (KP P W1 W.drew ∧ Bu W.drew base b size (totS ss) (putS ss i a (n.data.data.toList.take (k + 1))) row g v)) := Lib.hid (fun W hW => by
         subst hW
         refine Lib.hid ⟨?_, hbu.keep (fun _ _ => rfl)⟩
         have k1 := HR.out.1.trans (KP.set (HP.out x (.inr (.inr ⟨i, hi, .inr (by rw [HV.out]; rfl)⟩))) wr (a * 8 + q * 8 + t) (.int .u8 (n.data[k].toNat : Int))) (fun _ _ h => h)
         exact ⟨k1.os, k1.tape, k1.output, k1.size, k1.block⟩)
        clear hbu hval
        go_wp2_with fail
        go_region
        have HN2 := HNX.out _ rfl
        clear hxc hxf hq1 hq2 hq3 hqb hq8
        go_wp2_with fail
        go_roundw
        case rel => exact ⟨k + 1, by go_num, by omega, HN2⟩
        case measure => simp [intOf]; omega
   · obtain rfl : k = n.data.size := by omega
     have hfull : n.data.data.toList.take n.data.size = n.data.data.toList := List.take_of_length_le (by rw [data_toList]; exact Nat.le_refl _)
     rw [hfull] at HR
     clear hfull
     have HBUN : Hid (Bun wr base b size (putS ss i a n.data.data.toList) P) := Lib.hid ⟨row, g, v, by rw [put_totS hi HFIT.out]; exact HR.out.2, fun k hk => HP.out k (by rwa [putS_length] at hk)⟩
     have HKP : Hid (KP P w wr) := Lib.hid ((KP.of_below HW1.out).trans HR.out.1 (fun _ _ h => h))
     have HSS : Hid (SOk 200 (putS ss i a n.data.data.toList)) := Lib.hid (hk.put hi HFIT.out)
     have HQ0 := Lib.hid hr0
     have HQ1 := Lib.hid (HR.out.1.row S1.out (fun hp => by have := HP0.out _ hp; omega))
     have HSW : Hid (w.heap.size + 2 ≤ wr.heap.size) := Lib.hid (by have := HR.out.1.size; have := HS1.out; omega)
     clear hr0
     have HWF : Hid (wfI 2 (n.data.size : Int) = (((n.data.size + 7) / 8 : Nat) : Int)) := Lib.hid (by unfold wfI bitsOf; simp; omega)
     obtain ⟨dw, hdw⟩ : ∃ dw, (n.data.size + 7) / 8 = dw := ⟨_, rfl⟩
     rw [hdw] at HWF hbd
     have HE : Hid (bodyP (wrP 200 size d) n ss i a = ptrsP (wrP 200 size d) n.ptrs (putS ss i a n.data.data.toList) i (a + dw)) := Lib.hid (by unfold bodyP; rw [hdw])
     have HDW := Lib.hid hdw
     clear hdw
     have hdl : n.data.size ≤ 2000 := by have := HDW.out; omega
     go_wp2_with fail
     refine (wordsFor_any 2 (n.data.size : Int) wr (by omega) (by omega) (by omega) (by omega)).mono ?_
     rintro e w5 ⟨rfl, rfl⟩
     rw [HWF.out]
     obtain ⟨z0, z1, z2, z3, z4, z5⟩ := cells6 HQ0.out
     go_wp2_with fail
     have HDX : Hid (a + dw + n.ptrs.length ≤ wn (sgS (putS ss i a n.data.data.toList) i)) := Lib.hid (by rw [← (put_alen hi HFIT.out).wn]; have := HDW.out; unfold ownB at ha; omega)
     have hii : i < (putS ss i a n.data.data.toList).length := by rw [putS_length]; exact hi
     have hpl : n.ptrs.length ≤ 200 := by omega
     have hbb : base ≤ w.heap.size := by have := HB.out.lt b (.inl rfl); omega
     clear z0 z1 z2 z3 z4 z5 m0 m1 m2 m3 m4 m5 hlt2 HR hkk HX HFIT HSZ HS1 hs8
     go_loopw [50] (fun c wr => ∃ k : Nat, c = .int .i64 k ∧ k ≤ n.ptrs.length ∧ Hid (∃ s1, ptrsP (wrP 200 size d) (n.ptrs.take k) (putS ss i a n.data.data.toList) i (a + dw) = some s1 ∧ SOk 200 s1 ∧ Grew (putS ss i a n.data.data.toList) s1 ∧ KP P w wr ∧ Bun wr base b size s1 (fun k => P k ∨ w.heap.size + 2 ≤ k) ∧ w.heap.size + 2 ≤ wr.heap.size ∧ wr.heap[w.heap.size]? = some (.cells #[.int .i64 n.kind, .string n.data, .slice qA n.ptrs.length qa, .int .i64 n.size, .int .i64 n.count, .slice qB n.items.length qb] nodeT (0, 0)) ∧ wr.heap[w.heap.size + 1]? = some (.cells #[.int .i64 (i : Int), .int .i64 (a : Int)] plT (0, 0)))) (fun c _ => n.ptrs.length - (intOf c).toNat)
     case atStart => exact ⟨0, rfl, by omega, Lib.hid ⟨_, rfl, HSS.out, Grew.refl _, HKP.out, HBUN.out.weak (fun _ h => .inl h), HSW.out, HQ0.out, HQ1.out⟩⟩
     case round =>
      rename_i wst _ _
      obtain ⟨k, rfl, hkk, HZ⟩ := hrel
      obtain ⟨s1, zr, zk, zg, zp, zb, zs, zq0, zq1⟩ := HZ.out
      have ZR := Lib.hid zr
      have ZK := Lib.hid zk
      have ZG := Lib.hid zg
      have ZP := Lib.hid zp
      have ZB := Lib.hid zb
      have ZQ0 := Lib.hid zq0
      have ZQ1 := Lib.hid zq1
      clear zr zk zg zp zb HZ
      by_cases hlt3 : k < n.ptrs.length
      · obtain ⟨m', rfl⟩ := HN.out.2.1.pred hlt3
        obtain ⟨xx, hdp, hqa, hc, hp⟩ := (HN.out.2.1).at_ hlt3
        obtain rfl : qA = some xx := hqa
        have hbw := ZP.out.below hbb (fun k hp => (HP0.out k hp).1)
        have hcb : (xx.add (k * 6)).block < base := by
         obtain ⟨_, q, hq, hcq, _⟩ := HN.out.2.1
         rcases hcq with h | ⟨x2, e2, hs2, _⟩
         · rw [h] at hq; rw [← hq] at hlt3; cases hlt3
         · injection e2 with e2; rw [addr_block, e2]; exact hs2
        obtain ⟨d0, d1, d2, d3, d4, d5⟩ := hc.block (hbw.block _ hcb)
        have hmem := List.getElem_mem hlt3
        have HOK := Lib.hid (HO.out _ hmem)
        have HTP : Hid (totN m' n.ptrs[k] ≤ 2000000) := Lib.hid (by have := totL_at (m := m') hlt3; unfold totN at hm; omega)
        have HWP : Hid (wordsN d n.ptrs[k] ≤ 300) := Lib.hid (Nat.le_trans (mem_le_sum (List.mem_map_of_mem hmem)) hws)
        have HSTEP := Lib.hid (ptrsP_take (wrP 200 size d) n.ptrs k hlt3 (putS ss i a n.data.data.toList) i (a + dw))
        have HCUT := Lib.hid (ptrsP_cut (wrP 200 size d) n.ptrs (k + 1) (putS ss i a n.data.data.toList) i (a + dw))
        have HNP := Lib.hid hp
        generalize n.ptrs[k] = p at *
        have hbx : Below wr.heap.size wr (wr.alloc (.cells #[.int .i64 p.kind, .string p.data, .slice hdp.A p.ptrs.length hdp.a, .int .i64 p.size, .int .i64 p.count, .slice hdp.B p.items.length hdp.b] nodeT)).drew := ((Below.refl _ _).alloc (Nat.le_refl _) _).drew
        have g0 := heap_alloc_new wr (.cells #[.int .i64 p.kind, .string p.data, .slice hdp.A p.ptrs.length hdp.a, .int .i64 p.size, .int .i64 p.count, .slice hdp.B p.items.length hdp.b] nodeT)
        obtain ⟨n0, n1, n2, n3, n4, n5⟩ := cells6 g0
        obtain ⟨t0, t1⟩ := cell_pair ((hbx.block _ (row_lt zq1)).trans zq1)
        replace n0 : (wr.alloc (.cells #[.int .i64 p.kind, .string p.data, .slice hdp.A p.ptrs.length hdp.a, .int .i64 p.size, .int .i64 p.count, .slice hdp.B p.items.length hdp.b] nodeT)).drew.cell? ⟨wr.heap.size, 0, none⟩ = some (.int .i64 p.kind) := n0
        replace n1 : (wr.alloc (.cells #[.int .i64 p.kind, .string p.data, .slice hdp.A p.ptrs.length hdp.a, .int .i64 p.size, .int .i64 p.count, .slice hdp.B p.items.length hdp.b] nodeT)).drew.cell? ⟨wr.heap.size, 1, none⟩ = some (.string p.data) := n1
        replace n2 : (wr.alloc (.cells #[.int .i64 p.kind, .string p.data, .slice hdp.A p.ptrs.length hdp.a, .int .i64 p.size, .int .i64 p.count, .slice hdp.B p.items.length hdp.b] nodeT)).drew.cell? ⟨wr.heap.size, 2, none⟩ = some (.slice hdp.A p.ptrs.length hdp.a) := n2
        replace n3 : (wr.alloc (.cells #[.int .i64 p.kind, .string p.data, .slice hdp.A p.ptrs.length hdp.a, .int .i64 p.size, .int .i64 p.count, .slice hdp.B p.items.length hdp.b] nodeT)).drew.cell? ⟨wr.heap.size, 3, none⟩ = some (.int .i64 p.size) := n3
        replace n4 : (wr.alloc (.cells #[.int .i64 p.kind, .string p.data, .slice hdp.A p.ptrs.length hdp.a, .int .i64 p.size, .int .i64 p.count, .slice hdp.B p.items.length hdp.b] nodeT)).drew.cell? ⟨wr.heap.size, 4, none⟩ = some (.int .i64 p.count) := n4
        replace n5 : (wr.alloc (.cells #[.int .i64 p.kind, .string p.data, .slice hdp.A p.ptrs.length hdp.a, .int .i64 p.size, .int .i64 p.count, .slice hdp.B p.items.length hdp.b] nodeT)).drew.cell? ⟨wr.heap.size, 5, none⟩ = some (.slice hdp.B p.items.length hdp.b) := n5
        have HBX := Lib.hid hbx
        have HND := Lib.hid (nd_base HNP.out (hbw.trans (HBX.out.mono (by omega))))
        have hwr : IntKind.i64.wrap ((dw : Int) + (k : Int)) = ((dw + k : Nat) : Int) := by rw [IntKind.wrap_i64]; omega
        have hii1 : i < s1.length := Nat.lt_of_lt_of_le hii ZG.out.1
        have haa1 : a + (dw + k) < wn (sgS s1 i) := by have h1 := ZG.out.wn i; have h2 := HDX.out; omega
        have hbig : a + (dw + k) ≤ 1000000 := by have h1 := wn_le_totS s1 i; have h2 := ZK.out.totS; omega
        clear zq0 zq1 g0 hbx hc hp hmem
        go_wp2_with fail
        refine wp_region_held_drew (S := (fun V => (V.cell? ⟨wr.heap.size, 0, none⟩ = some (.int .i64 p.kind) ∧ V.cell? ⟨wr.heap.size, 1, none⟩ = some (.string p.data) ∧ V.cell? ⟨wr.heap.size, 2, none⟩ = some (.slice hdp.A p.ptrs.length hdp.a) ∧ V.cell? ⟨wr.heap.size, 3, none⟩ = some (.int .i64 p.size) ∧ V.cell? ⟨wr.heap.size, 4, none⟩ = some (.int .i64 p.count) ∧ V.cell? ⟨wr.heap.size, 5, none⟩ = some (.slice hdp.B p.items.length hdp.b)) ∧ (V.cell? ⟨w.heap.size + 1, 0, none⟩ = some (.int .i64 (i : Int)) ∧ V.cell? ⟨w.heap.size + 1, 1, none⟩ = some (.int .i64 (a : Int))))) (by kernel_rfl) ?_ (fun hH0 => ?_)
        · exact ⟨⟨n0, n1, n2, n3, n4, n5⟩, ⟨t0, t1⟩⟩
        refine wpAnyH_take (i := 0) (v := ?_) rfl (by kernel_rfl) (by kernel_rfl) (by kernel_rfl) (fun _ _ _ h => h) (Or.inl ⟨by rfl, ?_⟩) (by assumption) ?_
        rotate_left
        · intro w hSw
          (try dsimp only at hSw)
          go_simp
          try with_reducible rfl
        try simp only [List.getElem_toArray, List.getElem_cons_succ, List.getElem_cons_zero, Act.put, List.setIfInBounds_toArray, List.set_cons_zero, List.set_cons_succ]
        refine wpAnyH_take (i := 1) (v := ?_) rfl (by kernel_rfl) (by kernel_rfl) (by kernel_rfl) (fun _ _ _ h => h) (Or.inl ⟨by rfl, ?_⟩) (by assumption) ?_
        rotate_left
        · intro w hSw
          (try dsimp only at hSw)
          go_simp
          try with_reducible rfl
        try simp only [List.getElem_toArray, List.getElem_cons_succ, List.getElem_cons_zero, Act.put, List.setIfInBounds_toArray, List.set_cons_zero, List.set_cons_succ]
        refine wpAnyH_take (i := 2) (v := ?_) rfl (by kernel_rfl) (by kernel_rfl) (by kernel_rfl) (fun _ _ _ h => h) (Or.inl ⟨by rfl, ?_⟩) (by assumption) ?_
        rotate_left
        · intro w hSw
          (try dsimp only at hSw)
          go_simp
          try with_reducible rfl
        try simp only [List.getElem_toArray, List.getElem_cons_succ, List.getElem_cons_zero, Act.put, List.setIfInBounds_toArray, List.set_cons_zero, List.set_cons_succ]
        refine wpAnyH_take (i := 3) (v := ?_) rfl (by kernel_rfl) (by kernel_rfl) (by kernel_rfl) (fun _ _ _ h => h) (Or.inl ⟨by rfl, ?_⟩) (by assumption) ?_
        rotate_left
        · intro w hSw
          (try dsimp only at hSw)
          go_simp
          try with_reducible rfl
        try simp only [List.getElem_toArray, List.getElem_cons_succ, List.getElem_cons_zero, Act.put, List.setIfInBounds_toArray, List.set_cons_zero, List.set_cons_succ]
        refine wpAnyH_take (i := 4) (v := ?_) rfl (by kernel_rfl) (by kernel_rfl) (by kernel_rfl) (fun _ _ _ h => h) (Or.inl ⟨by rfl, ?_⟩) (by assumption) ?_
        rotate_left
        · intro w hSw
          (try dsimp only at hSw)
          go_simp
          try with_reducible rfl
        try simp only [List.getElem_toArray, List.getElem_cons_succ, List.getElem_cons_zero, Act.put, List.setIfInBounds_toArray, List.set_cons_zero, List.set_cons_succ]
        refine wpAnyH_take (i := 5) (v := ?_) rfl (by kernel_rfl) (by kernel_rfl) (by kernel_rfl) (fun _ _ _ h => h) (Or.inl ⟨by rfl, ?_⟩) (by assumption) ?_
        rotate_left
        · intro w hSw
          (try dsimp only at hSw)
          go_simp
          try with_reducible rfl
        try simp only [List.getElem_toArray, List.getElem_cons_succ, List.getElem_cons_zero, Act.put, List.setIfInBounds_toArray, List.set_cons_zero, List.set_cons_succ]
        refine wpAnyH_ready (rs := [6]) (by kernel_rfl) (by simp) ?_
        refine AllReadyH.cons rfl (fun K hK => ?_) AllReadyH.nil
        go_simp
        go_at_call 118
        refine (behind_any i a (dw + k) _ (by omega) (by omega)).mono ?_
        rintro e w6 ⟨rfl, hb6⟩
        go_wp2_with fail
        refine hK.out _ _ ?_ (fun hH1 => ?_)
        · exact ⟨⟨kcw hb6 n0, kcw hb6 n1, kcw hb6 n2, kcw hb6 n3, kcw hb6 n4, kcw hb6 n5⟩, ⟨kcw hb6 t0, kcw hb6 t1⟩⟩
        clear hK K hH0
        try simp only [List.getElem_toArray, List.getElem_cons_succ, List.getElem_cons_zero, Act.put, List.setIfInBounds_toArray, List.set_cons_zero, List.set_cons_succ]
        have HB6 := Lib.hid hb6
        have hs6 := hb6.size
        have hsx := HBX.out.size
        have HCALL := Lib.hid (IH base b s1 _ w6 i (a + (dw + k)) m' p hdp ((ZB.out.tight.low (w' := w6) (HBX.out.trans (hb6.mono HBX.out.size)))) (fun x hx => ⟨hx.2.1, Nat.lt_of_lt_of_le hx.2.2 (Nat.le_trans hsx hs6)⟩) ZK.out hii1 haa1 (nd_base HND.out (hb6.mono (by simp; omega))) HOK.out HTP.out HWP.out)
        have N0 := Lib.hid (And.intro n0 (And.intro n1 (And.intro n2 (And.intro n3 (And.intro n4 (And.intro n5 (And.intro t0 t1)))))))
        clear n0 n1 n2 n3 n4 n5 t0 t1 hwr hb6
        refine wpAnyH_ready (rs := [7]) (by kernel_rfl) (by simp) ?_
        refine AllReadyH.cons rfl (fun K hK => ?_) AllReadyH.nil
        go_simp
        go_at_call 34
        refine HCALL.out.mono ?_
        have HNP7 : Hid (∀ x, (w.heap.size ≤ x ∧ x < w.heap.size + 2) ∨ x = wr.heap.size → ¬ ((P x ∨ w.heap.size + 2 ≤ x) ∧ base ≤ x ∧ x < wr.heap.size)) := Lib.hid (fun x hx hp => by
         rcases hx with hx | hx
         · rcases hp.1 with h | h
           · have := HP0.out x h; omega
           · omega
         · omega)
        have HPW : Hid (∀ x, x < w.heap.size → ((P x ∨ w.heap.size + 2 ≤ x) ∧ base ≤ x ∧ x < wr.heap.size) → P x) := Lib.hid (fun x hx hp => by
         rcases hp.1 with h | h
         · exact h
         · omega)
        have HK6 := Lib.hid (ZP.out.trans (KP.of_below (HBX.out.trans (HB6.out.mono HBX.out.size))) (fun _ _ h => h) : KP P w w6)
        rintro e w7 (⟨hnone, rfl, hk7⟩ | ⟨s2, hsome, rfl, hk7, hB7⟩)
        · have HE9 : Hid (bodyP (wrP 200 size d) n ss i a = none) := Lib.hid (by rw [HE.out]; exact HCUT.out (by rw [HSTEP.out, ZR.out, Option.bind_some, Nat.add_assoc]; exact hnone))
          have HK7 := Lib.hid (HK6.out.trans hk7 HPW.out)
          clear hk7 hnone hK
          go_wp2
          exact ⟨rfl, .inl ⟨HE9.out, rfl, HK7.out⟩⟩
        · obtain ⟨k7a, k7b⟩ := wr_some 200 size d p s1 i (a + (dw + k)) s2 HOK.out ZK.out hii1 haa1 hsome
          have HSOME : Hid (ptrsP (wrP 200 size d) (n.ptrs.take (k + 1)) (putS ss i a n.data.data.toList) i (a + dw) = some s2) := Lib.hid (by rw [HSTEP.out, ZR.out, Option.bind_some, Nat.add_assoc]; exact hsome)
          have HK7 := Lib.hid (HK6.out.trans hk7 HPW.out)
          have HQ7 := Lib.hid (hk7.row ((HB6.out.block _ (Nat.lt_of_lt_of_le (row_lt ZQ0.out) hsx)).trans ((HBX.out.block _ (row_lt ZQ0.out)).trans ZQ0.out)) (HNP7.out _ (.inl (by omega))))
          have HQ8 := Lib.hid (hk7.row ((HB6.out.block _ (Nat.lt_of_lt_of_le (row_lt ZQ1.out) hsx)).trans ((HBX.out.block _ (row_lt ZQ1.out)).trans ZQ1.out)) (HNP7.out _ (.inl (by omega))))
          have HB7 := Lib.hid (hB7.weak (Q := fun k => P k ∨ w.heap.size + 2 ≤ k) (fun x hx => by
           rcases hx with hx | hx
           · exact hx.1
           · exact .inr (by have h1 := Nat.le_trans hsx hs6; omega)))
          have HZN : Hid (∃ s1, ptrsP (wrP 200 size d) (n.ptrs.take (k + 1)) (putS ss i a n.data.data.toList) i (a + dw) = some s1 ∧ SOk 200 s1 ∧ Grew (putS ss i a n.data.data.toList) s1 ∧ KP P w w7 ∧ Bun w7 base b size s1 (fun k => P k ∨ w.heap.size + 2 ≤ k) ∧ w.heap.size + 2 ≤ w7.heap.size ∧ w7.heap[w.heap.size]? = some (.cells #[.int .i64 n.kind, .string n.data, .slice (some xx) n.ptrs.length qa, .int .i64 n.size, .int .i64 n.count, .slice qB n.items.length qb] nodeT (0, 0)) ∧ w7.heap[w.heap.size + 1]? = some (.cells #[.int .i64 (i : Int), .int .i64 (a : Int)] plT (0, 0))) := Lib.hid ⟨s2, HSOME.out, k7a, ZG.out.trans k7b, HK7.out, HB7.out, by have h1 := hk7.size; have h2 := Nat.le_trans hsx hs6; omega, HQ7.out, HQ8.out⟩
          obtain ⟨v0, v1, v2, v3, v4, v5⟩ := cells6 (hk7.row ((HB6.out.block _ (by simp)).trans (heap_alloc_new wr (.cells #[.int .i64 p.kind, .string p.data, .slice hdp.A p.ptrs.length hdp.a, .int .i64 p.size, .int .i64 p.count, .slice hdp.B p.items.length hdp.b] nodeT))) (HNP7.out _ (.inr rfl)))
          obtain ⟨x0, x1⟩ := cell_pair HQ8.out
          refine hK.out _ _ ?_ (fun hH2 => ?_)
          · exact ⟨⟨v0, v1, v2, v3, v4, v5⟩, ⟨x0, x1⟩⟩
          clear hK K hH1 hk7 hB7 v0 v1 v2 v3 v4 v5 x0 x1 hsome d0 d1 d2 d3 d4 d5
          refine wpAnyH_done (by kernel_rfl) ?_ _
          clear hH2
          go_wp2_with fail
          go_roundw
          case rel => exact ⟨k + 1, by go_num, by omega, HZN⟩
          case measure => simp [intOf]; omega
      · obtain rfl : k = n.ptrs.length := by omega
        rw [List.take_of_length_le (Nat.le_refl _)] at ZR
        have HE9 : Hid (bodyP (wrP 200 size d) n ss i a = some s1) := Lib.hid (by rw [HE.out]; exact ZR.out)
        have HBF := Lib.hid (ZB.out.weak (Q := fun k => P k ∨ w.heap.size ≤ k) (fun x hx => hx.imp id (fun h => by omega)))
        clear zq0 zq1
        go_wp2
        go_end0
        exact .inr ⟨s1, HE9.out, rfl, ZP.out, HBF.out⟩
end Go.Proofs.YtlbfffokkhccaaaGreatDoor
