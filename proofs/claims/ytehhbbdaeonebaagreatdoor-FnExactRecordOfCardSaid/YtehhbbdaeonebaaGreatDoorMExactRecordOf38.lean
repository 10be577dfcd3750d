/- Texts of the proof of the law FnExactRecordOf, side by side: part 38. -/
import Derived.Test.YtehhbbdaeonebaaGreatDoorRows
import Derived.Lib.LaidTab
import Derived.Stop.LaidErr
import Derived.MakeChecks
import Derived.Test.YtehhbbdaeonebaaGreatDoorMExactRecordOf37
set_option maxHeartbeats 8000000
set_option maxRecDepth 100000
namespace Go.Proofs.YtehhbbdaeonebaaGreatDoor
open Go.RowKit Go.Deep
structure NodO (m : Nat) (y : Nd) (B : Nat) (w : World) (vb : Nat) (hy : Hd) (bs : List Nat) : Prop where
 row : w.heap[vb]? = some (.cells #[.int .i64 y.kind, .string y.data, .slice hy.A y.ptrs.length hy.a, .int .i64 y.size, .int .i64 y.count, .slice hy.B y.items.length hy.b] nodeT (0, 0))
 own : OwN w m y hy bs
 nodup : bs.Nodup
 far : ∀ b ∈ bs, B ≤ b ∧ b ≠ vb
 base : B ≤ vb
theorem NodO.lt {m : Nat} {y : Nd} {B : Nat} {w : World} {vb : Nat} {hy : Hd} {bs : List Nat} (h : NodO m y B w vb hy bs) : vb < w.heap.size ∧ ∀ b ∈ bs, b < w.heap.size := ⟨row_lt h.row, fun b hb => (h.own.lt b hb).1⟩
theorem NodO.below {m : Nat} {y : Nd} {B : Nat} {w w' : World} {vb : Nat} {hy : Hd} {bs : List Nat} (h : NodO m y B w vb hy bs) (hb : Below w.heap.size w w') : NodO m y B w' vb hy bs := ⟨(hb.block _ h.lt.1).trans h.row, h.own.below hb, h.nodup, h.far, h.base⟩
theorem NodO.frame {m : Nat} {y : Nd} {B : Nat} {w w' : World} {vb : Nat} {hy : Hd} {bs : List Nat} (h : NodO m y B w vb hy bs) (h1 : w'.heap[vb]? = w.heap[vb]?) (h2 : ∀ b ∈ bs, w'.heap[b]? = w.heap[b]?) : NodO m y B w' vb hy bs := ⟨h1.trans h.row, h.own.frame h2, h.nodup, h.far, h.base⟩
theorem szF_bigR {n : Nat} (h : 1048576 < n) : szF n 1048576 = -1 := by unfold szF; rw [if_pos (by omega)]
theorem szF_smallR {n : Nat} (h : n ≤ 1048576) : szF n 1048576 = 1048576 - n := by unfold szF; rw [if_neg (by omega)]
theorem roN_siz {l : List Fld} {vs : List Vl} {ch : Int} (hv : sumV vs ≤ 1900000) : sizN (roN l vs ch) ≤ 2000000 := by
 unfold roN
 by_cases h : roB l vs ch = true
 · rw [if_pos h]
   unfold roB at h
   simp only [Bool.and_eq_true, decide_eq_true_eq] at h
   exact rec_siz l vs ch (fldsOk_len h.1) hv h.2.1.1
 · rw [if_neg h]
   decide
theorem walkExactRecordOf (w : World) (A : Option Addr) (len cap : Nat) (l : List Fld) (hlen : l.length = len) (hfl : Flds w A l) (hm : len ≤ maxLen) (B : Option Addr) (len2 cap2 : Nat) (m : Nat) (vs : List Vl) (hvlen : vs.length = len2) (hvs : ValsAt w Any m B vs) (hvm : len2 ≤ maxLen) (hrg : ∀ k, -9223372036854775808 ≤ (vlK vs k).num ∧ (vlK vs k).num ≤ 9223372036854775807) (a : Int) (_ : (Lit.int .i64 a).wf = true) (ht : Tab w) :
 Calls Tryz.prog 4 #[.slice A len cap, .slice B len2 cap2, .int .i64 a] w fun e w' => e = .returned (.bool true) ∧ Below w.heap.size w w' := by
 subst hlen
 subst hvlen
 have h1w : 2 < w.heap.size := World.block_lt_of_cell? w _ ht.t0
 have HM := Lib.hid hm
 clear hm
 by_cases hbig : 1048576 < l.length
 · have HS := Lib.hid (szF_bigR hbig)
   clear hvs hfl ht hrg
   go_enter Tryz.func4, Tryz.ntmps4
   go_wp2_with (go_at_call 5; go_must (refine (szFieldS_any A l.length cap 1048576 _ HM.out (by decide) (by decide)).mono ?_); rintro e w2 ⟨rfl, rfl⟩; rw [HS.out])
   go_ret
   exact ⟨rfl, Below.refl _ _⟩
 have hsm : l.length ≤ 1048576 := by omega
 have HS := Lib.hid (szF_smallR hsm)
 obtain ⟨z, hz⟩ : ∃ z, (1048576 : Int) - (l.length : Nat) = z := ⟨_, rfl⟩
 rw [hz] at HS
 have hz0 : ¬ z < 0 := by omega
 have HZB : Hid (0 ≤ z ∧ z ≤ 1048576) := Lib.hid (by omega)
 have HLL : Hid (l.length ≤ 2000000) := Lib.hid (by omega)
 have HLB : Hid (l.length ≤ 1048576) := Lib.hid hsm
 clear hz hbig hsm
 have HSV := Lib.hid (szValS_any m B cap2 vs w z Any hvs hvm HZB.out.1 (by have := HZB.out.2; omega))
 clear hvm
 by_cases hbig : z < (totV m vs : Nat)
 · rw [szR_neg hbig] at HSV
   clear hbig hvs hfl ht hrg
   go_enter Tryz.func4, Tryz.ntmps4
   go_wp2_with fail
   refine (szFieldS_any A l.length cap 1048576 _ HM.out (by decide) (by decide)).mono ?_
   rintro e w1 ⟨rfl, rfl⟩
   rw [HS.out]
   go_wp2_with fail
   refine HSV.out.mono ?_
   rintro e w2 ⟨rfl, hb2⟩
   have HB2 := Lib.hid hb2
   clear hb2
   go_wp2
   go_ret
   exact ⟨rfl, HB2.out⟩
 have htt : totV m vs ≤ 1048576 := by have := HZB.out; omega
 have hts := totV_sum hvs
 have HVL : Hid (vs.length ≤ 1048576) := Lib.hid (by omega)
 have HVS : Hid (sumV vs ≤ 1048576) := Lib.hid (by omega)
 have HVT : Hid (∀ v ∈ vs, totN m v.nd ≤ 2000000) := Lib.hid fun v hv => by
  obtain ⟨i, hi, rfl⟩ := List.mem_iff_getElem.1 hv
  have h1 := totL_at (m := m) (l := vs.map (·.nd)) (k := i) (by simpa using hi)
  rw [List.getElem_map] at h1
  unfold totV at htt
  omega
 rw [szR_pos (by omega)] at HSV
 obtain ⟨z2, hz2⟩ : ∃ z2 : Int, z2 = z - (totV m vs : Nat) := ⟨_, rfl⟩
 rw [← hz2] at HSV
 have hz20 : ¬ z2 < 0 := by omega
 clear hz2 hbig htt hts
 have hysz := roN_siz (l := l) (vs := vs) (ch := a) (by have := HVS.out; omega)
 have HFL := Lib.hid (fun (W : World) (hW : Below w.heap.size w W) => toFieldS_any A cap l W (hfl.below hW) HLL.out)
 have HTV := Lib.hid (fun (W : World) (hW : Below w.heap.size w W) => toValS_any m B cap2 vs W Any (hvs.below hW) (by have := HVL.out; omega) HVT.out)
 have HSA := Lib.hid (fun (W : World) (hW : Below w.heap.size w W) (x : Addr) (c : Nat) (G : Option Addr) (cb : Nat) (hc : l.length ≤ c) (hx : x.block < W.heap.size) (hf : Flds W (some x) l) (hv : ValsAt W Any m G vs) => specRecordOf_a x c l G cb vs a m W (by have := hW.size; omega) hx hf (by have := HLB.out; omega) hv (by have := HVL.out; omega) (by have := HVS.out; omega) hc hrg)
 have HIA := Lib.hid (fun (W : World) (hW : Below w.heap.size w W) (x : Addr) (c : Nat) (G : Option Addr) (cb : Nat) (hc : l.length ≤ c) (hx : x.block < W.heap.size) (hf : Flds W (some x) l) (hv : ValsAt W Any m G vs) => implRecordOf_a x c l G cb vs a m W (ht.below hW h1w) (by have := hW.size; omega) hx hf (by have := HLB.out; omega) hc hv (by have := HVL.out; omega) (by have := HVS.out; omega))
 obtain ⟨Y, hY⟩ : ∃ Y, roN l vs a = Y := ⟨_, rfl⟩
 obtain ⟨ok, hok⟩ : ∃ ok, roB l vs a = ok := ⟨_, rfl⟩
 rw [hY, hok] at HSA HIA
 rw [hY] at hysz
 have HEY := Lib.hid (fun (W : World) (S S' : Nat → Prop) (g g' : Hd) (a : NdAt W S (m + 2) Y g) (b : NdAt W S' (m + 2) Y g') => eqN_any (m + 2) Y g g' W S S' a b (by rw [totN_siz a]; omega))
 have HEV := Lib.hid (fun (W : World) (G G' : Option Addr) (a : ValsAt W Any m G vs) (b : ValsAt W Any m G' vs) => eqValS_any m G G' vs.length vs.length vs W Any Any a b (by have := HVL.out; omega) HVT.out)
 have HMV := Lib.hid (fun (g : Nat) (bs : List Nat) (W : World) (a : VsO W m g vs bs) (b : bs.Nodup) => markValS_any m g vs.length vs bs W (1 + 3 * l.length) a b (by omega) (by have := HLB.out; have := HVL.out; have := HVS.out; omega))
 have HMY := Lib.hid (fun (g : Hd) (bs : List Nat) (W : World) (a : OwN W (m + 2) Y g bs) (b : bs.Nodup) => markNode_any (m + 2) Y g bs W 1 a b (by omega) (by omega))
 have HHY := Lib.hid (fun (g : Hd) (W : World) (S : Nat → Prop) (q1 q2 : Nat) (p i : List Nd) (a : NdAt W S (m + 2) (.mk Y.kind Y.data p Y.size Y.count i) g) (hp : HelS (m + 2) p 1 q1) (hi : HelS (m + 2) i q1 q2) (hq : q2 ≤ 200000000) => heldNode_any (m + 2) (.mk Y.kind Y.data p Y.size Y.count i) g W S 1 q1 q2 a hp hi (by omega) hq)
 clear hY hok hysz hvs hfl ht h1w hrg
 unfold ToP at HFL
 unfold NewVs at HTV
 unfold NewNb at HSA HIA
 unfold MkN at HMY
 go_enter Tryz.func4, Tryz.ntmps4
 go_wp2_with fail
 refine (szFieldS_any A l.length cap 1048576 _ HM.out (by decide) (by decide)).mono ?_
 rintro e w1 ⟨rfl, rfl⟩
 rw [HS.out]
 go_wp2_with fail
 refine HSV.out.mono ?_
 rintro e w2 ⟨rfl, hb2⟩
 have HB := Lib.hid hb2
 clear hb2 HSV HS
 go_wp2_with fail
 refine (HFL.out _ HB.out).mono ?_
 rintro e wf ⟨gx, arrx, rfl, hgx, hrx, hsx, hax, hbx⟩
 have HF4 := Lib.hid (farr_flds hrx hax)
 have HGL := Lib.hid (row_lt hrx)
 clear hgx hrx hsx hax
 replace HB := Lib.hid (HB.out.trans (hbx.mono HB.out.size))
 clear hbx
 go_wp2_with fail
 refine (HTV.out _ HB.out).mono ?_
 rintro e wv ⟨gv, bsv, rfl, hov, -, -, hbv⟩
 replace HF4 := Lib.hid (HF4.out.below hbv)
 replace HGL := Lib.hid (Nat.lt_of_lt_of_le HGL.out hbv.size)
 have HOV := Lib.hid hov
 replace HB := Lib.hid (HB.out.trans (hbv.mono HB.out.size))
 clear hov hbv
 go_wp2_with fail
 refine (HSA.out _ HB.out ⟨gx, 0, none⟩ l.length (some ⟨gv, 0, none⟩) vs.length (Nat.le_refl _) HGL.out HF4.out HOV.out.vals).mono ?_
 rintro e w5 ⟨hw, bsw, rfl, how, hndw, hfw, hb5⟩
 clear HF4 HGL HOV
 have hba : Below w5.heap.size w5 (w5.alloc (.cells #[.int .i64 Y.kind, .string Y.data, .slice hw.A Y.ptrs.length hw.a, .int .i64 Y.size, .int .i64 Y.count, .slice hw.B Y.items.length hw.b] nodeT)) := (Below.refl _ _).alloc (Nat.le_refl _) _
 have hbb : Below wv.heap.size wv (w5.alloc (.cells #[.int .i64 Y.kind, .string Y.data, .slice hw.A Y.ptrs.length hw.a, .int .i64 Y.size, .int .i64 Y.count, .slice hw.B Y.items.length hw.b] nodeT)) := hb5.trans (hba.mono hb5.size)
 have HV : Hid (NodO (m + 2) Y wv.heap.size (w5.alloc (.cells #[.int .i64 Y.kind, .string Y.data, .slice hw.A Y.ptrs.length hw.a, .int .i64 Y.size, .int .i64 Y.count, .slice hw.B Y.items.length hw.b] nodeT)) w5.heap.size hw bsw) := Lib.hid ⟨heap_alloc_new w5 (.cells #[.int .i64 Y.kind, .string Y.data, .slice hw.A Y.ptrs.length hw.a, .int .i64 Y.size, .int .i64 Y.count, .slice hw.B Y.items.length hw.b] nodeT), how.below hba, hndw, fun b hb => ⟨hfw b hb, by have := (how.lt b hb).1; omega⟩, hb5.size⟩
 replace HB := Lib.hid (HB.out.trans (hbb.mono HB.out.size))
 clear how hndw hfw hb5 hba hbb
 go_wp2_with fail
 generalize w5.alloc (.cells #[.int .i64 Y.kind, .string Y.data, .slice hw.A Y.ptrs.length hw.a, .int .i64 Y.size, .int .i64 Y.count, .slice hw.B Y.items.length hw.b] nodeT) = wc at *
 generalize w5.heap.size = vw at *
 have HWC : Hid (w.heap.size ≤ wc.heap.size) := Lib.hid HB.out.size
 have HVF : Hid (vw < wc.heap.size ∧ ∀ b ∈ bsw, b < wc.heap.size) := Lib.hid ⟨HV.out.lt.1, HV.out.lt.2⟩
 refine (HFL.out _ HB.out).mono ?_
 rintro e wf ⟨gx, arrx, rfl, hgx, hrx, hsx, hax, hbx⟩
 have HXR := Lib.hid hrx
 have HXS := Lib.hid hsx
 have HXA := Lib.hid hax
 have HGX : Hid (wc.heap.size ≤ gx ∧ gx < wf.heap.size) := Lib.hid ⟨hgx, row_lt hrx⟩
 clear hgx hrx hsx hax
 replace HV := Lib.hid (HV.out.below hbx)
 replace HB := Lib.hid (HB.out.trans (hbx.mono HB.out.size))
 clear hbx
 go_wp2_with fail
 refine (HTV.out _ HB.out).mono ?_
 rintro e wv ⟨gv, bsv, rfl, hov, hndv, hgv, hbv⟩
 have HNF : Hid (∀ b ∈ bsv, wf.heap.size ≤ b ∧ b < wv.heap.size) := Lib.hid fun b hb => ⟨hgv b hb, hov.lt b hb⟩
 have HN := Lib.hid hov
 have HND := Lib.hid hndv
 have HWV := Lib.hid hbv.size
 clear hov hndv hgv
 replace HV := Lib.hid (HV.out.below hbv)
 replace HXR := Lib.hid ((hbv.block _ (row_lt HXR.out)).trans HXR.out)
 replace HB := Lib.hid (HB.out.trans (hbv.mono HB.out.size))
 clear hbv
 go_wp2_with fail
 refine (HIA.out _ HB.out ⟨gx, 0, none⟩ l.length (some ⟨gv, 0, none⟩) vs.length (Nat.le_refl _) (row_lt HXR.out) (farr_flds HXR.out HXA.out) HN.out.vals).mono ?_
 rintro e w5 ⟨hg, bsg, rfl, hov, hnd, hfg, hb5⟩
 have hba : Below w5.heap.size w5 (w5.alloc (.cells #[.int .i64 Y.kind, .string Y.data, .slice hg.A Y.ptrs.length hg.a, .int .i64 Y.size, .int .i64 Y.count, .slice hg.B Y.items.length hg.b] nodeT)) := (Below.refl _ _).alloc (Nat.le_refl _) _
 have hbb : Below wv.heap.size wv (w5.alloc (.cells #[.int .i64 Y.kind, .string Y.data, .slice hg.A Y.ptrs.length hg.a, .int .i64 Y.size, .int .i64 Y.count, .slice hg.B Y.items.length hg.b] nodeT)) := hb5.trans (hba.mono hb5.size)
 have HG : Hid (NodO (m + 2) Y wv.heap.size (w5.alloc (.cells #[.int .i64 Y.kind, .string Y.data, .slice hg.A Y.ptrs.length hg.a, .int .i64 Y.size, .int .i64 Y.count, .slice hg.B Y.items.length hg.b] nodeT)) w5.heap.size hg bsg) := Lib.hid ⟨heap_alloc_new w5 (.cells #[.int .i64 Y.kind, .string Y.data, .slice hg.A Y.ptrs.length hg.a, .int .i64 Y.size, .int .i64 Y.count, .slice hg.B Y.items.length hg.b] nodeT), hov.below hba, hnd, fun b hb => ⟨hfg b hb, by have := (hov.lt b hb).1; omega⟩, hb5.size⟩
 replace HV := Lib.hid (HV.out.below hbb)
 replace HXR := Lib.hid ((hbb.block _ (row_lt HXR.out)).trans HXR.out)
 replace HN := Lib.hid (HN.out.below hbb)
 replace HB := Lib.hid (HB.out.trans (hbb.mono HB.out.size))
 clear hba hbb hov hnd hfg hb5
 have hd : (ok != ok) = false := by simp
 obtain ⟨v0, v1, v2, v3, v4, v5⟩ := cells6 HV.out.row
 obtain ⟨y0, y1, y2, y3, y4, y5⟩ := cells6 HG.out.row
 go_wp2_with fail
 generalize w5.alloc (.cells #[.int .i64 Y.kind, .string Y.data, .slice hg.A Y.ptrs.length hg.a, .int .i64 Y.size, .int .i64 Y.count, .slice hg.B Y.items.length hg.b] nodeT) = W5 at *
 generalize w5.heap.size = vg at *
 have HQ := Lib.hid (HEY.out _ _ _ hg hw HG.out.own.nd HV.out.own.nd)
 refine HQ.out.mono ?_
 rintro e w6 ⟨rfl, hb6⟩
 clear v0 v1 v2 v3 v4 v5 y0 y1 y2 y3 y4 y5 HQ
 replace HV := Lib.hid (HV.out.below hb6)
 replace HXR := Lib.hid ((hb6.block _ (row_lt HXR.out)).trans HXR.out)
 replace HN := Lib.hid (HN.out.below hb6)
 replace HG := Lib.hid (HG.out.below hb6)
 replace HB := Lib.hid (HB.out.trans (hb6.mono HB.out.size))
 clear hb6
 go_wp2_with fail
 refine (HFL.out _ HB.out).mono ?_
 rintro e wq ⟨gq, arrq, rfl, -, hrq, -, haq, hbq⟩
 have HFQ := Lib.hid (farr_flds hrq haq)
 replace HV := Lib.hid (HV.out.below hbq)
 replace HXR := Lib.hid ((hbq.block _ (row_lt HXR.out)).trans HXR.out)
 replace HN := Lib.hid (HN.out.below hbq)
 replace HG := Lib.hid (HG.out.below hbq)
 replace HB := Lib.hid (HB.out.trans (hbq.mono HB.out.size))
 clear hrq haq hbq
 go_wp2_with fail
 refine (eqFieldS_any _ _ l.length l.length l wq (farr_flds HXR.out HXA.out) HFQ.out HLL.out).mono ?_
 rintro e wr ⟨rfl, hbr⟩
 replace HV := Lib.hid (HV.out.below hbr)
 replace HXR := Lib.hid ((hbr.block _ (row_lt HXR.out)).trans HXR.out)
 replace HN := Lib.hid (HN.out.below hbr)
 replace HG := Lib.hid (HG.out.below hbr)
 replace HB := Lib.hid (HB.out.trans (hbr.mono HB.out.size))
 clear hbr HFQ
 go_wp2_with fail
 refine (HTV.out _ HB.out).mono ?_
 rintro e w7 ⟨g7, bs7, rfl, ho7, -, -, hb7⟩
 have HO7 := Lib.hid ho7
 replace HV := Lib.hid (HV.out.below hb7)
 replace HXR := Lib.hid ((hb7.block _ (row_lt HXR.out)).trans HXR.out)
 replace HN := Lib.hid (HN.out.below hb7)
 replace HG := Lib.hid (HG.out.below hb7)
 replace HB := Lib.hid (HB.out.trans (hb7.mono HB.out.size))
 clear ho7 hb7
 go_wp2_with fail
 refine (HEV.out _ _ _ HN.out.vals HO7.out.vals).mono ?_
 rintro e w8 ⟨rfl, hb8⟩
 replace HV := Lib.hid (HV.out.below hb8)
 replace HXR := Lib.hid ((hb8.block _ (row_lt HXR.out)).trans HXR.out)
 replace HN := Lib.hid (HN.out.below hb8)
 replace HG := Lib.hid (HG.out.below hb8)
 replace HB := Lib.hid (HB.out.trans (hb8.mono HB.out.size))
 clear hb8 HO7
 go_wp2_with fail
 refine (markFieldS_any gx l.length l.length arrx w8 HXR.out HXS.out HLL.out).mono ?_
 rintro e w9 ⟨rfl, hg9⟩
 have hgx := HGX.out
 have hwv := HWV.out
 have hnf := HNF.out
 have hvf := HVF.out
 have hgb := HG.out.base
 have hgf := HG.out.far
 have hkp : ∀ b, b < w8.heap.size → b ≠ gx → w9.heap[b]? = w8.heap[b]? := fun b h1 h2 => hg9.block b h1 (fun e => h2 (by injection e))
 replace HB := Lib.hid (HB.out.trans ((Below.refl w.heap.size w8).grown hg9 HB.out.size (fun k hk => by injection hk with hk; have := HWC.out; omega)))
 replace HV := Lib.hid (HV.out.frame (w' := w9) (hkp _ HV.out.lt.1 (by omega)) (fun b hb => hkp b (HV.out.lt.2 b hb) (by have := hvf.2 b hb; omega)))
 replace HN := Lib.hid (HN.out.frame (w' := w9) (fun b hb => hkp b (HN.out.lt b hb) (by have := hnf b hb; omega)))
 replace HG := Lib.hid (HG.out.frame (w' := w9) (hkp _ HG.out.lt.1 (by omega)) (fun b hb => hkp b (HG.out.lt.2 b hb) (by have := (hgf b hb).1; omega)))
 clear hg9 hkp hgx hwv hnf hvf hgb hgf HXR
 go_wp2_with fail
 refine (HMV.out gv bsv w9 HN.out HND.out).mono ?_
 rintro e wm ⟨k2, rfl, hk1, hk2, hoi⟩
 have hk0 : ¬ ((k2 : Int) < 0) := by omega
 have hgx := HGX.out
 have hwv := HWV.out
 have hnf := HNF.out
 have hvf := HVF.out
 have hgb := HG.out.base
 have hgf := HG.out.far
 have hkp : ∀ b, b < w9.heap.size → b ∉ bsv → wm.heap[b]? = w9.heap[b]? := fun b h1 h2 => hoi.block b h1 h2
 replace HB := Lib.hid (HB.out.trans (hoi.below (B := w.heap.size) HB.out.size (fun b hb => by have := hnf b hb; have := HWC.out; omega)))
 replace HV := Lib.hid (HV.out.frame (w' := wm) (hkp _ HV.out.lt.1 (fun hm => by have := hnf _ hm; omega)) (fun b hb => hkp b (HV.out.lt.2 b hb) (fun hm => by have := hnf _ hm; have := hvf.2 b hb; omega)))
 replace HG := Lib.hid (HG.out.frame (w' := wm) (hkp _ HG.out.lt.1 (fun hm => by have := hnf _ hm; omega)) (fun b hb => hkp b (HG.out.lt.2 b hb) (fun hm => by have := hnf _ hm; have := (hgf b hb).1; omega)))
 clear hoi hkp hgx hwv hnf hvf hgb hgf HN hk1 hk2
 obtain ⟨v0, v1, v2, v3, v4, v5⟩ := cells6 HV.out.row
 obtain ⟨y0, y1, y2, y3, y4, y5⟩ := cells6 HG.out.row
 have HQ := Lib.hid (HEY.out _ _ _ hg hw HG.out.own.nd HV.out.own.nd)
 go_wp2_with fail
 refine HQ.out.mono ?_
 rintro e w10 ⟨rfl, hb10⟩
 clear v0 v1 v2 v3 v4 v5 y0 y1 y2 y3 y4 y5 HQ hk0
 replace HV := Lib.hid (HV.out.below hb10)
 replace HG := Lib.hid (HG.out.below hb10)
 replace HB := Lib.hid (HB.out.trans (hb10.mono HB.out.size))
 clear hb10
 obtain ⟨y0, y1, y2, y3, y4, y5⟩ := cells6 HG.out.row
 have HQ := Lib.hid (HMY.out hg bsg w10 HG.out.own HG.out.nodup)
 go_wp2_with fail
 refine HQ.out.mono ?_
 rintro e w11 ⟨pg, ig, m1, m2, rfl, hm2, hpl, hil, hom, hh1, hh2, hoi⟩
 clear y0 y1 y2 y3 y4 y5 HQ
 have hm0 : ¬ ((m2 : Int) < 0) := by omega
 have hmm : ((m2 : Int) != (m2 : Int)) = false := by simp
 have hgx := HGX.out
 have hwv := HWV.out
 have hvf := HVF.out
 have hgf := HG.out.far
 have hgb := HG.out.base
 have hkp : ∀ b, b < w10.heap.size → b ∉ bsg → w11.heap[b]? = w10.heap[b]? := fun b h1 h2 => hoi.block b h1 h2
 replace HB := Lib.hid (HB.out.trans (hoi.below (B := w.heap.size) HB.out.size (fun b hb => by have := hgf b hb; have := HWC.out; omega)))
 replace HV := Lib.hid (HV.out.frame (w' := w11) (hkp _ HV.out.lt.1 (fun hm => by have := hgf _ hm; omega)) (fun b hb => hkp b (HV.out.lt.2 b hb) (fun hm => by have := hgf _ hm; have := hvf.2 b hb; omega)))
 have HGR := Lib.hid ((hkp _ HG.out.lt.1 (fun hm => (hgf _ hm).2 rfl)).trans HG.out.row)
 have HHE : Hid (∀ V : World, Below w11.heap.size w11 V → Calls Tryz.prog 24 #[.agg #[.int .i64 Y.kind, .string Y.data, .slice hg.A Y.ptrs.length hg.a, .int .i64 Y.size, .int .i64 Y.count, .slice hg.B Y.items.length hg.b], .int .i64 1] V fun e w' => e = .returned (.int .i64 (m2 : Int)) ∧ Below V.heap.size V w') := Lib.hid fun V hV => by
  have hq := HHY.out hg V _ m1 m2 pg ig (hom.nd.below hV) hh1 hh2 hm2
  have e1 : (Nd.mk Y.kind Y.data pg Y.size Y.count ig).ptrs.length = Y.ptrs.length := hpl
  have e2 : (Nd.mk Y.kind Y.data pg Y.size Y.count ig).items.length = Y.items.length := hil
  rw [e1, e2] at hq
  exact hq
 have HK := Lib.hid (Below.refl w11.heap.size w11)
 clear hoi hkp hgx hwv hvf hgf hgb hom hh1 hh2 hpl hil hm2 HG
 obtain ⟨y0, y1, y2, y3, y4, y5⟩ := cells6 HGR.out
 go_wp2_with fail
 refine (HHE.out _ HK.out).mono ?_
 rintro e w12 ⟨rfl, hb12⟩
 clear y0 y1 y2 y3 y4 y5
 replace HV := Lib.hid (HV.out.below hb12)
 replace HGR := Lib.hid ((hb12.block _ (row_lt HGR.out)).trans HGR.out)
 replace HB := Lib.hid (HB.out.trans (hb12.mono HB.out.size))
 replace HK := Lib.hid (HK.out.trans (hb12.mono HK.out.size))
 clear hb12
 go_wp2_with fail
 refine (HFL.out _ HB.out).mono ?_
 rintro e wf2 ⟨gx2, arrx2, rfl, hgx, hrx, hsx, hax, hbx⟩
 have HF4 := Lib.hid (farr_flds hrx hax)
 have HGL := Lib.hid (row_lt hrx)
 clear hgx hrx hsx hax
 replace HV := Lib.hid (HV.out.below hbx)
 replace HGR := Lib.hid ((hbx.block _ (row_lt HGR.out)).trans HGR.out)
 replace HB := Lib.hid (HB.out.trans (hbx.mono HB.out.size))
 replace HK := Lib.hid (HK.out.trans (hbx.mono HK.out.size))
 clear hbx
 go_wp2_with fail
 refine (HTV.out _ HB.out).mono ?_
 rintro e wv2 ⟨gv2, bsv2, rfl, hov, -, -, hbv⟩
 replace HF4 := Lib.hid (HF4.out.below hbv)
 replace HGL := Lib.hid (Nat.lt_of_lt_of_le HGL.out hbv.size)
 have HOV := Lib.hid hov
 replace HV := Lib.hid (HV.out.below hbv)
 replace HGR := Lib.hid ((hbv.block _ (row_lt HGR.out)).trans HGR.out)
 replace HB := Lib.hid (HB.out.trans (hbv.mono HB.out.size))
 replace HK := Lib.hid (HK.out.trans (hbv.mono HK.out.size))
 clear hov hbv
 go_wp2_with fail
 refine (HIA.out _ HB.out ⟨gx2, 0, none⟩ l.length (some ⟨gv2, 0, none⟩) vs.length (Nat.le_refl _) HGL.out HF4.out HOV.out.vals).mono ?_
 rintro e w5 ⟨hh, bsh, rfl, how, hndw, hfw, hb5⟩
 clear HF4 HGL HOV
 have hba : Below w5.heap.size w5 (w5.alloc (.cells #[.int .i64 Y.kind, .string Y.data, .slice hh.A Y.ptrs.length hh.a, .int .i64 Y.size, .int .i64 Y.count, .slice hh.B Y.items.length hh.b] nodeT)) := (Below.refl _ _).alloc (Nat.le_refl _) _
 have hbb : Below wv2.heap.size wv2 (w5.alloc (.cells #[.int .i64 Y.kind, .string Y.data, .slice hh.A Y.ptrs.length hh.a, .int .i64 Y.size, .int .i64 Y.count, .slice hh.B Y.items.length hh.b] nodeT)) := hb5.trans (hba.mono hb5.size)
 have HH : Hid (NodO (m + 2) Y wv2.heap.size (w5.alloc (.cells #[.int .i64 Y.kind, .string Y.data, .slice hh.A Y.ptrs.length hh.a, .int .i64 Y.size, .int .i64 Y.count, .slice hh.B Y.items.length hh.b] nodeT)) w5.heap.size hh bsh) := Lib.hid ⟨heap_alloc_new w5 (.cells #[.int .i64 Y.kind, .string Y.data, .slice hh.A Y.ptrs.length hh.a, .int .i64 Y.size, .int .i64 Y.count, .slice hh.B Y.items.length hh.b] nodeT), how.below hba, hndw, fun b hb => ⟨hfw b hb, by have := (how.lt b hb).1; omega⟩, hb5.size⟩
 replace HV := Lib.hid (HV.out.below hbb)
 replace HGR := Lib.hid ((hbb.block _ (row_lt HGR.out)).trans HGR.out)
 replace HB := Lib.hid (HB.out.trans (hbb.mono HB.out.size))
 replace HK := Lib.hid (HK.out.trans (hbb.mono HK.out.size))
 clear how hndw hfw hb5 hba hbb
 obtain ⟨v0, v1, v2, v3, v4, v5⟩ := cells6 HV.out.row
 obtain ⟨y0, y1, y2, y3, y4, y5⟩ := cells6 HH.out.row
 go_wp2_with fail
 generalize w5.alloc (.cells #[.int .i64 Y.kind, .string Y.data, .slice hh.A Y.ptrs.length hh.a, .int .i64 Y.size, .int .i64 Y.count, .slice hh.B Y.items.length hh.b] nodeT) = W9 at *
 generalize w5.heap.size = vh at *
 have HQ := Lib.hid (HEY.out _ _ _ hh hw HH.out.own.nd HV.out.own.nd)
 refine HQ.out.mono ?_
 rintro e wy ⟨rfl, hby⟩
 clear v0 v1 v2 v3 v4 v5 y0 y1 y2 y3 y4 y5 HQ HH
 replace HV := Lib.hid (HV.out.below hby)
 replace HGR := Lib.hid ((hby.block _ (row_lt HGR.out)).trans HGR.out)
 replace HB := Lib.hid (HB.out.trans (hby.mono HB.out.size))
 replace HK := Lib.hid (HK.out.trans (hby.mono HK.out.size))
 clear hby
 obtain ⟨y0, y1, y2, y3, y4, y5⟩ := cells6 HGR.out
 go_wp2_with fail
 refine (HHE.out _ HK.out).mono ?_
 rintro e wz ⟨rfl, hbz⟩
 clear y0 y1 y2 y3 y4 y5
 replace HB := Lib.hid (HB.out.trans (hbz.mono HB.out.size))
 clear hbz
 go_wp2
 go_ret
 exact ⟨rfl, HB.out⟩
end Go.Proofs.YtehhbbdaeonebaaGreatDoor
namespace Go.Proofs.YtehhbbdaeonebaaGreatDoor
open Go.RowKit
def tab64 : List Int := [0, 1, 56, 2, 57, 49, 28, 3, 61, 58, 42, 50, 38, 29, 17, 4, 62, 47, 59, 36, 45, 43, 51, 22, 53, 39, 33, 30, 24, 18, 12, 5, 63, 55, 48, 27, 60, 41, 37, 16, 46, 35, 44, 21, 52, 32, 23, 11, 54, 26, 40, 15, 34, 20, 31, 10, 25, 14, 19, 9, 13, 8, 7, 6]
theorem tab64_eq : (Rows.laid_math_bits_deBruijn64tab (H := Unit)) = Lib.tabData .u8 tab64 := by rfl
theorem tab_of {W : World} (h : laidMetH Tryz.prog [("math/bits.deBruijn32tab", Rows.laid_math_bits_deBruijn32tab), ("math/bits.deBruijn64tab", Rows.laid_math_bits_deBruijn64tab)] W) : Tab W := by
 rw [MakeChecks.laidMetH_plain _ _ _ (by kernel_rfl)] at h
 have h1 := laidMet.tail h
 rw [tab64_eq] at h1
 have hT := Lib.tabIs_of_head (g := 2) (t := 181) (e := 5) (n := 64) (by kernel_rfl) (by kernel_rfl) Tryz.underlying181 Tryz.underlying5 (by kernel_rfl) (by kernel_rfl) h1
 have hg : Tryz.prog.globalNamed "math/bits.deBruijn64tab" = some 2 := by kernel_rfl
 exact ⟨hT.cell hg 0 (by decide), hT.cell hg 7 (by decide), hT.cell hg 15 (by decide), hT.cell hg 31 (by decide), hT.cell hg 63 (by decide)⟩
open Go.RowKit Go.ChangeShapes Go.WideShapes Go.Deep
section
variable {H : Type} {enc : TypeId × Value → H} {P : Program} {w : World} {base : Nat} {spare : Nat → Bool} {held : Bool}
theorem open_slice_flds {t e : TypeId} {fs : Array Field} {fuel : Nat} {cs : List Value} {x : DataW H × List MemPlace} (ht : P.underlying t = some (.slice e)) (he : P.underlying e = some (.struct fs))
 (hone : oneCellFields P fs = true) (hC : P.cellsOf e = fs.size) (h : DataW.trod enc P w base spare held fuel t cs = some x) :
 cs = [.slice none 0 0] ∨
 ∃ (a : Addr) (len cap : Nat), cs = [.slice (some a) len cap] ∧ len ≤ cap ∧ cap ≤ maxLen ∧
  ∀ i, i < len → ∀ (j : Nat) (f : Field), fs[j]? = some f → ∃ (v : Value) (n : Nat) (y : DataW H × List MemPlace), w.cell? (a.add (i * fs.size + j)) = some v ∧ DataW.trod enc P w base spare held n f.type [v] = some y := by
 rcases open_slice ht h with ⟨h0, _⟩ | ⟨a, len, cap, m, n, D, Pl, hcs, hb, hl, hm, hmm, hx, hi⟩
 · exact .inl h0
 · refine .inr ⟨a, len, cap, hcs, hl, hm, fun i hil j f hj => ?_⟩
   have him : i < m := by rw [hmm]; split <;> omega
   obtain ⟨cs', hc, ht'⟩ := hi i him
   rw [hC] at hc
   obtain ⟨ys, n', hn', hy, hlen, hyl, hf⟩ := DataW.trod_struct he ht'
   obtain ⟨_, hcl, hat⟩ := World.cells?_some hc
   obtain ⟨ho, hk⟩ := hone_of hone j f hj
   have hjl : j < fs.size := (Array.getElem?_eq_some_iff.1 hj).1
   have hcell := hat j hjl
   have hv : cs'[j]? = some (cs'[j]'(by omega)) := List.getElem?_eq_getElem (by omega)
   have h1 := hf j f hj
   rw [ho, hk] at h1
   have hone' : (cs'.drop j).take 1 = [cs'[j]'(by omega)] := by
    rw [List.drop_eq_getElem_cons (by omega)]
    rfl
   rw [hone'] at h1
   have hys : ys[j]? = some (ys[j]'(by omega)) := List.getElem?_eq_getElem (by omega)
   refine ⟨_, _, _, ?_, h1.trans hys⟩
   rw [← Go.Deep.add_add, hcell, hv]
theorem argF {fuel : Nat} {a : Option Addr} {len cap : Nat} {x : DataW H × List MemPlace} (h : DataW.trod enc Tryz.prog w base spare held fuel 22 [.slice a len cap] = some x) :
 ∃ l : List Fld, l.length = len ∧ Flds w a l ∧ len ≤ maxLen := by
 rcases open_slice_flds Tryz.underlying22 Tryz.underlying69 (by kernel_rfl) (by kernel_rfl) h with hcs | ⟨b, l, c, hcs, hl, hm, hc⟩
 · simp at hcs
   obtain ⟨rfl, rfl, rfl⟩ := hcs
   exact ⟨[], rfl, .inl rfl, by decide⟩
 · simp at hcs
   obtain ⟨rfl, rfl, rfl⟩ := hcs
   have hcell : ∀ i, i < len → ∃ f : Fld, w.cell? (b.add (i * 3)) = some (.int .i64 f.size) ∧ w.cell? (b.add (i * 3 + 1)) = some (.bool f.choice) ∧ w.cell? (b.add (i * 3 + 2)) = some (.int .i64 f.els) := by
    intro i hi
    obtain ⟨v0, n0, y0, c0, t0⟩ := hc i hi 0 _ rfl
    obtain ⟨v1, n1, y1, c1, t1⟩ := hc i hi 1 _ rfl
    obtain ⟨v2, n2, y2, c2, t2⟩ := hc i hi 2 _ rfl
    obtain ⟨z0, e0, _⟩ := DataW.trod_int Tryz.underlying3 t0
    obtain ⟨z1, e1, _⟩ := DataW.trod_bool Tryz.underlying4 t1
    obtain ⟨z2, e2, _⟩ := DataW.trod_int Tryz.underlying3 t2
    injection e0 with e0
    injection e1 with e1
    injection e2 with e2
    subst e0 e1 e2
    exact ⟨⟨z0, z1, z2⟩, c0, c1, c2⟩
   haveI : Inhabited Fld := ⟨⟨0, false, 0⟩⟩
   obtain ⟨g, hg⟩ := choose_lt hcell
   refine ⟨(List.range len).map g, by simp, ?_, Nat.le_trans hl hm⟩
   by_cases h0 : len = 0
   · subst h0; exact .inl rfl
   · refine .inr ⟨b, rfl, ?_, fun k f hk => ?_⟩
     · have := World.block_lt_of_cell? w _ (hg 0 (by omega)).1
       rwa [addr_block] at this
     · rw [List.getElem?_map] at hk
       by_cases hlt : k < len
       · rw [List.getElem?_range hlt] at hk
         injection hk with hk
         subst hk
         obtain ⟨c0, c1, c2⟩ := hg k hlt
         exact ⟨c0, by rw [add_off2 _ _ 1 (by decide)]; exact c1, by rw [add_off2 _ _ 2 (by decide)]; exact c2⟩
       · rw [List.getElem?_eq_none (by simpa using hlt)] at hk; cases hk
end
section
variable {H : Type} {enc : TypeId × Value → H} {w : World} {base : Nat} {spare : Nat → Bool} {held : Bool}
theorem val_open {fuel : Nat} {cs : List Value} {x : DataW H × List MemPlace} (h : DataW.trod enc Tryz.prog w base spare held fuel 84 cs = some x) :
 ∃ (n : Nat) (z k s c : Int) (d : ByteArray) (A2 : Option Addr) (c2 : Nat) (l2 : List Nd) (A5 : Option Addr) (c5 : Nat) (l5 : List Nd), n ≤ fuel ∧ (Lit.int .i64 z).wf = true ∧
  cs = [.int .i64 z, .int .i64 k, .string d, .slice A2 l2.length c2, .int .i64 s, .int .i64 c, .slice A5 l5.length c5] ∧ NdAt w Any n (.mk k d l2 s c l5) ⟨A2, c2, A5, c5⟩ := by
 obtain ⟨xs, n, rfl, -, hl, hlen, hg⟩ := DataW.trod_struct Tryz.underlying84 h
 have hl7 : cs.length = 7 := hl.trans (by kernel_rfl)
 match cs, hl7 with
 | [v0, v1, v2, v3, v4, v5, v6], _ =>
  match xs, hlen with
  | [y0, y1], _ =>
   have g0 : DataW.trod enc Tryz.prog w base spare held n 3 (([v0, v1, v2, v3, v4, v5, v6].drop 0).take ((Tryz.prog).cellsOf 3)) = some y0 := hg 0 _ rfl
   have g1 : DataW.trod enc Tryz.prog w base spare held n 25 (([v0, v1, v2, v3, v4, v5, v6].drop 1).take ((Tryz.prog).cellsOf 25)) = some y1 := hg 1 _ rfl
   rw [show (Tryz.prog).cellsOf 3 = 1 by kernel_rfl] at g0
   rw [show (Tryz.prog).cellsOf 25 = 6 by kernel_rfl] at g1
   simp at g0 g1
   obtain ⟨z, e0, _, w0⟩ := DataW.trod_int Tryz.underlying3 g0
   obtain ⟨n', k, s, c, d, u2, u5, y, z', rfl, hcs, hd, g2, g5⟩ := node_open g1
   obtain ⟨A2, c2, l2, rfl, hn2⟩ := nds_open _ u2 y g2
   obtain ⟨A5, c5, l5, rfl, hn5⟩ := nds_open _ u5 z' g5
   simp only [List.cons.injEq, and_true] at e0 hcs
   obtain ⟨rfl, rfl, rfl, rfl, rfl, rfl⟩ := hcs
   subst e0
   exact ⟨n', z, k, s, c, d, A2, c2, l2, A5, c5, l5, by omega, w0, rfl, hd, hn2, hn5⟩
theorem argV {fuel : Nat} {a : Option Addr} {len cap : Nat} {x : DataW H × List MemPlace} (h : DataW.trod enc Tryz.prog w base spare held fuel 45 [.slice a len cap] = some x) :
 ∃ (m : Nat) (vs : List Vl), vs.length = len ∧ ValsAt w Any m a vs ∧ len ≤ maxLen ∧ ∀ k, -9223372036854775808 ≤ (vlK vs k).num ∧ (vlK vs k).num ≤ 9223372036854775807 := by
 rcases DataW.trod_slice Tryz.underlying45 h with ⟨hv, _⟩ | ⟨b, len', cap', elems, rest, n, rfl, hv, -, -, hl, hm, hel, he, -, -⟩
 · simp at hv
   obtain ⟨rfl, rfl, rfl⟩ := hv
   exact ⟨0, [], rfl, .inl rfl, by decide, fun k => by show -9223372036854775808 ≤ (0 : Int) ∧ (0 : Int) ≤ 9223372036854775807; decide⟩
 · simp at hv
   obtain ⟨rfl, rfl, rfl⟩ := hv
   have hall : ∀ i, i < len → ∃ r : Vl × Hd, VAt w Any n (b.add (i * 7)) r.1 r.2 ∧ (Lit.int .i64 r.1.num).wf = true := by
    intro i hi
    have h1 := he i hi
    rw [List.getElem?_eq_getElem (by omega), Option.bind_eq_some_iff, show (Tryz.prog).cellsOf 84 = 7 by kernel_rfl] at h1
    obtain ⟨cs, hcs, ht⟩ := h1
    obtain ⟨n', z, k, s, c, d, A2, c2, l2, A5, c5, l5, hn, hw, rfl, hnd⟩ := val_open ht
    have hat := cells_le hcs
    have e0 := hat 0 (by decide)
    have e1 := hat 1 (by decide)
    have e2 := hat 2 (by decide)
    have e3 := hat 3 (by decide)
    have e4 := hat 4 (by decide)
    have e5 := hat 5 (by decide)
    have e6 := hat 6 (by decide)
    rw [Go.Deep.add_add] at e0 e1 e2 e3 e4 e5 e6
    simp at e0 e1 e2 e3 e4 e5 e6
    refine ⟨(⟨z, .mk k d l2 s c l5⟩, ⟨A2, c2, A5, c5⟩), ⟨e0, ⟨?_, ?_, ?_, ?_, ?_, ?_⟩, hnd.mono hn⟩, hw⟩
    · show w.cell? ⟨(b.add (i * 7)).block, (b.add (i * 7)).off + 1, none⟩ = _
      rw [add_offs _ _ 1 (by decide)]; exact e1
    · show w.cell? ⟨(b.add (i * 7)).block, (b.add (i * 7)).off + 2, none⟩ = _
      rw [add_offs _ _ 2 (by decide)]; exact e2
    · show w.cell? ⟨(b.add (i * 7)).block, (b.add (i * 7)).off + 3, none⟩ = _
      rw [add_offs _ _ 3 (by decide)]; exact e3
    · show w.cell? ⟨(b.add (i * 7)).block, (b.add (i * 7)).off + 4, none⟩ = _
      rw [add_offs _ _ 4 (by decide)]; exact e4
    · show w.cell? ⟨(b.add (i * 7)).block, (b.add (i * 7)).off + 5, none⟩ = _
      rw [add_offs _ _ 5 (by decide)]; exact e5
    · show w.cell? ⟨(b.add (i * 7)).block, (b.add (i * 7)).off + 6, none⟩ = _
      rw [add_offs _ _ 6 (by decide)]; exact e6
   haveI : Inhabited (Vl × Hd) := ⟨(⟨0, noneNd⟩, default)⟩
   obtain ⟨g, hg⟩ := choose_lt hall
   refine ⟨n, (List.range len).map fun i => (g i).1, by simp, ?_, Nat.le_trans hl hm, fun k => ?_⟩
   · by_cases h0 : len = 0
     · subst h0; exact .inl rfl
     · refine .inr ⟨b, rfl, ?_, fun i hi => ?_⟩
       · have := World.block_lt_of_cell? w _ (hg 0 (by omega)).1.num
         rwa [addr_block] at this
       · have hi' : i < len := by simpa using hi
         refine ⟨(g i).2, ?_⟩
         rw [List.getElem_map, List.getElem_range]
         exact (hg i hi').1
   · by_cases hk : k < len
     · rw [vlK_at (by simpa using hk), List.getElem_map, List.getElem_range]
       exact wf_bd (hg k hk).2
     · unfold vlK
       rw [List.getElem?_eq_none (by simpa using hk)]
       show -9223372036854775808 ≤ (0 : Int) ∧ (0 : Int) ≤ 9223372036854775807
       decide
end
end Go.Proofs.YtehhbbdaeonebaaGreatDoor
