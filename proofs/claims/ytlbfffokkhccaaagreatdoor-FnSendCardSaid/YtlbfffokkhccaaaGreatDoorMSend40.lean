/- Texts of the proof of the law FnSend, side by side: part 40. -/
import Derived.OpenShut
import Derived.Test.YtlbfffokkhccaaaGreatDoorMSend39
set_option maxHeartbeats 8000000
set_option maxRecDepth 100000
namespace Go.Proofs.YtlbfffokkhccaaaGreatDoor
open Go.RowKit Go.Deep
theorem l3Pack_at (s : ByteArray) (W : World) (hw : wordsB s.size = true) : Calls Tryz.prog 53 #[.string s] W fun e w' => e = .returned (.string ⟨(packB s.data.toList).toArray⟩) ∧ Below W.heap.size W w' := by
 have hsl : s.data.toList.length = s.size := rfl
 have hT : packB s.data.toList = packW (wl (wordsQ s.data.toList)) := by rw [packB, hsl, hw, if_pos rfl]
 have hw8 : s.size % 8 = 0 ∧ s.size ≤ 1600 := by simpa [wordsB] using hw
 rw [hT]
 exact l3Pack_any s (wl (wordsQ s.data.toList)) W (wl_flat _ (by rw [hsl]; exact hw8.1)).symm (wl_wds _) (by rw [wl_len, wordsQ_length, hsl]; omega)
theorem specSend_a (m : Nat) (n : Nd) (h : Hd) (w : World) (S : Nat → Prop) (size : Int) (hmx : ∀ x ∈ txR (bldV n size), x.size ≤ maxLen) (htot : tot (txR (bldV n size)) ≤ 1099511627776) (h6 : (txR (bldV n size)).length ≤ 6) (hn : NdAt w S m n h) (ht : totN m n ≤ 2000000) :
 Calls Tryz.prog 23 #[.agg #[.int .i64 n.kind, .string n.data, .slice h.A n.ptrs.length h.a, .int .i64 n.size, .int .i64 n.count, .slice h.B n.items.length h.b], .int .i64 size] w fun e w' => e = .returned (.tuple #[.string (sndS (bldV n size)), .bool (sndB (bldV n size))]) ∧ Below w.heap.size w w' := by
 obtain ⟨qA, qa, qB, qb⟩ := h
 have hb0 := (Below.refl w.heap.size w).alloc (Nat.le_refl _) (.cells #[.int .i64 n.kind, .string n.data, .slice qA n.ptrs.length qa, .int .i64 n.size, .int .i64 n.count, .slice qB n.items.length qb] nodeT)
 have HB0 := Lib.hid hb0
 have HC := Lib.hid ((specBuild_a m n ⟨qA, qa, qB, qb⟩ _ S size (hn.below hb0) ht).mono (fun _ _ h => h.uni))
 dsimp only at HC ⊢
 have HMX := Lib.hid hmx
 have hfs := sndF_size (bldV n size)
 have HFP := Lib.hid (fun (W : World) (A : Option Addr) (c : Nat) (hs : Strs W A (txR (bldV n size))) => specFramePut_any A c (txR (bldV n size)) W hs (by omega) htot)
 have HIW := Lib.hid (fun (W : World) => l1Ok_any3 (sndF (bldV n size)) W (by unfold maxLen; omega))
 have HPK : Hid (wordsB (sndF (bldV n size)).size = true → ∀ W : World, Calls Tryz.prog 53 #[.string (sndF (bldV n size))] W fun e w' => e = .returned (.string ⟨(packB (sndF (bldV n size)).data.toList).toArray⟩) ∧ Below W.heap.size W w') := Lib.hid (fun hw W => l3Pack_at _ W hw)
 have HFE : Hid ((⟨(frameL (txR (bldV n size))).toArray⟩ : ByteArray) = sndF (bldV n size)) := Lib.hid rfl
 rw [HFE.out] at HFP
 have hsB : sndB (bldV n size) = ((bldV n size).isSome && wordsB (sndF (bldV n size)).size) := rfl
 have hsS : sndS (bldV n size) = if sndB (bldV n size) = true then ⟨(packB (sndF (bldV n size)).data.toList).toArray⟩ else { data := #[] } := rfl
 rw [hsS, hsB]
 clear hsB hsS HFE hn hb0 hmx
 generalize txR (bldV n size) = ss at *
 generalize hF : sndF (bldV n size) = F at *
 generalize hO : (bldV n size).isSome = ok at *
 generalize (⟨(packB F.data.toList).toArray⟩ : ByteArray) = PK at *
 cases hw : wordsB F.size <;> cases ok
 all_goals
  rw [hw] at HIW
  have HPK := Lib.hid (fun (e : wordsB F.size = true) => HPK.out e)
  have HWE := Lib.hid hw
  simp only [Bool.and_true, Bool.and_false, Bool.true_and, Bool.false_and, if_true, Bool.false_eq_true, if_false]
  clear hw hF hO
  go_enter Tryz.func23, Tryz.ntmps23
  go_wp2_with fail
  refine HC.out.mono ?_
  rintro e w1 ⟨A, c, rfl, hst, -, -, hb1⟩
  have HB1 := Lib.hid (HB0.out.trans (hb1.mono HB0.out.size))
  have HST := Lib.hid hst
  clear hb1 hst HC
 · go_wp2
   exact bodyPost_ret (v := .tuple #[.string { data := #[] }, .bool false]) (by simp [results, Tryz.results23, go_sem]) rfl ⟨rfl, HB1.out⟩
 · go_wp2_with fail
   refine (HFP.out _ A c HST.out).mono ?_
   rintro e w2 ⟨rfl, hb2⟩
   have HB2 := Lib.hid (HB1.out.trans (hb2.mono HB1.out.size))
   clear hb2
   go_wp2_with (first | (go_at_call 52; refine (HIW.out _).mono ?_; rintro e w3 ⟨rfl, rfl⟩) | (go_at_call 53; refine (HPK.out HWE.out _).mono ?_; rintro e w4 ⟨rfl, hb4⟩; have HB2 := Lib.hid (HB2.out.trans (hb4.mono HB2.out.size)); clear hb4))
   exact bodyPost_ret (v := .tuple #[.string { data := #[] }, .bool false]) (by simp [results, Tryz.results23, go_sem]) rfl ⟨rfl, HB2.out⟩
 · go_wp2
   exact bodyPost_ret (v := .tuple #[.string { data := #[] }, .bool false]) (by simp [results, Tryz.results23, go_sem]) rfl ⟨rfl, HB1.out⟩
 · go_wp2_with fail
   refine (HFP.out _ A c HST.out).mono ?_
   rintro e w2 ⟨rfl, hb2⟩
   have HB2 := Lib.hid (HB1.out.trans (hb2.mono HB1.out.size))
   clear hb2
   go_wp2_with (first | (go_at_call 52; refine (HIW.out _).mono ?_; rintro e w3 ⟨rfl, rfl⟩) | (go_at_call 53; refine (HPK.out HWE.out _).mono ?_; rintro e w4 ⟨rfl, hb4⟩; have HB2 := Lib.hid (HB2.out.trans (hb4.mono HB2.out.size)); clear hb4))
   exact bodyPost_ret (v := .tuple #[.string PK, .bool true]) (by simp [results, Tryz.results23, go_sem]) rfl ⟨rfl, HB2.out⟩
end Go.Proofs.YtlbfffokkhccaaaGreatDoor
namespace Go.Proofs.YtlbfffokkhccaaaGreatDoor
open Go.RowKit
theorem bld_sok {n : Nd} {z : Int} {ss : Segs} (h : bldV n z = some ss) : SOk LS ss := by
 unfold bldV at h
 split at h
 · rename_i hh
   obtain ⟨h1, h2⟩ := node_ok hh.1
   have hs := (wr_some 200 z.toNat 8 n [zer 1] 0 0 ss h1 (SOKL 200 (by omega)) (by decide) (by decide) h).1
   exact ⟨hs.wds, hs.one, hs.six, Nat.le_trans hs.totS (by decide)⟩
 · cases h
theorem txR_facts (n : Nd) (z : Int) : (∀ x ∈ txR (bldV n z), x.size ≤ maxLen) ∧ (txR (bldV n z)).length ≤ 6 ∧ tot (txR (bldV n z)) ≤ 1099511627776 := by
 cases h : bldV n z with
 | none => exact ⟨(fun x hx => by cases hx), by decide, by decide⟩
 | some ss =>
  have hk := bld_sok h
  refine ⟨fun s hs => ?_, by rw [show txR (some ss) = txS ss from rfl, txS_length]; exact hk.six, tot_txS hk⟩
  change s ∈ txS ss at hs
  obtain ⟨x, hx, rfl⟩ := List.mem_map.1 hs
  obtain ⟨i, hi, e⟩ := List.getElem_of_mem hx
  have h1 := sb_len hk i
  rw [sgq_eq hi, e] at h1
  have hs : (⟨x.toArray⟩ : ByteArray).size = x.length := by simp [ByteArray.size]
  rw [hs]
  unfold maxLen
  omega
theorem packB_words {l : List UInt8} (h : wordsB l.length = true) : packB l = packW (wl (wordsQ l)) := by rw [packB, if_pos h]
theorem wordsB_iff (n : Nat) : wordsB n = true ↔ n % 8 = 0 ∧ n ≤ 1600 := by simp [wordsB]
theorem packB_un {l : List UInt8} (h : wordsB l.length = true) : unW (packB l) = some l := by
 rw [packB_words h, unW_pack (wl_wds _), wl_flat l ((wordsB_iff _).1 h).1]
theorem unV_of {s : ByteArray} {l : List UInt8} (h : unW s.data.toList = some l) (hl : l.length ≤ 1600) : unV s = .tuple #[.string ⟨l.toArray⟩, .bool true] := by
 have h2 : fitU [] (unW s.data.toList) = some l := by rw [h]; simp [fitU, hl]
 rw [unV, h2]
def Arg (w : World) (a : Option Addr) (len cap : Nat) : Prop := Code w w.heap.size a len ∧ len ≤ cap ∧ (a = none → len = 0)
theorem opened_below {w w1 w2 : World} {R n : Nat} (hR : w.heap.size ≤ R) (hb : Below w.heap.size w w1) (hp : Picked w1 R n w2) : Below w.heap.size w w2 :=
 hb.trans (hp.2.below hb.size hR)
theorem arg_nil (w : World) : Arg w none 0 0 := ⟨⟨by decide, .inl rfl⟩, Nat.le_refl _, fun _ => rfl⟩
theorem wf_u8 {n : Int} (h : (Lit.int .u8 n).wf = true) : ∃ b : UInt8, n = (b.toNat : Int) := by
 simp [Lit.wf, IntKind.min, IntKind.max, IntKind.bits, IntKind.signed] at h
 refine ⟨UInt8.ofNat n.toNat, ?_⟩
 rw [UInt8.toNat_ofNat']
 omega
theorem arg_row {w : World} {x : Addr} {l c : Nat} {zs : List Int} (hl : l ≤ c) (hm : c ≤ maxLen) (hz : zs.length = c) (hcell : ∀ i, i < zs.length → w.cell? (x.add i) = some (.int .u8 (zs.getD i 0))) (hwz : ∀ n ∈ zs, (Lit.int .u8 n).wf = true) :
 Arg w (some x) l c := by
 refine ⟨⟨Nat.le_trans hl hm, ?_⟩, hl, fun h => by cases h⟩
 by_cases h0 : l = 0
 · exact .inl h0
 · refine .inr ⟨x, rfl, ?_, fun i hi => ?_⟩
   · have h := World.block_lt_of_cell? w _ (hcell 0 (by omega))
     rwa [addr_block] at h
   · have hi' : i < zs.length := by omega
     obtain ⟨b, hb⟩ := wf_u8 (hwz zs[i] (List.getElem_mem hi'))
     refine ⟨b, ?_⟩
     rw [hcell i hi', List.getD, List.getElem?_eq_getElem hi', ← hb]
     rfl
def pkS (s : ByteArray) : ByteArray := ⟨(packB s.data.toList).toArray⟩
open Go.RowKit Go.Deep
def dK : Nat → Nat
 | 0 => 0
 | d + 1 => 50 + 6 * dK d
def dT : Nat → Nat
 | 0 => 0
 | d + 1 => 1001 + 6 * dT d
def DrN (d : Nat) : Prop := ∀ (R n : Nat) (w : World), Rd w R n → n + dK d ≤ 500000 → Calls Tryz.prog 65 #[.pointer (some ⟨R, 0, none⟩), .int .i64 (d : Int)] w (NdP (2 * d) (dT d) R (n + dK d) w)
theorem NdAt.picked {w w' : World} {R n B m : Nat} {x : Nd} {h : Hd} (hn : NdAt w (FromC w B) m x h) (hp : Picked w R n w') (hR : R < B) : NdAt w' (FromC w' B) m x h :=
 hn.map' (fun k hk hs => ⟨hs.1, clean_of hs.2 (hp.2.block k hk (by have := hs.1; omega))⟩) (fun p _ _ hs hc => hc.block (hp.2.block _ hc.lt (by have := hs.1; omega)))
def StD (g : Nat) (k : Nat) (w : World) : Prop := ∃ dd : ByteArray, dd.size = 8 * k ∧ w.heap[g]? = some (.cells #[.int .i64 1, .string dd, .slice none 0 0, .int .i64 0, .int .i64 0, .slice none 0 0] nodeT (0, 0))
theorem l13Struct_any (d : Nat) (hN : DrN d) (R n : Nat) (data ptrs : Nat) (w : World) (h : Rd w R n) (hn : n + 3 * data + ptrs * dK d ≤ 500000) (hd : data ≤ 3) (hp : ptrs ≤ 3) (hdd : d ≤ 8) (_hkd : dK d ≤ 20000) (_htd : dT d ≤ 300000) :
 Calls Tryz.prog 115 #[.pointer (some ⟨R, 0, none⟩), .int .i64 data, .int .i64 ptrs, .int .i64 ((d : Int) + 1)] w (NdP (2 * d + 1) (8 * data + ptrs * (1 + dT d)) R (n + 3 * data + ptrs * dK d) w) := by
 have hRw := h.lt
 obtain ⟨i0, hi, hz0, hz1, hz2⟩ := info_parts infoNd
 have hq0 := h.self.below (((Below.refl w.heap.size w).alloc (Nat.le_refl _) (.cells #[.int .i64 0, .string { data := #[] }, .slice none 0 0, .int .i64 0, .int .i64 0, .slice none 0 0] nodeT)).alloc (by simp) (.cells #[.int .i64 1, .string { data := #[] }, .slice none 0 0, .int .i64 0, .int .i64 0, .slice none 0 0] nodeT))
 have hr0 : ((w.alloc (.cells #[.int .i64 0, .string { data := #[] }, .slice none 0 0, .int .i64 0, .int .i64 0, .slice none 0 0] nodeT)).alloc (.cells #[.int .i64 1, .string { data := #[] }, .slice none 0 0, .int .i64 0, .int .i64 0, .slice none 0 0] nodeT)).heap[w.heap.size]? = some (.cells #[.int .i64 0, .string { data := #[] }, .slice none 0 0, .int .i64 0, .int .i64 0, .slice none 0 0] nodeT (0, 0)) := (Below.heap_alloc _ _ _ (by simp)).trans (heap_alloc_new w _)
 have hx0 : ((w.alloc (.cells #[.int .i64 0, .string { data := #[] }, .slice none 0 0, .int .i64 0, .int .i64 0, .slice none 0 0] nodeT)).alloc (.cells #[.int .i64 1, .string { data := #[] }, .slice none 0 0, .int .i64 0, .int .i64 0, .slice none 0 0] nodeT)).heap[w.heap.size + 1]? = some (.cells #[.int .i64 1, .string { data := #[] }, .slice none 0 0, .int .i64 0, .int .i64 0, .slice none 0 0] nodeT (0, 0)) := by have := heap_alloc_new (w.alloc (.cells #[.int .i64 0, .string { data := #[] }, .slice none 0 0, .int .i64 0, .int .i64 0, .slice none 0 0] nodeT)) (.cells #[.int .i64 1, .string { data := #[] }, .slice none 0 0, .int .i64 0, .int .i64 0, .slice none 0 0] nodeT); rwa [show (w.alloc (.cells #[.int .i64 0, .string { data := #[] }, .slice none 0 0, .int .i64 0, .int .i64 0, .slice none 0 0] nodeT)).heap.size = w.heap.size + 1 by simp] at this
 have hs0 : ((w.alloc (.cells #[.int .i64 0, .string { data := #[] }, .slice none 0 0, .int .i64 0, .int .i64 0, .slice none 0 0] nodeT)).alloc (.cells #[.int .i64 1, .string { data := #[] }, .slice none 0 0, .int .i64 0, .int .i64 0, .slice none 0 0] nodeT)).heap.size = w.heap.size + 2 := by simp
 have HQ0 := Lib.hid hq0
 have HR0 := Lib.hid hr0
 have HX0 := Lib.hid hx0
 have HNN := Lib.hid hN
 clear h hq0 hr0 hx0 hN
 go_enter Tryz.func115, Tryz.ntmps115
 go_wp2_with fail
 generalize (w.alloc (.cells #[.int .i64 0, .string { data := #[] }, .slice none 0 0, .int .i64 0, .int .i64 0, .slice none 0 0] nodeT)).alloc (.cells #[.int .i64 1, .string { data := #[] }, .slice none 0 0, .int .i64 0, .int .i64 0, .slice none 0 0] nodeT) = W0 at *
 go_loopw [10] (fun i wr => ∃ k : Nat, i = .int .i64 k ∧ k ≤ data ∧ Hid (StD (w.heap.size + 1) k wr) ∧ Hid (wr.heap[w.heap.size]? = some (.cells #[.int .i64 0, .string { data := #[] }, .slice none 0 0, .int .i64 0, .int .i64 0, .slice none 0 0] nodeT (0, 0))) ∧ Hid (Picked w R (n + 3 * k) wr ∧ w.heap.size + 2 ≤ wr.heap.size)) (fun i _ => data - (intOf i).toNat)
 case atStart => exact ⟨0, rfl, by omega, Lib.hid ⟨_, rfl, HX0.out⟩, HR0, Lib.hid ⟨HQ0.out, by omega⟩⟩
 case round =>
  obtain ⟨k, rfl, hk, HS, HZ, HP⟩ := hrel
  obtain ⟨dd, hds, hrow⟩ := HS.out
  obtain ⟨hpk, hsz⟩ := HP.out
  have hdb : dd.size ≤ 24 := by omega
  by_cases hlt : k < data
  · have hc := cells6 hrow
    obtain ⟨c0, c1, c2, c3, c4, c5⟩ := hc
    have hfr := row_free hrow 1
    have HPK := Lib.hid hpk
    have HROW := Lib.hid hrow
    have HDS := Lib.hid hds
    have hdr : (wr.drew).heap.size = wr.heap.size := rfl
    clear hpk hrow hds HS HP
    go_wp2_with fail
    go_region_with (go_at_call 156; go_must (refine (l13Word_any R (n + 3 * k) _ (by exact HPK.out.1.below ⟨rfl, rfl, rfl, Nat.le_refl _, fun _ _ => rfl⟩) (by omega)).mono ?_); rintro e w2 ⟨u, hu, rfl, hp2⟩; have hx2 := pick_rowN (w := wr.drew) HROW.out hp2 (by omega); obtain ⟨q0, q1, q2, q3, q4, q5⟩ := cells6 hx2; have qf := row_free hx2 1; have f1 : ¬ 9223372036854775807 < dd.size + u.size := by omega)
    all_goals
     have hp3 : Picked wr R (n + 3 * k + 3) w2 := ⟨hp2.1, ⟨hp2.2.os, hp2.2.tape, hp2.2.output, hp2.2.size, hp2.2.block⟩⟩
     have HP3 := Lib.hid (picked_storeN (HPK.out.then hp3) hRw (b := w.heap.size + 1) (by omega) 1 (.string (dd ++ u)))
     have HS3 : Hid (StD (w.heap.size + 1) (k + 1) (w2.setCell ⟨w.heap.size + 1, 1, none⟩ (.string (dd ++ u)))) := Lib.hid ⟨dd ++ u, by rw [getD_size, HDS.out, hu]; omega, row_setN hx2 1 _⟩
     have HZ3 := Lib.hid ((Below.heap_setCell w2 ⟨w.heap.size + 1, 1, none⟩ (.string (dd ++ u)) w.heap.size (by simp)).trans (pick_rowN (w := wr) HZ.out hp3 (by omega)))
     have hsz3 : w.heap.size + 2 ≤ (w2.setCell ⟨w.heap.size + 1, 1, none⟩ (.string (dd ++ u))).heap.size := by have := hp3.2.size; simp [World.setCell]; omega
     have HPP := Lib.hid (And.intro (HP3.out.mono (show n + 3 * k + 3 ≤ n + 3 * (k + 1) by omega)) hsz3)
     clear hp2 hp3 hx2 q0 q1 q2 q3 q4 q5 qf hsz3 hu
     go_wp2
     go_roundw
     case rel => exact ⟨k + 1, by go_num, by omega, HS3, HZ3, HPP⟩
     case measure => simp [intOf]; omega
  · obtain rfl : k = data := by omega
    have HROW := Lib.hid hrow
    have HPK := Lib.hid hpk
    have HZ1 := Lib.hid HZ.out
    have HDS := Lib.hid hds
    clear hrow hpk hds HS HP hlt
    go_wp2_with fail
    go_loopw [11] (fun i wr => ∃ j : Nat, i = .int .i64 j ∧ j ≤ ptrs ∧ Hid (∃ (v : Value) (q : List (Nd × Hd)), wr.heap[w.heap.size + 1]? = some (.cells #[.int .i64 1, .string dd, v, .int .i64 0, .int .i64 0, .slice none 0 0] nodeT (0, 0)) ∧ q.length = j ∧ NRowC wr (w.heap.size + 2) v q (2 * d) (dT d)) ∧ Hid (wr.heap[w.heap.size]? = some (.cells #[.int .i64 0, .string { data := #[] }, .slice none 0 0, .int .i64 0, .int .i64 0, .slice none 0 0] nodeT (0, 0))) ∧ Hid (Picked w R (n + 3 * k + j * dK d) wr ∧ w.heap.size + 2 ≤ wr.heap.size)) (fun i _ => ptrs - (intOf i).toNat)
    case atStart => exact ⟨0, rfl, by omega, Lib.hid ⟨_, [], HROW.out, rfl, NRowC.nil _ _ _ _⟩, HZ1, Lib.hid ⟨by have := HPK.out; simpa using this, hsz⟩⟩
    case round =>
     clear hsz
     obtain ⟨j, rfl, hj, HS, HZ, HP⟩ := hrel
     obtain ⟨v, q, hrow, hql, hnr⟩ := HS.out
     obtain ⟨hpk, hsz⟩ := HP.out
     have HQL := Lib.hid hql
     by_cases hlt : j < ptrs
     · obtain ⟨c0, c1, c2, c3, c4, c5⟩ := cells6 hrow
       have hq1000 : q.length ≤ 1000 := by omega
       have HPK2 := Lib.hid hpk
       have HROW2 := Lib.hid hrow
       have HNR := Lib.hid hnr
       have hdr : (wr.drew).heap.size = wr.heap.size := rfl
       have hjk : j * dK d + dK d ≤ ptrs * dK d := by have := Nat.mul_le_mul_right (dK d) (show j + 1 ≤ ptrs by omega); rw [Nat.add_mul] at this; omega
       have hwr : IntKind.i64.wrap (d : Int) = (d : Int) := by rw [IntKind.wrap_i64]; omega
       have HC := Lib.hid (HNN.out R (n + 3 * k + j * dK d) wr.drew (by exact HPK2.out.1.below ⟨rfl, rfl, rfl, Nat.le_refl _, fun _ _ => rfl⟩) (by omega))
       unfold NdP at HC
       clear hpk hrow hnr HS HP hql
       go_wp2_with fail
       go_region_law (first | (refine step_append_nd rfl (.tmp 30) (.tmp 35) rfl (w.heap.size + 2) v q.length (rowOf q) (by simp [Act.eval]) (HO2.out.1.alloc _) ⟨w2.heap.size, 0, none⟩ 1 (y, hy) (by simp [Act.eval]) (cells_six_new w2 (y, hy) _) hq1000 (by simp; omega) ?_; intro A4 c4 w4 hown4 hgrow4 hat4; have hx4 := (hgrow4.out.block (w.heap.size + 1) (by simp; omega) (fun e => by have := (HO2.out.1.lt _ e.symm).1; omega)).trans ((Below.heap_alloc w2 _ (w.heap.size + 1) (by omega)).trans HX2.out); have qf4 := row_free hx4 2; obtain ⟨r0, r1, r2, r3, r4, r5⟩ := cells6 hx4) | (go_simp; go_at_call 65; (with_reducible refine HC.out.mono ?_); rintro e w2 ⟨y, hy, rfl, hny, hty, hp2⟩; have hx2 := pick_rowN (w := wr.drew) HROW2.out hp2 (by omega); have HX2 := Lib.hid hx2; have HO2 := Lib.hid (NRowC.picked (w := wr.drew) HNR.out.drew hp2 (by omega)); have hsz2 : wr.heap.size ≤ w2.heap.size := hp2.2.size; obtain ⟨q0, q1, q2, q3, q4, q5⟩ := cells6 hx2; have hlt2 := row_lt hx2; have qa : ∀ o, (w2.alloc o).cell? ⟨w.heap.size + 1, 2, none⟩ = some v := fun o => (((Below.refl w2.heap.size w2).alloc (Nat.le_refl _) o).cell hlt2).trans q2))
       all_goals
        have hp3 : Picked wr R (n + 3 * k + j * dK d + dK d) w2 := ⟨hp2.1, ⟨hp2.2.os, hp2.2.tape, hp2.2.output, hp2.2.size, hp2.2.block⟩⟩
        have hbel : Below w.heap.size w2 w4 := ((Below.refl w.heap.size w2).alloc (by omega) _).grown hgrow4.out (by simp; omega) (fun k hk => by have := (HO2.out.1.lt k hk).1; omega)
        have hp4 : Picked w R (n + 3 * k + j * dK d + dK d) w4 := by
         obtain ⟨⟨a, l, c, p, hpn, hr, hc⟩, hk⟩ := HPK2.out.then hp3
         exact ⟨⟨a, l, c, p, hpn, (hbel.block R hRw).trans hr, hc.keeps (R := w.heap.size) (Keeps.of_below hbel) (Nat.le_of_lt hRw) (Nat.le_of_lt hRw)⟩, ⟨hbel.os.trans hk.os, hbel.tape.trans hk.tape, hbel.output.trans hk.output, Nat.le_trans hk.size hbel.size, fun k hk1 hk2 => (hbel.block k hk1).trans (hk.block k hk1 hk2)⟩⟩
        have hnx := (HO2.out.alloc _).next (hny.belowC ((Below.refl w2.heap.size w2).alloc (Nat.le_refl _) _)) hty.1 (show w.heap.size + 2 ≤ (wr.drew).heap.size from hsz) (fun k hk => (HNR.out.1.lt k hk).2) hown4.out hgrow4.out hat4.out
        have HS5 : Hid (∃ (v' : Value) (q' : List (Nd × Hd)), (w4.setCell ⟨w.heap.size + 1, 2, none⟩ (.slice A4 (q.length + 1) c4)).heap[w.heap.size + 1]? = some (.cells #[.int .i64 1, .string dd, v', .int .i64 0, .int .i64 0, .slice none 0 0] nodeT (0, 0)) ∧ q'.length = j + 1 ∧ NRowC (w4.setCell ⟨w.heap.size + 1, 2, none⟩ (.slice A4 (q.length + 1) c4)) (w.heap.size + 2) v' q' (2 * d) (dT d)) := Lib.hid ⟨_, _, row_setN hx4 2 _, by have := HQL.out; simp; omega, hnx.store (by omega)⟩
        have HZ5 := Lib.hid ((Below.heap_setCell w4 ⟨w.heap.size + 1, 2, none⟩ (.slice A4 (q.length + 1) c4) w.heap.size (by simp)).trans ((hgrow4.out.block w.heap.size (by simp; omega) (fun e => by have := (HO2.out.1.lt _ e.symm).1; omega)).trans ((Below.heap_alloc w2 _ w.heap.size (by omega)).trans (pick_rowN (w := wr) HZ.out hp3 (by omega)))))
        have HP5 : Hid (Picked w R (n + 3 * k + (j + 1) * dK d) (w4.setCell ⟨w.heap.size + 1, 2, none⟩ (.slice A4 (q.length + 1) c4)) ∧ w.heap.size + 2 ≤ (w4.setCell ⟨w.heap.size + 1, 2, none⟩ (.slice A4 (q.length + 1) c4)).heap.size) := Lib.hid ⟨(picked_storeN hp4 hRw (b := w.heap.size + 1) (by omega) 2 _).mono (by rw [Nat.add_mul]; omega), by have := hbel.size; simp [World.setCell]; omega⟩
        clear hp2 hp3 hp4 hbel hnx hx4 hx2 hown4 hgrow4 hat4 q0 q1 q2 q3 q4 q5 r0 r1 r2 r3 r4 r5 qf4 qa hlt2 hny hty
        go_wp2
        go_roundw
        case rel => exact ⟨j + 1, by go_num, by omega, HS5, HZ5, HP5⟩
        case measure => simp [intOf]; omega
     · obtain rfl : j = ptrs := by omega
       obtain ⟨A, cap, hv, hnds, htot⟩ := hnr.nds (by omega)
       subst hv
       have HND := Lib.hid hnds
       have HTOT := Lib.hid htot
       have HROW3 := Lib.hid hrow
       have HPK3 := Lib.hid hpk
       obtain ⟨c0, c1, c2, c3, c4, c5⟩ := cells6 hrow
       have hz0 : ∀ k, wr.cell? ⟨w.heap.size, k, none⟩ = (#[.int .i64 0, .string { data := #[] }, .slice none 0 0, .int .i64 0, .int .i64 0, .slice none 0 0] : Array Value)[k]? := fun k => cell_of_row _ _ _ _ _ _ HZ.out
       have hzf := row_free HZ.out
       clear hnr hnds htot hrow hpk HS HP hql hlt hi
       go_wp2_with fail
       obtain ⟨wf, hwf, hrw, hpw, huw⟩ := store6 (w1 := wr) (b := w.heap.size) HZ.out HPK3.out hRw (Nat.le_refl _) (.int .i64 1) (.string dd) (.slice A q.length cap) (.int .i64 0) (.int .i64 0) (.slice none 0 0)
       rw [hwf]
       obtain ⟨e0, e1, e2, e3, e4, e5⟩ := cells6 hrw
       exact bodyPost_ret (v := .agg #[.int .i64 1, .string dd, .slice A q.length cap, .int .i64 0, .int .i64 0, .slice none 0 0])
        (by simp [results, Tryz.results115, go_sem, e0, e1, e2, e3, e4, e5]) rfl
        ⟨.mk 1 dd (q.map (·.1)) 0 0 [], ⟨A, cap, none, 0⟩, by show _ = Ending.returned (.agg #[.int .i64 1, .string dd, .slice A (q.map (·.1)).length cap, .int .i64 0, .int .i64 0, .slice none 0 0]); rw [List.length_map], ⟨by show dd.size ≤ maxLen; unfold maxLen; omega, ((HND.out.fromC (by omega)).uponC huw).fromC (by omega), NdsAt.nil _ _ _ _⟩, ⟨by
         have h1 := HTOT.out
         rw [HQL.out] at h1
         show dd.size + totL (2 * d + 1) (q.map (·.1)) + totL (2 * d + 1) [] ≤ _
         have h2 : totL (2 * d + 1) [] = 0 := rfl
         have h3 := HDS.out
         omega, SB.small (by show dd.size ≤ 1100; have h3 := HDS.out; omega) (show (0 : Nat) ≤ 1000 by decide)⟩, hpw.mono (by omega)⟩
end Go.Proofs.YtlbfffokkhccaaaGreatDoor
