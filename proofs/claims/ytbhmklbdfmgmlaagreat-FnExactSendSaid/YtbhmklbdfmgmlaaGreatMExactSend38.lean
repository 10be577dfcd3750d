/- Texts of the proof of the law FnExactSend, side by side: part 38. -/
import Derived.Test.YtbhmklbdfmgmlaaGreatMExactSend00
import Derived.Test.YtbhmklbdfmgmlaaGreatMExactSend01
import Derived.Test.YtbhmklbdfmgmlaaGreatMExactSend02
import Derived.Test.YtbhmklbdfmgmlaaGreatMExactSend03
import Derived.Test.YtbhmklbdfmgmlaaGreatMExactSend04
import Derived.Test.YtbhmklbdfmgmlaaGreatMExactSend05
import Derived.Test.YtbhmklbdfmgmlaaGreatMExactSend06
import Derived.Test.YtbhmklbdfmgmlaaGreatMExactSend07
import Derived.Test.YtbhmklbdfmgmlaaGreatMExactSend08
import Derived.Test.YtbhmklbdfmgmlaaGreatMExactSend09
import Derived.Test.YtbhmklbdfmgmlaaGreatMExactSend10
import Derived.Test.YtbhmklbdfmgmlaaGreatMExactSend11
import Derived.Test.YtbhmklbdfmgmlaaGreatMExactSend12
import Derived.Test.YtbhmklbdfmgmlaaGreatMExactSend13
import Derived.Test.YtbhmklbdfmgmlaaGreatMExactSend14
import Derived.Test.YtbhmklbdfmgmlaaGreatMExactSend15
import Derived.Test.YtbhmklbdfmgmlaaGreatMExactSend16
import Derived.Test.YtbhmklbdfmgmlaaGreatMExactSend17
import Derived.Test.YtbhmklbdfmgmlaaGreatMExactSend18
import Derived.Test.YtbhmklbdfmgmlaaGreatMExactSend19
import Derived.Test.YtbhmklbdfmgmlaaGreatMExactSend20
import Derived.Test.YtbhmklbdfmgmlaaGreatMExactSend21
import Derived.Test.YtbhmklbdfmgmlaaGreatMExactSend22
import Derived.Test.YtbhmklbdfmgmlaaGreatMExactSend23
import Derived.Test.YtbhmklbdfmgmlaaGreatMExactSend24
import Derived.Test.YtbhmklbdfmgmlaaGreatMExactSend25
import Derived.Test.YtbhmklbdfmgmlaaGreatMExactSend26
import Derived.Test.YtbhmklbdfmgmlaaGreatMExactSend27
import Derived.Test.YtbhmklbdfmgmlaaGreatMExactSend28
import Derived.Test.YtbhmklbdfmgmlaaGreatMExactSend29
import Derived.Test.YtbhmklbdfmgmlaaGreatMExactSend30
import Derived.Test.YtbhmklbdfmgmlaaGreatMExactSend31
import Derived.Test.YtbhmklbdfmgmlaaGreatMExactSend32
import Derived.Test.YtbhmklbdfmgmlaaGreatMExactSend33
import Derived.Test.YtbhmklbdfmgmlaaGreatMExactSend34
import Derived.Test.YtbhmklbdfmgmlaaGreatMExactSend35
import Derived.Test.YtbhmklbdfmgmlaaGreatMExactSend36
import Derived.Test.YtbhmklbdfmgmlaaGreatMExactSend37
/- The specification's Send. -/
namespace Go.Proofs.YtbhmklbdfmgmlaaGreat
open Go.RowKit Go.Deep
theorem l3Pack_at (s : ByteArray) (W : World) (hw : wordsB s.size = true) : Calls Tryz.prog 25 #[.string s] W fun e w' => e = .returned (.string ⟨(packB s.data.toList).toArray⟩) ∧ Below W.heap.size W w' := by
  have hsl : s.data.toList.length = s.size := rfl
  have hT : packB s.data.toList = packW (wl (wordsQ s.data.toList)) := by rw [packB, hsl, hw, if_pos rfl]
  have hw8 : s.size % 8 = 0 ∧ s.size ≤ 1600 := by simpa [wordsB] using hw
  rw [hT]
  exact l3Pack_any s (wl (wordsQ s.data.toList)) W (wl_flat _ (by rw [hsl]; exact hw8.1)).symm (wl_wds _) (by rw [wl_len, wordsQ_length, hsl]; omega)
set_option maxHeartbeats 4000000 in
set_option maxRecDepth 100000 in
theorem specSend_a (m : Nat) (n : Nd) (h : Hd) (w : World) (S : Nat → Prop) (size : Int) (hmx : ∀ x ∈ txR (bldV n size), x.size ≤ maxLen) (htot : tot (txR (bldV n size)) ≤ 1099511627776) (h6 : (txR (bldV n size)).length ≤ 6) (hn : NdAt w S m n h) (ht : totN m n ≤ 2000000) :
    Calls Tryz.prog 8 #[.agg #[.int .i64 n.kind, .string n.data, .slice h.A n.ptrs.length h.a, .int .i64 n.size, .int .i64 n.count, .slice h.B n.items.length h.b], .int .i64 size] w fun e w' => e = .returned (.tuple #[.string (sndS (bldV n size)), .bool (sndB (bldV n size))]) ∧ Below w.heap.size w w' := by
  obtain ⟨qA, qa, qB, qb⟩ := h
  have hb0 := (Below.refl w.heap.size w).alloc (Nat.le_refl _) (.cells #[.int .i64 n.kind, .string n.data, .slice qA n.ptrs.length qa, .int .i64 n.size, .int .i64 n.count, .slice qB n.items.length qb] nodeT)
  have HB0 := Lib.hid hb0
  have HC := Lib.hid ((specBuild_a m n ⟨qA, qa, qB, qb⟩ _ S size (hn.below hb0) ht).mono (fun _ _ h => h.uni))
  dsimp only at HC ⊢
  have HMX := Lib.hid hmx
  have hfs := sndF_size (bldV n size)
  have HFP := Lib.hid (fun (W : World) (A : Option Addr) (c : Nat) (hs : Strs W A (txR (bldV n size))) => specFramePut_any A c (txR (bldV n size)) W hs (by omega) htot)
  have HIW := Lib.hid (fun (W : World) => l1Ok_any3 (sndF (bldV n size)) W (by unfold maxLen; omega))
  have HPK : Hid (wordsB (sndF (bldV n size)).size = true → ∀ W : World, Calls Tryz.prog 25 #[.string (sndF (bldV n size))] W fun e w' => e = .returned (.string ⟨(packB (sndF (bldV n size)).data.toList).toArray⟩) ∧ Below W.heap.size W w') := Lib.hid (fun hw W => l3Pack_at _ W hw)
  have HFE : Hid ((⟨(frameL (txR (bldV n size))).toArray⟩ : ByteArray) = sndF (bldV n size)) := Lib.hid rfl
  rw [HFE.out] at HFP
  have hsB : sndB (bldV n size) = ((bldV n size).isSome && wordsB (sndF (bldV n size)).size) := rfl
  have hsS : sndS (bldV n size) = if sndB (bldV n size) = true then ⟨(packB (sndF (bldV n size)).data.toList).toArray⟩ else { data := #[] } := rfl
  rw [hsS, hsB]
  clear hsB hsS HFE hn hb0 hmx
  generalize txR (bldV n size) = ss at *
  generalize hF : sndF (bldV n size) = F at *
  generalize hO : (bldV n size).isSome = ok at *
  generalize (⟨(packB F.data.toList).toArray⟩ : ByteArray) = PK at *
  cases hw : wordsB F.size <;> cases ok
  all_goals
    rw [hw] at HIW
    have HPK := Lib.hid (fun (e : wordsB F.size = true) => HPK.out e)
    have HWE := Lib.hid hw
    simp only [Bool.and_true, Bool.and_false, Bool.true_and, Bool.false_and, if_true, Bool.false_eq_true, if_false]
    clear hw hF hO
    go_enter Tryz.func8, Tryz.ntmps8
    go_wp2_with fail
    refine HC.out.mono ?_
    rintro e w1 ⟨A, c, rfl, hst, -, -, hb1⟩
    have HB1 := Lib.hid (HB0.out.trans (hb1.mono HB0.out.size))
    have HST := Lib.hid hst
    clear hb1 hst HC
  · go_wp2
    exact bodyPost_ret (v := .tuple #[.string { data := #[] }, .bool false]) (by simp [results, Tryz.results8, go_sem]) rfl ⟨rfl, HB1.out⟩
  · go_wp2_with fail
    refine (HFP.out _ A c HST.out).mono ?_
    rintro e w2 ⟨rfl, hb2⟩
    have HB2 := Lib.hid (HB1.out.trans (hb2.mono HB1.out.size))
    clear hb2
    go_wp2_with (first | (go_at_call 24; refine (HIW.out _).mono ?_; rintro e w3 ⟨rfl, rfl⟩) | (go_at_call 25; refine (HPK.out HWE.out _).mono ?_; rintro e w4 ⟨rfl, hb4⟩; have HB2 := Lib.hid (HB2.out.trans (hb4.mono HB2.out.size)); clear hb4))
    exact bodyPost_ret (v := .tuple #[.string { data := #[] }, .bool false]) (by simp [results, Tryz.results8, go_sem]) rfl ⟨rfl, HB2.out⟩
  · go_wp2
    exact bodyPost_ret (v := .tuple #[.string { data := #[] }, .bool false]) (by simp [results, Tryz.results8, go_sem]) rfl ⟨rfl, HB1.out⟩
  · go_wp2_with fail
    refine (HFP.out _ A c HST.out).mono ?_
    rintro e w2 ⟨rfl, hb2⟩
    have HB2 := Lib.hid (HB1.out.trans (hb2.mono HB1.out.size))
    clear hb2
    go_wp2_with (first | (go_at_call 24; refine (HIW.out _).mono ?_; rintro e w3 ⟨rfl, rfl⟩) | (go_at_call 25; refine (HPK.out HWE.out _).mono ?_; rintro e w4 ⟨rfl, hb4⟩; have HB2 := Lib.hid (HB2.out.trans (hb4.mono HB2.out.size)); clear hb4))
    exact bodyPost_ret (v := .tuple #[.string PK, .bool true]) (by simp [results, Tryz.results8, go_sem]) rfl ⟨rfl, HB2.out⟩
end Go.Proofs.YtbhmklbdfmgmlaaGreat

/- The walk of the exact law of Send. -/
namespace Go.Proofs.YtbhmklbdfmgmlaaGreat
open Go.RowKit
theorem bld_sok {n : Nd} {z : Int} {ss : Segs} (h : bldV n z = some ss) : SOk LS ss := by
  unfold bldV at h
  split at h
  · rename_i hh
    obtain ⟨h1, h2⟩ := node_ok hh.1
    have hs := (wr_some 200 z.toNat 8 n [zer 1] 0 0 ss h1 (SOKL 200 (by omega)) (by decide) (by decide) h).1
    exact ⟨hs.wds, hs.one, hs.six, Nat.le_trans hs.totS (by decide)⟩
  · cases h
theorem txR_facts (n : Nd) (z : Int) : (∀ x ∈ txR (bldV n z), x.size ≤ maxLen) ∧ (txR (bldV n z)).length ≤ 6 ∧ tot (txR (bldV n z)) ≤ 1099511627776 := by
  cases h : bldV n z with
  | none => exact ⟨(fun x hx => by cases hx), by decide, by decide⟩
  | some ss =>
    have hk := bld_sok h
    refine ⟨fun s hs => ?_, by rw [show txR (some ss) = txS ss from rfl, txS_length]; exact hk.six, tot_txS hk⟩
    change s ∈ txS ss at hs
    obtain ⟨x, hx, rfl⟩ := List.mem_map.1 hs
    obtain ⟨i, hi, e⟩ := List.getElem_of_mem hx
    have h1 := sb_len hk i
    rw [sg_eq hi, e] at h1
    have hs : (⟨x.toArray⟩ : ByteArray).size = x.length := by simp [ByteArray.size]
    rw [hs]
    unfold maxLen
    omega
set_option maxHeartbeats 4000000 in
set_option maxRecDepth 100000 in
theorem walkExactSend (w : World) (m : Nat) (n : Nd) (h : Hd) (hn : NdAt w Any m n h) (size : Int) (_hz : (Lit.int .i64 size).wf = true) :
    Calls Tryz.prog 3 #[.agg #[.int .i64 n.kind, .string n.data, .slice h.A n.ptrs.length h.a, .int .i64 n.size, .int .i64 n.count, .slice h.B n.items.length h.b], .int .i64 size] w fun e w' => e = .returned (.bool true) ∧ Below w.heap.size w w' := by
  have hb0 := (Below.refl w.heap.size w).alloc (Nat.le_refl _) (.cells #[.int .i64 n.kind, .string n.data, .slice h.A n.ptrs.length h.a, .int .i64 n.size, .int .i64 n.count, .slice h.B n.items.length h.b] 24)
  have HR := Lib.hid (heap_alloc_new w (.cells #[.int .i64 n.kind, .string n.data, .slice h.A n.ptrs.length h.a, .int .i64 n.size, .int .i64 n.count, .slice h.B n.items.length h.b] 24))
  have HB0 := Lib.hid hb0
  have hsz : w.heap.size < (w.alloc (.cells #[.int .i64 n.kind, .string n.data, .slice h.A n.ptrs.length h.a, .int .i64 n.size, .int .i64 n.count, .slice h.B n.items.length h.b] 24)).heap.size := by simp
  have HSZ := Lib.hid (szN_any m n h _ 1048576 Any (hn.below hb0) (by decide) (by decide))
  by_cases hbig : (1048576 : Int) < (totN m n : Nat)
  · rw [szR_neg hbig] at HSZ
    clear hn hbig hb0
    go_enter Tryz.func3, Tryz.ntmps3
    go_wp2_with fail
    refine HSZ.out.mono ?_
    rintro e w1 ⟨rfl, hb1⟩
    have HB1 := Lib.hid (HB0.out.trans (hb1.mono HB0.out.size))
    clear hb1
    go_wp2
    go_ret
    exact ⟨rfl, HB1.out⟩
  have ht : totN m n ≤ 2000000 := by omega
  rw [szR_pos (by omega)] at HSZ
  have hl0 : 0 ≤ (1048576 : Int) - (totN m n : Nat) := by omega
  generalize (1048576 : Int) - (totN m n : Nat) = lf at *
  have HN := Lib.hid hn
  have HTX := Lib.hid (txR_facts n size)
  have HT := Lib.hid ht
  have HTO : Hid (∀ W : World, Below w.heap.size w W → Calls Tryz.prog 9 #[.agg #[.int .i64 n.kind, .string n.data, .slice h.A n.ptrs.length h.a, .int .i64 n.size, .int .i64 n.count, .slice h.B n.items.length h.b]] W (NewN m n W)) := Lib.hid fun W hb => toN_any m n h W Any (HN.out.below hb) HT.out
  clear hn ht hbig hb0
  go_enter Tryz.func3, Tryz.ntmps3
  go_wp2_with fail
  refine HSZ.out.mono ?_
  rintro e w1 ⟨rfl, hb1⟩
  have HB1 := Lib.hid (HB0.out.trans (hb1.mono HB0.out.size))
  have hr1 := (hb1.block _ hsz).trans HR.out
  have HR1 := Lib.hid hr1
  obtain ⟨a0, a1, a2, a3, a4, a5⟩ := cells6 hr1
  clear hb1 hr1
  go_wp2_with fail
  refine (HTO.out _ HB1.out).mono ?_
  rintro e w2 ⟨h2, rfl, hn2, hb2⟩
  have HB2 := Lib.hid (HB1.out.trans (hb2.mono HB1.out.size))
  have hr2 := (hb2.block _ (row_lt HR1.out)).trans HR1.out
  have HR2 := Lib.hid hr2
  clear a0 a1 a2 a3 a4 a5
  obtain ⟨a0, a1, a2, a3, a4, a5⟩ := cells6 hr2
  have HC := Lib.hid (specSend_a m n h2 w2 _ size HTX.out.1 HTX.out.2.2 HTX.out.2.1 hn2 HT.out)
  clear hn2 hb2 hr2
  generalize hsB : sndS (bldV n size) = SB at *
  generalize hbB : sndB (bldV n size) = BB at *
  go_wp2_with fail
  refine HC.out.mono ?_
  rintro e w3 ⟨rfl, hb3⟩
  have HB3 := Lib.hid (HB2.out.trans (hb3.mono HB2.out.size))
  have hr3 := (hb3.block _ (row_lt HR2.out)).trans HR2.out
  have HR3 := Lib.hid hr3
  clear a0 a1 a2 a3 a4 a5
  obtain ⟨a0, a1, a2, a3, a4, a5⟩ := cells6 hr3
  clear hb3 hr3 HC
  go_wp2_with fail
  refine (HTO.out _ HB3.out).mono ?_
  rintro e w4 ⟨h4, rfl, hn4, hb4⟩
  have HB4 := Lib.hid (HB3.out.trans (hb4.mono HB3.out.size))
  have hr4 := (hb4.block _ (row_lt HR3.out)).trans HR3.out
  have HR4 := Lib.hid hr4
  clear a0 a1 a2 a3 a4 a5
  obtain ⟨a0, a1, a2, a3, a4, a5⟩ := cells6 hr4
  have hbx := (Below.refl w4.heap.size w4).alloc (Nat.le_refl _) (.cells #[.int .i64 n.kind, .string n.data, .slice h4.A n.ptrs.length h4.a, .int .i64 n.size, .int .i64 n.count, .slice h4.B n.items.length h4.b] nodeT)
  have HRX := Lib.hid (heap_alloc_new w4 (.cells #[.int .i64 n.kind, .string n.data, .slice h4.A n.ptrs.length h4.a, .int .i64 n.size, .int .i64 n.count, .slice h4.B n.items.length h4.b] nodeT))
  have HNX := Lib.hid (hn4.below hbx)
  have HBX := Lib.hid (HB4.out.trans (hbx.mono HB4.out.size))
  have HRB := Lib.hid ((hbx.block _ (row_lt HR4.out)).trans HR4.out)
  have HLT := Lib.hid (show w4.heap.size < (w4.alloc (.cells #[.int .i64 n.kind, .string n.data, .slice h4.A n.ptrs.length h4.a, .int .i64 n.size, .int .i64 n.count, .slice h4.B n.items.length h4.b] nodeT)).heap.size by simp)
  have HC := Lib.hid (implSend_a m n h4 _ _ size HTX.out.1 HTX.out.2.1 (HNX.out) HT.out)
  rw [hsB, hbB] at HC
  clear hn4 hb4 hr4 hbx hsB hbB
  go_wp2_with fail
  clear a0 a1 a2 a3 a4 a5
  generalize w4.alloc (.cells #[.int .i64 n.kind, .string n.data, .slice h4.A n.ptrs.length h4.a, .int .i64 n.size, .int .i64 n.count, .slice h4.B n.items.length h4.b] nodeT) = W4 at *
  refine HC.out.mono ?_
  rintro e w5 ⟨rfl, hb5⟩
  have HB5 := Lib.hid (HBX.out.trans (hb5.mono HBX.out.size))
  have HN5 := Lib.hid (HNX.out.below hb5)
  have hr5 := (hb5.block _ (row_lt HRB.out)).trans HRB.out
  have hx5 := (hb5.block _ HLT.out).trans HRX.out
  have HR5 := Lib.hid hr5
  have HX5 := Lib.hid hx5
  obtain ⟨a0, a1, a2, a3, a4, a5⟩ := cells6 hr5
  obtain ⟨b0, b1, b2, b3, b4, b5⟩ := cells6 hx5
  clear hb5 HC hr5 hx5
  have hsz5 : (w5.drew).heap.size = w5.heap.size := rfl
  go_wp2_with fail
  go_region_with (first | (go_at_call 9; go_must (refine (HTO.out _ (by exact HB5.out.drew)).mono ?_); rintro e w6 ⟨h6, rfl, hn6, hb6⟩; have hx6 := (hb6.block _ (row_lt HX5.out)).trans HX5.out; obtain ⟨f0, f1, f2, f3, f4, f5⟩ := cells6 hx6) | (go_at_call 11; go_must (refine (eqN_any m n h4 h6 _ _ _ (HN5.out.below (by exact (Below.mk rfl rfl rfl (Nat.le_refl _) (fun _ _ => rfl) : Below w5.heap.size w5 w5.drew).trans hb6)) hn6 HT.out).mono ?_); rintro e w7 ⟨rfl, hb7⟩))
  all_goals
    have HB7 := Lib.hid ((HB5.out.drew.trans (hb6.mono HB5.out.drew.size)).trans (hb7.mono (HB5.out.drew.trans (hb6.mono HB5.out.drew.size)).size))
    clear hb6 hb7
    go_wp2
    go_ret
    exact ⟨rfl, HB7.out⟩
end Go.Proofs.YtbhmklbdfmgmlaaGreat
