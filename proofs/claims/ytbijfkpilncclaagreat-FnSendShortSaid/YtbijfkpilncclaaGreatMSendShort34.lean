/- Texts of the proof of the law FnSendShort, side by side: part 34. -/
import Derived.Test.YtbijfkpilncclaaGreatMSendShort00
import Derived.Test.YtbijfkpilncclaaGreatMSendShort01
import Derived.Test.YtbijfkpilncclaaGreatMSendShort02
import Derived.Test.YtbijfkpilncclaaGreatMSendShort03
import Derived.Test.YtbijfkpilncclaaGreatMSendShort04
import Derived.Test.YtbijfkpilncclaaGreatMSendShort05
import Derived.Test.YtbijfkpilncclaaGreatMSendShort06
import Derived.Test.YtbijfkpilncclaaGreatMSendShort07
import Derived.Test.YtbijfkpilncclaaGreatMSendShort08
import Derived.Test.YtbijfkpilncclaaGreatMSendShort09
import Derived.Test.YtbijfkpilncclaaGreatMSendShort10
import Derived.Test.YtbijfkpilncclaaGreatMSendShort11
import Derived.Test.YtbijfkpilncclaaGreatMSendShort12
import Derived.Test.YtbijfkpilncclaaGreatMSendShort13
import Derived.Test.YtbijfkpilncclaaGreatMSendShort14
import Derived.Test.YtbijfkpilncclaaGreatMSendShort15
import Derived.Test.YtbijfkpilncclaaGreatMSendShort16
import Derived.Test.YtbijfkpilncclaaGreatMSendShort17
import Derived.Test.YtbijfkpilncclaaGreatMSendShort18
import Derived.Test.YtbijfkpilncclaaGreatMSendShort19
import Derived.Test.YtbijfkpilncclaaGreatMSendShort20
import Derived.Test.YtbijfkpilncclaaGreatMSendShort21
import Derived.Test.YtbijfkpilncclaaGreatMSendShort22
import Derived.Test.YtbijfkpilncclaaGreatMSendShort23
import Derived.Test.YtbijfkpilncclaaGreatMSendShort24
import Derived.Test.YtbijfkpilncclaaGreatMSendShort25
import Derived.Test.YtbijfkpilncclaaGreatMSendShort26
import Derived.Test.YtbijfkpilncclaaGreatMSendShort27
import Derived.Test.YtbijfkpilncclaaGreatMSendShort28
import Derived.Test.YtbijfkpilncclaaGreatMSendShort29
import Derived.Test.YtbijfkpilncclaaGreatMSendShort30
import Derived.Test.YtbijfkpilncclaaGreatMSendShort31
import Derived.Test.YtbijfkpilncclaaGreatMSendShort32
import Derived.Test.YtbijfkpilncclaaGreatMSendShort33
namespace Go.Proofs.YtbijfkpilncclaaGreat
open Go.RowKit Go.Deep
theorem snd_facts {r : Option Segs} (h : sndB r = true) : r.isSome = true ∧ (sndF r).size % 8 = 0 ∧ (sndF r).size ≤ 1600 ∧ sndS r = pkS (sndF r) ∧ (pkS (sndF r)).size ≤ 10 * ((sndF r).size / 8) := by
  have h' := h
  unfold sndB at h
  rw [Bool.and_eq_true] at h
  have hw8 : (sndF r).size % 8 = 0 ∧ (sndF r).size ≤ 1600 := by simpa [wordsB] using h.2
  refine ⟨h.1, hw8.1, hw8.2, by unfold sndS; rw [if_pos h']; rfl, ?_⟩
  have hsl : (sndF r).data.toList.length = (sndF r).size := rfl
  have hT : packB (sndF r).data.toList = packW (wl (wordsQ (sndF r).data.toList)) := by rw [packB, hsl, h.2, if_pos rfl]
  have hl := pack_len (wl_wds (wordsQ (sndF r).data.toList))
  rw [wl_len, wordsQ_length, hsl] at hl
  have hs : (pkS (sndF r)).size = (packB (sndF r).data.toList).length := by unfold pkS; simp [ByteArray.size]
  rw [hs, hT]
  exact hl
set_option maxHeartbeats 4000000 in
set_option maxRecDepth 100000 in
theorem walkSendShort (w : World) (a : Option Addr) (len cap : Nat) (h : Arg w a len cap) :
    Calls Tryz.prog 5 #[.slice a len cap] w fun e w' => e = .returned (.bool true) ∧ Below w.heap.size w w' := by
  have hlen := h.1.1
  unfold maxLen at hlen
  by_cases hbig : 1048576 < len
  · go_enter Tryz.func5, Tryz.ntmps5
    go_wp2
    go_ret
    exact ⟨rfl, Below.refl _ _⟩
  have HD := Lib.hid (drawSend_any a len cap w h)
  clear h
  go_enter Tryz.func5, Tryz.ntmps5
  go_wp2_with fail
  refine HD.out.mono ?_
  rintro e w1 ⟨n, h1, z, rfl, ⟨z0, z1⟩, hn1, ht1, hb1⟩
  have hb2 := (Below.refl w1.heap.size w1).alloc (Nat.le_refl _) (.cells #[.int .i64 n.kind, .string n.data, .slice h1.A n.ptrs.length h1.a, .int .i64 n.size, .int .i64 n.count, .slice h1.B n.items.length h1.b] nodeT)
  have HR2 := Lib.hid (heap_alloc_new w1 (.cells #[.int .i64 n.kind, .string n.data, .slice h1.A n.ptrs.length h1.a, .int .i64 n.size, .int .i64 n.count, .slice h1.B n.items.length h1.b] nodeT))
  have HB2 := Lib.hid (hb1.trans (hb2.mono hb1.size))
  have HN2 := Lib.hid ((hn1.weak (S' := Any) (fun _ _ => trivial)).below hb2)
  have HT : Hid (totN 18 n ≤ 2000000) := Lib.hid (by omega)
  clear hb1 hn1 ht1 hb2
  have HLT := Lib.hid (show w1.heap.size < (w1.alloc (.cells #[.int .i64 n.kind, .string n.data, .slice h1.A n.ptrs.length h1.a, .int .i64 n.size, .int .i64 n.count, .slice h1.B n.items.length h1.b] nodeT)).heap.size by simp)
  go_wp2_with fail
  generalize w1.alloc (.cells #[.int .i64 n.kind, .string n.data, .slice h1.A n.ptrs.length h1.a, .int .i64 n.size, .int .i64 n.count, .slice h1.B n.items.length h1.b] nodeT) = W2 at *
  have HTX := Lib.hid (txR_facts n z)
  have HI : Hid (∀ W : World, Below W2.heap.size W2 W → Calls Tryz.prog 10 #[.agg #[.int .i64 n.kind, .string n.data, .slice h1.A n.ptrs.length h1.a, .int .i64 n.size, .int .i64 n.count, .slice h1.B n.items.length h1.b], .int .i64 z] W fun e w' => e = .returned (.tuple #[.string (sndS (bldV n z)), .bool (sndB (bldV n z))]) ∧ Below W.heap.size W w') := Lib.hid fun W hW => implSend_a 18 n h1 W Any z HTX.out.1 HTX.out.2.1 (HN2.out.below hW) HT.out
  have HS : Hid (∀ W : World, Below W2.heap.size W2 W → Calls Tryz.prog 8 #[.agg #[.int .i64 n.kind, .string n.data, .slice h1.A n.ptrs.length h1.a, .int .i64 n.size, .int .i64 n.count, .slice h1.B n.items.length h1.b], .int .i64 z] W fun e w' => e = .returned (.tuple #[.string (sndS (bldV n z)), .bool (sndB (bldV n z))]) ∧ Below W.heap.size W w') := Lib.hid fun W hW => specSend_a 18 n h1 W Any z HTX.out.1 HTX.out.2.2 HTX.out.2.1 (HN2.out.below hW) HT.out
  have HB : Hid (∀ W : World, Below W2.heap.size W2 W → Calls Tryz.prog 15 #[.agg #[.int .i64 n.kind, .string n.data, .slice h1.A n.ptrs.length h1.a, .int .i64 n.size, .int .i64 n.count, .slice h1.B n.items.length h1.b], .int .i64 z] W (fun e w' => ∃ A c, e = .returned (.tuple #[.slice A (txR (bldV n z)).length c, .bool (bldV n z).isSome]) ∧ w'.ownsRow W.heap.size 9 1 (.slice A (txR (bldV n z)).length c) (txR (bldV n z)).length ((txR (bldV n z)).map Value.string) ∧ Below W.heap.size W w')) := Lib.hid fun W hW => (implBuild_a 18 n h1 W Any z (HN2.out.below hW) HT.out).mono (fun _ _ h => h.uni)
  have HSF : Hid (sndB (bldV n z) = true → _) := Lib.hid (snd_facts (r := bldV n z))
  have HFP := Lib.hid (fun (W : World) (A : Option Addr) (c : Nat) (hs : Strs W A (txR (bldV n z))) => implFramePut_any A c (txR (bldV n z)) W hs (by have := HTX.out.2.1; omega))
  have HFE : Hid ((⟨(frameL (txR (bldV n z))).toArray⟩ : ByteArray) = sndF (bldV n z)) := Lib.hid rfl
  rw [HFE.out] at HFP
  clear HFE
  generalize hSS : sndS (bldV n z) = SS at *
  generalize hSB : sndB (bldV n z) = SB at *
  generalize sndF (bldV n z) = F at *
  generalize (bldV n z).isSome = ok at *
  generalize txR (bldV n z) = tx at *
  clear hSS hSB
  refine (HI.out _ (Below.refl _ _)).mono ?_
  rintro e w3 ⟨rfl, hb3⟩
  have HX3 := Lib.hid hb3
  obtain ⟨a0, a1, a2, a3, a4, a5⟩ := cells6 ((hb3.block _ HLT.out).trans HR2.out)
  clear hb3
  go_wp2_with fail
  refine (HS.out _ HX3.out).mono ?_
  rintro e w4 ⟨rfl, hb4⟩
  have HX4 := Lib.hid (HX3.out.trans (hb4.mono HX3.out.size))
  clear hb4 a0 a1 a2 a3 a4 a5
  cases SB
  · go_wp2
    go_ret
    exact ⟨rfl, HB2.out.trans (HX4.out.mono HB2.out.size)⟩
  · obtain ⟨rfl, f8, f16, rfl, hpl⟩ := HSF.out rfl
    have HUN := Lib.hid (unPack1 F f8 f16)
    obtain ⟨a0, a1, a2, a3, a4, a5⟩ := cells6 ((HX4.out.block _ HLT.out).trans HR2.out)
    go_wp2_with fail
    refine (HB.out _ HX4.out).mono ?_
    rintro e w5 ⟨A, c, rfl, ho, hb5⟩
    have HX5 := Lib.hid (HX4.out.trans (hb5.mono HX4.out.size))
    have HST := Lib.hid (strs_ownX ho HTX.out.1)
    clear hb5 ho a0 a1 a2 a3 a4 a5
    go_wp2_with fail
    refine (HFP.out _ A c HST.out).mono ?_
    rintro e w6 ⟨rfl, hb6⟩
    have HX6 := Lib.hid (HX5.out.trans (hb6.mono HX5.out.size))
    clear hb6
    go_wp2_with fail
    refine (HUN.out _).mono ?_
    rintro e w7 ⟨rfl, hb7⟩
    have HX7 := Lib.hid (HX6.out.trans (hb7.mono HX6.out.size))
    clear hb7
    generalize pkS F = PK at *
    have hwr : IntKind.i64.wrap ((F.size : Int) / 4) = (F.size : Int) / 4 := by rw [IntKind.wrap_i64]; omega
    have hwr2 : IntKind.i64.wrap ((F.size : Int) + (F.size : Int) / 4) = (F.size : Int) + (F.size : Int) / 4 := by rw [IntKind.wrap_i64]; omega
    have hd : decide ((PK.size : Int) ≤ (F.size : Int) + (F.size : Int) / 4) = true := decide_eq_true (by omega)
    have hd' : (PK.size : Int) ≤ (F.size : Int) + (F.size : Int) / 4 := by omega
    go_wp2
    go_ret
    exact ⟨rfl, HB2.out.trans (HX7.out.mono HB2.out.size)⟩
end Go.Proofs.YtbijfkpilncclaaGreat
