/- Texts of the proof of the law FnCanon, side by side: part 26. -/
import Derived.Deep.RegionHeld3
import Derived.Test.YtfiiopchfmcjdaaMCanon00
import Derived.Test.YtfiiopchfmcjdaaMCanon01
import Derived.Test.YtfiiopchfmcjdaaMCanon02
import Derived.Test.YtfiiopchfmcjdaaMCanon03
import Derived.Test.YtfiiopchfmcjdaaMCanon04
import Derived.Test.YtfiiopchfmcjdaaMCanon05
import Derived.Test.YtfiiopchfmcjdaaMCanon06
import Derived.Test.YtfiiopchfmcjdaaMCanon07
import Derived.Test.YtfiiopchfmcjdaaMCanon08
import Derived.Test.YtfiiopchfmcjdaaMCanon09
import Derived.Test.YtfiiopchfmcjdaaMCanon10
import Derived.Test.YtfiiopchfmcjdaaMCanon11
import Derived.Test.YtfiiopchfmcjdaaMCanon12
import Derived.Test.YtfiiopchfmcjdaaMCanon13
import Derived.Test.YtfiiopchfmcjdaaMCanon14
import Derived.Test.YtfiiopchfmcjdaaMCanon15
import Derived.Test.YtfiiopchfmcjdaaMCanon16
import Derived.Test.YtfiiopchfmcjdaaMCanon17
import Derived.Test.YtfiiopchfmcjdaaMCanon18
import Derived.Test.YtfiiopchfmcjdaaMCanon19
import Derived.Test.YtfiiopchfmcjdaaMCanon20
import Derived.Test.YtfiiopchfmcjdaaMCanon21
import Derived.Test.YtfiiopchfmcjdaaMCanon22
import Derived.Test.YtfiiopchfmcjdaaMCanon23
import Derived.Test.YtfiiopchfmcjdaaMCanon24
import Derived.Test.YtfiiopchfmcjdaaMCanon25
/- The walk of the law FnCanon: true at every code. -/
namespace Go.Proofs.Ytfiiopchfmcjdaa
open Go.RowKit Go.Deep
theorem canX_siz {n : Nd} : sizN (canX n) ≤ sizN n := by
  unfold canX
  by_cases hok : nodeOk n = true
  · rw [if_pos hok]; exact siz_can 8 n (node_ok hok).1
  · rw [if_neg hok, sizN_eq]
    have : noneNd.data.size + sizL noneNd.ptrs + sizL noneNd.items = 0 := by
      show 0 + sizL [] + sizL [] = 0
      rw [sizL_nil]
    omega
set_option maxHeartbeats 8000000 in
set_option maxRecDepth 100000 in
theorem walkCanon (w : World) (a : Option Addr) (len cap : Nat) (h : Arg w a len cap) :
    Calls Try.prog 4 #[.slice a len cap] w fun e w' => e = .returned (.bool true) ∧ Below w.heap.size w w' := by
  have hlen := h.1.1
  unfold maxLen at hlen
  by_cases hbig : 1048576 < len
  · go_enter Try.func4, Try.ntmps4
    go_wp2
    go_ret
    exact ⟨rfl, Below.refl _ _⟩
  have HD := Lib.hid (drawCanon_any a len cap w h)
  clear h
  go_enter Try.func4, Try.ntmps4
  go_wp2_with fail
  refine HD.out.mono ?_
  rintro e w1 ⟨n, h1, rfl, hn1, ht1, hb1⟩
  have hba := (Below.refl w1.heap.size w1).alloc (Nat.le_refl _) (.cells #[.int .i64 n.kind, .string n.data, .slice h1.A n.ptrs.length h1.a, .int .i64 n.size, .int .i64 n.count, .slice h1.B n.items.length h1.b] nodeT)
  have HA := Lib.hid (heap_alloc_new w1 (.cells #[.int .i64 n.kind, .string n.data, .slice h1.A n.ptrs.length h1.a, .int .i64 n.size, .int .i64 n.count, .slice h1.B n.items.length h1.b] nodeT))
  have HB2 := Lib.hid (hb1.trans (hba.mono hb1.size))
  have HN2 := Lib.hid (hn1.below hba)
  have hsa : (w1.alloc (.cells #[.int .i64 n.kind, .string n.data, .slice h1.A n.ptrs.length h1.a, .int .i64 n.size, .int .i64 n.count, .slice h1.B n.items.length h1.b] nodeT)).heap.size = w1.heap.size + 1 := by simp
  have htn : totN 18 n ≤ 2000000 := by omega
  have hsz := totN_siz hn1
  have HTX : Hid (sizN (canX n) ≤ 300000) := Lib.hid (by have := canX_siz (n := n); omega)
  clear hn1 hb1 hba
  go_wp2_with fail
  generalize w1.alloc (.cells #[.int .i64 n.kind, .string n.data, .slice h1.A n.ptrs.length h1.a, .int .i64 n.size, .int .i64 n.count, .slice h1.B n.items.length h1.b] nodeT) = W2 at *
  obtain ⟨x, hx⟩ : ∃ x, x = canX n := ⟨_, rfl⟩
  rw [← hx] at HTX
  have HCN := Lib.hid (implCanon_a 18 n h1 W2 _ HN2.out htn)
  rw [← hx] at HCN
  unfold NewO at HCN
  have HXE := Lib.hid hx
  clear hx
  refine HCN.out.mono ?_
  rintro e w2 ⟨hy, bs, rfl, hown, hnd, hge, hb2⟩
  have hba := (Below.refl w2.heap.size w2).alloc (Nat.le_refl _) (.cells #[.int .i64 x.kind, .string x.data, .slice hy.A x.ptrs.length hy.a, .int .i64 x.size, .int .i64 x.count, .slice hy.B x.items.length hy.b] nodeT)
  have HX := Lib.hid (heap_alloc_new w2 (.cells #[.int .i64 x.kind, .string x.data, .slice hy.A x.ptrs.length hy.a, .int .i64 x.size, .int .i64 x.count, .slice hy.B x.items.length hy.b] nodeT))
  have HA4 := Lib.hid (((hba.block _ (by have := hb2.size; have := row_lt HA.out; omega))).trans ((hb2.block _ (row_lt HA.out)).trans HA.out))
  have HN4 := Lib.hid ((HN2.out.below hb2).below hba)
  have HO4 := Lib.hid (hown.below hba)
  have HB4 := Lib.hid ((HB2.out.trans (hb2.mono HB2.out.size)).trans (hba.mono (HB2.out.trans (hb2.mono HB2.out.size)).size))
  clear hown hnd hge hb2 hba
  go_wp2_with fail
  generalize w2.alloc (.cells #[.int .i64 x.kind, .string x.data, .slice hy.A x.ptrs.length hy.a, .int .i64 x.size, .int .i64 x.count, .slice hy.B x.items.length hy.b] nodeT) = W4 at *
  have hx := HXE.out
  have htx : totN 19 x ≤ 2000000 := by rw [totN_siz HO4.out.nd]; have := HTX.out; omega
  have HSB : Hid (Below W4.heap.size W4 W4) := Lib.hid (Below.refl _ _)
  have HSC : Hid (∀ V : World, Below W4.heap.size W4 V → Calls Try.prog 10 #[.agg #[.int .i64 n.kind, .string n.data, .slice h1.A n.ptrs.length h1.a, .int .i64 n.size, .int .i64 n.count, .slice h1.B n.items.length h1.b]] V (NewO 19 x V)) := Lib.hid fun V hV => by rw [hx]; exact specCanon_a 18 n h1 V _ (HN4.out.below hV) htn
  have HQ : Hid (∀ V : World, Below W4.heap.size W4 V → ∀ (hz : Hd) (SS : Nat → Prop), NdAt V SS 19 x hz → Calls Try.prog 9 #[.agg #[.int .i64 x.kind, .string x.data, .slice hy.A x.ptrs.length hy.a, .int .i64 x.size, .int .i64 x.count, .slice hy.B x.items.length hy.b], .agg #[.int .i64 x.kind, .string x.data, .slice hz.A x.ptrs.length hz.a, .int .i64 x.size, .int .i64 x.count, .slice hz.B x.items.length hz.b]] V fun e w' => e = .returned (.bool true) ∧ Below V.heap.size V w') := Lib.hid fun V hV hz SS hq => qnN_any 19 19 x x hy hz V _ SS true (HO4.out.nd.below hV) hq (iff_true_of rfl)
  have HNO : Hid (∀ V : World, Below W4.heap.size W4 V → Calls Try.prog 12 #[.agg #[.int .i64 n.kind, .string n.data, .slice h1.A n.ptrs.length h1.a, .int .i64 n.size, .int .i64 n.count, .slice h1.B n.items.length h1.b]] V fun e w' => e = .returned (.bool (nodeOk n)) ∧ Below V.heap.size V w') := Lib.hid fun V hV => specNodeOk_a 18 n h1 V _ (HN4.out.below hV) htn
  have HAL : Hid (nodeOk n = true → ∀ V : World, Below W4.heap.size W4 V → Calls Try.prog 14 #[.agg #[.int .i64 n.kind, .string n.data, .slice h1.A n.ptrs.length h1.a, .int .i64 n.size, .int .i64 n.count, .slice h1.B n.items.length h1.b], .agg #[.int .i64 x.kind, .string x.data, .slice hy.A x.ptrs.length hy.a, .int .i64 x.size, .int .i64 x.count, .slice hy.B x.items.length hy.b]] V fun e w' => e = .returned (.bool true) ∧ Below V.heap.size V w') := Lib.hid fun hok V hV => implAlike_a 18 19 n x h1 hy V _ _ true (HN4.out.below hV) (HO4.out.nd.below hV) htn htx (iff_true_of (by
    have hxx := hx
    unfold canX at hxx
    rw [if_pos hok] at hxx
    rw [hxx]
    exact ⟨hok, nodeOk_can hok, (can_can_ok hok).symm⟩))
  have HIO : Hid (nodeOk n = true → ∀ V : World, Below W4.heap.size W4 V → Calls Try.prog 13 #[.agg #[.int .i64 x.kind, .string x.data, .slice hy.A x.ptrs.length hy.a, .int .i64 x.size, .int .i64 x.count, .slice hy.B x.items.length hy.b]] V fun e w' => e = .returned (.bool true) ∧ Below V.heap.size V w') := Lib.hid fun hok V hV => by
    have := implNodeOk_a 19 x hy V _ (HO4.out.nd.below hV) htx
    have hxx := hx
    unfold canX at hxx
    rw [if_pos hok] at hxx
    rwa [show nodeOk x = true by rw [hxx]; exact nodeOk_can hok] at this
  have HIC : Hid (nodeOk n = true → ∀ V : World, Below W4.heap.size W4 V → Calls Try.prog 8 #[.agg #[.int .i64 x.kind, .string x.data, .slice hy.A x.ptrs.length hy.a, .int .i64 x.size, .int .i64 x.count, .slice hy.B x.items.length hy.b]] V (NewO 20 x V)) := Lib.hid fun hok V hV => by
    have := implCanon_a 19 x hy V _ (HO4.out.nd.below hV) htx
    have hxx := hx
    unfold canX at hxx
    rw [if_pos hok] at hxx
    have hox : nodeOk x = true := by rw [hxx]; exact nodeOk_can hok
    have hcx : canX x = x := by unfold canX; rw [if_pos hox, hxx]; exact can_can_ok hok
    rwa [hcx] at this
  have HQ2 : Hid (∀ V : World, Below W4.heap.size W4 V → ∀ (hz : Hd) (SS : Nat → Prop), NdAt V SS 20 x hz → Calls Try.prog 9 #[.agg #[.int .i64 x.kind, .string x.data, .slice hz.A x.ptrs.length hz.a, .int .i64 x.size, .int .i64 x.count, .slice hz.B x.items.length hz.b], .agg #[.int .i64 x.kind, .string x.data, .slice hy.A x.ptrs.length hy.a, .int .i64 x.size, .int .i64 x.count, .slice hy.B x.items.length hy.b]] V fun e w' => e = .returned (.bool true) ∧ Below V.heap.size V w') := Lib.hid fun V hV hz SS hq => qnN_any 20 19 x x hz hy V SS _ true hq (HO4.out.nd.below hV) (iff_true_of rfl)
  have HW1 : Hid (∀ V : World, Below W4.heap.size W4 V → Calls Try.prog 15 #[.agg #[.int .i64 x.kind, .string x.data, .slice hy.A x.ptrs.length hy.a, .int .i64 x.size, .int .i64 x.count, .slice hy.B x.items.length hy.b]] V fun e w' => e = .returned (.int .i64 (nodeWords x : Nat)) ∧ Below V.heap.size V w') := Lib.hid fun V hV => implNodeWords_a 19 x hy V _ (HO4.out.nd.below hV) htx
  have HW2 : Hid (∀ V : World, Below W4.heap.size W4 V → Calls Try.prog 15 #[.agg #[.int .i64 n.kind, .string n.data, .slice h1.A n.ptrs.length h1.a, .int .i64 n.size, .int .i64 n.count, .slice h1.B n.items.length h1.b]] V fun e w' => e = .returned (.int .i64 (nodeWords n : Nat)) ∧ Below V.heap.size V w') := Lib.hid fun V hV => implNodeWords_a 18 n h1 V _ (HN4.out.below hV) htn
  have HLE : Hid (nodeOk n = true → nodeWords x ≤ nodeWords n) := Lib.hid fun hok => by
    have hxx := hx
    unfold canX at hxx
    rw [if_pos hok] at hxx
    rw [hxx]; exact words_canL hok
  obtain ⟨a0, a1, a2, a3, a4, a5⟩ := cells6 HA4.out
  obtain ⟨b0, b1, b2, b3, b4, b5⟩ := cells6 HX.out
  clear hx htx hsz htn HXE HD HA HN2 HB2 HTX hsa
  unfold NewO at HSC HIC
  generalize nodeWords x = nx at *
  generalize nodeWords n = nn at *
  cases hok : nodeOk n
  · rw [hok] at HNO
    clear hok HAL HIO HIC HQ2 HW1 HW2 HLE
    go_region_held3 (fun V => (V.cell? ⟨w1.heap.size, 0, none⟩ = some (.int .i64 n.kind) ∧ V.cell? ⟨w1.heap.size, 1, none⟩ = some (.string n.data) ∧ V.cell? ⟨w1.heap.size, 2, none⟩ = some (.slice h1.A n.ptrs.length h1.a) ∧ V.cell? ⟨w1.heap.size, 3, none⟩ = some (.int .i64 n.size) ∧ V.cell? ⟨w1.heap.size, 4, none⟩ = some (.int .i64 n.count) ∧ V.cell? ⟨w1.heap.size, 5, none⟩ = some (.slice h1.B n.items.length h1.b)) ∧ (V.cell? ⟨w2.heap.size, 0, none⟩ = some (.int .i64 x.kind) ∧ V.cell? ⟨w2.heap.size, 1, none⟩ = some (.string x.data) ∧ V.cell? ⟨w2.heap.size, 2, none⟩ = some (.slice hy.A x.ptrs.length hy.a) ∧ V.cell? ⟨w2.heap.size, 3, none⟩ = some (.int .i64 x.size) ∧ V.cell? ⟨w2.heap.size, 4, none⟩ = some (.int .i64 x.count) ∧ V.cell? ⟨w2.heap.size, 5, none⟩ = some (.slice hy.B x.items.length hy.b)) ∧ Below W4.heap.size W4 V) ((first | exact ⟨⟨a0, a1, a2, a3, a4, a5⟩, ⟨b0, b1, b2, b3, b4, b5⟩, HSB.out.drew⟩ | (obtain ⟨⟨s0, s1, s2, s3, s4, s5⟩, ⟨t0, t1, t2, t3, t4, t5⟩, sb⟩ := ‹(_ ∧ _) ∧ (_ ∧ _) ∧ Below W4.heap.size W4 _›; exact ⟨⟨kc hbq s0, kc hbq s1, kc hbq s2, kc hbq s3, kc hbq s4, kc hbq s5⟩, ⟨kc hbq t0, kc hbq t1, kc hbq t2, kc hbq t3, kc hbq t4, kc hbq t5⟩, sb.trans (hbq.mono sb.size)⟩))) (first | (go_at_call 10; (with_reducible refine (HSC.out _ (by have hh := ‹(_ ∧ _) ∧ (_ ∧ _) ∧ Below W4.heap.size W4 _›; exact hh.2.2)).mono ?_); rintro e wq ⟨hz, bz, rfl, hownz, hndz, hgez, hbq⟩) | (go_at_call 9; (with_reducible refine (HQ.out _ (by have hh := ‹(_ ∧ _) ∧ (_ ∧ _) ∧ Below W4.heap.size W4 _›; exact hh.2.2) hz _ hownz.nd).mono ?_); rintro e wq ⟨rfl, hbq⟩) | (go_at_call 12; (with_reducible refine (HNO.out _ (by have hh := ‹(_ ∧ _) ∧ (_ ∧ _) ∧ Below W4.heap.size W4 _›; exact hh.2.2)).mono ?_); rintro e wq ⟨rfl, hbq⟩))
    all_goals
      have hS := ‹(_ ∧ _) ∧ (_ ∧ _) ∧ Below W4.heap.size W4 _›
      clear a0 a1 a2 a3 a4 a5 b0 b1 b2 b3 b4 b5 HSB hownz hndz hgez hbq
      obtain ⟨⟨a0, a1, a2, a3, a4, a5⟩, ⟨b0, b1, b2, b3, b4, b5⟩, hsb⟩ := hS
      have HSB := Lib.hid hsb
      clear hsb
      go_wp2_with fail
      go_region_held3 (fun V => (V.cell? ⟨w1.heap.size, 0, none⟩ = some (.int .i64 n.kind) ∧ V.cell? ⟨w1.heap.size, 1, none⟩ = some (.string n.data) ∧ V.cell? ⟨w1.heap.size, 2, none⟩ = some (.slice h1.A n.ptrs.length h1.a) ∧ V.cell? ⟨w1.heap.size, 3, none⟩ = some (.int .i64 n.size) ∧ V.cell? ⟨w1.heap.size, 4, none⟩ = some (.int .i64 n.count) ∧ V.cell? ⟨w1.heap.size, 5, none⟩ = some (.slice h1.B n.items.length h1.b)) ∧ (V.cell? ⟨w2.heap.size, 0, none⟩ = some (.int .i64 x.kind) ∧ V.cell? ⟨w2.heap.size, 1, none⟩ = some (.string x.data) ∧ V.cell? ⟨w2.heap.size, 2, none⟩ = some (.slice hy.A x.ptrs.length hy.a) ∧ V.cell? ⟨w2.heap.size, 3, none⟩ = some (.int .i64 x.size) ∧ V.cell? ⟨w2.heap.size, 4, none⟩ = some (.int .i64 x.count) ∧ V.cell? ⟨w2.heap.size, 5, none⟩ = some (.slice hy.B x.items.length hy.b)) ∧ Below W4.heap.size W4 V) ((first | exact ⟨⟨a0, a1, a2, a3, a4, a5⟩, ⟨b0, b1, b2, b3, b4, b5⟩, HSB.out.drew⟩ | (obtain ⟨⟨s0, s1, s2, s3, s4, s5⟩, ⟨t0, t1, t2, t3, t4, t5⟩, sb⟩ := ‹(_ ∧ _) ∧ (_ ∧ _) ∧ Below W4.heap.size W4 _›; exact ⟨⟨kc hbq s0, kc hbq s1, kc hbq s2, kc hbq s3, kc hbq s4, kc hbq s5⟩, ⟨kc hbq t0, kc hbq t1, kc hbq t2, kc hbq t3, kc hbq t4, kc hbq t5⟩, sb.trans (hbq.mono sb.size)⟩))) (first | (go_at_call 10; (with_reducible refine (HSC.out _ (by have hh := ‹(_ ∧ _) ∧ (_ ∧ _) ∧ Below W4.heap.size W4 _›; exact hh.2.2)).mono ?_); rintro e wq ⟨hz, bz, rfl, hownz, hndz, hgez, hbq⟩) | (go_at_call 9; (with_reducible refine (HQ.out _ (by have hh := ‹(_ ∧ _) ∧ (_ ∧ _) ∧ Below W4.heap.size W4 _›; exact hh.2.2) hz _ hownz.nd).mono ?_); rintro e wq ⟨rfl, hbq⟩))
      all_goals
        have hS := ‹(_ ∧ _) ∧ (_ ∧ _) ∧ Below W4.heap.size W4 _›
        have HFIN := Lib.hid (HB4.out.trans (hS.2.2.mono HB4.out.size))
        clear hS a0 a1 a2 a3 a4 a5 b0 b1 b2 b3 b4 b5
        go_wp2
        go_ret
        exact ⟨rfl, HFIN.out⟩
  · replace HAL := Lib.hid (HAL.out hok)
    replace HIO := Lib.hid (HIO.out hok)
    replace HIC := Lib.hid (HIC.out hok)
    have hle := HLE.out hok
    have hlez : ((nx : Int) ≤ (nn : Int)) := by omega
    rw [hok] at HNO
    clear hok HLE
    go_region_held3 (fun V => (V.cell? ⟨w1.heap.size, 0, none⟩ = some (.int .i64 n.kind) ∧ V.cell? ⟨w1.heap.size, 1, none⟩ = some (.string n.data) ∧ V.cell? ⟨w1.heap.size, 2, none⟩ = some (.slice h1.A n.ptrs.length h1.a) ∧ V.cell? ⟨w1.heap.size, 3, none⟩ = some (.int .i64 n.size) ∧ V.cell? ⟨w1.heap.size, 4, none⟩ = some (.int .i64 n.count) ∧ V.cell? ⟨w1.heap.size, 5, none⟩ = some (.slice h1.B n.items.length h1.b)) ∧ (V.cell? ⟨w2.heap.size, 0, none⟩ = some (.int .i64 x.kind) ∧ V.cell? ⟨w2.heap.size, 1, none⟩ = some (.string x.data) ∧ V.cell? ⟨w2.heap.size, 2, none⟩ = some (.slice hy.A x.ptrs.length hy.a) ∧ V.cell? ⟨w2.heap.size, 3, none⟩ = some (.int .i64 x.size) ∧ V.cell? ⟨w2.heap.size, 4, none⟩ = some (.int .i64 x.count) ∧ V.cell? ⟨w2.heap.size, 5, none⟩ = some (.slice hy.B x.items.length hy.b)) ∧ Below W4.heap.size W4 V) ((first | exact ⟨⟨a0, a1, a2, a3, a4, a5⟩, ⟨b0, b1, b2, b3, b4, b5⟩, HSB.out.drew⟩ | (obtain ⟨⟨s0, s1, s2, s3, s4, s5⟩, ⟨t0, t1, t2, t3, t4, t5⟩, sb⟩ := ‹(_ ∧ _) ∧ (_ ∧ _) ∧ Below W4.heap.size W4 _›; exact ⟨⟨kc hbq s0, kc hbq s1, kc hbq s2, kc hbq s3, kc hbq s4, kc hbq s5⟩, ⟨kc hbq t0, kc hbq t1, kc hbq t2, kc hbq t3, kc hbq t4, kc hbq t5⟩, sb.trans (hbq.mono sb.size)⟩))) (first | (go_at_call 10; (with_reducible refine (HSC.out _ (by have hh := ‹(_ ∧ _) ∧ (_ ∧ _) ∧ Below W4.heap.size W4 _›; exact hh.2.2)).mono ?_); rintro e wq ⟨hz, bz, rfl, hownz, hndz, hgez, hbq⟩) | (go_at_call 9; (with_reducible refine (HQ.out _ (by have hh := ‹(_ ∧ _) ∧ (_ ∧ _) ∧ Below W4.heap.size W4 _›; exact hh.2.2) hz _ hownz.nd).mono ?_); rintro e wq ⟨rfl, hbq⟩) | (go_at_call 12; (with_reducible refine (HNO.out _ (by have hh := ‹(_ ∧ _) ∧ (_ ∧ _) ∧ Below W4.heap.size W4 _›; exact hh.2.2)).mono ?_); rintro e wq ⟨rfl, hbq⟩))
    all_goals
      have hS := ‹(_ ∧ _) ∧ (_ ∧ _) ∧ Below W4.heap.size W4 _›
      clear a0 a1 a2 a3 a4 a5 b0 b1 b2 b3 b4 b5 HSB hownz hndz hgez hbq
      obtain ⟨⟨a0, a1, a2, a3, a4, a5⟩, ⟨b0, b1, b2, b3, b4, b5⟩, hsb⟩ := hS
      have HSB := Lib.hid hsb
      clear hsb HSC HQ HNO
      go_wp2_with fail
      go_region_held3 (fun V => (V.cell? ⟨w1.heap.size, 0, none⟩ = some (.int .i64 n.kind) ∧ V.cell? ⟨w1.heap.size, 1, none⟩ = some (.string n.data) ∧ V.cell? ⟨w1.heap.size, 2, none⟩ = some (.slice h1.A n.ptrs.length h1.a) ∧ V.cell? ⟨w1.heap.size, 3, none⟩ = some (.int .i64 n.size) ∧ V.cell? ⟨w1.heap.size, 4, none⟩ = some (.int .i64 n.count) ∧ V.cell? ⟨w1.heap.size, 5, none⟩ = some (.slice h1.B n.items.length h1.b)) ∧ (V.cell? ⟨w2.heap.size, 0, none⟩ = some (.int .i64 x.kind) ∧ V.cell? ⟨w2.heap.size, 1, none⟩ = some (.string x.data) ∧ V.cell? ⟨w2.heap.size, 2, none⟩ = some (.slice hy.A x.ptrs.length hy.a) ∧ V.cell? ⟨w2.heap.size, 3, none⟩ = some (.int .i64 x.size) ∧ V.cell? ⟨w2.heap.size, 4, none⟩ = some (.int .i64 x.count) ∧ V.cell? ⟨w2.heap.size, 5, none⟩ = some (.slice hy.B x.items.length hy.b)) ∧ Below W4.heap.size W4 V) ((first | exact ⟨⟨a0, a1, a2, a3, a4, a5⟩, ⟨b0, b1, b2, b3, b4, b5⟩, HSB.out.drew⟩ | (obtain ⟨⟨s0, s1, s2, s3, s4, s5⟩, ⟨t0, t1, t2, t3, t4, t5⟩, sb⟩ := ‹(_ ∧ _) ∧ (_ ∧ _) ∧ Below W4.heap.size W4 _›; exact ⟨⟨kc hbq s0, kc hbq s1, kc hbq s2, kc hbq s3, kc hbq s4, kc hbq s5⟩, ⟨kc hbq t0, kc hbq t1, kc hbq t2, kc hbq t3, kc hbq t4, kc hbq t5⟩, sb.trans (hbq.mono sb.size)⟩))) (first | (go_at_call 13; (with_reducible refine (HIO.out _ (by have hh := ‹(_ ∧ _) ∧ (_ ∧ _) ∧ Below W4.heap.size W4 _›; exact hh.2.2)).mono ?_); rintro e wq ⟨rfl, hbq⟩) | (go_at_call 8; (with_reducible refine (HIC.out _ (by have hh := ‹(_ ∧ _) ∧ (_ ∧ _) ∧ Below W4.heap.size W4 _›; exact hh.2.2)).mono ?_); rintro e wq ⟨hz, bz, rfl, hownz, hndz, hgez, hbq⟩) | (go_at_call 9; (with_reducible refine (HQ2.out _ (by have hh := ‹(_ ∧ _) ∧ (_ ∧ _) ∧ Below W4.heap.size W4 _›; exact hh.2.2) hz _ hownz.nd).mono ?_); rintro e wq ⟨rfl, hbq⟩) | (go_at_call 14; (with_reducible refine (HAL.out _ (by have hh := ‹(_ ∧ _) ∧ (_ ∧ _) ∧ Below W4.heap.size W4 _›; exact hh.2.2)).mono ?_); rintro e wq ⟨rfl, hbq⟩) | (go_at_call 15; first | ((with_reducible refine (HW1.out _ (by have hh := ‹(_ ∧ _) ∧ (_ ∧ _) ∧ Below W4.heap.size W4 _›; exact hh.2.2)).mono ?_); rintro e wq ⟨rfl, hbq⟩) | ((with_reducible refine (HW2.out _ (by have hh := ‹(_ ∧ _) ∧ (_ ∧ _) ∧ Below W4.heap.size W4 _›; exact hh.2.2)).mono ?_); rintro e wq ⟨rfl, hbq⟩)))
      all_goals
        have hS := ‹(_ ∧ _) ∧ (_ ∧ _) ∧ Below W4.heap.size W4 _›
        have HFIN := Lib.hid (HB4.out.trans (hS.2.2.mono HB4.out.size))
        clear hS a0 a1 a2 a3 a4 a5 b0 b1 b2 b3 b4 b5
        go_wp2
        go_ret
        exact ⟨rfl, HFIN.out⟩
end Go.Proofs.Ytfiiopchfmcjdaa
