/- Texts of the proof of the law FnExactCanon, side by side: part 2. -/
import Derived.Deep.RegionHeld3
import Derived.Deep.RegionWith
import Derived.Test.YtkimkhgigbejkaaMCanonLeast00
import Derived.Test.YtkimkhgigbejkaaMCanonLeast01
import Derived.Test.YtkimkhgigbejkaaMCanonLeast02
import Derived.Test.YtkimkhgigbejkaaMCanonLeast03
import Derived.Test.YtkimkhgigbejkaaMCanonLeast04
import Derived.Test.YtkimkhgigbejkaaMCanonLeast05
import Derived.Test.YtkimkhgigbejkaaMCanonLeast06
import Derived.Test.YtkimkhgigbejkaaMCanonLeast07
import Derived.Test.YtkimkhgigbejkaaMCanonLeast08
import Derived.Test.YtkimkhgigbejkaaMCanonLeast09
import Derived.Test.YtkimkhgigbejkaaMCanonLeast10
import Derived.Test.YtkimkhgigbejkaaMCanonLeast11
import Derived.Test.YtkimkhgigbejkaaMCanonLeast12
import Derived.Test.YtkimkhgigbejkaaMCanonLeast13
import Derived.Test.YtkimkhgigbejkaaMCanonLeast14
import Derived.Test.YtkimkhgigbejkaaMCanonLeast15
import Derived.Test.YtkimkhgigbejkaaMCanonLeast16
import Derived.Test.YtkimkhgigbejkaaMCanonLeast17
import Derived.Test.YtkimkhgigbejkaaMCanonLeast18
import Derived.Test.YtkimkhgigbejkaaMCanonLeast19
import Derived.Test.YtkimkhgigbejkaaMCanonLeast20
import Derived.Test.YtkimkhgigbejkaaMCanonLeast21
import Derived.Test.YtkimkhgigbejkaaMCanonLeast22
import Derived.Test.YtkimkhgigbejkaaMCanonLeast23
import Derived.Test.YtkimkhgigbejkaaMCanonLeast24
import Derived.Test.YtkimkhgigbejkaaMCanonLeast25
import Derived.Test.YtkimkhgigbejkaaMCanonLeast26
import Derived.Test.YtkimkhgigbejkaaMCanonLeast27
import Derived.Test.YtkimkhgigbejkaaMExactCanon00
import Derived.Test.YtkimkhgigbejkaaMExactCanon01
/- The walk of the law FnCanon: true at every code. -/
namespace Go.Proofs.Ytkimkhgigbejkaa
open Go.RowKit Go.Deep
theorem canX_siz {n : Nd} : sizN (canX n) ≤ sizN n := by
  unfold canX
  by_cases hok : nodeOk n = true
  · rw [if_pos hok]; exact siz_can 8 n (node_ok hok).1
  · rw [if_neg hok, sizN_eq]
    have : noneNd.data.size + sizL noneNd.ptrs + sizL noneNd.items = 0 := by
      show 0 + sizL [] + sizL [] = 0
      rw [sizL_nil]
    omega
set_option maxHeartbeats 8000000 in
set_option maxRecDepth 100000 in
theorem walkCanon (w : World) (a : Option Addr) (len cap : Nat) (h : Arg w a len cap) :
    Calls Try.prog 3 #[.slice a len cap] w fun e w' => e = .returned (.bool true) ∧ Below w.heap.size w w' := by
  have hlen := h.1.1
  unfold maxLen at hlen
  by_cases hbig : 1048576 < len
  · go_enter Try.func3, Try.ntmps3
    go_wp2
    go_ret
    exact ⟨rfl, Below.refl _ _⟩
  have HD := Lib.hid (drawCanon_any a len cap w h)
  clear h
  go_enter Try.func3, Try.ntmps3
  go_wp2_with fail
  refine HD.out.mono ?_
  rintro e w1 ⟨n, h1, rfl, hn1, ht1, hb1⟩
  have hba := (Below.refl w1.heap.size w1).alloc (Nat.le_refl _) (.cells #[.int .i64 n.kind, .string n.data, .slice h1.A n.ptrs.length h1.a, .int .i64 n.size, .int .i64 n.count, .slice h1.B n.items.length h1.b] nodeT)
  have HA := Lib.hid (heap_alloc_new w1 (.cells #[.int .i64 n.kind, .string n.data, .slice h1.A n.ptrs.length h1.a, .int .i64 n.size, .int .i64 n.count, .slice h1.B n.items.length h1.b] nodeT))
  have HB2 := Lib.hid (hb1.trans (hba.mono hb1.size))
  have HN2 := Lib.hid (hn1.below hba)
  have hsa : (w1.alloc (.cells #[.int .i64 n.kind, .string n.data, .slice h1.A n.ptrs.length h1.a, .int .i64 n.size, .int .i64 n.count, .slice h1.B n.items.length h1.b] nodeT)).heap.size = w1.heap.size + 1 := by simp
  have htn : totN 18 n ≤ 2000000 := by omega
  have hsz := totN_siz hn1
  have HTX : Hid (sizN (canX n) ≤ 300000) := Lib.hid (by have := canX_siz (n := n); omega)
  clear hn1 hb1 hba
  go_wp2_with fail
  generalize w1.alloc (.cells #[.int .i64 n.kind, .string n.data, .slice h1.A n.ptrs.length h1.a, .int .i64 n.size, .int .i64 n.count, .slice h1.B n.items.length h1.b] nodeT) = W2 at *
  obtain ⟨x, hx⟩ : ∃ x, x = canX n := ⟨_, rfl⟩
  rw [← hx] at HTX
  have HCN := Lib.hid (implCanon_a 18 n h1 W2 _ HN2.out htn)
  rw [← hx] at HCN
  unfold NewO at HCN
  have HXE := Lib.hid hx
  clear hx
  refine HCN.out.mono ?_
  rintro e w2 ⟨hy, bs, rfl, hown, hnd, hge, hb2⟩
  have hba := (Below.refl w2.heap.size w2).alloc (Nat.le_refl _) (.cells #[.int .i64 x.kind, .string x.data, .slice hy.A x.ptrs.length hy.a, .int .i64 x.size, .int .i64 x.count, .slice hy.B x.items.length hy.b] nodeT)
  have HX := Lib.hid (heap_alloc_new w2 (.cells #[.int .i64 x.kind, .string x.data, .slice hy.A x.ptrs.length hy.a, .int .i64 x.size, .int .i64 x.count, .slice hy.B x.items.length hy.b] nodeT))
  have HA4 := Lib.hid (((hba.block _ (by have := hb2.size; have := row_lt HA.out; omega))).trans ((hb2.block _ (row_lt HA.out)).trans HA.out))
  have HN4 := Lib.hid ((HN2.out.below hb2).below hba)
  have HO4 := Lib.hid (hown.below hba)
  have HB4 := Lib.hid ((HB2.out.trans (hb2.mono HB2.out.size)).trans (hba.mono (HB2.out.trans (hb2.mono HB2.out.size)).size))
  clear hown hnd hge hb2 hba
  go_wp2_with fail
  generalize w2.alloc (.cells #[.int .i64 x.kind, .string x.data, .slice hy.A x.ptrs.length hy.a, .int .i64 x.size, .int .i64 x.count, .slice hy.B x.items.length hy.b] nodeT) = W4 at *
  have hx := HXE.out
  have htx : totN 19 x ≤ 2000000 := by rw [totN_siz HO4.out.nd]; have := HTX.out; omega
  have HSB : Hid (Below W4.heap.size W4 W4) := Lib.hid (Below.refl _ _)
  have HSC : Hid (∀ V : World, Below W4.heap.size W4 V → Calls Try.prog 11 #[.agg #[.int .i64 n.kind, .string n.data, .slice h1.A n.ptrs.length h1.a, .int .i64 n.size, .int .i64 n.count, .slice h1.B n.items.length h1.b]] V (NewO 19 x V)) := Lib.hid fun V hV => by rw [hx]; exact specCanon_a 18 n h1 V _ (HN4.out.below hV) htn
  have HQ : Hid (∀ V : World, Below W4.heap.size W4 V → ∀ (hz : Hd) (SS : Nat → Prop), NdAt V SS 19 x hz → Calls Try.prog 10 #[.agg #[.int .i64 x.kind, .string x.data, .slice hy.A x.ptrs.length hy.a, .int .i64 x.size, .int .i64 x.count, .slice hy.B x.items.length hy.b], .agg #[.int .i64 x.kind, .string x.data, .slice hz.A x.ptrs.length hz.a, .int .i64 x.size, .int .i64 x.count, .slice hz.B x.items.length hz.b]] V fun e w' => e = .returned (.bool true) ∧ Below V.heap.size V w') := Lib.hid fun V hV hz SS hq => qnN_any 19 19 x x hy hz V _ SS true (HO4.out.nd.below hV) hq (iff_true_of rfl)
  have HNO : Hid (∀ V : World, Below W4.heap.size W4 V → Calls Try.prog 12 #[.agg #[.int .i64 n.kind, .string n.data, .slice h1.A n.ptrs.length h1.a, .int .i64 n.size, .int .i64 n.count, .slice h1.B n.items.length h1.b]] V fun e w' => e = .returned (.bool (nodeOk n)) ∧ Below V.heap.size V w') := Lib.hid fun V hV => specNodeOk_a 18 n h1 V _ (HN4.out.below hV) htn
  have HAL : Hid (nodeOk n = true → ∀ V : World, Below W4.heap.size W4 V → Calls Try.prog 14 #[.agg #[.int .i64 n.kind, .string n.data, .slice h1.A n.ptrs.length h1.a, .int .i64 n.size, .int .i64 n.count, .slice h1.B n.items.length h1.b], .agg #[.int .i64 x.kind, .string x.data, .slice hy.A x.ptrs.length hy.a, .int .i64 x.size, .int .i64 x.count, .slice hy.B x.items.length hy.b]] V fun e w' => e = .returned (.bool true) ∧ Below V.heap.size V w') := Lib.hid fun hok V hV => implAlike_a 18 19 n x h1 hy V _ _ true (HN4.out.below hV) (HO4.out.nd.below hV) htn htx (iff_true_of (by
    have hxx := hx
    unfold canX at hxx
    rw [if_pos hok] at hxx
    rw [hxx]
    exact ⟨hok, nodeOk_can hok, (can_can_ok hok).symm⟩))
  have HIO : Hid (nodeOk n = true → ∀ V : World, Below W4.heap.size W4 V → Calls Try.prog 13 #[.agg #[.int .i64 x.kind, .string x.data, .slice hy.A x.ptrs.length hy.a, .int .i64 x.size, .int .i64 x.count, .slice hy.B x.items.length hy.b]] V fun e w' => e = .returned (.bool true) ∧ Below V.heap.size V w') := Lib.hid fun hok V hV => by
    have := implNodeOk_a 19 x hy V _ (HO4.out.nd.below hV) htx
    have hxx := hx
    unfold canX at hxx
    rw [if_pos hok] at hxx
    rwa [show nodeOk x = true by rw [hxx]; exact nodeOk_can hok] at this
  have HIC : Hid (nodeOk n = true → ∀ V : World, Below W4.heap.size W4 V → Calls Try.prog 9 #[.agg #[.int .i64 x.kind, .string x.data, .slice hy.A x.ptrs.length hy.a, .int .i64 x.size, .int .i64 x.count, .slice hy.B x.items.length hy.b]] V (NewO 20 x V)) := Lib.hid fun hok V hV => by
    have := implCanon_a 19 x hy V _ (HO4.out.nd.below hV) htx
    have hxx := hx
    unfold canX at hxx
    rw [if_pos hok] at hxx
    have hox : nodeOk x = true := by rw [hxx]; exact nodeOk_can hok
    have hcx : canX x = x := by unfold canX; rw [if_pos hox, hxx]; exact can_can_ok hok
    rwa [hcx] at this
  have HQ2 : Hid (∀ V : World, Below W4.heap.size W4 V → ∀ (hz : Hd) (SS : Nat → Prop), NdAt V SS 20 x hz → Calls Try.prog 10 #[.agg #[.int .i64 x.kind, .string x.data, .slice hz.A x.ptrs.length hz.a, .int .i64 x.size, .int .i64 x.count, .slice hz.B x.items.length hz.b], .agg #[.int .i64 x.kind, .string x.data, .slice hy.A x.ptrs.length hy.a, .int .i64 x.size, .int .i64 x.count, .slice hy.B x.items.length hy.b]] V fun e w' => e = .returned (.bool true) ∧ Below V.heap.size V w') := Lib.hid fun V hV hz SS hq => qnN_any 20 19 x x hz hy V SS _ true hq (HO4.out.nd.below hV) (iff_true_of rfl)
  have HW1 : Hid (∀ V : World, Below W4.heap.size W4 V → Calls Try.prog 15 #[.agg #[.int .i64 x.kind, .string x.data, .slice hy.A x.ptrs.length hy.a, .int .i64 x.size, .int .i64 x.count, .slice hy.B x.items.length hy.b]] V fun e w' => e = .returned (.int .i64 (nodeWords x : Nat)) ∧ Below V.heap.size V w') := Lib.hid fun V hV => implNodeWords_a 19 x hy V _ (HO4.out.nd.below hV) htx
  have HW2 : Hid (∀ V : World, Below W4.heap.size W4 V → Calls Try.prog 15 #[.agg #[.int .i64 n.kind, .string n.data, .slice h1.A n.ptrs.length h1.a, .int .i64 n.size, .int .i64 n.count, .slice h1.B n.items.length h1.b]] V fun e w' => e = .returned (.int .i64 (nodeWords n : Nat)) ∧ Below V.heap.size V w') := Lib.hid fun V hV => implNodeWords_a 18 n h1 V _ (HN4.out.below hV) htn
  have HLE : Hid (nodeOk n = true → nodeWords x ≤ nodeWords n) := Lib.hid fun hok => by
    have hxx := hx
    unfold canX at hxx
    rw [if_pos hok] at hxx
    rw [hxx]; exact words_canL hok
  obtain ⟨a0, a1, a2, a3, a4, a5⟩ := cells6 HA4.out
  obtain ⟨b0, b1, b2, b3, b4, b5⟩ := cells6 HX.out
  clear hx htx hsz htn HXE HD HA HN2 HB2 HTX hsa
  unfold NewO at HSC HIC
  generalize nodeWords x = nx at *
  generalize nodeWords n = nn at *
  cases hok : nodeOk n
  · rw [hok] at HNO
    clear hok HAL HIO HIC HQ2 HW1 HW2 HLE
    go_region_held3 (fun V => (V.cell? ⟨w1.heap.size, 0, none⟩ = some (.int .i64 n.kind) ∧ V.cell? ⟨w1.heap.size, 1, none⟩ = some (.string n.data) ∧ V.cell? ⟨w1.heap.size, 2, none⟩ = some (.slice h1.A n.ptrs.length h1.a) ∧ V.cell? ⟨w1.heap.size, 3, none⟩ = some (.int .i64 n.size) ∧ V.cell? ⟨w1.heap.size, 4, none⟩ = some (.int .i64 n.count) ∧ V.cell? ⟨w1.heap.size, 5, none⟩ = some (.slice h1.B n.items.length h1.b)) ∧ (V.cell? ⟨w2.heap.size, 0, none⟩ = some (.int .i64 x.kind) ∧ V.cell? ⟨w2.heap.size, 1, none⟩ = some (.string x.data) ∧ V.cell? ⟨w2.heap.size, 2, none⟩ = some (.slice hy.A x.ptrs.length hy.a) ∧ V.cell? ⟨w2.heap.size, 3, none⟩ = some (.int .i64 x.size) ∧ V.cell? ⟨w2.heap.size, 4, none⟩ = some (.int .i64 x.count) ∧ V.cell? ⟨w2.heap.size, 5, none⟩ = some (.slice hy.B x.items.length hy.b)) ∧ Below W4.heap.size W4 V) ((first | exact ⟨⟨a0, a1, a2, a3, a4, a5⟩, ⟨b0, b1, b2, b3, b4, b5⟩, HSB.out.drew⟩ | (obtain ⟨⟨s0, s1, s2, s3, s4, s5⟩, ⟨t0, t1, t2, t3, t4, t5⟩, sb⟩ := ‹(_ ∧ _) ∧ (_ ∧ _) ∧ Below W4.heap.size W4 _›; exact ⟨⟨kc hbq s0, kc hbq s1, kc hbq s2, kc hbq s3, kc hbq s4, kc hbq s5⟩, ⟨kc hbq t0, kc hbq t1, kc hbq t2, kc hbq t3, kc hbq t4, kc hbq t5⟩, sb.trans (hbq.mono sb.size)⟩))) (first | (go_at_call 11; (with_reducible refine (HSC.out _ (by have hh := ‹(_ ∧ _) ∧ (_ ∧ _) ∧ Below W4.heap.size W4 _›; exact hh.2.2)).mono ?_); rintro e wq ⟨hz, bz, rfl, hownz, hndz, hgez, hbq⟩) | (go_at_call 10; (with_reducible refine (HQ.out _ (by have hh := ‹(_ ∧ _) ∧ (_ ∧ _) ∧ Below W4.heap.size W4 _›; exact hh.2.2) hz _ hownz.nd).mono ?_); rintro e wq ⟨rfl, hbq⟩) | (go_at_call 12; (with_reducible refine (HNO.out _ (by have hh := ‹(_ ∧ _) ∧ (_ ∧ _) ∧ Below W4.heap.size W4 _›; exact hh.2.2)).mono ?_); rintro e wq ⟨rfl, hbq⟩))
    all_goals
      have hS := ‹(_ ∧ _) ∧ (_ ∧ _) ∧ Below W4.heap.size W4 _›
      clear a0 a1 a2 a3 a4 a5 b0 b1 b2 b3 b4 b5 HSB hownz hndz hgez hbq
      obtain ⟨⟨a0, a1, a2, a3, a4, a5⟩, ⟨b0, b1, b2, b3, b4, b5⟩, hsb⟩ := hS
      have HSB := Lib.hid hsb
      clear hsb
      go_wp2_with fail
      go_region_held3 (fun V => (V.cell? ⟨w1.heap.size, 0, none⟩ = some (.int .i64 n.kind) ∧ V.cell? ⟨w1.heap.size, 1, none⟩ = some (.string n.data) ∧ V.cell? ⟨w1.heap.size, 2, none⟩ = some (.slice h1.A n.ptrs.length h1.a) ∧ V.cell? ⟨w1.heap.size, 3, none⟩ = some (.int .i64 n.size) ∧ V.cell? ⟨w1.heap.size, 4, none⟩ = some (.int .i64 n.count) ∧ V.cell? ⟨w1.heap.size, 5, none⟩ = some (.slice h1.B n.items.length h1.b)) ∧ (V.cell? ⟨w2.heap.size, 0, none⟩ = some (.int .i64 x.kind) ∧ V.cell? ⟨w2.heap.size, 1, none⟩ = some (.string x.data) ∧ V.cell? ⟨w2.heap.size, 2, none⟩ = some (.slice hy.A x.ptrs.length hy.a) ∧ V.cell? ⟨w2.heap.size, 3, none⟩ = some (.int .i64 x.size) ∧ V.cell? ⟨w2.heap.size, 4, none⟩ = some (.int .i64 x.count) ∧ V.cell? ⟨w2.heap.size, 5, none⟩ = some (.slice hy.B x.items.length hy.b)) ∧ Below W4.heap.size W4 V) ((first | exact ⟨⟨a0, a1, a2, a3, a4, a5⟩, ⟨b0, b1, b2, b3, b4, b5⟩, HSB.out.drew⟩ | (obtain ⟨⟨s0, s1, s2, s3, s4, s5⟩, ⟨t0, t1, t2, t3, t4, t5⟩, sb⟩ := ‹(_ ∧ _) ∧ (_ ∧ _) ∧ Below W4.heap.size W4 _›; exact ⟨⟨kc hbq s0, kc hbq s1, kc hbq s2, kc hbq s3, kc hbq s4, kc hbq s5⟩, ⟨kc hbq t0, kc hbq t1, kc hbq t2, kc hbq t3, kc hbq t4, kc hbq t5⟩, sb.trans (hbq.mono sb.size)⟩))) (first | (go_at_call 11; (with_reducible refine (HSC.out _ (by have hh := ‹(_ ∧ _) ∧ (_ ∧ _) ∧ Below W4.heap.size W4 _›; exact hh.2.2)).mono ?_); rintro e wq ⟨hz, bz, rfl, hownz, hndz, hgez, hbq⟩) | (go_at_call 10; (with_reducible refine (HQ.out _ (by have hh := ‹(_ ∧ _) ∧ (_ ∧ _) ∧ Below W4.heap.size W4 _›; exact hh.2.2) hz _ hownz.nd).mono ?_); rintro e wq ⟨rfl, hbq⟩))
      all_goals
        have hS := ‹(_ ∧ _) ∧ (_ ∧ _) ∧ Below W4.heap.size W4 _›
        have HFIN := Lib.hid (HB4.out.trans (hS.2.2.mono HB4.out.size))
        clear hS a0 a1 a2 a3 a4 a5 b0 b1 b2 b3 b4 b5
        go_wp2
        go_ret
        exact ⟨rfl, HFIN.out⟩
  · replace HAL := Lib.hid (HAL.out hok)
    replace HIO := Lib.hid (HIO.out hok)
    replace HIC := Lib.hid (HIC.out hok)
    have hle := HLE.out hok
    have hlez : ((nx : Int) ≤ (nn : Int)) := by omega
    rw [hok] at HNO
    clear hok HLE
    go_region_held3 (fun V => (V.cell? ⟨w1.heap.size, 0, none⟩ = some (.int .i64 n.kind) ∧ V.cell? ⟨w1.heap.size, 1, none⟩ = some (.string n.data) ∧ V.cell? ⟨w1.heap.size, 2, none⟩ = some (.slice h1.A n.ptrs.length h1.a) ∧ V.cell? ⟨w1.heap.size, 3, none⟩ = some (.int .i64 n.size) ∧ V.cell? ⟨w1.heap.size, 4, none⟩ = some (.int .i64 n.count) ∧ V.cell? ⟨w1.heap.size, 5, none⟩ = some (.slice h1.B n.items.length h1.b)) ∧ (V.cell? ⟨w2.heap.size, 0, none⟩ = some (.int .i64 x.kind) ∧ V.cell? ⟨w2.heap.size, 1, none⟩ = some (.string x.data) ∧ V.cell? ⟨w2.heap.size, 2, none⟩ = some (.slice hy.A x.ptrs.length hy.a) ∧ V.cell? ⟨w2.heap.size, 3, none⟩ = some (.int .i64 x.size) ∧ V.cell? ⟨w2.heap.size, 4, none⟩ = some (.int .i64 x.count) ∧ V.cell? ⟨w2.heap.size, 5, none⟩ = some (.slice hy.B x.items.length hy.b)) ∧ Below W4.heap.size W4 V) ((first | exact ⟨⟨a0, a1, a2, a3, a4, a5⟩, ⟨b0, b1, b2, b3, b4, b5⟩, HSB.out.drew⟩ | (obtain ⟨⟨s0, s1, s2, s3, s4, s5⟩, ⟨t0, t1, t2, t3, t4, t5⟩, sb⟩ := ‹(_ ∧ _) ∧ (_ ∧ _) ∧ Below W4.heap.size W4 _›; exact ⟨⟨kc hbq s0, kc hbq s1, kc hbq s2, kc hbq s3, kc hbq s4, kc hbq s5⟩, ⟨kc hbq t0, kc hbq t1, kc hbq t2, kc hbq t3, kc hbq t4, kc hbq t5⟩, sb.trans (hbq.mono sb.size)⟩))) (first | (go_at_call 11; (with_reducible refine (HSC.out _ (by have hh := ‹(_ ∧ _) ∧ (_ ∧ _) ∧ Below W4.heap.size W4 _›; exact hh.2.2)).mono ?_); rintro e wq ⟨hz, bz, rfl, hownz, hndz, hgez, hbq⟩) | (go_at_call 10; (with_reducible refine (HQ.out _ (by have hh := ‹(_ ∧ _) ∧ (_ ∧ _) ∧ Below W4.heap.size W4 _›; exact hh.2.2) hz _ hownz.nd).mono ?_); rintro e wq ⟨rfl, hbq⟩) | (go_at_call 12; (with_reducible refine (HNO.out _ (by have hh := ‹(_ ∧ _) ∧ (_ ∧ _) ∧ Below W4.heap.size W4 _›; exact hh.2.2)).mono ?_); rintro e wq ⟨rfl, hbq⟩))
    all_goals
      have hS := ‹(_ ∧ _) ∧ (_ ∧ _) ∧ Below W4.heap.size W4 _›
      clear a0 a1 a2 a3 a4 a5 b0 b1 b2 b3 b4 b5 HSB hownz hndz hgez hbq
      obtain ⟨⟨a0, a1, a2, a3, a4, a5⟩, ⟨b0, b1, b2, b3, b4, b5⟩, hsb⟩ := hS
      have HSB := Lib.hid hsb
      clear hsb HSC HQ HNO
      go_wp2_with fail
      go_region_held3 (fun V => (V.cell? ⟨w1.heap.size, 0, none⟩ = some (.int .i64 n.kind) ∧ V.cell? ⟨w1.heap.size, 1, none⟩ = some (.string n.data) ∧ V.cell? ⟨w1.heap.size, 2, none⟩ = some (.slice h1.A n.ptrs.length h1.a) ∧ V.cell? ⟨w1.heap.size, 3, none⟩ = some (.int .i64 n.size) ∧ V.cell? ⟨w1.heap.size, 4, none⟩ = some (.int .i64 n.count) ∧ V.cell? ⟨w1.heap.size, 5, none⟩ = some (.slice h1.B n.items.length h1.b)) ∧ (V.cell? ⟨w2.heap.size, 0, none⟩ = some (.int .i64 x.kind) ∧ V.cell? ⟨w2.heap.size, 1, none⟩ = some (.string x.data) ∧ V.cell? ⟨w2.heap.size, 2, none⟩ = some (.slice hy.A x.ptrs.length hy.a) ∧ V.cell? ⟨w2.heap.size, 3, none⟩ = some (.int .i64 x.size) ∧ V.cell? ⟨w2.heap.size, 4, none⟩ = some (.int .i64 x.count) ∧ V.cell? ⟨w2.heap.size, 5, none⟩ = some (.slice hy.B x.items.length hy.b)) ∧ Below W4.heap.size W4 V) ((first | exact ⟨⟨a0, a1, a2, a3, a4, a5⟩, ⟨b0, b1, b2, b3, b4, b5⟩, HSB.out.drew⟩ | (obtain ⟨⟨s0, s1, s2, s3, s4, s5⟩, ⟨t0, t1, t2, t3, t4, t5⟩, sb⟩ := ‹(_ ∧ _) ∧ (_ ∧ _) ∧ Below W4.heap.size W4 _›; exact ⟨⟨kc hbq s0, kc hbq s1, kc hbq s2, kc hbq s3, kc hbq s4, kc hbq s5⟩, ⟨kc hbq t0, kc hbq t1, kc hbq t2, kc hbq t3, kc hbq t4, kc hbq t5⟩, sb.trans (hbq.mono sb.size)⟩))) (first | (go_at_call 13; (with_reducible refine (HIO.out _ (by have hh := ‹(_ ∧ _) ∧ (_ ∧ _) ∧ Below W4.heap.size W4 _›; exact hh.2.2)).mono ?_); rintro e wq ⟨rfl, hbq⟩) | (go_at_call 9; (with_reducible refine (HIC.out _ (by have hh := ‹(_ ∧ _) ∧ (_ ∧ _) ∧ Below W4.heap.size W4 _›; exact hh.2.2)).mono ?_); rintro e wq ⟨hz, bz, rfl, hownz, hndz, hgez, hbq⟩) | (go_at_call 10; (with_reducible refine (HQ2.out _ (by have hh := ‹(_ ∧ _) ∧ (_ ∧ _) ∧ Below W4.heap.size W4 _›; exact hh.2.2) hz _ hownz.nd).mono ?_); rintro e wq ⟨rfl, hbq⟩) | (go_at_call 14; (with_reducible refine (HAL.out _ (by have hh := ‹(_ ∧ _) ∧ (_ ∧ _) ∧ Below W4.heap.size W4 _›; exact hh.2.2)).mono ?_); rintro e wq ⟨rfl, hbq⟩) | (go_at_call 15; first | ((with_reducible refine (HW1.out _ (by have hh := ‹(_ ∧ _) ∧ (_ ∧ _) ∧ Below W4.heap.size W4 _›; exact hh.2.2)).mono ?_); rintro e wq ⟨rfl, hbq⟩) | ((with_reducible refine (HW2.out _ (by have hh := ‹(_ ∧ _) ∧ (_ ∧ _) ∧ Below W4.heap.size W4 _›; exact hh.2.2)).mono ?_); rintro e wq ⟨rfl, hbq⟩)))
      all_goals
        have hS := ‹(_ ∧ _) ∧ (_ ∧ _) ∧ Below W4.heap.size W4 _›
        have HFIN := Lib.hid (HB4.out.trans (hS.2.2.mono HB4.out.size))
        clear hS a0 a1 a2 a3 a4 a5 b0 b1 b2 b3 b4 b5
        go_wp2
        go_ret
        exact ⟨rfl, HFIN.out⟩
end Go.Proofs.Ytkimkhgigbejkaa

/- The walk of the law FnExactCanon. -/
namespace Go.Proofs.Ytkimkhgigbejkaa
open Go.RowKit Go.Deep
set_option maxHeartbeats 8000000 in
set_option maxRecDepth 100000 in
theorem walkExactCanon (w : World) (m : Nat) (n : Nd) (h : Hd) (hn : NdAt w Any m n h) :
    Calls Try.prog 6 #[.agg #[.int .i64 n.kind, .string n.data, .slice h.A n.ptrs.length h.a, .int .i64 n.size, .int .i64 n.count, .slice h.B n.items.length h.b]] w fun e w' => e = .returned (.bool true) ∧ Below w.heap.size w w' := by
  have hb0 : Below w.heap.size w (w.alloc (.cells #[.int .i64 n.kind, .string n.data, .slice h.A n.ptrs.length h.a, .int .i64 n.size, .int .i64 n.count, .slice h.B n.items.length h.b] 37)) := (Below.refl _ _).alloc (Nat.le_refl _) _
  have HB0 := Lib.hid hb0
  have HP0 := Lib.hid (heap_alloc_new w (.cells #[.int .i64 n.kind, .string n.data, .slice h.A n.ptrs.length h.a, .int .i64 n.size, .int .i64 n.count, .slice h.B n.items.length h.b] 37))
  have hs0 : (w.alloc (.cells #[.int .i64 n.kind, .string n.data, .slice h.A n.ptrs.length h.a, .int .i64 n.size, .int .i64 n.count, .slice h.B n.items.length h.b] 37)).heap.size = w.heap.size + 1 := by simp
  have HSZ := Lib.hid (szN_any m n h (w.alloc (.cells #[.int .i64 n.kind, .string n.data, .slice h.A n.ptrs.length h.a, .int .i64 n.size, .int .i64 n.count, .slice h.B n.items.length h.b] 37)) 1048576 Any (hn.below hb0) (by decide) (by decide))
  by_cases hbig : (1048576 : Int) < (totN m n : Nat)
  · rw [szR_neg hbig] at HSZ
    clear hn hbig hb0 hs0
    go_enter Try.func6, Try.ntmps6
    go_wp2_with fail
    refine HSZ.out.mono ?_
    rintro e w1 ⟨rfl, hb1⟩
    have HB1 := Lib.hid (HB0.out.trans (hb1.mono HB0.out.size))
    clear hb1
    go_wp2
    go_ret
    exact ⟨rfl, HB1.out⟩
  have ht : totN m n ≤ 2000000 := by omega
  rw [szR_pos (by omega)] at HSZ
  have hl0 : ¬ ((1048576 : Int) - (totN m n : Nat) < 0) := by omega
  have hsn : sizN n ≤ 2000000 := by rw [← totN_siz hn]; exact ht
  obtain ⟨x, hx⟩ : ∃ x, x = canX n := ⟨_, rfl⟩
  have hsx : sizN x ≤ 2000000 := by rw [hx]; exact Nat.le_trans canX_siz hsn
  have HTA : Hid (∀ W : World, Below w.heap.size w W → Calls Try.prog 20 #[.agg #[.int .i64 n.kind, .string n.data, .slice h.A n.ptrs.length h.a, .int .i64 n.size, .int .i64 n.count, .slice h.B n.items.length h.b]] W (NewO m n W)) := Lib.hid fun W hW => toNO_any m n h W Any (hn.below hW) ht
  have HSC : Hid (∀ (W : World) (y : Hd) (S : Nat → Prop), NdAt W S m n y → Calls Try.prog 11 #[.agg #[.int .i64 n.kind, .string n.data, .slice y.A n.ptrs.length y.a, .int .i64 n.size, .int .i64 n.count, .slice y.B n.items.length y.b]] W (NewO (m + 1) x W)) := Lib.hid fun W y S hy => by rw [hx]; exact specCanon_a m n y W S hy ht
  have HIC : Hid (∀ (W : World) (y : Hd) (S : Nat → Prop), NdAt W S m n y → Calls Try.prog 9 #[.agg #[.int .i64 n.kind, .string n.data, .slice y.A n.ptrs.length y.a, .int .i64 n.size, .int .i64 n.count, .slice y.B n.items.length y.b]] W (NewO (m + 1) x W)) := Lib.hid fun W y S hy => by rw [hx]; exact implCanon_a m n y W S hy ht
  have HEX : Hid (∀ (y z : Hd) (W : World) (S S' : Nat → Prop), NdAt W S (m + 1) x y → NdAt W S' (m + 1) x z → Calls Try.prog 21 #[.agg #[.int .i64 x.kind, .string x.data, .slice y.A x.ptrs.length y.a, .int .i64 x.size, .int .i64 x.count, .slice y.B x.items.length y.b], .agg #[.int .i64 x.kind, .string x.data, .slice z.A x.ptrs.length z.a, .int .i64 x.size, .int .i64 x.count, .slice z.B x.items.length z.b]] W fun e w' => e = .returned (.bool true) ∧ Below W.heap.size W w') := Lib.hid fun y z W S S' a b => eqN_any (m + 1) x y z W S S' a b (by rw [totN_siz a]; exact hsx)
  have HEN : Hid (∀ (y z : Hd) (W : World) (S S' : Nat → Prop), NdAt W S m n y → NdAt W S' m n z → Calls Try.prog 21 #[.agg #[.int .i64 n.kind, .string n.data, .slice y.A n.ptrs.length y.a, .int .i64 n.size, .int .i64 n.count, .slice y.B n.items.length y.b], .agg #[.int .i64 n.kind, .string n.data, .slice z.A n.ptrs.length z.a, .int .i64 n.size, .int .i64 n.count, .slice z.B n.items.length z.b]] W fun e w' => e = .returned (.bool true) ∧ Below W.heap.size W w') := Lib.hid fun y z W S S' a b => eqN_any m n y z W S S' a b ht
  have HMN : Hid (∀ (y : Hd) (bs : List Nat) (W : World), OwN W m n y bs → bs.Nodup → Calls Try.prog 22 #[.agg #[.int .i64 n.kind, .string n.data, .slice y.A n.ptrs.length y.a, .int .i64 n.size, .int .i64 n.count, .slice y.B n.items.length y.b], .int .i64 1] W (MkN m n y bs W 1)) := Lib.hid fun y bs W a b => markNode_any m n y bs W 1 a b (by omega) (by omega)
  have HMX : Hid (∀ (y : Hd) (bs : List Nat) (W : World), OwN W (m + 1) x y bs → bs.Nodup → Calls Try.prog 22 #[.agg #[.int .i64 x.kind, .string x.data, .slice y.A x.ptrs.length y.a, .int .i64 x.size, .int .i64 x.count, .slice y.B x.items.length y.b], .int .i64 1] W (MkN (m + 1) x y bs W 1)) := Lib.hid fun y bs W a b => markNode_any (m + 1) x y bs W 1 a b (by omega) (by omega)
  clear hn hbig hb0 ht hsn hsx hx
  unfold NewO at HTA HSC HIC
  unfold MkN at HMN HMX
  go_enter Try.func6, Try.ntmps6
  go_wp2_with fail
  generalize w.alloc (.cells #[.int .i64 n.kind, .string n.data, .slice h.A n.ptrs.length h.a, .int .i64 n.size, .int .i64 n.count, .slice h.B n.items.length h.b] 37) = V0 at *
  refine HSZ.out.mono ?_
  rintro e w1 ⟨rfl, hb1⟩
  have HB1 := Lib.hid (HB0.out.trans (hb1.mono HB0.out.size))
  have HP1 := Lib.hid ((hb1.block _ (row_lt HP0.out)).trans HP0.out)
  have hs1 := hb1.size
  generalize (1048576 : Int) - (totN m n : Nat) = lf at *
  clear hb1 HSZ
  obtain ⟨a0, a1, a2, a3, a4, a5⟩ := cells6 HP1.out
  go_wp2_with fail
  refine (HTA.out _ HB1.out).mono ?_
  rintro e w2 ⟨h2, bs2, rfl, ho2, hd2, hg2, hb2⟩
  have HB2 := Lib.hid (HB1.out.trans (hb2.mono HB1.out.size))
  have HP2 := Lib.hid ((hb2.block _ (row_lt HP1.out)).trans HP1.out)
  have hs2 := hb2.size
  have HC := Lib.hid (HSC.out w2 h2 _ ho2.nd)
  clear hb2 ho2 hd2 hg2 a0 a1 a2 a3 a4 a5
  go_wp2_with fail
  refine HC.out.mono ?_
  rintro e w3 ⟨hw, bsw, rfl, ho3, hd3, hg3, hb3⟩
  clear HC
  have hba : Below w3.heap.size w3 (w3.alloc (.cells #[.int .i64 x.kind, .string x.data, .slice hw.A x.ptrs.length hw.a, .int .i64 x.size, .int .i64 x.count, .slice hw.B x.items.length hw.b] nodeT)) := (Below.refl _ _).alloc (Nat.le_refl _) _
  have HB3 := Lib.hid ((HB2.out.trans (hb3.mono HB2.out.size)).trans (hba.mono (HB2.out.trans (hb3.mono HB2.out.size)).size))
  have HP3 := Lib.hid ((hba.block _ (by have := hb3.size; have := row_lt HP2.out; omega)).trans ((hb3.block _ (row_lt HP2.out)).trans HP2.out))
  have HR3 := Lib.hid (heap_alloc_new w3 (.cells #[.int .i64 x.kind, .string x.data, .slice hw.A x.ptrs.length hw.a, .int .i64 x.size, .int .i64 x.count, .slice hw.B x.items.length hw.b] nodeT))
  have HW3 := Lib.hid (ho3.below hba)
  have HWL : Hid (∀ b ∈ bsw, b < w3.heap.size) := Lib.hid fun b hb => (ho3.lt b hb).1
  have hs3 := hb3.size
  have hs3' : (w3.alloc (.cells #[.int .i64 x.kind, .string x.data, .slice hw.A x.ptrs.length hw.a, .int .i64 x.size, .int .i64 x.count, .slice hw.B x.items.length hw.b] nodeT)).heap.size = w3.heap.size + 1 := by simp
  obtain ⟨a0, a1, a2, a3, a4, a5⟩ := cells6 HP3.out
  clear hb3 ho3 hd3 hg3 hba
  go_wp2_with fail
  generalize w3.alloc (.cells #[.int .i64 x.kind, .string x.data, .slice hw.A x.ptrs.length hw.a, .int .i64 x.size, .int .i64 x.count, .slice hw.B x.items.length hw.b] nodeT) = V3 at *
  refine (HTA.out _ HB3.out).mono ?_
  rintro e w5 ⟨h5, bs5, rfl, ho5, hd5, hg5, hb5⟩
  have hba : Below w5.heap.size w5 (w5.alloc (.cells #[.int .i64 n.kind, .string n.data, .slice h5.A n.ptrs.length h5.a, .int .i64 n.size, .int .i64 n.count, .slice h5.B n.items.length h5.b] nodeT)) := (Below.refl _ _).alloc (Nat.le_refl _) _
  have hbb : Below V3.heap.size V3 (w5.alloc (.cells #[.int .i64 n.kind, .string n.data, .slice h5.A n.ptrs.length h5.a, .int .i64 n.size, .int .i64 n.count, .slice h5.B n.items.length h5.b] nodeT)) := hb5.trans (hba.mono hb5.size)
  have HB5 := Lib.hid (HB3.out.trans (hbb.mono HB3.out.size))
  have HP5 := Lib.hid ((hbb.block _ (row_lt HP3.out)).trans HP3.out)
  have HR5 := Lib.hid ((hbb.block _ (row_lt HR3.out)).trans HR3.out)
  have HS5 := Lib.hid (heap_alloc_new w5 (.cells #[.int .i64 n.kind, .string n.data, .slice h5.A n.ptrs.length h5.a, .int .i64 n.size, .int .i64 n.count, .slice h5.B n.items.length h5.b] nodeT))
  have HW5 := Lib.hid (HW3.out.below hbb)
  have HO5 := Lib.hid (ho5.below hba)
  have HD5 : Hid (bs5.Nodup ∧ ∀ b ∈ bs5, V3.heap.size ≤ b ∧ b < w5.heap.size) := Lib.hid ⟨hd5, fun b hb => ⟨hg5 b hb, (ho5.lt b hb).1⟩⟩
  have hs5 := hb5.size
  have hs5' : (w5.alloc (.cells #[.int .i64 n.kind, .string n.data, .slice h5.A n.ptrs.length h5.a, .int .i64 n.size, .int .i64 n.count, .slice h5.B n.items.length h5.b] nodeT)).heap.size = w5.heap.size + 1 := by simp
  clear hb5 ho5 hd5 hg5 hba hbb a0 a1 a2 a3 a4 a5
  have HC := Lib.hid (HIC.out _ h5 _ HO5.out.nd)
  go_wp2_with fail
  generalize w5.alloc (.cells #[.int .i64 n.kind, .string n.data, .slice h5.A n.ptrs.length h5.a, .int .i64 n.size, .int .i64 n.count, .slice h5.B n.items.length h5.b] nodeT) = V5 at *
  refine HC.out.mono ?_
  rintro e w6 ⟨hg, bsg, rfl, ho6, hd6, hg6, hb6⟩
  clear HC
  have hba : Below w6.heap.size w6 (w6.alloc (.cells #[.int .i64 x.kind, .string x.data, .slice hg.A x.ptrs.length hg.a, .int .i64 x.size, .int .i64 x.count, .slice hg.B x.items.length hg.b] nodeT)) := (Below.refl _ _).alloc (Nat.le_refl _) _
  have hbb : Below V5.heap.size V5 (w6.alloc (.cells #[.int .i64 x.kind, .string x.data, .slice hg.A x.ptrs.length hg.a, .int .i64 x.size, .int .i64 x.count, .slice hg.B x.items.length hg.b] nodeT)) := hb6.trans (hba.mono hb6.size)
  have HB6 := Lib.hid (HB5.out.trans (hbb.mono HB5.out.size))
  have HP6 := Lib.hid ((hbb.block _ (row_lt HP5.out)).trans HP5.out)
  have HR6 := Lib.hid ((hbb.block _ (row_lt HR5.out)).trans HR5.out)
  have HS6 := Lib.hid ((hbb.block _ (row_lt HS5.out)).trans HS5.out)
  have HG6 := Lib.hid (heap_alloc_new w6 (.cells #[.int .i64 x.kind, .string x.data, .slice hg.A x.ptrs.length hg.a, .int .i64 x.size, .int .i64 x.count, .slice hg.B x.items.length hg.b] nodeT))
  have HW6 := Lib.hid (HW5.out.below hbb)
  have HO6 := Lib.hid (HO5.out.below hbb)
  have HX6 := Lib.hid (ho6.below hba)
  have HD6 : Hid (bsg.Nodup ∧ ∀ b ∈ bsg, V5.heap.size ≤ b ∧ b < w6.heap.size) := Lib.hid ⟨hd6, fun b hb => ⟨hg6 b hb, (ho6.lt b hb).1⟩⟩
  have hs6 := hb6.size
  have hs6' : (w6.alloc (.cells #[.int .i64 x.kind, .string x.data, .slice hg.A x.ptrs.length hg.a, .int .i64 x.size, .int .i64 x.count, .slice hg.B x.items.length hg.b] nodeT)).heap.size = w6.heap.size + 1 := by simp
  clear hb6 ho6 hd6 hg6 hba hbb
  have HC := Lib.hid (HEX.out hg hw _ _ _ HX6.out.nd HW6.out.nd)
  obtain ⟨r0, r1, r2, r3, r4, r5⟩ := cells6 HR6.out
  obtain ⟨g0, g1, g2, g3, g4, g5⟩ := cells6 HG6.out
  go_wp2_with fail
  generalize w6.alloc (.cells #[.int .i64 x.kind, .string x.data, .slice hg.A x.ptrs.length hg.a, .int .i64 x.size, .int .i64 x.count, .slice hg.B x.items.length hg.b] nodeT) = V6 at *
  refine HC.out.mono ?_
  rintro e w7 ⟨rfl, hb7⟩
  clear HC r0 r1 r2 r3 r4 r5 g0 g1 g2 g3 g4 g5

  have HB7 := Lib.hid (HB6.out.trans (hb7.mono HB6.out.size))
  have HP7 := Lib.hid ((hb7.block _ (row_lt HP6.out)).trans HP6.out)
  have HR7 := Lib.hid ((hb7.block _ (row_lt HR6.out)).trans HR6.out)
  have HS7 := Lib.hid ((hb7.block _ (row_lt HS6.out)).trans HS6.out)
  have HG7 := Lib.hid ((hb7.block _ (row_lt HG6.out)).trans HG6.out)
  have HW7 := Lib.hid (HW6.out.below hb7)
  have HX7 := Lib.hid (HX6.out.below hb7)
  have HO7 := Lib.hid (HO6.out.below hb7)
  have hs7 := hb7.size
  clear hb7
  obtain ⟨a0, a1, a2, a3, a4, a5⟩ := cells6 HP7.out
  obtain ⟨s0, s1, s2, s3, s4, s5⟩ := cells6 HS7.out
  have HO7f : Hid (∀ V : World, Below w7.drew.heap.size w7.drew V → OwN V m n h5 bs5) := Lib.hid fun V hV => HO7.out.below ((Below.mk rfl rfl rfl (Nat.le_refl _) (fun _ _ => rfl) : Below w7.heap.size w7 w7.drew).trans hV)
  go_wp2_with fail
  go_region_with (first | (go_at_call 20; (with_reducible refine (HTA.out _ (by exact HB7.out.drew)).mono ?_); rintro e wa ⟨ha, bsa, rfl, hoa, hda, hga, hba⟩; have hxa := (hba.block _ (row_lt HS7.out)).trans HS7.out; obtain ⟨f0, f1, f2, f3, f4, f5⟩ := cells6 hxa) | (go_at_call 21; (with_reducible refine (HEN.out h5 ha _ _ _ (HO7f.out _ hba).nd hoa.nd).mono ?_); rintro e wb ⟨rfl, hbb⟩))
  all_goals
    have hb8 : Below w7.heap.size w7 wb := ((Below.mk rfl rfl rfl (Nat.le_refl _) (fun _ _ => rfl) : Below w7.heap.size w7 w7.drew).trans hba).trans (hbb.mono hba.size)
    clear hba hbb hoa hda hga hxa f0 f1 f2 f3 f4 f5 a0 a1 a2 a3 a4 a5 s0 s1 s2 s3 s4 s5
    have HB8 := Lib.hid (HB7.out.trans (hb8.mono HB7.out.size))
    have HP8 := Lib.hid ((hb8.block _ (row_lt HP7.out)).trans HP7.out)
    have HR8 := Lib.hid ((hb8.block _ (row_lt HR7.out)).trans HR7.out)
    have HS8 := Lib.hid ((hb8.block _ (row_lt HS7.out)).trans HS7.out)
    have HG8 := Lib.hid ((hb8.block _ (row_lt HG7.out)).trans HG7.out)
    have HW8 := Lib.hid (HW7.out.below hb8)
    have HX8 := Lib.hid (HX7.out.below hb8)
    have HO8 := Lib.hid (HO7.out.below hb8)
    have hs8 := hb8.size
    clear hb8
    obtain ⟨s0, s1, s2, s3, s4, s5⟩ := cells6 HS8.out
    have HC := Lib.hid (HMN.out h5 bs5 wb HO8.out HD5.out.1)
    go_wp2_with fail
    refine HC.out.mono ?_
    rintro e w9 ⟨p5, i5, k1, k2, rfl, hk2, hpl, hil, hom, hh1, hh2, hoi⟩
    have hk0 : ¬ ((k2 : Int) < 0) := by omega
    have hkp : ∀ b, b < wb.heap.size → (b < V3.heap.size ∨ w5.heap.size ≤ b) → w9.heap[b]? = wb.heap[b]? := fun b h1 h2 => hoi.block b h1 (fun hm => by have := HD5.out.2 b hm; omega)
    have HB9 := Lib.hid (HB8.out.trans (hoi.below (B := w.heap.size) HB8.out.size (fun b hb => by have := (HD5.out.2 b hb).1; have := HB3.out.size; omega)))
    have HP9 := Lib.hid ((hkp _ (row_lt HP8.out) (by have := row_lt HP3.out; omega)).trans HP8.out)
    have HR9 := Lib.hid ((hkp _ (row_lt HR8.out) (by have := row_lt HR3.out; omega)).trans HR8.out)
    have HG9 := Lib.hid ((hkp _ (row_lt HG8.out) (by omega)).trans HG8.out)
    have HW9 := Lib.hid (HW8.out.frame (w' := w9) (fun b hb => hkp b (HW8.out.lt b hb).1 (by have := HWL.out b hb; omega)))
    have HX9 := Lib.hid (HX8.out.frame (w' := w9) (fun b hb => hkp b (HX8.out.lt b hb).1 (by have := (HD6.out.2 b hb).1; omega)))
    have hs9 := hoi.size
    have HC := Lib.hid (HEX.out hg hw _ _ _ HX9.out.nd HW9.out.nd)
    clear hoi hom hh1 hh2 hpl hil hk2 hkp s0 s1 s2 s3 s4 s5
    obtain ⟨r0, r1, r2, r3, r4, r5⟩ := cells6 HR9.out
    obtain ⟨g0, g1, g2, g3, g4, g5⟩ := cells6 HG9.out
    go_wp2_with fail
    refine HC.out.mono ?_
    rintro e w10 ⟨rfl, hb10⟩
    clear HC hk0 r0 r1 r2 r3 r4 r5 g0 g1 g2 g3 g4 g5
    have HB10 := Lib.hid (HB9.out.trans (hb10.mono HB9.out.size))
    have HP10 := Lib.hid ((hb10.block _ (row_lt HP9.out)).trans HP9.out)
    have HR10 := Lib.hid ((hb10.block _ (row_lt HR9.out)).trans HR9.out)
    have HG10 := Lib.hid ((hb10.block _ (row_lt HG9.out)).trans HG9.out)
    have HW10 := Lib.hid (HW9.out.below hb10)
    have HX10 := Lib.hid (HX9.out.below hb10)
    have hs10 := hb10.size
    clear hb10
    obtain ⟨g0, g1, g2, g3, g4, g5⟩ := cells6 HG10.out
    have HC := Lib.hid (HMX.out hg bsg w10 HX10.out HD6.out.1)
    go_wp2_with fail
    refine HC.out.mono ?_
    rintro e w11 ⟨pg, ig, m1, m2, rfl, hm2, hpl, hil, hom, hh1, hh2, hoi⟩
    clear HC g0 g1 g2 g3 g4 g5
    have hm0 : ¬ ((m2 : Int) < 0) := by omega
    have hkp : ∀ b, b < w10.heap.size → (b < V5.heap.size ∨ w6.heap.size ≤ b) → w11.heap[b]? = w10.heap[b]? := fun b h1 h2 => hoi.block b h1 (fun hm => by have := HD6.out.2 b hm; omega)
    have HB11 := Lib.hid (HB10.out.trans (hoi.below (B := w.heap.size) HB10.out.size (fun b hb => by have := (HD6.out.2 b hb).1; have := HB5.out.size; omega)))
    have HP11 := Lib.hid ((hkp _ (row_lt HP10.out) (by have := row_lt HP5.out; omega)).trans HP10.out)
    have HR11 := Lib.hid ((hkp _ (row_lt HR10.out) (by have := row_lt HR5.out; omega)).trans HR10.out)
    have HG11 := Lib.hid ((hkp _ (row_lt HG10.out) (by omega)).trans HG10.out)
    have HW11 := Lib.hid (HW10.out.frame (w' := w11) (fun b hb => hkp b (HW10.out.lt b hb).1 (by have := HWL.out b hb; omega)))
    have HHE : Hid (∀ W : World, Below w11.heap.size w11 W → Calls Try.prog 23 #[.agg #[.int .i64 x.kind, .string x.data, .slice hg.A x.ptrs.length hg.a, .int .i64 x.size, .int .i64 x.count, .slice hg.B x.items.length hg.b], .int .i64 1] W fun e w' => e = .returned (.int .i64 (m2 : Int)) ∧ Below W.heap.size W w') := Lib.hid fun W hW => by
      have hq := heldNode_any (m + 1) (.mk x.kind x.data pg x.size x.count ig) hg W _ 1 m1 m2 (hom.nd.below hW) hh1 hh2 (by omega) hm2
      have e1 : (Nd.mk x.kind x.data pg x.size x.count ig).ptrs.length = x.ptrs.length := hpl
      have e2 : (Nd.mk x.kind x.data pg x.size x.count ig).items.length = x.items.length := hil
      rw [e1, e2] at hq
      exact hq
    have hs11 := hoi.size
    clear hoi hom hh1 hh2 hpl hil hm2 hkp
    obtain ⟨g0, g1, g2, g3, g4, g5⟩ := cells6 HG11.out
    go_wp2_with fail
    refine (HHE.out _ (Below.refl _ _)).mono ?_
    rintro e w12 ⟨rfl, hb12⟩
    have HBX12 := Lib.hid hb12
    have HB12 := Lib.hid (HB11.out.trans (hb12.mono HB11.out.size))
    have HP12 := Lib.hid ((hb12.block _ (row_lt HP11.out)).trans HP11.out)
    clear hb12 g0 g1 g2 g3 g4 g5
    obtain ⟨a0, a1, a2, a3, a4, a5⟩ := cells6 HP12.out
    go_wp2_with fail
    refine (HTA.out _ HB12.out).mono ?_
    rintro e w13 ⟨h13, bs13, rfl, ho13, hd13, hg13, hb13⟩
    have HBX13 := Lib.hid (HBX12.out.trans (hb13.mono HBX12.out.size))
    have HC := Lib.hid (HIC.out w13 h13 _ ho13.nd)
    clear hb13 ho13 hd13 hg13 a0 a1 a2 a3 a4 a5
    go_wp2_with fail
    refine HC.out.mono ?_
    rintro e w14 ⟨hh, bsh, rfl, ho14, hd14, hg14, hb14⟩
    clear HC
    have hba : Below w14.heap.size w14 (w14.alloc (.cells #[.int .i64 x.kind, .string x.data, .slice hh.A x.ptrs.length hh.a, .int .i64 x.size, .int .i64 x.count, .slice hh.B x.items.length hh.b] nodeT)) := (Below.refl _ _).alloc (Nat.le_refl _) _
    have hbb : Below w13.heap.size w13 (w14.alloc (.cells #[.int .i64 x.kind, .string x.data, .slice hh.A x.ptrs.length hh.a, .int .i64 x.size, .int .i64 x.count, .slice hh.B x.items.length hh.b] nodeT)) := hb14.trans (hba.mono hb14.size)
    have HBX14 := Lib.hid (HBX13.out.trans (hbb.mono HBX13.out.size))
    have HX14 := Lib.hid (ho14.below hba)
    have HH14 := Lib.hid (heap_alloc_new w14 (.cells #[.int .i64 x.kind, .string x.data, .slice hh.A x.ptrs.length hh.a, .int .i64 x.size, .int .i64 x.count, .slice hh.B x.items.length hh.b] nodeT))
    have HC := Lib.hid (HEX.out hh hw _ _ _ HX14.out.nd (HW11.out.below HBX14.out).nd)
    obtain ⟨r0, r1, r2, r3, r4, r5⟩ := cells6 ((HBX14.out.block _ (row_lt HR11.out)).trans HR11.out)
    obtain ⟨g0, g1, g2, g3, g4, g5⟩ := cells6 HH14.out
    clear hb14 ho14 hd14 hg14 hba hbb
    go_wp2_with fail
    generalize w14.alloc (.cells #[.int .i64 x.kind, .string x.data, .slice hh.A x.ptrs.length hh.a, .int .i64 x.size, .int .i64 x.count, .slice hh.B x.items.length hh.b] nodeT) = V14 at *
    refine HC.out.mono ?_
    rintro e w15 ⟨rfl, hb15⟩
    clear HC r0 r1 r2 r3 r4 r5 g0 g1 g2 g3 g4 g5
    have HBX15 := Lib.hid (HBX14.out.trans (hb15.mono HBX14.out.size))
    clear hb15
    obtain ⟨g0, g1, g2, g3, g4, g5⟩ := cells6 ((HBX15.out.block _ (row_lt HG11.out)).trans HG11.out)
    go_wp2_with fail
    refine (HHE.out _ HBX15.out).mono ?_
    rintro e w16 ⟨rfl, hb16⟩
    have HFIN := Lib.hid (HB11.out.trans ((HBX15.out.trans (hb16.mono HBX15.out.size)).mono HB11.out.size))
    clear hb16 g0 g1 g2 g3 g4 g5
    go_wp2
    go_ret
    exact ⟨rfl, HFIN.out⟩
end Go.Proofs.Ytkimkhgigbejkaa
