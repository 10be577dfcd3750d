/- Texts of the proof of the law FnCanonLeast, side by side: part 29. -/
import Derived.Deep.RegionHeld3
import Derived.Test.YtkimkhgigbejkaaMCanonLeast00
import Derived.Test.YtkimkhgigbejkaaMCanonLeast01
import Derived.Test.YtkimkhgigbejkaaMCanonLeast02
import Derived.Test.YtkimkhgigbejkaaMCanonLeast03
import Derived.Test.YtkimkhgigbejkaaMCanonLeast04
import Derived.Test.YtkimkhgigbejkaaMCanonLeast05
import Derived.Test.YtkimkhgigbejkaaMCanonLeast06
import Derived.Test.YtkimkhgigbejkaaMCanonLeast07
import Derived.Test.YtkimkhgigbejkaaMCanonLeast08
import Derived.Test.YtkimkhgigbejkaaMCanonLeast09
import Derived.Test.YtkimkhgigbejkaaMCanonLeast10
import Derived.Test.YtkimkhgigbejkaaMCanonLeast11
import Derived.Test.YtkimkhgigbejkaaMCanonLeast12
import Derived.Test.YtkimkhgigbejkaaMCanonLeast13
import Derived.Test.YtkimkhgigbejkaaMCanonLeast14
import Derived.Test.YtkimkhgigbejkaaMCanonLeast15
import Derived.Test.YtkimkhgigbejkaaMCanonLeast16
import Derived.Test.YtkimkhgigbejkaaMCanonLeast17
import Derived.Test.YtkimkhgigbejkaaMCanonLeast18
import Derived.Test.YtkimkhgigbejkaaMCanonLeast19
import Derived.Test.YtkimkhgigbejkaaMCanonLeast20
import Derived.Test.YtkimkhgigbejkaaMCanonLeast21
import Derived.Test.YtkimkhgigbejkaaMCanonLeast22
import Derived.Test.YtkimkhgigbejkaaMCanonLeast23
import Derived.Test.YtkimkhgigbejkaaMCanonLeast24
import Derived.Test.YtkimkhgigbejkaaMCanonLeast25
import Derived.Test.YtkimkhgigbejkaaMCanonLeast26
import Derived.Test.YtkimkhgigbejkaaMCanonLeast27
import Derived.Test.YtkimkhgigbejkaaMCanonLeast28
/- The specification's draw for the laws of the one form. -/
namespace Go.Proofs.Ytkimkhgigbejkaa
open Go.RowKit
set_option maxHeartbeats 4000000 in
theorem drawCanon_any (a : Option Addr) (len cap : Nat) (w : World) (h : Arg w a len cap) :
    Calls Try.prog 8 #[.slice a len cap] w (DrawN w) := by
  go_enter Try.func8, Try.ntmps8
  go_wp2_with fail
  refine (l1Open_any a len cap _ (code_alloc h.1 _) h.2.1 h.2.2).mono ?_
  rintro e w1 ⟨R, rfl, hR, hrd, hb1⟩
  have hz1 := (hb1.block w.heap.size (by simp)).trans (heap_alloc_new w (.cells #[.int .i64 0, .string { data := #[] }, .slice none 0 0, .int .i64 0, .int .i64 0, .slice none 0 0] nodeT))
  go_wp2_with fail
  refine (l13AnyNode_any R 0 _ hrd (by omega)).mono ?_
  rintro e w2 ⟨n, hh, rfl, hn, ht, hp2⟩
  have hR' : w.heap.size + 1 ≤ R := by simpa using hR
  have hs1 : w.heap.size + 1 ≤ w1.heap.size := by simpa using hb1.size
  have hb0 : Below w.heap.size w w1 := ((Below.refl w.heap.size w).alloc (Nat.le_refl _) (.cells #[.int .i64 0, .string { data := #[] }, .slice none 0 0, .int .i64 0, .int .i64 0, .slice none 0 0] nodeT)).trans (hb1.mono (by simp))
  have hb2 := opened_below (by omega) hb0 hp2
  have hz2 := pick_rowN hz1 hp2 (by omega)
  have hn2 := hn.plain.from_ hs1
  obtain ⟨z0, z1, z2, z3, z4, z5⟩ := cells6 hz2
  have zf := row_free hz2
  clear hb1 hp2 hb0 hz1 hrd
  go_wp2_with fail
  obtain ⟨wf, hwf, hrw, hnf, hbf⟩ := draw_fin hz2 hn2 hb2
  rw [hwf]
  obtain ⟨e0, e1, e2, e3, e4, e5⟩ := cells6 hrw
  exact bodyPost_ret (v := .agg #[.int .i64 n.kind, .string n.data, .slice hh.A n.ptrs.length hh.a, .int .i64 n.size, .int .i64 n.count, .slice hh.B n.items.length hh.b]) (by simp [results, Try.results8, go_sem, e0, e1, e2, e3, e4, e5]) rfl ⟨n, hh, rfl, hnf, ht.1, hbf⟩
end Go.Proofs.Ytkimkhgigbejkaa

/- The walk of the law FnCanon: true at every code. -/
namespace Go.Proofs.Ytkimkhgigbejkaa
open Go.RowKit Go.Deep
theorem canX_siz {n : Nd} : sizN (canX n) ≤ sizN n := by
  unfold canX
  by_cases hok : nodeOk n = true
  · rw [if_pos hok]; exact siz_can 8 n (node_ok hok).1
  · rw [if_neg hok, sizN_eq]
    have : noneNd.data.size + sizL noneNd.ptrs + sizL noneNd.items = 0 := by
      show 0 + sizL [] + sizL [] = 0
      rw [sizL_nil]
    omega
set_option maxHeartbeats 8000000 in
set_option maxRecDepth 100000 in
theorem walkCanon (w : World) (a : Option Addr) (len cap : Nat) (h : Arg w a len cap) :
    Calls Try.prog 3 #[.slice a len cap] w fun e w' => e = .returned (.bool true) ∧ Below w.heap.size w w' := by
  have hlen := h.1.1
  unfold maxLen at hlen
  by_cases hbig : 1048576 < len
  · go_enter Try.func3, Try.ntmps3
    go_wp2
    go_ret
    exact ⟨rfl, Below.refl _ _⟩
  have HD := Lib.hid (drawCanon_any a len cap w h)
  clear h
  go_enter Try.func3, Try.ntmps3
  go_wp2_with fail
  refine HD.out.mono ?_
  rintro e w1 ⟨n, h1, rfl, hn1, ht1, hb1⟩
  have hba := (Below.refl w1.heap.size w1).alloc (Nat.le_refl _) (.cells #[.int .i64 n.kind, .string n.data, .slice h1.A n.ptrs.length h1.a, .int .i64 n.size, .int .i64 n.count, .slice h1.B n.items.length h1.b] nodeT)
  have HA := Lib.hid (heap_alloc_new w1 (.cells #[.int .i64 n.kind, .string n.data, .slice h1.A n.ptrs.length h1.a, .int .i64 n.size, .int .i64 n.count, .slice h1.B n.items.length h1.b] nodeT))
  have HB2 := Lib.hid (hb1.trans (hba.mono hb1.size))
  have HN2 := Lib.hid (hn1.below hba)
  have hsa : (w1.alloc (.cells #[.int .i64 n.kind, .string n.data, .slice h1.A n.ptrs.length h1.a, .int .i64 n.size, .int .i64 n.count, .slice h1.B n.items.length h1.b] nodeT)).heap.size = w1.heap.size + 1 := by simp
  have htn : totN 18 n ≤ 2000000 := by omega
  have hsz := totN_siz hn1
  have HTX : Hid (sizN (canX n) ≤ 300000) := Lib.hid (by have := canX_siz (n := n); omega)
  clear hn1 hb1 hba
  go_wp2_with fail
  generalize w1.alloc (.cells #[.int .i64 n.kind, .string n.data, .slice h1.A n.ptrs.length h1.a, .int .i64 n.size, .int .i64 n.count, .slice h1.B n.items.length h1.b] nodeT) = W2 at *
  obtain ⟨x, hx⟩ : ∃ x, x = canX n := ⟨_, rfl⟩
  rw [← hx] at HTX
  have HCN := Lib.hid (implCanon_a 18 n h1 W2 _ HN2.out htn)
  rw [← hx] at HCN
  unfold NewO at HCN
  have HXE := Lib.hid hx
  clear hx
  refine HCN.out.mono ?_
  rintro e w2 ⟨hy, bs, rfl, hown, hnd, hge, hb2⟩
  have hba := (Below.refl w2.heap.size w2).alloc (Nat.le_refl _) (.cells #[.int .i64 x.kind, .string x.data, .slice hy.A x.ptrs.length hy.a, .int .i64 x.size, .int .i64 x.count, .slice hy.B x.items.length hy.b] nodeT)
  have HX := Lib.hid (heap_alloc_new w2 (.cells #[.int .i64 x.kind, .string x.data, .slice hy.A x.ptrs.length hy.a, .int .i64 x.size, .int .i64 x.count, .slice hy.B x.items.length hy.b] nodeT))
  have HA4 := Lib.hid (((hba.block _ (by have := hb2.size; have := row_lt HA.out; omega))).trans ((hb2.block _ (row_lt HA.out)).trans HA.out))
  have HN4 := Lib.hid ((HN2.out.below hb2).below hba)
  have HO4 := Lib.hid (hown.below hba)
  have HB4 := Lib.hid ((HB2.out.trans (hb2.mono HB2.out.size)).trans (hba.mono (HB2.out.trans (hb2.mono HB2.out.size)).size))
  clear hown hnd hge hb2 hba
  go_wp2_with fail
  generalize w2.alloc (.cells #[.int .i64 x.kind, .string x.data, .slice hy.A x.ptrs.length hy.a, .int .i64 x.size, .int .i64 x.count, .slice hy.B x.items.length hy.b] nodeT) = W4 at *
  have hx := HXE.out
  have htx : totN 19 x ≤ 2000000 := by rw [totN_siz HO4.out.nd]; have := HTX.out; omega
  have HSB : Hid (Below W4.heap.size W4 W4) := Lib.hid (Below.refl _ _)
  have HSC : Hid (∀ V : World, Below W4.heap.size W4 V → Calls Try.prog 11 #[.agg #[.int .i64 n.kind, .string n.data, .slice h1.A n.ptrs.length h1.a, .int .i64 n.size, .int .i64 n.count, .slice h1.B n.items.length h1.b]] V (NewO 19 x V)) := Lib.hid fun V hV => by rw [hx]; exact specCanon_a 18 n h1 V _ (HN4.out.below hV) htn
  have HQ : Hid (∀ V : World, Below W4.heap.size W4 V → ∀ (hz : Hd) (SS : Nat → Prop), NdAt V SS 19 x hz → Calls Try.prog 10 #[.agg #[.int .i64 x.kind, .string x.data, .slice hy.A x.ptrs.length hy.a, .int .i64 x.size, .int .i64 x.count, .slice hy.B x.items.length hy.b], .agg #[.int .i64 x.kind, .string x.data, .slice hz.A x.ptrs.length hz.a, .int .i64 x.size, .int .i64 x.count, .slice hz.B x.items.length hz.b]] V fun e w' => e = .returned (.bool true) ∧ Below V.heap.size V w') := Lib.hid fun V hV hz SS hq => qnN_any 19 19 x x hy hz V _ SS true (HO4.out.nd.below hV) hq (iff_true_of rfl)
  have HNO : Hid (∀ V : World, Below W4.heap.size W4 V → Calls Try.prog 12 #[.agg #[.int .i64 n.kind, .string n.data, .slice h1.A n.ptrs.length h1.a, .int .i64 n.size, .int .i64 n.count, .slice h1.B n.items.length h1.b]] V fun e w' => e = .returned (.bool (nodeOk n)) ∧ Below V.heap.size V w') := Lib.hid fun V hV => specNodeOk_a 18 n h1 V _ (HN4.out.below hV) htn
  have HAL : Hid (nodeOk n = true → ∀ V : World, Below W4.heap.size W4 V → Calls Try.prog 14 #[.agg #[.int .i64 n.kind, .string n.data, .slice h1.A n.ptrs.length h1.a, .int .i64 n.size, .int .i64 n.count, .slice h1.B n.items.length h1.b], .agg #[.int .i64 x.kind, .string x.data, .slice hy.A x.ptrs.length hy.a, .int .i64 x.size, .int .i64 x.count, .slice hy.B x.items.length hy.b]] V fun e w' => e = .returned (.bool true) ∧ Below V.heap.size V w') := Lib.hid fun hok V hV => implAlike_a 18 19 n x h1 hy V _ _ true (HN4.out.below hV) (HO4.out.nd.below hV) htn htx (iff_true_of (by
    have hxx := hx
    unfold canX at hxx
    rw [if_pos hok] at hxx
    rw [hxx]
    exact ⟨hok, nodeOk_can hok, (can_can_ok hok).symm⟩))
  have HIO : Hid (nodeOk n = true → ∀ V : World, Below W4.heap.size W4 V → Calls Try.prog 13 #[.agg #[.int .i64 x.kind, .string x.data, .slice hy.A x.ptrs.length hy.a, .int .i64 x.size, .int .i64 x.count, .slice hy.B x.items.length hy.b]] V fun e w' => e = .returned (.bool true) ∧ Below V.heap.size V w') := Lib.hid fun hok V hV => by
    have := implNodeOk_a 19 x hy V _ (HO4.out.nd.below hV) htx
    have hxx := hx
    unfold canX at hxx
    rw [if_pos hok] at hxx
    rwa [show nodeOk x = true by rw [hxx]; exact nodeOk_can hok] at this
  have HIC : Hid (nodeOk n = true → ∀ V : World, Below W4.heap.size W4 V → Calls Try.prog 9 #[.agg #[.int .i64 x.kind, .string x.data, .slice hy.A x.ptrs.length hy.a, .int .i64 x.size, .int .i64 x.count, .slice hy.B x.items.length hy.b]] V (NewO 20 x V)) := Lib.hid fun hok V hV => by
    have := implCanon_a 19 x hy V _ (HO4.out.nd.below hV) htx
    have hxx := hx
    unfold canX at hxx
    rw [if_pos hok] at hxx
    have hox : nodeOk x = true := by rw [hxx]; exact nodeOk_can hok
    have hcx : canX x = x := by unfold canX; rw [if_pos hox, hxx]; exact can_can_ok hok
    rwa [hcx] at this
  have HQ2 : Hid (∀ V : World, Below W4.heap.size W4 V → ∀ (hz : Hd) (SS : Nat → Prop), NdAt V SS 20 x hz → Calls Try.prog 10 #[.agg #[.int .i64 x.kind, .string x.data, .slice hz.A x.ptrs.length hz.a, .int .i64 x.size, .int .i64 x.count, .slice hz.B x.items.length hz.b], .agg #[.int .i64 x.kind, .string x.data, .slice hy.A x.ptrs.length hy.a, .int .i64 x.size, .int .i64 x.count, .slice hy.B x.items.length hy.b]] V fun e w' => e = .returned (.bool true) ∧ Below V.heap.size V w') := Lib.hid fun V hV hz SS hq => qnN_any 20 19 x x hz hy V SS _ true hq (HO4.out.nd.below hV) (iff_true_of rfl)
  have HW1 : Hid (∀ V : World, Below W4.heap.size W4 V → Calls Try.prog 15 #[.agg #[.int .i64 x.kind, .string x.data, .slice hy.A x.ptrs.length hy.a, .int .i64 x.size, .int .i64 x.count, .slice hy.B x.items.length hy.b]] V fun e w' => e = .returned (.int .i64 (nodeWords x : Nat)) ∧ Below V.heap.size V w') := Lib.hid fun V hV => implNodeWords_a 19 x hy V _ (HO4.out.nd.below hV) htx
  have HW2 : Hid (∀ V : World, Below W4.heap.size W4 V → Calls Try.prog 15 #[.agg #[.int .i64 n.kind, .string n.data, .slice h1.A n.ptrs.length h1.a, .int .i64 n.size, .int .i64 n.count, .slice h1.B n.items.length h1.b]] V fun e w' => e = .returned (.int .i64 (nodeWords n : Nat)) ∧ Below V.heap.size V w') := Lib.hid fun V hV => implNodeWords_a 18 n h1 V _ (HN4.out.below hV) htn
  have HLE : Hid (nodeOk n = true → nodeWords x ≤ nodeWords n) := Lib.hid fun hok => by
    have hxx := hx
    unfold canX at hxx
    rw [if_pos hok] at hxx
    rw [hxx]; exact words_canL hok
  obtain ⟨a0, a1, a2, a3, a4, a5⟩ := cells6 HA4.out
  obtain ⟨b0, b1, b2, b3, b4, b5⟩ := cells6 HX.out
  clear hx htx hsz htn HXE HD HA HN2 HB2 HTX hsa
  unfold NewO at HSC HIC
  generalize nodeWords x = nx at *
  generalize nodeWords n = nn at *
  cases hok : nodeOk n
  · rw [hok] at HNO
    clear hok HAL HIO HIC HQ2 HW1 HW2 HLE
    go_region_held3 (fun V => (V.cell? ⟨w1.heap.size, 0, none⟩ = some (.int .i64 n.kind) ∧ V.cell? ⟨w1.heap.size, 1, none⟩ = some (.string n.data) ∧ V.cell? ⟨w1.heap.size, 2, none⟩ = some (.slice h1.A n.ptrs.length h1.a) ∧ V.cell? ⟨w1.heap.size, 3, none⟩ = some (.int .i64 n.size) ∧ V.cell? ⟨w1.heap.size, 4, none⟩ = some (.int .i64 n.count) ∧ V.cell? ⟨w1.heap.size, 5, none⟩ = some (.slice h1.B n.items.length h1.b)) ∧ (V.cell? ⟨w2.heap.size, 0, none⟩ = some (.int .i64 x.kind) ∧ V.cell? ⟨w2.heap.size, 1, none⟩ = some (.string x.data) ∧ V.cell? ⟨w2.heap.size, 2, none⟩ = some (.slice hy.A x.ptrs.length hy.a) ∧ V.cell? ⟨w2.heap.size, 3, none⟩ = some (.int .i64 x.size) ∧ V.cell? ⟨w2.heap.size, 4, none⟩ = some (.int .i64 x.count) ∧ V.cell? ⟨w2.heap.size, 5, none⟩ = some (.slice hy.B x.items.length hy.b)) ∧ Below W4.heap.size W4 V) ((first | exact ⟨⟨a0, a1, a2, a3, a4, a5⟩, ⟨b0, b1, b2, b3, b4, b5⟩, HSB.out.drew⟩ | (obtain ⟨⟨s0, s1, s2, s3, s4, s5⟩, ⟨t0, t1, t2, t3, t4, t5⟩, sb⟩ := ‹(_ ∧ _) ∧ (_ ∧ _) ∧ Below W4.heap.size W4 _›; exact ⟨⟨kc hbq s0, kc hbq s1, kc hbq s2, kc hbq s3, kc hbq s4, kc hbq s5⟩, ⟨kc hbq t0, kc hbq t1, kc hbq t2, kc hbq t3, kc hbq t4, kc hbq t5⟩, sb.trans (hbq.mono sb.size)⟩))) (first | (go_at_call 11; (with_reducible refine (HSC.out _ (by have hh := ‹(_ ∧ _) ∧ (_ ∧ _) ∧ Below W4.heap.size W4 _›; exact hh.2.2)).mono ?_); rintro e wq ⟨hz, bz, rfl, hownz, hndz, hgez, hbq⟩) | (go_at_call 10; (with_reducible refine (HQ.out _ (by have hh := ‹(_ ∧ _) ∧ (_ ∧ _) ∧ Below W4.heap.size W4 _›; exact hh.2.2) hz _ hownz.nd).mono ?_); rintro e wq ⟨rfl, hbq⟩) | (go_at_call 12; (with_reducible refine (HNO.out _ (by have hh := ‹(_ ∧ _) ∧ (_ ∧ _) ∧ Below W4.heap.size W4 _›; exact hh.2.2)).mono ?_); rintro e wq ⟨rfl, hbq⟩))
    all_goals
      have hS := ‹(_ ∧ _) ∧ (_ ∧ _) ∧ Below W4.heap.size W4 _›
      clear a0 a1 a2 a3 a4 a5 b0 b1 b2 b3 b4 b5 HSB hownz hndz hgez hbq
      obtain ⟨⟨a0, a1, a2, a3, a4, a5⟩, ⟨b0, b1, b2, b3, b4, b5⟩, hsb⟩ := hS
      have HSB := Lib.hid hsb
      clear hsb
      go_wp2_with fail
      go_region_held3 (fun V => (V.cell? ⟨w1.heap.size, 0, none⟩ = some (.int .i64 n.kind) ∧ V.cell? ⟨w1.heap.size, 1, none⟩ = some (.string n.data) ∧ V.cell? ⟨w1.heap.size, 2, none⟩ = some (.slice h1.A n.ptrs.length h1.a) ∧ V.cell? ⟨w1.heap.size, 3, none⟩ = some (.int .i64 n.size) ∧ V.cell? ⟨w1.heap.size, 4, none⟩ = some (.int .i64 n.count) ∧ V.cell? ⟨w1.heap.size, 5, none⟩ = some (.slice h1.B n.items.length h1.b)) ∧ (V.cell? ⟨w2.heap.size, 0, none⟩ = some (.int .i64 x.kind) ∧ V.cell? ⟨w2.heap.size, 1, none⟩ = some (.string x.data) ∧ V.cell? ⟨w2.heap.size, 2, none⟩ = some (.slice hy.A x.ptrs.length hy.a) ∧ V.cell? ⟨w2.heap.size, 3, none⟩ = some (.int .i64 x.size) ∧ V.cell? ⟨w2.heap.size, 4, none⟩ = some (.int .i64 x.count) ∧ V.cell? ⟨w2.heap.size, 5, none⟩ = some (.slice hy.B x.items.length hy.b)) ∧ Below W4.heap.size W4 V) ((first | exact ⟨⟨a0, a1, a2, a3, a4, a5⟩, ⟨b0, b1, b2, b3, b4, b5⟩, HSB.out.drew⟩ | (obtain ⟨⟨s0, s1, s2, s3, s4, s5⟩, ⟨t0, t1, t2, t3, t4, t5⟩, sb⟩ := ‹(_ ∧ _) ∧ (_ ∧ _) ∧ Below W4.heap.size W4 _›; exact ⟨⟨kc hbq s0, kc hbq s1, kc hbq s2, kc hbq s3, kc hbq s4, kc hbq s5⟩, ⟨kc hbq t0, kc hbq t1, kc hbq t2, kc hbq t3, kc hbq t4, kc hbq t5⟩, sb.trans (hbq.mono sb.size)⟩))) (first | (go_at_call 11; (with_reducible refine (HSC.out _ (by have hh := ‹(_ ∧ _) ∧ (_ ∧ _) ∧ Below W4.heap.size W4 _›; exact hh.2.2)).mono ?_); rintro e wq ⟨hz, bz, rfl, hownz, hndz, hgez, hbq⟩) | (go_at_call 10; (with_reducible refine (HQ.out _ (by have hh := ‹(_ ∧ _) ∧ (_ ∧ _) ∧ Below W4.heap.size W4 _›; exact hh.2.2) hz _ hownz.nd).mono ?_); rintro e wq ⟨rfl, hbq⟩))
      all_goals
        have hS := ‹(_ ∧ _) ∧ (_ ∧ _) ∧ Below W4.heap.size W4 _›
        have HFIN := Lib.hid (HB4.out.trans (hS.2.2.mono HB4.out.size))
        clear hS a0 a1 a2 a3 a4 a5 b0 b1 b2 b3 b4 b5
        go_wp2
        go_ret
        exact ⟨rfl, HFIN.out⟩
  · replace HAL := Lib.hid (HAL.out hok)
    replace HIO := Lib.hid (HIO.out hok)
    replace HIC := Lib.hid (HIC.out hok)
    have hle := HLE.out hok
    have hlez : ((nx : Int) ≤ (nn : Int)) := by omega
    rw [hok] at HNO
    clear hok HLE
    go_region_held3 (fun V => (V.cell? ⟨w1.heap.size, 0, none⟩ = some (.int .i64 n.kind) ∧ V.cell? ⟨w1.heap.size, 1, none⟩ = some (.string n.data) ∧ V.cell? ⟨w1.heap.size, 2, none⟩ = some (.slice h1.A n.ptrs.length h1.a) ∧ V.cell? ⟨w1.heap.size, 3, none⟩ = some (.int .i64 n.size) ∧ V.cell? ⟨w1.heap.size, 4, none⟩ = some (.int .i64 n.count) ∧ V.cell? ⟨w1.heap.size, 5, none⟩ = some (.slice h1.B n.items.length h1.b)) ∧ (V.cell? ⟨w2.heap.size, 0, none⟩ = some (.int .i64 x.kind) ∧ V.cell? ⟨w2.heap.size, 1, none⟩ = some (.string x.data) ∧ V.cell? ⟨w2.heap.size, 2, none⟩ = some (.slice hy.A x.ptrs.length hy.a) ∧ V.cell? ⟨w2.heap.size, 3, none⟩ = some (.int .i64 x.size) ∧ V.cell? ⟨w2.heap.size, 4, none⟩ = some (.int .i64 x.count) ∧ V.cell? ⟨w2.heap.size, 5, none⟩ = some (.slice hy.B x.items.length hy.b)) ∧ Below W4.heap.size W4 V) ((first | exact ⟨⟨a0, a1, a2, a3, a4, a5⟩, ⟨b0, b1, b2, b3, b4, b5⟩, HSB.out.drew⟩ | (obtain ⟨⟨s0, s1, s2, s3, s4, s5⟩, ⟨t0, t1, t2, t3, t4, t5⟩, sb⟩ := ‹(_ ∧ _) ∧ (_ ∧ _) ∧ Below W4.heap.size W4 _›; exact ⟨⟨kc hbq s0, kc hbq s1, kc hbq s2, kc hbq s3, kc hbq s4, kc hbq s5⟩, ⟨kc hbq t0, kc hbq t1, kc hbq t2, kc hbq t3, kc hbq t4, kc hbq t5⟩, sb.trans (hbq.mono sb.size)⟩))) (first | (go_at_call 11; (with_reducible refine (HSC.out _ (by have hh := ‹(_ ∧ _) ∧ (_ ∧ _) ∧ Below W4.heap.size W4 _›; exact hh.2.2)).mono ?_); rintro e wq ⟨hz, bz, rfl, hownz, hndz, hgez, hbq⟩) | (go_at_call 10; (with_reducible refine (HQ.out _ (by have hh := ‹(_ ∧ _) ∧ (_ ∧ _) ∧ Below W4.heap.size W4 _›; exact hh.2.2) hz _ hownz.nd).mono ?_); rintro e wq ⟨rfl, hbq⟩) | (go_at_call 12; (with_reducible refine (HNO.out _ (by have hh := ‹(_ ∧ _) ∧ (_ ∧ _) ∧ Below W4.heap.size W4 _›; exact hh.2.2)).mono ?_); rintro e wq ⟨rfl, hbq⟩))
    all_goals
      have hS := ‹(_ ∧ _) ∧ (_ ∧ _) ∧ Below W4.heap.size W4 _›
      clear a0 a1 a2 a3 a4 a5 b0 b1 b2 b3 b4 b5 HSB hownz hndz hgez hbq
      obtain ⟨⟨a0, a1, a2, a3, a4, a5⟩, ⟨b0, b1, b2, b3, b4, b5⟩, hsb⟩ := hS
      have HSB := Lib.hid hsb
      clear hsb HSC HQ HNO
      go_wp2_with fail
      go_region_held3 (fun V => (V.cell? ⟨w1.heap.size, 0, none⟩ = some (.int .i64 n.kind) ∧ V.cell? ⟨w1.heap.size, 1, none⟩ = some (.string n.data) ∧ V.cell? ⟨w1.heap.size, 2, none⟩ = some (.slice h1.A n.ptrs.length h1.a) ∧ V.cell? ⟨w1.heap.size, 3, none⟩ = some (.int .i64 n.size) ∧ V.cell? ⟨w1.heap.size, 4, none⟩ = some (.int .i64 n.count) ∧ V.cell? ⟨w1.heap.size, 5, none⟩ = some (.slice h1.B n.items.length h1.b)) ∧ (V.cell? ⟨w2.heap.size, 0, none⟩ = some (.int .i64 x.kind) ∧ V.cell? ⟨w2.heap.size, 1, none⟩ = some (.string x.data) ∧ V.cell? ⟨w2.heap.size, 2, none⟩ = some (.slice hy.A x.ptrs.length hy.a) ∧ V.cell? ⟨w2.heap.size, 3, none⟩ = some (.int .i64 x.size) ∧ V.cell? ⟨w2.heap.size, 4, none⟩ = some (.int .i64 x.count) ∧ V.cell? ⟨w2.heap.size, 5, none⟩ = some (.slice hy.B x.items.length hy.b)) ∧ Below W4.heap.size W4 V) ((first | exact ⟨⟨a0, a1, a2, a3, a4, a5⟩, ⟨b0, b1, b2, b3, b4, b5⟩, HSB.out.drew⟩ | (obtain ⟨⟨s0, s1, s2, s3, s4, s5⟩, ⟨t0, t1, t2, t3, t4, t5⟩, sb⟩ := ‹(_ ∧ _) ∧ (_ ∧ _) ∧ Below W4.heap.size W4 _›; exact ⟨⟨kc hbq s0, kc hbq s1, kc hbq s2, kc hbq s3, kc hbq s4, kc hbq s5⟩, ⟨kc hbq t0, kc hbq t1, kc hbq t2, kc hbq t3, kc hbq t4, kc hbq t5⟩, sb.trans (hbq.mono sb.size)⟩))) (first | (go_at_call 13; (with_reducible refine (HIO.out _ (by have hh := ‹(_ ∧ _) ∧ (_ ∧ _) ∧ Below W4.heap.size W4 _›; exact hh.2.2)).mono ?_); rintro e wq ⟨rfl, hbq⟩) | (go_at_call 9; (with_reducible refine (HIC.out _ (by have hh := ‹(_ ∧ _) ∧ (_ ∧ _) ∧ Below W4.heap.size W4 _›; exact hh.2.2)).mono ?_); rintro e wq ⟨hz, bz, rfl, hownz, hndz, hgez, hbq⟩) | (go_at_call 10; (with_reducible refine (HQ2.out _ (by have hh := ‹(_ ∧ _) ∧ (_ ∧ _) ∧ Below W4.heap.size W4 _›; exact hh.2.2) hz _ hownz.nd).mono ?_); rintro e wq ⟨rfl, hbq⟩) | (go_at_call 14; (with_reducible refine (HAL.out _ (by have hh := ‹(_ ∧ _) ∧ (_ ∧ _) ∧ Below W4.heap.size W4 _›; exact hh.2.2)).mono ?_); rintro e wq ⟨rfl, hbq⟩) | (go_at_call 15; first | ((with_reducible refine (HW1.out _ (by have hh := ‹(_ ∧ _) ∧ (_ ∧ _) ∧ Below W4.heap.size W4 _›; exact hh.2.2)).mono ?_); rintro e wq ⟨rfl, hbq⟩) | ((with_reducible refine (HW2.out _ (by have hh := ‹(_ ∧ _) ∧ (_ ∧ _) ∧ Below W4.heap.size W4 _›; exact hh.2.2)).mono ?_); rintro e wq ⟨rfl, hbq⟩)))
      all_goals
        have hS := ‹(_ ∧ _) ∧ (_ ∧ _) ∧ Below W4.heap.size W4 _›
        have HFIN := Lib.hid (HB4.out.trans (hS.2.2.mono HB4.out.size))
        clear hS a0 a1 a2 a3 a4 a5 b0 b1 b2 b3 b4 b5
        go_wp2
        go_ret
        exact ⟨rfl, HFIN.out⟩
end Go.Proofs.Ytkimkhgigbejkaa

/- The walk of the law FnCanonLeast: true at every code. -/
namespace Go.Proofs.Ytkimkhgigbejkaa
open Go.RowKit Go.Deep
set_option maxHeartbeats 8000000 in
set_option maxRecDepth 100000 in
theorem walkCanonLeast (w : World) (a : Option Addr) (len cap : Nat) (h : Arg w a len cap) :
    Calls Try.prog 5 #[.slice a len cap] w fun e w' => e = .returned (.bool true) ∧ Below w.heap.size w w' := by
  have hlen := h.1.1
  unfold maxLen at hlen
  by_cases hbig : 1048576 < len
  · go_enter Try.func5, Try.ntmps5
    go_wp2
    go_ret
    exact ⟨rfl, Below.refl _ _⟩
  have HD := Lib.hid (drawAlike_any a len cap w h)
  clear h
  go_enter Try.func5, Try.ntmps5
  go_wp2_with fail
  refine HD.out.mono ?_
  rintro e w1 ⟨n, h1, n', h2, rfl, hn, hsz, hn', hsz', hb1⟩
  obtain ⟨b, hb⟩ : ∃ b : Bool, (b = true ↔ (nodeOk n = true ∧ nodeOk n' = true ∧ canN n = canN n')) := by
    by_cases e : nodeOk n = true ∧ nodeOk n' = true ∧ canN n = canN n'
    · exact ⟨true, iff_true_of e⟩
    · exact ⟨false, iff_false_of e⟩
  have ht : totN 20 n ≤ 2000000 := by rw [totN_siz hn]; omega
  have ht' : totN 20 n' ≤ 2000000 := by rw [totN_siz hn']; omega
  have hba : Below w1.heap.size w1 ((w1.alloc (.cells #[.int .i64 n.kind, .string n.data, .slice h1.A n.ptrs.length h1.a, .int .i64 n.size, .int .i64 n.count, .slice h1.B n.items.length h1.b] nodeT)).alloc (.cells #[.int .i64 n'.kind, .string n'.data, .slice h2.A n'.ptrs.length h2.a, .int .i64 n'.size, .int .i64 n'.count, .slice h2.B n'.items.length h2.b] nodeT)) := ((Below.refl _ _).alloc (Nat.le_refl _) _).alloc (by simp) _
  have HA : Hid (((w1.alloc (.cells #[.int .i64 n.kind, .string n.data, .slice h1.A n.ptrs.length h1.a, .int .i64 n.size, .int .i64 n.count, .slice h1.B n.items.length h1.b] nodeT)).alloc (.cells #[.int .i64 n'.kind, .string n'.data, .slice h2.A n'.ptrs.length h2.a, .int .i64 n'.size, .int .i64 n'.count, .slice h2.B n'.items.length h2.b] nodeT)).heap[w1.heap.size]? = some (.cells #[.int .i64 n.kind, .string n.data, .slice h1.A n.ptrs.length h1.a, .int .i64 n.size, .int .i64 n.count, .slice h1.B n.items.length h1.b] nodeT (0, 0))) := Lib.hid ((Below.heap_alloc _ _ _ (by simp)).trans (heap_alloc_new w1 _))
  have HB : Hid (((w1.alloc (.cells #[.int .i64 n.kind, .string n.data, .slice h1.A n.ptrs.length h1.a, .int .i64 n.size, .int .i64 n.count, .slice h1.B n.items.length h1.b] nodeT)).alloc (.cells #[.int .i64 n'.kind, .string n'.data, .slice h2.A n'.ptrs.length h2.a, .int .i64 n'.size, .int .i64 n'.count, .slice h2.B n'.items.length h2.b] nodeT)).heap[w1.heap.size + 1]? = some (.cells #[.int .i64 n'.kind, .string n'.data, .slice h2.A n'.ptrs.length h2.a, .int .i64 n'.size, .int .i64 n'.count, .slice h2.B n'.items.length h2.b] nodeT (0, 0))) := Lib.hid (by have := heap_alloc_new (w1.alloc (.cells #[.int .i64 n.kind, .string n.data, .slice h1.A n.ptrs.length h1.a, .int .i64 n.size, .int .i64 n.count, .slice h1.B n.items.length h1.b] nodeT)) (.cells #[.int .i64 n'.kind, .string n'.data, .slice h2.A n'.ptrs.length h2.a, .int .i64 n'.size, .int .i64 n'.count, .slice h2.B n'.items.length h2.b] nodeT); rwa [show (w1.alloc (.cells #[.int .i64 n.kind, .string n.data, .slice h1.A n.ptrs.length h1.a, .int .i64 n.size, .int .i64 n.count, .slice h1.B n.items.length h1.b] nodeT)).heap.size = w1.heap.size + 1 by simp] at this)
  have HB2 := Lib.hid (hb1.trans (hba.mono hb1.size))
  have HN := Lib.hid (hn.belowC hba)
  have HM := Lib.hid (hn'.belowC hba)
  have HT := Lib.hid (And.intro ht ht')
  have HSZ := Lib.hid (And.intro hsz hsz')
  have HQ := Lib.hid hb
  clear hn hn' ht ht' hsz hsz' hb1 hba hb HD
  obtain ⟨a0, a1, a2, a3, a4, a5⟩ := cells6 HA.out
  obtain ⟨b0, b1, b2, b3, b4, b5⟩ := cells6 HB.out
  go_wp2_with fail
  generalize ((w1.alloc (.cells #[.int .i64 n.kind, .string n.data, .slice h1.A n.ptrs.length h1.a, .int .i64 n.size, .int .i64 n.count, .slice h1.B n.items.length h1.b] nodeT)).alloc (.cells #[.int .i64 n'.kind, .string n'.data, .slice h2.A n'.ptrs.length h2.a, .int .i64 n'.size, .int .i64 n'.count, .slice h2.B n'.items.length h2.b] nodeT)) = W2 at *
  have H1 : Hid (∀ W : World, Below W2.heap.size W2 W → Calls Try.prog 14 #[.agg #[.int .i64 n.kind, .string n.data, .slice h1.A n.ptrs.length h1.a, .int .i64 n.size, .int .i64 n.count, .slice h1.B n.items.length h1.b], .agg #[.int .i64 n'.kind, .string n'.data, .slice h2.A n'.ptrs.length h2.a, .int .i64 n'.size, .int .i64 n'.count, .slice h2.B n'.items.length h2.b]] W fun e w' => e = .returned (.bool b) ∧ Below W.heap.size W w') := Lib.hid fun W hW => implAlike_a 20 20 n n' h1 h2 W _ _ b (HN.out.below hW) (HM.out.below hW) HT.out.1 HT.out.2 HQ.out
  have H2 : Hid (∀ W : World, Below W2.heap.size W2 W → Calls Try.prog 18 #[.agg #[.int .i64 n.kind, .string n.data, .slice h1.A n.ptrs.length h1.a, .int .i64 n.size, .int .i64 n.count, .slice h1.B n.items.length h1.b], .agg #[.int .i64 n'.kind, .string n'.data, .slice h2.A n'.ptrs.length h2.a, .int .i64 n'.size, .int .i64 n'.count, .slice h2.B n'.items.length h2.b]] W fun e w' => e = .returned (.bool b) ∧ Below W.heap.size W w') := Lib.hid fun W hW => specAlike_a 20 20 n n' h1 h2 W _ _ b (HN.out.below hW) (HM.out.below hW) HT.out.1 HT.out.2 HQ.out
  cases b
  · clear HQ HN HM HT HSZ
    refine (H1.out _ (Below.refl _ _)).mono ?_
    rintro e w3 ⟨rfl, hb3⟩
    have HX3 := Lib.hid hb3
    clear hb3 a0 a1 a2 a3 a4 a5 b0 b1 b2 b3 b4 b5
    obtain ⟨a0, a1, a2, a3, a4, a5⟩ := cells6 ((HX3.out.block _ (row_lt HA.out)).trans HA.out)
    obtain ⟨b0, b1, b2, b3, b4, b5⟩ := cells6 ((HX3.out.block _ (row_lt HB.out)).trans HB.out)
    go_wp2_with fail
    refine (H2.out _ HX3.out).mono ?_
    rintro e w4 ⟨rfl, hb4⟩
    have HX4 := Lib.hid (HX3.out.trans (hb4.mono HX3.out.size))
    clear hb4 a0 a1 a2 a3 a4 a5 b0 b1 b2 b3 b4 b5
    obtain ⟨a0, a1, a2, a3, a4, a5⟩ := cells6 ((HX4.out.block _ (row_lt HA.out)).trans HA.out)
    obtain ⟨b0, b1, b2, b3, b4, b5⟩ := cells6 ((HX4.out.block _ (row_lt HB.out)).trans HB.out)
    go_wp2_with fail
    refine (H2.out _ HX4.out).mono ?_
    rintro e w5 ⟨rfl, hb5⟩
    have HX5 := Lib.hid (HB2.out.trans ((HX4.out.trans (hb5.mono HX4.out.size)).mono HB2.out.size))
    clear hb5 a0 a1 a2 a3 a4 a5 b0 b1 b2 b3 b4 b5
    go_wp2
    go_ret
    exact ⟨rfl, HX5.out⟩
  · obtain ⟨hok, hok', hcan⟩ := HQ.out.1 rfl
    obtain ⟨x, hx⟩ : ∃ x, x = canX n := ⟨_, rfl⟩
    have hxn : x = canN n := by rw [hx]; unfold canX; rw [if_pos hok]
    have hx2 : x = canX n' := by unfold canX; rw [if_pos hok', ← hcan, ← hxn]
    have hle : nodeWords x ≤ nodeWords n := by rw [hxn]; exact words_canL hok
    have hle' : nodeWords x ≤ nodeWords n' := by rw [hxn, hcan]; exact words_canL hok'
    have hsx : sizN x ≤ 400000 := by have := canX_siz (n := n); have := HSZ.out.1; rw [hx]; omega
    have HXN := Lib.hid hx
    have HXM := Lib.hid hx2
    have HSX := Lib.hid hsx
    have HC1a : Hid (∀ W : World, Below W2.heap.size W2 W → Calls Try.prog 9 #[.agg #[.int .i64 n.kind, .string n.data, .slice h1.A n.ptrs.length h1.a, .int .i64 n.size, .int .i64 n.count, .slice h1.B n.items.length h1.b]] W (NewO 21 x W)) := Lib.hid fun W hW => by rw [HXN.out]; exact implCanon_a 20 n h1 W _ (HN.out.below hW) HT.out.1
    have HC2a : Hid (∀ W : World, Below W2.heap.size W2 W → Calls Try.prog 9 #[.agg #[.int .i64 n'.kind, .string n'.data, .slice h2.A n'.ptrs.length h2.a, .int .i64 n'.size, .int .i64 n'.count, .slice h2.B n'.items.length h2.b]] W (NewO 21 x W)) := Lib.hid fun W hW => by rw [HXM.out]; exact implCanon_a 20 n' h2 W _ (HM.out.below hW) HT.out.2
    have HW1a : Hid (∀ W : World, Below W2.heap.size W2 W → Calls Try.prog 15 #[.agg #[.int .i64 n.kind, .string n.data, .slice h1.A n.ptrs.length h1.a, .int .i64 n.size, .int .i64 n.count, .slice h1.B n.items.length h1.b]] W fun e w' => e = .returned (.int .i64 (nodeWords n : Nat)) ∧ Below W.heap.size W w') := Lib.hid fun W hW => implNodeWords_a 20 n h1 W _ (HN.out.below hW) HT.out.1
    have HW2a : Hid (∀ W : World, Below W2.heap.size W2 W → Calls Try.prog 15 #[.agg #[.int .i64 n'.kind, .string n'.data, .slice h2.A n'.ptrs.length h2.a, .int .i64 n'.size, .int .i64 n'.count, .slice h2.B n'.items.length h2.b]] W fun e w' => e = .returned (.int .i64 (nodeWords n' : Nat)) ∧ Below W.heap.size W w') := Lib.hid fun W hW => implNodeWords_a 20 n' h2 W _ (HM.out.below hW) HT.out.2
    have HWX : Hid (∀ (W : World) (hz : Hd) (bz : List Nat), OwN W 21 x hz bz → Calls Try.prog 15 #[.agg #[.int .i64 x.kind, .string x.data, .slice hz.A x.ptrs.length hz.a, .int .i64 x.size, .int .i64 x.count, .slice hz.B x.items.length hz.b]] W fun e w' => e = .returned (.int .i64 (nodeWords x : Nat)) ∧ Below W.heap.size W w') := Lib.hid fun W hz bz ho => implNodeWords_a 21 x hz W _ ho.nd (by rw [totN_siz ho.nd]; have := HSX.out; omega)
    have HQN : Hid (∀ (V : World) (hz hy : Hd) (SS SS' : Nat → Prop), NdAt V SS 21 x hz → NdAt V SS' 21 x hy → Calls Try.prog 10 #[.agg #[.int .i64 x.kind, .string x.data, .slice hz.A x.ptrs.length hz.a, .int .i64 x.size, .int .i64 x.count, .slice hz.B x.items.length hz.b], .agg #[.int .i64 x.kind, .string x.data, .slice hy.A x.ptrs.length hy.a, .int .i64 x.size, .int .i64 x.count, .slice hy.B x.items.length hy.b]] V fun e w' => e = .returned (.bool true) ∧ Below V.heap.size V w') := Lib.hid fun V hz hy SS SS' p q => qnN_any 21 21 x x hz hy V SS SS' true p q (iff_true_of rfl)
    clear HQ HN HM HT HSZ hok hok' hcan hx hxn hx2 hsx HXN HXM HSX
    have hlez : ((nodeWords x : Nat) : Int) ≤ ((nodeWords n : Nat) : Int) := by omega
    have hlez' : ((nodeWords x : Nat) : Int) ≤ ((nodeWords n' : Nat) : Int) := by omega
    clear hle hle'
    generalize nodeWords x = nx at *
    generalize nodeWords n = nn at *
    generalize nodeWords n' = nn' at *
    refine (H1.out _ (Below.refl _ _)).mono ?_
    rintro e w3 ⟨rfl, hb3⟩
    have HX3 := Lib.hid hb3
    clear hb3 a0 a1 a2 a3 a4 a5 b0 b1 b2 b3 b4 b5
    obtain ⟨a0, a1, a2, a3, a4, a5⟩ := cells6 ((HX3.out.block _ (row_lt HA.out)).trans HA.out)
    obtain ⟨b0, b1, b2, b3, b4, b5⟩ := cells6 ((HX3.out.block _ (row_lt HB.out)).trans HB.out)
    go_wp2_with fail
    refine (H2.out _ HX3.out).mono ?_
    rintro e w4 ⟨rfl, hb4⟩
    have HX4 := Lib.hid (HX3.out.trans (hb4.mono HX3.out.size))
    clear hb4 a0 a1 a2 a3 a4 a5 b0 b1 b2 b3 b4 b5
    obtain ⟨a0, a1, a2, a3, a4, a5⟩ := cells6 ((HX4.out.block _ (row_lt HA.out)).trans HA.out)
    obtain ⟨b0, b1, b2, b3, b4, b5⟩ := cells6 ((HX4.out.block _ (row_lt HB.out)).trans HB.out)
    have HC1c := Lib.hid (HC1a.out _ HX4.out)
    unfold NewO at HC1c
    go_wp2_with fail
    refine HC1c.out.mono ?_
    rintro e w5 ⟨h5, bs5, rfl, hown5, hnd5, hge5, hb5⟩
    have HX5 := Lib.hid (HX4.out.trans (hb5.mono HX4.out.size))
    have HWc := Lib.hid (HWX.out w5 h5 bs5 hown5)
    clear hb5 hown5 hnd5 hge5 a0 a1 a2 a3 a4 a5 b0 b1 b2 b3 b4 b5
    go_wp2_with fail
    refine HWc.out.mono ?_
    rintro e W4 ⟨rfl, hb6⟩
    have HX6 := Lib.hid (HX5.out.trans (hb6.mono HX5.out.size))
    clear hb6 HWc HC1c H1 H2 HWX
    obtain ⟨a0, a1, a2, a3, a4, a5⟩ := cells6 ((HX6.out.block _ (row_lt HA.out)).trans HA.out)
    obtain ⟨b0, b1, b2, b3, b4, b5⟩ := cells6 ((HX6.out.block _ (row_lt HB.out)).trans HB.out)
    have HSB : Hid (Below W4.heap.size W4 W4) := Lib.hid (Below.refl _ _)
    have HC1 : Hid (∀ W : World, Below W4.heap.size W4 W → Calls Try.prog 9 #[.agg #[.int .i64 n.kind, .string n.data, .slice h1.A n.ptrs.length h1.a, .int .i64 n.size, .int .i64 n.count, .slice h1.B n.items.length h1.b]] W (NewO 21 x W)) := Lib.hid fun W hW => HC1a.out W (HX6.out.trans (hW.mono HX6.out.size))
    have HC2 : Hid (∀ W : World, Below W4.heap.size W4 W → Calls Try.prog 9 #[.agg #[.int .i64 n'.kind, .string n'.data, .slice h2.A n'.ptrs.length h2.a, .int .i64 n'.size, .int .i64 n'.count, .slice h2.B n'.items.length h2.b]] W (NewO 21 x W)) := Lib.hid fun W hW => HC2a.out W (HX6.out.trans (hW.mono HX6.out.size))
    have HW1 : Hid (∀ W : World, Below W4.heap.size W4 W → Calls Try.prog 15 #[.agg #[.int .i64 n.kind, .string n.data, .slice h1.A n.ptrs.length h1.a, .int .i64 n.size, .int .i64 n.count, .slice h1.B n.items.length h1.b]] W fun e w' => e = .returned (.int .i64 (nn : Nat)) ∧ Below W.heap.size W w') := Lib.hid fun W hW => HW1a.out W (HX6.out.trans (hW.mono HX6.out.size))
    have HW2 : Hid (∀ W : World, Below W4.heap.size W4 W → Calls Try.prog 15 #[.agg #[.int .i64 n'.kind, .string n'.data, .slice h2.A n'.ptrs.length h2.a, .int .i64 n'.size, .int .i64 n'.count, .slice h2.B n'.items.length h2.b]] W fun e w' => e = .returned (.int .i64 (nn' : Nat)) ∧ Below W.heap.size W w') := Lib.hid fun W hW => HW2a.out W (HX6.out.trans (hW.mono HX6.out.size))
    unfold NewO at HC1 HC2
    clear HC1a HC2a HW1a HW2a
    go_wp2_with fail
    go_region_held3 (fun V => (V.cell? ⟨w1.heap.size, 0, none⟩ = some (.int .i64 n.kind) ∧ V.cell? ⟨w1.heap.size, 1, none⟩ = some (.string n.data) ∧ V.cell? ⟨w1.heap.size, 2, none⟩ = some (.slice h1.A n.ptrs.length h1.a) ∧ V.cell? ⟨w1.heap.size, 3, none⟩ = some (.int .i64 n.size) ∧ V.cell? ⟨w1.heap.size, 4, none⟩ = some (.int .i64 n.count) ∧ V.cell? ⟨w1.heap.size, 5, none⟩ = some (.slice h1.B n.items.length h1.b)) ∧ (V.cell? ⟨w1.heap.size + 1, 0, none⟩ = some (.int .i64 n'.kind) ∧ V.cell? ⟨w1.heap.size + 1, 1, none⟩ = some (.string n'.data) ∧ V.cell? ⟨w1.heap.size + 1, 2, none⟩ = some (.slice h2.A n'.ptrs.length h2.a) ∧ V.cell? ⟨w1.heap.size + 1, 3, none⟩ = some (.int .i64 n'.size) ∧ V.cell? ⟨w1.heap.size + 1, 4, none⟩ = some (.int .i64 n'.count) ∧ V.cell? ⟨w1.heap.size + 1, 5, none⟩ = some (.slice h2.B n'.items.length h2.b)) ∧ Below W4.heap.size W4 V) ((first | exact ⟨⟨a0, a1, a2, a3, a4, a5⟩, ⟨b0, b1, b2, b3, b4, b5⟩, HSB.out.drew⟩ | (obtain ⟨⟨s0, s1, s2, s3, s4, s5⟩, ⟨t0, t1, t2, t3, t4, t5⟩, sb⟩ := ‹(_ ∧ _) ∧ (_ ∧ _) ∧ Below W4.heap.size W4 _›; exact ⟨⟨kc hbq s0, kc hbq s1, kc hbq s2, kc hbq s3, kc hbq s4, kc hbq s5⟩, ⟨kc hbq t0, kc hbq t1, kc hbq t2, kc hbq t3, kc hbq t4, kc hbq t5⟩, sb.trans (hbq.mono sb.size)⟩))) (first | (go_at_call 15; first | ((with_reducible refine (HW1.out _ (by have hh := ‹(_ ∧ _) ∧ (_ ∧ _) ∧ Below W4.heap.size W4 _›; exact hh.2.2)).mono ?_); rintro e wq ⟨rfl, hbq⟩) | ((with_reducible refine (HW2.out _ (by have hh := ‹(_ ∧ _) ∧ (_ ∧ _) ∧ Below W4.heap.size W4 _›; exact hh.2.2)).mono ?_); rintro e wq ⟨rfl, hbq⟩)) | (go_at_call 9; first | ((with_reducible refine (HC1.out _ (by have hh := ‹(_ ∧ _) ∧ (_ ∧ _) ∧ Below W4.heap.size W4 _›; exact hh.2.2)).mono ?_); rintro e wq ⟨hz, bz, rfl, hownz, hndz, hgez, hbq⟩) | ((with_reducible refine (HC2.out _ (by have hh := ‹(_ ∧ _) ∧ (_ ∧ _) ∧ Below W4.heap.size W4 _›; exact hh.2.2)).mono ?_); rintro e wq ⟨hy, by', rfl, howny, hndy, hgey, hbq⟩; have hownz2 := hownz.below hbq)) | (go_at_call 10; (with_reducible refine (HQN.out _ hz hy _ _ hownz2.nd howny.nd).mono ?_); rintro e wq ⟨rfl, hbq⟩))
    all_goals
      have hS := ‹(_ ∧ _) ∧ (_ ∧ _) ∧ Below W4.heap.size W4 _›
      have HFIN := Lib.hid (HB2.out.trans ((HX6.out.trans (hS.2.2.mono HX6.out.size)).mono HB2.out.size))
      clear hS a0 a1 a2 a3 a4 a5 b0 b1 b2 b3 b4 b5
      go_wp2
      go_ret
      exact ⟨rfl, HFIN.out⟩
end Go.Proofs.Ytkimkhgigbejkaa
