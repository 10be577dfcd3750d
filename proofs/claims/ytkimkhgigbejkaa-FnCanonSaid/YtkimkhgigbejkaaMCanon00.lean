/- Texts of the proof of the law FnCanon, side by side: part 0. -/
import Derived.Deep.RegionHeld3
import Derived.Test.YtkimkhgigbejkaaMCanonLeast00
import Derived.Test.YtkimkhgigbejkaaMCanonLeast01
import Derived.Test.YtkimkhgigbejkaaMCanonLeast02
import Derived.Test.YtkimkhgigbejkaaMCanonLeast03
import Derived.Test.YtkimkhgigbejkaaMCanonLeast04
import Derived.Test.YtkimkhgigbejkaaMCanonLeast05
import Derived.Test.YtkimkhgigbejkaaMCanonLeast06
import Derived.Test.YtkimkhgigbejkaaMCanonLeast07
import Derived.Test.YtkimkhgigbejkaaMCanonLeast08
import Derived.Test.YtkimkhgigbejkaaMCanonLeast09
import Derived.Test.YtkimkhgigbejkaaMCanonLeast10
import Derived.Test.YtkimkhgigbejkaaMCanonLeast11
import Derived.Test.YtkimkhgigbejkaaMCanonLeast12
import Derived.Test.YtkimkhgigbejkaaMCanonLeast13
import Derived.Test.YtkimkhgigbejkaaMCanonLeast14
import Derived.Test.YtkimkhgigbejkaaMCanonLeast15
import Derived.Test.YtkimkhgigbejkaaMCanonLeast16
import Derived.Test.YtkimkhgigbejkaaMCanonLeast17
import Derived.Test.YtkimkhgigbejkaaMCanonLeast18
import Derived.Test.YtkimkhgigbejkaaMCanonLeast19
import Derived.Test.YtkimkhgigbejkaaMCanonLeast20
import Derived.Test.YtkimkhgigbejkaaMCanonLeast21
import Derived.Test.YtkimkhgigbejkaaMCanonLeast22
import Derived.Test.YtkimkhgigbejkaaMCanonLeast23
import Derived.Test.YtkimkhgigbejkaaMCanonLeast24
import Derived.Test.YtkimkhgigbejkaaMCanonLeast25
import Derived.Test.YtkimkhgigbejkaaMCanonLeast26
import Derived.Test.YtkimkhgigbejkaaMCanonLeast27
/- The specification's draw for the laws of the one form. -/
namespace Go.Proofs.Ytkimkhgigbejkaa
open Go.RowKit
set_option maxHeartbeats 4000000 in
theorem drawCanon_any (a : Option Addr) (len cap : Nat) (w : World) (h : Arg w a len cap) :
    Calls Try.prog 8 #[.slice a len cap] w (DrawN w) := by
  go_enter Try.func8, Try.ntmps8
  go_wp2_with fail
  refine (l1Open_any a len cap _ (code_alloc h.1 _) h.2.1 h.2.2).mono ?_
  rintro e w1 ⟨R, rfl, hR, hrd, hb1⟩
  have hz1 := (hb1.block w.heap.size (by simp)).trans (heap_alloc_new w (.cells #[.int .i64 0, .string { data := #[] }, .slice none 0 0, .int .i64 0, .int .i64 0, .slice none 0 0] nodeT))
  go_wp2_with fail
  refine (l13AnyNode_any R 0 _ hrd (by omega)).mono ?_
  rintro e w2 ⟨n, hh, rfl, hn, ht, hp2⟩
  have hR' : w.heap.size + 1 ≤ R := by simpa using hR
  have hs1 : w.heap.size + 1 ≤ w1.heap.size := by simpa using hb1.size
  have hb0 : Below w.heap.size w w1 := ((Below.refl w.heap.size w).alloc (Nat.le_refl _) (.cells #[.int .i64 0, .string { data := #[] }, .slice none 0 0, .int .i64 0, .int .i64 0, .slice none 0 0] nodeT)).trans (hb1.mono (by simp))
  have hb2 := opened_below (by omega) hb0 hp2
  have hz2 := pick_rowN hz1 hp2 (by omega)
  have hn2 := hn.plain.from_ hs1
  obtain ⟨z0, z1, z2, z3, z4, z5⟩ := cells6 hz2
  have zf := row_free hz2
  clear hb1 hp2 hb0 hz1 hrd
  go_wp2_with fail
  obtain ⟨wf, hwf, hrw, hnf, hbf⟩ := draw_fin hz2 hn2 hb2
  rw [hwf]
  obtain ⟨e0, e1, e2, e3, e4, e5⟩ := cells6 hrw
  exact bodyPost_ret (v := .agg #[.int .i64 n.kind, .string n.data, .slice hh.A n.ptrs.length hh.a, .int .i64 n.size, .int .i64 n.count, .slice hh.B n.items.length hh.b]) (by simp [results, Try.results8, go_sem, e0, e1, e2, e3, e4, e5]) rfl ⟨n, hh, rfl, hnf, ht.1, hbf⟩
end Go.Proofs.Ytkimkhgigbejkaa

/- The walk of the law FnCanon: true at every code. -/
namespace Go.Proofs.Ytkimkhgigbejkaa
open Go.RowKit Go.Deep
theorem canX_siz {n : Nd} : sizN (canX n) ≤ sizN n := by
  unfold canX
  by_cases hok : nodeOk n = true
  · rw [if_pos hok]; exact siz_can 8 n (node_ok hok).1
  · rw [if_neg hok, sizN_eq]
    have : noneNd.data.size + sizL noneNd.ptrs + sizL noneNd.items = 0 := by
      show 0 + sizL [] + sizL [] = 0
      rw [sizL_nil]
    omega
set_option maxHeartbeats 8000000 in
set_option maxRecDepth 100000 in
theorem walkCanon (w : World) (a : Option Addr) (len cap : Nat) (h : Arg w a len cap) :
    Calls Try.prog 3 #[.slice a len cap] w fun e w' => e = .returned (.bool true) ∧ Below w.heap.size w w' := by
  have hlen := h.1.1
  unfold maxLen at hlen
  by_cases hbig : 1048576 < len
  · go_enter Try.func3, Try.ntmps3
    go_wp2
    go_ret
    exact ⟨rfl, Below.refl _ _⟩
  have HD := Lib.hid (drawCanon_any a len cap w h)
  clear h
  go_enter Try.func3, Try.ntmps3
  go_wp2_with fail
  refine HD.out.mono ?_
  rintro e w1 ⟨n, h1, rfl, hn1, ht1, hb1⟩
  have hba := (Below.refl w1.heap.size w1).alloc (Nat.le_refl _) (.cells #[.int .i64 n.kind, .string n.data, .slice h1.A n.ptrs.length h1.a, .int .i64 n.size, .int .i64 n.count, .slice h1.B n.items.length h1.b] nodeT)
  have HA := Lib.hid (heap_alloc_new w1 (.cells #[.int .i64 n.kind, .string n.data, .slice h1.A n.ptrs.length h1.a, .int .i64 n.size, .int .i64 n.count, .slice h1.B n.items.length h1.b] nodeT))
  have HB2 := Lib.hid (hb1.trans (hba.mono hb1.size))
  have HN2 := Lib.hid (hn1.below hba)
  have hsa : (w1.alloc (.cells #[.int .i64 n.kind, .string n.data, .slice h1.A n.ptrs.length h1.a, .int .i64 n.size, .int .i64 n.count, .slice h1.B n.items.length h1.b] nodeT)).heap.size = w1.heap.size + 1 := by simp
  have htn : totN 18 n ≤ 2000000 := by omega
  have hsz := totN_siz hn1
  have HTX : Hid (sizN (canX n) ≤ 300000) := Lib.hid (by have := canX_siz (n := n); omega)
  clear hn1 hb1 hba
  go_wp2_with fail
  generalize w1.alloc (.cells #[.int .i64 n.kind, .string n.data, .slice h1.A n.ptrs.length h1.a, .int .i64 n.size, .int .i64 n.count, .slice h1.B n.items.length h1.b] nodeT) = W2 at *
  obtain ⟨x, hx⟩ : ∃ x, x = canX n := ⟨_, rfl⟩
  rw [← hx] at HTX
  have HCN := Lib.hid (implCanon_a 18 n h1 W2 _ HN2.out htn)
  rw [← hx] at HCN
  unfold NewO at HCN
  have HXE := Lib.hid hx
  clear hx
  refine HCN.out.mono ?_
  rintro e w2 ⟨hy, bs, rfl, hown, hnd, hge, hb2⟩
  have hba := (Below.refl w2.heap.size w2).alloc (Nat.le_refl _) (.cells #[.int .i64 x.kind, .string x.data, .slice hy.A x.ptrs.length hy.a, .int .i64 x.size, .int .i64 x.count, .slice hy.B x.items.length hy.b] nodeT)
  have HX := Lib.hid (heap_alloc_new w2 (.cells #[.int .i64 x.kind, .string x.data, .slice hy.A x.ptrs.length hy.a, .int .i64 x.size, .int .i64 x.count, .slice hy.B x.items.length hy.b] nodeT))
  have HA4 := Lib.hid (((hba.block _ (by have := hb2.size; have := row_lt HA.out; omega))).trans ((hb2.block _ (row_lt HA.out)).trans HA.out))
  have HN4 := Lib.hid ((HN2.out.below hb2).below hba)
  have HO4 := Lib.hid (hown.below hba)
  have HB4 := Lib.hid ((HB2.out.trans (hb2.mono HB2.out.size)).trans (hba.mono (HB2.out.trans (hb2.mono HB2.out.size)).size))
  clear hown hnd hge hb2 hba
  go_wp2_with fail
  generalize w2.alloc (.cells #[.int .i64 x.kind, .string x.data, .slice hy.A x.ptrs.length hy.a, .int .i64 x.size, .int .i64 x.count, .slice hy.B x.items.length hy.b] nodeT) = W4 at *
  have hx := HXE.out
  have htx : totN 19 x ≤ 2000000 := by rw [totN_siz HO4.out.nd]; have := HTX.out; omega
  have HSB : Hid (Below W4.heap.size W4 W4) := Lib.hid (Below.refl _ _)
  have HSC : Hid (∀ V : World, Below W4.heap.size W4 V → Calls Try.prog 11 #[.agg #[.int .i64 n.kind, .string n.data, .slice h1.A n.ptrs.length h1.a, .int .i64 n.size, .int .i64 n.count, .slice h1.B n.items.length h1.b]] V (NewO 19 x V)) := Lib.hid fun V hV => by rw [hx]; exact specCanon_a 18 n h1 V _ (HN4.out.below hV) htn
  have HQ : Hid (∀ V : World, Below W4.heap.size W4 V → ∀ (hz : Hd) (SS : Nat → Prop), NdAt V SS 19 x hz → Calls Try.prog 10 #[.agg #[.int .i64 x.kind, .string x.data, .slice hy.A x.ptrs.length hy.a, .int .i64 x.size, .int .i64 x.count, .slice hy.B x.items.length hy.b], .agg #[.int .i64 x.kind, .string x.data, .slice hz.A x.ptrs.length hz.a, .int .i64 x.size, .int .i64 x.count, .slice hz.B x.items.length hz.b]] V fun e w' => e = .returned (.bool true) ∧ Below V.heap.size V w') := Lib.hid fun V hV hz SS hq => qnN_any 19 19 x x hy hz V _ SS true (HO4.out.nd.below hV) hq (iff_true_of rfl)
  have HNO : Hid (∀ V : World, Below W4.heap.size W4 V → Calls Try.prog 12 #[.agg #[.int .i64 n.kind, .string n.data, .slice h1.A n.ptrs.length h1.a, .int .i64 n.size, .int .i64 n.count, .slice h1.B n.items.length h1.b]] V fun e w' => e = .returned (.bool (nodeOk n)) ∧ Below V.heap.size V w') := Lib.hid fun V hV => specNodeOk_a 18 n h1 V _ (HN4.out.below hV) htn
  have HAL : Hid (nodeOk n = true → ∀ V : World, Below W4.heap.size W4 V → Calls Try.prog 14 #[.agg #[.int .i64 n.kind, .string n.data, .slice h1.A n.ptrs.length h1.a, .int .i64 n.size, .int .i64 n.count, .slice h1.B n.items.length h1.b], .agg #[.int .i64 x.kind, .string x.data, .slice hy.A x.ptrs.length hy.a, .int .i64 x.size, .int .i64 x.count, .slice hy.B x.items.length hy.b]] V fun e w' => e = .returned (.bool true) ∧ Below V.heap.size V w') := Lib.hid fun hok V hV => implAlike_a 18 19 n x h1 hy V _ _ true (HN4.out.below hV) (HO4.out.nd.below hV) htn htx (iff_true_of (by
    have hxx := hx
    unfold canX at hxx
    rw [if_pos hok] at hxx
    rw [hxx]
    exact ⟨hok, nodeOk_can hok, (can_can_ok hok).symm⟩))
  have HIO : Hid (nodeOk n = true → ∀ V : World, Below W4.heap.size W4 V → Calls Try.prog 13 #[.agg #[.int .i64 x.kind, .string x.data, .slice hy.A x.ptrs.length hy.a, .int .i64 x.size, .int .i64 x.count, .slice hy.B x.items.length hy.b]] V fun e w' => e = .returned (.bool true) ∧ Below V.heap.size V w') := Lib.hid fun hok V hV => by
    have := implNodeOk_a 19 x hy V _ (HO4.out.nd.below hV) htx
    have hxx := hx
    unfold canX at hxx
    rw [if_pos hok] at hxx
    rwa [show nodeOk x = true by rw [hxx]; exact nodeOk_can hok] at this
  have HIC : Hid (nodeOk n = true → ∀ V : World, Below W4.heap.size W4 V → Calls Try.prog 9 #[.agg #[.int .i64 x.kind, .string x.data, .slice hy.A x.ptrs.length hy.a, .int .i64 x.size, .int .i64 x.count, .slice hy.B x.items.length hy.b]] V (NewO 20 x V)) := Lib.hid fun hok V hV => by
    have := implCanon_a 19 x hy V _ (HO4.out.nd.below hV) htx
    have hxx := hx
    unfold canX at hxx
    rw [if_pos hok] at hxx
    have hox : nodeOk x = true := by rw [hxx]; exact nodeOk_can hok
    have hcx : canX x = x := by unfold canX; rw [if_pos hox, hxx]; exact can_can_ok hok
    rwa [hcx] at this
  have HQ2 : Hid (∀ V : World, Below W4.heap.size W4 V → ∀ (hz : Hd) (SS : Nat → Prop), NdAt V SS 20 x hz → Calls Try.prog 10 #[.agg #[.int .i64 x.kind, .string x.data, .slice hz.A x.ptrs.length hz.a, .int .i64 x.size, .int .i64 x.count, .slice hz.B x.items.length hz.b], .agg #[.int .i64 x.kind, .string x.data, .slice hy.A x.ptrs.length hy.a, .int .i64 x.size, .int .i64 x.count, .slice hy.B x.items.length hy.b]] V fun e w' => e = .returned (.bool true) ∧ Below V.heap.size V w') := Lib.hid fun V hV hz SS hq => qnN_any 20 19 x x hz hy V SS _ true hq (HO4.out.nd.below hV) (iff_true_of rfl)
  have HW1 : Hid (∀ V : World, Below W4.heap.size W4 V → Calls Try.prog 15 #[.agg #[.int .i64 x.kind, .string x.data, .slice hy.A x.ptrs.length hy.a, .int .i64 x.size, .int .i64 x.count, .slice hy.B x.items.length hy.b]] V fun e w' => e = .returned (.int .i64 (nodeWords x : Nat)) ∧ Below V.heap.size V w') := Lib.hid fun V hV => implNodeWords_a 19 x hy V _ (HO4.out.nd.below hV) htx
  have HW2 : Hid (∀ V : World, Below W4.heap.size W4 V → Calls Try.prog 15 #[.agg #[.int .i64 n.kind, .string n.data, .slice h1.A n.ptrs.length h1.a, .int .i64 n.size, .int .i64 n.count, .slice h1.B n.items.length h1.b]] V fun e w' => e = .returned (.int .i64 (nodeWords n : Nat)) ∧ Below V.heap.size V w') := Lib.hid fun V hV => implNodeWords_a 18 n h1 V _ (HN4.out.below hV) htn
  have HLE : Hid (nodeOk n = true → nodeWords x ≤ nodeWords n) := Lib.hid fun hok => by
    have hxx := hx
    unfold canX at hxx
    rw [if_pos hok] at hxx
    rw [hxx]; exact words_canL hok
  obtain ⟨a0, a1, a2, a3, a4, a5⟩ := cells6 HA4.out
  obtain ⟨b0, b1, b2, b3, b4, b5⟩ := cells6 HX.out
  clear hx htx hsz htn HXE HD HA HN2 HB2 HTX hsa
  unfold NewO at HSC HIC
  generalize nodeWords x = nx at *
  generalize nodeWords n = nn at *
  cases hok : nodeOk n
  · rw [hok] at HNO
    clear hok HAL HIO HIC HQ2 HW1 HW2 HLE
    go_region_held3 (fun V => (V.cell? ⟨w1.heap.size, 0, none⟩ = some (.int .i64 n.kind) ∧ V.cell? ⟨w1.heap.size, 1, none⟩ = some (.string n.data) ∧ V.cell? ⟨w1.heap.size, 2, none⟩ = some (.slice h1.A n.ptrs.length h1.a) ∧ V.cell? ⟨w1.heap.size, 3, none⟩ = some (.int .i64 n.size) ∧ V.cell? ⟨w1.heap.size, 4, none⟩ = some (.int .i64 n.count) ∧ V.cell? ⟨w1.heap.size, 5, none⟩ = some (.slice h1.B n.items.length h1.b)) ∧ (V.cell? ⟨w2.heap.size, 0, none⟩ = some (.int .i64 x.kind) ∧ V.cell? ⟨w2.heap.size, 1, none⟩ = some (.string x.data) ∧ V.cell? ⟨w2.heap.size, 2, none⟩ = some (.slice hy.A x.ptrs.length hy.a) ∧ V.cell? ⟨w2.heap.size, 3, none⟩ = some (.int .i64 x.size) ∧ V.cell? ⟨w2.heap.size, 4, none⟩ = some (.int .i64 x.count) ∧ V.cell? ⟨w2.heap.size, 5, none⟩ = some (.slice hy.B x.items.length hy.b)) ∧ Below W4.heap.size W4 V) ((first | exact ⟨⟨a0, a1, a2, a3, a4, a5⟩, ⟨b0, b1, b2, b3, b4, b5⟩, HSB.out.drew⟩ | (obtain ⟨⟨s0, s1, s2, s3, s4, s5⟩, ⟨t0, t1, t2, t3, t4, t5⟩, sb⟩ := ‹(_ ∧ _) ∧ (_ ∧ _) ∧ Below W4.heap.size W4 _›; exact ⟨⟨kc hbq s0, kc hbq s1, kc hbq s2, kc hbq s3, kc hbq s4, kc hbq s5⟩, ⟨kc hbq t0, kc hbq t1, kc hbq t2, kc hbq t3, kc hbq t4, kc hbq t5⟩, sb.trans (hbq.mono sb.size)⟩))) (first | (go_at_call 11; (with_reducible refine (HSC.out _ (by have hh := ‹(_ ∧ _) ∧ (_ ∧ _) ∧ Below W4.heap.size W4 _›; exact hh.2.2)).mono ?_); rintro e wq ⟨hz, bz, rfl, hownz, hndz, hgez, hbq⟩) | (go_at_call 10; (with_reducible refine (HQ.out _ (by have hh := ‹(_ ∧ _) ∧ (_ ∧ _) ∧ Below W4.heap.size W4 _›; exact hh.2.2) hz _ hownz.nd).mono ?_); rintro e wq ⟨rfl, hbq⟩) | (go_at_call 12; (with_reducible refine (HNO.out _ (by have hh := ‹(_ ∧ _) ∧ (_ ∧ _) ∧ Below W4.heap.size W4 _›; exact hh.2.2)).mono ?_); rintro e wq ⟨rfl, hbq⟩))
    all_goals
      have hS := ‹(_ ∧ _) ∧ (_ ∧ _) ∧ Below W4.heap.size W4 _›
      clear a0 a1 a2 a3 a4 a5 b0 b1 b2 b3 b4 b5 HSB hownz hndz hgez hbq
      obtain ⟨⟨a0, a1, a2, a3, a4, a5⟩, ⟨b0, b1, b2, b3, b4, b5⟩, hsb⟩ := hS
      have HSB := Lib.hid hsb
      clear hsb
      go_wp2_with fail
      go_region_held3 (fun V => (V.cell? ⟨w1.heap.size, 0, none⟩ = some (.int .i64 n.kind) ∧ V.cell? ⟨w1.heap.size, 1, none⟩ = some (.string n.data) ∧ V.cell? ⟨w1.heap.size, 2, none⟩ = some (.slice h1.A n.ptrs.length h1.a) ∧ V.cell? ⟨w1.heap.size, 3, none⟩ = some (.int .i64 n.size) ∧ V.cell? ⟨w1.heap.size, 4, none⟩ = some (.int .i64 n.count) ∧ V.cell? ⟨w1.heap.size, 5, none⟩ = some (.slice h1.B n.items.length h1.b)) ∧ (V.cell? ⟨w2.heap.size, 0, none⟩ = some (.int .i64 x.kind) ∧ V.cell? ⟨w2.heap.size, 1, none⟩ = some (.string x.data) ∧ V.cell? ⟨w2.heap.size, 2, none⟩ = some (.slice hy.A x.ptrs.length hy.a) ∧ V.cell? ⟨w2.heap.size, 3, none⟩ = some (.int .i64 x.size) ∧ V.cell? ⟨w2.heap.size, 4, none⟩ = some (.int .i64 x.count) ∧ V.cell? ⟨w2.heap.size, 5, none⟩ = some (.slice hy.B x.items.length hy.b)) ∧ Below W4.heap.size W4 V) ((first | exact ⟨⟨a0, a1, a2, a3, a4, a5⟩, ⟨b0, b1, b2, b3, b4, b5⟩, HSB.out.drew⟩ | (obtain ⟨⟨s0, s1, s2, s3, s4, s5⟩, ⟨t0, t1, t2, t3, t4, t5⟩, sb⟩ := ‹(_ ∧ _) ∧ (_ ∧ _) ∧ Below W4.heap.size W4 _›; exact ⟨⟨kc hbq s0, kc hbq s1, kc hbq s2, kc hbq s3, kc hbq s4, kc hbq s5⟩, ⟨kc hbq t0, kc hbq t1, kc hbq t2, kc hbq t3, kc hbq t4, kc hbq t5⟩, sb.trans (hbq.mono sb.size)⟩))) (first | (go_at_call 11; (with_reducible refine (HSC.out _ (by have hh := ‹(_ ∧ _) ∧ (_ ∧ _) ∧ Below W4.heap.size W4 _›; exact hh.2.2)).mono ?_); rintro e wq ⟨hz, bz, rfl, hownz, hndz, hgez, hbq⟩) | (go_at_call 10; (with_reducible refine (HQ.out _ (by have hh := ‹(_ ∧ _) ∧ (_ ∧ _) ∧ Below W4.heap.size W4 _›; exact hh.2.2) hz _ hownz.nd).mono ?_); rintro e wq ⟨rfl, hbq⟩))
      all_goals
        have hS := ‹(_ ∧ _) ∧ (_ ∧ _) ∧ Below W4.heap.size W4 _›
        have HFIN := Lib.hid (HB4.out.trans (hS.2.2.mono HB4.out.size))
        clear hS a0 a1 a2 a3 a4 a5 b0 b1 b2 b3 b4 b5
        go_wp2
        go_ret
        exact ⟨rfl, HFIN.out⟩
  · replace HAL := Lib.hid (HAL.out hok)
    replace HIO := Lib.hid (HIO.out hok)
    replace HIC := Lib.hid (HIC.out hok)
    have hle := HLE.out hok
    have hlez : ((nx : Int) ≤ (nn : Int)) := by omega
    rw [hok] at HNO
    clear hok HLE
    go_region_held3 (fun V => (V.cell? ⟨w1.heap.size, 0, none⟩ = some (.int .i64 n.kind) ∧ V.cell? ⟨w1.heap.size, 1, none⟩ = some (.string n.data) ∧ V.cell? ⟨w1.heap.size, 2, none⟩ = some (.slice h1.A n.ptrs.length h1.a) ∧ V.cell? ⟨w1.heap.size, 3, none⟩ = some (.int .i64 n.size) ∧ V.cell? ⟨w1.heap.size, 4, none⟩ = some (.int .i64 n.count) ∧ V.cell? ⟨w1.heap.size, 5, none⟩ = some (.slice h1.B n.items.length h1.b)) ∧ (V.cell? ⟨w2.heap.size, 0, none⟩ = some (.int .i64 x.kind) ∧ V.cell? ⟨w2.heap.size, 1, none⟩ = some (.string x.data) ∧ V.cell? ⟨w2.heap.size, 2, none⟩ = some (.slice hy.A x.ptrs.length hy.a) ∧ V.cell? ⟨w2.heap.size, 3, none⟩ = some (.int .i64 x.size) ∧ V.cell? ⟨w2.heap.size, 4, none⟩ = some (.int .i64 x.count) ∧ V.cell? ⟨w2.heap.size, 5, none⟩ = some (.slice hy.B x.items.length hy.b)) ∧ Below W4.heap.size W4 V) ((first | exact ⟨⟨a0, a1, a2, a3, a4, a5⟩, ⟨b0, b1, b2, b3, b4, b5⟩, HSB.out.drew⟩ | (obtain ⟨⟨s0, s1, s2, s3, s4, s5⟩, ⟨t0, t1, t2, t3, t4, t5⟩, sb⟩ := ‹(_ ∧ _) ∧ (_ ∧ _) ∧ Below W4.heap.size W4 _›; exact ⟨⟨kc hbq s0, kc hbq s1, kc hbq s2, kc hbq s3, kc hbq s4, kc hbq s5⟩, ⟨kc hbq t0, kc hbq t1, kc hbq t2, kc hbq t3, kc hbq t4, kc hbq t5⟩, sb.trans (hbq.mono sb.size)⟩))) (first | (go_at_call 11; (with_reducible refine (HSC.out _ (by have hh := ‹(_ ∧ _) ∧ (_ ∧ _) ∧ Below W4.heap.size W4 _›; exact hh.2.2)).mono ?_); rintro e wq ⟨hz, bz, rfl, hownz, hndz, hgez, hbq⟩) | (go_at_call 10; (with_reducible refine (HQ.out _ (by have hh := ‹(_ ∧ _) ∧ (_ ∧ _) ∧ Below W4.heap.size W4 _›; exact hh.2.2) hz _ hownz.nd).mono ?_); rintro e wq ⟨rfl, hbq⟩) | (go_at_call 12; (with_reducible refine (HNO.out _ (by have hh := ‹(_ ∧ _) ∧ (_ ∧ _) ∧ Below W4.heap.size W4 _›; exact hh.2.2)).mono ?_); rintro e wq ⟨rfl, hbq⟩))
    all_goals
      have hS := ‹(_ ∧ _) ∧ (_ ∧ _) ∧ Below W4.heap.size W4 _›
      clear a0 a1 a2 a3 a4 a5 b0 b1 b2 b3 b4 b5 HSB hownz hndz hgez hbq
      obtain ⟨⟨a0, a1, a2, a3, a4, a5⟩, ⟨b0, b1, b2, b3, b4, b5⟩, hsb⟩ := hS
      have HSB := Lib.hid hsb
      clear hsb HSC HQ HNO
      go_wp2_with fail
      go_region_held3 (fun V => (V.cell? ⟨w1.heap.size, 0, none⟩ = some (.int .i64 n.kind) ∧ V.cell? ⟨w1.heap.size, 1, none⟩ = some (.string n.data) ∧ V.cell? ⟨w1.heap.size, 2, none⟩ = some (.slice h1.A n.ptrs.length h1.a) ∧ V.cell? ⟨w1.heap.size, 3, none⟩ = some (.int .i64 n.size) ∧ V.cell? ⟨w1.heap.size, 4, none⟩ = some (.int .i64 n.count) ∧ V.cell? ⟨w1.heap.size, 5, none⟩ = some (.slice h1.B n.items.length h1.b)) ∧ (V.cell? ⟨w2.heap.size, 0, none⟩ = some (.int .i64 x.kind) ∧ V.cell? ⟨w2.heap.size, 1, none⟩ = some (.string x.data) ∧ V.cell? ⟨w2.heap.size, 2, none⟩ = some (.slice hy.A x.ptrs.length hy.a) ∧ V.cell? ⟨w2.heap.size, 3, none⟩ = some (.int .i64 x.size) ∧ V.cell? ⟨w2.heap.size, 4, none⟩ = some (.int .i64 x.count) ∧ V.cell? ⟨w2.heap.size, 5, none⟩ = some (.slice hy.B x.items.length hy.b)) ∧ Below W4.heap.size W4 V) ((first | exact ⟨⟨a0, a1, a2, a3, a4, a5⟩, ⟨b0, b1, b2, b3, b4, b5⟩, HSB.out.drew⟩ | (obtain ⟨⟨s0, s1, s2, s3, s4, s5⟩, ⟨t0, t1, t2, t3, t4, t5⟩, sb⟩ := ‹(_ ∧ _) ∧ (_ ∧ _) ∧ Below W4.heap.size W4 _›; exact ⟨⟨kc hbq s0, kc hbq s1, kc hbq s2, kc hbq s3, kc hbq s4, kc hbq s5⟩, ⟨kc hbq t0, kc hbq t1, kc hbq t2, kc hbq t3, kc hbq t4, kc hbq t5⟩, sb.trans (hbq.mono sb.size)⟩))) (first | (go_at_call 13; (with_reducible refine (HIO.out _ (by have hh := ‹(_ ∧ _) ∧ (_ ∧ _) ∧ Below W4.heap.size W4 _›; exact hh.2.2)).mono ?_); rintro e wq ⟨rfl, hbq⟩) | (go_at_call 9; (with_reducible refine (HIC.out _ (by have hh := ‹(_ ∧ _) ∧ (_ ∧ _) ∧ Below W4.heap.size W4 _›; exact hh.2.2)).mono ?_); rintro e wq ⟨hz, bz, rfl, hownz, hndz, hgez, hbq⟩) | (go_at_call 10; (with_reducible refine (HQ2.out _ (by have hh := ‹(_ ∧ _) ∧ (_ ∧ _) ∧ Below W4.heap.size W4 _›; exact hh.2.2) hz _ hownz.nd).mono ?_); rintro e wq ⟨rfl, hbq⟩) | (go_at_call 14; (with_reducible refine (HAL.out _ (by have hh := ‹(_ ∧ _) ∧ (_ ∧ _) ∧ Below W4.heap.size W4 _›; exact hh.2.2)).mono ?_); rintro e wq ⟨rfl, hbq⟩) | (go_at_call 15; first | ((with_reducible refine (HW1.out _ (by have hh := ‹(_ ∧ _) ∧ (_ ∧ _) ∧ Below W4.heap.size W4 _›; exact hh.2.2)).mono ?_); rintro e wq ⟨rfl, hbq⟩) | ((with_reducible refine (HW2.out _ (by have hh := ‹(_ ∧ _) ∧ (_ ∧ _) ∧ Below W4.heap.size W4 _›; exact hh.2.2)).mono ?_); rintro e wq ⟨rfl, hbq⟩)))
      all_goals
        have hS := ‹(_ ∧ _) ∧ (_ ∧ _) ∧ Below W4.heap.size W4 _›
        have HFIN := Lib.hid (HB4.out.trans (hS.2.2.mono HB4.out.size))
        clear hS a0 a1 a2 a3 a4 a5 b0 b1 b2 b3 b4 b5
        go_wp2
        go_ret
        exact ⟨rfl, HFIN.out⟩
end Go.Proofs.Ytkimkhgigbejkaa
