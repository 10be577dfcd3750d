/- Texts of the proof of the law FnCanonItems, side by side: part 24. -/
import Derived.Deep.RegionHeld3
import Derived.Test.YtfiiopchfmcjdaaMCanonItems00
import Derived.Test.YtfiiopchfmcjdaaMCanonItems01
import Derived.Test.YtfiiopchfmcjdaaMCanonItems02
import Derived.Test.YtfiiopchfmcjdaaMCanonItems03
import Derived.Test.YtfiiopchfmcjdaaMCanonItems04
import Derived.Test.YtfiiopchfmcjdaaMCanonItems05
import Derived.Test.YtfiiopchfmcjdaaMCanonItems06
import Derived.Test.YtfiiopchfmcjdaaMCanonItems07
import Derived.Test.YtfiiopchfmcjdaaMCanonItems08
import Derived.Test.YtfiiopchfmcjdaaMCanonItems09
import Derived.Test.YtfiiopchfmcjdaaMCanonItems10
import Derived.Test.YtfiiopchfmcjdaaMCanonItems11
import Derived.Test.YtfiiopchfmcjdaaMCanonItems12
import Derived.Test.YtfiiopchfmcjdaaMCanonItems13
import Derived.Test.YtfiiopchfmcjdaaMCanonItems14
import Derived.Test.YtfiiopchfmcjdaaMCanonItems15
import Derived.Test.YtfiiopchfmcjdaaMCanonItems16
import Derived.Test.YtfiiopchfmcjdaaMCanonItems17
import Derived.Test.YtfiiopchfmcjdaaMCanonItems18
import Derived.Test.YtfiiopchfmcjdaaMCanonItems19
import Derived.Test.YtfiiopchfmcjdaaMCanonItems20
import Derived.Test.YtfiiopchfmcjdaaMCanonItems21
import Derived.Test.YtfiiopchfmcjdaaMCanonItems22
import Derived.Test.YtfiiopchfmcjdaaMCanonItems23
/- The walk of the law FnCanonItems: true at every code. -/
namespace Go.Proofs.Ytfiiopchfmcjdaa
open Go.RowKit Go.Deep
theorem kc {V V' : World} {a : Addr} {v : Value} (hb : Below V.heap.size V V') (h : V.cell? a = some v) : V'.cell? a = some v := (hb.cell (World.block_lt_of_cell? V a h)).trans h
theorem beq_cast (D : Nat) : ((D : Int) == 0) = decide (D = 0) := by
  by_cases h : D = 0
  · rw [h]; rfl
  · rw [decide_eq_false h]; simpa using h
theorem canX_siz2 {n : Nd} : sizN (canX n) ≤ sizN n := by
  unfold canX
  by_cases hok : nodeOk n = true
  · rw [if_pos hok]; exact siz_can 8 n (node_ok hok).1
  · rw [if_neg hok, sizN_eq]
    have : noneNd.data.size + sizL noneNd.ptrs + sizL noneNd.items = 0 := by
      show 0 + sizL [] + sizL [] = 0
      rw [sizL_nil]
    omega
set_option maxHeartbeats 8000000 in
set_option maxRecDepth 100000 in
theorem walkCanonItems (w : World) (a : Option Addr) (len cap : Nat) (h : Arg w a len cap) :
    Calls Try.prog 3 #[.slice a len cap] w fun e w' => e = .returned (.bool true) ∧ Below w.heap.size w w' := by
  have hlen := h.1.1
  unfold maxLen at hlen
  by_cases hbig : 1048576 < len
  · go_enter Try.func3, Try.ntmps3
    go_wp2
    go_ret
    exact ⟨rfl, Below.refl _ _⟩
  have HD := Lib.hid (drawCanon_any a len cap w h)
  clear h
  go_enter Try.func3, Try.ntmps3
  go_wp2_with fail
  refine HD.out.mono ?_
  rintro e w1 ⟨n, h1, rfl, hn1, ht1, hb1⟩
  have hba := (Below.refl w1.heap.size w1).alloc (Nat.le_refl _) (.cells #[.int .i64 n.kind, .string n.data, .slice h1.A n.ptrs.length h1.a, .int .i64 n.size, .int .i64 n.count, .slice h1.B n.items.length h1.b] nodeT)
  have HA := Lib.hid (heap_alloc_new w1 (.cells #[.int .i64 n.kind, .string n.data, .slice h1.A n.ptrs.length h1.a, .int .i64 n.size, .int .i64 n.count, .slice h1.B n.items.length h1.b] nodeT))
  have HB2 := Lib.hid (hb1.trans (hba.mono hb1.size))
  have HN2 := Lib.hid (hn1.below hba)
  have hsa : (w1.alloc (.cells #[.int .i64 n.kind, .string n.data, .slice h1.A n.ptrs.length h1.a, .int .i64 n.size, .int .i64 n.count, .slice h1.B n.items.length h1.b] nodeT)).heap.size = w1.heap.size + 1 := by simp
  have htn : totN 18 n ≤ 2000000 := by omega
  have hsz := totN_siz hn1
  have HTX : Hid (sizN (canX n) ≤ 300000) := Lib.hid (by have := canX_siz2 (n := n); omega)
  clear hn1 hb1 hba
  go_wp2_with fail
  generalize w1.alloc (.cells #[.int .i64 n.kind, .string n.data, .slice h1.A n.ptrs.length h1.a, .int .i64 n.size, .int .i64 n.count, .slice h1.B n.items.length h1.b] nodeT) = W2 at *
  obtain ⟨x, hx⟩ : ∃ x, x = canX n := ⟨_, rfl⟩
  rw [← hx] at HTX
  have HCN := Lib.hid (implCanon_a 18 n h1 W2 _ HN2.out htn)
  rw [← hx] at HCN
  unfold NewO at HCN
  have HXE := Lib.hid hx
  clear hx
  refine HCN.out.mono ?_
  rintro e w2 ⟨hy, bs, rfl, hown, hnd, hge, hb2⟩
  have hba := (Below.refl w2.heap.size w2).alloc (Nat.le_refl _) (.cells #[.int .i64 x.kind, .string x.data, .slice hy.A x.ptrs.length hy.a, .int .i64 x.size, .int .i64 x.count, .slice hy.B x.items.length hy.b] nodeT)
  have HX := Lib.hid (heap_alloc_new w2 (.cells #[.int .i64 x.kind, .string x.data, .slice hy.A x.ptrs.length hy.a, .int .i64 x.size, .int .i64 x.count, .slice hy.B x.items.length hy.b] nodeT))
  have HA4 := Lib.hid (((hba.block _ (by have := hb2.size; have := row_lt HA.out; omega))).trans ((hb2.block _ (row_lt HA.out)).trans HA.out))
  have HN4 := Lib.hid ((HN2.out.below hb2).below hba)
  have HO4 := Lib.hid (hown.below hba)
  have HB4 := Lib.hid ((HB2.out.trans (hb2.mono HB2.out.size)).trans (hba.mono (HB2.out.trans (hb2.mono HB2.out.size)).size))
  clear hown hnd hge hb2 hba
  go_wp2_with fail
  generalize w2.alloc (.cells #[.int .i64 x.kind, .string x.data, .slice hy.A x.ptrs.length hy.a, .int .i64 x.size, .int .i64 x.count, .slice hy.B x.items.length hy.b] nodeT) = W4 at *
  have hx := HXE.out
  have htx : totN 19 x ≤ 2000000 := by rw [totN_siz HO4.out.nd]; have := HTX.out; omega
  have HSB : Hid (Below W4.heap.size W4 W4) := Lib.hid (Below.refl _ _)
  have HSC : Hid (∀ V : World, Below W4.heap.size W4 V → Calls Try.prog 10 #[.agg #[.int .i64 n.kind, .string n.data, .slice h1.A n.ptrs.length h1.a, .int .i64 n.size, .int .i64 n.count, .slice h1.B n.items.length h1.b]] V (NewO 19 x V)) := Lib.hid fun V hV => by rw [hx]; exact specCanon_a 18 n h1 V _ (HN4.out.below hV) htn
  have HQ : Hid (∀ V : World, Below W4.heap.size W4 V → ∀ (hz : Hd) (SS : Nat → Prop), NdAt V SS 19 x hz → Calls Try.prog 9 #[.agg #[.int .i64 x.kind, .string x.data, .slice hy.A x.ptrs.length hy.a, .int .i64 x.size, .int .i64 x.count, .slice hy.B x.items.length hy.b], .agg #[.int .i64 x.kind, .string x.data, .slice hz.A x.ptrs.length hz.a, .int .i64 x.size, .int .i64 x.count, .slice hz.B x.items.length hz.b]] V fun e w' => e = .returned (.bool true) ∧ Below V.heap.size V w') := Lib.hid fun V hV hz SS hq => qnN_any 19 19 x x hy hz V _ SS true (HO4.out.nd.below hV) hq (iff_true_of rfl)
  have HRW : Hid (NdsAt W4 (InB W4 bs) 19 hy.B x.items) := Lib.hid HO4.out.nd.2.2
  have HLW : Hid (x.kind = 2 → ∃ D P : Nat, D ≤ 1592 ∧ x.items.length = n.items.length ∧ (∀ y ∈ x.items, y.data.size = D ∧ y.ptrs.length = P) ∧ (D = 0 ∨ x.items.any (lastW D) = true) ∧ (P = 0 ∨ x.items.any (lastP P) = true)) := Lib.hid fun hk => by
    have hxx := hx
    unfold canX at hxx
    by_cases hok : nodeOk n = true
    · rw [if_pos hok] at hxx
      rw [hxx] at hk ⊢
      exact items_law hok hk
    · rw [if_neg hok] at hxx
      rw [hxx] at hk
      exact absurd hk (by decide)
  obtain ⟨a0, a1, a2, a3, a4, a5⟩ := cells6 HA4.out
  obtain ⟨b0, b1, b2, b3, b4, b5⟩ := cells6 HX.out
  clear htx hsz htn HXE HD HA HN2 HB2 HTX hsa
  unfold NewO at HSC
  by_cases hA : x.kind = 2 ∧ x.size = 7 ∧ x.items.length ≠ 0
  · -- B
    have hk2 : (x.kind != 2) = false := by rw [hA.1]; rfl
    have hs7 : (x.size != 7) = false := by rw [hA.2.1]; rfl
    have hl0 : ((x.items.length : Int) == 0) = false := by simpa using hA.2.2
    obtain ⟨D, P, hD, hln, hev, hwd, hpt⟩ := HLW.out hA.1
    have hl1 : 0 < x.items.length := by have := hA.2.2; omega
    clear HLW hx hA
    have HEV := Lib.hid hev
    have HWD := Lib.hid hwd
    have HPT := Lib.hid hpt
    have HLN := Lib.hid hln
    clear hev hwd hpt hln
    go_region_held3 (fun V => (V.cell? ⟨w1.heap.size, 0, none⟩ = some (.int .i64 n.kind) ∧ V.cell? ⟨w1.heap.size, 1, none⟩ = some (.string n.data) ∧ V.cell? ⟨w1.heap.size, 2, none⟩ = some (.slice h1.A n.ptrs.length h1.a) ∧ V.cell? ⟨w1.heap.size, 3, none⟩ = some (.int .i64 n.size) ∧ V.cell? ⟨w1.heap.size, 4, none⟩ = some (.int .i64 n.count) ∧ V.cell? ⟨w1.heap.size, 5, none⟩ = some (.slice h1.B n.items.length h1.b)) ∧ (V.cell? ⟨w2.heap.size, 0, none⟩ = some (.int .i64 x.kind) ∧ V.cell? ⟨w2.heap.size, 1, none⟩ = some (.string x.data) ∧ V.cell? ⟨w2.heap.size, 2, none⟩ = some (.slice hy.A x.ptrs.length hy.a) ∧ V.cell? ⟨w2.heap.size, 3, none⟩ = some (.int .i64 x.size) ∧ V.cell? ⟨w2.heap.size, 4, none⟩ = some (.int .i64 x.count) ∧ V.cell? ⟨w2.heap.size, 5, none⟩ = some (.slice hy.B x.items.length hy.b)) ∧ Below W4.heap.size W4 V) ((first | exact ⟨⟨a0, a1, a2, a3, a4, a5⟩, ⟨b0, b1, b2, b3, b4, b5⟩, HSB.out.drew⟩ | (obtain ⟨⟨s0, s1, s2, s3, s4, s5⟩, ⟨t0, t1, t2, t3, t4, t5⟩, sb⟩ := ‹(_ ∧ _) ∧ (_ ∧ _) ∧ Below W4.heap.size W4 _›; exact ⟨⟨kc hbq s0, kc hbq s1, kc hbq s2, kc hbq s3, kc hbq s4, kc hbq s5⟩, ⟨kc hbq t0, kc hbq t1, kc hbq t2, kc hbq t3, kc hbq t4, kc hbq t5⟩, sb.trans (hbq.mono sb.size)⟩))) (first | (go_at_call 10; (with_reducible refine (HSC.out _ (by have hh := ‹(_ ∧ _) ∧ (_ ∧ _) ∧ Below W4.heap.size W4 _›; exact hh.2.2)).mono ?_); rintro e wq ⟨hz, bz, rfl, hownz, hndz, hgez, hbq⟩) | (go_at_call 9; (with_reducible refine (HQ.out _ (by have hh := ‹(_ ∧ _) ∧ (_ ∧ _) ∧ Below W4.heap.size W4 _›; exact hh.2.2) hz _ hownz.nd).mono ?_); rintro e wq ⟨rfl, hbq⟩))
    all_goals
      have hS := ‹(_ ∧ _) ∧ (_ ∧ _) ∧ Below W4.heap.size W4 _›
      clear a0 a1 a2 a3 a4 a5 b0 b1 b2 b3 b4 b5 HSB hownz hndz hgez hbq
      obtain ⟨⟨a0, a1, a2, a3, a4, a5⟩, ⟨b0, b1, b2, b3, b4, b5⟩, hsb⟩ := hS
      have HSB := Lib.hid hsb
      clear hsb
      have HNR := Lib.hid (HRW.out.below HSB.out)
      have HFB := Lib.hid (HB4.out.trans (HSB.out.mono HB4.out.size))
      clear HSB HSC HQ HB4 HRW HN4 HO4
      obtain ⟨xa, hd0, hB, hc0, -⟩ := HNR.out.at_ hl1
      rw [addr_zero] at hc0
      rw [hB] at b5 HNR
      have hy0 := HEV.out _ (List.getElem_mem hl1)
      obtain ⟨-, d1, d2, -, -, -⟩ := hc0
      generalize x.items[0] = y0 at *
      obtain ⟨g1, g2⟩ := hy0
      have hyl : y0.data.size ≤ maxLen := by unfold maxLen; omega
      have hw0 : ((y0.data.size : Int) == 0) = decide (D = 0) := by rw [g1]; exact beq_cast D
      have hp0 : ((y0.ptrs.length : Int) == 0) = decide (P = 0) := by rw [g2]; exact beq_cast P
      go_wp2_with fail
      have HX5 := Lib.hid b5
      have HA5 := Lib.hid a5
      clear hB a0 a1 a2 a3 a4 a5 b0 b1 b2 b3 b4 b5 d1 d2 hw0 hp0 g1 g2 hyl hk2 hs7 hl0 hl1
      have hlm : x.items.length ≤ 9223372036854775807 := by have h1 := HNR.out.1; unfold maxLen at h1; omega
      go_loopw [7, 8, 9] (fun a b i wr => ∃ (k : Nat) (wb pb : Bool), a = .bool wb ∧ b = .bool pb ∧ i = .int .i64 k ∧ k ≤ x.items.length ∧ Hid (wb = (decide (D = 0) || (x.items.take k).any (lastW D))) ∧ Hid (pb = (decide (P = 0) || (x.items.take k).any (lastP P))) ∧ Hid (Below wq.heap.size wq wr)) (fun _ _ i _ => x.items.length - (intOf i).toNat)
      case atStart => exact ⟨0, _, _, rfl, rfl, rfl, by omega, Lib.hid (by rw [beq_cast]; simp), Lib.hid (by rw [beq_cast]; simp), Lib.hid (Below.refl _ _)⟩
      case round =>
        obtain ⟨k, wb, pb, rfl, rfl, rfl, hk, HWB, HPB, HB⟩ := hrel
        have b5 := kc HB.out HX5.out
        by_cases hlt : k < x.items.length
        · obtain ⟨xb, hd, hxx, hc, hn⟩ := (HNR.out.below HB.out).at_ hlt
          obtain rfl : xa = xb := Option.some.inj hxx
          obtain ⟨s1, s2⟩ := HEV.out _ (List.getElem_mem hlt)
          have HWS : Hid ((wb || lastW D x.items[k]) = (decide (D = 0) || (x.items.take (k + 1)).any (lastW D))) := Lib.hid (by rw [HWB.out, List.take_succ_eq_append_getElem hlt, List.any_append]; simp [Bool.or_assoc])
          have HPS : Hid ((pb || lastP P x.items[k]) = (decide (P = 0) || (x.items.take (k + 1)).any (lastP P))) := Lib.hid (by rw [HPB.out, List.take_succ_eq_append_getElem hlt, List.any_append]; simp [Bool.or_assoc])
          generalize x.items[k] = y at *
          have hys : y.data.size ≤ maxLen := by unfold maxLen; omega
          have hwD : IntKind.i64.wrap ((D : Int) - 8) = (D : Int) - 8 := by rw [IntKind.wrap_i64]; omega
          obtain ⟨c0, c1, c2, c3, c4, c5⟩ := hc
          rw [s2] at c2
          have HK := Lib.hid hlt
          have hba := (Below.refl wr.heap.size wr).alloc (Nat.le_refl _) (.cells #[.int .i64 y.kind, .string y.data, .slice hd.A P hd.a, .int .i64 y.size, .int .i64 y.count, .slice hd.B y.items.length hd.b] nodeT)
          have HB2 := Lib.hid (HB.out.trans (hba.mono HB.out.size))
          have HR := Lib.hid (heap_alloc_new wr (.cells #[.int .i64 y.kind, .string y.data, .slice hd.A P hd.a, .int .i64 y.size, .int .i64 y.count, .slice hd.B y.items.length hd.b] nodeT))
          clear HWD HPT HEV HNR HX5 HA5 HFB HLN
          cases wb
          · cases pb
            · have hP0 : P ≠ 0 := fun h0 => by
                have h1 := HPB.out
                rw [h0] at h1
                exact absurd h1 (by simp)
              obtain ⟨Q, hQ⟩ : ∃ Q, Q + 1 = P := ⟨P - 1, by omega⟩
              have hpl : Q < y.ptrs.length := by rw [s2]; omega
              obtain ⟨z, hz, hzA, hzc, -⟩ := hn.2.1.at_ hpl
              have hLP : lastP P y = (y.ptrs[Q].kind != 0) := by unfold lastP; rw [show P - 1 = Q by omega, List.getElem?_eq_getElem hpl]; rfl
              rw [hLP] at HPS
              generalize y.ptrs[Q] = pn at *
              rw [hzA] at c2 HR hba HB2
              have HZQ := Lib.hid (kc hba hzc.c0)
              have hPm : P ≤ 9223372036854775807 := by have h1 := hn.2.1.1; unfold maxLen at h1; omega
              have hw1 : IntKind.i64.wrap ((P : Int) - 1) = (Q : Int) := by rw [IntKind.wrap_i64]; omega
              have hq1 : (Q : Int) < (P : Int) := by omega
              have hq0 : (0 : Int) ≤ (Q : Int) := by omega
              clear hzc hLP hQ hpl hP0
              clear hn hba
              go_wp2_with fail
              clear c0 c1 c2 c3 c4 c5
              generalize hW : wr.alloc (.cells #[.int .i64 y.kind, .string y.data, .slice (some z) P hd.a, .int .i64 y.size, .int .i64 y.count, .slice hd.B y.items.length hd.b] nodeT) = W at *
              clear hW
              obtain ⟨e0, e1, e2, e3, e4, e5⟩ := cells6 HR.out
              have zq := HZQ.out
              go_wp2_with (first | (go_at_call 11; go_loud (refine (implGet_any _ _ _ _ hys).mono ?_); rintro e w' ⟨rfl, hbq⟩; have HB3 := Lib.hid (HB2.out.trans (hbq.mono HB2.out.size)); replace e2 := kc hbq e2; replace zq := kc hbq zq))
              go_roundw
              case rel => exact ⟨k + 1, _, _, rfl, rfl, by go_num, HK.out, Lib.hid HWS.out, Lib.hid HPS.out, HB3⟩
              case measure => have hkk := HK.out; simp [intOf]; omega
            · clear hn hba
              go_wp2_with fail
              clear c0 c1 c2 c3 c4 c5
              generalize hW : wr.alloc (.cells #[.int .i64 y.kind, .string y.data, .slice hd.A P hd.a, .int .i64 y.size, .int .i64 y.count, .slice hd.B y.items.length hd.b] nodeT) = W at *
              clear hW
              obtain ⟨e0, e1, e2, e3, e4, e5⟩ := cells6 HR.out
              go_wp2_with (first | (go_at_call 11; go_loud (refine (implGet_any _ _ _ _ hys).mono ?_); rintro e w' ⟨rfl, hbq⟩; have HB3 := Lib.hid (HB2.out.trans (hbq.mono HB2.out.size)); replace e2 := kc hbq e2))
              go_roundw
              case rel => exact ⟨k + 1, _, _, rfl, rfl, by go_num, HK.out, Lib.hid HWS.out, Lib.hid HPS.out, HB3⟩
              case measure => have hkk := HK.out; simp [intOf]; omega
          · cases pb
            · have hP0 : P ≠ 0 := fun h0 => by
                have h1 := HPB.out
                rw [h0] at h1
                exact absurd h1 (by simp)
              obtain ⟨Q, hQ⟩ : ∃ Q, Q + 1 = P := ⟨P - 1, by omega⟩
              have hpl : Q < y.ptrs.length := by rw [s2]; omega
              obtain ⟨z, hz, hzA, hzc, -⟩ := hn.2.1.at_ hpl
              have hLP : lastP P y = (y.ptrs[Q].kind != 0) := by unfold lastP; rw [show P - 1 = Q by omega, List.getElem?_eq_getElem hpl]; rfl
              rw [hLP] at HPS
              generalize y.ptrs[Q] = pn at *
              rw [hzA] at c2 HR hba HB2
              have HZQ := Lib.hid (kc hba hzc.c0)
              have hPm : P ≤ 9223372036854775807 := by have h1 := hn.2.1.1; unfold maxLen at h1; omega
              have hw1 : IntKind.i64.wrap ((P : Int) - 1) = (Q : Int) := by rw [IntKind.wrap_i64]; omega
              have hq1 : (Q : Int) < (P : Int) := by omega
              have hq0 : (0 : Int) ≤ (Q : Int) := by omega
              clear hzc hLP hQ hpl hP0
              have zq0 := HZQ.out
              clear hn hba
              go_wp2_with fail
              clear c0 c1 c2 c3 c4 c5
              generalize hW : wr.alloc (.cells #[.int .i64 y.kind, .string y.data, .slice (some z) P hd.a, .int .i64 y.size, .int .i64 y.count, .slice hd.B y.items.length hd.b] nodeT) = W at *
              clear hW
              obtain ⟨e0, e1, e2, e3, e4, e5⟩ := cells6 HR.out
              have zq := HZQ.out
              go_wp2_with fail
              go_roundw
              case rel => exact ⟨k + 1, _, _, rfl, rfl, by go_num, HK.out, Lib.hid HWS.out, Lib.hid HPS.out, HB2⟩
              case measure => have hkk := HK.out; simp [intOf]; omega
            · clear hn hba
              go_wp2_with fail
              clear c0 c1 c2 c3 c4 c5
              generalize hW : wr.alloc (.cells #[.int .i64 y.kind, .string y.data, .slice hd.A P hd.a, .int .i64 y.size, .int .i64 y.count, .slice hd.B y.items.length hd.b] nodeT) = W at *
              clear hW
              obtain ⟨e0, e1, e2, e3, e4, e5⟩ := cells6 HR.out
              go_wp2_with fail
              go_roundw
              case rel => exact ⟨k + 1, _, _, rfl, rfl, by go_num, HK.out, Lib.hid HWS.out, Lib.hid HPS.out, HB2⟩
              case measure => have hkk := HK.out; simp [intOf]; omega
        · obtain rfl : k = x.items.length := by omega
          obtain rfl : wb = true := by rw [HWB.out, List.take_of_length_le (Nat.le_refl _)]; rcases HWD.out with h | h <;> simp [h]
          obtain rfl : pb = true := by rw [HPB.out, List.take_of_length_le (Nat.le_refl _)]; rcases HPT.out with h | h <;> simp [h]
          have a5 := kc HB.out HA5.out
          have hlnb : ((x.items.length : Int) == (n.items.length : Int)) = true := by rw [HLN.out]; simp
          have HFIN := Lib.hid (HFB.out.trans (HB.out.mono HFB.out.size))
          go_wp2
          go_ret
          exact ⟨rfl, HFIN.out⟩

  · -- A
    by_cases hkk : x.kind = 2
    · have hk2 : (x.kind != 2) = false := by rw [hkk]; rfl
      by_cases hss : x.size = 7
      · have hs7 : (x.size != 7) = false := by rw [hss]; rfl
        have hl0 : ((x.items.length : Int) == 0) = true := by
          have : x.items.length = 0 := by by_cases h0 : x.items.length = 0; exact h0; exact absurd ⟨hkk, hss, h0⟩ hA
          rw [this]; rfl
        clear hkk hss hA
        clear HLW hx HRW
        go_region_held3 (fun V => (V.cell? ⟨w1.heap.size, 0, none⟩ = some (.int .i64 n.kind) ∧ V.cell? ⟨w1.heap.size, 1, none⟩ = some (.string n.data) ∧ V.cell? ⟨w1.heap.size, 2, none⟩ = some (.slice h1.A n.ptrs.length h1.a) ∧ V.cell? ⟨w1.heap.size, 3, none⟩ = some (.int .i64 n.size) ∧ V.cell? ⟨w1.heap.size, 4, none⟩ = some (.int .i64 n.count) ∧ V.cell? ⟨w1.heap.size, 5, none⟩ = some (.slice h1.B n.items.length h1.b)) ∧ (V.cell? ⟨w2.heap.size, 0, none⟩ = some (.int .i64 x.kind) ∧ V.cell? ⟨w2.heap.size, 1, none⟩ = some (.string x.data) ∧ V.cell? ⟨w2.heap.size, 2, none⟩ = some (.slice hy.A x.ptrs.length hy.a) ∧ V.cell? ⟨w2.heap.size, 3, none⟩ = some (.int .i64 x.size) ∧ V.cell? ⟨w2.heap.size, 4, none⟩ = some (.int .i64 x.count) ∧ V.cell? ⟨w2.heap.size, 5, none⟩ = some (.slice hy.B x.items.length hy.b)) ∧ Below W4.heap.size W4 V) ((first | exact ⟨⟨a0, a1, a2, a3, a4, a5⟩, ⟨b0, b1, b2, b3, b4, b5⟩, HSB.out.drew⟩ | (obtain ⟨⟨s0, s1, s2, s3, s4, s5⟩, ⟨t0, t1, t2, t3, t4, t5⟩, sb⟩ := ‹(_ ∧ _) ∧ (_ ∧ _) ∧ Below W4.heap.size W4 _›; exact ⟨⟨kc hbq s0, kc hbq s1, kc hbq s2, kc hbq s3, kc hbq s4, kc hbq s5⟩, ⟨kc hbq t0, kc hbq t1, kc hbq t2, kc hbq t3, kc hbq t4, kc hbq t5⟩, sb.trans (hbq.mono sb.size)⟩))) (first | (go_at_call 10; (with_reducible refine (HSC.out _ (by have hh := ‹(_ ∧ _) ∧ (_ ∧ _) ∧ Below W4.heap.size W4 _›; exact hh.2.2)).mono ?_); rintro e wq ⟨hz, bz, rfl, hownz, hndz, hgez, hbq⟩) | (go_at_call 9; (with_reducible refine (HQ.out _ (by have hh := ‹(_ ∧ _) ∧ (_ ∧ _) ∧ Below W4.heap.size W4 _›; exact hh.2.2) hz _ hownz.nd).mono ?_); rintro e wq ⟨rfl, hbq⟩))
        all_goals
          have hS := ‹(_ ∧ _) ∧ (_ ∧ _) ∧ Below W4.heap.size W4 _›
          clear a0 a1 a2 a3 a4 a5 b0 b1 b2 b3 b4 b5 HSB hownz hndz hgez hbq
          obtain ⟨⟨a0, a1, a2, a3, a4, a5⟩, ⟨b0, b1, b2, b3, b4, b5⟩, hsb⟩ := hS
          have HSB := Lib.hid hsb
          clear hsb
          go_wp2_with fail
          go_region_held3 (fun V => (V.cell? ⟨w1.heap.size, 0, none⟩ = some (.int .i64 n.kind) ∧ V.cell? ⟨w1.heap.size, 1, none⟩ = some (.string n.data) ∧ V.cell? ⟨w1.heap.size, 2, none⟩ = some (.slice h1.A n.ptrs.length h1.a) ∧ V.cell? ⟨w1.heap.size, 3, none⟩ = some (.int .i64 n.size) ∧ V.cell? ⟨w1.heap.size, 4, none⟩ = some (.int .i64 n.count) ∧ V.cell? ⟨w1.heap.size, 5, none⟩ = some (.slice h1.B n.items.length h1.b)) ∧ (V.cell? ⟨w2.heap.size, 0, none⟩ = some (.int .i64 x.kind) ∧ V.cell? ⟨w2.heap.size, 1, none⟩ = some (.string x.data) ∧ V.cell? ⟨w2.heap.size, 2, none⟩ = some (.slice hy.A x.ptrs.length hy.a) ∧ V.cell? ⟨w2.heap.size, 3, none⟩ = some (.int .i64 x.size) ∧ V.cell? ⟨w2.heap.size, 4, none⟩ = some (.int .i64 x.count) ∧ V.cell? ⟨w2.heap.size, 5, none⟩ = some (.slice hy.B x.items.length hy.b)) ∧ Below W4.heap.size W4 V) ((first | exact ⟨⟨a0, a1, a2, a3, a4, a5⟩, ⟨b0, b1, b2, b3, b4, b5⟩, HSB.out.drew⟩ | (obtain ⟨⟨s0, s1, s2, s3, s4, s5⟩, ⟨t0, t1, t2, t3, t4, t5⟩, sb⟩ := ‹(_ ∧ _) ∧ (_ ∧ _) ∧ Below W4.heap.size W4 _›; exact ⟨⟨kc hbq s0, kc hbq s1, kc hbq s2, kc hbq s3, kc hbq s4, kc hbq s5⟩, ⟨kc hbq t0, kc hbq t1, kc hbq t2, kc hbq t3, kc hbq t4, kc hbq t5⟩, sb.trans (hbq.mono sb.size)⟩))) (first | (go_at_call 10; (with_reducible refine (HSC.out _ (by have hh := ‹(_ ∧ _) ∧ (_ ∧ _) ∧ Below W4.heap.size W4 _›; exact hh.2.2)).mono ?_); rintro e wq ⟨hz, bz, rfl, hownz, hndz, hgez, hbq⟩) | (go_at_call 9; (with_reducible refine (HQ.out _ (by have hh := ‹(_ ∧ _) ∧ (_ ∧ _) ∧ Below W4.heap.size W4 _›; exact hh.2.2) hz _ hownz.nd).mono ?_); rintro e wq ⟨rfl, hbq⟩))
          all_goals
            have hS := ‹(_ ∧ _) ∧ (_ ∧ _) ∧ Below W4.heap.size W4 _›
            have HFIN := Lib.hid (HB4.out.trans (hS.2.2.mono HB4.out.size))
            clear hS a0 a1 a2 a3 a4 a5 b0 b1 b2 b3 b4 b5
            go_wp2
            go_ret
            exact ⟨rfl, HFIN.out⟩

      · have hs7 : (x.size != 7) = true := by simpa using hss
        clear hkk hss hA
        clear HLW hx HRW
        refine wp_region_held_drew (S := (fun V => (V.cell? ⟨w1.heap.size, 0, none⟩ = some (.int .i64 n.kind) ∧ V.cell? ⟨w1.heap.size, 1, none⟩ = some (.string n.data) ∧ V.cell? ⟨w1.heap.size, 2, none⟩ = some (.slice h1.A n.ptrs.length h1.a) ∧ V.cell? ⟨w1.heap.size, 3, none⟩ = some (.int .i64 n.size) ∧ V.cell? ⟨w1.heap.size, 4, none⟩ = some (.int .i64 n.count) ∧ V.cell? ⟨w1.heap.size, 5, none⟩ = some (.slice h1.B n.items.length h1.b)) ∧ (V.cell? ⟨w2.heap.size, 0, none⟩ = some (.int .i64 x.kind) ∧ V.cell? ⟨w2.heap.size, 1, none⟩ = some (.string x.data) ∧ V.cell? ⟨w2.heap.size, 2, none⟩ = some (.slice hy.A x.ptrs.length hy.a) ∧ V.cell? ⟨w2.heap.size, 3, none⟩ = some (.int .i64 x.size) ∧ V.cell? ⟨w2.heap.size, 4, none⟩ = some (.int .i64 x.count) ∧ V.cell? ⟨w2.heap.size, 5, none⟩ = some (.slice hy.B x.items.length hy.b)) ∧ Below W4.heap.size W4 V)) (by kernel_rfl) ?_ (fun hH0 => ?_)
        · (first | exact ⟨⟨a0, a1, a2, a3, a4, a5⟩, ⟨b0, b1, b2, b3, b4, b5⟩, HSB.out.drew⟩ | (obtain ⟨⟨s0, s1, s2, s3, s4, s5⟩, ⟨t0, t1, t2, t3, t4, t5⟩, sb⟩ := ‹(_ ∧ _) ∧ (_ ∧ _) ∧ Below W4.heap.size W4 _›; exact ⟨⟨kc hbq s0, kc hbq s1, kc hbq s2, kc hbq s3, kc hbq s4, kc hbq s5⟩, ⟨kc hbq t0, kc hbq t1, kc hbq t2, kc hbq t3, kc hbq t4, kc hbq t5⟩, sb.trans (hbq.mono sb.size)⟩))
        refine wpAnyH_take (i := 0) (v := ?v1) rfl (by kernel_rfl) (by kernel_rfl) (by kernel_rfl) (fun _ _ _ h => h) (Or.inl ⟨by rfl, ?hy1⟩) (by assumption) ?rest1
        case hy1 =>
          intro w hSw
          (try dsimp only at hSw)
          go_simp
          with_reducible rfl
        try simp only [List.getElem_toArray, List.getElem_cons_succ, List.getElem_cons_zero, Act.put, List.setIfInBounds_toArray, List.set_cons_zero, List.set_cons_succ]
        refine wpAnyH_take (i := 1) (v := ?v2) rfl (by kernel_rfl) (by kernel_rfl) (by kernel_rfl) (fun _ _ _ h => h) (Or.inl ⟨by rfl, ?hy2⟩) (by assumption) ?rest2
        case hy2 =>
          intro w hSw
          (try dsimp only at hSw)
          go_simp
          with_reducible rfl
        try simp only [List.getElem_toArray, List.getElem_cons_succ, List.getElem_cons_zero, Act.put, List.setIfInBounds_toArray, List.set_cons_zero, List.set_cons_succ]
        refine wpAnyH_ready (rs := [2]) (by kernel_rfl) (by simp) ?_
        refine AllReadyH.cons rfl (fun K hK => ?_) AllReadyH.nil
        go_simp
        (go_at_call 10; (with_reducible refine (HSC.out _ (by have hh := ‹(_ ∧ _) ∧ (_ ∧ _) ∧ Below W4.heap.size W4 _›; exact hh.2.2)).mono ?_); rintro e wq ⟨hz, bz, rfl, hownz, hndz, hgez, hbq⟩)
        go_wp2_with fail
        refine hK.out _ _ ?_ (fun hH1 => ?_)
        · (first | exact ⟨⟨a0, a1, a2, a3, a4, a5⟩, ⟨b0, b1, b2, b3, b4, b5⟩, HSB.out.drew⟩ | (obtain ⟨⟨s0, s1, s2, s3, s4, s5⟩, ⟨t0, t1, t2, t3, t4, t5⟩, sb⟩ := ‹(_ ∧ _) ∧ (_ ∧ _) ∧ Below W4.heap.size W4 _›; exact ⟨⟨kc hbq s0, kc hbq s1, kc hbq s2, kc hbq s3, kc hbq s4, kc hbq s5⟩, ⟨kc hbq t0, kc hbq t1, kc hbq t2, kc hbq t3, kc hbq t4, kc hbq t5⟩, sb.trans (hbq.mono sb.size)⟩))
        clear hK K hH0
        try simp only [List.getElem_toArray, List.getElem_cons_succ, List.getElem_cons_zero, Act.put, List.setIfInBounds_toArray, List.set_cons_zero, List.set_cons_succ]
        refine wpAnyH_ready (rs := [3]) (by kernel_rfl) (by simp) ?_
        refine AllReadyH.cons rfl (fun K hK => ?_) AllReadyH.nil
        go_simp
        (go_at_call 9; (with_reducible refine (HQ.out _ (by have hh := ‹(_ ∧ _) ∧ (_ ∧ _) ∧ Below W4.heap.size W4 _›; exact hh.2.2) hz _ hownz.nd).mono ?_); rintro e wq ⟨rfl, hbq⟩)
        go_wp2_with fail
        refine hK.out _ _ ?_ (fun hH2 => ?_)
        · (first | exact ⟨⟨a0, a1, a2, a3, a4, a5⟩, ⟨b0, b1, b2, b3, b4, b5⟩, HSB.out.drew⟩ | (obtain ⟨⟨s0, s1, s2, s3, s4, s5⟩, ⟨t0, t1, t2, t3, t4, t5⟩, sb⟩ := ‹(_ ∧ _) ∧ (_ ∧ _) ∧ Below W4.heap.size W4 _›; exact ⟨⟨kc hbq s0, kc hbq s1, kc hbq s2, kc hbq s3, kc hbq s4, kc hbq s5⟩, ⟨kc hbq t0, kc hbq t1, kc hbq t2, kc hbq t3, kc hbq t4, kc hbq t5⟩, sb.trans (hbq.mono sb.size)⟩))
        clear hK K hH1
        try simp only [List.getElem_toArray, List.getElem_cons_succ, List.getElem_cons_zero, Act.put, List.setIfInBounds_toArray, List.set_cons_zero, List.set_cons_succ]
        refine wpAnyH_take (i := 4) (v := ?v13) rfl (by kernel_rfl) (by kernel_rfl) (by kernel_rfl) (fun _ _ _ h => h) (Or.inl ⟨by rfl, ?hy13⟩) (by assumption) ?rest13
        case hy13 =>
          intro w hSw
          (try dsimp only at hSw)
          go_simp
          with_reducible rfl
        try simp only [List.getElem_toArray, List.getElem_cons_succ, List.getElem_cons_zero, Act.put, List.setIfInBounds_toArray, List.set_cons_zero, List.set_cons_succ]
        refine wpAnyH_take (i := 5) (v := ?v14) rfl (by kernel_rfl) (by kernel_rfl) (by kernel_rfl) (fun _ _ _ h => h) (Or.inl ⟨by rfl, ?hy14⟩) (by assumption) ?rest14
        case hy14 =>
          intro w hSw
          (try dsimp only at hSw)
          go_simp
          with_reducible rfl
        try simp only [List.getElem_toArray, List.getElem_cons_succ, List.getElem_cons_zero, Act.put, List.setIfInBounds_toArray, List.set_cons_zero, List.set_cons_succ]
        refine wpAnyH_take (i := 6) (v := ?v15) rfl (by kernel_rfl) (by kernel_rfl) (by kernel_rfl) (fun _ _ _ h => h) (Or.inl ⟨by rfl, ?hy15⟩) (by assumption) ?rest15
        case hy15 =>
          intro w hSw
          (try dsimp only at hSw)
          go_simp
          with_reducible rfl
        try simp only [List.getElem_toArray, List.getElem_cons_succ, List.getElem_cons_zero, Act.put, List.setIfInBounds_toArray, List.set_cons_zero, List.set_cons_succ]
        refine wpAnyH_take (i := 7) (v := ?v16) rfl (by kernel_rfl) (by kernel_rfl) (by kernel_rfl) (fun _ _ _ h => h) (Or.inl ⟨by rfl, ?hy16⟩) (by assumption) ?rest16
        case hy16 =>
          intro w hSw
          (try dsimp only at hSw)
          go_simp
          with_reducible rfl
        try simp only [List.getElem_toArray, List.getElem_cons_succ, List.getElem_cons_zero, Act.put, List.setIfInBounds_toArray, List.set_cons_zero, List.set_cons_succ]
        refine wpAnyH_take (i := 8) (v := ?v17) rfl (by kernel_rfl) (by kernel_rfl) (by kernel_rfl) (fun _ _ _ h => h) (Or.inl ⟨by rfl, ?hy17⟩) (by assumption) ?rest17
        case hy17 =>
          intro w hSw
          (try dsimp only at hSw)
          go_simp
          with_reducible rfl
        try simp only [List.getElem_toArray, List.getElem_cons_succ, List.getElem_cons_zero, Act.put, List.setIfInBounds_toArray, List.set_cons_zero, List.set_cons_succ]
        refine wpAnyH_take (i := 9) (v := ?v18) rfl (by kernel_rfl) (by kernel_rfl) (by kernel_rfl) (fun _ _ _ h => h) (Or.inl ⟨by rfl, ?hy18⟩) (by assumption) ?rest18
        case hy18 =>
          intro w hSw
          (try dsimp only at hSw)
          go_simp
          with_reducible rfl
        try simp only [List.getElem_toArray, List.getElem_cons_succ, List.getElem_cons_zero, Act.put, List.setIfInBounds_toArray, List.set_cons_zero, List.set_cons_succ]
        refine wpAnyH_take (i := 10) (v := ?v19) rfl (by kernel_rfl) (by kernel_rfl) (by kernel_rfl) (fun _ _ _ h => h) (Or.inl ⟨by rfl, ?hy19⟩) (by assumption) ?rest19
        case hy19 =>
          intro w hSw
          (try dsimp only at hSw)
          go_simp
          with_reducible rfl
        try simp only [List.getElem_toArray, List.getElem_cons_succ, List.getElem_cons_zero, Act.put, List.setIfInBounds_toArray, List.set_cons_zero, List.set_cons_succ]
        refine wpAnyH_take (i := 11) (v := ?v20) rfl (by kernel_rfl) (by kernel_rfl) (by kernel_rfl) (fun _ _ _ h => h) (Or.inl ⟨by rfl, ?hy20⟩) (by assumption) ?rest20
        case hy20 =>
          intro w hSw
          (try dsimp only at hSw)
          go_simp
          with_reducible rfl
        try simp only [List.getElem_toArray, List.getElem_cons_succ, List.getElem_cons_zero, Act.put, List.setIfInBounds_toArray, List.set_cons_zero, List.set_cons_succ]
        refine wpAnyH_take (i := 12) (v := ?v21) rfl (by kernel_rfl) (by kernel_rfl) (by kernel_rfl) (fun _ _ _ h => h) (Or.inl ⟨by rfl, ?hy21⟩) (by assumption) ?rest21
        case hy21 =>
          intro w hSw
          (try dsimp only at hSw)
          go_simp
          with_reducible rfl
        try simp only [List.getElem_toArray, List.getElem_cons_succ, List.getElem_cons_zero, Act.put, List.setIfInBounds_toArray, List.set_cons_zero, List.set_cons_succ]
        refine wpAnyH_take (i := 13) (v := ?v22) rfl (by kernel_rfl) (by kernel_rfl) (by kernel_rfl) (fun _ _ _ h => h) (Or.inl ⟨by rfl, ?hy22⟩) (by assumption) ?rest22
        case hy22 =>
          intro w hSw
          (try dsimp only at hSw)
          go_simp
          with_reducible rfl
        try simp only [List.getElem_toArray, List.getElem_cons_succ, List.getElem_cons_zero, Act.put, List.setIfInBounds_toArray, List.set_cons_zero, List.set_cons_succ]
        refine wpAnyH_take (i := 14) (v := ?v23) rfl (by kernel_rfl) (by kernel_rfl) (by kernel_rfl) (fun _ _ _ h => h) (Or.inl ⟨by rfl, ?hy23⟩) (by assumption) ?rest23
        case hy23 =>
          intro w hSw
          (try dsimp only at hSw)
          go_simp
          with_reducible rfl
        try simp only [List.getElem_toArray, List.getElem_cons_succ, List.getElem_cons_zero, Act.put, List.setIfInBounds_toArray, List.set_cons_zero, List.set_cons_succ]
        refine wpAnyH_take (i := 15) (v := ?v24) rfl (by kernel_rfl) (by kernel_rfl) (by kernel_rfl) (fun _ _ _ h => h) (Or.inl ⟨by rfl, ?hy24⟩) (by assumption) ?rest24
        case hy24 =>
          intro w hSw
          (try dsimp only at hSw)
          go_simp
          with_reducible rfl
        try simp only [List.getElem_toArray, List.getElem_cons_succ, List.getElem_cons_zero, Act.put, List.setIfInBounds_toArray, List.set_cons_zero, List.set_cons_succ]
        refine wpAnyH_take (i := 16) (v := undef) rfl (by kernel_rfl) (by kernel_rfl) (by kernel_rfl) (fun _ _ _ h => h) (Or.inr ⟨by kernel_rfl, rfl⟩) (by assumption) ?_
        try simp only [List.getElem_toArray, List.getElem_cons_succ, List.getElem_cons_zero, Act.put, List.setIfInBounds_toArray, List.set_cons_zero, List.set_cons_succ]
        refine wpAnyH_take (i := 17) (v := undef) rfl (by kernel_rfl) (by kernel_rfl) (by kernel_rfl) (fun _ _ _ h => h) (Or.inr ⟨by kernel_rfl, rfl⟩) (by assumption) ?_
        try simp only [List.getElem_toArray, List.getElem_cons_succ, List.getElem_cons_zero, Act.put, List.setIfInBounds_toArray, List.set_cons_zero, List.set_cons_succ]
        refine wpAnyH_take (i := 18) (v := undef) rfl (by kernel_rfl) (by kernel_rfl) (by kernel_rfl) (fun _ _ _ h => h) (Or.inr ⟨by kernel_rfl, rfl⟩) (by assumption) ?_
        try simp only [List.getElem_toArray, List.getElem_cons_succ, List.getElem_cons_zero, Act.put, List.setIfInBounds_toArray, List.set_cons_zero, List.set_cons_succ]
        refine wpAnyH_take (i := 19) (v := undef) rfl (by kernel_rfl) (by kernel_rfl) (by kernel_rfl) (fun _ _ _ h => h) (Or.inr ⟨by kernel_rfl, rfl⟩) (by assumption) ?_
        try simp only [List.getElem_toArray, List.getElem_cons_succ, List.getElem_cons_zero, Act.put, List.setIfInBounds_toArray, List.set_cons_zero, List.set_cons_succ]
        refine wpAnyH_take (i := 20) (v := ?v25) rfl (by kernel_rfl) (by kernel_rfl) (by kernel_rfl) (fun _ _ _ h => h) (Or.inl ⟨by rfl, ?hy25⟩) (by assumption) ?rest25
        case hy25 =>
          intro w hSw
          (try dsimp only at hSw)
          go_simp
          with_reducible rfl
        try simp only [List.getElem_toArray, List.getElem_cons_succ, List.getElem_cons_zero, Act.put, List.setIfInBounds_toArray, List.set_cons_zero, List.set_cons_succ]
        refine wpAnyH_done (by kernel_rfl) ?_ _

        have hS := ‹(_ ∧ _) ∧ (_ ∧ _) ∧ Below W4.heap.size W4 _›
        clear a0 a1 a2 a3 a4 a5 b0 b1 b2 b3 b4 b5 HSB hownz hndz hgez hbq
        obtain ⟨⟨a0, a1, a2, a3, a4, a5⟩, ⟨b0, b1, b2, b3, b4, b5⟩, hsb⟩ := hS
        have HSB := Lib.hid hsb
        clear hsb
        go_wp2_with fail
        go_region_held3 (fun V => (V.cell? ⟨w1.heap.size, 0, none⟩ = some (.int .i64 n.kind) ∧ V.cell? ⟨w1.heap.size, 1, none⟩ = some (.string n.data) ∧ V.cell? ⟨w1.heap.size, 2, none⟩ = some (.slice h1.A n.ptrs.length h1.a) ∧ V.cell? ⟨w1.heap.size, 3, none⟩ = some (.int .i64 n.size) ∧ V.cell? ⟨w1.heap.size, 4, none⟩ = some (.int .i64 n.count) ∧ V.cell? ⟨w1.heap.size, 5, none⟩ = some (.slice h1.B n.items.length h1.b)) ∧ (V.cell? ⟨w2.heap.size, 0, none⟩ = some (.int .i64 x.kind) ∧ V.cell? ⟨w2.heap.size, 1, none⟩ = some (.string x.data) ∧ V.cell? ⟨w2.heap.size, 2, none⟩ = some (.slice hy.A x.ptrs.length hy.a) ∧ V.cell? ⟨w2.heap.size, 3, none⟩ = some (.int .i64 x.size) ∧ V.cell? ⟨w2.heap.size, 4, none⟩ = some (.int .i64 x.count) ∧ V.cell? ⟨w2.heap.size, 5, none⟩ = some (.slice hy.B x.items.length hy.b)) ∧ Below W4.heap.size W4 V) ((first | exact ⟨⟨a0, a1, a2, a3, a4, a5⟩, ⟨b0, b1, b2, b3, b4, b5⟩, HSB.out.drew⟩ | (obtain ⟨⟨s0, s1, s2, s3, s4, s5⟩, ⟨t0, t1, t2, t3, t4, t5⟩, sb⟩ := ‹(_ ∧ _) ∧ (_ ∧ _) ∧ Below W4.heap.size W4 _›; exact ⟨⟨kc hbq s0, kc hbq s1, kc hbq s2, kc hbq s3, kc hbq s4, kc hbq s5⟩, ⟨kc hbq t0, kc hbq t1, kc hbq t2, kc hbq t3, kc hbq t4, kc hbq t5⟩, sb.trans (hbq.mono sb.size)⟩))) (first | (go_at_call 10; (with_reducible refine (HSC.out _ (by have hh := ‹(_ ∧ _) ∧ (_ ∧ _) ∧ Below W4.heap.size W4 _›; exact hh.2.2)).mono ?_); rintro e wq ⟨hz, bz, rfl, hownz, hndz, hgez, hbq⟩) | (go_at_call 9; (with_reducible refine (HQ.out _ (by have hh := ‹(_ ∧ _) ∧ (_ ∧ _) ∧ Below W4.heap.size W4 _›; exact hh.2.2) hz _ hownz.nd).mono ?_); rintro e wq ⟨rfl, hbq⟩))
        all_goals
          have hS := ‹(_ ∧ _) ∧ (_ ∧ _) ∧ Below W4.heap.size W4 _›
          have HFIN := Lib.hid (HB4.out.trans (hS.2.2.mono HB4.out.size))
          clear hS a0 a1 a2 a3 a4 a5 b0 b1 b2 b3 b4 b5
          go_wp2
          go_ret
          exact ⟨rfl, HFIN.out⟩

    · have hk2 : (x.kind != 2) = true := by simpa using hkk
      clear hkk hA
      clear HLW hx HRW
      refine wp_region_held_drew (S := (fun V => (V.cell? ⟨w1.heap.size, 0, none⟩ = some (.int .i64 n.kind) ∧ V.cell? ⟨w1.heap.size, 1, none⟩ = some (.string n.data) ∧ V.cell? ⟨w1.heap.size, 2, none⟩ = some (.slice h1.A n.ptrs.length h1.a) ∧ V.cell? ⟨w1.heap.size, 3, none⟩ = some (.int .i64 n.size) ∧ V.cell? ⟨w1.heap.size, 4, none⟩ = some (.int .i64 n.count) ∧ V.cell? ⟨w1.heap.size, 5, none⟩ = some (.slice h1.B n.items.length h1.b)) ∧ (V.cell? ⟨w2.heap.size, 0, none⟩ = some (.int .i64 x.kind) ∧ V.cell? ⟨w2.heap.size, 1, none⟩ = some (.string x.data) ∧ V.cell? ⟨w2.heap.size, 2, none⟩ = some (.slice hy.A x.ptrs.length hy.a) ∧ V.cell? ⟨w2.heap.size, 3, none⟩ = some (.int .i64 x.size) ∧ V.cell? ⟨w2.heap.size, 4, none⟩ = some (.int .i64 x.count) ∧ V.cell? ⟨w2.heap.size, 5, none⟩ = some (.slice hy.B x.items.length hy.b)) ∧ Below W4.heap.size W4 V)) (by kernel_rfl) ?_ (fun hH0 => ?_)
      · (first | exact ⟨⟨a0, a1, a2, a3, a4, a5⟩, ⟨b0, b1, b2, b3, b4, b5⟩, HSB.out.drew⟩ | (obtain ⟨⟨s0, s1, s2, s3, s4, s5⟩, ⟨t0, t1, t2, t3, t4, t5⟩, sb⟩ := ‹(_ ∧ _) ∧ (_ ∧ _) ∧ Below W4.heap.size W4 _›; exact ⟨⟨kc hbq s0, kc hbq s1, kc hbq s2, kc hbq s3, kc hbq s4, kc hbq s5⟩, ⟨kc hbq t0, kc hbq t1, kc hbq t2, kc hbq t3, kc hbq t4, kc hbq t5⟩, sb.trans (hbq.mono sb.size)⟩))
      refine wpAnyH_take (i := 0) (v := ?v26) rfl (by kernel_rfl) (by kernel_rfl) (by kernel_rfl) (fun _ _ _ h => h) (Or.inl ⟨by rfl, ?hy26⟩) (by assumption) ?rest26
      case hy26 =>
        intro w hSw
        (try dsimp only at hSw)
        go_simp
        with_reducible rfl
      try simp only [List.getElem_toArray, List.getElem_cons_succ, List.getElem_cons_zero, Act.put, List.setIfInBounds_toArray, List.set_cons_zero, List.set_cons_succ]
      refine wpAnyH_take (i := 1) (v := ?v27) rfl (by kernel_rfl) (by kernel_rfl) (by kernel_rfl) (fun _ _ _ h => h) (Or.inl ⟨by rfl, ?hy27⟩) (by assumption) ?rest27
      case hy27 =>
        intro w hSw
        (try dsimp only at hSw)
        go_simp
        with_reducible rfl
      try simp only [List.getElem_toArray, List.getElem_cons_succ, List.getElem_cons_zero, Act.put, List.setIfInBounds_toArray, List.set_cons_zero, List.set_cons_succ]
      refine wpAnyH_ready (rs := [2]) (by kernel_rfl) (by simp) ?_
      refine AllReadyH.cons rfl (fun K hK => ?_) AllReadyH.nil
      go_simp
      (go_at_call 10; (with_reducible refine (HSC.out _ (by have hh := ‹(_ ∧ _) ∧ (_ ∧ _) ∧ Below W4.heap.size W4 _›; exact hh.2.2)).mono ?_); rintro e wq ⟨hz, bz, rfl, hownz, hndz, hgez, hbq⟩)
      go_wp2_with fail
      refine hK.out _ _ ?_ (fun hH1 => ?_)
      · (first | exact ⟨⟨a0, a1, a2, a3, a4, a5⟩, ⟨b0, b1, b2, b3, b4, b5⟩, HSB.out.drew⟩ | (obtain ⟨⟨s0, s1, s2, s3, s4, s5⟩, ⟨t0, t1, t2, t3, t4, t5⟩, sb⟩ := ‹(_ ∧ _) ∧ (_ ∧ _) ∧ Below W4.heap.size W4 _›; exact ⟨⟨kc hbq s0, kc hbq s1, kc hbq s2, kc hbq s3, kc hbq s4, kc hbq s5⟩, ⟨kc hbq t0, kc hbq t1, kc hbq t2, kc hbq t3, kc hbq t4, kc hbq t5⟩, sb.trans (hbq.mono sb.size)⟩))
      clear hK K hH0
      try simp only [List.getElem_toArray, List.getElem_cons_succ, List.getElem_cons_zero, Act.put, List.setIfInBounds_toArray, List.set_cons_zero, List.set_cons_succ]
      refine wpAnyH_ready (rs := [3]) (by kernel_rfl) (by simp) ?_
      refine AllReadyH.cons rfl (fun K hK => ?_) AllReadyH.nil
      go_simp
      (go_at_call 9; (with_reducible refine (HQ.out _ (by have hh := ‹(_ ∧ _) ∧ (_ ∧ _) ∧ Below W4.heap.size W4 _›; exact hh.2.2) hz _ hownz.nd).mono ?_); rintro e wq ⟨rfl, hbq⟩)
      go_wp2_with fail
      refine hK.out _ _ ?_ (fun hH2 => ?_)
      · (first | exact ⟨⟨a0, a1, a2, a3, a4, a5⟩, ⟨b0, b1, b2, b3, b4, b5⟩, HSB.out.drew⟩ | (obtain ⟨⟨s0, s1, s2, s3, s4, s5⟩, ⟨t0, t1, t2, t3, t4, t5⟩, sb⟩ := ‹(_ ∧ _) ∧ (_ ∧ _) ∧ Below W4.heap.size W4 _›; exact ⟨⟨kc hbq s0, kc hbq s1, kc hbq s2, kc hbq s3, kc hbq s4, kc hbq s5⟩, ⟨kc hbq t0, kc hbq t1, kc hbq t2, kc hbq t3, kc hbq t4, kc hbq t5⟩, sb.trans (hbq.mono sb.size)⟩))
      clear hK K hH1
      try simp only [List.getElem_toArray, List.getElem_cons_succ, List.getElem_cons_zero, Act.put, List.setIfInBounds_toArray, List.set_cons_zero, List.set_cons_succ]
      refine wpAnyH_take (i := 4) (v := ?v38) rfl (by kernel_rfl) (by kernel_rfl) (by kernel_rfl) (fun _ _ _ h => h) (Or.inl ⟨by rfl, ?hy38⟩) (by assumption) ?rest38
      case hy38 =>
        intro w hSw
        (try dsimp only at hSw)
        go_simp
        with_reducible rfl
      try simp only [List.getElem_toArray, List.getElem_cons_succ, List.getElem_cons_zero, Act.put, List.setIfInBounds_toArray, List.set_cons_zero, List.set_cons_succ]
      refine wpAnyH_take (i := 5) (v := ?v39) rfl (by kernel_rfl) (by kernel_rfl) (by kernel_rfl) (fun _ _ _ h => h) (Or.inl ⟨by rfl, ?hy39⟩) (by assumption) ?rest39
      case hy39 =>
        intro w hSw
        (try dsimp only at hSw)
        go_simp
        with_reducible rfl
      try simp only [List.getElem_toArray, List.getElem_cons_succ, List.getElem_cons_zero, Act.put, List.setIfInBounds_toArray, List.set_cons_zero, List.set_cons_succ]
      refine wpAnyH_take (i := 6) (v := ?v40) rfl (by kernel_rfl) (by kernel_rfl) (by kernel_rfl) (fun _ _ _ h => h) (Or.inl ⟨by rfl, ?hy40⟩) (by assumption) ?rest40
      case hy40 =>
        intro w hSw
        (try dsimp only at hSw)
        go_simp
        with_reducible rfl
      try simp only [List.getElem_toArray, List.getElem_cons_succ, List.getElem_cons_zero, Act.put, List.setIfInBounds_toArray, List.set_cons_zero, List.set_cons_succ]
      refine wpAnyH_take (i := 7) (v := ?v41) rfl (by kernel_rfl) (by kernel_rfl) (by kernel_rfl) (fun _ _ _ h => h) (Or.inl ⟨by rfl, ?hy41⟩) (by assumption) ?rest41
      case hy41 =>
        intro w hSw
        (try dsimp only at hSw)
        go_simp
        with_reducible rfl
      try simp only [List.getElem_toArray, List.getElem_cons_succ, List.getElem_cons_zero, Act.put, List.setIfInBounds_toArray, List.set_cons_zero, List.set_cons_succ]
      refine wpAnyH_take (i := 8) (v := ?v42) rfl (by kernel_rfl) (by kernel_rfl) (by kernel_rfl) (fun _ _ _ h => h) (Or.inl ⟨by rfl, ?hy42⟩) (by assumption) ?rest42
      case hy42 =>
        intro w hSw
        (try dsimp only at hSw)
        go_simp
        with_reducible rfl
      try simp only [List.getElem_toArray, List.getElem_cons_succ, List.getElem_cons_zero, Act.put, List.setIfInBounds_toArray, List.set_cons_zero, List.set_cons_succ]
      refine wpAnyH_take (i := 9) (v := ?v43) rfl (by kernel_rfl) (by kernel_rfl) (by kernel_rfl) (fun _ _ _ h => h) (Or.inl ⟨by rfl, ?hy43⟩) (by assumption) ?rest43
      case hy43 =>
        intro w hSw
        (try dsimp only at hSw)
        go_simp
        with_reducible rfl
      try simp only [List.getElem_toArray, List.getElem_cons_succ, List.getElem_cons_zero, Act.put, List.setIfInBounds_toArray, List.set_cons_zero, List.set_cons_succ]
      refine wpAnyH_take (i := 10) (v := ?v44) rfl (by kernel_rfl) (by kernel_rfl) (by kernel_rfl) (fun _ _ _ h => h) (Or.inl ⟨by rfl, ?hy44⟩) (by assumption) ?rest44
      case hy44 =>
        intro w hSw
        (try dsimp only at hSw)
        go_simp
        with_reducible rfl
      try simp only [List.getElem_toArray, List.getElem_cons_succ, List.getElem_cons_zero, Act.put, List.setIfInBounds_toArray, List.set_cons_zero, List.set_cons_succ]
      refine wpAnyH_take (i := 11) (v := undef) rfl (by kernel_rfl) (by kernel_rfl) (by kernel_rfl) (fun _ _ _ h => h) (Or.inr ⟨by kernel_rfl, rfl⟩) (by assumption) ?_
      try simp only [List.getElem_toArray, List.getElem_cons_succ, List.getElem_cons_zero, Act.put, List.setIfInBounds_toArray, List.set_cons_zero, List.set_cons_succ]
      refine wpAnyH_take (i := 12) (v := undef) rfl (by kernel_rfl) (by kernel_rfl) (by kernel_rfl) (fun _ _ _ h => h) (Or.inr ⟨by kernel_rfl, rfl⟩) (by assumption) ?_
      try simp only [List.getElem_toArray, List.getElem_cons_succ, List.getElem_cons_zero, Act.put, List.setIfInBounds_toArray, List.set_cons_zero, List.set_cons_succ]
      refine wpAnyH_take (i := 13) (v := undef) rfl (by kernel_rfl) (by kernel_rfl) (by kernel_rfl) (fun _ _ _ h => h) (Or.inr ⟨by kernel_rfl, rfl⟩) (by assumption) ?_
      try simp only [List.getElem_toArray, List.getElem_cons_succ, List.getElem_cons_zero, Act.put, List.setIfInBounds_toArray, List.set_cons_zero, List.set_cons_succ]
      refine wpAnyH_take (i := 14) (v := ?v45) rfl (by kernel_rfl) (by kernel_rfl) (by kernel_rfl) (fun _ _ _ h => h) (Or.inl ⟨by rfl, ?hy45⟩) (by assumption) ?rest45
      case hy45 =>
        intro w hSw
        (try dsimp only at hSw)
        go_simp
        with_reducible rfl
      try simp only [List.getElem_toArray, List.getElem_cons_succ, List.getElem_cons_zero, Act.put, List.setIfInBounds_toArray, List.set_cons_zero, List.set_cons_succ]
      refine wpAnyH_take (i := 15) (v := ?v46) rfl (by kernel_rfl) (by kernel_rfl) (by kernel_rfl) (fun _ _ _ h => h) (Or.inl ⟨by rfl, ?hy46⟩) (by assumption) ?rest46
      case hy46 =>
        intro w hSw
        (try dsimp only at hSw)
        go_simp
        with_reducible rfl
      try simp only [List.getElem_toArray, List.getElem_cons_succ, List.getElem_cons_zero, Act.put, List.setIfInBounds_toArray, List.set_cons_zero, List.set_cons_succ]
      refine wpAnyH_take (i := 16) (v := undef) rfl (by kernel_rfl) (by kernel_rfl) (by kernel_rfl) (fun _ _ _ h => h) (Or.inr ⟨by kernel_rfl, rfl⟩) (by assumption) ?_
      try simp only [List.getElem_toArray, List.getElem_cons_succ, List.getElem_cons_zero, Act.put, List.setIfInBounds_toArray, List.set_cons_zero, List.set_cons_succ]
      refine wpAnyH_take (i := 17) (v := undef) rfl (by kernel_rfl) (by kernel_rfl) (by kernel_rfl) (fun _ _ _ h => h) (Or.inr ⟨by kernel_rfl, rfl⟩) (by assumption) ?_
      try simp only [List.getElem_toArray, List.getElem_cons_succ, List.getElem_cons_zero, Act.put, List.setIfInBounds_toArray, List.set_cons_zero, List.set_cons_succ]
      refine wpAnyH_take (i := 18) (v := undef) rfl (by kernel_rfl) (by kernel_rfl) (by kernel_rfl) (fun _ _ _ h => h) (Or.inr ⟨by kernel_rfl, rfl⟩) (by assumption) ?_
      try simp only [List.getElem_toArray, List.getElem_cons_succ, List.getElem_cons_zero, Act.put, List.setIfInBounds_toArray, List.set_cons_zero, List.set_cons_succ]
      refine wpAnyH_take (i := 19) (v := undef) rfl (by kernel_rfl) (by kernel_rfl) (by kernel_rfl) (fun _ _ _ h => h) (Or.inr ⟨by kernel_rfl, rfl⟩) (by assumption) ?_
      try simp only [List.getElem_toArray, List.getElem_cons_succ, List.getElem_cons_zero, Act.put, List.setIfInBounds_toArray, List.set_cons_zero, List.set_cons_succ]
      refine wpAnyH_take (i := 20) (v := ?v47) rfl (by kernel_rfl) (by kernel_rfl) (by kernel_rfl) (fun _ _ _ h => h) (Or.inl ⟨by rfl, ?hy47⟩) (by assumption) ?rest47
      case hy47 =>
        intro w hSw
        (try dsimp only at hSw)
        go_simp
        with_reducible rfl
      try simp only [List.getElem_toArray, List.getElem_cons_succ, List.getElem_cons_zero, Act.put, List.setIfInBounds_toArray, List.set_cons_zero, List.set_cons_succ]
      refine wpAnyH_done (by kernel_rfl) ?_ _

      have hS := ‹(_ ∧ _) ∧ (_ ∧ _) ∧ Below W4.heap.size W4 _›
      clear a0 a1 a2 a3 a4 a5 b0 b1 b2 b3 b4 b5 HSB hownz hndz hgez hbq
      obtain ⟨⟨a0, a1, a2, a3, a4, a5⟩, ⟨b0, b1, b2, b3, b4, b5⟩, hsb⟩ := hS
      have HSB := Lib.hid hsb
      clear hsb
      go_wp2_with fail
      go_region_held3 (fun V => (V.cell? ⟨w1.heap.size, 0, none⟩ = some (.int .i64 n.kind) ∧ V.cell? ⟨w1.heap.size, 1, none⟩ = some (.string n.data) ∧ V.cell? ⟨w1.heap.size, 2, none⟩ = some (.slice h1.A n.ptrs.length h1.a) ∧ V.cell? ⟨w1.heap.size, 3, none⟩ = some (.int .i64 n.size) ∧ V.cell? ⟨w1.heap.size, 4, none⟩ = some (.int .i64 n.count) ∧ V.cell? ⟨w1.heap.size, 5, none⟩ = some (.slice h1.B n.items.length h1.b)) ∧ (V.cell? ⟨w2.heap.size, 0, none⟩ = some (.int .i64 x.kind) ∧ V.cell? ⟨w2.heap.size, 1, none⟩ = some (.string x.data) ∧ V.cell? ⟨w2.heap.size, 2, none⟩ = some (.slice hy.A x.ptrs.length hy.a) ∧ V.cell? ⟨w2.heap.size, 3, none⟩ = some (.int .i64 x.size) ∧ V.cell? ⟨w2.heap.size, 4, none⟩ = some (.int .i64 x.count) ∧ V.cell? ⟨w2.heap.size, 5, none⟩ = some (.slice hy.B x.items.length hy.b)) ∧ Below W4.heap.size W4 V) ((first | exact ⟨⟨a0, a1, a2, a3, a4, a5⟩, ⟨b0, b1, b2, b3, b4, b5⟩, HSB.out.drew⟩ | (obtain ⟨⟨s0, s1, s2, s3, s4, s5⟩, ⟨t0, t1, t2, t3, t4, t5⟩, sb⟩ := ‹(_ ∧ _) ∧ (_ ∧ _) ∧ Below W4.heap.size W4 _›; exact ⟨⟨kc hbq s0, kc hbq s1, kc hbq s2, kc hbq s3, kc hbq s4, kc hbq s5⟩, ⟨kc hbq t0, kc hbq t1, kc hbq t2, kc hbq t3, kc hbq t4, kc hbq t5⟩, sb.trans (hbq.mono sb.size)⟩))) (first | (go_at_call 10; (with_reducible refine (HSC.out _ (by have hh := ‹(_ ∧ _) ∧ (_ ∧ _) ∧ Below W4.heap.size W4 _›; exact hh.2.2)).mono ?_); rintro e wq ⟨hz, bz, rfl, hownz, hndz, hgez, hbq⟩) | (go_at_call 9; (with_reducible refine (HQ.out _ (by have hh := ‹(_ ∧ _) ∧ (_ ∧ _) ∧ Below W4.heap.size W4 _›; exact hh.2.2) hz _ hownz.nd).mono ?_); rintro e wq ⟨rfl, hbq⟩))
      all_goals
        have hS := ‹(_ ∧ _) ∧ (_ ∧ _) ∧ Below W4.heap.size W4 _›
        have HFIN := Lib.hid (HB4.out.trans (hS.2.2.mono HB4.out.size))
        clear hS a0 a1 a2 a3 a4 a5 b0 b1 b2 b3 b4 b5
        go_wp2
        go_ret
        exact ⟨rfl, HFIN.out⟩

end Go.Proofs.Ytfiiopchfmcjdaa
