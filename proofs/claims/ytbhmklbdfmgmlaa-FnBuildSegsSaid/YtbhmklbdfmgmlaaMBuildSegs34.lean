/- Texts of the proof of the law FnBuildSegs, side by side: part 34. -/
import Derived.Test.YtbhmklbdfmgmlaaMBuildSegs00
import Derived.Test.YtbhmklbdfmgmlaaMBuildSegs01
import Derived.Test.YtbhmklbdfmgmlaaMBuildSegs02
import Derived.Test.YtbhmklbdfmgmlaaMBuildSegs03
import Derived.Test.YtbhmklbdfmgmlaaMBuildSegs04
import Derived.Test.YtbhmklbdfmgmlaaMBuildSegs05
import Derived.Test.YtbhmklbdfmgmlaaMBuildSegs06
import Derived.Test.YtbhmklbdfmgmlaaMBuildSegs07
import Derived.Test.YtbhmklbdfmgmlaaMBuildSegs08
import Derived.Test.YtbhmklbdfmgmlaaMBuildSegs09
import Derived.Test.YtbhmklbdfmgmlaaMBuildSegs10
import Derived.Test.YtbhmklbdfmgmlaaMBuildSegs11
import Derived.Test.YtbhmklbdfmgmlaaMBuildSegs12
import Derived.Test.YtbhmklbdfmgmlaaMBuildSegs13
import Derived.Test.YtbhmklbdfmgmlaaMBuildSegs14
import Derived.Test.YtbhmklbdfmgmlaaMBuildSegs15
import Derived.Test.YtbhmklbdfmgmlaaMBuildSegs16
import Derived.Test.YtbhmklbdfmgmlaaMBuildSegs17
import Derived.Test.YtbhmklbdfmgmlaaMBuildSegs18
import Derived.Test.YtbhmklbdfmgmlaaMBuildSegs19
import Derived.Test.YtbhmklbdfmgmlaaMBuildSegs20
import Derived.Test.YtbhmklbdfmgmlaaMBuildSegs21
import Derived.Test.YtbhmklbdfmgmlaaMBuildSegs22
import Derived.Test.YtbhmklbdfmgmlaaMBuildSegs23
import Derived.Test.YtbhmklbdfmgmlaaMBuildSegs24
import Derived.Test.YtbhmklbdfmgmlaaMBuildSegs25
import Derived.Test.YtbhmklbdfmgmlaaMBuildSegs26
import Derived.Test.YtbhmklbdfmgmlaaMBuildSegs27
import Derived.Test.YtbhmklbdfmgmlaaMBuildSegs28
import Derived.Test.YtbhmklbdfmgmlaaMBuildSegs29
import Derived.Test.YtbhmklbdfmgmlaaMBuildSegs30
import Derived.Test.YtbhmklbdfmgmlaaMBuildSegs31
import Derived.Test.YtbhmklbdfmgmlaaMBuildSegs32
import Derived.Test.YtbhmklbdfmgmlaaMBuildSegs33
/- The specification's draws for the laws of what is built: a node and a size. -/
namespace Go.Proofs.Ytbhmklbdfmgmlaa
open Go.RowKit
/-- some node and some size. -/
def DrawNZ (w : World) (e : Ending) (w' : World) : Prop := ∃ (n : Nd) (h : Hd) (z : Int), e = .returned (.tuple #[.agg #[.int .i64 n.kind, .string n.data, .slice h.A n.ptrs.length h.a, .int .i64 n.size, .int .i64 n.count, .slice h.B n.items.length h.b], .int .i64 z]) ∧ (0 ≤ z ∧ z ≤ 201) ∧ NdAt w' (From w.heap.size) 18 n h ∧ totN 18 n ≤ 300000 ∧ Below w.heap.size w w'
set_option maxHeartbeats 4000000 in
theorem drawBuild_any (a : Option Addr) (len cap : Nat) (w : World) (h : Arg w a len cap) :
    Calls Try.prog 22 #[.slice a len cap] w (DrawNZ w) := by
  go_enter Try.func22, Try.ntmps22
  go_wp2_with fail
  refine (l1Open_any a len cap _ (code_alloc h.1 _) h.2.1 h.2.2).mono ?_
  rintro e w1 ⟨R, rfl, hR, hrd, hb1⟩
  have hz1 := (hb1.block w.heap.size (by simp)).trans (heap_alloc_new w (.cells #[.int .i64 0, .string { data := #[] }, .slice none 0 0, .int .i64 0, .int .i64 0, .slice none 0 0] nodeT))
  go_wp2_with fail
  refine (l13AnyNode_any R 0 _ hrd (by omega)).mono ?_
  rintro e w2 ⟨n, hh, rfl, hn, ht, hp2⟩
  have hR' : w.heap.size + 1 ≤ R := by simpa using hR
  have hs1 : w.heap.size + 1 ≤ w1.heap.size := by simpa using hb1.size
  have hb0 : Below w.heap.size w w1 := ((Below.refl w.heap.size w).alloc (Nat.le_refl _) (.cells #[.int .i64 0, .string { data := #[] }, .slice none 0 0, .int .i64 0, .int .i64 0, .slice none 0 0] nodeT)).trans (hb1.mono (by simp))
  go_wp2_with fail
  refine (one_any R (0 + 13000) w2.heap.size 9 9 (fun z => 0 ≤ z ∧ z ≤ 201) _ _ (by exact hp2.1.below ((Below.refl _ _).alloc (Nat.le_refl _) _)) (by omega) (by exact Lits.new _ _ _ _) (by
    intro v hv
    simp at hv
    rcases hv with rfl | rfl | rfl | rfl | rfl | rfl | rfl | rfl | rfl
    all_goals exact ⟨_, rfl, by omega⟩) (by have := hp2.1.lt; omega) (by simp) (by omega) (by omega)).mono ?_
  rintro e w3 ⟨zz, ⟨zz0, zz1⟩, rfl, hp3⟩
  have hRl := hrd.lt
  have hbA := (Below.refl w2.heap.size w2).alloc (Nat.le_refl _) (.cells #[.int .i64 1, .int .i64 2, .int .i64 4, .int .i64 8, .int .i64 12, .int .i64 20, .int .i64 200, .int .i64 0, .int .i64 201] 3)
  have hn := hn.picked (Picked.from hbA hp3) (by omega)
  have hp2 := (hp2.below hbA).then hp3
  have hb2 := opened_below (by omega) hb0 hp2
  have hz2 := pick_rowN hz1 hp2 (by omega)
  have hn2 := hn.plain.from_ hs1
  obtain ⟨z0, z1, z2, z3, z4, z5⟩ := cells6 hz2
  have zf := row_free hz2
  clear hb1 hp2 hb0 hz1 hrd
  go_wp2_with fail
  obtain ⟨wf, hwf, hrw, hnf, hbf⟩ := draw_fin hz2 hn2 hb2
  rw [hwf]
  obtain ⟨e0, e1, e2, e3, e4, e5⟩ := cells6 hrw
  exact bodyPost_ret (v := .tuple #[.agg #[.int .i64 n.kind, .string n.data, .slice hh.A n.ptrs.length hh.a, .int .i64 n.size, .int .i64 n.count, .slice hh.B n.items.length hh.b], .int .i64 zz]) (by simp [results, Try.results22, go_sem, e0, e1, e2, e3, e4, e5]) rfl ⟨n, hh, zz, rfl, ⟨zz0, zz1⟩, hnf, ht.1, hbf⟩
end Go.Proofs.Ytbhmklbdfmgmlaa

/- The walk of the law FnBuildSegs: true at every code. -/
namespace Go.Proofs.Ytbhmklbdfmgmlaa
open Go.RowKit Go.Deep
theorem strs_own {w : World} {B : Nat} {A : Option Addr} {c : Nat} {ss : Segs} (hk : SOk LS ss) (h : w.ownsRow B stT 1 (.slice A ss.length c) ss.length (ss.map strS)) : Strs w A (txS ss) := by
  obtain ⟨g, cap, cur, hv, -⟩ := own_cases h hk.one
  injection hv with e1 e2 e3
  subst e1
  exact strs_txS hk (h.lt g rfl).2 (fun i hi => by
    have := h.cells (g := g) rfl i (strS (sgS ss i)) (by rw [List.getElem?_map, List.getElem?_eq_getElem hi, sg_eq hi]; rfl)
    rwa [add_zero0] at this)
set_option maxHeartbeats 4000000 in
set_option maxRecDepth 100000 in
theorem walkBuildSegs (w : World) (a : Option Addr) (len cap : Nat) (h : Arg w a len cap) :
    Calls Try.prog 6 #[.slice a len cap] w fun e w' => e = .returned (.bool true) ∧ Below w.heap.size w w' := by
  have hlen := h.1.1
  unfold maxLen at hlen
  by_cases hbig : 1048576 < len
  · go_enter Try.func6, Try.ntmps6
    go_wp2
    go_ret
    exact ⟨rfl, Below.refl _ _⟩
  have HD := Lib.hid (drawBuild_any a len cap w h)
  clear h
  go_enter Try.func6, Try.ntmps6
  go_wp2_with fail
  refine HD.out.mono ?_
  rintro e w1 ⟨n, h1, z, rfl, ⟨z0, z1⟩, hn1, ht1, hb1⟩
  have hb2 := (Below.refl w1.heap.size w1).alloc (Nat.le_refl _) (.cells #[.int .i64 n.kind, .string n.data, .slice h1.A n.ptrs.length h1.a, .int .i64 n.size, .int .i64 n.count, .slice h1.B n.items.length h1.b] nodeT)
  have HR2 := Lib.hid (heap_alloc_new w1 (.cells #[.int .i64 n.kind, .string n.data, .slice h1.A n.ptrs.length h1.a, .int .i64 n.size, .int .i64 n.count, .slice h1.B n.items.length h1.b] nodeT))
  have HB2 := Lib.hid (hb1.trans (hb2.mono hb1.size))
  have HN2 := Lib.hid ((hn1.weak (S' := Any) (fun _ _ => trivial)).below hb2)
  have HT : Hid (totN 18 n ≤ 2000000) := Lib.hid (by omega)
  clear hb1 hn1 ht1 hb2
  have HLT := Lib.hid (show w1.heap.size < (w1.alloc (.cells #[.int .i64 n.kind, .string n.data, .slice h1.A n.ptrs.length h1.a, .int .i64 n.size, .int .i64 n.count, .slice h1.B n.items.length h1.b] nodeT)).heap.size by simp)
  go_wp2_with fail
  generalize w1.alloc (.cells #[.int .i64 n.kind, .string n.data, .slice h1.A n.ptrs.length h1.a, .int .i64 n.size, .int .i64 n.count, .slice h1.B n.items.length h1.b] nodeT) = W2 at *
  have HI : Hid (∀ W : World, Below W2.heap.size W2 W → Calls Try.prog 10 #[.agg #[.int .i64 n.kind, .string n.data, .slice h1.A n.ptrs.length h1.a, .int .i64 n.size, .int .i64 n.count, .slice h1.B n.items.length h1.b], .int .i64 z] W (BuildQ (bldV n z) W)) := Lib.hid fun W hW => implBuild_a 18 n h1 W Any z (HN2.out.below hW) HT.out
  have HS : Hid (∀ W : World, Below W2.heap.size W2 W → Calls Try.prog 8 #[.agg #[.int .i64 n.kind, .string n.data, .slice h1.A n.ptrs.length h1.a, .int .i64 n.size, .int .i64 n.count, .slice h1.B n.items.length h1.b], .int .i64 z] W (BuildSQ (bldV n z) W)) := Lib.hid fun W hW => specBuild_a 18 n h1 W Any z (HN2.out.below hW) HT.out
  have HW : Hid (∀ W : World, Below W2.heap.size W2 W → Calls Try.prog 19 #[.agg #[.int .i64 n.kind, .string n.data, .slice h1.A n.ptrs.length h1.a, .int .i64 n.size, .int .i64 n.count, .slice h1.B n.items.length h1.b]] W fun e w' => e = .returned (.int .i64 (nodeWords n : Nat)) ∧ Below W.heap.size W w') := Lib.hid fun W hW => implNodeWords_a 18 n h1 W Any (HN2.out.below hW) HT.out
  have HF : Hid (∀ ss, bldV n z = some ss → _) := Lib.hid (fun ss h => bld_facts (ss := ss) h)
  generalize bldV n z = r at *
  generalize nodeWords n = nw at *
  refine (HI.out _ (Below.refl _ _)).mono ?_
  rintro e w3 (⟨rfl, rfl, hb3⟩ | ⟨ss, A, c, rfl, rfl, ho3, hb3⟩)
  · have HX3 := Lib.hid hb3
    obtain ⟨a0, a1, a2, a3, a4, a5⟩ := cells6 ((hb3.block _ HLT.out).trans HR2.out)
    clear hb3
    go_wp2_with fail
    refine (HS.out _ HX3.out).mono ?_
    rintro e w4 (⟨-, B, d, rfl, hb4⟩ | ⟨ss, B, d, h9, -⟩)
    · have HX4 := Lib.hid (HX3.out.trans (hb4.mono HX3.out.size))
      have HQ := Lib.hid (fun (W : World) => qnTexts_same none B 0 d [] W (Strs.nil _ _) (Strs.nil _ _) (by decide))
      rw [show ([] : List ByteArray).length = 0 from rfl] at HQ
      clear hb4 a0 a1 a2 a3 a4 a5
      go_wp2_with fail
      refine (HQ.out _).mono ?_
      rintro e w5 ⟨rfl, hb5⟩
      have HX5 := Lib.hid (HX4.out.trans (hb5.mono HX4.out.size))
      clear hb5
      go_wp2_with fail
      refine (HQ.out _).mono ?_
      rintro e w6 ⟨rfl, hb6⟩
      have HX6 := Lib.hid (HX5.out.trans (hb6.mono HX5.out.size))
      clear hb6
      go_wp2
      go_ret
      exact ⟨rfl, HB2.out.trans (HX6.out.mono HB2.out.size)⟩
    · cases h9
  · have HX3 := Lib.hid hb3
    have HO3 := Lib.hid ho3
    obtain ⟨f1, f2, f3, f4, f5, f6, f7, f8⟩ := HF.out ss rfl
    obtain ⟨a0, a1, a2, a3, a4, a5⟩ := cells6 ((hb3.block _ HLT.out).trans HR2.out)
    clear hb3 ho3
    go_wp2_with fail
    refine (HS.out _ HX3.out).mono ?_
    rintro e w4 (⟨h9, -⟩ | ⟨s2, B, d, hs, hk, rfl, ho4, hb4⟩)
    · cases h9
    · obtain rfl : ss = s2 := Option.some.inj hs
      have HX4 := Lib.hid (HX3.out.trans (hb4.mono HX3.out.size))
      have HK := Lib.hid hk
      have HSA := Lib.hid (strs_own hk (own_keepB HO3.out (fun k hkk => hb4.block k (HO3.out.lt k hkk).2)))
      have HSB := Lib.hid (strs_own hk ho4)
      have HQ := Lib.hid (qnTexts_same A B c d (txS ss) w4 HSA.out HSB.out (by rw [txS_length]; omega))
      rw [txS_length] at HQ
      clear hb4 ho4 hs a0 a1 a2 a3 a4 a5 HO3
      go_wp2_with fail
      refine HQ.out.mono ?_
      rintro e w5 ⟨rfl, hb5⟩
      have HX5 := Lib.hid (HX4.out.trans (hb5.mono HX4.out.size))
      have HS5 := Lib.hid (HSA.out.below hb5)
      obtain ⟨a0, a1, a2, a3, a4, a5⟩ := cells6 ((HX5.out.block _ HLT.out).trans HR2.out)
      clear hb5
      go_wp2_with fail
      refine (HW.out _ HX5.out).mono ?_
      rintro e w6 ⟨rfl, hb6⟩
      have HX6 := Lib.hid (HX5.out.trans (hb6.mono HX5.out.size))
      have HS6 := Lib.hid (HS5.out.below hb6)
      have hw1 : IntKind.i64.wrap ((nw : Int) + 1) = (nw : Int) + 1 := by rw [IntKind.wrap_i64]; omega
      have hw2 : IntKind.i64.wrap ((nw : Int) + 1 + ((nw : Int) + 1)) = (nw : Int) + 1 + ((nw : Int) + 1) := by rw [IntKind.wrap_i64]; omega
      clear hb6 a0 a1 a2 a3 a4 a5
      go_wp2_with fail
      go_loopw [10, 11] (fun s i wr => ∃ k : Nat, i = .int .i64 k ∧ s = .int .i64 (totS (ss.take k) : Nat) ∧ k ≤ ss.length ∧ Hid (Below w6.heap.size w6 wr)) (fun _ i _ => ss.length - (intOf i).toNat)
      case atStart => exact ⟨0, rfl, rfl, by omega, Lib.hid (Below.refl _ _)⟩
      case round =>
        obtain ⟨k, rfl, rfl, hkk, HZ⟩ := hrel
        have HXZ := Lib.hid (HX6.out.trans (HZ.out.mono HX6.out.size))
        by_cases hlt : k < ss.length
        · obtain ⟨ad, hA, hal, hc⟩ := (HS6.out.below HZ.out).2.resolve_left (fun e => by have h0 := txS_length ss; rw [e] at h0; have h00 : 0 = ss.length := h0; omega)
          obtain rfl := hA
          have hck := hc k (by rw [txS_length]; exact hlt)
          obtain ⟨s, hs⟩ : ∃ s, (txS ss)[k]'(by rw [txS_length]; exact hlt) = s := ⟨_, rfl⟩
          have hsz : (s.size : Int) / 8 = (wn ss[k] : Nat) := by
            have e : s = ⟨(ss[k]).toArray⟩ := by rw [← hs]; simp [txS]
            rw [e]; unfold wn
            have : (⟨(ss[k]).toArray⟩ : ByteArray).size = (ss[k]).length := by simp [ByteArray.size]
            rw [this]; omega
          rw [hs] at hck
          have hst : totS (ss.take (k + 1)) = totS (ss.take k) + wn ss[k] := by unfold totS; rw [List.take_succ_eq_append_getElem hlt, List.map_append, List.sum_append]; simp
          have hle : totS (ss.take (k + 1)) ≤ 200 := Nat.le_trans (by
            have : totS (ss.take (k + 1)) + totS (ss.drop (k + 1)) = totS ss := by unfold totS; rw [← List.sum_append, ← List.map_append, List.take_append_drop]
            omega) f3
          have HST := Lib.hid hst
          generalize wn ss[k] = q at *
          generalize totS (ss.take k) = T at *
          have hw3 : IntKind.i64.wrap (q : Int) = (q : Int) := by rw [IntKind.wrap_i64]; omega
          have hw4 : IntKind.i64.wrap ((T : Int) + (q : Int)) = (T : Int) + (q : Int) := by rw [IntKind.wrap_i64]; omega
          have hki : (k : Int) < (ss.length : Int) := by omega
          clear hs hc hal hst
          go_wp2
          go_roundw
          case rel => exact ⟨k + 1, by go_num, by rw [HST.out]; go_num, by omega, HZ⟩
          case measure => simp [intOf]; omega
        · obtain rfl : k = ss.length := by omega
          rw [List.take_of_length_le (Nat.le_refl _)]
          have HFIN := Lib.hid (HB2.out.trans (HXZ.out.mono HB2.out.size))
          clear HK HF HSA HSB HQ HS5 HS6
          generalize totS ss = T at *
          generalize ss.length = L at *
          have d1 : decide ((nw : Int) + 1 ≤ (T : Int)) = true := decide_eq_true (by omega)
          have d2 : decide ((T : Int) ≤ (nw : Int) + 1 + ((nw : Int) + 1)) = true := decide_eq_true (by omega)
          have d1' : (nw : Int) + 1 ≤ (T : Int) := by omega
          have d2' : (T : Int) ≤ (nw : Int) + 1 + ((nw : Int) + 1) := by omega
          by_cases q1 : z < (nw : Int) + 1
          · have d3 : decide (z < (nw : Int) + 1) = true := decide_eq_true q1
            by_cases q2 : 1 < L
            · have d4 : decide ((1 : Int) < (L : Int)) = true := decide_eq_true (by omega)
              go_wp2
              go_ret
              exact ⟨rfl, HFIN.out⟩
            · have d4 : decide ((1 : Int) < (L : Int)) = false := decide_eq_false (by omega)
              have d5 : ((T : Int) == (nw : Int) + 1) = true := by simp; omega
              go_wp2
              go_ret
              exact ⟨rfl, HFIN.out⟩
          · have d3 : decide (z < (nw : Int) + 1) = false := decide_eq_false q1
            have d6 : ((L : Int) == 1) = true := by simp; omega
            have d4 : decide ((1 : Int) < (L : Int)) = false := decide_eq_false (by omega)
            have d5 : ((T : Int) == (nw : Int) + 1) = true := by simp; omega
            go_wp2
            go_ret
            exact ⟨rfl, HFIN.out⟩
end Go.Proofs.Ytbhmklbdfmgmlaa
