/- Texts of the proof of the law FnBuildSegs, side by side: part 21. -/
import Derived.Defers
import Derived.Recover
import Derived.Laws.Pointers
import Derived.Test.YtbhmklbdfmgmlaaMBuildSegs00
import Derived.Test.YtbhmklbdfmgmlaaMBuildSegs01
import Derived.Test.YtbhmklbdfmgmlaaMBuildSegs02
import Derived.Test.YtbhmklbdfmgmlaaMBuildSegs03
import Derived.Test.YtbhmklbdfmgmlaaMBuildSegs04
import Derived.Test.YtbhmklbdfmgmlaaMBuildSegs05
import Derived.Test.YtbhmklbdfmgmlaaMBuildSegs06
import Derived.Test.YtbhmklbdfmgmlaaMBuildSegs07
import Derived.Test.YtbhmklbdfmgmlaaMBuildSegs08
import Derived.Test.YtbhmklbdfmgmlaaMBuildSegs09
import Derived.Test.YtbhmklbdfmgmlaaMBuildSegs10
import Derived.Test.YtbhmklbdfmgmlaaMBuildSegs11
import Derived.Test.YtbhmklbdfmgmlaaMBuildSegs12
import Derived.Test.YtbhmklbdfmgmlaaMBuildSegs13
import Derived.Test.YtbhmklbdfmgmlaaMBuildSegs14
import Derived.Test.YtbhmklbdfmgmlaaMBuildSegs15
import Derived.Test.YtbhmklbdfmgmlaaMBuildSegs16
import Derived.Test.YtbhmklbdfmgmlaaMBuildSegs17
import Derived.Test.YtbhmklbdfmgmlaaMBuildSegs18
import Derived.Test.YtbhmklbdfmgmlaaMBuildSegs19
import Derived.Test.YtbhmklbdfmgmlaaMBuildSegs20
/- The program's builder: the texts of its segments. -/
namespace Go.Proofs.Ytbhmklbdfmgmlaa
open Go.RowKit Go.Deep
abbrev strV (s : List UInt8) : Value := .string ⟨s.toArray⟩
theorem infoStrB : (Try.prog.info? 9).map (fun i => (i.zero, i.size, i.bytes)) = some (some (.string ByteArray.empty), 1, 16) := by kernel_rfl
/-- the segments as texts in a row of one's own. -/
def TextsQ (ss : Segs) (w : World) (e : Ending) (w' : World) : Prop := ∃ A c, e = .returned (.slice A ss.length c) ∧ w'.ownsRow w.heap.size 9 1 (.slice A ss.length c) ss.length (ss.map strV) ∧ Below w.heap.size w w'
theorem chunk8 {s : List UInt8} {q : Nat} (h8 : s.length % 8 = 0) (hq : q < s.length / 8) : ∃ b0 b1 b2 b3 b4 b5 b6 b7 : UInt8, s.take (8 * (q + 1)) = s.take (8 * q) ++ [b0, b1, b2, b3, b4, b5, b6, b7] ∧ ∀ j u, [b0, b1, b2, b3, b4, b5, b6, b7][j]? = some u → s[8 * q + j]? = some u := by
  have hl : ((s.drop (8 * q)).take 8).length = 8 := by rw [List.length_take, List.length_drop]; omega
  obtain ⟨b0, b1, b2, b3, b4, b5, b6, b7, he⟩ := len8 hl
  refine ⟨b0, b1, b2, b3, b4, b5, b6, b7, ?_, fun j u h => ?_⟩
  · rw [← he, show 8 * (q + 1) = 8 * q + 8 by omega, List.take_add]
  · rw [← he] at h
    have hj : j < 8 := by
      rcases Nat.lt_or_ge j 8 with h' | h'
      · exact h'
      · rw [List.getElem?_eq_none (by omega)] at h; cases h
    rw [List.getElem?_take_of_lt hj, List.getElem?_drop] at h
    exact h
set_option maxHeartbeats 4000000 in
set_option maxRecDepth 100000 in
theorem texts_any (base b size : Nat) (ss : Segs) (P : Nat → Prop) (w : World) (h : Bun w base b size ss P) (hk : SOk 200 ss) :
    Calls Try.prog 33 #[.pointer (some ⟨b, 0, none⟩)] w (TextsQ ss w) := by
  obtain ⟨i0, hi, hz0, hz1, hz2⟩ := info_parts infoStrB
  obtain ⟨row, g, v, hB, hP⟩ := h
  obtain ⟨c0, c1, c2⟩ := cells3 hB.hb
  obtain ⟨r, cap, rfl, hcr⟩ := hB.row (i := 0) hk.one
  have h6 := hk.six
  have hto := hk.totS
  have HB := Lib.hid hB
  have HK := Lib.hid hk
  have HCR := Lib.hid hcr
  clear hB hP hk hcr
  go_enter Try.func33, Try.ntmps33
  go_wp2_with fail
  go_loopw [14, 3] (fun c v wr => ∃ k : Nat, c = .int .i64 k ∧ k ≤ ss.length ∧ Hid (wr.ownsRow w.heap.size 9 1 v k ((ss.take k).map strV) ∧ Below w.heap.size w wr)) (fun c _ _ => ss.length - (intOf c).toNat)
  case atStart => exact ⟨0, rfl, by omega, Lib.hid ⟨World.ownsRow_nil _ _ _ _, Below.refl _ _⟩⟩
  case round =>
    obtain ⟨wo, rfl⟩ : ∃ wo : World, wo = wr := ⟨_, rfl⟩
    obtain ⟨k, rfl, hkk, HR⟩ := hrel
    by_cases hlt : k < ss.length
    · have hrb : r < w.heap.size := (HB.out.lt r (.inr (.inl rfl))).2
      have hgb : g k < w.heap.size := (HB.out.lt (g k) (.inr (.inr ⟨k, hlt, .inl rfl⟩))).2
      have p0 := (HR.out.2.cell (p := ⟨r, k, none⟩) hrb).trans (HCR.out k hlt)
      obtain ⟨A, cp, hv, hcg, -⟩ := HB.out.seg hlt
      rw [hv] at hcg
      have p1 := (HR.out.2.cell (p := ⟨g k, 0, none⟩) hgb).trans hcg
      have p1a : ∀ o, (wo.alloc o).cell? ⟨g k, 0, none⟩ = some (.slice A (wn (sgS ss k)) cp) := fun o => by
        rw [World.cell?_alloc_lt _ _ _ (by have := HR.out.2.size; show g k < _; omega)]; exact p1
      have HV := Lib.hid hv
      have hwk := wn_le_totS ss k
      have hz := heap_alloc_new wo (.cells #[.pointer none, .slice none 0 0] 92)
      have HBL : Hid (Bld (wo.heap.size + 1) wo.heap.size [] (wo.alloc (.cells #[.pointer none, .slice none 0 0] 92)) ∧ Below wo.heap.size wo (wo.alloc (.cells #[.pointer none, .slice none 0 0] 92)) ∧ wo.heap.size + 1 ≤ (wo.alloc (.cells #[.pointer none, .slice none 0 0] 92)).heap.size) := Lib.hid ⟨Bld.fresh _ hz, (Below.refl _ _).alloc (Nat.le_refl _) _, by simp⟩
      have HL8 := Lib.hid (HK.out.wds k)
      have hkl : (k : Int) < (ss.length : Int) := by omega
      obtain ⟨s, hs⟩ : ∃ s, sgS ss k = s := ⟨_, rfl⟩
      rw [hs] at p1 p1a HV hwk HL8
      have HS := Lib.hid hs
      clear hv hcg hz hs
      have hcase : (A = none ∧ wn s ≤ 0) ∨ ∃ x cur, A = some ⟨x, 0, none⟩ ∧ w.heap[x]? = some (.cells cur wdT (0, 0)) ∧ cur.toList.take (wn (sgS ss k) * 8) = Lib.byteCells (sgS ss k) := by
        rcases (HB.out.ho k hlt).2 with ⟨h1, h2⟩ | ⟨x, cp', cur, h1, h2, h3, h4, h5, h6, h7⟩
        · rw [HV.out] at h1; injection h1 with h1; rw [HS.out] at h2; exact .inl ⟨h1, by omega⟩
        · rw [HV.out] at h1; injection h1 with h1; exact .inr ⟨x, cur, h1, h3, h7⟩
      rcases hcase with ⟨rfl, h0⟩ | ⟨x, cur, rfl, hx2', hx6'⟩
      case' inr => (have HX2 := Lib.hid hx2'; have HX6 := Lib.hid hx6'; clear hx2' hx6')
      all_goals
        go_wp2_with fail
        go_loopw [23] (fun c wi => ∃ q : Nat, c = .int .i64 q ∧ q ≤ wn s ∧ Hid (Bld (wo.heap.size + 1) wo.heap.size (Lib.byteCells (s.take (8 * q))) wi ∧ Below wo.heap.size wo wi ∧ wo.heap.size + 1 ≤ wi.heap.size)) (fun c _ => wn s - (intOf c).toNat)
        case atStart => exact ⟨0, rfl, by omega, Lib.hid HBL.out⟩
        case round =>
          obtain ⟨q, rfl, hqq, HI⟩ := hrel
          by_cases hq : q < wn s
          · try (exfalso; omega)
            all_goals
              obtain ⟨b0, b1, b2, b3, b4, b5, b6, b7, htk, hcc⟩ := chunk8 HL8.out hq
              have hr2 : wr.rangeAt x (q * 8) [.int .u8 b0.toNat, .int .u8 b1.toNat, .int .u8 b2.toNat, .int .u8 b3.toNat, .int .u8 b4.toNat, .int .u8 b5.toNat, .int .u8 b6.toNat, .int .u8 b7.toNat] := fun j u hu => by
                have hxl : x < w.heap.size := row_lt HX2.out
                rw [HI.out.2.1.cell (p := ⟨x, q * 8 + j, none⟩) (by have := HR.out.2.size; show x < _; omega), HR.out.2.cell (p := ⟨x, q * 8 + j, none⟩) hxl, cell_of_row _ _ _ _ _ _ HX2.out]
                have hu2 : ∃ c, [b0, b1, b2, b3, b4, b5, b6, b7][j]? = some c ∧ u = .int .u8 c.toNat := by
                  have : [Value.int .u8 b0.toNat, .int .u8 b1.toNat, .int .u8 b2.toNat, .int .u8 b3.toNat, .int .u8 b4.toNat, .int .u8 b5.toNat, .int .u8 b6.toNat, .int .u8 b7.toNat] = [b0, b1, b2, b3, b4, b5, b6, b7].map (fun c : UInt8 => Value.int .u8 c.toNat) := rfl
                  rw [this, List.getElem?_map, Option.map_eq_some_iff] at hu
                  obtain ⟨c, h1, h2⟩ := hu
                  exact ⟨c, h1, h2.symm⟩
                obtain ⟨c, hc1, rfl⟩ := hu2
                have h3 := hcc j c hc1
                have hjl : 8 * q + j < s.length := (List.getElem?_eq_some_iff.1 h3).1
                have h4 : (Lib.byteCells (sgS ss k))[q * 8 + j]? = some (.int .u8 c.toNat) := by
                  rw [HS.out, Nat.mul_comm]
                  simp only [Lib.byteCells, List.getElem?_map, h3, Option.map_some]
                rw [← HX6.out] at h4
                have hlt2 : q * 8 + j < wn (sgS ss k) * 8 := by
                  rcases Nat.lt_or_ge (q * 8 + j) (wn (sgS ss k) * 8) with h | h
                  · exact h
                  · rw [List.getElem?_eq_none (by rw [List.length_take]; omega)] at h4; cases h4
                rw [List.getElem?_take_of_lt hlt2] at h4
                simpa using h4
              have HR2 := Lib.hid hr2
              have HTK := Lib.hid htk
              have hqw : (q : Int) < (wn s : Int) := by omega
              have hslen : s.length ≤ 2000 := by have := HL8.out; unfold wn at hwk; omega
              clear hr2 htk hcc
              go_wp2_with (refine wpList_load_mid rfl wdT (.tmp 25) rfl x (q * 8) rfl [.int .u8 b0.toNat, .int .u8 b1.toNat, .int .u8 b2.toNat, .int .u8 b3.toNat, .int .u8 b4.toNat, .int .u8 b5.toNat, .int .u8 b6.toNat, .int .u8 b7.toNat] _ HR2.out Try.underlying94 rfl size46 ?_)
              have hlen : (Lib.byteCells (s.take (8 * q))).length ≤ 1099511627776 := by rw [byteCells_len, List.length_take]; omega
              have HLen := Lib.hid hlen
              have hcat : ∀ l : List UInt8, Lib.byteCells l ++ Lib.strCells ⟨#[b0, b1, b2, b3, b4, b5, b6, b7]⟩ = Lib.byteCells (l ++ [b0, b1, b2, b3, b4, b5, b6, b7]) := fun l => by simp [Lib.byteCells, Lib.strCells]
              have HCat := Lib.hid hcat
              clear hlen hcat
              refine (text_lit b0 b1 b2 b3 b4 b5 b6 b7 _).mono ?_
              rintro e wt ⟨rfl, hbt⟩
              have HBT : Hid (Below wr.heap.size wr wt) := Lib.hid (((Below.refl wr.heap.size wr).alloc (Nat.le_refl _) _).trans (hbt.mono (by simp)))
              clear hbt
              go_wp2_with fail
              refine (writeString_any (wo.heap.size + 1) wo.heap.size (Lib.byteCells (s.take (8 * q))) _ wt (bld_below HI.out.1 HBT.out) HLen.out (by show 8 ≤ 1099511627776; decide) (Nat.le_trans HI.out.2.2 HBT.out.size)).mono ?_
              rintro e w4 ⟨rfl, h4, k4⟩
              have HN : Hid (Bld (wo.heap.size + 1) wo.heap.size (Lib.byteCells (s.take (8 * (q + 1)))) w4 ∧ Below wo.heap.size wo w4 ∧ wo.heap.size + 1 ≤ w4.heap.size) := by
                refine ⟨?_, ?_, Nat.le_trans HI.out.2.2 (Nat.le_trans HBT.out.size k4.size)⟩
                · rw [HTK.out, ← HCat.out]; exact h4
                · exact (HI.out.2.1.trans (HBT.out.mono HI.out.2.1.size)).trans (k4.below (by omega) (Nat.le_refl _))
              clear h4 k4
              go_wp2
              go_roundw
              case rel => exact ⟨q + 1, by go_num, by omega, HN⟩
              case measure => simp [intOf]; omega
          · obtain rfl : q = wn s := by omega
            have hfull : s.take (8 * wn s) = s := List.take_of_length_le (by have := HL8.out; unfold wn; omega)
            have hI := HI.out
            rw [hfull] at hI
            have HI2 := Lib.hid hI
            clear hI hfull
            go_wp2_with fail
            refine (string_any wo.heap.size wo.heap.size s wr (HI2.out.1.is (by omega) (Nat.le_refl _)) (by have := HI2.out.2.2; omega)).mono ?_
            rintro e w5 ⟨rfl, hb5⟩
            have hb05 : Below wo.heap.size wo w5 := HI2.out.2.1.trans (hb5.mono (Nat.le_refl _))
            have HO5 := Lib.hid (own_keepB HR.out.1 (fun k hk => hb05.block k (HR.out.1.lt k hk).2))
            have HB5 := Lib.hid (HR.out.2.trans (hb05.mono HR.out.2.size))
            have hsz5 := HB5.out.size
            clear hb5 hb05
            go_wp2_with (at_builtin; go_must (refine wpList_append_own _ rfl (.tmp 31) (.tmp 33) 26 rfl w.heap.size 9 i0 (.string ByteArray.empty) 1 16 Try.underlying26 hi hz0 hz1 hz2 rfl (by decide) _ _ _ rfl (HO5.out.alloc _) ⟨w5.heap.size, 0, none⟩ 1 1 [.string ⟨s.toArray⟩] rfl rfl (cell_one_new _ _ _) (by simp [Value.oneCell']) (by unfold maxLen; omega) (by omega) (by simp <;> omega) ?_); intro v' wn1 hown' hgrow _)
            have HON := Lib.hid (show wn1.ownsRow w.heap.size 9 1 v' (k + 1) ((ss.take (k + 1)).map strV) by
              have e1 : ss[k] = s := by rw [← HS.out]; unfold sgS; rw [List.getElem?_eq_getElem hlt]; rfl
              rw [List.take_succ_eq_append_getElem hlt, List.map_append, e1]; exact hown')
            have HBN := Lib.hid (below_append HB5.out hsz5 HO5.out hgrow)
            clear hgrow hown'
            go_wp2
            go_roundw
            case rel => exact ⟨k + 1, by go_num, by omega, Lib.hid ⟨HON.out, HBN.out⟩⟩
            case measure => simp [intOf]; omega
    · obtain rfl : k = ss.length := by omega
      obtain ⟨A, c, rfl⟩ := own_sliceW HR.out.1
      have HR1 := HR.out
      rw [List.take_of_length_le (Nat.le_refl _)] at HR1
      have HR2 := Lib.hid HR1
      clear HR1
      go_wp2
      go_ret
      exact ⟨A, c, rfl, HR2.out.1, HR2.out.2⟩
end Go.Proofs.Ytbhmklbdfmgmlaa

/- The program's Build: what is deferred. -/
namespace Go.Proofs.Ytbhmklbdfmgmlaa
open Go.RowKit Go.Deep
theorem catch_panicking (p q : Nat) (u : TypeId) (pv : Value) (older : List PanicEntry) (w : World) (x y : Value) (hp : w.heap[p]? = some (.cells #[x] 26 (0, 0))) (hq : w.heap[q]? = some (.cells #[y] 4 (0, 0))) (hpq : p ≠ q) :
    CallsD Try.prog 29 #[.pointer (some ⟨p, 0, none⟩), .pointer (some ⟨q, 0, none⟩)] (.panicking ({ v := .iface u pv, recovered := false } :: older)) w fun e u' w' =>
      e = .returned (.tuple #[]) ∧ u' = .panicking ({ v := .iface u pv, recovered := true } :: older) ∧ w' = (w.setCell ⟨p, 0, none⟩ (.slice none 0 0)).setCell ⟨q, 0, none⟩ (.bool false) := by
  have c0 : w.cell? ⟨p, 0, none⟩ = some x := by rw [cell_of_row _ _ _ _ _ _ hp]; rfl
  have c1 : w.cell? ⟨q, 0, none⟩ = some y := by rw [cell_of_row _ _ _ _ _ _ hq]; rfl
  have f0 := row_free hp 0
  have f1 := row_free hq 0
  have hpq' : q ≠ p := fun e => hpq e.symm
  refine callsD_of_wpS Try.func29 rfl fun c₀ cs hu => ?_
  apply wpS_seq
  apply wpS_region
  simp [wpOpsS, go_sem, recoverD, hu, Try.ntmps29, Exit.thenS]
  refine wpS_cond (t := true) (by simp [Act.eval, Array.replicate]) ?_
  simp only [if_true]
  apply wpS_region
  simp [wpOpsS, go_sem, c0, c1, f0, f1, hpq, hpq', bodyPostS, results, Try.results29]
theorem catch_idle (p q : Addr) (w : World) :
    CallsD Try.prog 29 #[.pointer (some p), .pointer (some q)] .returning w fun e u' w' => e = .returned (.tuple #[]) ∧ u' = .returning ∧ w' = w := by
  refine callsD_of_wpS Try.func29 rfl fun c₀ cs hu => ?_
  apply wpS_seq
  apply wpS_region
  simp [wpOpsS, go_sem, recoverD, hu, Try.ntmps29, Exit.thenS]
  refine wpS_cond (t := false) (by simp [Act.eval, Array.replicate]) ?_
  simp only [Bool.false_eq_true, if_false]
  refine wpS_of_wp (wp_skip ?_)
  cases c₀
  simp_all [bodyPostS, results, Try.results29]
end Go.Proofs.Ytbhmklbdfmgmlaa

/- The program's Build. -/
namespace Go.Proofs.Ytbhmklbdfmgmlaa
open Go.RowKit Go.Deep
/-- what Build answers. -/
def bldV (n : Nd) (size : Int) : Option Segs := if nodeOk n = true ∧ 1 ≤ size ∧ size ≤ 200 then buildP 200 size.toNat n else none
def BuildQ (r : Option Segs) (w : World) (e : Ending) (w' : World) : Prop :=
  (r = none ∧ e = .returned (.tuple #[.slice none 0 0, .bool false]) ∧ Below w.heap.size w w') ∨
  ∃ ss A c, r = some ss ∧ e = .returned (.tuple #[.slice A ss.length c, .bool true]) ∧ w'.ownsRow w.heap.size 9 1 (.slice A ss.length c) ss.length (ss.map strV) ∧ Below w.heap.size w w'
theorem NdsAt.lt' {w : World} {S : Nat → Prop} : ∀ (m : Nat) (A : Option Addr) (l : List Nd), NdsAt w S m A l → NdsAt w (fun k => k < w.heap.size) m A l
  | 0, _, _, h => h
  | m + 1, A, l, ⟨hl, q, hq, hc, hr⟩ => by
    refine ⟨hl, q, hq, ?_, fun r h => ⟨(hr r h).1, NdsAt.lt' m _ _ (hr r h).2.1, NdsAt.lt' m _ _ (hr r h).2.2⟩⟩
    cases q with
    | nil => exact .inl rfl
    | cons r t =>
      rcases hc with h | ⟨x, hx, hs, hk⟩
      · cases h
      · refine .inr ⟨x, hx, ?_, hk⟩
        have := (hk 0 r rfl).lt
        rwa [addr_block] at this
theorem NdAt.lt' {w : World} {S : Nat → Prop} {m : Nat} {n : Nd} {h : Hd} (hn : NdAt w S m n h) : NdAt w (fun k => k < w.heap.size) m n h := ⟨hn.1, NdsAt.lt' _ _ _ hn.2.1, NdsAt.lt' _ _ _ hn.2.2⟩
set_option maxHeartbeats 4000000 in
set_option maxRecDepth 100000 in
theorem implBuild_no (m : Nat) (n : Nd) (h : Hd) (w : World) (S : Nat → Prop) (size : Int) (hn : NdAt w S m n h) (ht : totN m n ≤ 2000000) (hno : ¬ (nodeOk n = true ∧ 1 ≤ size ∧ size ≤ 200)) :
    Calls Try.prog 10 #[.agg #[.int .i64 n.kind, .string n.data, .slice h.A n.ptrs.length h.a, .int .i64 n.size, .int .i64 n.count, .slice h.B n.items.length h.b], .int .i64 size] w (BuildQ (bldV n size) w) := by
  have HE : Hid (bldV n size = none) := Lib.hid (by unfold bldV; rw [if_neg hno])
  obtain ⟨qA, qa, qB, qb⟩ := h
  have HOK := Lib.hid (fun (W : World) (hW : Below w.heap.size w W) => implNodeOk_a m n ⟨qA, qa, qB, qb⟩ W S (hn.below hW) ht)
  dsimp only at HOK ⊢
  have hb0 : Below w.heap.size w (((w.alloc (.cells #[.int .i64 n.kind, .string n.data, .slice qA n.ptrs.length qa, .int .i64 n.size, .int .i64 n.count, .slice qB n.items.length qb] nodeT)).alloc (.cells #[.slice none 0 0] 26)).alloc (.cells #[.bool false] 4)) := (((Below.refl _ w).alloc (Nat.le_refl _) _).alloc (by simp) _).alloc (by simp; omega) _
  have HB0 := Lib.hid hb0
  have r4 : (((w.alloc (.cells #[.int .i64 n.kind, .string n.data, .slice qA n.ptrs.length qa, .int .i64 n.size, .int .i64 n.count, .slice qB n.items.length qb] nodeT)).alloc (.cells #[.slice none 0 0] 26)).alloc (.cells #[.bool false] 4)).heap[w.heap.size + 1]? = some (.cells #[.slice none 0 0] 26 (0, 0)) := by
    have := heap_alloc_keep (heap_alloc_new (w.alloc (.cells #[.int .i64 n.kind, .string n.data, .slice qA n.ptrs.length qa, .int .i64 n.size, .int .i64 n.count, .slice qB n.items.length qb] nodeT)) (.cells #[.slice none 0 0] 26)) (.cells #[.bool false] 4)
    simpa using this
  have r5 : (((w.alloc (.cells #[.int .i64 n.kind, .string n.data, .slice qA n.ptrs.length qa, .int .i64 n.size, .int .i64 n.count, .slice qB n.items.length qb] nodeT)).alloc (.cells #[.slice none 0 0] 26)).alloc (.cells #[.bool false] 4)).heap[w.heap.size + 2]? = some (.cells #[.bool false] 4 (0, 0)) := by
    have := heap_alloc_new ((w.alloc (.cells #[.int .i64 n.kind, .string n.data, .slice qA n.ptrs.length qa, .int .i64 n.size, .int .i64 n.count, .slice qB n.items.length qb] nodeT)).alloc (.cells #[.slice none 0 0] 26)) (.cells #[.bool false] 4)
    simpa using this
  have hs0 : (((w.alloc (.cells #[.int .i64 n.kind, .string n.data, .slice qA n.ptrs.length qa, .int .i64 n.size, .int .i64 n.count, .slice qB n.items.length qb] nodeT)).alloc (.cells #[.slice none 0 0] 26)).alloc (.cells #[.bool false] 4)).heap.size = w.heap.size + 3 := by simp
  have R4 := Lib.hid r4
  have R5 := Lib.hid r5
  have HS0 := Lib.hid hs0
  clear hn hb0 r4 r5 hs0
  obtain ⟨B1, hB1⟩ : ∃ B1, nodeOk n = B1 := ⟨_, rfl⟩
  rw [hB1] at HOK hno
  clear hB1
  have hd1 : ∃ B2, decide (size < 1) = B2 := ⟨_, rfl⟩
  have hd2 : ∃ B3, decide (200 < size) = B3 := ⟨_, rfl⟩
  obtain ⟨B2, hd1⟩ := hd1
  obtain ⟨B3, hd2⟩ := hd2
  have hone : B1 = false ∨ B2 = true ∨ B3 = true := by
    cases B1
    · exact .inl rfl
    · right
      rw [← hd1, ← hd2]
      simp only [decide_eq_true_eq]
      simp only [true_and] at hno
      omega
  cases B1 <;> cases B2 <;> cases B3 <;> try (exfalso; (rcases hone with h | h | h <;> cases h); done)
  all_goals
    clear hone hno
    go_enter_defers Try.func10, Try.ntmps10
    go_wp2_with fail
    refine (HOK.out _ HB0.out).mono ?_
    rintro e w1 ⟨rfl, hb1⟩
    have x4 := (hb1.block (w.heap.size + 1) (by have := HS0.out; omega)).trans R4.out
    have x5 := (hb1.block (w.heap.size + 2) (by have := HS0.out; omega)).trans R5.out
    have c4 : w1.cell? ⟨w.heap.size + 1, 0, none⟩ = some (.slice none 0 0) := by rw [cell_of_row _ _ _ _ _ _ x4]; rfl
    have c5 : w1.cell? ⟨w.heap.size + 2, 0, none⟩ = some (.bool false) := by rw [cell_of_row _ _ _ _ _ _ x5]; rfl
    have f4 := row_free x4 0
    have f5 := row_free x5 0
    have HX4 := Lib.hid x4
    have HX5 := Lib.hid x5
    have HB1 := Lib.hid (HB0.out.trans (hb1.mono HB0.out.size))
    clear hb1 x4 x5
    go_wp2_with fail
    refine ⟨.tuple #[.slice none 0 0, .bool false], ?_, .inl ⟨HE.out, rfl, ?_⟩⟩
    · simp [results, Try.results10, go_sem, c4, c5]
    · exact (HB1.out.setCell (p := ⟨w.heap.size + 1, 0, none⟩) (by show w.heap.size ≤ w.heap.size + 1; omega) _).setCell (p := ⟨w.heap.size + 2, 0, none⟩) (by show w.heap.size ≤ w.heap.size + 2; omega) _
end Go.Proofs.Ytbhmklbdfmgmlaa

/- How much is written, and under what limit: plainly. No Go text. -/
namespace Go.Proofs.Ytbhmklbdfmgmlaa
theorem grew_tot : ∀ {a b : Segs}, Grew a b → totS a ≤ totS b
  | [], b, _ => Nat.zero_le _
  | x :: a, [], h => by have := h.1; simp at this
  | x :: a, y :: b, h => by
    have h1 : wn x ≤ wn y := by have := h.2 0; simp [sgS] at this; exact Nat.div_le_div_right this
    have h2 : totS a ≤ totS b := grew_tot ⟨by have := h.1; simpa using this, fun i => by have := h.2 (i + 1); simpa [sgS] using this⟩
    simp only [totS, List.map_cons, List.sum_cons] at h2 ⊢
    omega
/-- what the room of a node adds. -/
theorem room_tot {L size : Nat} {n : Nd} {ss s1 : Segs} {i a j c : Nat} (hk : SOk L ss) (hi : i < ss.length) (ha : a < wn (sgS ss i)) (h : roomP L size n ss i a = some (s1, j, c)) : totS s1 ≤ totS ss + ownN n + 1 := by
  unfold roomP at h
  split at h
  · split at h
    · rename_i ht
      injection h with h
      injection h with h1 h2
      subst h1
      have hi' : i < (growB ss i (ownN n)).length := by rw [growB_length]; exact hi
      have hg := hk.grow hi ht
      have hr := room8 (k := 1) hg.wds (i := i) (a := a) (by rw [wn_grow hi]; omega)
      rw [put_totS hi' (by rw [ptrW_length]; omega), grow_totS hi]
      omega
    · cases h
  · split at h
    · cases h
    · rename_i s0 j0 ho
      obtain ⟨h1, h2, h3⟩ := other_some hk ho
      have h0 : totS s0 = totS ss := by
        unfold otherP at ho
        split at ho
        · injection ho with ho; injection ho with e; rw [e]
        · split at ho
          · injection ho with ho; injection ho with e; rw [← e, totS_app]; rfl
          · cases ho
      split at h
      · rename_i ht
        injection h with h
        injection h with e1 e2
        subst e1
        have hg := h1.grow h3 ht
        have hi' : i < (growB s0 j0 (1 + ownN n)).length := by rw [growB_length]; exact Nat.lt_of_lt_of_le hi h2.1
        have hai : a < wn (sgS (growB s0 j0 (1 + ownN n)) i) := Nat.lt_of_lt_of_le ha ((h2.trans (grow_grew h3)).wn i)
        have hr := room8 (k := 1) hg.wds (i := i) (a := a) (by omega)
        have hp : 8 * a + (farW (wn (sgS s0 j0)) j0).length ≤ (sgS (growB s0 j0 (1 + ownN n)) i).length := by rw [farW_length]; omega
        have hj2 : j0 < (putS (growB s0 j0 (1 + ownN n)) i a (farW (wn (sgS s0 j0)) j0)).length := by rw [putS_length, growB_length]; exact h3
        have hg2 := hg.put hi' hp
        have hwj : wn (sgS (putS (growB s0 j0 (1 + ownN n)) i a (farW (wn (sgS s0 j0)) j0)) j0) = wn (sgS s0 j0) + (1 + ownN n) := by rw [← (put_alen hi' hp).wn, wn_grow h3]
        have hr2 := room8 (k := 1) hg2.wds (i := j0) (a := wn (sgS s0 j0)) (by omega)
        rw [put_totS hj2 (by rw [ptrW_length]; omega), put_totS hi' hp, grow_totS h3, h0]
        omega
      · cases h
/-- what a writer of nodes adds at most. -/
def WrTot (L : Nat) (wr : Wr) (Q : Nd → Prop) (f : Nd → Nat) : Prop := ∀ p ss i a s1, Q p → SOk L ss → i < ss.length → a < wn (sgS ss i) → wr p ss i a = some s1 → totS s1 ≤ totS ss + 2 * f p
theorem ptrs_tot {L : Nat} {wr : Wr} {Q : Nd → Prop} {f : Nd → Nat} (hw : WrOk L wr Q) (ht : WrTot L wr Q f) : ∀ (l : List Nd) (ss : Segs) (i a : Nat) (s1 : Segs), (∀ p ∈ l, Q p) → SOk L ss → i < ss.length → a + l.length ≤ wn (sgS ss i) → ptrsP wr l ss i a = some s1 → totS s1 ≤ totS ss + 2 * (l.map f).sum
  | [], ss, i, a, s1, _, hk, _, _, h => by injection h with h; subst h; exact Nat.le_add_right _ _
  | p :: t, ss, i, a, s1, hq, hk, hi, ha, h => by
    simp only [ptrsP, Option.bind_eq_some_iff] at h
    obtain ⟨s2, h1, h2⟩ := h
    simp only [List.length_cons] at ha
    obtain ⟨k2, g2⟩ := hw p ss i a s2 (hq p (List.mem_cons_self ..)) hk hi (by omega) h1
    have e1 := ht p ss i a s2 (hq p (List.mem_cons_self ..)) hk hi (by omega) h1
    have e2 := ptrs_tot hw ht t s2 i (a + 1) s1 (fun q hm => hq q (List.mem_cons_of_mem _ hm)) k2 (Nat.lt_of_lt_of_le hi g2.1) (by have := g2.wn i; omega) h2
    rw [List.map_cons, List.sum_cons]
    omega
theorem body_tot {L : Nat} {wr : Wr} {Q : Nd → Prop} {f : Nd → Nat} (hw : WrOk L wr Q) (ht : WrTot L wr Q f) {n : Nd} {ss s1 : Segs} {i a : Nat} (hq : ∀ p ∈ n.ptrs, Q p) (hk : SOk L ss) (hi : i < ss.length) (ha : a + ownB n ≤ wn (sgS ss i)) (h : bodyP wr n ss i a = some s1) : totS s1 ≤ totS ss + 2 * (n.ptrs.map f).sum := by
  unfold bodyP at h
  have hf := body_fits hk.wds ha
  have hp := put_alen hi hf
  have := ptrs_tot hw ht n.ptrs _ i _ s1 hq (hk.put hi hf) (by rw [putS_length]; exact hi) (by rw [← hp.wn]; unfold ownB at ha; omega) h
  rw [put_totS hi hf] at this
  exact this
theorem items_tot {L : Nat} {wr : Wr} {Q : Nd → Prop} {f : Nd → Nat} (hw : WrOk L wr Q) (ht : WrTot L wr Q f) (each : Nat) : ∀ (l : List Nd) (ss : Segs) (i a : Nat) (s1 : Segs), (∀ y ∈ l, ownB y = each ∧ ∀ p ∈ y.ptrs, Q p) → SOk L ss → i < ss.length → a + l.length * each ≤ wn (sgS ss i) → itemsP wr each l ss i a = some s1 → totS s1 ≤ totS ss + 2 * (l.map fun y => (y.ptrs.map f).sum).sum
  | [], ss, i, a, s1, _, hk, _, _, h => by injection h with h; subst h; exact Nat.le_add_right _ _
  | y :: t, ss, i, a, s1, hq, hk, hi, ha, h => by
    simp only [itemsP, Option.bind_eq_some_iff] at h
    obtain ⟨s2, h1, h2⟩ := h
    simp only [List.length_cons, Nat.add_mul, Nat.one_mul] at ha
    obtain ⟨hy, hyp⟩ := hq y (List.mem_cons_self ..)
    obtain ⟨k2, g2⟩ := body_some hw hyp hk hi (by rw [hy]; omega) h1
    have e1 := body_tot hw ht hyp hk hi (by rw [hy]; omega) h1
    have e2 := items_tot hw ht each t s2 i (a + each) s1 (fun q hm => hq q (List.mem_cons_of_mem _ hm)) k2 (Nat.lt_of_lt_of_le hi g2.1) (by have := g2.wn i; omega) h2
    rw [List.map_cons, List.sum_cons]
    omega
theorem flat_sum (l : List Nd) (f : Nd → Nat) : ((l.flatMap Nd.ptrs).map f).sum = (l.map fun y => (y.ptrs.map f).sum).sum := by
  induction l with
  | nil => rfl
  | cons y t ih => rw [List.flatMap_cons, List.map_append, List.sum_append, ih, List.map_cons, List.sum_cons]
theorem fill_tot {L : Nat} {wr : Wr} {Q : Nd → Prop} {f : Nd → Nat} (hw : WrOk L wr Q) (ht : WrTot L wr Q f) {n : Nd} {ss s1 : Segs} {i a : Nat} (hf : formN n = true) (hq : ∀ p ∈ ptrsL n, Q p) (hk : SOk L ss) (hi : i < ss.length) (ha : a + ownN n ≤ wn (sgS ss i)) (h : fillP wr n ss i a = some s1) : totS s1 ≤ totS ss + 2 * ((ptrsL n).map f).sum := by
  have hsum : ((ptrsL n).map f).sum = (n.ptrs.map f).sum + (n.items.map fun y => (y.ptrs.map f).sum).sum := by unfold ptrsL; rw [List.map_append, List.sum_append, flat_sum]
  unfold fillP at h
  split at h
  · rename_i hm
    obtain ⟨h1, h2, h3⟩ := own_many hf hm
    have hr := room8 (k := 1) hk.wds (i := i) (a := a) (by omega)
    have hp : 8 * a + (tagW n).length ≤ (sgS ss i).length := by rw [tagW_length]; omega
    have := items_tot hw ht (itD n + itP n) n.items _ i (a + 1) s1 (fun y hy => ⟨item_own h1 y hy, fun p hp => hq p (List.mem_append_right _ (List.mem_flatMap.2 ⟨y, hy, hp⟩))⟩) (hk.put hi hp) (by rw [putS_length]; exact hi) (by rw [← (put_alen hi hp).wn]; omega) h
    rw [put_totS hi hp] at this
    omega
  · rename_i hm
    obtain ⟨h1, h2⟩ := own_plain hf hm
    have := body_tot hw ht (fun p hp => hq p (List.mem_append_left _ hp)) hk hi (by omega) h
    omega
theorem wr_tot (L size : Nat) : ∀ d, WrTot L (wrP L size d) (fun n => okN d n = true) (wordsN d)
  | 0 => fun p ss i a s1 _ hk _ _ h => by simp only [wrP] at h; injection h with h; subst h; exact Nat.le_add_right _ _
  | d + 1 => fun n ss i a s1 hn hk hi ha h => by
    simp only [wrP] at h
    split at h
    · injection h with h; subst h; exact Nat.le_add_right _ _
    · rename_i hk0
      split at h
      · injection h with h
        subst h
        have hr := room8 (k := 1) hk.wds (i := i) (a := a) (by omega)
        rw [put_totS hi (by rw [ptrW_length]; omega)]
        exact Nat.le_add_right _ _
      · rename_i hp
        rw [Option.bind_eq_some_iff] at h
        obtain ⟨⟨s2, j, c⟩, h1, h2⟩ := h
        obtain ⟨k2, g2, hj, hc⟩ := room_some hk hi ha h1
        have e1 := room_tot hk hi ha h1
        have e2 := fill_tot (wr_some L size d) (wr_tot L size d) (ok_formN hn) (ok_within hn hk0) k2 hj hc h2
        have e3 : wordsN (d + 1) n = ownN n + ((ptrsL n).map (wordsN d)).sum := rfl
        omega
/-- a greater limit. -/
def WrUp (wr wr' : Wr) : Prop := ∀ p ss i a s1, wr p ss i a = some s1 → wr' p ss i a = some s1
theorem ptrs_up {wr wr' : Wr} (hu : WrUp wr wr') : ∀ (l : List Nd) (ss : Segs) (i a : Nat) (s1 : Segs), ptrsP wr l ss i a = some s1 → ptrsP wr' l ss i a = some s1
  | [], _, _, _, _, h => h
  | p :: t, ss, i, a, s1, h => by
    simp only [ptrsP, Option.bind_eq_some_iff] at h ⊢
    obtain ⟨s2, h1, h2⟩ := h
    exact ⟨s2, hu _ _ _ _ _ h1, ptrs_up hu t s2 i (a + 1) s1 h2⟩
theorem items_up {wr wr' : Wr} (hu : WrUp wr wr') (each : Nat) : ∀ (l : List Nd) (ss : Segs) (i a : Nat) (s1 : Segs), itemsP wr each l ss i a = some s1 → itemsP wr' each l ss i a = some s1
  | [], _, _, _, _, h => h
  | p :: t, ss, i, a, s1, h => by
    simp only [itemsP, Option.bind_eq_some_iff] at h ⊢
    obtain ⟨s2, h1, h2⟩ := h
    exact ⟨s2, ptrs_up hu _ _ _ _ _ h1, items_up hu each t s2 i (a + each) s1 h2⟩
theorem fill_up {wr wr' : Wr} (hu : WrUp wr wr') {n : Nd} {ss s1 : Segs} {i a : Nat} (h : fillP wr n ss i a = some s1) : fillP wr' n ss i a = some s1 := by
  unfold fillP at h ⊢
  split
  · rename_i hm; rw [if_pos hm] at h; exact items_up hu _ _ _ _ _ _ h
  · rename_i hm; rw [if_neg hm] at h; exact ptrs_up hu _ _ _ _ _ h
theorem room_up {L L' size : Nat} (hL : L ≤ L') {n : Nd} {ss : Segs} {i a : Nat} {r : Segs × Nat × Nat} (h : roomP L size n ss i a = some r) : roomP L' size n ss i a = some r := by
  unfold roomP at h ⊢
  split
  · rename_i hf
    rw [if_pos hf] at h
    split at h
    · rename_i ht; rw [if_pos (by omega)]; exact h
    · cases h
  · rename_i hf
    rw [if_neg hf] at h
    split at h
    · cases h
    · rename_i s0 j0 ho
      split at h
      · rename_i ht; rw [if_pos (by omega)]; exact h
      · cases h
theorem wr_up {L L' : Nat} (size : Nat) (hL : L ≤ L') : ∀ d, WrUp (wrP L size d) (wrP L' size d)
  | 0 => fun p ss i a s1 h => h
  | d + 1 => fun n ss i a s1 h => by
    simp only [wrP] at h ⊢
    split
    · rename_i hk; rw [if_pos hk] at h; exact h
    · rename_i hk
      rw [if_neg hk] at h
      split
      · rename_i hp; rw [if_pos hp] at h; exact h
      · rename_i hp
        rw [if_neg hp, Option.bind_eq_some_iff] at h
        obtain ⟨r, h1, h2⟩ := h
        rw [room_up hL h1, Option.bind_some]
        exact fill_up (wr_up size hL d) h2
/-- a limit that is not met. -/
def WrDn (L l : Nat) (wr wr' : Wr) (Q : Nd → Prop) : Prop := ∀ p ss i a s1, Q p → SOk L ss → i < ss.length → a < wn (sgS ss i) → wr p ss i a = some s1 → totS s1 ≤ l → wr' p ss i a = some s1
theorem ptrs_dn {L l : Nat} {wr wr' : Wr} {Q : Nd → Prop} (hw : WrOk L wr Q) (hd : WrDn L l wr wr' Q) : ∀ (li : List Nd) (ss : Segs) (i a : Nat) (s1 : Segs), (∀ p ∈ li, Q p) → SOk L ss → i < ss.length → a + li.length ≤ wn (sgS ss i) → ptrsP wr li ss i a = some s1 → totS s1 ≤ l → ptrsP wr' li ss i a = some s1
  | [], _, _, _, _, _, _, _, _, h, _ => h
  | p :: t, ss, i, a, s1, hq, hk, hi, ha, h, hl => by
    simp only [ptrsP, Option.bind_eq_some_iff] at h ⊢
    obtain ⟨s2, h1, h2⟩ := h
    simp only [List.length_cons] at ha
    obtain ⟨k2, g2⟩ := hw p ss i a s2 (hq p (List.mem_cons_self ..)) hk hi (by omega) h1
    have hi2 := Nat.lt_of_lt_of_le hi g2.1
    have ha2 : a + 1 + t.length ≤ wn (sgS s2 i) := by have := g2.wn i; omega
    obtain ⟨k3, g3⟩ := ptrs_some hw t s2 i (a + 1) s1 (fun q hm => hq q (List.mem_cons_of_mem _ hm)) k2 hi2 ha2 h2
    exact ⟨s2, hd _ _ _ _ _ (hq p (List.mem_cons_self ..)) hk hi (by omega) h1 (Nat.le_trans (grew_tot g3) hl), ptrs_dn hw hd t s2 i (a + 1) s1 (fun q hm => hq q (List.mem_cons_of_mem _ hm)) k2 hi2 ha2 h2 hl⟩
theorem body_dn {L l : Nat} {wr wr' : Wr} {Q : Nd → Prop} (hw : WrOk L wr Q) (hd : WrDn L l wr wr' Q) {n : Nd} {ss s1 : Segs} {i a : Nat} (hq : ∀ p ∈ n.ptrs, Q p) (hk : SOk L ss) (hi : i < ss.length) (ha : a + ownB n ≤ wn (sgS ss i)) (h : bodyP wr n ss i a = some s1) (hl : totS s1 ≤ l) : bodyP wr' n ss i a = some s1 := by
  unfold bodyP at h ⊢
  have hf := body_fits hk.wds ha
  have hp := put_alen hi hf
  exact ptrs_dn hw hd n.ptrs _ i _ s1 hq (hk.put hi hf) (by rw [putS_length]; exact hi) (by rw [← hp.wn]; unfold ownB at ha; omega) h hl
theorem items_dn {L l : Nat} {wr wr' : Wr} {Q : Nd → Prop} (hw : WrOk L wr Q) (hd : WrDn L l wr wr' Q) (each : Nat) : ∀ (li : List Nd) (ss : Segs) (i a : Nat) (s1 : Segs), (∀ y ∈ li, ownB y = each ∧ ∀ p ∈ y.ptrs, Q p) → SOk L ss → i < ss.length → a + li.length * each ≤ wn (sgS ss i) → itemsP wr each li ss i a = some s1 → totS s1 ≤ l → itemsP wr' each li ss i a = some s1
  | [], _, _, _, _, _, _, _, _, h, _ => h
  | y :: t, ss, i, a, s1, hq, hk, hi, ha, h, hl => by
    simp only [itemsP, Option.bind_eq_some_iff] at h ⊢
    obtain ⟨s2, h1, h2⟩ := h
    simp only [List.length_cons, Nat.add_mul, Nat.one_mul] at ha
    obtain ⟨hy, hyp⟩ := hq y (List.mem_cons_self ..)
    obtain ⟨k2, g2⟩ := body_some hw hyp hk hi (by rw [hy]; omega) h1
    have hi2 := Nat.lt_of_lt_of_le hi g2.1
    have ha2 : a + each + t.length * each ≤ wn (sgS s2 i) := by have := g2.wn i; omega
    obtain ⟨k3, g3⟩ := items_some hw each t s2 i (a + each) s1 (fun q hm => hq q (List.mem_cons_of_mem _ hm)) k2 hi2 ha2 h2
    exact ⟨s2, body_dn hw hd hyp hk hi (by rw [hy]; omega) h1 (Nat.le_trans (grew_tot g3) hl), items_dn hw hd each t s2 i (a + each) s1 (fun q hm => hq q (List.mem_cons_of_mem _ hm)) k2 hi2 ha2 h2 hl⟩
theorem fill_dn {L l : Nat} {wr wr' : Wr} {Q : Nd → Prop} (hw : WrOk L wr Q) (hd : WrDn L l wr wr' Q) {n : Nd} {ss s1 : Segs} {i a : Nat} (hf : formN n = true) (hq : ∀ p ∈ ptrsL n, Q p) (hk : SOk L ss) (hi : i < ss.length) (ha : a + ownN n ≤ wn (sgS ss i)) (h : fillP wr n ss i a = some s1) (hl : totS s1 ≤ l) : fillP wr' n ss i a = some s1 := by
  unfold fillP at h ⊢
  split
  · rename_i hm
    rw [if_pos hm] at h
    obtain ⟨h1, h2, h3⟩ := own_many hf hm
    have hr := room8 (k := 1) hk.wds (i := i) (a := a) (by omega)
    have hp : 8 * a + (tagW n).length ≤ (sgS ss i).length := by rw [tagW_length]; omega
    exact items_dn hw hd (itD n + itP n) n.items _ i (a + 1) s1 (fun y hy => ⟨item_own h1 y hy, fun p hp => hq p (List.mem_append_right _ (List.mem_flatMap.2 ⟨y, hy, hp⟩))⟩) (hk.put hi hp) (by rw [putS_length]; exact hi) (by rw [← (put_alen hi hp).wn]; omega) h hl
  · rename_i hm
    rw [if_neg hm] at h
    obtain ⟨h1, h2⟩ := own_plain hf hm
    exact body_dn hw hd (fun p hp => hq p (List.mem_append_left _ hp)) hk hi (by omega) h hl
theorem room_dn {L l size : Nat} {n : Nd} {ss s1 : Segs} {i a j c : Nat} (hk : SOk L ss) (hi : i < ss.length) (ha : a < wn (sgS ss i)) (h : roomP L size n ss i a = some (s1, j, c)) (hl : totS s1 ≤ l) : roomP l size n ss i a = some (s1, j, c) := by
  have hx := h
  unfold roomP at h ⊢
  split
  · rename_i hf
    rw [if_pos hf] at h
    split at h
    · rename_i ht
      have e : totS s1 = totS ss + ownN n := by
        injection h with h
        injection h with h1 h2
        subst h1
        have hi' : i < (growB ss i (ownN n)).length := by rw [growB_length]; exact hi
        have hg := hk.grow hi ht
        have hr := room8 (k := 1) hg.wds (i := i) (a := a) (by rw [wn_grow hi]; omega)
        rw [put_totS hi' (by rw [ptrW_length]; omega), grow_totS hi]
      rw [if_pos (by omega)]; exact h
    · cases h
  · rename_i hf
    rw [if_neg hf] at h
    split at h
    · cases h
    · rename_i s0 j0 ho
      split at h
      · rename_i ht
        obtain ⟨h1, h2, h3⟩ := other_some hk ho
        have e : totS s1 = totS s0 + (1 + ownN n) := by
          injection h with h
          injection h with e1 e2
          subst e1
          have hg := h1.grow h3 ht
          have hi' : i < (growB s0 j0 (1 + ownN n)).length := by rw [growB_length]; exact Nat.lt_of_lt_of_le hi h2.1
          have hai : a < wn (sgS (growB s0 j0 (1 + ownN n)) i) := Nat.lt_of_lt_of_le ha ((h2.trans (grow_grew h3)).wn i)
          have hr := room8 (k := 1) hg.wds (i := i) (a := a) (by omega)
          have hp : 8 * a + (farW (wn (sgS s0 j0)) j0).length ≤ (sgS (growB s0 j0 (1 + ownN n)) i).length := by rw [farW_length]; omega
          have hj2 : j0 < (putS (growB s0 j0 (1 + ownN n)) i a (farW (wn (sgS s0 j0)) j0)).length := by rw [putS_length, growB_length]; exact h3
          have hg2 := hg.put hi' hp
          have hwj : wn (sgS (putS (growB s0 j0 (1 + ownN n)) i a (farW (wn (sgS s0 j0)) j0)) j0) = wn (sgS s0 j0) + (1 + ownN n) := by rw [← (put_alen hi' hp).wn, wn_grow h3]
          have hr2 := room8 (k := 1) hg2.wds (i := j0) (a := wn (sgS s0 j0)) (by omega)
          rw [put_totS hj2 (by rw [ptrW_length]; omega), put_totS hi' hp, grow_totS h3]
        rw [if_pos (by omega)]; exact h
      · cases h
theorem wr_dn (L l size : Nat) : ∀ d, WrDn L l (wrP L size d) (wrP l size d) (fun n => okN d n = true)
  | 0 => fun p ss i a s1 _ _ _ _ h _ => h
  | d + 1 => fun n ss i a s1 hn hk hi ha h hl => by
    simp only [wrP] at h ⊢
    split
    · rename_i hk0; rw [if_pos hk0] at h; exact h
    · rename_i hk0
      rw [if_neg hk0] at h
      split
      · rename_i hp; rw [if_pos hp] at h; exact h
      · rename_i hp
        rw [if_neg hp, Option.bind_eq_some_iff] at h
        obtain ⟨⟨s2, j, c⟩, h1, h2⟩ := h
        obtain ⟨k2, g2, hj, hc⟩ := room_some hk hi ha h1
        obtain ⟨k3, g3⟩ := fill_some (wr_some L size d) (ok_formN hn) (ok_within hn hk0) k2 hj hc h2
        rw [room_dn hk hi ha h1 (Nat.le_trans (grew_tot g3) hl), Option.bind_some]
        exact fill_dn (wr_some L size d) (wr_dn L l size d) (ok_formN hn) (ok_within hn hk0) k2 hj hc h2 hl
theorem SOKL (L : Nat) (hL : 1 ≤ L) : SOk L [zer 1] := ⟨fun i => by
  match i with
  | 0 => rfl
  | i + 1 => rfl, by decide, by decide, hL⟩
/-- the program's limit, and one that is never met. -/
theorem build_lim {size : Nat} {n : Nd} (hok : okN 8 n = true) (L : Nat) (hL : 200 ≤ L) : buildP 200 size n = (buildP L size n).bind fun ss => if totS ss ≤ 200 then some ss else none := by
  unfold buildP
  cases h : wrP L size 8 n [zer 1] 0 0 with
  | none =>
    cases h2 : wrP 200 size 8 n [zer 1] 0 0 with
    | none => rfl
    | some s => rw [wr_up size hL 8 _ _ _ _ _ h2] at h; cases h
  | some s =>
    rw [Option.bind_some]
    by_cases ht : totS s ≤ 200
    · rw [if_pos ht]
      exact wr_dn L 200 size 8 _ _ _ _ _ hok (SOKL L (by omega)) (by decide) (by decide) h ht
    · rw [if_neg ht]
      cases h2 : wrP 200 size 8 n [zer 1] 0 0 with
      | none => rfl
      | some s' =>
        have h3 := wr_up size hL 8 _ _ _ _ _ h2
        rw [h3] at h
        injection h with h
        subst h
        exact absurd (wr_some 200 size 8 _ _ _ _ _ hok (SOKL 200 (by omega)) (by decide) (by decide) h2).1.totS ht
end Go.Proofs.Ytbhmklbdfmgmlaa
