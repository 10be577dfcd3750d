/- Texts of the proof of the law FnSendShort, side by side: part 16. -/
import Derived.Lib.AppendZerosOnto
import Derived.Deep.QuietTactic
import Derived.BigQuiet
import Derived.Deep.DeepMust
import Derived.Maps.AppendAt
import Derived.Outline
import Derived.Test.YtbijfkpilncclaaGreatMSendShort00
import Derived.Test.YtbijfkpilncclaaGreatMSendShort01
import Derived.Test.YtbijfkpilncclaaGreatMSendShort02
import Derived.Test.YtbijfkpilncclaaGreatMSendShort03
import Derived.Test.YtbijfkpilncclaaGreatMSendShort04
import Derived.Test.YtbijfkpilncclaaGreatMSendShort05
import Derived.Test.YtbijfkpilncclaaGreatMSendShort06
import Derived.Test.YtbijfkpilncclaaGreatMSendShort07
import Derived.Test.YtbijfkpilncclaaGreatMSendShort08
import Derived.Test.YtbijfkpilncclaaGreatMSendShort09
import Derived.Test.YtbijfkpilncclaaGreatMSendShort10
import Derived.Test.YtbijfkpilncclaaGreatMSendShort11
import Derived.Test.YtbijfkpilncclaaGreatMSendShort12
import Derived.Test.YtbijfkpilncclaaGreatMSendShort13
import Derived.Test.YtbijfkpilncclaaGreatMSendShort14
import Derived.Test.YtbijfkpilncclaaGreatMSendShort15
namespace Go.Proofs.YtbijfkpilncclaaGreat
open Go.RowKit
abbrev wdsT : TypeId := 88
theorem infoWd : (Tryz.prog.info? wdT).map (fun i => (i.zero, i.size, i.bytes)) = some (some (.agg #[.int .u8 0, .int .u8 0, .int .u8 0, .int .u8 0, .int .u8 0, .int .u8 0, .int .u8 0, .int .u8 0]), 8, 8) := by kernel_rfl
abbrev zWd : Value := .agg #[.int .u8 0, .int .u8 0, .int .u8 0, .int .u8 0, .int .u8 0, .int .u8 0, .int .u8 0, .int .u8 0]
def zrow (k : Nat) : List Value := List.replicate (8 * k) (.int .u8 0)
theorem zrow_len (k : Nat) : (zrow k).length = k * 8 := by simp [zrow]; omega
theorem zrow_one (k : Nat) : ∀ u ∈ zrow k, u.oneCell' = true := fun u h => by rw [List.eq_of_mem_replicate h]; rfl
theorem zero_cellsW (k : Nat) : (Builtin.zeroCells zWd.cells k).toList = zrow k := by
  have hz : zWd.cells = #[.int .u8 0, .int .u8 0, .int .u8 0, .int .u8 0, .int .u8 0, .int .u8 0, .int .u8 0, .int .u8 0] := rfl
  rw [hz]
  apply List.ext_getElem?
  intro j
  rw [Array.getElem?_toList]
  unfold Builtin.zeroCells zrow
  rw [Array.getElem?_map, List.getElem?_replicate]
  by_cases hj : j < k * 8
  · rw [Array.getElem?_range, if_pos (by simpa using hj), if_pos (by omega)]
    simp only [Option.map_some]
    have hm : j % 8 = 0 ∨ j % 8 = 1 ∨ j % 8 = 2 ∨ j % 8 = 3 ∨ j % 8 = 4 ∨ j % 8 = 5 ∨ j % 8 = 6 ∨ j % 8 = 7 := by omega
    show some (#[Value.int .u8 0, .int .u8 0, .int .u8 0, .int .u8 0, .int .u8 0, .int .u8 0, .int .u8 0, .int .u8 0][j % 8]!) = _
    rcases hm with e | e | e | e | e | e | e | e <;> rw [e] <;> rfl
  · rw [Array.getElem?_range, if_neg (by simpa using hj), if_neg (by omega)]
    rfl
theorem run_append_zw (ty : TypeId) (w : World) (base : Nat) (hbase : base ≤ w.heap.size) (v : Value) (n : Nat) (xs : List Value) (hown : w.ownsRow base wdT 8 v n xs) (k : Nat) (hb : n + k ≤ 3000000) :
    ∃ v' w', (Builtin.append_ #[wdsT, 3] ty #[v, .int .i64 (k : Int)]).run Tryz.prog w = .ok v' w' ∧ w'.ownsRow base wdT 8 v' (n + k) (xs ++ zrow k) ∧ w.grownBy w' v.ownBlock ∧ (v'.ownBlock = v.ownBlock ∨ v'.ownBlock = some w.heap.size) := by
  obtain ⟨i0, hi, hz0, hz1, hz2⟩ := info_parts infoWd
  have hu : Tryz.prog.underlying wdsT = some (.slice wdT) := Tryz.underlying88
  have hti : Tryz.prog.underlying 3 = some (.int .i64) := Tryz.underlying3
  have hrl : (zrow k).length = k * 8 := zrow_len k
  have hlen : (xs ++ zrow k).length = (n + k) * 8 := by rw [List.length_append, hown.1, hrl, Nat.add_mul]
  have hzs : (Builtin.zeroCells zWd.cells k).size = k * 8 := by rw [size_zeroCells]; rfl
  have grown : ∀ (old : Nat), old < n + k → ∀ (row : Option Nat),
      (w.drew.alloc (.cells (xs.toArray ++ Builtin.zeroCells zWd.cells k ++ Builtin.zeroCells zWd.cells (grownCap w (n + k) old wdT - (n + k))) wdT)).ownsRow base wdT 8
        (.slice (some ⟨w.heap.size, 0, none⟩) (n + k) (grownCap w (n + k) old wdT)) (n + k) (xs ++ zrow k) ∧
      w.grownBy (w.drew.alloc (.cells (xs.toArray ++ Builtin.zeroCells zWd.cells k ++ Builtin.zeroCells zWd.cells (grownCap w (n + k) old wdT - (n + k))) wdT)) row := by
    intro old ho row
    have hge := grownCap_ge w (n + k) old wdT
    have hcm : grownCap w (n + k) old wdT ≤ maxLen := grownCap_le_maxLen w (n + k) old wdT (by unfold maxLen; omega)
    refine ⟨⟨hlen, .inr ⟨w.heap.size, _, _, rfl, hbase, heap_alloc_new w.drew _, hge, hcm, ?_, ?_⟩⟩, ⟨rfl, rfl, rfl, by simp, fun j hj _ => Below.heap_alloc w.drew _ j hj⟩⟩
    · have h1 : (Builtin.zeroCells zWd.cells (grownCap w (n + k) old wdT - (n + k))).size = (grownCap w (n + k) old wdT - (n + k)) * 8 := by rw [size_zeroCells]; rfl
      have h2 := hown.1
      simp only [Array.size_append, List.size_toArray, hzs, h1]
      omega
    · simp only [Array.toList_append, List.append_assoc, zero_cellsW]
      rw [← List.append_assoc, ← hlen]
      exact List.take_left
  rcases hown.2 with ⟨rfl, rfl⟩ | ⟨g, cap, cur, rfl, hbg, hg, hnc, hcm, hcs, htake⟩
  · have hx : xs = [] := List.eq_nil_of_length_eq_zero (by simpa using hown.1)
    subst hx
    by_cases hm : k = 0
    · subst hm
      refine ⟨.slice none 0 0, w, ?_, World.ownsRow_nil w base wdT 8, ⟨rfl, rfl, rfl, Nat.le_refl _, fun _ _ _ => rfl⟩, .inl rfl⟩
      simp [Builtin.append_, run_underlying hu, run_underlying hti, sizeOf, typeInfo, hi, asInt, asIntOf, IntKind.wrap_i64]
    · have hr := Lib.run_append_nil_zeros (P := Tryz.prog) w wdsT 3 ty wdT i0 _ .i64 .i64 hu hti hi hz0 k (by omega) (by rw [hz1]; decide) (by omega) (by rw [hz2]; omega)
      have hgr := grown 0 (by omega) (Value.ownBlock (.slice none 0 0))
      simp only [Nat.zero_add, List.nil_append, Array.empty_append] at hgr ⊢
      exact ⟨_, _, hr, hgr.1, hgr.2, Or.inr rfl⟩
  · by_cases hroom : n + k ≤ cap
    · have hst := run_storeCells_at Tryz.prog g (n * 8) wdT (zrow k) 0 cur w hg (by rw [hrl, hcs]; omega) (zrow_one _)
      simp only [Nat.add_zero] at hst
      have hr : (Builtin.append_ #[wdsT, 3] ty #[.slice (some ⟨g, 0, none⟩) n cap, .int .i64 (k : Int)]).run Tryz.prog w = .ok (.slice (some ⟨g, 0, none⟩) (n + k) cap) (w.setRow g (cur.toList.take (n * 8) ++ zrow k ++ cur.toList.drop (n * 8 + (zrow k).length)).toArray) := by
        have hw : IntKind.i64.wrap (k : Int) = k := by rw [IntKind.wrap_i64]; omega
        have hneg : ¬ ((k : Int) < 0) := by omega
        have h48i : ¬ (281474976710656 < (k : Int) * 8) := by omega
        by_cases hk0 : k = 0
        · subst hk0
          have hst0 := hst
          simp [zrow, storeCells] at hst0
          simp [Builtin.append_, run_underlying hu, run_underlying hti, sizeOf, typeInfo, hi, hz2, asInt, asIntOf, hnc, IntKind.wrap_i64, storeCells, zrow]
          exact hst0
        · have hns : ¬ (k * 8 = 0) := by omega
          simp [Builtin.append_, run_underlying hu, run_underlying hti, sizeOf, typeInfo, zeroValue, hi, hz0, hz1, hz2, asInt, asIntOf, hw, hneg, h48i, hns, hroom, Addr.add_lit, zero_cellsW, hst]
      refine ⟨_, _, hr, ⟨hlen, .inr ⟨g, cap, _, rfl, hbg, setRow_heap w g cur _ wdT _ hg, hroom, hcm, ?_, ?_⟩⟩, ⟨rfl, rfl, rfl, by simp, fun k _ hk => setRow_other w g k _ (fun e => hk (by simp [Value.ownBlock, e]))⟩, Or.inl rfl⟩
      · simp only [List.size_toArray, List.length_append, List.length_take, List.length_drop, Array.length_toList]
        omega
      · rw [htake, ← hlen]
        exact List.take_left
    · have holds : ∀ j u, xs[j]? = some u → w.cell? ((⟨g, 0, none⟩ : Addr).add j) = some u := hown.cells (g := g) rfl
      have hold : (Builtin.firstCells i0.size n (.slice (some ⟨g, 0, none⟩) n cap)).run Tryz.prog w.drew = .ok xs.toArray w.drew := by
        rw [hz1]
        exact run_firstCells_some (P := Tryz.prog) w.drew 8 n ⟨g, 0, none⟩ n cap xs hown.1 (by simpa using holds)
      have hr := Lib.run_append_grow_zeros (P := Tryz.prog) w wdsT 3 ty wdT i0 _ .i64 .i64 hu hti hi hz0 (some ⟨g, 0, none⟩) n cap xs hold k (by omega) (by rw [hz1]; decide) (by omega) (by omega) (by rw [hz2]; omega) (by rw [hz2]; exact growslice_fits (by omega) (by omega))
      have hgr := grown cap (by omega) (Value.ownBlock (.slice (some ⟨g, 0, none⟩) n cap))
      exact ⟨_, _, hr, hgr.1, hgr.2, Or.inr rfl⟩
theorem own_sliceW {w : World} {B T sz n : Nat} {v : Value} {xs : List Value} (h : w.ownsRow B T sz v n xs) : ∃ A c, v = .slice A n c := by
  rcases h.2 with ⟨rfl, rfl⟩ | ⟨g, cap, _, rfl, _⟩
  · exact ⟨none, 0, rfl⟩
  · exact ⟨_, cap, rfl⟩
theorem wpList_append_zw {ops : Array Oper} {rest : List Oper} {o : Oper} {a : Act} {w : World} {Q : Exit → Act → World → Prop} (hgd : o.guard = none) (s x : Operand)
    (ho : o.op = .call { callee := .builtin .append, args := #[s, x], argTypes := #[wdsT, 3] }) (base : Nat) (hbase : base ≤ w.heap.size)
    (v : Value) (n : Nat) (xs : List Value) (hs : a.eval s = v) (hown : w.ownsRow base wdT 8 v n xs) (k : Nat) (hx : a.eval x = .int .i64 (k : Int)) (hb : n + k ≤ 3000000)
    (h : ∀ A' c' w', Hid (w'.ownsRow base wdT 8 (.slice A' (n + k) c') (n + k) (xs ++ zrow k)) → Hid (w.grownBy w' v.ownBlock) → Hid ((Value.slice A' (n + k) c').ownBlock = v.ownBlock ∨ (Value.slice A' (n + k) c').ownBlock = some w.heap.size) → wpList Tryz.prog ops Q rest (a.put o.dst (.slice A' (n + k) c')) w') :
    wpList Tryz.prog ops Q (o :: rest) a w :=
  wpList_plain hgd fun K hK => by
    obtain ⟨v', w', hr, h2, h3, h5⟩ := run_append_zw o.type w base hbase v n xs hown k hb
    obtain ⟨A', c', rfl⟩ := own_sliceW h2
    unfold Oper.wp execOp
    simp only [ho, resolve, invoke, builtin, Sem.run_bind, Sem.run_pure, Result.andThen_ok, List.map_toArray, List.map_cons, List.map_nil, hs, hx, hr]
    exact hK _ _ (h A' c' w' h2 h3 h5)
end Go.Proofs.YtbijfkpilncclaaGreat

namespace Go.Proofs.YtbijfkpilncclaaGreat
open Go.RowKit Go.Deep
abbrev tmT : TypeId := 113
theorem infoPs : (Tryz.prog.info? psgT).map (fun i => (i.zero, i.size, i.bytes)) = some (some (.pointer none), 1, 8) := by kernel_rfl
def Too (P : Nat → Prop) (w : World) (e : Ending) (w' : World) : Prop := e = .panicked [{ v := .iface tmT (.agg #[]), recovered := false }] ∧ KP P w w'
def OpenB (base b size : Nat) (ss : Segs) (P : Nat → Prop) (w : World) (e : Ending) (w' : World) : Prop :=
  e = .returned (.int .i64 (ss.length : Int)) ∧ KP P w w' ∧ Bun w' base b size (ss ++ [[]]) (fun k => P k ∨ w.heap.size ≤ k)
set_option maxHeartbeats 2000000 in
set_option maxRecDepth 100000 in
theorem open_full (base b size : Nat) (ss : Segs) (P : Nat → Prop) (w : World) (h : Bun w base b size ss P) (h6 : ss.length = 6) :
    Calls Tryz.prog 40 #[.pointer (some ⟨b, 0, none⟩)] w (Too P w) := by
  obtain ⟨row, g, v, hB, hP⟩ := h
  obtain ⟨r, cap, rfl, hrow⟩ := hB.row (i := 0) (by omega)
  obtain ⟨c0, c1, c2⟩ := cells3 hB.hb
  rw [h6] at c0
  clear hB hP hrow h6
  go_enter Tryz.func40, Tryz.ntmps40
  go_wp2
  exact ⟨rfl, rfl, KP.refl _ _⟩
theorem cell_second (w : World) (o : Obj) (v : Value) (T : TypeId) : ∀ (j : Nat) (u : Value), [v][j]? = some u → ((w.alloc o).alloc (.cells #[v] T)).cell? ((⟨w.heap.size + 1, 0, none⟩ : Addr).add j) = some u := by
  intro j u h
  have := cell_one_new (w.alloc o) v T j u h
  simpa using this
set_option maxHeartbeats 2000000 in
set_option maxRecDepth 100000 in
theorem open_more (base b size : Nat) (ss : Segs) (P : Nat → Prop) (w : World) (h : Bun w base b size ss P) (h6 : ss.length < 6) :
    Calls Tryz.prog 40 #[.pointer (some ⟨b, 0, none⟩)] w (OpenB base b size ss P w) := by
  obtain ⟨i0, hi, hz0, hz1, hz2⟩ := info_parts infoPs
  obtain ⟨row, g, v, hB, hP⟩ := h
  obtain ⟨A, cap, rfl⟩ := own_sliceW hB.hr
  have hbl := hB.lt b (.inl rfl)
  have hb1 : ((ss.length : Int) == 6) = false := by simp; omega
  have hwa : Below w.heap.size w ((w.alloc (.cells #[.slice none 0 0] sgT)).alloc (.cells #[.pointer (some ⟨w.heap.size, 0, none⟩)] psgT)) := ((Below.refl _ w).alloc (Nat.le_refl _) _).alloc (by simp) _
  have hwn : ((w.alloc (.cells #[.slice none 0 0] sgT)).alloc (.cells #[.pointer (some ⟨w.heap.size, 0, none⟩)] psgT)).heap[w.heap.size]? = some (.cells #[.slice none 0 0] sgT (0, 0)) := heap_alloc_keep (heap_alloc_new w _) _
  obtain ⟨c0, c1, c2⟩ := cells3 hB.hb
  have HR := Lib.hid (own_keepB hB.hr (fun k e => hwa.block k (hB.hr.lt k e).2))
  have HB := Lib.hid hB
  have HWA := Lib.hid hwa
  have HWN := Lib.hid hwn
  have HP := Lib.hid hP
  have HL := Lib.hid h6
  clear hB hP hwa hwn
  go_enter Tryz.func40, Tryz.ntmps40
  go_wp2_with (at_builtin; refine wpList_append_own_at _ rfl (.tmp 15) (.tmp 17) 55 rfl base psgT i0 (.pointer none) 1 8 Tryz.underlying55 hi hz0 hz1 hz2 rfl (by decide) _ ss.length _ rfl ((HB.out.hr.alloc _).alloc _) ⟨w.heap.size + 1, 0, none⟩ 1 1 [.pointer (some ⟨w.heap.size, 0, none⟩)] ?c0 rfl ?c1 (by simp [Value.oneCell']) (by unfold maxLen; omega) (by omega) (by simp; omega) ?_)
  case c0 => rfl
  case c1 => exact cell_second _ _ _ _
  intro v' w1 hown' hgrow _ hat
  obtain ⟨A', c', rfl⟩ := own_sliceW hown'
  have hB1 := HB.out.more (by omega) HWA.out HWN.out _ hown' hgrow
  have hb1 := hB1.hb
  have hbr : (w1.setCell ⟨b, 0, none⟩ (.slice A' (ss.length + 1) c')).heap[b]? = some (.cells #[.slice A' (ss.length + 1) c', .int .i64 size, .int .i64 (totS ss : Nat)] buT (0, 0)) := hb1
  have hk1 : KP P w w1 := ⟨hgrow.os.trans HWA.out.os, hgrow.tape.trans HWA.out.tape, hgrow.output.trans HWA.out.output, Nat.le_trans HWA.out.size hgrow.size, fun k hk hn => (hgrow.block k (by simp; omega) (fun e => hn (HP.out k (.inr (.inl e.symm))))).trans (HWA.out.block k hk)⟩
  have hk2 : KP P w (w1.setCell ⟨b, 0, none⟩ (.slice A' (ss.length + 1) c')) := hk1.trans (KP.set (HP.out b (.inl rfl)) w1 0 _) (fun _ _ h => h)
  have hfin : Bun (w1.setCell ⟨b, 0, none⟩ (.slice A' (ss.length + 1) c')) base b size (ss ++ [[]]) (fun k => P k ∨ w.heap.size ≤ k) := by
    refine ⟨_, _, _, by rw [totS_app]; exact hB1, ?_⟩
    rintro k (rfl | e | ⟨i, hi, e | e⟩)
    · exact .inl (HP.out _ (.inl rfl))
    · rcases hat with e2 | e2
      · exact .inl (HP.out _ (.inr (.inl (by rw [← e2]; exact e))))
      · rw [e2] at e; injection e with e; right; omega
    · rw [e]; dsimp only; split
      · exact .inr (Nat.le_refl _)
      · exact .inl (HP.out _ (.inr (.inr ⟨i, by simp at hi; omega, .inl rfl⟩)))
    · dsimp only at e; split at e
      · cases e
      · exact .inl (HP.out _ (.inr (.inr ⟨i, by simp at hi; omega, .inr e⟩)))
  have cb := cells3 hbr
  have hfr : w1.frozen? ⟨b, 0, none⟩ = false ∧ (∃ u, w1.cell? ⟨b, 0, none⟩ = some u) := by
    have h1 : w1.heap[b]? = some (.cells #[.slice A ss.length cap, .int .i64 size, .int .i64 (totS ss : Nat)] buT (0, 0)) := (hgrow.block b (by simp; omega) (fun e => by obtain ⟨c, hc⟩ := own_T HB.out.hr e.symm; exact ne_T HB.out.hb hc (by decide) rfl)).trans ((HWA.out.block b hbl.2).trans HB.out.hb)
    exact ⟨row_free h1 0, _, (cells3 h1).1⟩
  obtain ⟨hf0, u0, hu0⟩ := hfr
  have HK := Lib.hid hk2
  have HF := Lib.hid hfin
  have hc0 := cb.1
  clear hb1 hbr hk1 hk2 hfin cb hown' hgrow hat hB1 c0 c1 c2
  go_wp2
  go_ret
  exact ⟨rfl, HK.out, HF.out⟩
end Go.Proofs.YtbijfkpilncclaaGreat

namespace Go.Proofs.YtbijfkpilncclaaGreat
open Go.RowKit Go.Deep
abbrev plT : TypeId := 60
def Grown (base b size : Nat) (ss : Segs) (i k : Nat) (P : Nat → Prop) (w : World) (e : Ending) (w' : World) : Prop :=
  e = .returned (.agg #[.int .i64 (i : Nat), .int .i64 (wn (sgS ss i) : Nat)]) ∧ KP P w w' ∧ Bun w' base b size (growB ss i k) (fun k => P k ∨ w.heap.size ≤ k)
set_option maxHeartbeats 2000000 in
set_option maxRecDepth 100000 in
theorem grow_much (base b size : Nat) (ss : Segs) (P : Nat → Prop) (w : World) (h : Bun w base b size ss P) (i k : Nat) (ht : totS ss ≤ 200) (hk : k ≤ 100000) (hm : 200 < totS ss + k) :
    Calls Tryz.prog 39 #[.pointer (some ⟨b, 0, none⟩), .int .i64 (i : Int), .int .i64 (k : Int)] w (Too P w) := by
  obtain ⟨row, g, v, hB, hP⟩ := h
  obtain ⟨c0, c1, c2⟩ := cells3 hB.hb
  have hf := row_free hB.hb 2
  have hbl := hB.lt b (.inl rfl)
  have hd : decide (200 < (totS ss : Int) + (k : Int)) = true := decide_eq_true (by omega)
  have HP := Lib.hid (hP b (.inl rfl))
  generalize totS ss = t at *
  clear hB hP
  go_enter Tryz.func39, Tryz.ntmps39
  go_wp2
  exact ⟨rfl, rfl, (KP.set HP.out _ 2 _).trans (KP.of_below ((Below.refl _ _).alloc (Nat.le_refl _) _)) (fun _ _ h => h)⟩
theorem Bun.other {w : World} {base b size N : Nat} {ss : Segs} {P : Nat → Prop} {x : Array Value} {T : TypeId} (h : Bun w base b size ss P) (hN : w.heap[N]? = some (.cells x T (0, 0))) (hT : T ≠ buT ∧ T ≠ psgT ∧ T ≠ sgT ∧ T ≠ wdT) (i : Nat) (u : Value) : Bun (w.setCell ⟨N, i, none⟩ u) base b size ss P := by
  obtain ⟨row, g, v, hB, hP⟩ := h
  refine ⟨row, g, v, hB.keep (fun k hk => Below.heap_setCell w ⟨N, i, none⟩ u k ?_), hP⟩
  show k ≠ N
  rcases hk with rfl | e | ⟨j, hj, rfl | e⟩
  · exact ne_T hB.hb hN (fun e => hT.1 e.symm)
  · obtain ⟨c, hc⟩ := own_T hB.hr e
    exact ne_T hc hN (fun e => hT.2.1 e.symm)
  · exact ne_T (hB.hg j hj) hN (fun e => hT.2.2.1 e.symm)
  · obtain ⟨c, hc⟩ := own_T (hB.ho j hj) e
    exact ne_T hc hN (fun e => hT.2.2.2 e.symm)
theorem bu_alloc2 {w : World} {base b size W : Nat} {ss : Segs} {row : Value} {g : Nat → Nat} {v : Nat → Value} (h : Bu w base b size W ss row g v) (o o' : Obj) : Bu ((w.alloc o).alloc o') base b size W ss row g v :=
  h.keep (fun k hk => (((Below.refl w.heap.size w).alloc (Nat.le_refl _) o).alloc (by simp) o').block k (h.lt k hk).2)
set_option maxHeartbeats 2000000 in
set_option maxRecDepth 100000 in
theorem grow_more (base b size : Nat) (ss : Segs) (P : Nat → Prop) (w : World) (h : Bun w base b size ss P) (hw8 : WdS ss) (i k : Nat) (hi : i < ss.length) (hm : totS ss + k ≤ 200) :
    Calls Tryz.prog 39 #[.pointer (some ⟨b, 0, none⟩), .int .i64 (i : Int), .int .i64 (k : Int)] w (Grown base b size ss i k P w) := by
  obtain ⟨row, g, v, hB, hP⟩ := h
  have hbl := hB.lt b (.inl rfl)
  have hB1 := hB.words (totS ss + k)
  have hk1 : KP P w (w.setCell ⟨b, 2, none⟩ (.int .i64 (totS ss + k : Nat))) := KP.set (hP b (.inl rfl)) w 2 _
  have hs1 : (w.setCell ⟨b, 2, none⟩ (.int .i64 (totS ss + k : Nat))).heap.size = w.heap.size := by simp [World.setCell]
  have hcast : ((totS ss + k : Nat) : Int) = (totS ss : Int) + (k : Int) := by omega
  rw [hcast] at hB1 hk1 hs1
  obtain ⟨c0, c1, c2⟩ := cells3 hB.hb
  have hf := row_free hB.hb 2
  obtain ⟨r, cap, hrow, hcr⟩ := hB1.row hi
  obtain ⟨A, cp, hv, hcg, hfg⟩ := hB1.seg hi
  obtain ⟨d0, d1, d2⟩ := cells3 hB1.hb
  have hlt : (i : Int) < (ss.length : Int) := by omega
  have hd : decide (200 < (totS ss : Int) + (k : Int)) = false := decide_eq_false (by omega)
  have hgl := hB1.lt (g i) (.inr (.inr ⟨i, hi, .inl rfl⟩))
  rw [hrow] at c0 d0
  rw [hv] at hcg
  have HB1 := Lib.hid hB1
  have HK1 := Lib.hid hk1
  have HP := Lib.hid hP
  have HV := Lib.hid hv
  have HROW := Lib.hid hrow
  have hcri := hcr i hi
  have hwi := wn_le_totS ss i
  have hal : ∀ {p : Addr} {u : Value}, (w.setCell ⟨b, 2, none⟩ (.int .i64 ((totS ss : Int) + (k : Int)))).cell? p = some u → (∀ o, ((w.setCell ⟨b, 2, none⟩ (.int .i64 ((totS ss : Int) + (k : Int)))).alloc o).cell? p = some u) ∧ (∀ o o', (((w.setCell ⟨b, 2, none⟩ (.int .i64 ((totS ss : Int) + (k : Int)))).alloc o).alloc o').cell? p = some u) := fun {p u} h => by
    have hlt := World.block_lt_of_cell? _ _ h
    have h1 : ∀ o, ((w.setCell ⟨b, 2, none⟩ (.int .i64 ((totS ss : Int) + (k : Int)))).alloc o).cell? p = some u := fun o => by rw [World.cell?_alloc_lt _ _ _ hlt]; exact h
    exact ⟨h1, fun o o' => by rw [World.cell?_alloc_lt _ _ _ (by simp; omega)]; exact h1 o⟩
  obtain ⟨p1, p2⟩ := hal hcri
  obtain ⟨q1, q2⟩ := hal hcg
  obtain ⟨r1, r2⟩ := hal d0
  have HO := Lib.hid (HB1.out.ho i hi)
  rw [HV.out] at HO
  clear hB hB1 hk1 hP hcr hcast hv hrow hal d0 d1 d2 hcri hcg
  go_enter Tryz.func39, Tryz.ntmps39
  go_wp2_with (refine wpList_append_zw rfl (.tmp 42) (.tmp 43) rfl base ?b0 _ (wn (sgS ss i)) _ rfl ((HO.out.alloc _).alloc _) k rfl (by omega) ?_)
  case b0 => simp; omega
  intro A' c' w2 hown hgrow hat
  have hBa := bu_alloc2 HB1.out (.cells #[.int .i64 0, .int .i64 0] plT) (.cells #[.int .i64 (i : Int), .int .i64 (wn (sgS ss i) : Int)] plT)
  have hne : ∀ m, (v i).ownBlock = some m → m < w.heap.size := fun m e => by have := (HB1.out.lt m (.inr (.inr ⟨i, hi, .inr e⟩))).2; omega
  have hgr2 := hgrow.out
  rw [← HV.out] at hgr2
  have hB2 := hBa.grow (by simp; omega) hi hw8 (.slice A' (wn (sgS ss i) + k) c') hown.out hgr2 (by rw [HV.out]; simpa using hat.out)
  have hp0 : w2.heap[w.heap.size]? = some (.cells #[.int .i64 0, .int .i64 0] plT (0, 0)) := (hgr2.block _ (by simp; omega) (fun e => by have := hne _ e.symm; omega)).trans (by rw [← hs1]; exact heap_alloc_keep (heap_alloc_new _ _) _)
  have hp1 : w2.heap[w.heap.size + 1]? = some (.cells #[.int .i64 (i : Int), .int .i64 (wn (sgS ss i) : Int)] plT (0, 0)) := (hgr2.block _ (by simp) (fun e => by have := hne _ e.symm; omega)).trans (by
    have := heap_alloc_new ((w.setCell ⟨b, 2, none⟩ (.int .i64 ((totS ss : Int) + (k : Int)))).alloc (.cells #[.int .i64 0, .int .i64 0] plT)) (.cells #[.int .i64 (i : Int), .int .i64 (wn (sgS ss i) : Int)] plT)
    rwa [show ((w.setCell ⟨b, 2, none⟩ (.int .i64 ((totS ss : Int) + (k : Int)))).alloc (.cells #[.int .i64 0, .int .i64 0] plT)).heap.size = w.heap.size + 1 by simp] at this)
  have hg2 : w2.heap[g i]? = some (.cells #[.slice A (wn (sgS ss i)) cp] sgT (0, 0)) := (hgr2.block _ (by simp; omega) (fun e => by obtain ⟨c, hc⟩ := own_T (hBa.ho i hi) e.symm; exact ne_T (hBa.hg i hi) hc (by decide) rfl)).trans (by rw [hBa.hg i hi, HV.out])
  have hs2 := hgr2.size
  have hfr := row_free hg2 0
  have hcc : w2.cell? ⟨g i, 0, none⟩ = some (.slice A (wn (sgS ss i)) cp) := by rw [cell_of_row _ _ _ _ _ _ hg2]; rfl
  have hp0' := (Below.heap_setCell w2 ⟨g i, 0, none⟩ (.slice A' (wn (sgS ss i) + k) c') w.heap.size (by show w.heap.size ≠ g i; omega)).trans hp0
  have hp1' := (Below.heap_setCell w2 ⟨g i, 0, none⟩ (.slice A' (wn (sgS ss i) + k) c') (w.heap.size + 1) (by show w.heap.size + 1 ≠ g i; omega)).trans hp1
  have k2 := HK1.out.trans (KP.of_below (((Below.refl _ _).alloc (Nat.le_refl _) (.cells #[.int .i64 0, .int .i64 0] plT)).alloc (by simp) (.cells #[.int .i64 (i : Int), .int .i64 (wn (sgS ss i) : Int)] plT))) (fun _ _ h => h)
  have k3 := k2.trans (Q := P) (KP.mk hgr2.os hgr2.tape hgr2.output hgr2.size (fun m hm hn => hgr2.block m hm (fun e => hn (HP.out m (.inr (.inr ⟨i, hi, .inr e.symm⟩)))))) (fun _ _ h => h)
  have hkp := k3.trans (KP.set (HP.out _ (.inr (.inr ⟨i, hi, .inl rfl⟩))) w2 0 (.slice A' (wn (sgS ss i) + k) c')) (fun _ _ h => h)
  have hbun : Bun (w2.setCell ⟨g i, 0, none⟩ (.slice A' (wn (sgS ss i) + k) c')) base b size (growB ss i k) (fun k => P k ∨ w.heap.size ≤ k) := by
    refine ⟨_, _, _, by rw [grow_totS hi]; exact hB2, ?_⟩
    rintro m (rfl | e | ⟨j, hj, e | e⟩)
    · exact .inl (HP.out _ (.inl rfl))
    · exact .inl (HP.out _ (.inr (.inl e)))
    · exact .inl (HP.out _ (.inr (.inr ⟨j, by rwa [growB_length] at hj, .inl e⟩)))
    · rw [growB_length] at hj
      dsimp only at e; split at e
      · rcases hat.out with e2 | e2
        · exact .inl (HP.out _ (.inr (.inr ⟨i, hi, .inr (by rw [HV.out, ← e2]; exact e)⟩)))
        · rw [e2] at e; injection e with e; right; omega
      · exact .inl (HP.out _ (.inr (.inr ⟨j, hj, .inr e⟩)))
  have hsz : w.heap.size + 1 < w2.heap.size := by simp at hs2; omega
  have hsz' : (w2.setCell ⟨g i, 0, none⟩ (.slice A' (wn (sgS ss i) + k) c')).heap.size = w2.heap.size := by simp [World.setCell]
  have HKP := Lib.hid hkp
  have HBU := Lib.hid hbun
  have HP0 := Lib.hid hp0'
  have HP1 := Lib.hid hp1'
  obtain ⟨n00, n01⟩ := cell_pair hp0
  obtain ⟨n10, n11⟩ := cell_pair hp1
  have f00 := row_free hp0 0
  have f01 := row_free hp0 1
  clear k2 k3 hBa hne hgr2 hB2 hp0 hp1 hg2 hs2 hp0' hp1' hkp hbun p1 p2 q1 q2 r1 r2 hown hgrow hat HO hw8
  go_wp2_with fail
  have hrow := row_setN (row_setN HP0.out 0 (.int .i64 (i : Int))) 1 (.int .i64 (wn (sgS ss i) : Int))
  have k5 : KP (fun m => w.heap.size ≤ m) (w2.setCell ⟨g i, 0, none⟩ (.slice A' (wn (sgS ss i) + k) c')) (((w2.setCell ⟨g i, 0, none⟩ (.slice A' (wn (sgS ss i) + k) c')).setCell ⟨w.heap.size, 0, none⟩ (.int .i64 (i : Int))).setCell ⟨w.heap.size, 1, none⟩ (.int .i64 (wn (sgS ss i) : Int))) := (KP.set (Nat.le_refl _) _ 0 _).trans (KP.set (Nat.le_refl _) _ 1 _) (fun _ _ h => h)
  obtain ⟨e0, e1⟩ := cell_pair hrow
  refine bodyPost_ret (v := .agg #[.int .i64 (i : Int), .int .i64 (wn (sgS ss i) : Int)]) (by simp [results, Tryz.results39, go_sem, e0, e1]) rfl ⟨rfl, ?_, ?_⟩
  · exact HKP.out.trans k5 (fun m h1 h2 => by omega)
  · exact (HBU.out.other HP0.out (by decide) 0 _).other (row_setN HP0.out 0 _) (by decide) 1 _
end Go.Proofs.YtbijfkpilncclaaGreat

namespace Go.Proofs.YtbijfkpilncclaaGreat
open Go.RowKit Go.Deep
def fitS (size : Nat) (ss : Segs) (i k : Nat) : Bool := decide (wn (sgS ss i) + k ≤ size)
set_option maxHeartbeats 2000000 in
set_option maxRecDepth 100000 in
theorem fits_any (base b size : Nat) (ss : Segs) (P : Nat → Prop) (w : World) (h : Bun w base b size ss P) (i k : Nat) (hi : i < ss.length) (hz : size ≤ 100000) (hk : k ≤ 100000) (ht : totS ss ≤ 100000) :
    Calls Tryz.prog 115 #[.pointer (some ⟨b, 0, none⟩), .int .i64 (i : Int), .int .i64 (k : Int)] w fun e w' => e = .returned (.bool (fitS size ss i k)) ∧ Below w.heap.size w w' := by
  obtain ⟨row, g, v, hB, hP⟩ := h
  obtain ⟨c0, c1, c2⟩ := cells3 hB.hb
  obtain ⟨r, cap, rfl, hcr⟩ := hB.row hi
  obtain ⟨A, cp, hv, hcg, hfg⟩ := hB.seg hi
  rw [hv] at hcg
  have hcri := hcr i hi
  have hlt : (i : Int) < (ss.length : Int) := by omega
  have hwi := wn_le_totS ss i
  obtain ⟨B, hBB⟩ : ∃ B, fitS size ss i k = B := ⟨_, rfl⟩
  have hd : decide ((wn (sgS ss i) : Int) + (k : Int) ≤ (size : Int)) = B := by rw [← hBB]; unfold fitS; rw [Bool.eq_iff_iff]; simp; omega
  rw [hBB]
  clear hBB hB hP hcr hfg hv
  generalize wn (sgS ss i) = x at *
  generalize totS ss = t at *
  generalize g i = gi at *
  cases B
  all_goals
    go_enter Tryz.func115, Tryz.ntmps115
    go_wp2_with fail
    go_quiet (fail)
    go_wp2
    go_ret
    exact ⟨rfl, ⟨rfl, rfl, rfl, Nat.le_refl _, fun _ _ => rfl⟩⟩
set_option maxHeartbeats 2000000 in
theorem behind_any (i a k : Nat) (w : World) (ha : a ≤ 1000000) (hk : k ≤ 1000000) :
    Calls Tryz.prog 114 #[.agg #[.int .i64 (i : Int), .int .i64 (a : Int)], .int .i64 (k : Int)] w fun e w' => e = .returned (.agg #[.int .i64 (i : Int), .int .i64 (a + k : Nat)]) ∧ Below w.heap.size w w' := by
  go_enter Tryz.func114, Tryz.ntmps114
  go_wp2
  refine bodyPost_ret (v := .agg #[.int .i64 (i : Int), .int .i64 ((a : Int) + (k : Int))]) (by simp [results, Tryz.results114, go_sem]) rfl ⟨by simp, ?_⟩
  exact ((Below.refl _ _).alloc (Nat.le_refl _) _).alloc (by simp) _
end Go.Proofs.YtbijfkpilncclaaGreat
