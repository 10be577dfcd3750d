/- Texts of the proof of the law FnExactDatumSame, side by side: part 5. -/
import Derived.Deep.RegionLaw
import Derived.Deep.RegionWith
import Derived.BigQuiet
import Derived.LaidEqlPtr
import Derived.Laws.StructEq
import Derived.MapKept
import Derived.Deep.LoopGhost
import Derived.Carry
import Derived.Deep.RegionHeld3
import Derived.Test.YtkimkhgigbejkabMExactDatumSame00
import Derived.Test.YtkimkhgigbejkabMExactDatumSame01
import Derived.Test.YtkimkhgigbejkabMExactDatumSame02
import Derived.Test.YtkimkhgigbejkabMExactDatumSame03
import Derived.Test.YtkimkhgigbejkabMExactDatumSame04
/- Pairs of values: rows of them, pairsOf. -/
namespace Go.Proofs.Ytkimkhgigbejkab
open Go.RowKit Go.Deep
abbrev prTD : TypeId := 83
abbrev prsTD : TypeId := 84
theorem infoPrD : (Try.prog.info? prTD).map (fun i => (i.zero, i.size, i.bytes)) = some (some (.agg #[.pointer none, .pointer none]), 2, 16) := by kernel_rfl
/-- the cells of pairs side by side. -/
def rowPD : List DPT → List Value
  | [] => []
  | t :: r => .pointer (some t.1.1) :: .pointer (some t.1.2) :: rowPD r
theorem rowP_lengthD : ∀ G, (rowPD G).length = G.length * 2
  | [] => rfl
  | t :: r => by simp only [rowPD, List.length_cons, rowP_lengthD r]; omega
theorem rowP_appD : ∀ (G H : List DPT), rowPD (G ++ H) = rowPD G ++ rowPD H
  | [], _ => rfl
  | t :: r, H => by rw [List.cons_append, rowPD, rowP_appD r H]; rfl
theorem rowP_oneD : ∀ (G : List DPT), ∀ u ∈ rowPD G, u.oneCell' = true
  | [], _, h => by cases h
  | t :: r, u, h => by
    rcases List.mem_cons.1 h with rfl | h
    · rfl
    rcases List.mem_cons.1 h with rfl | h
    · rfl
    exact rowP_oneD r u h
theorem rowP_lastD (G : List DPT) (t : DPT) : (rowPD (G ++ [t]))[G.length * 2]? = some (.pointer (some t.1.1)) ∧ (rowPD (G ++ [t]))[G.length * 2 + 1]? = some (.pointer (some t.1.2)) := by
  rw [rowP_appD]
  have h := rowP_lengthD G
  constructor
  · rw [List.getElem?_append_right (by omega), h, Nat.sub_self]; rfl
  · rw [List.getElem?_append_right (by omega), h, show G.length * 2 + 1 - G.length * 2 = 1 by omega]; rfl
theorem run_append_ptsD (base base2 : Nat) (ty : TypeId) (w : World) (v v2 : Value) (n : Nat) (xs : List Value) (G : List DPT) (hown : w.ownsRow base prTD 2 v n xs) (h2 : w.ownsRow base2 prTD 2 v2 G.length (rowPD G)) (hb : n + G.length ≤ 4000002) (hbase : base ≤ w.heap.size) :
    ∃ v' w', (Builtin.append_ #[prsTD, prsTD] ty #[v, v2]).run Try.prog w = .ok v' w' ∧ w'.ownsRow base prTD 2 v' (n + G.length) (xs ++ rowPD G) ∧ w.grownBy w' v.ownBlock := by
  obtain ⟨i0, hi, hz0, hz1, hz2⟩ := info_parts infoPrD
  have hlen := rowP_lengthD G
  rcases h2.2 with ⟨rfl, h0⟩ | ⟨g, cap, cur, rfl, _, _⟩
  · obtain rfl := List.eq_nil_of_length_eq_zero h0
    exact ⟨v, w, run_append_owned_none (P := Try.prog) w base prsTD ty prTD i0 2 Try.underlying84 hi v n xs hown, by simpa [rowPD] using hown, ⟨rfl, rfl, rfl, Nat.le_refl _, fun _ _ _ => rfl⟩⟩
  · obtain ⟨v', w', h1, h3, h4, _⟩ := run_append_own (P := Try.prog) w base prsTD ty prTD i0 _ 2 16 Try.underlying84 hi hz0 hz1 hz2 rfl (by decide) v n xs hown ⟨g, 0, none⟩ G.length cap (rowPD G) hlen (fun j u hj => h2.cells (g := g) rfl j u hj) (rowP_oneD G) (by unfold maxLen; omega) (by omega) hbase
    exact ⟨v', w', h1, h3, h4⟩
theorem step_append_ptsD {ops : Array Oper} {o : Oper} {a : Act} {w : World} {K : Act → World → Prop} {Q : Exit → Act → World → Prop} {E : Prop} (hgd : o.guard = none) (s x : Operand)
    (ho : o.op = .call { callee := .builtin .append, args := #[s, x], argTypes := #[prsTD, prsTD] })
    (base base2 : Nat) (v v2 : Value) (n : Nat) (xs : List Value) (G : List DPT) (hs : a.eval s = v) (hx : a.eval x = v2) (hown : w.ownsRow base prTD 2 v n xs) (h2 : w.ownsRow base2 prTD 2 v2 G.length (rowPD G)) (hb : n + G.length ≤ 4000002) (hbase : base ≤ w.heap.size)
    (h : ∀ A' c' w', Hid (w'.ownsRow base prTD 2 (.slice A' (n + G.length) c') (n + G.length) (xs ++ rowPD G)) → Hid (w.grownBy w' v.ownBlock) → K (a.put o.dst (.slice A' (n + G.length) c')) w') :
    if Region.wanted o (yielded ops a.tmps) = true then Oper.wp Try.prog o a w K Q else E := by
  have hw : Region.wanted o (yielded ops a.tmps) = true := by simp [Region.wanted, hgd]
  rw [if_pos hw]
  obtain ⟨v', w', hr, h3, h4⟩ := run_append_ptsD base base2 o.type w v v2 n xs G hown h2 hb hbase
  obtain ⟨A', c', rfl⟩ := own_sliceN h3
  unfold Oper.wp execOp
  simp only [ho, resolve, invoke, builtin, Sem.run_bind, Sem.run_pure, Result.andThen_ok, List.map_toArray, List.map_cons, List.map_nil, hs, hx, hr]
  exact h A' c' w' h3 h4
/-- one pair in a new row. -/
theorem own_oneD (w : World) (t : DPT) : (w.alloc (.cells #[.pointer (some t.1.1), .pointer (some t.1.2)] prTD)).ownsRow w.heap.size prTD 2 (.slice (some ⟨w.heap.size, 0, none⟩) 1 1) ([t] : List DPT).length (rowPD [t]) :=
  World.ownsRow_lit w #[.pointer (some t.1.1), .pointer (some t.1.2)] 1 (Nat.le_refl _) (by decide) rfl
theorem below_drewPD (w : World) (d : Nat) : Below w.heap.size w (redrawn w d) := ⟨rfl, rfl, rfl, Nat.le_refl _, fun _ _ => rfl⟩
/-- the pairs of two lists, in memory of the call's own. -/
def PairsPD (A B : Option Addr) (l l' : List Dt) (w : World) (e : Ending) (w' : World) : Prop :=
  ∃ v, e = .returned v ∧ w'.ownsRow w.heap.size prTD 2 v (dpts (A.getD default) (B.getD default) 0 l l').length (rowPD (dpts (A.getD default) (B.getD default) 0 l l')) ∧ Below w.heap.size w w'
theorem pts_takeD (x y : Addr) (l l' : List Dt) (hl : l.length = l'.length) (k : Nat) (n n' : Dt) (h : l[k]? = some n) (h' : l'[k]? = some n') : (dpts x y 0 l l').take (k + 1) = (dpts x y 0 l l').take k ++ [((x.add (k * 5), y.add (k * 5)), (n, n'))] := by
  have hp := dpts_length x y 0 l l' hl
  have := dpts_at x y 0 l l' k _ _ h h'
  obtain ⟨hk, he⟩ := List.getElem?_eq_some_iff.1 this
  rw [List.take_succ_eq_append_getElem hk, he, Nat.zero_add]
set_option maxHeartbeats 4000000 in
set_option maxRecDepth 100000 in
theorem pairsOf_aD (A B : Option Addr) (c c' : Nat) (l l' : List Dt) (w : World) (hA : l = [] ∨ ∃ x, A = some x) (hB : l' = [] ∨ ∃ y, B = some y) (hl : l.length = l'.length) (hm : l.length ≤ 2000000) :
    Calls Try.prog 45 #[.slice A l.length c, .slice B l'.length c'] w (PairsPD A B l l' w) := by
  have hpl := dpts_length (A.getD default) (B.getD default) 0 l l' hl
  have hts : ∀ k n n', l[k]? = some n → l'[k]? = some n' → (dpts (A.getD default) (B.getD default) 0 l l').take (k + 1) = (dpts (A.getD default) (B.getD default) 0 l l').take k ++ [(((A.getD default).add (k * 5), (B.getD default).add (k * 5)), (n, n'))] := fun k n n' h h' => pts_takeD _ _ l l' hl k n n' h h'
  rw [← hl]
  have HPL := Lib.hid hpl
  have HTS := Lib.hid hts
  unfold PairsPD
  generalize hG : dpts (A.getD default) (B.getD default) 0 l l' = G at *
  have HA := Lib.hid hA
  have HBB := Lib.hid hB
  have HL := Lib.hid hl
  clear hG hpl hts hA hB hl
  go_enter Try.func45, Try.ntmps45
  go_wp2_with fail
  go_loopw [5, 9] (fun v i wr => ∃ k : Nat, i = .int .i64 k ∧ k ≤ l.length ∧ Hid (wr.ownsRow w.heap.size prTD 2 v k (rowPD (G.take k))) ∧ Hid (Below w.heap.size w wr)) (fun _ i _ => l.length - (intOf i).toNat)
  case atStart => exact ⟨0, rfl, by omega, Lib.hid (World.ownsRow_nil _ _ _ _), Lib.hid (Below.refl _ _)⟩
  case round =>
    obtain ⟨k, rfl, hk, HO, HB⟩ := hrel
    by_cases hlt : k < l.length
    · have hlt' : k < l'.length := by have := HL.out; omega
      obtain ⟨x, rfl⟩ : ∃ x, A = some x := by
        rcases HA.out with h | h
        · subst h; cases hlt
        · exact h
      obtain ⟨y, rfl⟩ : ∃ y, B = some y := by
        rcases HBB.out with h | h
        · subst h; cases hlt'
        · exact h
      obtain ⟨n, hn⟩ : ∃ n, l[k]? = some n := ⟨_, List.getElem?_eq_getElem hlt⟩
      obtain ⟨n', hn'⟩ : ∃ n, l'[k]? = some n := ⟨_, List.getElem?_eq_getElem hlt'⟩
      have htk := HTS.out k n n' hn hn'
      have HRT : Hid (rowPD (G.take (k + 1)) = rowPD (G.take k) ++ rowPD [(((x.add (k * 5)), (y.add (k * 5))), (n, n'))]) := Lib.hid (by rw [htk, rowP_appD]; rfl)
      have hwr := HB.out.size
      have hk2 : (k : Int) < (l.length : Int) := by omega
      clear htk hn hn'
      go_wp2_with fail
      go_region_law (first | (refine step_append_ptsD rfl (.tmp 12) (.tmp 20) rfl w.heap.size wr.heap.size _ (.slice (some ⟨wr.heap.size, 0, none⟩) 1 1) k _ [(((x.add (k * 5)), (y.add (k * 5))), (n, n'))] rfl rfl (HO.out.alloc _) (own_oneD wr (((x.add (k * 5)), (y.add (k * 5))), (n, n'))) (by simp; omega) (by simp; omega) ?_; intro A4 c4 w4 hown4 hgrow4))
      all_goals
        have HO4 : Hid (w4.ownsRow w.heap.size prTD 2 (.slice A4 (k + 1) c4) (k + 1) (rowPD (G.take (k + 1)))) := Lib.hid (by rw [HRT.out]; exact hown4.out)
        have HB4 := Lib.hid ((HB.out.alloc HB.out.size _).drew.grown hgrow4.out (by simp; omega) (fun k hk => (HO.out.lt k hk).1))
        clear hown4 hgrow4
        go_wp2
        go_roundw
        case rel => exact ⟨k + 1, by go_num, by omega, HO4, HB4⟩
        case measure => simp [intOf]; omega
    · obtain rfl : k = l.length := by omega
      have HO2 := Lib.hid HO.out
      rw [show G.take l.length = G from List.take_of_length_le (by rw [HPL.out]; exact Nat.le_refl _)] at HO2
      go_wp2
      go_ret
      exact ⟨_, rfl, by rw [HPL.out]; exact HO2.out, HB.out⟩
end Go.Proofs.Ytkimkhgigbejkab

/- A map whose keys are pairs of pointers to values: asked, and written to. -/
namespace Go.Proofs.Ytkimkhgigbejkab
open Go.RowKit
abbrev mapTD : TypeId := 122
abbrev ndpTD : TypeId := 81
def kvD (a : Addr × Addr) : Value := .agg #[.pointer (some a.1), .pointer (some a.2)]
theorem eq_ptrD (w : World) (a b : Addr) (ha : Clean w a.block) (hb : Clean w b.block) (d : Nat) : (Op.equalIn (d + 1) ndpTD (.pointer (some a)) (.pointer (some b))).run Try.prog w = .ok (decide (a = b)) w := by
  obtain ⟨i0, hi, hz0, hz1, hz2⟩ := info_parts infoDt
  by_cases h : a = b
  · subst h
    simp [Op.equalIn, run_underlying (P := Try.prog) Try.underlying81, sizeOf, typeInfo, hi, run_sameAddr_same]
  · obtain ⟨ca, ta, ha⟩ := ha
    obtain ⟨cb, tb, hb⟩ := hb
    have hs : i0.size ≠ 0 := by rw [hz1]; decide
    simp [Op.equalIn, run_underlying (P := Try.prog) Try.underlying81, sizeOf, typeInfo, hi, hs, run_sameAddr_other w h ha hb, h]
theorem fieldsPrD : (Try.prog.fieldsOf prTD).toList.map (fun f => (f.name, f.type, f.offset)) = [("a", ndpTD, 0), ("b", ndpTD, 1)] := by kernel_rfl
theorem run_part1D (w : World) (xs : Array Value) (k : Nat) (v : Value) (h : xs[k]? = some v) : (part ndpTD xs k).run Try.prog w = .ok v w := by simp [part, h]
theorem eq_prD (w : World) (a b : Addr × Addr) (h1 : Clean w a.1.block) (h2 : Clean w a.2.block) (h3 : Clean w b.1.block) (h4 : Clean w b.2.block) : (Op.equal prTD (kvD a) (kvD b)).run Try.prog w = .ok (decide (a = b)) w := by
  unfold kvD Op.equal Op.maxDepth
  rw [run_equalIn_struct w 9999 prTD _ _ (by kernel_rfl) (by kernel_rfl)]
  have hf := fieldsPrD
  generalize (Try.prog.fieldsOf prTD).toList = fs at hf
  have hl := congrArg List.length hf
  simp only [List.length_map, List.length_cons, List.length_nil] at hl
  obtain ⟨f, g, rfl⟩ : ∃ f g, fs = [f, g] := by
    match fs, hl with
    | [f, g], _ => exact ⟨f, g, rfl⟩
  simp only [List.map_cons, List.map_nil, List.cons.injEq, Prod.mk.injEq, and_true] at hf
  obtain ⟨⟨n1, t1, o1⟩, n2, t2, o2⟩ := hf
  obtain ⟨a1, a2⟩ := a
  obtain ⟨b1, b2⟩ := b
  dsimp only at h1 h2 h3 h4 ⊢
  have q1 : (Op.equalIn 9999 ndpTD (.pointer (some a1)) (.pointer (some b1))).run Try.prog w = .ok (decide (a1 = b1)) w := eq_ptrD w a1 b1 h1 h3 9998
  have q2 : (Op.equalIn 9999 ndpTD (.pointer (some a2)) (.pointer (some b2))).run Try.prog w = .ok (decide (a2 = b2)) w := eq_ptrD w a2 b2 h2 h4 9998
  simp only [Op.eqFields, n1, n2, t1, t2, o1, o2]
  have p1 : (part ndpTD #[.pointer (some a1), .pointer (some a2)] 0).run Try.prog w = .ok (.pointer (some a1)) w := run_part1D w _ 0 _ rfl
  have p2 : (part ndpTD #[.pointer (some a1), .pointer (some a2)] 1).run Try.prog w = .ok (.pointer (some a2)) w := run_part1D w _ 1 _ rfl
  have p3 : (part ndpTD #[.pointer (some b1), .pointer (some b2)] 0).run Try.prog w = .ok (.pointer (some b1)) w := run_part1D w _ 0 _ rfl
  have p4 : (part ndpTD #[.pointer (some b1), .pointer (some b2)] 1).run Try.prog w = .ok (.pointer (some b2)) w := run_part1D w _ 1 _ rfl
  simp only [Sem.run_ite, Sem.run_bind, Sem.run_pure, p1, p2, p3, p4, q1, q2, Result.andThen_ok]
  by_cases e1 : a1 = b1
  · by_cases e2 : a2 = b2
    · simp [e1, e2]
    · simp [e1, e2]
  · simp [e1]
/-- how the map lies in memory: what has been looked at, each with true. -/
def MapStD (w : World) (mb : Nat) (K : List (Addr × Addr)) : Prop := ∃ es clock, w.heap[mb]? = some (.map es clock) ∧ es.toList.map (fun e => (e.key, e.val)) = K.map (fun a => (kvD a, Value.bool true))
def CleanPD (w : World) (a : Addr × Addr) : Prop := Clean w a.1.block ∧ Clean w a.2.block
instance : DecidableEq (Addr × Addr) := instDecidableEqProd
theorem run_findAskingD (w : World) (a : Addr × Addr) (ha : CleanPD w a) : ∀ (es : List MapEntry) (K : List (Addr × Addr)) (i : Nat), es.map (fun e => (e.key, e.val)) = K.map (fun a => (kvD a, Value.bool true)) → (∀ b ∈ K, CleanPD w b) →
    (a ∈ K ∧ ∃ j, (Instr.findAsking prTD (kvD a) es i).run Try.prog w = .ok (some (j, .bool true)) w) ∨ (a ∉ K ∧ (Instr.findAsking prTD (kvD a) es i).run Try.prog w = .ok none w)
  | [], K, i, h, _ => by
    obtain rfl : K = [] := by cases K; rfl; simp at h
    exact .inr ⟨by simp, by simp [Instr.findAsking]⟩
  | e :: es, [], i, h, _ => by simp at h
  | e :: es, b :: K, i, h, hc => by
    simp only [List.map_cons, List.cons.injEq, Prod.mk.injEq] at h
    have hb := hc b List.mem_cons_self
    have he := eq_prD w a b ha.1 ha.2 hb.1 hb.2
    by_cases hab : a = b
    · subst hab
      refine .inl ⟨List.mem_cons_self, i, ?_⟩
      simp [Instr.findAsking, h.1.1, h.1.2, he]
    · rcases run_findAskingD w a ha es K (i + 1) h.2 (fun x hx => hc x (List.mem_cons_of_mem _ hx)) with ⟨h1, j, h2⟩ | ⟨h1, h2⟩
      · exact .inl ⟨List.mem_cons_of_mem _ h1, j, by simp [Instr.findAsking, h.1.1, he, hab, h2]⟩
      · exact .inr ⟨by simp [hab, h1], by simp [Instr.findAsking, h.1.1, he, hab, h2]⟩
theorem run_checkKey_prD (e : Bool) (a : Addr × Addr) (w : World) : (Instr.checkKey e 10000 prTD (kvD a)).run Try.prog w = .ok () w := by
  have hq : ∀ (n : Nat) (p : Addr), (Instr.checkKey e (n + 1) ndpTD (.pointer (some p))).run Try.prog w = .ok () w := fun n p => by
    simp [Instr.checkKey, run_underlying (P := Try.prog) Try.underlying81]
  have hp : ∀ (p : Addr), (Instr.checkKey e 9999 ndpTD (.pointer (some p))).run Try.prog w = .ok () w := hq 9998
  unfold kvD
  unfold Instr.checkKey
  simp [run_underlying (P := Try.prog) Try.underlying83, hp, run_part1D w #[.pointer (some a.1), .pointer (some a.2)] 0 _ rfl, run_part1D w #[.pointer (some a.1), .pointer (some a.2)] 1 _ rfl]
theorem mapUndD : Try.prog.underlying mapTD = some (.map prTD 4) := Try.underlying122
theorem infoBoolD : (Try.prog.info? 4).map (fun i => i.zero) = some (some (.bool false)) := by kernel_rfl
theorem zero_boolD (w : World) : (zeroValue 4).run Try.prog w = .ok (.bool false) w := by
  obtain ⟨i, hi, hz⟩ : ∃ i, Try.prog.info? 4 = some i ∧ i.zero = some (.bool false) := by
    have := infoBoolD
    cases hx : Try.prog.info? 4 with
    | none => rw [hx] at this; cases this
    | some i => rw [hx] at this; exact ⟨i, rfl, by simpa using this⟩
  simp [zeroValue, typeInfo, hi, hz]
theorem run_findKey_prD (w : World) (a : Addr × Addr) (ha : CleanPD w a) (es : List MapEntry) (K : List (Addr × Addr)) (h : es.map (fun e => (e.key, e.val)) = K.map (fun a => (kvD a, Value.bool true))) (hK : ∀ b ∈ K, CleanPD w b) :
    (a ∈ K ∧ ∃ j, (Instr.findKey prTD (kvD a) es).run Try.prog w = .ok (some (j, .bool true)) w) ∨ (a ∉ K ∧ (Instr.findKey prTD (kvD a) es).run Try.prog w = .ok none w) := by
  cases es with
  | nil =>
    obtain rfl : K = [] := by cases K; rfl; simp at h
    refine .inr ⟨by simp, ?_⟩
    simp [Instr.findKey, run_underlying (P := Try.prog) Try.underlying83, Instr.findNow]
  | cons e es =>
    have hk : e.key = kvD (K.headD default) := by
      cases K with
      | nil => simp at h
      | cons b K => simp at h; exact h.1.1
    have h1 : (Instr.findKey prTD (kvD a) (e :: es)).run Try.prog w = (Instr.findAsking prTD (kvD a) (e :: es) 0).run Try.prog w := by
      simp [Instr.findKey, run_underlying (P := Try.prog) Try.underlying83, Instr.findNow, hk, kvD, Instr.sameNow]
    rw [h1]
    exact run_findAskingD w a ha (e :: es) K 0 h hK
theorem lookup_prD (w : World) (mb : Nat) (a : Addr × Addr) (K : List (Addr × Addr)) (hm : MapStD w mb K) (ha : CleanPD w a) (hK : ∀ b ∈ K, CleanPD w b) (b : Bool) (hb : b = true ↔ a ∈ K) :
    (Instr.lookup mapTD (.map (some mb)) (kvD a) false).run Try.prog w = .ok (.bool b) w := by
  obtain ⟨es, clock, hw, he⟩ := hm
  rcases run_findKey_prD w a ha es.toList K he hK with ⟨h1, j, h2⟩ | ⟨h1, h2⟩
  · obtain rfl : b = true := hb.2 h1
    simp [Instr.lookup, run_underlying (P := Try.prog) mapUndD, MapKept.run_getObj_map hw, run_checkKey_prD, h2]
  · obtain rfl : b = false := bool_no hb h1
    simp [Instr.lookup, run_underlying (P := Try.prog) mapUndD, MapKept.run_getObj_map hw, run_checkKey_prD, h2, zero_boolD]
/-- a key more. -/
theorem update_prD (w : World) (mb : Nat) (a : Addr × Addr) (K : List (Addr × Addr)) (hm : MapStD w mb K) (ha : CleanPD w a) (hK : ∀ b ∈ K, CleanPD w b) (hb : a ∉ K) :
    ∃ w', (Instr.mapUpdate mapTD (.map (some mb)) (kvD a) (.bool true)).run Try.prog w = .ok () w' ∧ MapStD w' mb (K ++ [a]) ∧ w'.os = w.os ∧ w'.tape = w.tape ∧ w'.output = w.output ∧ w'.heap.size = w.heap.size ∧ ∀ k, k ≠ mb → w'.heap[k]? = w.heap[k]? := by
  obtain ⟨es, clock, hw, he⟩ := hm
  rcases run_findKey_prD w a ha es.toList K he hK with ⟨h1, _⟩ | ⟨_, h2⟩
  · exact absurd h1 hb
  · refine ⟨{ w with heap := w.heap.setIfInBounds mb (.map (es.push { key := kvD a, val := .bool true, born := clock }) (clock + 1)) }, ?_, ⟨_, _, (MapKept.heap_set hw).1, ?_⟩, rfl, rfl, rfl, by simp, (MapKept.heap_set hw).2⟩
    · simp [Instr.mapUpdate, run_underlying (P := Try.prog) mapUndD, MapKept.run_getObj_map hw, run_checkKey_prD, h2, MapKept.run_setObj_map _ hw]
    · simp [he]
end Go.Proofs.Ytkimkhgigbejkab

/- The laws' own equality of values: a value is equal to its like. -/
namespace Go.Proofs.Ytkimkhgigbejkab
open Go.RowKit
def EqDS (m : Nat) : Prop := ∀ (A B : Option Addr) (c c' : Nat) (l : List Dt) (w : World) (S S' : Nat → Prop), DtsAt w S m A l → DtsAt w S' m B l → l.length ≤ 1048576 → totDL m l ≤ 1048576 →
  Calls Try.prog 46 #[.slice A l.length c, .slice B l.length c'] w fun e w' => e = .returned (.bool true) ∧ Below w.heap.size w w'
def EqD (m : Nat) : Prop := ∀ (n : Dt) (h h' : Hd) (w : World) (S S' : Nat → Prop), DtAt w S m n h → DtAt w S' m n h' → totD m n ≤ 1048576 →
  Calls Try.prog 18 #[.agg #[.int .i64 n.kind, .int .i64 n.num, .string n.text, .slice h.A n.list.length h.a, .slice h.B n.names.length h.b], .agg #[.int .i64 n.kind, .int .i64 n.num, .string n.text, .slice h'.A n.list.length h'.a, .slice h'.B n.names.length h'.b]] w fun e w' => e = .returned (.bool true) ∧ Below w.heap.size w w'
theorem totDL_len' {w : World} {S : Nat → Prop} {m : Nat} {A : Option Addr} {l : List Dt} (h : DtsAt w S m A l) (ht : totDL m l ≤ 1048576) : l.length ≤ 1048576 := by
  cases m with
  | zero => rw [h.zero]; decide
  | succ m => exact Nat.le_trans (totDL_len m l) ht
set_option maxHeartbeats 4000000 in
set_option maxRecDepth 100000 in
theorem eqD_of (m : Nat) (hS : EqDS m) : EqD m := by
  intro n h h' w S S' hn hn' ht
  have HS := Lib.hid hS
  have hba : Below w.heap.size w ((w.alloc (.cells #[.int .i64 n.kind, .int .i64 n.num, .string n.text, .slice h.A n.list.length h.a, .slice h.B n.names.length h.b] datT)).alloc (.cells #[.int .i64 n.kind, .int .i64 n.num, .string n.text, .slice h'.A n.list.length h'.a, .slice h'.B n.names.length h'.b] datT)) := ((Below.refl _ _).alloc (Nat.le_refl _) _).alloc (by simp) _
  have k1 : ((w.alloc (.cells #[.int .i64 n.kind, .int .i64 n.num, .string n.text, .slice h.A n.list.length h.a, .slice h.B n.names.length h.b] datT)).alloc (.cells #[.int .i64 n.kind, .int .i64 n.num, .string n.text, .slice h'.A n.list.length h'.a, .slice h'.B n.names.length h'.b] datT)).heap[w.heap.size]? = some (.cells #[.int .i64 n.kind, .int .i64 n.num, .string n.text, .slice h.A n.list.length h.a, .slice h.B n.names.length h.b] datT (0, 0)) := (Below.heap_alloc _ _ _ (by simp)).trans (heap_alloc_new w _)
  have k2 : ((w.alloc (.cells #[.int .i64 n.kind, .int .i64 n.num, .string n.text, .slice h.A n.list.length h.a, .slice h.B n.names.length h.b] datT)).alloc (.cells #[.int .i64 n.kind, .int .i64 n.num, .string n.text, .slice h'.A n.list.length h'.a, .slice h'.B n.names.length h'.b] datT)).heap[w.heap.size + 1]? = some (.cells #[.int .i64 n.kind, .int .i64 n.num, .string n.text, .slice h'.A n.list.length h'.a, .slice h'.B n.names.length h'.b] datT (0, 0)) := by have := heap_alloc_new (w.alloc (.cells #[.int .i64 n.kind, .int .i64 n.num, .string n.text, .slice h.A n.list.length h.a, .slice h.B n.names.length h.b] datT)) (.cells #[.int .i64 n.kind, .int .i64 n.num, .string n.text, .slice h'.A n.list.length h'.a, .slice h'.B n.names.length h'.b] datT); rwa [show (w.alloc (.cells #[.int .i64 n.kind, .int .i64 n.num, .string n.text, .slice h.A n.list.length h.a, .slice h.B n.names.length h.b] datT)).heap.size = w.heap.size + 1 by simp] at this
  have HN := Lib.hid (hn.below hba)
  have HN' := Lib.hid (hn'.below hba)
  have hts : ((w.alloc (.cells #[.int .i64 n.kind, .int .i64 n.num, .string n.text, .slice h.A n.list.length h.a, .slice h.B n.names.length h.b] datT)).alloc (.cells #[.int .i64 n.kind, .int .i64 n.num, .string n.text, .slice h'.A n.list.length h'.a, .slice h'.B n.names.length h'.b] datT)).heap.size = w.heap.size + 2 := by simp
  have t1 : totDL m n.list ≤ 1048576 := by unfold totD at ht; omega
  have t2 : n.names.length ≤ 1048576 := by unfold totD at ht; omega
  have HT := Lib.hid (And.intro (And.intro (totDL_len' hn.2.1 t1) t1) t2)
  have HBA := Lib.hid hba
  have HK1 := Lib.hid k1
  have HK2 := Lib.hid k2
  have HTS := Lib.hid hts
  clear hS hn hn' hba t1 t2 ht k1 k2 hts
  go_enter Try.func18, Try.ntmps18
  go_wp2_with fail
  generalize ((w.alloc (.cells #[.int .i64 n.kind, .int .i64 n.num, .string n.text, .slice h.A n.list.length h.a, .slice h.B n.names.length h.b] datT)).alloc (.cells #[.int .i64 n.kind, .int .i64 n.num, .string n.text, .slice h'.A n.list.length h'.a, .slice h'.B n.names.length h'.b] datT)) = W at *
  refine (HS.out h.A h'.A h.a h'.a n.list W S S' HN.out.2.1 HN'.out.2.1 HT.out.1.1 HT.out.1.2).mono ?_
  rintro e w1 ⟨rfl, hb1⟩
  have HB1 := Lib.hid hb1
  obtain ⟨a0, a1, a2, a3, a4⟩ := cells5 ((hb1.block _ (by have := HTS.out; omega)).trans HK1.out)
  obtain ⟨b0, b1, b2, b3, b4⟩ := cells5 ((hb1.block _ (by have := HTS.out; omega)).trans HK2.out)
  clear hb1
  go_wp2_with fail
  refine (eqStringS_same h.B h'.B h.b h'.b n.names w1 (HN.out.below HB1.out).2.2.2.1 (HN'.out.below HB1.out).2.2.2.1 HT.out.2).mono ?_
  rintro e w2 ⟨rfl, hb2⟩
  have HB2 := Lib.hid (HBA.out.trans ((HB1.out.trans (hb2.mono HB1.out.size)).mono (by have := HTS.out; omega)))
  clear hb2
  go_wp2
  go_ret
  exact ⟨rfl, HB2.out⟩
theorem eqDS_zero : EqDS 0 := by
  intro A B c c' l w S S' hl hl' h1 h2
  obtain rfl := hl.zero
  clear h1 h2
  go_enter Try.func46, Try.ntmps46
  go_wp2
  go_loop [5] (fun i => i = .int .i64 0) (fun _ => 0)
  case atStart => rfl
  case round =>
    obtain rfl := hrel
    go_wp2
    go_ret
    exact ⟨rfl, Below.refl _ _⟩
set_option maxHeartbeats 4000000 in
set_option maxRecDepth 100000 in
theorem eqDS_succ (m : Nat) (hN : EqD m) : EqDS (m + 1) := by
  intro A B c c' l w S S' h h' hlm ht
  have HF := Lib.hid h
  have HG := Lib.hid h'
  have HT : Hid (∀ k (h : k < l.length), totD m l[k] ≤ 1048576) := Lib.hid fun k h => by have := totDL_at (m := m) h; omega
  have HN := Lib.hid hN
  clear h h' hN ht
  go_enter Try.func46, Try.ntmps46
  go_wp2
  go_loopw [5] (fun i wr => ∃ k : Nat, i = .int .i64 k ∧ k ≤ l.length ∧ Hid (Below w.heap.size w wr)) (fun i _ => l.length - (intOf i).toNat)
  case atStart => exact ⟨0, rfl, by omega, Lib.hid (Below.refl _ _)⟩
  case round =>
    obtain ⟨k, rfl, hk, HB⟩ := hrel
    by_cases hlt : k < l.length
    · obtain ⟨x, hx, rfl, cx, nx⟩ := (HF.out.below HB.out).at_ hlt
      obtain ⟨y, hy, rfl, cy, ny⟩ := (HG.out.below HB.out).at_ hlt
      have htn := HT.out k hlt
      generalize l[k] = n at cx nx cy ny htn
      have hd1 : Below wr.heap.size wr wr.drew := ⟨rfl, rfl, rfl, Nat.le_refl _, fun _ _ => rfl⟩
      have HP := Lib.hid (HN.out n hx hy wr.drew S S' (nx.below hd1) (ny.below hd1) htn)
      have hx1 := cx.lt
      have hx2 := cy.lt
      obtain ⟨c0, c1, c2, c3, c4⟩ := cx
      obtain ⟨d0, d1, d2, d3, d4⟩ := cy
      have hk2 : (k : Int) < (l.length : Int) := by omega
      have hs := HB.out.size
      clear nx ny htn
      go_wp2
      go_region_with (go_at_call 18; refine HP.out.mono ?_; rintro e w2 ⟨rfl, hb2⟩)
      all_goals
        have HB2 := Lib.hid (HB.out.trans ((show Below w.heap.size wr wr.drew from ⟨rfl, rfl, rfl, Nat.le_refl _, fun _ _ => rfl⟩).trans (hb2.mono (by simpa using hs))))
        clear hb2
        go_wp2
        go_roundw
        case rel => exact ⟨k + 1, by go_num, by omega, HB2⟩
        case measure => simp [intOf]; omega
    · obtain rfl : k = l.length := by omega
      go_wp2
      go_ret
      exact ⟨rfl, HB.out⟩
theorem eqDS_any : ∀ m, EqDS m
  | 0 => eqDS_zero
  | m + 1 => eqDS_succ m (eqD_of m (eqDS_any m))
theorem eqD_any (m : Nat) : EqD m := eqD_of m (eqDS_any m)
end Go.Proofs.Ytkimkhgigbejkab

/- What the program's DatumSame asks of two values. -/
namespace Go.Proofs.Ytkimkhgigbejkab
open Go.RowKit Go.Deep
theorem kbD {w w' : World} {B b o : Nat} {v : Value} (hb : Below B w w') (hl : b < B) (h : w.cell? ⟨b, o, none⟩ = some v) : w'.cell? ⟨b, o, none⟩ = some v := (hb.cell hl).trans h
theorem ownsRow_fromD {w : World} {B B' e z n : Nat} {v : Value} {xs : List Value} (h : w.ownsRow B e z v n xs) (hb : B' ≤ B) : w.ownsRow B' e z v n xs := by
  refine ⟨h.1, h.2.imp id ?_⟩
  rintro ⟨g, cap, cur, e, hB, hr⟩
  exact ⟨g, cap, cur, e, Nat.le_trans hb hB, hr⟩
theorem parts_lensD {n n' : Dt} (h : DPartsEq n n') : n.list.length = n'.list.length := h.2.2.2.1
theorem same_partsD {n n' : Dt} (h : n = n') : DPartsEq n n' := by subst h; exact ⟨rfl, rfl, rfl, rfl, rfl⟩
theorem clean_belowD {w w' : World} {k : Nat} (h : Clean w k) (hb : Below w.heap.size w w') : Clean w' k := by
  obtain ⟨c, t, hk⟩ := h
  exact ⟨c, t, (hb.block k (row_lt hk)).trans hk⟩
theorem row_lt2D {w : World} {g : Nat} {o : Obj} (h : w.heap[g]? = some o) : g < w.heap.size := row_lt h
theorem clean_ltD {w : World} {k : Nat} (h : Clean w k) : k < w.heap.size := by
  obtain ⟨c, t, hk⟩ := h
  exact row_lt hk
theorem nds_headD {w : World} {S : Nat → Prop} {m : Nat} {A : Option Addr} {l : List Dt} (h : DtsAt w S m A l) : l = [] ∨ ∃ x, A = some x := by
  rcases Nat.eq_zero_or_pos l.length with h0 | h0
  · exact .inl (List.eq_nil_of_length_eq_zero h0)
  · obtain ⟨j, rfl⟩ := h.pred h0
    obtain ⟨x, _, hA, _⟩ := h.at_ h0
    exact .inr ⟨x, hA⟩
theorem concat_ofD {α : Type} (l : List α) (h : 0 < l.length) : ∃ l' x, l = l' ++ [x] := by
  rcases List.eq_nil_or_concat l with e | ⟨l', x, e⟩
  · subst e; cases h
  · exact ⟨l', x, by rw [e, List.concat_eq_append]⟩
theorem own_openD {w : World} {B n cap : Nat} {A : Option Addr} {xs : List Value} (h : w.ownsRow B prTD 2 (.slice A (n + 1) cap) (n + 1) xs) : ∃ g, A = some ⟨g, 0, none⟩ ∧ B ≤ g ∧ n + 1 ≤ cap ∧ g < w.heap.size ∧ ∀ j u, xs[j]? = some u → w.cell? ⟨g, j, none⟩ = some u := by
  rcases h.2 with ⟨e, _⟩ | ⟨g, cap', cur, e, hB, hg, hc, _⟩
  · simp at e
  · simp only [Value.slice.injEq, true_and] at e
    obtain ⟨rfl, rfl⟩ := e
    refine ⟨g, rfl, hB, hc, row_lt hg, fun j u hj => ?_⟩
    have := h.cells (g := g) rfl j u hj
    rwa [add_zero0] at this
theorem own_keepD {w w' : World} {B e z n : Nat} {v : Value} {xs : List Value} (h : w.ownsRow B e z v n xs) (hk : ∀ k, B ≤ k → k < w.heap.size → w'.heap[k]? = w.heap[k]?) : w'.ownsRow B e z v n xs := by
  refine ⟨h.1, h.2.imp id ?_⟩
  rintro ⟨g, cap, cur, e, hB, hg, hr⟩
  exact ⟨g, cap, cur, e, hB, (hk g hB (row_lt hg)).trans hg, hr⟩
theorem own_popD {w : World} {B cap : Nat} {A : Option Addr} {G : List DPT} {t : DPT} (h : w.ownsRow B prTD 2 (.slice A (G.length + 1) cap) (G.length + 1) (rowPD (G ++ [t]))) : w.ownsRow B prTD 2 (.slice A G.length cap) G.length (rowPD G) := by
  refine ⟨rowP_lengthD G, ?_⟩
  rcases h.2 with ⟨e, _⟩ | ⟨g, cap', cur, e, hB, hg, hc, hm, hs, ht⟩
  · simp at e
  · simp only [Value.slice.injEq, true_and] at e
    obtain ⟨rfl, rfl⟩ := e
    refine .inr ⟨g, cap, cur, rfl, hB, hg, by omega, hm, hs, ?_⟩
    rw [rowP_appD] at ht
    have h1 := congrArg (List.take (G.length * 2)) ht
    rw [List.take_take, Nat.min_eq_left (by omega), List.take_append_of_le_length (Nat.le_of_eq (rowP_lengthD G).symm)] at h1
    rw [h1]
    exact List.take_of_length_le (by rw [rowP_lengthD]; exact Nat.le_refl _)
def dhd (t : DPT) (hx hy : Hd) : List DPT := dpts (hx.A.getD default) (hy.A.getD default) 0 t.2.1.list t.2.2.list
def DLookP (t : DPT) (hx hy : Hd) (b : Bool) (W : World) (e : Ending) (w' : World) : Prop := ∃ (A : Option Addr) (l c : Nat), e = .returned (.tuple #[.bool b, .slice A l c]) ∧ (b = true → l = (dhd t hx hy).length ∧ w'.ownsRow W.heap.size prTD 2 (.slice A l c) l (rowPD (dhd t hx hy))) ∧ Below W.heap.size W w'
set_option maxHeartbeats 8000000 in
set_option maxRecDepth 100000 in
theorem dlook_a (t : DPT) (hx hy : Hd) (m m' : Nat) (S S' : Nat → Prop) (w : World) (b : Bool) (nx : DtCell w t.1.1 t.2.1 hx) (ny : DtCell w t.1.2 t.2.2 hy) (ax : DtAt w S m t.2.1 hx) (ay : DtAt w S' m' t.2.2 hy) (ht : totD m t.2.1 ≤ 1048576) (hb : b = true ↔ DPartsEq t.2.1 t.2.2) :
    Calls Try.prog 43 #[.agg #[.pointer (some t.1.1), .pointer (some t.1.2)]] w (DLookP t hx hy b w) := by
  have hba := (Below.refl w.heap.size w).alloc (Nat.le_refl _) (.cells #[.pointer (some t.1.1), .pointer (some t.1.2)] prTD)
  have HP := Lib.hid (heap_alloc_new w (.cells #[.pointer (some t.1.1), .pointer (some t.1.2)] prTD))
  have HBA := Lib.hid hba
  have HCX : Hid (∀ V : World, Below w.heap.size w V → DtCell V t.1.1 t.2.1 hx ∧ DtCell V t.1.2 t.2.2 hy) := Lib.hid fun V hV => ⟨dcell_below hV _ _ _ nx, dcell_below hV _ _ _ ny⟩
  have HSP := Lib.hid (sameBare_a t.1.1 t.1.2 t.2.1 t.2.2 hx hy _ b (HCX.out _ hba).1 (HCX.out _ hba).2 ax.2.1.len ay.2.1.len ((ax.below hba).2.2.map (fun _ _ => trivial) (fun _ _ _ => rfl) (Nat.le_refl _)) ((ay.below hba).2.2.map (fun _ _ => trivial) (fun _ _ _ => rfl) (Nat.le_refl _)) hb)
  have HAX := Lib.hid (And.intro ax ay)
  have HT := Lib.hid ht
  have HQ := Lib.hid hb
  obtain ⟨p0, p1⟩ : (w.alloc (.cells #[.pointer (some t.1.1), .pointer (some t.1.2)] prTD)).cell? ⟨w.heap.size, 0, none⟩ = some (.pointer (some t.1.1)) ∧ (w.alloc (.cells #[.pointer (some t.1.1), .pointer (some t.1.2)] prTD)).cell? ⟨w.heap.size, 1, none⟩ = some (.pointer (some t.1.2)) := ⟨by rw [cell_of_row _ _ _ _ _ _ HP.out]; rfl, by rw [cell_of_row _ _ _ _ _ _ HP.out]; rfl⟩
  unfold DLookP
  obtain ⟨Q1, hQ1⟩ : ∃ Q1, Q1 = dhd t hx hy := ⟨_, rfl⟩
  rw [← hQ1]
  have HQ1 := Lib.hid hQ1
  clear nx ny ax ay ht hba hQ1 hb
  go_enter Try.func43, Try.ntmps43
  go_wp2_with fail
  generalize w.alloc (.cells #[.pointer (some t.1.1), .pointer (some t.1.2)] prTD) = W at *
  refine HSP.out.mono ?_
  rintro e w5 ⟨rfl, hb5⟩
  have HP5 := Lib.hid ((hb5.block _ (row_lt HP.out)).trans HP.out)
  have HB5 := Lib.hid (HBA.out.trans (hb5.mono HBA.out.size))
  have hs5 := hb5.size
  clear hb5 p0 p1 HSP HP HBA
  cases b
  · go_wp2
    go_ret2
    exact ⟨none, 0, 0, rfl, (fun e => by cases e), HB5.out⟩
  · have l1 := parts_lensD (HQ.out.1 rfl)
    have htl : totD m t.2.1 ≤ 1048576 := HT.out
    have hpl : t.2.1.list.length ≤ 2000000 := Nat.le_trans (totDL_len' HAX.out.1.2.1 (by unfold totD at htl; omega)) (by decide)
    have HPR1 : Hid (∀ V : World, Calls Try.prog 45 #[.slice hx.A t.2.1.list.length hx.a, .slice hy.A t.2.2.list.length hy.a] V fun e w' => ∃ v, e = .returned v ∧ w'.ownsRow V.heap.size prTD 2 v Q1.length (rowPD Q1) ∧ Below V.heap.size V w') := Lib.hid fun V => by
      have := pairsOf_aD hx.A hy.A hx.a hy.a t.2.1.list t.2.2.list V (nds_headD HAX.out.1.2.1) (nds_headD HAX.out.2.2.1) l1 hpl
      unfold PairsPD at this
      rw [HQ1.out]
      exact this
    have hPlt := row_lt HP5.out
    obtain ⟨c0, c1, c2, c3, c4⟩ := (HCX.out w5 HB5.out).1
    obtain ⟨d0, d1, d2, d3, d4⟩ := (HCX.out w5 HB5.out).2
    have p0 : w5.cell? ⟨w.heap.size, 0, none⟩ = some (.pointer (some t.1.1)) := by rw [cell_of_row _ _ _ _ _ _ HP5.out]; rfl
    have p1 : w5.cell? ⟨w.heap.size, 1, none⟩ = some (.pointer (some t.1.2)) := by rw [cell_of_row _ _ _ _ _ _ HP5.out]; rfl
    have hlp : w.heap.size < w5.heap.size := hPlt
    have hlx : t.1.1.block < w5.heap.size := (HCX.out w5 HB5.out).1.lt
    have hly : t.1.2.block < w5.heap.size := (HCX.out w5 HB5.out).2.lt
    have HSB : Hid (Below w5.heap.size w5 w5) := Lib.hid (Below.refl _ _)
    clear htl hpl l1 HQ c0 c1 c2 c4 d0 d1 d2 d4
    go_wp2_with fail
    go_region_held3 (fun V => (V.cell? ⟨w.heap.size, 0, none⟩ = some (.pointer (some t.1.1)) ∧ V.cell? ⟨w.heap.size, 1, none⟩ = some (.pointer (some t.1.2))) ∧ (V.cell? ⟨t.1.1.block, t.1.1.off + 3, none⟩ = some (.slice hx.A t.2.1.list.length hx.a) ∧ V.cell? ⟨t.1.2.block, t.1.2.off + 3, none⟩ = some (.slice hy.A t.2.2.list.length hy.a)) ∧ Below w5.heap.size w5 V)
      ((first | exact ⟨⟨p0, p1⟩, ⟨c3, d3⟩, HSB.out.drew⟩ | (obtain ⟨⟨s0, s1⟩, ⟨s3, u3⟩, sb⟩ := ‹(_ ∧ _) ∧ (_ ∧ _) ∧ Below w5.heap.size w5 _›; exact ⟨⟨kbD hbq hlp s0, kbD hbq hlp s1⟩, ⟨kbD hbq hlx s3, kbD hbq hly u3⟩, sb.trans hbq⟩)))
      (first | (go_at_call 45; (with_reducible refine (HPR1.out _).mono ?_); rintro e w6 ⟨v2, rfl, hown2, hb6⟩; have hsv := (‹(_ ∧ _) ∧ (_ ∧ _) ∧ Below w5.heap.size w5 _›).2.2.size; have HV2 : Hid (w6.ownsRow w5.heap.size prTD 2 v2 Q1.length (rowPD Q1)) := Lib.hid (ownsRow_fromD hown2 hsv); obtain ⟨A7, c7, rfl⟩ := own_sliceN hown2; have hbq := hb6.mono hsv; clear hb6 hown2))
    all_goals
      have hS := ‹(_ ∧ _) ∧ (_ ∧ _) ∧ Below w5.heap.size w5 _›
      have HB7 := Lib.hid (HB5.out.trans (hS.2.2.mono HB5.out.size))
      have HOWN7 := Lib.hid (ownsRow_fromD HV2.out HB5.out.size)
      clear hS c3 d3 p0 p1
      go_wp2
      go_ret2
      first | exact ⟨A7, _, c7, rfl, fun _ => ⟨rfl, HOWN7.out⟩, HB7.out⟩ | exact ⟨A7, _, c7, rfl, ⟨rfl, HOWN7.out⟩, HB7.out⟩
end Go.Proofs.Ytkimkhgigbejkab

/- The program's DatumSame. -/
namespace Go.Proofs.Ytkimkhgigbejkab
open Go.RowKit Go.Deep
theorem wpList_append_ptsD {ops : Array Oper} {rest : List Oper} {o : Oper} {a : Act} {w : World} {Q : Exit → Act → World → Prop} (hgd : o.guard = none) (s x : Operand)
    (ho : o.op = .call { callee := .builtin .append, args := #[s, x], argTypes := #[prsTD, prsTD] })
    (base base2 : Nat) (v v2 : Value) (n : Nat) (xs : List Value) (G : List DPT) (hs : a.eval s = v) (hx : a.eval x = v2) (hown : w.ownsRow base prTD 2 v n xs) (h2 : w.ownsRow base2 prTD 2 v2 G.length (rowPD G)) (hb : n + G.length ≤ 4000002) (hbase : base ≤ w.heap.size)
    (h : ∀ A' c' w', Hid (w'.ownsRow base prTD 2 (.slice A' (n + G.length) c') (n + G.length) (xs ++ rowPD G)) → Hid (w.grownBy w' v.ownBlock) → wpList Try.prog ops Q rest (a.put o.dst (.slice A' (n + G.length) c')) w') :
    wpList Try.prog ops Q (o :: rest) a w :=
  wpList_plain hgd fun K hK => by
    obtain ⟨v', w', hr, h3, h4⟩ := run_append_ptsD base base2 o.type w v v2 n xs G hown h2 hb hbase
    obtain ⟨A', c', rfl⟩ := own_sliceN h3
    unfold Oper.wp execOp
    simp only [ho, resolve, invoke, builtin, Sem.run_bind, Sem.run_pure, Result.andThen_ok, List.map_toArray, List.map_cons, List.map_nil, hs, hx, hr]
    exact hK _ _ (h A' c' w' h3 h4)
set_option maxHeartbeats 8000000 in
set_option maxRecDepth 100000 in
theorem dallSame_a (m : Nat) (n n' : Dt) (pa pb : Addr) (w : World) (b : Bool) (hl : DLies w (Clean w) m ((pa, pb), (n, n'))) (ht : totD m n ≤ 1048576) (hb : b = true ↔ n = n') :
    Calls Try.prog 42 #[.pointer (some pa), .pointer (some pb), .func (.func 43) #[] #[]] w fun e w' => e = .returned (.bool b) ∧ Below w.heap.size w w' := by
  have hmp : ((w.alloc (.map #[] 0)).alloc (.cells #[.pointer (some pa), .pointer (some pb)] prTD)).heap[w.heap.size]? = some (.map #[] 0) := heap_alloc_keep Array.getElem?_push_size _
  have hb4 : Below w.heap.size w ((w.alloc (.map #[] 0)).alloc (.cells #[.pointer (some pa), .pointer (some pb)] prTD)) := ((Below.refl _ _).alloc (Nat.le_refl _) _).alloc (by simp) _
  have ho4 := own_oneD (w.alloc (.map #[] 0)) ((pa, pb), (n, n'))
  rw [show (w.alloc (.map #[] 0)).heap.size = w.heap.size + 1 by simp] at ho4
  have HI0 : Hid (DInv w (Clean w) m n n' [((pa, pb), (n, n'))] [] []) := Lib.hid ⟨fun t ht => by obtain rfl := List.mem_singleton.1 ht; exact hl, fun a ha => (by cases ha), fun d hd => (by cases hd), by simp, fun e t ht => by obtain rfl := List.mem_singleton.1 ht; exact e⟩
  have HM4 : Hid (MapStD ((w.alloc (.map #[] 0)).alloc (.cells #[.pointer (some pa), .pointer (some pb)] prTD)) w.heap.size []) := Lib.hid ⟨_, _, hmp, rfl⟩
  have HB4 := Lib.hid hb4
  have HO4 := Lib.hid ho4
  have HQ := Lib.hid hb
  have HT := Lib.hid ht
  clear hmp hb4 ho4 hl hb ht
  have hmm := @run_makeMap Try.prog
  go_enter Try.func42, Try.ntmps42
  go_wp2_with fail
  go_loopg [8] (1 + totD m n) (fun g v wr => ∃ (A : Option Addr) (len cap : Nat) (G : List DPT) (K : List (Addr × Addr)) (D : List (Dt × Dt)), v = .slice A len cap ∧ len = G.length ∧ dwt m G = g ∧ g ≤ 1048577 ∧ Hid (wr.ownsRow (w.heap.size + 1) prTD 2 (.slice A len cap) G.length (rowPD G)) ∧ Hid (DInv w (Clean w) m n n' G K D) ∧ Hid (MapStD wr w.heap.size K) ∧ Hid (Below w.heap.size w wr))
  case atStart => exact ⟨_, 1, 1, _, [], [], rfl, rfl, Nat.add_zero _, by have := HT.out; omega, HO4, HI0, HM4, HB4⟩
  case round =>
    obtain ⟨A, len, cap, G, K, D, rfl, hlen, hwt, hg, HO, HI, HM, HB⟩ := hrel
    have hGw := dwt_len m G
    by_cases h0 : len = 0
    · subst h0
      obtain rfl : G = [] := List.eq_nil_of_length_eq_zero hlen.symm
      obtain rfl : b = true := HQ.out.2 HI.out.end_
      clear hmm hlen hwt hg hGw
      go_wp2
      go_ret
      exact ⟨rfl, HB.out⟩
    · obtain ⟨k, rfl⟩ : ∃ k, len = k + 1 := ⟨len - 1, by omega⟩
      obtain ⟨G', t, rfl⟩ := concat_ofD G (by omega)
      have hk' : G'.length = k := by simp at hlen; omega
      subst hk'
      have hkb : G'.length ≤ 1048577 := by omega
      obtain ⟨g, rfl, hgB, hcap, hgs, hcell⟩ := own_openD (by have := HO.out; rw [show (G' ++ [t]).length = G'.length + 1 by simp] at this; exact this)
      have hl2 := rowP_lastD G' t
      have c0 := hcell _ _ hl2.1
      have c1 := hcell _ _ hl2.2
      have HO1 := Lib.hid (own_popD (by have := HO.out; rw [show (G' ++ [t]).length = G'.length + 1 by simp] at this; exact this))
      have hadd : (⟨g, 0, none⟩ : Addr).add (G'.length * 2) = ⟨g, G'.length * 2, none⟩ := add_zero0 _ _
      have hwr : IntKind.i64.wrap (((G'.length + 1 : Nat) : Int) - 1) = (G'.length : Int) := by rw [IntKind.wrap_i64]; omega
      have hlt : (G'.length : Int) < ((G'.length + 1 : Nat) : Int) := by omega
      have hcp : (G'.length : Int) ≤ (cap : Int) := by omega
      have HC := Lib.hid hcell
      clear hl2 hcell h0 hlen hGw hmm
      have hw64 : wrap64 (G'.length : Int) = (G'.length : Int) := by unfold wrap64; omega
      have hlt0 : DLies w (Clean w) m t := HI.out.lies t (by simp)
      have hkeep : ∀ k, Clean w k → Clean wr k := fun k hk => by
        obtain ⟨c, T, hc⟩ := hk
        exact ⟨c, T, (HB.out.block k (row_lt hc)).trans hc⟩
      have hcl : ∀ a, (a = t.1 ∨ a ∈ K) → CleanPD (wr.alloc (.cells #[.pointer (some t.1.1), .pointer (some t.1.2)] prTD)) a := fun a ha => by
        have h1 : Clean w a.1.block ∧ Clean w a.2.block := by
          rcases ha with rfl | ha
          · exact ⟨hlt0.1, hlt0.2.1⟩
          · obtain ⟨d, hd, _⟩ := HI.out.keys a ha
            exact ⟨hd.1, hd.2.1⟩
        exact ⟨clean_belowD (hkeep _ h1.1) ((Below.refl _ _).alloc (Nat.le_refl _) _), clean_belowD (hkeep _ h1.2) ((Below.refl _ _).alloc (Nat.le_refl _) _)⟩
      have hM1 : MapStD (wr.alloc (.cells #[.pointer (some t.1.1), .pointer (some t.1.2)] prTD)) w.heap.size K := by
        obtain ⟨es, cl, h1, h2⟩ := HM.out
        exact ⟨es, cl, heap_alloc_keep h1 _, h2⟩
      have hB1 := HB.out.alloc HB.out.size (.cells #[.pointer (some t.1.1), .pointer (some t.1.2)] prTD)
      have hP1 := heap_alloc_new wr (.cells #[.pointer (some t.1.1), .pointer (some t.1.2)] prTD)
      have HO2 := Lib.hid (HO1.out.alloc (.cells #[.pointer (some t.1.1), .pointer (some t.1.2)] prTD))
      have hwt2 : dwt m G' + (1 + totD m t.2.1) = gk := by rw [← hwt, dwt_app]; rfl
      by_cases hin : t.1 ∈ K
      · have hlk := lookup_prD _ w.heap.size t.1 K hM1 (hcl _ (.inl rfl)) (fun b hb => hcl b (.inr hb)) true (iff_true_of hin)
        unfold kvD at hlk
        have HM1 := Lib.hid hM1
        have HB1 := Lib.hid hB1
        have HS := Lib.hid (HI.out.skip hin)
        clear hcl hkeep hlt0 hM1 hB1 hin hP1 hwt
        go_wp2
        go_roundg (dwt m G')
        case measure => omega
        case rel => exact ⟨_, G'.length, cap, G', K, D, rfl, rfl, rfl, by omega, HO2, HS, HM1, HB1⟩
      · have hlk := lookup_prD _ w.heap.size t.1 K hM1 (hcl _ (.inl rfl)) (fun b hb => hcl b (.inr hb)) false (iff_false_of hin)
        obtain ⟨Wm, hup, hMm, q1, q2, q3, q4, q5⟩ := update_prD _ w.heap.size t.1 K hM1 (hcl _ (.inl rfl)) (fun b hb => hcl b (.inr hb)) hin
        unfold kvD at hlk hup
        have hsz : (wr.alloc (.cells #[.pointer (some t.1.1), .pointer (some t.1.2)] prTD)).heap.size = wr.heap.size + 1 := by simp
        have hsB := HB.out.size
        have hPm : Wm.heap[wr.heap.size]? = some (.cells #[.pointer (some t.1.1), .pointer (some t.1.2)] prTD (0, 0)) := (q5 _ (by have := row_lt HM.out.choose_spec.choose_spec.1; omega)).trans hP1
        have hBm : Below w.heap.size w Wm := ⟨q1.trans hB1.os, q2.trans hB1.tape, q3.trans hB1.output, by rw [q4]; exact hB1.size, fun k hk => (q5 k (by omega)).trans (hB1.block k hk)⟩
        have hOm : Wm.ownsRow (w.heap.size + 1) prTD 2 (.slice (some ⟨g, 0, none⟩) G'.length cap) G'.length (rowPD G') := own_keepD HO2.out (fun k h1 _ => q5 k (by omega))
        obtain ⟨sA, sB, hx, hy, my, nx, ax, ny, ay⟩ := hlt0
        have htl : totD m t.2.1 ≤ 1048576 := by omega
        obtain ⟨bp, hbp⟩ : ∃ bp : Bool, (bp = true ↔ DPartsEq t.2.1 t.2.2) := by
          by_cases e : DPartsEq t.2.1 t.2.2
          · exact ⟨true, iff_true_of e⟩
          · exact ⟨false, iff_false_of e⟩
        have HLK := Lib.hid (dlook_a t hx hy m my _ _ Wm bp (dcell_below hBm _ _ _ nx) (dcell_below hBm _ _ _ ny) (ax.below hBm) (ay.below hBm) htl hbp)
        unfold DLookP at HLK
        have HBP := Lib.hid hbp
        have HAX := Lib.hid (And.intro ax ay)
        have HMm := Lib.hid hMm
        have HBm := Lib.hid hBm
        have HOm := Lib.hid hOm
        have p0 : Wm.cell? ⟨wr.heap.size, 0, none⟩ = some (.pointer (some t.1.1)) := by rw [cell_of_row _ _ _ _ _ _ hPm]; rfl
        have p1 : Wm.cell? ⟨wr.heap.size, 1, none⟩ = some (.pointer (some t.1.2)) := by rw [cell_of_row _ _ _ _ _ _ hPm]; rfl
        clear hcl hkeep hM1 hB1 hP1 q1 q2 q3 q4 q5 hPm hBm hOm hMm nx ny ax ay sA sB hin hbp
        go_wp2_with fail
        refine HLK.out.mono ?_
        rintro e w5 ⟨A5, l5, c5, rfl, hrow5, hb5⟩
        have HM5 : Hid (MapStD w5 w.heap.size (K ++ [t.1])) := Lib.hid (by
          obtain ⟨es, cl, h1, h2⟩ := HMm.out
          exact ⟨es, cl, (hb5.block _ (row_lt h1)).trans h1, h2⟩)
        have HB5 := Lib.hid (HBm.out.trans (hb5.mono HBm.out.size))
        have HO5 := Lib.hid (own_keepD HOm.out (fun k _ hk => hb5.block k hk))
        have hs5 : Wm.heap.size ≤ w5.heap.size := hb5.size
        have HR5 := Lib.hid hrow5
        clear hb5 p0 p1 HMm HOm hrow5 HLK
        cases bp
        · obtain rfl : b = false := bool_no HQ.out (fun e => by
            have := HBP.out.2 (same_partsD (HI.out.sound e t (by simp)))
            cases this)
          go_wp2
          go_ret
          exact ⟨rfl, HB5.out⟩
        · have hpe := HBP.out.1 rfl
          have l1 := parts_lensD hpe
          obtain ⟨hl5, hown5⟩ := HR5.out rfl
          subst hl5
          obtain ⟨H1, hH1⟩ : ∃ H1, H1 = dhd t hx hy := ⟨_, rfl⟩
          rw [← hH1] at hown5
          rw [← hH1]
          have hw1 : dwt m H1 ≤ totDL m t.2.1.list := hH1 ▸ dpts_wt _ _ _ HAX.out.1.2.1
          have hwt3 : dwt m (G' ++ H1) < gk ∧ dwt m (G' ++ H1) ≤ 1048577 := by
            rw [dwt_app]
            have : totD m t.2.1 = t.2.1.text.size + totDL m t.2.1.list + (t.2.1.names.length + tot t.2.1.names) := rfl
            omega
          have hlen3 : G'.length + H1.length ≤ 1048577 := by
            have := dwt_len m (G' ++ H1)
            simp only [List.length_append] at this
            omega
          have HINV : Hid (DInv w (Clean w) m n n' (G' ++ H1) (K ++ [t.1]) (t.2 :: D)) := Lib.hid (HI.out.step hpe
            (by rw [hH1]; exact dpts_lies HAX.out.1.2.1 HAX.out.2.2.1 l1)
            (by rw [hH1]; exact dpts_within _ _ _ _)
            (fun e => by rw [hH1]; exact dpts_same _ _ (by rw [e])))
          have HV5 := Lib.hid hown5
          have hg5 : w.heap.size + 1 ≤ w5.heap.size := by have := row_lt HM5.out.choose_spec.choose_spec.1; omega
          clear hH1 hw1 htl l1 hwt hpe hown5 HR5 hlk hup hsz c0 c1 hadd hwr hlt hcp hw64 hcap
          go_wp2_with (at_builtin; go_must (refine wpList_append_ptsD rfl (.tmp 44) (.tmp 45) rfl (w.heap.size + 1) Wm.heap.size _ (.slice A5 H1.length c5) G'.length (rowPD G') H1 rfl rfl HO5.out HV5.out (by omega) (by omega) ?_); intro A9 c9 w9 hown9 hgrow9)
          have HB9 := Lib.hid (HB5.out.grown hgrow9.out HB5.out.size (fun k hk => by have := (HO5.out.lt k hk).1; omega))
          have HM9 : Hid (MapStD w9 w.heap.size (K ++ [t.1])) := Lib.hid (by
            obtain ⟨es, cl, h1, h2⟩ := HM5.out
            have h3 := row_lt h1
            exact ⟨es, cl, (hgrow9.out.block _ (by omega) (fun e => by have := (HO5.out.lt _ e.symm).1; omega)).trans h1, h2⟩)
          have HO9 : Hid (w9.ownsRow (w.heap.size + 1) prTD 2 (.slice A9 (G'.length + H1.length) c9) (G' ++ H1).length (rowPD (G' ++ H1))) := Lib.hid (by rw [rowP_appD, List.length_append]; exact hown9.out)
          clear hown9 hgrow9
          go_wp2
          go_roundg (dwt m (G' ++ H1))
          case measure => exact hwt3.1
          case rel => exact ⟨A9, G'.length + H1.length, c9, G' ++ H1, K ++ [t.1], t.2 :: D, rfl, by simp only [List.length_append], rfl, hwt3.2, HO9, HINV, HM9, HB9⟩
set_option maxHeartbeats 8000000 in
set_option maxRecDepth 100000 in
theorem implDatumSame_a (m m' : Nat) (n n' : Dt) (h h' : Hd) (w : World) (b : Bool) (hn : DtAt w (Clean w) m n h) (hn' : DtAt w (Clean w) m' n' h') (ht : totD m n ≤ 1048576) (hb : b = true ↔ n = n') :
    Calls Try.prog 17 #[.agg #[.int .i64 n.kind, .int .i64 n.num, .string n.text, .slice h.A n.list.length h.a, .slice h.B n.names.length h.b], .agg #[.int .i64 n'.kind, .int .i64 n'.num, .string n'.text, .slice h'.A n'.list.length h'.a, .slice h'.B n'.names.length h'.b]] w fun e w' => e = .returned (.bool b) ∧ Below w.heap.size w w' := by
  have hba : Below w.heap.size w ((w.alloc (.cells #[.int .i64 n.kind, .int .i64 n.num, .string n.text, .slice h.A n.list.length h.a, .slice h.B n.names.length h.b] datT)).alloc (.cells #[.int .i64 n'.kind, .int .i64 n'.num, .string n'.text, .slice h'.A n'.list.length h'.a, .slice h'.B n'.names.length h'.b] datT)) := ((Below.refl _ _).alloc (Nat.le_refl _) _).alloc (by simp) _
  have k1 : ((w.alloc (.cells #[.int .i64 n.kind, .int .i64 n.num, .string n.text, .slice h.A n.list.length h.a, .slice h.B n.names.length h.b] datT)).alloc (.cells #[.int .i64 n'.kind, .int .i64 n'.num, .string n'.text, .slice h'.A n'.list.length h'.a, .slice h'.B n'.names.length h'.b] datT)).heap[w.heap.size]? = some (.cells #[.int .i64 n.kind, .int .i64 n.num, .string n.text, .slice h.A n.list.length h.a, .slice h.B n.names.length h.b] datT (0, 0)) := (Below.heap_alloc _ _ _ (by simp)).trans (heap_alloc_new w _)
  have k2 : ((w.alloc (.cells #[.int .i64 n.kind, .int .i64 n.num, .string n.text, .slice h.A n.list.length h.a, .slice h.B n.names.length h.b] datT)).alloc (.cells #[.int .i64 n'.kind, .int .i64 n'.num, .string n'.text, .slice h'.A n'.list.length h'.a, .slice h'.B n'.names.length h'.b] datT)).heap[w.heap.size + 1]? = some (.cells #[.int .i64 n'.kind, .int .i64 n'.num, .string n'.text, .slice h'.A n'.list.length h'.a, .slice h'.B n'.names.length h'.b] datT (0, 0)) := by have := heap_alloc_new (w.alloc (.cells #[.int .i64 n.kind, .int .i64 n.num, .string n.text, .slice h.A n.list.length h.a, .slice h.B n.names.length h.b] datT)) (.cells #[.int .i64 n'.kind, .int .i64 n'.num, .string n'.text, .slice h'.A n'.list.length h'.a, .slice h'.B n'.names.length h'.b] datT); rwa [show (w.alloc (.cells #[.int .i64 n.kind, .int .i64 n.num, .string n.text, .slice h.A n.list.length h.a, .slice h.B n.names.length h.b] datT)).heap.size = w.heap.size + 1 by simp] at this
  have HN := (hn.below hba).weak (S' := Clean ((w.alloc (.cells #[.int .i64 n.kind, .int .i64 n.num, .string n.text, .slice h.A n.list.length h.a, .slice h.B n.names.length h.b] datT)).alloc (.cells #[.int .i64 n'.kind, .int .i64 n'.num, .string n'.text, .slice h'.A n'.list.length h'.a, .slice h'.B n'.names.length h'.b] datT))) (fun k hk => clean_belowD hk hba)
  have HN' := (hn'.below hba).weak (S' := Clean ((w.alloc (.cells #[.int .i64 n.kind, .int .i64 n.num, .string n.text, .slice h.A n.list.length h.a, .slice h.B n.names.length h.b] datT)).alloc (.cells #[.int .i64 n'.kind, .int .i64 n'.num, .string n'.text, .slice h'.A n'.list.length h'.a, .slice h'.B n'.names.length h'.b] datT))) (fun k hk => clean_belowD hk hba)
  have HL0 : Hid (DLies ((w.alloc (.cells #[.int .i64 n.kind, .int .i64 n.num, .string n.text, .slice h.A n.list.length h.a, .slice h.B n.names.length h.b] datT)).alloc (.cells #[.int .i64 n'.kind, .int .i64 n'.num, .string n'.text, .slice h'.A n'.list.length h'.a, .slice h'.B n'.names.length h'.b] datT)) (Clean ((w.alloc (.cells #[.int .i64 n.kind, .int .i64 n.num, .string n.text, .slice h.A n.list.length h.a, .slice h.B n.names.length h.b] datT)).alloc (.cells #[.int .i64 n'.kind, .int .i64 n'.num, .string n'.text, .slice h'.A n'.list.length h'.a, .slice h'.B n'.names.length h'.b] datT))) m ((⟨w.heap.size, 0, none⟩, ⟨w.heap.size + 1, 0, none⟩), (n, n'))) := Lib.hid ⟨⟨_, _, k1⟩, ⟨_, _, k2⟩, h, h', m', ⟨(cells5 k1).1, (cells5 k1).2.1, (cells5 k1).2.2.1, (cells5 k1).2.2.2.1, (cells5 k1).2.2.2.2⟩, HN, ⟨(cells5 k2).1, (cells5 k2).2.1, (cells5 k2).2.2.1, (cells5 k2).2.2.2.1, (cells5 k2).2.2.2.2⟩, HN'⟩
  have HBA := Lib.hid hba
  have HC := Lib.hid (dallSame_a m n n' _ _ _ b HL0.out ht hb)
  clear hn hn' hba k1 k2 hb ht HN HN' HL0
  go_enter Try.func17, Try.ntmps17
  go_wp2_with fail
  refine HC.out.mono ?_
  rintro e w5 ⟨rfl, hb5⟩
  have HB5 := Lib.hid (HBA.out.trans (hb5.mono HBA.out.size))
  clear hb5
  go_wp2
  go_ret
  exact ⟨rfl, HB5.out⟩
end Go.Proofs.Ytkimkhgigbejkab
