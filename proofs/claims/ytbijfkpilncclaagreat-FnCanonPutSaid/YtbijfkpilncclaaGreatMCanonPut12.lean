/- Texts of the proof of the law FnCanonPut, side by side: part 12. -/
import Derived.LaidEqlPtr
import Derived.Laws.StructEq
import Derived.MapKept
import Derived.Deep.LoopGhost
import Derived.Carry
import Derived.Deep.RegionHeld3
import Derived.Test.YtbijfkpilncclaaGreatMCanonPut00
import Derived.Test.YtbijfkpilncclaaGreatMCanonPut01
import Derived.Test.YtbijfkpilncclaaGreatMCanonPut02
import Derived.Test.YtbijfkpilncclaaGreatMCanonPut03
import Derived.Test.YtbijfkpilncclaaGreatMCanonPut04
import Derived.Test.YtbijfkpilncclaaGreatMCanonPut05
import Derived.Test.YtbijfkpilncclaaGreatMCanonPut06
import Derived.Test.YtbijfkpilncclaaGreatMCanonPut07
import Derived.Test.YtbijfkpilncclaaGreatMCanonPut08
import Derived.Test.YtbijfkpilncclaaGreatMCanonPut09
import Derived.Test.YtbijfkpilncclaaGreatMCanonPut10
import Derived.Test.YtbijfkpilncclaaGreatMCanonPut11
namespace Go.Proofs.YtbijfkpilncclaaGreat
open Go.RowKit
abbrev mapT : TypeId := 161
abbrev ndpT : TypeId := 128
def kv (a : Addr × Addr) : Value := .agg #[.pointer (some a.1), .pointer (some a.2)]
theorem eq_ptr (w : World) (a b : Addr) (ha : Clean w a.block) (hb : Clean w b.block) (d : Nat) : (Op.equalIn (d + 1) ndpT (.pointer (some a)) (.pointer (some b))).run Tryz.prog w = .ok (decide (a = b)) w := by
  obtain ⟨i0, hi, hz0, hz1, hz2⟩ := info_parts infoNd
  by_cases h : a = b
  · subst h
    simp [Op.equalIn, run_underlying (P := Tryz.prog) Tryz.underlying128, sizeOf, typeInfo, hi, run_sameAddr_same]
  · obtain ⟨ca, ta, ha⟩ := ha
    obtain ⟨cb, tb, hb⟩ := hb
    have hs : i0.size ≠ 0 := by rw [hz1]; decide
    simp [Op.equalIn, run_underlying (P := Tryz.prog) Tryz.underlying128, sizeOf, typeInfo, hi, hs, run_sameAddr_other w h ha hb, h]
theorem fieldsPr : (Tryz.prog.fieldsOf prT).toList.map (fun f => (f.name, f.type, f.offset)) = [("a", ndpT, 0), ("b", ndpT, 1)] := by kernel_rfl
theorem run_part1 (w : World) (xs : Array Value) (k : Nat) (v : Value) (h : xs[k]? = some v) : (part ndpT xs k).run Tryz.prog w = .ok v w := by simp [part, h]
theorem eq_pr (w : World) (a b : Addr × Addr) (h1 : Clean w a.1.block) (h2 : Clean w a.2.block) (h3 : Clean w b.1.block) (h4 : Clean w b.2.block) : (Op.equal prT (kv a) (kv b)).run Tryz.prog w = .ok (decide (a = b)) w := by
  unfold kv Op.equal Op.maxDepth
  rw [run_equalIn_struct w 9999 prT _ _ (by kernel_rfl) (by kernel_rfl)]
  have hf := fieldsPr
  generalize (Tryz.prog.fieldsOf prT).toList = fs at hf
  have hl := congrArg List.length hf
  simp only [List.length_map, List.length_cons, List.length_nil] at hl
  obtain ⟨f, g, rfl⟩ : ∃ f g, fs = [f, g] := by
    match fs, hl with
    | [f, g], _ => exact ⟨f, g, rfl⟩
  simp only [List.map_cons, List.map_nil, List.cons.injEq, Prod.mk.injEq, and_true] at hf
  obtain ⟨⟨n1, t1, o1⟩, n2, t2, o2⟩ := hf
  obtain ⟨a1, a2⟩ := a
  obtain ⟨b1, b2⟩ := b
  dsimp only at h1 h2 h3 h4 ⊢
  have q1 : (Op.equalIn 9999 ndpT (.pointer (some a1)) (.pointer (some b1))).run Tryz.prog w = .ok (decide (a1 = b1)) w := eq_ptr w a1 b1 h1 h3 9998
  have q2 : (Op.equalIn 9999 ndpT (.pointer (some a2)) (.pointer (some b2))).run Tryz.prog w = .ok (decide (a2 = b2)) w := eq_ptr w a2 b2 h2 h4 9998
  simp only [Op.eqFields, n1, n2, t1, t2, o1, o2]
  have p1 : (part ndpT #[.pointer (some a1), .pointer (some a2)] 0).run Tryz.prog w = .ok (.pointer (some a1)) w := run_part1 w _ 0 _ rfl
  have p2 : (part ndpT #[.pointer (some a1), .pointer (some a2)] 1).run Tryz.prog w = .ok (.pointer (some a2)) w := run_part1 w _ 1 _ rfl
  have p3 : (part ndpT #[.pointer (some b1), .pointer (some b2)] 0).run Tryz.prog w = .ok (.pointer (some b1)) w := run_part1 w _ 0 _ rfl
  have p4 : (part ndpT #[.pointer (some b1), .pointer (some b2)] 1).run Tryz.prog w = .ok (.pointer (some b2)) w := run_part1 w _ 1 _ rfl
  simp only [Sem.run_ite, Sem.run_bind, Sem.run_pure, p1, p2, p3, p4, q1, q2, Result.andThen_ok]
  by_cases e1 : a1 = b1
  · by_cases e2 : a2 = b2
    · simp [e1, e2]
    · simp [e1, e2]
  · simp [e1]
def MapSt (w : World) (mb : Nat) (K : List (Addr × Addr)) : Prop := ∃ es clock, w.heap[mb]? = some (.map es clock) ∧ es.toList.map (fun e => (e.key, e.val)) = K.map (fun a => (kv a, Value.bool true))
def CleanP (w : World) (a : Addr × Addr) : Prop := Clean w a.1.block ∧ Clean w a.2.block
instance : DecidableEq (Addr × Addr) := instDecidableEqProd
theorem run_findAsking (w : World) (a : Addr × Addr) (ha : CleanP w a) : ∀ (es : List MapEntry) (K : List (Addr × Addr)) (i : Nat), es.map (fun e => (e.key, e.val)) = K.map (fun a => (kv a, Value.bool true)) → (∀ b ∈ K, CleanP w b) →
    (a ∈ K ∧ ∃ j, (Instr.findAsking prT (kv a) es i).run Tryz.prog w = .ok (some (j, .bool true)) w) ∨ (a ∉ K ∧ (Instr.findAsking prT (kv a) es i).run Tryz.prog w = .ok none w)
  | [], K, i, h, _ => by
    obtain rfl : K = [] := by cases K; rfl; simp at h
    exact .inr ⟨by simp, by simp [Instr.findAsking]⟩
  | e :: es, [], i, h, _ => by simp at h
  | e :: es, b :: K, i, h, hc => by
    simp only [List.map_cons, List.cons.injEq, Prod.mk.injEq] at h
    have hb := hc b List.mem_cons_self
    have he := eq_pr w a b ha.1 ha.2 hb.1 hb.2
    by_cases hab : a = b
    · subst hab
      refine .inl ⟨List.mem_cons_self, i, ?_⟩
      simp [Instr.findAsking, h.1.1, h.1.2, he]
    · rcases run_findAsking w a ha es K (i + 1) h.2 (fun x hx => hc x (List.mem_cons_of_mem _ hx)) with ⟨h1, j, h2⟩ | ⟨h1, h2⟩
      · exact .inl ⟨List.mem_cons_of_mem _ h1, j, by simp [Instr.findAsking, h.1.1, he, hab, h2]⟩
      · exact .inr ⟨by simp [hab, h1], by simp [Instr.findAsking, h.1.1, he, hab, h2]⟩
theorem run_checkKey_pr (e : Bool) (a : Addr × Addr) (w : World) : (Instr.checkKey e 10000 prT (kv a)).run Tryz.prog w = .ok () w := by
  have hq : ∀ (n : Nat) (p : Addr), (Instr.checkKey e (n + 1) ndpT (.pointer (some p))).run Tryz.prog w = .ok () w := fun n p => by
    simp [Instr.checkKey, run_underlying (P := Tryz.prog) Tryz.underlying128]
  have hp : ∀ (p : Addr), (Instr.checkKey e 9999 ndpT (.pointer (some p))).run Tryz.prog w = .ok () w := hq 9998
  unfold kv
  unfold Instr.checkKey
  simp [run_underlying (P := Tryz.prog) Tryz.underlying130, hp, run_part1 w #[.pointer (some a.1), .pointer (some a.2)] 0 _ rfl, run_part1 w #[.pointer (some a.1), .pointer (some a.2)] 1 _ rfl]
theorem mapUnd : Tryz.prog.underlying mapT = some (.map prT 4) := Tryz.underlying161
theorem run_findKey_pr (w : World) (a : Addr × Addr) (ha : CleanP w a) (es : List MapEntry) (K : List (Addr × Addr)) (h : es.map (fun e => (e.key, e.val)) = K.map (fun a => (kv a, Value.bool true))) (hK : ∀ b ∈ K, CleanP w b) :
    (a ∈ K ∧ ∃ j, (Instr.findKey prT (kv a) es).run Tryz.prog w = .ok (some (j, .bool true)) w) ∨ (a ∉ K ∧ (Instr.findKey prT (kv a) es).run Tryz.prog w = .ok none w) := by
  cases es with
  | nil =>
    obtain rfl : K = [] := by cases K; rfl; simp at h
    refine .inr ⟨by simp, ?_⟩
    simp [Instr.findKey, run_underlying (P := Tryz.prog) Tryz.underlying130, Instr.findNow]
  | cons e es =>
    have hk : e.key = kv (K.headD default) := by
      cases K with
      | nil => simp at h
      | cons b K => simp at h; exact h.1.1
    have h1 : (Instr.findKey prT (kv a) (e :: es)).run Tryz.prog w = (Instr.findAsking prT (kv a) (e :: es) 0).run Tryz.prog w := by
      simp [Instr.findKey, run_underlying (P := Tryz.prog) Tryz.underlying130, Instr.findNow, hk, kv, Instr.sameNow]
    rw [h1]
    exact run_findAsking w a ha (e :: es) K 0 h hK
theorem lookup_pr (w : World) (mb : Nat) (a : Addr × Addr) (K : List (Addr × Addr)) (hm : MapSt w mb K) (ha : CleanP w a) (hK : ∀ b ∈ K, CleanP w b) (b : Bool) (hb : b = true ↔ a ∈ K) :
    (Instr.lookup mapT (.map (some mb)) (kv a) false).run Tryz.prog w = .ok (.bool b) w := by
  obtain ⟨es, clock, hw, he⟩ := hm
  rcases run_findKey_pr w a ha es.toList K he hK with ⟨h1, j, h2⟩ | ⟨h1, h2⟩
  · obtain rfl : b = true := hb.2 h1
    simp [Instr.lookup, run_underlying (P := Tryz.prog) mapUnd, MapKept.run_getObj_map hw, run_checkKey_pr, h2]
  · obtain rfl : b = false := bool_no hb h1
    simp [Instr.lookup, run_underlying (P := Tryz.prog) mapUnd, MapKept.run_getObj_map hw, run_checkKey_pr, h2]
theorem update_pr (w : World) (mb : Nat) (a : Addr × Addr) (K : List (Addr × Addr)) (hm : MapSt w mb K) (ha : CleanP w a) (hK : ∀ b ∈ K, CleanP w b) (hb : a ∉ K) :
    ∃ w', (Instr.mapUpdate mapT (.map (some mb)) (kv a) (.bool true)).run Tryz.prog w = .ok () w' ∧ MapSt w' mb (K ++ [a]) ∧ w'.os = w.os ∧ w'.tape = w.tape ∧ w'.output = w.output ∧ w'.heap.size = w.heap.size ∧ ∀ k, k ≠ mb → w'.heap[k]? = w.heap[k]? := by
  obtain ⟨es, clock, hw, he⟩ := hm
  rcases run_findKey_pr w a ha es.toList K he hK with ⟨h1, _⟩ | ⟨_, h2⟩
  · exact absurd h1 hb
  · refine ⟨{ w with heap := w.heap.setIfInBounds mb (.map (es.push { key := kv a, val := .bool true, born := clock }) (clock + 1)) }, ?_, ⟨_, _, (MapKept.heap_set hw).1, ?_⟩, rfl, rfl, rfl, by simp, (MapKept.heap_set hw).2⟩
    · simp [Instr.mapUpdate, run_underlying (P := Tryz.prog) mapUnd, MapKept.run_getObj_map hw, run_checkKey_pr, h2, MapKept.run_setObj_map _ hw]
    · simp [he]
end Go.Proofs.YtbijfkpilncclaaGreat

namespace Go.Proofs.YtbijfkpilncclaaGreat
open Go.RowKit Go.Deep
theorem kb {w w' : World} {B b o : Nat} {v : Value} (hb : Below B w w') (hl : b < B) (h : w.cell? ⟨b, o, none⟩ = some v) : w'.cell? ⟨b, o, none⟩ = some v := (hb.cell hl).trans h
theorem ownsRow_from {w : World} {B B' e z n : Nat} {v : Value} {xs : List Value} (h : w.ownsRow B e z v n xs) (hb : B' ≤ B) : w.ownsRow B' e z v n xs := by
  refine ⟨h.1, h.2.imp id ?_⟩
  rintro ⟨g, cap, cur, e, hB, hr⟩
  exact ⟨g, cap, cur, e, Nat.le_trans hb hB, hr⟩
theorem parts_lens {n n' : Nd} (h : PartsEq n n') : n.ptrs.length = n'.ptrs.length ∧ n.items.length = n'.items.length := ⟨h.2.2.2.2.1, h.2.2.2.2.2⟩
theorem same_parts {n n' : Nd} (h : n = n') : PartsEq n n' := by subst h; exact ⟨rfl, rfl, rfl, rfl, rfl, rfl⟩
theorem clean_below {w w' : World} {k : Nat} (h : Clean w k) (hb : Below w.heap.size w w') : Clean w' k := by
  obtain ⟨c, t, hk⟩ := h
  exact ⟨c, t, (hb.block k (row_lt hk)).trans hk⟩
theorem nds_head {w : World} {S : Nat → Prop} {m : Nat} {A : Option Addr} {l : List Nd} (h : NdsAt w S m A l) : l = [] ∨ ∃ x, A = some x := by
  rcases Nat.eq_zero_or_pos l.length with h0 | h0
  · exact .inl (List.eq_nil_of_length_eq_zero h0)
  · obtain ⟨j, rfl⟩ := h.pred h0
    obtain ⟨x, _, hA, _⟩ := h.at_ h0
    exact .inr ⟨x, hA⟩
theorem concat_of {α : Type} (l : List α) (h : 0 < l.length) : ∃ l' x, l = l' ++ [x] := by
  rcases List.eq_nil_or_concat l with e | ⟨l', x, e⟩
  · subst e; cases h
  · exact ⟨l', x, by rw [e, List.concat_eq_append]⟩
theorem own_open {w : World} {B n cap : Nat} {A : Option Addr} {xs : List Value} (h : w.ownsRow B prT 2 (.slice A (n + 1) cap) (n + 1) xs) : ∃ g, A = some ⟨g, 0, none⟩ ∧ B ≤ g ∧ n + 1 ≤ cap ∧ g < w.heap.size ∧ ∀ j u, xs[j]? = some u → w.cell? ⟨g, j, none⟩ = some u := by
  rcases h.2 with ⟨e, _⟩ | ⟨g, cap', cur, e, hB, hg, hc, _⟩
  · simp at e
  · simp only [Value.slice.injEq, true_and] at e
    obtain ⟨rfl, rfl⟩ := e
    refine ⟨g, rfl, hB, hc, row_lt hg, fun j u hj => ?_⟩
    have := h.cells (g := g) rfl j u hj
    rwa [add_zero0] at this
theorem own_keep {w w' : World} {B e z n : Nat} {v : Value} {xs : List Value} (h : w.ownsRow B e z v n xs) (hk : ∀ k, B ≤ k → k < w.heap.size → w'.heap[k]? = w.heap[k]?) : w'.ownsRow B e z v n xs := by
  refine ⟨h.1, h.2.imp id ?_⟩
  rintro ⟨g, cap, cur, e, hB, hg, hr⟩
  exact ⟨g, cap, cur, e, hB, (hk g hB (row_lt hg)).trans hg, hr⟩
theorem own_pop {w : World} {B cap : Nat} {A : Option Addr} {G : List PT} {t : PT} (h : w.ownsRow B prT 2 (.slice A (G.length + 1) cap) (G.length + 1) (rowP (G ++ [t]))) : w.ownsRow B prT 2 (.slice A G.length cap) G.length (rowP G) := by
  refine ⟨rowP_length G, ?_⟩
  rcases h.2 with ⟨e, _⟩ | ⟨g, cap', cur, e, hB, hg, hc, hm, hs, ht⟩
  · simp at e
  · simp only [Value.slice.injEq, true_and] at e
    obtain ⟨rfl, rfl⟩ := e
    refine .inr ⟨g, cap, cur, rfl, hB, hg, by omega, hm, hs, ?_⟩
    rw [rowP_app] at ht
    have h1 := congrArg (List.take (G.length * 2)) ht
    rw [List.take_take, Nat.min_eq_left (by omega), List.take_append_of_le_length (Nat.le_of_eq (rowP_length G).symm)] at h1
    rw [h1]
    exact List.take_of_length_le (by rw [rowP_length]; exact Nat.le_refl _)
def hd1 (t : PT) (hx hy : Hd) : List PT := pts (hx.A.getD default) (hy.A.getD default) 0 t.2.1.ptrs t.2.2.ptrs
def hd2 (t : PT) (hx hy : Hd) : List PT := pts (hx.B.getD default) (hy.B.getD default) 0 t.2.1.items t.2.2.items
def LookP (t : PT) (hx hy : Hd) (W : World) (e : Ending) (w' : World) : Prop := ∃ (A : Option Addr) (l c : Nat), e = .returned (.tuple #[.bool (parts6 t.2.1 t.2.2), .slice A l c]) ∧ (parts6 t.2.1 t.2.2 = true → l = (hd1 t hx hy).length + (hd2 t hx hy).length ∧ w'.ownsRow W.heap.size prT 2 (.slice A l c) l (rowP (hd1 t hx hy) ++ rowP (hd2 t hx hy))) ∧ Below W.heap.size W w'
set_option maxHeartbeats 8000000 in
set_option maxRecDepth 100000 in
theorem look_a (t : PT) (hx hy : Hd) (m m' : Nat) (S S' : Nat → Prop) (w : World) (nx : NdCell w t.1.1 t.2.1 hx) (ny : NdCell w t.1.2 t.2.2 hy) (ax : NdAt w S m t.2.1 hx) (ay : NdAt w S' m' t.2.2 hy) (ht : totN m t.2.1 ≤ 2000000) :
    Calls Tryz.prog 94 #[.agg #[.pointer (some t.1.1), .pointer (some t.1.2)]] w (LookP t hx hy w) := by
  have hba := (Below.refl w.heap.size w).alloc (Nat.le_refl _) (.cells #[.pointer (some t.1.1), .pointer (some t.1.2)] prT)
  have HP := Lib.hid (heap_alloc_new w (.cells #[.pointer (some t.1.1), .pointer (some t.1.2)] prT))
  have HBA := Lib.hid hba
  have hsz : (w.alloc (.cells #[.pointer (some t.1.1), .pointer (some t.1.2)] prT)).heap.size = w.heap.size + 1 := by simp
  have HCX : Hid (∀ V : World, Below w.heap.size w V → NdCell V t.1.1 t.2.1 hx ∧ NdCell V t.1.2 t.2.2 hy) := Lib.hid fun V hV => ⟨cell_below hV _ _ _ nx, cell_below hV _ _ _ ny⟩
  have HSP := Lib.hid (sameParts_a t.1.1 t.1.2 t.2.1 t.2.2 hx hy _ (HCX.out _ hba).1 (HCX.out _ hba).2 ax.2.1.len ax.2.2.len ay.2.1.len ay.2.2.len)
  have HAX := Lib.hid (And.intro ax ay)
  have HT := Lib.hid ht
  obtain ⟨p0, p1⟩ : (w.alloc (.cells #[.pointer (some t.1.1), .pointer (some t.1.2)] prT)).cell? ⟨w.heap.size, 0, none⟩ = some (.pointer (some t.1.1)) ∧ (w.alloc (.cells #[.pointer (some t.1.1), .pointer (some t.1.2)] prT)).cell? ⟨w.heap.size, 1, none⟩ = some (.pointer (some t.1.2)) := ⟨by rw [cell_of_row _ _ _ _ _ _ HP.out]; rfl, by rw [cell_of_row _ _ _ _ _ _ HP.out]; rfl⟩
  unfold LookP
  obtain ⟨Q1, hQ1⟩ : ∃ Q1, Q1 = hd1 t hx hy := ⟨_, rfl⟩
  obtain ⟨Q2, hQ2⟩ : ∃ Q2, Q2 = hd2 t hx hy := ⟨_, rfl⟩
  rw [← hQ1, ← hQ2]
  have HQ1 := Lib.hid hQ1
  have HQ2 := Lib.hid hQ2
  clear nx ny ax ay ht hba hQ1 hQ2
  go_enter Tryz.func94, Tryz.ntmps94
  go_wp2_with fail
  generalize w.alloc (.cells #[.pointer (some t.1.1), .pointer (some t.1.2)] prT) = W at *
  refine HSP.out.mono ?_
  rintro e w5 ⟨rfl, hb5⟩
  have HP5 := Lib.hid ((hb5.block _ (row_lt HP.out)).trans HP.out)
  have HB5 := Lib.hid (HBA.out.trans (hb5.mono HBA.out.size))
  have hs5 := hb5.size
  clear hb5 p0 p1 HSP HP HBA
  cases hpp : parts6 t.2.1 t.2.2
  · go_wp2
    go_ret2
    rw [hpp]
    exact ⟨none, 0, 0, rfl, (fun e => by cases e), HB5.out⟩
  · have HPP := Lib.hid hpp
    have hpe := (parts6_iff _ _).1 hpp
    obtain ⟨l1, l2⟩ := parts_lens hpe
    have htl : totN m t.2.1 ≤ 2000000 := HT.out
    have hpl := totL_len' HAX.out.1.2.1 (by unfold totN at htl; omega)
    have hil := totL_len' HAX.out.1.2.2 (by unfold totN at htl; omega)
    have hw1 : wt m Q1 ≤ totL m t.2.1.ptrs := by rw [HQ1.out]; exact pts_wt _ _ _ HAX.out.1.2.1
    have hw2 : wt m Q2 ≤ totL m t.2.1.items := by rw [HQ2.out]; exact pts_wt _ _ _ HAX.out.1.2.2
    have hlen3 : Q1.length + Q2.length ≤ 2000001 := by
      have q1 := wt_len m Q1
      have q2 := wt_len m Q2
      have : totN m t.2.1 = t.2.1.data.size + totL m t.2.1.ptrs + totL m t.2.1.items := rfl
      omega
    have HPR1 : Hid (∀ V : World, Calls Tryz.prog 96 #[.slice hx.A t.2.1.ptrs.length hx.a, .slice hy.A t.2.2.ptrs.length hy.a] V fun e w' => ∃ v, e = .returned v ∧ w'.ownsRow V.heap.size prT 2 v Q1.length (rowP Q1) ∧ Below V.heap.size V w') := Lib.hid fun V => by
      have := pairsOf_a hx.A hy.A hx.a hy.a t.2.1.ptrs t.2.2.ptrs V (nds_head HAX.out.1.2.1) (nds_head HAX.out.2.2.1) l1 hpl
      unfold PairsP at this
      rw [HQ1.out]
      exact this
    have HPR2 : Hid (∀ V : World, Calls Tryz.prog 96 #[.slice hx.B t.2.1.items.length hx.b, .slice hy.B t.2.2.items.length hy.b] V fun e w' => ∃ v, e = .returned v ∧ w'.ownsRow V.heap.size prT 2 v Q2.length (rowP Q2) ∧ Below V.heap.size V w') := Lib.hid fun V => by
      have := pairsOf_a hx.B hy.B hx.b hy.b t.2.1.items t.2.2.items V (nds_head HAX.out.1.2.2) (nds_head HAX.out.2.2.2) l2 hil
      unfold PairsP at this
      rw [HQ2.out]
      exact this
    have hPlt := row_lt HP5.out
    obtain ⟨c0, c1, c2, c3, c4, c5⟩ := (HCX.out w5 HB5.out).1
    obtain ⟨d0, d1, d2, d3, d4, d5⟩ := (HCX.out w5 HB5.out).2
    have p0 : w5.cell? ⟨w.heap.size, 0, none⟩ = some (.pointer (some t.1.1)) := by rw [cell_of_row _ _ _ _ _ _ HP5.out]; rfl
    have p1 : w5.cell? ⟨w.heap.size, 1, none⟩ = some (.pointer (some t.1.2)) := by rw [cell_of_row _ _ _ _ _ _ HP5.out]; rfl
    clear hw1 hw2 htl hpl hil l1 l2 hpe hpp
    go_wp2_with fail
    have hlp : w.heap.size < w5.heap.size := hPlt
    have hlx : t.1.1.block < w5.heap.size := (HCX.out w5 HB5.out).1.lt
    have hly : t.1.2.block < w5.heap.size := (HCX.out w5 HB5.out).2.lt
    have HSB : Hid (Below w5.heap.size w5 w5) := Lib.hid (Below.refl _ _)
    clear c0 c1 c3 c4 d0 d1 d3 d4
    go_region_held3 (fun V => (V.cell? ⟨w.heap.size, 0, none⟩ = some (.pointer (some t.1.1)) ∧ V.cell? ⟨w.heap.size, 1, none⟩ = some (.pointer (some t.1.2))) ∧ (V.cell? ⟨t.1.1.block, t.1.1.off + 2, none⟩ = some (.slice hx.A t.2.1.ptrs.length hx.a) ∧ V.cell? ⟨t.1.1.block, t.1.1.off + 5, none⟩ = some (.slice hx.B t.2.1.items.length hx.b) ∧ V.cell? ⟨t.1.2.block, t.1.2.off + 2, none⟩ = some (.slice hy.A t.2.2.ptrs.length hy.a) ∧ V.cell? ⟨t.1.2.block, t.1.2.off + 5, none⟩ = some (.slice hy.B t.2.2.items.length hy.b)) ∧ Below w5.heap.size w5 V)
      ((first | exact ⟨⟨p0, p1⟩, ⟨c2, c5, d2, d5⟩, HSB.out.drew⟩ | (obtain ⟨⟨s0, s1⟩, ⟨s2, s5, u2, u5⟩, sb⟩ := ‹(_ ∧ _) ∧ (_ ∧ _) ∧ Below w5.heap.size w5 _›; exact ⟨⟨kb hbq hlp s0, kb hbq hlp s1⟩, ⟨kb hbq hlx s2, kb hbq hlx s5, kb hbq hly u2, kb hbq hly u5⟩, sb.trans hbq⟩)))
      (first | (refine step_append_pts rfl (.tmp 20) (.tmp 31) rfl w5.heap.size w5.heap.size _ v3 Q1.length (rowP Q1) Q2 rfl rfl HO8.out HV3.out (by omega) (by omega) ?_; intro A7 c7 w7 hown7 hgrow7; have hbq : Below w5.heap.size w8 w7 := (Below.refl w5.heap.size w8).grown hgrow7.out (by omega) (fun k hk => (HO8.out.lt k hk).1)) | (go_at_call 96; first | ((with_reducible refine (HPR1.out _).mono ?_); rintro e w6 ⟨v2, rfl, hown2, hb6⟩; have hsv := (‹(_ ∧ _) ∧ (_ ∧ _) ∧ Below w5.heap.size w5 _›).2.2.size; have hs6 : w5.heap.size ≤ w6.heap.size := Nat.le_trans hsv hb6.size; have HV2 : Hid (w6.ownsRow w5.heap.size prT 2 v2 Q1.length (rowP Q1)) := Lib.hid (ownsRow_from hown2 hsv); have hbq := hb6.mono hsv; clear hb6 hown2) | ((with_reducible refine (HPR2.out _).mono ?_); rintro e w8 ⟨v3, rfl, hown3, hb8⟩; have hsv := (‹(_ ∧ _) ∧ (_ ∧ _) ∧ Below w5.heap.size w5 _›).2.2.size; have hs8 : w5.heap.size ≤ w8.heap.size := Nat.le_trans hsv hb8.size; have HV3 : Hid (w8.ownsRow w5.heap.size prT 2 v3 Q2.length (rowP Q2)) := Lib.hid (ownsRow_from hown3 hsv); have HO8 : Hid (w8.ownsRow w5.heap.size prT 2 v2 Q1.length (rowP Q1)) := Lib.hid (own_keep (w := w6) HV2.out (fun k _ hk => hb8.block k hk)); have hbq := hb8.mono hsv; clear hb8 hown3)))
    all_goals
      have hS := ‹(_ ∧ _) ∧ (_ ∧ _) ∧ Below w5.heap.size w5 _›
      have hb7 : Below w.heap.size w w7 := HB5.out.trans (hS.2.2.mono HB5.out.size)
      have hbase : w.heap.size ≤ w5.heap.size := HB5.out.size
      have HOWN7 := Lib.hid (ownsRow_from hown7.out hbase)
      have HB7 := Lib.hid hb7
      clear hb7 hown7 hgrow7 hS c2 c5 d2 d5 p0 p1
      go_wp2
      go_ret2
      rw [HPP.out]
      exact ⟨A7, _, c7, rfl, fun _ => ⟨rfl, HOWN7.out⟩, HB7.out⟩
end Go.Proofs.YtbijfkpilncclaaGreat

namespace Go.Proofs.YtbijfkpilncclaaGreat
open Go.RowKit Go.Deep
theorem wpList_append_pts {ops : Array Oper} {rest : List Oper} {o : Oper} {a : Act} {w : World} {Q : Exit → Act → World → Prop} (hgd : o.guard = none) (s x : Operand)
    (ho : o.op = .call { callee := .builtin .append, args := #[s, x], argTypes := #[prsT, prsT] })
    (base base2 : Nat) (v v2 : Value) (n : Nat) (xs : List Value) (G : List PT) (hs : a.eval s = v) (hx : a.eval x = v2) (hown : w.ownsRow base prT 2 v n xs) (h2 : w.ownsRow base2 prT 2 v2 G.length (rowP G)) (hb : n + G.length ≤ 4000002) (hbase : base ≤ w.heap.size)
    (h : ∀ A' c' w', Hid (w'.ownsRow base prT 2 (.slice A' (n + G.length) c') (n + G.length) (xs ++ rowP G)) → Hid (w.grownBy w' v.ownBlock) → wpList Tryz.prog ops Q rest (a.put o.dst (.slice A' (n + G.length) c')) w') :
    wpList Tryz.prog ops Q (o :: rest) a w :=
  wpList_plain hgd fun K hK => by
    obtain ⟨v', w', hr, h3, h4⟩ := run_append_pts base base2 o.type w v v2 n xs G hown h2 hb hbase
    obtain ⟨A', c', rfl⟩ := own_sliceN h3
    unfold Oper.wp execOp
    simp only [ho, resolve, invoke, builtin, Sem.run_bind, Sem.run_pure, Result.andThen_ok, List.map_toArray, List.map_cons, List.map_nil, hs, hx, hr]
    exact hK _ _ (h A' c' w' h3 h4)
set_option maxHeartbeats 8000000 in
set_option maxRecDepth 100000 in
theorem allSame_a (m : Nat) (n n' : Nd) (pa pb : Addr) (w : World) (b : Bool) (hl : Lies w (Clean w) m ((pa, pb), (n, n'))) (ht : totN m n ≤ 2000000) (hb : b = true ↔ n = n') :
    Calls Tryz.prog 93 #[.pointer (some pa), .pointer (some pb), .func (.func 94) #[] #[]] w fun e w' => e = .returned (.bool b) ∧ Below w.heap.size w w' := by
  have hmp : ((w.alloc (.map #[] 0)).alloc (.cells #[.pointer (some pa), .pointer (some pb)] prT)).heap[w.heap.size]? = some (.map #[] 0) := heap_alloc_keep Array.getElem?_push_size _
  have hb4 : Below w.heap.size w ((w.alloc (.map #[] 0)).alloc (.cells #[.pointer (some pa), .pointer (some pb)] prT)) := ((Below.refl _ _).alloc (Nat.le_refl _) _).alloc (by simp) _
  have ho4 := own_one (w.alloc (.map #[] 0)) ((pa, pb), (n, n'))
  rw [show (w.alloc (.map #[] 0)).heap.size = w.heap.size + 1 by simp] at ho4
  have HI0 : Hid (Inv w (Clean w) m n n' [((pa, pb), (n, n'))] [] []) := Lib.hid ⟨fun t ht => by obtain rfl := List.mem_singleton.1 ht; exact hl, fun a ha => (by cases ha), fun d hd => (by cases hd), by simp, fun e t ht => by obtain rfl := List.mem_singleton.1 ht; exact e⟩
  have HM4 : Hid (MapSt ((w.alloc (.map #[] 0)).alloc (.cells #[.pointer (some pa), .pointer (some pb)] prT)) w.heap.size []) := Lib.hid ⟨_, _, hmp, rfl⟩
  have HB4 := Lib.hid hb4
  have HO4 := Lib.hid ho4
  have HQ := Lib.hid hb
  have HT := Lib.hid ht
  clear hmp hb4 ho4 hl hb ht
  have hmm := @run_makeMap Tryz.prog
  go_enter Tryz.func93, Tryz.ntmps93
  go_wp2_with fail
  go_loopg [8] (1 + totN m n) (fun g v wr => ∃ (A : Option Addr) (len cap : Nat) (G : List PT) (K : List (Addr × Addr)) (D : List (Nd × Nd)), v = .slice A len cap ∧ len = G.length ∧ wt m G = g ∧ g ≤ 2000001 ∧ Hid (wr.ownsRow (w.heap.size + 1) prT 2 (.slice A len cap) G.length (rowP G)) ∧ Hid (Inv w (Clean w) m n n' G K D) ∧ Hid (MapSt wr w.heap.size K) ∧ Hid (Below w.heap.size w wr))
  case atStart => exact ⟨_, 1, 1, _, [], [], rfl, rfl, Nat.add_zero _, by have := HT.out; omega, HO4, HI0, HM4, HB4⟩
  case round =>
    obtain ⟨A, len, cap, G, K, D, rfl, hlen, hwt, hg, HO, HI, HM, HB⟩ := hrel
    have hGw := wt_len m G
    by_cases h0 : len = 0
    · subst h0
      obtain rfl : G = [] := List.eq_nil_of_length_eq_zero hlen.symm
      obtain rfl : b = true := HQ.out.2 HI.out.end_
      clear hmm hlen hwt hg hGw
      go_wp2
      go_ret
      exact ⟨rfl, HB.out⟩
    · obtain ⟨k, rfl⟩ : ∃ k, len = k + 1 := ⟨len - 1, by omega⟩
      obtain ⟨G', t, rfl⟩ := concat_of G (by omega)
      have hk' : G'.length = k := by simp at hlen; omega
      subst hk'
      have hkb : G'.length ≤ 2000001 := by omega
      obtain ⟨g, rfl, hgB, hcap, hgs, hcell⟩ := own_open (by have := HO.out; rw [show (G' ++ [t]).length = G'.length + 1 by simp] at this; exact this)
      have hl2 := rowP_last G' t
      have c0 := hcell _ _ hl2.1
      have c1 := hcell _ _ hl2.2
      have HO1 := Lib.hid (own_pop (by have := HO.out; rw [show (G' ++ [t]).length = G'.length + 1 by simp] at this; exact this))
      have hadd : (⟨g, 0, none⟩ : Addr).add (G'.length * 2) = ⟨g, G'.length * 2, none⟩ := add_zero0 _ _
      have hwr : IntKind.i64.wrap (((G'.length + 1 : Nat) : Int) - 1) = (G'.length : Int) := by rw [IntKind.wrap_i64]; omega
      have hlt : (G'.length : Int) < ((G'.length + 1 : Nat) : Int) := by omega
      have hcp : (G'.length : Int) ≤ (cap : Int) := by omega
      have HC := Lib.hid hcell
      clear hl2 hcell h0 hlen hGw hmm
      have hw64 : wrap64 (G'.length : Int) = (G'.length : Int) := by unfold wrap64; omega
      have hlt0 : Lies w (Clean w) m t := HI.out.lies t (by simp)
      have hkeep : ∀ k, Clean w k → Clean wr k := fun k hk => by
        obtain ⟨c, T, hc⟩ := hk
        exact ⟨c, T, (HB.out.block k (row_lt hc)).trans hc⟩
      have hcl : ∀ a, (a = t.1 ∨ a ∈ K) → CleanP (wr.alloc (.cells #[.pointer (some t.1.1), .pointer (some t.1.2)] prT)) a := fun a ha => by
        have h1 : Clean w a.1.block ∧ Clean w a.2.block := by
          rcases ha with rfl | ha
          · exact ⟨hlt0.1, hlt0.2.1⟩
          · obtain ⟨d, hd, _⟩ := HI.out.keys a ha
            exact ⟨hd.1, hd.2.1⟩
        exact ⟨clean_below (hkeep _ h1.1) ((Below.refl _ _).alloc (Nat.le_refl _) _), clean_below (hkeep _ h1.2) ((Below.refl _ _).alloc (Nat.le_refl _) _)⟩
      have hM1 : MapSt (wr.alloc (.cells #[.pointer (some t.1.1), .pointer (some t.1.2)] prT)) w.heap.size K := by
        obtain ⟨es, cl, h1, h2⟩ := HM.out
        exact ⟨es, cl, heap_alloc_keep h1 _, h2⟩
      have hB1 := HB.out.alloc HB.out.size (.cells #[.pointer (some t.1.1), .pointer (some t.1.2)] prT)
      have hP1 := heap_alloc_new wr (.cells #[.pointer (some t.1.1), .pointer (some t.1.2)] prT)
      have HO2 := Lib.hid (HO1.out.alloc (.cells #[.pointer (some t.1.1), .pointer (some t.1.2)] prT))
      have hwt2 : wt m G' + (1 + totN m t.2.1) = gk := by rw [← hwt, wt_app]; rfl
      by_cases hin : t.1 ∈ K
      · have hlk := lookup_pr _ w.heap.size t.1 K hM1 (hcl _ (.inl rfl)) (fun b hb => hcl b (.inr hb)) true (iff_true_of hin)
        unfold kv at hlk
        have HM1 := Lib.hid hM1
        have HB1 := Lib.hid hB1
        have HS := Lib.hid (HI.out.skip hin)
        clear hcl hkeep hlt0 hM1 hB1 hin hP1 hwt
        go_wp2
        go_roundg (wt m G')
        case measure => omega
        case rel => exact ⟨_, G'.length, cap, G', K, D, rfl, rfl, rfl, by omega, HO2, HS, HM1, HB1⟩
      · have hlk := lookup_pr _ w.heap.size t.1 K hM1 (hcl _ (.inl rfl)) (fun b hb => hcl b (.inr hb)) false (iff_false_of hin)
        obtain ⟨Wm, hup, hMm, q1, q2, q3, q4, q5⟩ := update_pr _ w.heap.size t.1 K hM1 (hcl _ (.inl rfl)) (fun b hb => hcl b (.inr hb)) hin
        unfold kv at hlk hup
        have hsz : (wr.alloc (.cells #[.pointer (some t.1.1), .pointer (some t.1.2)] prT)).heap.size = wr.heap.size + 1 := by simp
        have hsB := HB.out.size
        have hPm : Wm.heap[wr.heap.size]? = some (.cells #[.pointer (some t.1.1), .pointer (some t.1.2)] prT (0, 0)) := (q5 _ (by have := row_lt HM.out.choose_spec.choose_spec.1; omega)).trans hP1
        have hBm : Below w.heap.size w Wm := ⟨q1.trans hB1.os, q2.trans hB1.tape, q3.trans hB1.output, by rw [q4]; exact hB1.size, fun k hk => (q5 k (by omega)).trans (hB1.block k hk)⟩
        have hOm : Wm.ownsRow (w.heap.size + 1) prT 2 (.slice (some ⟨g, 0, none⟩) G'.length cap) G'.length (rowP G') := own_keep HO2.out (fun k h1 _ => q5 k (by omega))
        obtain ⟨sA, sB, hx, hy, my, nx, ax, ny, ay⟩ := hlt0
        have htl : totN m t.2.1 ≤ 2000000 := by omega
        have HLK := Lib.hid (look_a t hx hy m my _ _ Wm (cell_below hBm _ _ _ nx) (cell_below hBm _ _ _ ny) (ax.below hBm) (ay.below hBm) htl)
        unfold LookP at HLK
        have HAX := Lib.hid (And.intro ax ay)
        have HMm := Lib.hid hMm
        have HBm := Lib.hid hBm
        have HOm := Lib.hid hOm
        have p0 : Wm.cell? ⟨wr.heap.size, 0, none⟩ = some (.pointer (some t.1.1)) := by rw [cell_of_row _ _ _ _ _ _ hPm]; rfl
        have p1 : Wm.cell? ⟨wr.heap.size, 1, none⟩ = some (.pointer (some t.1.2)) := by rw [cell_of_row _ _ _ _ _ _ hPm]; rfl
        clear hcl hkeep hM1 hB1 hP1 q1 q2 q3 q4 q5 hPm hBm hOm hMm nx ny ax ay sA sB hin
        go_wp2_with fail
        refine HLK.out.mono ?_
        rintro e w5 ⟨A5, l5, c5, rfl, hrow5, hb5⟩
        have HM5 : Hid (MapSt w5 w.heap.size (K ++ [t.1])) := Lib.hid (by
          obtain ⟨es, cl, h1, h2⟩ := HMm.out
          exact ⟨es, cl, (hb5.block _ (row_lt h1)).trans h1, h2⟩)
        have HB5 := Lib.hid (HBm.out.trans (hb5.mono HBm.out.size))
        have HO5 := Lib.hid (own_keep HOm.out (fun k _ hk => hb5.block k hk))
        have hs5 : Wm.heap.size ≤ w5.heap.size := hb5.size
        have HR5 := Lib.hid hrow5
        clear hb5 p0 p1 HMm HOm hrow5 HLK
        cases hpp : parts6 t.2.1 t.2.2
        · obtain rfl : b = false := bool_no HQ.out (fun e => by
            have := (parts6_iff _ _).2 (same_parts (HI.out.sound e t (by simp)))
            rw [hpp] at this; cases this)
          go_wp2
          go_ret
          exact ⟨rfl, HB5.out⟩
        · have hpe := (parts6_iff _ _).1 hpp
          obtain ⟨l1, l2⟩ := parts_lens hpe
          obtain ⟨hl5, hown5⟩ := HR5.out hpp
          subst hl5
          obtain ⟨H1, hH1⟩ : ∃ H1, H1 = hd1 t hx hy := ⟨_, rfl⟩
          obtain ⟨H2, hH2⟩ : ∃ H2, H2 = hd2 t hx hy := ⟨_, rfl⟩
          rw [← hH1, ← hH2] at hown5
          rw [← hH1, ← hH2]
          have hw1 : wt m H1 ≤ totL m t.2.1.ptrs := hH1 ▸ pts_wt _ _ _ HAX.out.1.2.1
          have hw2 : wt m H2 ≤ totL m t.2.1.items := hH2 ▸ pts_wt _ _ _ HAX.out.1.2.2
          have hwt3 : wt m (G' ++ H1 ++ H2) < gk ∧ wt m (G' ++ H1 ++ H2) ≤ 2000001 := by
            rw [wt_app, wt_app]
            have : totN m t.2.1 = t.2.1.data.size + totL m t.2.1.ptrs + totL m t.2.1.items := rfl
            omega
          have hlen3 : G'.length + H1.length + H2.length ≤ 2000001 := by
            have := wt_len m (G' ++ H1 ++ H2)
            simp only [List.length_append] at this
            omega
          have HINV : Hid (Inv w (Clean w) m n n' (G' ++ H1 ++ H2) (K ++ [t.1]) (t.2 :: D)) := Lib.hid (HI.out.step hpe
            (by rw [hH1]; exact pts_lies HAX.out.1.2.1 HAX.out.2.2.1 l1) (by rw [hH2]; exact pts_lies HAX.out.1.2.2 HAX.out.2.2.2 l2)
            (by rw [hH1]; exact pts_within _ _ _ _) (by rw [hH2]; exact pts_within _ _ _ _)
            (fun e => by rw [hH1]; exact pts_same _ _ (by rw [e])) (fun e => by rw [hH2]; exact pts_same _ _ (by rw [e])))
          have hown6 : w5.ownsRow Wm.heap.size prT 2 (.slice A5 (H1.length + H2.length) c5) (H1 ++ H2).length (rowP (H1 ++ H2)) := by rw [rowP_app, List.length_append]; exact hown5
          have HV5 := Lib.hid hown6
          have hg5 : w.heap.size + 1 ≤ w5.heap.size := by have := row_lt HM5.out.choose_spec.choose_spec.1; omega
          have hla : G'.length + (H1 ++ H2).length = G'.length + H1.length + H2.length := by rw [List.length_append]; omega
          clear hH1 hH2 hw1 hw2 htl l1 l2 hwt hpp hpe hown5 hown6 HR5 hlk hup hsz c0 c1 hadd hwr hlt hcp hw64 hcap
          go_wp2_with (at_builtin; go_must (refine wpList_append_pts rfl (.tmp 44) (.tmp 45) rfl (w.heap.size + 1) Wm.heap.size _ (.slice A5 (H1.length + H2.length) c5) G'.length (rowP G') (H1 ++ H2) rfl rfl HO5.out HV5.out (by omega) (by omega) ?_); intro A9 c9 w9 hown9 hgrow9)
          have HB9 := Lib.hid (HB5.out.grown hgrow9.out HB5.out.size (fun k hk => by have := (HO5.out.lt k hk).1; omega))
          have HM9 : Hid (MapSt w9 w.heap.size (K ++ [t.1])) := Lib.hid (by
            obtain ⟨es, cl, h1, h2⟩ := HM5.out
            have h3 := row_lt h1
            exact ⟨es, cl, (hgrow9.out.block _ (by omega) (fun e => by have := (HO5.out.lt _ e.symm).1; omega)).trans h1, h2⟩)
          have HO9 : Hid (w9.ownsRow (w.heap.size + 1) prT 2 (.slice A9 (G'.length + (H1.length + H2.length)) c9) (G' ++ H1 ++ H2).length (rowP (G' ++ H1 ++ H2))) := Lib.hid (by
            have e1 : (G' ++ H1 ++ H2).length = G'.length + (H1.length + H2.length) := by simp only [List.length_append]; omega
            have e2 : rowP (G' ++ H1 ++ H2) = rowP G' ++ rowP (H1 ++ H2) := by rw [List.append_assoc, rowP_app]
            have e3 := hown9.out
            rw [show (H1 ++ H2).length = H1.length + H2.length from List.length_append] at e3
            rw [e1, e2]
            exact e3)
          clear hown9 hgrow9
          go_wp2
          go_roundg (wt m (G' ++ H1 ++ H2))
          case measure => exact hwt3.1
          case rel => exact ⟨A9, G'.length + (H1.length + H2.length), c9, G' ++ H1 ++ H2, K ++ [t.1], t.2 :: D, rfl, by simp only [List.length_append]; omega, rfl, hwt3.2, HO9, HINV, HM9, HB9⟩
set_option maxHeartbeats 8000000 in
set_option maxRecDepth 100000 in
theorem implNodeSame_a (m m' : Nat) (n n' : Nd) (h h' : Hd) (w : World) (b : Bool) (hn : NdAt w (Clean w) m n h) (hn' : NdAt w (Clean w) m' n' h') (ht : totN m n ≤ 2000000) (hb : b = true ↔ n = n') :
    Calls Tryz.prog 55 #[.agg #[.int .i64 n.kind, .string n.data, .slice h.A n.ptrs.length h.a, .int .i64 n.size, .int .i64 n.count, .slice h.B n.items.length h.b], .agg #[.int .i64 n'.kind, .string n'.data, .slice h'.A n'.ptrs.length h'.a, .int .i64 n'.size, .int .i64 n'.count, .slice h'.B n'.items.length h'.b]] w fun e w' => e = .returned (.bool b) ∧ Below w.heap.size w w' := by
  have hba : Below w.heap.size w ((w.alloc (.cells #[.int .i64 n.kind, .string n.data, .slice h.A n.ptrs.length h.a, .int .i64 n.size, .int .i64 n.count, .slice h.B n.items.length h.b] nodeT)).alloc (.cells #[.int .i64 n'.kind, .string n'.data, .slice h'.A n'.ptrs.length h'.a, .int .i64 n'.size, .int .i64 n'.count, .slice h'.B n'.items.length h'.b] nodeT)) := ((Below.refl _ _).alloc (Nat.le_refl _) _).alloc (by simp) _
  have k1 : ((w.alloc (.cells #[.int .i64 n.kind, .string n.data, .slice h.A n.ptrs.length h.a, .int .i64 n.size, .int .i64 n.count, .slice h.B n.items.length h.b] nodeT)).alloc (.cells #[.int .i64 n'.kind, .string n'.data, .slice h'.A n'.ptrs.length h'.a, .int .i64 n'.size, .int .i64 n'.count, .slice h'.B n'.items.length h'.b] nodeT)).heap[w.heap.size]? = some (.cells #[.int .i64 n.kind, .string n.data, .slice h.A n.ptrs.length h.a, .int .i64 n.size, .int .i64 n.count, .slice h.B n.items.length h.b] nodeT (0, 0)) := (Below.heap_alloc _ _ _ (by simp)).trans (heap_alloc_new w _)
  have k2 : ((w.alloc (.cells #[.int .i64 n.kind, .string n.data, .slice h.A n.ptrs.length h.a, .int .i64 n.size, .int .i64 n.count, .slice h.B n.items.length h.b] nodeT)).alloc (.cells #[.int .i64 n'.kind, .string n'.data, .slice h'.A n'.ptrs.length h'.a, .int .i64 n'.size, .int .i64 n'.count, .slice h'.B n'.items.length h'.b] nodeT)).heap[w.heap.size + 1]? = some (.cells #[.int .i64 n'.kind, .string n'.data, .slice h'.A n'.ptrs.length h'.a, .int .i64 n'.size, .int .i64 n'.count, .slice h'.B n'.items.length h'.b] nodeT (0, 0)) := by have := heap_alloc_new (w.alloc (.cells #[.int .i64 n.kind, .string n.data, .slice h.A n.ptrs.length h.a, .int .i64 n.size, .int .i64 n.count, .slice h.B n.items.length h.b] nodeT)) (.cells #[.int .i64 n'.kind, .string n'.data, .slice h'.A n'.ptrs.length h'.a, .int .i64 n'.size, .int .i64 n'.count, .slice h'.B n'.items.length h'.b] nodeT); rwa [show (w.alloc (.cells #[.int .i64 n.kind, .string n.data, .slice h.A n.ptrs.length h.a, .int .i64 n.size, .int .i64 n.count, .slice h.B n.items.length h.b] nodeT)).heap.size = w.heap.size + 1 by simp] at this
  have HN := (hn.below hba).weak (S' := Clean ((w.alloc (.cells #[.int .i64 n.kind, .string n.data, .slice h.A n.ptrs.length h.a, .int .i64 n.size, .int .i64 n.count, .slice h.B n.items.length h.b] nodeT)).alloc (.cells #[.int .i64 n'.kind, .string n'.data, .slice h'.A n'.ptrs.length h'.a, .int .i64 n'.size, .int .i64 n'.count, .slice h'.B n'.items.length h'.b] nodeT))) (fun k hk => clean_below hk hba)
  have HN' := (hn'.below hba).weak (S' := Clean ((w.alloc (.cells #[.int .i64 n.kind, .string n.data, .slice h.A n.ptrs.length h.a, .int .i64 n.size, .int .i64 n.count, .slice h.B n.items.length h.b] nodeT)).alloc (.cells #[.int .i64 n'.kind, .string n'.data, .slice h'.A n'.ptrs.length h'.a, .int .i64 n'.size, .int .i64 n'.count, .slice h'.B n'.items.length h'.b] nodeT))) (fun k hk => clean_below hk hba)
  have HL0 : Hid (Lies ((w.alloc (.cells #[.int .i64 n.kind, .string n.data, .slice h.A n.ptrs.length h.a, .int .i64 n.size, .int .i64 n.count, .slice h.B n.items.length h.b] nodeT)).alloc (.cells #[.int .i64 n'.kind, .string n'.data, .slice h'.A n'.ptrs.length h'.a, .int .i64 n'.size, .int .i64 n'.count, .slice h'.B n'.items.length h'.b] nodeT)) (Clean ((w.alloc (.cells #[.int .i64 n.kind, .string n.data, .slice h.A n.ptrs.length h.a, .int .i64 n.size, .int .i64 n.count, .slice h.B n.items.length h.b] nodeT)).alloc (.cells #[.int .i64 n'.kind, .string n'.data, .slice h'.A n'.ptrs.length h'.a, .int .i64 n'.size, .int .i64 n'.count, .slice h'.B n'.items.length h'.b] nodeT))) m ((⟨w.heap.size, 0, none⟩, ⟨w.heap.size + 1, 0, none⟩), (n, n'))) := Lib.hid ⟨⟨_, _, k1⟩, ⟨_, _, k2⟩, h, h', m', ⟨(cells6 k1).1, (cells6 k1).2.1, (cells6 k1).2.2.1, (cells6 k1).2.2.2.1, (cells6 k1).2.2.2.2.1, (cells6 k1).2.2.2.2.2⟩, HN, ⟨(cells6 k2).1, (cells6 k2).2.1, (cells6 k2).2.2.1, (cells6 k2).2.2.2.1, (cells6 k2).2.2.2.2.1, (cells6 k2).2.2.2.2.2⟩, HN'⟩
  have HBA := Lib.hid hba
  have HC := Lib.hid (allSame_a m n n' _ _ _ b HL0.out ht hb)
  clear hn hn' hba k1 k2 hb ht HN HN' HL0
  go_enter Tryz.func55, Tryz.ntmps55
  go_wp2_with fail
  refine HC.out.mono ?_
  rintro e w5 ⟨rfl, hb5⟩
  have HB5 := Lib.hid (HBA.out.trans (hb5.mono HBA.out.size))
  clear hb5
  go_wp2
  go_ret
  exact ⟨rfl, HB5.out⟩
end Go.Proofs.YtbijfkpilncclaaGreat
