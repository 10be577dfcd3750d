/- A map whose keys are pairs of pointers: asked, and written to. -/
import Derived.Test.YtfiiopchfmcjdaaNdParts
import Derived.Test.YtfiiopchfmcjdaaNdToC
import Derived.LaidEqlPtr
import Derived.Laws.StructEq
import Derived.MapKept
namespace Go.Proofs.Ytfiiopchfmcjdaa
open Go.RowKit
abbrev mapT : TypeId := 89
abbrev ndpT : TypeId := 79
def kv (a : Addr × Addr) : Value := .agg #[.pointer (some a.1), .pointer (some a.2)]
theorem eq_ptr (w : World) (a b : Addr) (ha : Clean w a.block) (hb : Clean w b.block) (d : Nat) : (Op.equalIn (d + 1) ndpT (.pointer (some a)) (.pointer (some b))).run Try.prog w = .ok (decide (a = b)) w := by
  obtain ⟨i0, hi, hz0, hz1, hz2⟩ := info_parts infoNd
  by_cases h : a = b
  · subst h
    simp [Op.equalIn, run_underlying (P := Try.prog) Try.underlying79, sizeOf, typeInfo, hi, run_sameAddr_same]
  · obtain ⟨ca, ta, ha⟩ := ha
    obtain ⟨cb, tb, hb⟩ := hb
    have hs : i0.size ≠ 0 := by rw [hz1]; decide
    simp [Op.equalIn, run_underlying (P := Try.prog) Try.underlying79, sizeOf, typeInfo, hi, hs, run_sameAddr_other w h ha hb, h]
theorem fieldsPr : (Try.prog.fieldsOf prT).toList.map (fun f => (f.name, f.type, f.offset)) = [("a", ndpT, 0), ("b", ndpT, 1)] := by kernel_rfl
theorem run_part1 (w : World) (xs : Array Value) (k : Nat) (v : Value) (h : xs[k]? = some v) : (part ndpT xs k).run Try.prog w = .ok v w := by simp [part, h]
theorem eq_pr (w : World) (a b : Addr × Addr) (h1 : Clean w a.1.block) (h2 : Clean w a.2.block) (h3 : Clean w b.1.block) (h4 : Clean w b.2.block) : (Op.equal prT (kv a) (kv b)).run Try.prog w = .ok (decide (a = b)) w := by
  unfold kv Op.equal Op.maxDepth
  rw [run_equalIn_struct w 9999 prT _ _ (by kernel_rfl) (by kernel_rfl)]
  have hf := fieldsPr
  generalize (Try.prog.fieldsOf prT).toList = fs at hf
  have hl := congrArg List.length hf
  simp only [List.length_map, List.length_cons, List.length_nil] at hl
  obtain ⟨f, g, rfl⟩ : ∃ f g, fs = [f, g] := by
    match fs, hl with
    | [f, g], _ => exact ⟨f, g, rfl⟩
  simp only [List.map_cons, List.map_nil, List.cons.injEq, Prod.mk.injEq, and_true] at hf
  obtain ⟨⟨n1, t1, o1⟩, n2, t2, o2⟩ := hf
  obtain ⟨a1, a2⟩ := a
  obtain ⟨b1, b2⟩ := b
  dsimp only at h1 h2 h3 h4 ⊢
  have q1 : (Op.equalIn 9999 ndpT (.pointer (some a1)) (.pointer (some b1))).run Try.prog w = .ok (decide (a1 = b1)) w := eq_ptr w a1 b1 h1 h3 9998
  have q2 : (Op.equalIn 9999 ndpT (.pointer (some a2)) (.pointer (some b2))).run Try.prog w = .ok (decide (a2 = b2)) w := eq_ptr w a2 b2 h2 h4 9998
  simp only [Op.eqFields, n1, n2, t1, t2, o1, o2]
  have p1 : (part ndpT #[.pointer (some a1), .pointer (some a2)] 0).run Try.prog w = .ok (.pointer (some a1)) w := run_part1 w _ 0 _ rfl
  have p2 : (part ndpT #[.pointer (some a1), .pointer (some a2)] 1).run Try.prog w = .ok (.pointer (some a2)) w := run_part1 w _ 1 _ rfl
  have p3 : (part ndpT #[.pointer (some b1), .pointer (some b2)] 0).run Try.prog w = .ok (.pointer (some b1)) w := run_part1 w _ 0 _ rfl
  have p4 : (part ndpT #[.pointer (some b1), .pointer (some b2)] 1).run Try.prog w = .ok (.pointer (some b2)) w := run_part1 w _ 1 _ rfl
  simp only [Sem.run_ite, Sem.run_bind, Sem.run_pure, p1, p2, p3, p4, q1, q2, Result.andThen_ok]
  by_cases e1 : a1 = b1
  · by_cases e2 : a2 = b2
    · simp [e1, e2]
    · simp [e1, e2]
  · simp [e1]
/-- how the map lies in memory: what has been looked at, each with true. -/
def MapSt (w : World) (mb : Nat) (K : List (Addr × Addr)) : Prop := ∃ es clock, w.heap[mb]? = some (.map es clock) ∧ es.toList.map (fun e => (e.key, e.val)) = K.map (fun a => (kv a, Value.bool true))
def CleanP (w : World) (a : Addr × Addr) : Prop := Clean w a.1.block ∧ Clean w a.2.block
instance : DecidableEq (Addr × Addr) := instDecidableEqProd
theorem run_findAsking (w : World) (a : Addr × Addr) (ha : CleanP w a) : ∀ (es : List MapEntry) (K : List (Addr × Addr)) (i : Nat), es.map (fun e => (e.key, e.val)) = K.map (fun a => (kv a, Value.bool true)) → (∀ b ∈ K, CleanP w b) →
    (a ∈ K ∧ ∃ j, (Instr.findAsking prT (kv a) es i).run Try.prog w = .ok (some (j, .bool true)) w) ∨ (a ∉ K ∧ (Instr.findAsking prT (kv a) es i).run Try.prog w = .ok none w)
  | [], K, i, h, _ => by
    obtain rfl : K = [] := by cases K; rfl; simp at h
    exact .inr ⟨by simp, by simp [Instr.findAsking]⟩
  | e :: es, [], i, h, _ => by simp at h
  | e :: es, b :: K, i, h, hc => by
    simp only [List.map_cons, List.cons.injEq, Prod.mk.injEq] at h
    have hb := hc b List.mem_cons_self
    have he := eq_pr w a b ha.1 ha.2 hb.1 hb.2
    by_cases hab : a = b
    · subst hab
      refine .inl ⟨List.mem_cons_self, i, ?_⟩
      simp [Instr.findAsking, h.1.1, h.1.2, he]
    · rcases run_findAsking w a ha es K (i + 1) h.2 (fun x hx => hc x (List.mem_cons_of_mem _ hx)) with ⟨h1, j, h2⟩ | ⟨h1, h2⟩
      · exact .inl ⟨List.mem_cons_of_mem _ h1, j, by simp [Instr.findAsking, h.1.1, he, hab, h2]⟩
      · exact .inr ⟨by simp [hab, h1], by simp [Instr.findAsking, h.1.1, he, hab, h2]⟩
theorem run_checkKey_pr (e : Bool) (a : Addr × Addr) (w : World) : (Instr.checkKey e 10000 prT (kv a)).run Try.prog w = .ok () w := by
  have hq : ∀ (n : Nat) (p : Addr), (Instr.checkKey e (n + 1) ndpT (.pointer (some p))).run Try.prog w = .ok () w := fun n p => by
    simp [Instr.checkKey, run_underlying (P := Try.prog) Try.underlying79]
  have hp : ∀ (p : Addr), (Instr.checkKey e 9999 ndpT (.pointer (some p))).run Try.prog w = .ok () w := hq 9998
  unfold kv
  unfold Instr.checkKey
  simp [run_underlying (P := Try.prog) Try.underlying81, hp, run_part1 w #[.pointer (some a.1), .pointer (some a.2)] 0 _ rfl, run_part1 w #[.pointer (some a.1), .pointer (some a.2)] 1 _ rfl]
theorem mapUnd : Try.prog.underlying mapT = some (.map prT 4) := Try.underlying89
theorem infoBool : (Try.prog.info? 4).map (fun i => i.zero) = some (some (.bool false)) := by kernel_rfl
theorem zero_bool (w : World) : (zeroValue 4).run Try.prog w = .ok (.bool false) w := by
  obtain ⟨i, hi, hz⟩ : ∃ i, Try.prog.info? 4 = some i ∧ i.zero = some (.bool false) := by
    have := infoBool
    cases hx : Try.prog.info? 4 with
    | none => rw [hx] at this; cases this
    | some i => rw [hx] at this; exact ⟨i, rfl, by simpa using this⟩
  simp [zeroValue, typeInfo, hi, hz]
theorem run_findKey_pr (w : World) (a : Addr × Addr) (ha : CleanP w a) (es : List MapEntry) (K : List (Addr × Addr)) (h : es.map (fun e => (e.key, e.val)) = K.map (fun a => (kv a, Value.bool true))) (hK : ∀ b ∈ K, CleanP w b) :
    (a ∈ K ∧ ∃ j, (Instr.findKey prT (kv a) es).run Try.prog w = .ok (some (j, .bool true)) w) ∨ (a ∉ K ∧ (Instr.findKey prT (kv a) es).run Try.prog w = .ok none w) := by
  cases es with
  | nil =>
    obtain rfl : K = [] := by cases K; rfl; simp at h
    refine .inr ⟨by simp, ?_⟩
    simp [Instr.findKey, run_underlying (P := Try.prog) Try.underlying81, Instr.findNow]
  | cons e es =>
    have hk : e.key = kv (K.headD default) := by
      cases K with
      | nil => simp at h
      | cons b K => simp at h; exact h.1.1
    have h1 : (Instr.findKey prT (kv a) (e :: es)).run Try.prog w = (Instr.findAsking prT (kv a) (e :: es) 0).run Try.prog w := by
      simp [Instr.findKey, run_underlying (P := Try.prog) Try.underlying81, Instr.findNow, hk, kv, Instr.sameNow]
    rw [h1]
    exact run_findAsking w a ha (e :: es) K 0 h hK
theorem lookup_pr (w : World) (mb : Nat) (a : Addr × Addr) (K : List (Addr × Addr)) (hm : MapSt w mb K) (ha : CleanP w a) (hK : ∀ b ∈ K, CleanP w b) (b : Bool) (hb : b = true ↔ a ∈ K) :
    (Instr.lookup mapT (.map (some mb)) (kv a) false).run Try.prog w = .ok (.bool b) w := by
  obtain ⟨es, clock, hw, he⟩ := hm
  rcases run_findKey_pr w a ha es.toList K he hK with ⟨h1, j, h2⟩ | ⟨h1, h2⟩
  · obtain rfl : b = true := hb.2 h1
    simp [Instr.lookup, run_underlying (P := Try.prog) mapUnd, MapKept.run_getObj_map hw, run_checkKey_pr, h2]
  · obtain rfl : b = false := bool_no hb h1
    simp [Instr.lookup, run_underlying (P := Try.prog) mapUnd, MapKept.run_getObj_map hw, run_checkKey_pr, h2]
/-- a key more. -/
theorem update_pr (w : World) (mb : Nat) (a : Addr × Addr) (K : List (Addr × Addr)) (hm : MapSt w mb K) (ha : CleanP w a) (hK : ∀ b ∈ K, CleanP w b) (hb : a ∉ K) :
    ∃ w', (Instr.mapUpdate mapT (.map (some mb)) (kv a) (.bool true)).run Try.prog w = .ok () w' ∧ MapSt w' mb (K ++ [a]) ∧ w'.os = w.os ∧ w'.tape = w.tape ∧ w'.output = w.output ∧ w'.heap.size = w.heap.size ∧ ∀ k, k ≠ mb → w'.heap[k]? = w.heap[k]? := by
  obtain ⟨es, clock, hw, he⟩ := hm
  rcases run_findKey_pr w a ha es.toList K he hK with ⟨h1, _⟩ | ⟨_, h2⟩
  · exact absurd h1 hb
  · refine ⟨{ w with heap := w.heap.setIfInBounds mb (.map (es.push { key := kv a, val := .bool true, born := clock }) (clock + 1)) }, ?_, ⟨_, _, (MapKept.heap_set hw).1, ?_⟩, rfl, rfl, rfl, by simp, (MapKept.heap_set hw).2⟩
    · simp [Instr.mapUpdate, run_underlying (P := Try.prog) mapUnd, MapKept.run_getObj_map hw, run_checkKey_pr, h2, MapKept.run_setObj_map _ hw]
    · simp [he]
end Go.Proofs.Ytfiiopchfmcjdaa
