/- Texts of the proof of the law FnExactDatumSame, side by side: part 3. -/
import Derived.Lib.BufferWrite
import Derived.WalkKit
import Derived.Deep.RegionLaw
import Derived.Laws.BitsAllLaws
import Derived.Lib.Hide
import Derived.StillTactics
import Derived.Lib.QuietBelow
import Derived.Test.YtkimkhgigbejkabMExactDatumSame00
import Derived.Test.YtkimkhgigbejkabMExactDatumSame01
import Derived.Test.YtkimkhgigbejkabMExactDatumSame02
/- The laws' own equality of nodes: a node is equal to its like. -/
namespace Go.Proofs.Ytkimkhgigbejkab
open Go.RowKit
def EqS (m : Nat) : Prop := ∀ (A B : Option Addr) (c c' : Nat) (l : List Nd) (w : World) (S S' : Nat → Prop), NdsAt w S m A l → NdsAt w S' m B l → l.length ≤ 2000000 → totL m l ≤ 2000000 →
  Calls Try.prog 36 #[.slice A l.length c, .slice B l.length c'] w fun e w' => e = .returned (.bool true) ∧ Below w.heap.size w w'
def EqN (m : Nat) : Prop := ∀ (n : Nd) (h h' : Hd) (w : World) (S S' : Nat → Prop), NdAt w S m n h → NdAt w S' m n h' → totN m n ≤ 2000000 →
  Calls Try.prog 13 #[.agg #[.int .i64 n.kind, .string n.data, .slice h.A n.ptrs.length h.a, .int .i64 n.size, .int .i64 n.count, .slice h.B n.items.length h.b], .agg #[.int .i64 n.kind, .string n.data, .slice h'.A n.ptrs.length h'.a, .int .i64 n.size, .int .i64 n.count, .slice h'.B n.items.length h'.b]] w fun e w' => e = .returned (.bool true) ∧ Below w.heap.size w w'
theorem totL_len' {w : World} {S : Nat → Prop} {m : Nat} {A : Option Addr} {l : List Nd} (h : NdsAt w S m A l) (ht : totL m l ≤ 2000000) : l.length ≤ 2000000 := by
  cases m with
  | zero => rw [h.zero]; decide
  | succ m => exact Nat.le_trans (totL_len m l) ht
set_option maxHeartbeats 4000000 in
set_option maxRecDepth 100000 in
theorem eqN_of (m : Nat) (hS : EqS m) : EqN m := by
  intro n h h' w S S' hn hn' ht
  have HS := Lib.hid hS
  have hba : Below w.heap.size w ((w.alloc (.cells #[.int .i64 n.kind, .string n.data, .slice h.A n.ptrs.length h.a, .int .i64 n.size, .int .i64 n.count, .slice h.B n.items.length h.b] nodeT)).alloc (.cells #[.int .i64 n.kind, .string n.data, .slice h'.A n.ptrs.length h'.a, .int .i64 n.size, .int .i64 n.count, .slice h'.B n.items.length h'.b] nodeT)) := ((Below.refl _ _).alloc (Nat.le_refl _) _).alloc (by simp) _
  have k1 : ((w.alloc (.cells #[.int .i64 n.kind, .string n.data, .slice h.A n.ptrs.length h.a, .int .i64 n.size, .int .i64 n.count, .slice h.B n.items.length h.b] nodeT)).alloc (.cells #[.int .i64 n.kind, .string n.data, .slice h'.A n.ptrs.length h'.a, .int .i64 n.size, .int .i64 n.count, .slice h'.B n.items.length h'.b] nodeT)).heap[w.heap.size]? = some (.cells #[.int .i64 n.kind, .string n.data, .slice h.A n.ptrs.length h.a, .int .i64 n.size, .int .i64 n.count, .slice h.B n.items.length h.b] nodeT (0, 0)) := (Below.heap_alloc _ _ _ (by simp)).trans (heap_alloc_new w _)
  have k2 : ((w.alloc (.cells #[.int .i64 n.kind, .string n.data, .slice h.A n.ptrs.length h.a, .int .i64 n.size, .int .i64 n.count, .slice h.B n.items.length h.b] nodeT)).alloc (.cells #[.int .i64 n.kind, .string n.data, .slice h'.A n.ptrs.length h'.a, .int .i64 n.size, .int .i64 n.count, .slice h'.B n.items.length h'.b] nodeT)).heap[w.heap.size + 1]? = some (.cells #[.int .i64 n.kind, .string n.data, .slice h'.A n.ptrs.length h'.a, .int .i64 n.size, .int .i64 n.count, .slice h'.B n.items.length h'.b] nodeT (0, 0)) := by have := heap_alloc_new (w.alloc (.cells #[.int .i64 n.kind, .string n.data, .slice h.A n.ptrs.length h.a, .int .i64 n.size, .int .i64 n.count, .slice h.B n.items.length h.b] nodeT)) (.cells #[.int .i64 n.kind, .string n.data, .slice h'.A n.ptrs.length h'.a, .int .i64 n.size, .int .i64 n.count, .slice h'.B n.items.length h'.b] nodeT); rwa [show (w.alloc (.cells #[.int .i64 n.kind, .string n.data, .slice h.A n.ptrs.length h.a, .int .i64 n.size, .int .i64 n.count, .slice h.B n.items.length h.b] nodeT)).heap.size = w.heap.size + 1 by simp] at this
  have HN := Lib.hid (hn.below hba)
  have HN' := Lib.hid (hn'.below hba)
  have hts : ((w.alloc (.cells #[.int .i64 n.kind, .string n.data, .slice h.A n.ptrs.length h.a, .int .i64 n.size, .int .i64 n.count, .slice h.B n.items.length h.b] nodeT)).alloc (.cells #[.int .i64 n.kind, .string n.data, .slice h'.A n.ptrs.length h'.a, .int .i64 n.size, .int .i64 n.count, .slice h'.B n.items.length h'.b] nodeT)).heap.size = w.heap.size + 2 := by simp
  have t1 : totL m n.ptrs ≤ 2000000 := by unfold totN at ht; omega
  have t2 : totL m n.items ≤ 2000000 := by unfold totN at ht; omega
  have HT := Lib.hid (And.intro (And.intro (totL_len' hn.2.1 t1) t1) (And.intro (totL_len' hn.2.2 t2) t2))
  have HBA := Lib.hid hba
  have HK1 := Lib.hid k1
  have HK2 := Lib.hid k2
  have HTS := Lib.hid hts
  clear hS hn hn' hba t1 t2 ht k1 k2 hts
  go_enter Try.func13, Try.ntmps13
  go_wp2_with fail
  generalize ((w.alloc (.cells #[.int .i64 n.kind, .string n.data, .slice h.A n.ptrs.length h.a, .int .i64 n.size, .int .i64 n.count, .slice h.B n.items.length h.b] nodeT)).alloc (.cells #[.int .i64 n.kind, .string n.data, .slice h'.A n.ptrs.length h'.a, .int .i64 n.size, .int .i64 n.count, .slice h'.B n.items.length h'.b] nodeT)) = W at *
  refine (HS.out h.A h'.A h.a h'.a n.ptrs W S S' HN.out.2.1 HN'.out.2.1 HT.out.1.1 HT.out.1.2).mono ?_
  rintro e w1 ⟨rfl, hb1⟩
  have HB1 := Lib.hid hb1
  obtain ⟨a0, a1, a2, a3, a4, a5⟩ := cells6 ((hb1.block _ (by have := HTS.out; omega)).trans HK1.out)
  obtain ⟨b0, b1, b2, b3, b4, b5⟩ := cells6 ((hb1.block _ (by have := HTS.out; omega)).trans HK2.out)
  clear hb1
  go_wp2_with fail
  refine (HS.out h.B h'.B h.b h'.b n.items w1 S S' (HN.out.below HB1.out).2.2 (HN'.out.below HB1.out).2.2 HT.out.2.1 HT.out.2.2).mono ?_
  rintro e w2 ⟨rfl, hb2⟩
  have HB2 := Lib.hid (HBA.out.trans ((HB1.out.trans (hb2.mono HB1.out.size)).mono (by have := HTS.out; omega)))
  clear hb2
  go_wp2
  go_ret
  exact ⟨rfl, HB2.out⟩
theorem eqS_zero : EqS 0 := by
  intro A B c c' l w S S' hl hl' h1 h2
  obtain rfl := hl.zero
  clear h1 h2
  go_enter Try.func36, Try.ntmps36
  go_wp2
  go_loop [5] (fun i => i = .int .i64 0) (fun _ => 0)
  case atStart => rfl
  case round =>
    obtain rfl := hrel
    go_wp2
    go_ret
    exact ⟨rfl, Below.refl _ _⟩
set_option maxHeartbeats 4000000 in
set_option maxRecDepth 100000 in
theorem eqS_succ (m : Nat) (hN : EqN m) : EqS (m + 1) := by
  intro A B c c' l w S S' h h' hlm ht
  have HF := Lib.hid h
  have HG := Lib.hid h'
  have HT : Hid (∀ k (h : k < l.length), totN m l[k] ≤ 2000000) := Lib.hid fun k h => by have := totL_at (m := m) h; omega
  have HN := Lib.hid hN
  clear h h' hN ht
  go_enter Try.func36, Try.ntmps36
  go_wp2
  go_loopw [5] (fun i wr => ∃ k : Nat, i = .int .i64 k ∧ k ≤ l.length ∧ Hid (Below w.heap.size w wr)) (fun i _ => l.length - (intOf i).toNat)
  case atStart => exact ⟨0, rfl, by omega, Lib.hid (Below.refl _ _)⟩
  case round =>
    obtain ⟨k, rfl, hk, HB⟩ := hrel
    by_cases hlt : k < l.length
    · obtain ⟨x, hx, rfl, cx, nx⟩ := (HF.out.below HB.out).at_ hlt
      obtain ⟨y, hy, rfl, cy, ny⟩ := (HG.out.below HB.out).at_ hlt
      have htn := HT.out k hlt
      generalize l[k] = n at cx nx cy ny htn
      have hd1 : Below wr.heap.size wr wr.drew := ⟨rfl, rfl, rfl, Nat.le_refl _, fun _ _ => rfl⟩
      have HP := Lib.hid (HN.out n hx hy wr.drew S S' (nx.below hd1) (ny.below hd1) htn)
      have hx1 := cx.lt
      have hx2 := cy.lt
      obtain ⟨c0, c1, c2, c3, c4, c5⟩ := cx
      obtain ⟨d0, d1, d2, d3, d4, d5⟩ := cy
      have hk2 : (k : Int) < (l.length : Int) := by omega
      have hs := HB.out.size
      clear nx ny htn
      go_wp2
      go_region_with (go_at_call 13; refine HP.out.mono ?_; rintro e w2 ⟨rfl, hb2⟩)
      all_goals
        have HB2 := Lib.hid (HB.out.trans ((show Below w.heap.size wr wr.drew from ⟨rfl, rfl, rfl, Nat.le_refl _, fun _ _ => rfl⟩).trans (hb2.mono (by simpa using hs))))
        clear hb2
        go_wp2
        go_roundw
        case rel => exact ⟨k + 1, by go_num, by omega, HB2⟩
        case measure => simp [intOf]; omega
    · obtain rfl : k = l.length := by omega
      go_wp2
      go_ret
      exact ⟨rfl, HB.out⟩
theorem eqS_any : ∀ m, EqS m
  | 0 => eqS_zero
  | m + 1 => eqS_succ m (eqN_of m (eqS_any m))
theorem eqN_any (m : Nat) : EqN m := eqN_of m (eqS_any m)
end Go.Proofs.Ytkimkhgigbejkab

/- Which parts a node has. -/
namespace Go.Proofs.Ytkimkhgigbejkab
open Go.RowKit
/-- all parts are 0 or empty. -/
def noneB (d : ByteArray) (lp : Nat) (s c : Int) (li : Nat) : Bool := d.size == 0 && lp == 0 && s == 0 && c == 0 && li == 0
theorem loop_length (d : ByteArray) (i : Nat) (r : List UInt8) : (ByteArray.toList.loop d i r).length = r.length + (d.size - i) := by
  fun_induction ByteArray.toList.loop d i r with
  | case1 i r h ih => rw [ih]; simp only [List.length_cons]; omega
  | case2 i r h => simp only [List.length_reverse]; omega
theorem toList_isEmpty (d : ByteArray) : d.toList.isEmpty = (d.size == 0) := by
  have h := loop_length d 0 []
  simp only [List.length_nil] at h
  unfold ByteArray.toList
  rw [Bool.eq_iff_iff, List.isEmpty_iff, ← List.length_eq_zero_iff, h]
  simp
theorem toList_nil (d : ByteArray) : d.toList = [] ↔ d.size = 0 := by
  have := toList_isEmpty d
  rw [Bool.eq_iff_iff] at this
  simpa using this
/-- the parts of a struct. -/
def structB (k : Int) (d : ByteArray) (s c : Int) (li : Nat) : Bool := decide (k = 1 ∧ (d.size : Int) % 8 = 0 ∧ s = 0 ∧ c = 0 ∧ li = 0)
end Go.Proofs.Ytkimkhgigbejkab

/- Plain facts on words: their cells, copies, loads and stores of a whole array of bytes, numbers of bytes. No Go text. -/
namespace Go.Proofs.Ytkimkhgigbejkab
open Go.RowKit

/-- the cells of a word (or of whatever bytes). -/
def wd (l : List UInt8) : Array Value := (Lib.byteCells l).toArray
theorem wd_size (l : List UInt8) : (wd l).size = l.length := by simp [wd, Lib.byteCells_length]
theorem len8 {l : List UInt8} (h : l.length = 8) : ∃ a b c d e f g i, l = [a, b, c, d, e, f, g, i] := by
  match l, h with
  | [a, b, c, d, e, f, g, i], _ => exact ⟨a, b, c, d, e, f, g, i, rfl⟩
theorem wd8 (a b c d e f g i : UInt8) : wd [a, b, c, d, e, f, g, i] = #[.int .u8 a.toNat, .int .u8 b.toNat, .int .u8 c.toNat, .int .u8 d.toNat, .int .u8 e.toNat, .int .u8 f.toNat, .int .u8 g.toNat, .int .u8 i.toNat] := rfl

/-- copy(dst, s), s A STRING, dst the whole row g of n cells, s at least as long. -/
theorem run_copy_string_ge {P : Program} (w : World) (dT sT ty elem : TypeId) (g dCap : Nat) (s : ByteArray) (cur : Array Value) (t : TypeId)
    (hu : P.underlying dT = some (.slice elem)) (hs : (P.info? elem).map (·.size) = some 1) (hg : w.heap[g]? = some (.cells cur t (0, 0))) (hle : cur.size ≤ s.size) :
    (Builtin.copy_ #[dT, sT] ty #[.slice (some ⟨g, 0, none⟩) cur.size dCap, .string s]).run P w =
      .ok (goInt cur.size) (w.setRow g (wd (s.data.toList.take cur.size))) := by
  have hlen : (Lib.byteCells (s.data.toList.take cur.size)).length = cur.size := by
    rw [Lib.byteCells_length, List.length_take, ← Lib.size_eq]; omega
  have hst := run_storeCells_at P g 0 t (Lib.byteCells (s.data.toList.take cur.size)) 0 cur w hg (by rw [hlen]; simp) (Lib.byteCells_one _)
  have hmin : Nat.min s.size cur.size = cur.size := Nat.min_eq_right hle
  have htk : List.take cur.size (List.map (fun b : UInt8 => Value.int IntKind.u8 (b.toNat : Int)) s.data.toList) = Lib.byteCells (s.data.toList.take cur.size) := by
    rw [Lib.byteCells, List.map_take]
  rw [hlen] at hst
  have hd : List.drop cur.size cur.toList = [] := List.drop_of_length_le (by simp)
  simp only [Nat.add_zero, Nat.zero_add, List.take_zero, List.nil_append, hd, List.append_nil] at hst
  cases hq : P.info? elem with
  | none => simp [hq] at hs
  | some i =>
    simp [Builtin.copy_, run_underlying hu, Builtin.lenOf, Builtin.firstCells, sizeOf, typeInfo, hq, hmin]
    simp only [← List.map_take] at hst ⊢
    rw [show List.map (fun b : UInt8 => Value.int IntKind.u8 (b.toNat : Int)) (List.take cur.size s.data.toList) = Lib.byteCells (s.data.toList.take cur.size) from rfl, hst]
    simp [Result.andThen, wd]

theorem step_copy_string_ge {P : Program} {ops : Array Oper} {o : Oper} {a : Act} {w : World} {K : Act → World → Prop} {Q : Exit → Act → World → Prop} {E : Prop} (hgd : o.guard = none) (d s : Operand) (dT sT : TypeId)
    (ho : o.op = .call { callee := .builtin .copy, args := #[d, s], argTypes := #[dT, sT] }) (elem : TypeId) (hu : P.underlying dT = some (.slice elem)) (hsz : (P.info? elem).map (·.size) = some 1)
    (g dCap n : Nat) (S : ByteArray) (cur : Array Value) (t : TypeId) (hn : cur.size = n) (hd : a.eval d = .slice (some ⟨g, 0, none⟩) n dCap) (hs : a.eval s = .string S)
    (hg : w.heap[g]? = some (.cells cur t (0, 0))) (hle : n ≤ S.size)
    (h : ∀ w', Hid (w'.heap[g]? = some (.cells (wd (S.data.toList.take n)) t (0, 0))) → Hid (w.grownBy w' (some g)) → K (a.put o.dst (goInt n)) w') :
    if Region.wanted o (yielded ops a.tmps) = true then Oper.wp P o a w K Q else E := by
  subst hn
  have hw : Region.wanted o (yielded ops a.tmps) = true := by simp [Region.wanted, hgd]
  rw [if_pos hw]
  have hrun := run_copy_string_ge (P := P) w dT sT o.type elem g dCap S cur t hu hsz hg hle
  unfold Oper.wp
  simp [execOp, ho, resolve, invoke, builtin, hd, hs, hrun, Result.andThen]
  exact h _ (setRow_heap w g _ _ t _ hg) ⟨rfl, rfl, rfl, by simp [World.setRow], fun k _ hk => setRow_other w g k _ (fun e => hk (by rw [e]))⟩

theorem wd_one (l : List UInt8) : (wd l).all (·.oneCell') = true := by
  rw [Array.all_eq_true_iff_forall_mem]
  intro v hv
  exact Lib.byteCells_one l v (by simpa [wd] using hv)
/-- A STORE OF A WHOLE ARRAY of bytes, by what the row holds then. -/
theorem wpList_store_wd {P : Program} {ops : Array Oper} {rest : List Oper} {o : Oper} {a : Act} {w : World} {Q : Exit → Act → World → Prop} (hgd : o.guard = none) (ty : TypeId) (x y : Operand) (ho : o.op = .store ty x y)
    (g : Nat) (l : List UInt8) (hx : a.eval x = .pointer (some ⟨g, 0, none⟩)) (hy : a.eval y = .agg (wd l))
    (t : TypeId) (old : Array Value) (hg : w.heap[g]? = some (.cells old t (0, 0))) (hi : (P.info? ty).map (·.size) = some l.length) (hold : old.size = l.length)
    (h : ∀ w', Hid (w'.heap[g]? = some (.cells (wd l) t (0, 0))) → Hid (w.grownBy w' (some g)) → wpList P ops Q rest (a.put o.dst undef) w') : wpList P ops Q (o :: rest) a w :=
  wpList_store_row hgd ty x y ho g (wd l) hx hy t old hg (by rw [wd_size]; exact hi) (by rw [wd_size]; exact hold) (wd_one l)
    (h _ (setRow_heap w g _ _ t _ hg) ⟨rfl, rfl, rfl, by simp [World.setRow], fun k _ hk => setRow_other w g k _ (fun e => hk (by rw [e]))⟩)
theorem wpList_load_wd {P : Program} {ops : Array Oper} {rest : List Oper} {o : Oper} {a : Act} {w : World} {Q : Exit → Act → World → Prop} (hgd : o.guard = none) (ty : TypeId) (x : Operand) (ho : o.op = .load ty x)
    (g : Nat) (hx : a.eval x = .pointer (some ⟨g, 0, none⟩)) (t : TypeId) (l : List UInt8) (d : TypeDesc) (hg : w.heap[g]? = some (.cells (wd l) t (0, 0)))
    (hu : P.underlying ty = some d) (hd : (match d with | .struct _ | .array _ _ => true | _ => false) = true) (hi : (P.info? ty).map (·.size) = some l.length)
    (h : wpList P ops Q rest (a.put o.dst (.agg (wd l))) w) : wpList P ops Q (o :: rest) a w :=
  wpList_load_row hgd ty x ho g hx t (wd l) (0, 0) d hg hu hd (by rw [wd_size]; exact hi) h

theorem step_load_wd {P : Program} {ops : Array Oper} {o : Oper} {a : Act} {w : World} {K : Act → World → Prop} {Q : Exit → Act → World → Prop} {E : Prop} (hgd : o.guard = none) (ty : TypeId) (x : Operand) (ho : o.op = .load ty x)
    (g : Nat) (hx : a.eval x = .pointer (some ⟨g, 0, none⟩)) (t : TypeId) (l : List UInt8) (d : TypeDesc) (hg : w.heap[g]? = some (.cells (wd l) t (0, 0)))
    (hu : P.underlying ty = some d) (hd : (match d with | .struct _ | .array _ _ => true | _ => false) = true) (hi : (P.info? ty).map (·.size) = some l.length)
    (h : K (a.put o.dst (.agg (wd l))) w) : if Region.wanted o (yielded ops a.tmps) = true then Oper.wp P o a w K Q else E := by
  have hw : Region.wanted o (yielded ops a.tmps) = true := by simp [Region.wanted, hgd]
  rw [if_pos hw]
  exact wp_load_row ty x ho g hx t (wd l) (0, 0) d hg hu hd (by rw [wd_size]; exact hi) h
/-- the number of k bytes of l from a on, the lowest first; 0 where there is none. -/
def leN (l : List UInt8) : Nat → Nat → Nat
  | _, 0 => 0
  | a, k + 1 => (l[a]?.getD 0).toNat + 256 * leN l (a + 1) k
theorem byte_lt (l : List UInt8) (a : Nat) : (l[a]?.getD 0).toNat < 256 := (l[a]?.getD 0).toNat_lt
theorem leN_lt (l : List UInt8) : ∀ (k a : Nat), leN l a k < 256 ^ k
  | 0, _ => by simp [leN]
  | k + 1, a => by
    have h := leN_lt l k (a + 1)
    have h2 := byte_lt l a
    simp only [leN, Nat.pow_succ]
    omega
theorem leN_lt7 (l : List UInt8) (k a : Nat) (h : k ≤ 7) : leN l a k < 72057594037927936 :=
  Nat.lt_of_lt_of_le (leN_lt l k a) (Nat.le_trans (Nat.pow_le_pow_right (by decide) h) (by decide))
theorem or_step (n b : Nat) (hn : n < 72057594037927936) (hb : b < 256) : bits .or .u64 (IntKind.u64.wrap ((n : Int) * 256)) (b : Int) = ((b + 256 * n : Nat) : Int) := by
  have h : IntKind.u64.wrap ((n : Int) * 256) = ((n * 256 : Nat) : Int) := by rw [IntKind.wrap_u64]; omega
  rw [h, u64_or_nat (n * 256) b (by omega) (by omega), nat_join 8 (n * 256) b (by omega) (by omega)]
  omega
theorem wrap_byte (l : List UInt8) (a : Nat) : IntKind.u64.wrap ((l[a]?.getD 0).toNat : Int) = ((l[a]?.getD 0).toNat : Int) := by
  have := byte_lt l a
  rw [IntKind.wrap_u64]; omega
theorem number_step (l : List UInt8) (a z k : Nat) (hk : k < z) (hz : z ≤ 8) :
    bits .or .u64 (IntKind.u64.wrap ((leN l (a + z - k) k : Int) * 256)) (IntKind.u64.wrap ((l[a + z - 1 - k]?.getD 0).toNat : Int)) = ((leN l (a + z - (k + 1)) (k + 1) : Nat) : Int) := by
  rw [wrap_byte, or_step _ _ (leN_lt7 l k _ (by omega)) (byte_lt l _)]
  have e1 : a + z - (k + 1) = a + z - 1 - k := by omega
  have e2 : a + z - 1 - k + 1 = a + z - k := by omega
  rw [e1, leN, e2]
theorem ofInt_mod (n : Int) : BitVec.ofInt 64 (IntKind.i64.wrap n) = BitVec.ofInt 64 n := by
  apply BitVec.eq_of_toInt_eq
  rw [BitVec.toInt_ofInt, BitVec.toInt_ofInt, IntKind.wrap_i64]
  simp only [Int.bmod_def]
  omega
theorem or_step_i (n b : Nat) (hn : n < 72057594037927936) (hb : b < 256) : bits .or .i64 (IntKind.i64.wrap ((n : Int) * 256)) (b : Int) = wrap64 ((b + 256 * n : Nat) : Int) := by
  show IntKind.i64.wrap ((BitVec.ofInt 64 (IntKind.i64.wrap ((n : Int) * 256)) ||| BitVec.ofInt 64 (b : Int)).toNat : Int) = _
  rw [ofInt_mod, show ((n : Int) * 256) = ((n * 256 : Nat) : Int) by omega, BitVec.toNat_or, ofInt_u64 (n * 256) (by omega), ofInt_u64 b (by omega), nat_join 8 (n * 256) b (by omega) (by omega)]
  rw [show n * 256 + b = b + 256 * n by omega]
  simp [wrap64, IntKind.wrap_i64]
theorem wrap64_small (n : Nat) (h : n < 9223372036854775808) : wrap64 (n : Int) = n := by unfold wrap64; omega
theorem get_step (l : List UInt8) (a z k : Nat) (hk : k < z) (hz : z ≤ 8) :
    bits .or .i64 (IntKind.i64.wrap (wrap64 (leN l (a + z - k) k : Int) * 256)) ((l[a + z - 1 - k]?.getD 0).toNat : Int) = wrap64 ((leN l (a + z - (k + 1)) (k + 1) : Nat) : Int) := by
  have h7 := leN_lt7 l k (a + z - k) (by omega)
  rw [wrap64_small _ (by omega), or_step_i _ _ h7 (byte_lt l _)]
  have e1 : a + z - (k + 1) = a + z - 1 - k := by omega
  have e2 : a + z - 1 - k + 1 = a + z - k := by omega
  rw [e1, leN, e2]
theorem wrap64_eq (n : Int) : wrap64 n = IntKind.i64.wrap n := by rw [IntKind.wrap_i64]; unfold wrap64; omega
theorem wrap64_byte' (b : UInt8) : wrap64 (b.toNat : Int) = (b.toNat : Int) := wrap64_small _ (by have := b.toNat_lt; omega)
theorem bytes_get (s : ByteArray) (i : Nat) (h : i < s.size) : s.data.toList[i]?.getD 0 = s[i] := by
  rw [List.getElem?_eq_getElem (by simpa using h)]; rfl
theorem get_round (s : ByteArray) (a z k : Nat) (hk : k < z) (hz : z ≤ 8) (hin : a + (z - 1 - k) < s.size) :
    bits .or .i64 (wrap64 (wrap64 (leN s.data.toList (a + z - k) k : Int) * 256)) (wrap64 (s[a + (z - 1 - k)].toNat : Int)) = wrap64 ((leN s.data.toList (a + z - (k + 1)) (k + 1) : Nat) : Int) := by
  rw [← get_step s.data.toList a z k hk hz, wrap64_byte', ← wrap64_eq, show a + z - 1 - k = a + (z - 1 - k) by omega, bytes_get s _ hin]
theorem get_round_out (s : ByteArray) (a z k : Nat) (hk : k < z) (hz : z ≤ 8) (hin : ¬ a + z - 1 - k < s.size) :
    bits .or .i64 (wrap64 (wrap64 (leN s.data.toList (a + z - k) k : Int) * 256)) 0 = wrap64 ((leN s.data.toList (a + z - (k + 1)) (k + 1) : Nat) : Int) := by
  rw [← get_step s.data.toList a z k hk hz, ← wrap64_eq, List.getElem?_eq_none (by simpa using hin)]
  rfl
theorem wd_cell (w : World) (l : List UInt8) (t : TypeId) (i : Nat) (h : i < l.length) : (w.alloc (.cells (wd l) t)).cell? ⟨w.heap.size, i, none⟩ = some (.int .u8 ((l[i]?.getD 0).toNat : Int)) := by
  rw [cell_of_row _ _ _ (wd l) t (0, 0) (heap_alloc_new w _)]
  simp [wd, Lib.byteCells, h]
end Go.Proofs.Ytkimkhgigbejkab

/- Plain facts on words that are written: bytes of a number, a number put into bytes, a block of bytes in memory. No Go text. No condition beyond each theorem's own. -/
namespace Go.Proofs.Ytkimkhgigbejkab
open Go.RowKit

/-- the lowest k bytes of a number, the lowest first. -/
def leB (n : Int) : Nat → List UInt8
  | 0 => []
  | k + 1 => UInt8.ofNat (n % 256).toNat :: leB (n / 256) k
theorem leB_length (n : Int) (k : Nat) : (leB n k).length = k := by
  induction k generalizing n with
  | zero => rfl
  | succ k ih => simp [leB, ih]
/-- n without its lowest k bytes. -/
def shr8 (n : Int) : Nat → Int
  | 0 => n
  | k + 1 => shr8 n k / 256
theorem shr8_succ' (n : Int) (k : Nat) : shr8 (n / 256) k = shr8 n k / 256 := by
  induction k with
  | zero => rfl
  | succ k ih => simp [shr8, ih]
theorem leB_snoc (n : Int) (k : Nat) : leB n (k + 1) = leB n k ++ [UInt8.ofNat (shr8 n k % 256).toNat] := by
  induction k generalizing n with
  | zero => rfl
  | succ k ih => rw [leB, ih, leB, List.cons_append, shr8_succ', shr8]
theorem shr8_bd (n : Int) (k : Nat) (h0 : 0 ≤ n) (h1 : n < 18446744073709551616) : 0 ≤ shr8 n k ∧ shr8 n k < 18446744073709551616 := by
  induction k with
  | zero => exact ⟨h0, h1⟩
  | succ k ih => simp only [shr8]; omega
theorem ofNat_toNat_u8 (m : Int) : (((UInt8.ofNat (m % 256).toNat).toNat : Nat) : Int) = m % 256 := by
  rw [UInt8.toNat_ofNat']; omega
/-- l with xs in the place of as many from a on. -/
def putL (l : List UInt8) (a : Nat) (xs : List UInt8) : List UInt8 := l.take a ++ (xs ++ l.drop (a + xs.length))
theorem putL_length (l : List UInt8) (a : Nat) (xs : List UInt8) (h : a + xs.length ≤ l.length) : (putL l a xs).length = l.length := by simp [putL]; omega
theorem putL_nil (l : List UInt8) (a : Nat) : putL l a [] = l := by simp [putL]
theorem putL_snoc (l : List UInt8) (a : Nat) (xs : List UInt8) (b : UInt8) (h : a + xs.length < l.length) : putL l a (xs ++ [b]) = (putL l a xs).set (a + xs.length) b := by
  have e1 : (l.take a).length = a := by simp; omega
  rw [putL, putL, List.set_append, if_neg (by omega), e1, show a + xs.length - a = xs.length by omega, List.set_append, if_neg (by omega), Nat.sub_self, List.drop_eq_getElem_cons h]
  simp [Nat.add_assoc]
theorem wd_set (l : List UInt8) (i : Nat) (b : UInt8) : (wd l).setIfInBounds i (.int .u8 (b.toNat : Int)) = wd (l.set i b) := by
  simp [wd, Lib.byteCells, List.map_set]

theorem heap_set {w : World} {g i : Nat} {cs : Array Value} {t : TypeId} (u : Value) (h : w.heap[g]? = some (.cells cs t (0, 0))) : (w.setCell ⟨g, i, none⟩ u).heap[g]? = some (.cells (cs.setIfInBounds i u) t (0, 0)) := by
  simp [World.setCell, Array.getElem?_modify, h]
theorem frozen_row {w : World} {g : Nat} {cs : Array Value} {t : TypeId} (h : w.heap[g]? = some (.cells cs t (0, 0))) (i : Nat) : w.frozen? ⟨g, i, none⟩ = false := by
  simp [World.frozen?, h]
theorem wd_cell_row {w : World} {g : Nat} {l : List UInt8} {t : TypeId} (h : w.heap[g]? = some (.cells (wd l) t (0, 0))) (i : Nat) (hi : i < l.length) : w.cell? ⟨g, i, none⟩ = some (.int .u8 ((l[i]?.getD 0).toNat : Int)) := by
  rw [cell_of_row _ _ _ (wd l) t (0, 0) h]
  simp [wd, Lib.byteCells, hi]
theorem heap_set_far {w : World} {g p i : Nat} {o : Obj} (u : Value) (hne : p ≠ g) (h : w.heap[p]? = some o) : (w.setCell ⟨g, i, none⟩ u).heap[p]? = some o :=
  (Below.heap_setCell w ⟨g, i, none⟩ u p hne).trans h
theorem put_step {wr : World} {g : Nat} {t : TypeId} (l : List UInt8) (a : Nat) (n : Int) (k : Nat) (hk : a + k < l.length) (h : wr.heap[g]? = some (.cells (wd (putL l a (leB n k))) t (0, 0))) :
    (wr.setCell ⟨g, a + k, none⟩ (.int .u8 (shr8 n k % 256))).heap[g]? = some (.cells (wd (putL l a (leB n (k + 1)))) t (0, 0)) := by
  rw [heap_set _ h, leB_snoc, putL_snoc _ _ _ _ (by rw [leB_length]; exact hk), leB_length, ← wd_set, ofNat_toNat_u8]
theorem heap_lt {w : World} {g : Nat} {o : Obj} (h : w.heap[g]? = some o) : g < w.heap.size := by
  rcases Nat.lt_or_ge g w.heap.size with hlt | hge
  · exact hlt
  · rw [Array.getElem?_eq_none hge] at h; cases h
theorem heap_alloc_keep {w : World} {g : Nat} {o : Obj} (h : w.heap[g]? = some o) (x : Obj) : (w.alloc x).heap[g]? = some o := (Below.heap_alloc w x g (heap_lt h)).trans h
theorem add_head (g j : Nat) : (⟨g, 0, none⟩ : Addr).add j = ⟨g, j, none⟩ := by unfold Addr.add; split <;> simp_all
theorem convert_wd {P : Program} (w : World) (src dst e : TypeId) (g cap n : Nat) (l : List UInt8) (hn : l.length = n) (hs : P.underlying src = some (.slice e)) (he : P.underlying e = some (.int .u8)) (hd : P.underlying dst = some .string)
    {t : TypeId} {fr : Nat × Nat} {cs : Array Value} (hg : w.heap[g]? = some (.cells cs t fr)) (hc : cs.toList.take n = Lib.byteCells l) :
    (convert src dst (.slice (some ⟨g, 0, none⟩) n cap)).run P w = .ok (.string ⟨l.toArray⟩) w := by
  subst hn
  refine run_convert_bytes_back w src dst e ⟨g, 0, none⟩ cap l hs he hd fun j hj => ?_
  rw [add_head, cell_of_row _ _ _ cs t fr hg]
  have h := congrArg (fun x : List Value => x[j]?) hc
  simp only [List.getElem?_take_of_lt hj, Array.getElem?_toList] at h
  rw [h]
  simp [Lib.byteCells, hj]
theorem convert_nil {P : Program} (w : World) (src dst e : TypeId) (hs : P.underlying src = some (.slice e)) (he : P.underlying e = some (.int .u8)) (hd : P.underlying dst = some .string) :
    (convert src dst (.slice none 0 0)).run P w = .ok (.string ⟨#[]⟩) w := by
  rw [run_convert_bytes_string w src dst e none 0 0 hs he hd]
  rfl
/-- string(b) of bytes that the call itself has made. -/
theorem convert_own {P : Program} (w : World) (src dst e : TypeId) (base n : Nat) (l : List UInt8) (v : Value) (hn : l.length = n) (hs : P.underlying src = some (.slice e)) (he : P.underlying e = some (.int .u8)) (hd : P.underlying dst = some .string)
    (hown : w.ownsRow base e 1 v n (Lib.byteCells l)) : (convert src dst v).run P w = .ok (.string ⟨l.toArray⟩) w := by
  rcases hown.2 with ⟨rfl, rfl⟩ | ⟨g, cap, cur, rfl, _, hg, _, _, _, htk⟩
  · obtain rfl : l = [] := List.eq_nil_of_length_eq_zero hn
    exact convert_nil w src dst e hs he hd
  · exact convert_wd w src dst e g cap n l hn hs he hd hg (by simpa using htk)
theorem byteCells_snoc' (l : List UInt8) (b : UInt8) : Lib.byteCells l ++ [Value.int .u8 (b.toNat : Int)] = Lib.byteCells (l ++ [b]) := by simp [Lib.byteCells]
/-- an append of one element onto a row of the call's own: what lay below stays. -/
theorem below_append {B : Nat} {w0 w w1 : World} {x : Obj} {e : TypeId} {size n : Nat} {v : Value} {xs : List Value} (hb : Below B w0 w) (hB : B ≤ w.heap.size) (hown : w.ownsRow B e size v n xs) (hg : (w.alloc x).grownBy w1 v.ownBlock) : Below B w0 w1 :=
  (hb.alloc hB x).grown hg (by simp; omega) (fun k hk => (hown.lt k hk).1)
theorem ofInt_i64' (a : Nat) (ha : a < 9223372036854775808) : (BitVec.ofInt 64 (a : Int)).toNat = a := ofInt_u64 a (by omega)
theorem and_i64 (a b : Nat) (ha : a < 9223372036854775808) (hb : b < 9223372036854775808) : bits .and .i64 (a : Int) (b : Int) = ((a &&& b : Nat) : Int) := by
  have hx : a &&& b < 2 ^ 63 := Nat.and_lt_two_pow _ (by omega)
  show IntKind.i64.wrap ((BitVec.ofInt 64 (a : Int) &&& BitVec.ofInt 64 (b : Int)).toNat : Int) = _
  rw [BitVec.toNat_and, ofInt_i64' a ha, ofInt_i64' b hb, IntKind.wrap_i64]
  omega
theorem div_cast (b r : Nat) : (b : Int) / 2 ^ r = ((b / 2 ^ r : Nat) : Int) := by
  rw [Int.natCast_ediv, Int.natCast_pow]; rfl
theorem bit_u8 (b r : Nat) (hb : b < 256) : wrap64 (bits .and .u8 ((b : Int) / 2 ^ r) 1) = ((b / 2 ^ r % 2 : Nat) : Int) := by
  have h := Nat.div_le_self b (2 ^ r)
  rw [div_cast, show (1 : Int) = ((1 : Nat) : Int) from rfl, u8_and_nat _ _ (by omega) (by omega), nat_mask1, wrap64_small _ (by omega)]
theorem bit_i64 (b r : Nat) (hb : b < 256) : bits .and .i64 (wrap64 (b : Int) / 2 ^ r) 1 = ((b / 2 ^ r % 2 : Nat) : Int) := by
  have h := Nat.div_le_self b (2 ^ r)
  rw [wrap64_small _ (by omega), div_cast, show (1 : Int) = ((1 : Nat) : Int) from rfl, and_i64 _ _ (by omega) (by omega), nat_mask1]
theorem step_append_own {P : Program} {ops : Array Oper} {o : Oper} {a : Act} {w : World} {K : Act → World → Prop} {Q : Exit → Act → World → Prop} {E : Prop} (hgd : o.guard = none) (s x : Operand) (t : TypeId)
    (ho : o.op = .call { callee := .builtin .append, args := #[s, x], argTypes := #[t, t] })
    (base : Nat) (e : TypeId) (i : TypeInfo) (z : Value) (size bytes : Nat) (ht : P.underlying t = some (.slice e)) (hi : P.info? e = some i) (hz : i.zero = some z)
    (hsize : i.size = size) (hby : i.bytes = bytes) (hzs : z.cells.size = size) (hsz : 0 < size)
    (v : Value) (n : Nat) (xs : List Value) (hs : a.eval s = v) (hown : w.ownsRow base e size v n xs)
    (ad : Addr) (m c : Nat) (news : List Value) (hx : a.eval x = .slice (some ad) m c) (hl : news.length = m * size) (hnews : ∀ j u, news[j]? = some u → w.cell? (ad.add j) = some u) (h1 : ∀ u ∈ news, u.oneCell' = true)
    (h63 : n + m ≤ maxLen) (hbytes : (n + m) * bytes ≤ 140737488355328) (hbase : base ≤ w.heap.size)
    (h : ∀ v' w', Hid (w'.ownsRow base e size v' (n + m) (xs ++ news)) → Hid (w.grownBy w' v.ownBlock) → K (a.put o.dst v') w') : if Region.wanted o (yielded ops a.tmps) = true then Oper.wp P o a w K Q else E := by
  have hw : Region.wanted o (yielded ops a.tmps) = true := by simp [Region.wanted, hgd]
  rw [if_pos hw]
  exact wp_append_own w s x t ho base e i z size bytes ht hi hz hsize hby hzs hsz v n xs hs hown ad m c news hx hl hnews h1 h63 hbytes hbase fun v' w' h2 h3 _ => h v' w' h2 h3
theorem cell_two_new' (w : World) (x y : Value) (t : TypeId) : ∀ j u, [x, y][j]? = some u → (w.alloc (.cells #[x, y] t)).cell? ((⟨w.heap.size, 0, none⟩ : Addr).add j) = some u := by
  intro j u hj
  rw [add_head, cell_of_row _ _ _ _ _ (0, 0) (heap_alloc_new w _)]
  match j, hj with
  | 0, hj => simpa using hj
  | 1, hj => simpa using hj
theorem ext_ba {a b : ByteArray} (h : a.data.toList = b.data.toList) : a = b := by
  cases a; cases b; simp at h; simp [h]
end Go.Proofs.Ytkimkhgigbejkab

/- Bits of lists: how many bytes they take, and those that are not used. -/
namespace Go.Proofs.Ytkimkhgigbejkab
open Go.RowKit
def wiB (n b : Int) : Bool := decide (0 ≤ n ∧ n < b)
set_option maxHeartbeats 400000 in
theorem within_a (n b : Int) (w : World) :
    Calls Try.prog 89 #[.int .i64 n, .int .i64 b] w fun e w' => e = .returned (.bool (wiB n b)) ∧ w = w' := by
  by_cases h1 : 0 ≤ n
  all_goals
    go_enter Try.func89, Try.ntmps89
    go_wp2
    all_goals go_ret
    all_goals refine ⟨ret_bool ?_, rfl⟩
    all_goals (simp [wiB]; try omega)
/-- how many bits one of a size has. -/
def bz (n : Int) : Int := if n = 1 then 1 else if n = 2 then 8 else if n = 3 then 16 else if n = 4 then 32 else if n = 5 then 64 else if n = 6 then 64 else 0
theorem bz_le (n : Int) : 0 ≤ bz n ∧ bz n ≤ 64 := by
  unfold bz
  repeat' split
  all_goals omega
set_option maxHeartbeats 400000 in
theorem sizeBits_a (n : Int) (w : World) (h0 : 0 ≤ n) (h1 : n ≤ 6) :
    Calls Try.prog 106 #[.int .i64 n] w fun e w' => e = .returned (.int .i64 (bz n)) ∧ w = w' := by
  have h : n = 0 ∨ n = 1 ∨ n = 2 ∨ n = 3 ∨ n = 4 ∨ n = 5 ∨ n = 6 := by omega
  rcases h with rfl | rfl | rfl | rfl | rfl | rfl | rfl
  all_goals
    go_enter Try.func106, Try.ntmps106
    go_wp2
    go_ret
    exact ⟨ret_int (by decide), rfl⟩
set_option maxHeartbeats 400000 in
theorem l2Bits_a (n : Int) (w : World) (h0 : 0 ≤ n) (h1 : n ≤ 6) :
    Calls Try.prog 104 #[.int .i64 n] w fun e w' => e = .returned (.int .i64 (bz n)) ∧ Below w.heap.size w w' := by
  have h : n = 0 ∨ n = 1 ∨ n = 2 ∨ n = 3 ∨ n = 4 ∨ n = 5 ∨ n = 6 := by omega
  rcases h with rfl | rfl | rfl | rfl | rfl | rfl | rfl
  all_goals
    go_enter Try.func104, Try.ntmps104
    go_wp2
    go_ret
    exact ⟨ret_int (by decide), (Below.refl _ _).alloc (Nat.le_refl _) _⟩
/-- how many bytes so many of a size have. -/
def byteZ (s c : Int) : Int := (bz s * c + 7) / 8
set_option maxHeartbeats 400000 in
theorem l4Bytes_a (s c : Int) (w : World) (h0 : 0 ≤ s) (h1 : s ≤ 6) (h2 : 0 ≤ c) (h3 : c ≤ 12800) :
    Calls Try.prog 117 #[.int .i64 s, .int .i64 c] w fun e w' => e = .returned (.int .i64 (byteZ s c)) ∧ Below w.heap.size w w' := by
  have hb := bz_le s
  have HE : Hid (byteZ s c = (bz s * c + 7) / 8) := Lib.hid rfl
  have hm : 0 ≤ bz s * c ∧ bz s * c ≤ 819200 := ⟨Int.mul_nonneg hb.1 h2, by
    have := Int.mul_le_mul hb.2 h3 h2 (by omega)
    omega⟩
  generalize hz : bz s = z at *
  generalize hp : z * c = p at *
  have HP := Lib.hid hp
  clear hp
  go_enter Try.func117, Try.ntmps117
  go_wp2_with (go_at_call 104; go_must (refine (l2Bits_a _ _ h0 h1).mono ?_); rintro e w1 ⟨rfl, hb1⟩; rw [hz]; have hpp := HP.out)
  go_ret
  exact ⟨by rw [HE.out]; rfl, hb1⟩
/-- the last byte, as a number. -/
def lastN (d : ByteArray) : Nat := if h : d.size - 1 < d.size then (d[d.size - 1]).toNat else 0
/-- bytes of so many bits, those that are not used being 0. -/
def cutD (d : ByteArray) (b : Int) : ByteArray := if b % 8 = 0 then d else d.extract 0 (d.size - 1) ++ ⟨#[UInt8.ofNat (lastN d % 2 ^ (b % 8).toNat)]⟩
def bitsB (d : ByteArray) (b : Int) : Bool := decide ((d.size : Int) = (b + 7) / 8) && (decide (b % 8 = 0) || decide (lastN d < 2 ^ (b % 8).toNat))
theorem conv1n (c : Nat) (hc : c < 256) (W : World) : (convert 22 9 (.slice (some ⟨W.heap.size, 0, none⟩) 1 1)).run Try.prog (W.alloc (.cells #[.int .u8 (c : Int)] 5)) = .ok (.string ⟨#[UInt8.ofNat c]⟩) (W.alloc (.cells #[.int .u8 (c : Int)] 5)) := by
  refine convert_wd _ _ _ 5 W.heap.size 1 1 [UInt8.ofNat c] rfl Try.underlying22 Try.underlying5 Try.underlying9 (heap_alloc_new W _) ?_
  have : (UInt8.ofNat c).toNat = c := by rw [UInt8.toNat_ofNat']; omega
  simp [Lib.byteCells]; omega
theorem lastN_eq {d : ByteArray} {j : Nat} (h : d.size = j + 1) (hj : j < d.size) : lastN d = (d[j]).toNat := by
  unfold lastN
  rw [dif_pos (by omega)]
  congr 2
  omega
theorem and_u8_1 : ∀ x : Nat, x < 256 → bits BinOp.and IntKind.u8 (x : Int) 1 = ((x % 2 : Nat) : Int) := by decide +kernel
theorem and_u8_2 : ∀ x : Nat, x < 256 → bits BinOp.and IntKind.u8 (x : Int) 3 = ((x % 4 : Nat) : Int) := by decide +kernel
theorem and_u8_3 : ∀ x : Nat, x < 256 → bits BinOp.and IntKind.u8 (x : Int) 7 = ((x % 8 : Nat) : Int) := by decide +kernel
theorem and_u8_4 : ∀ x : Nat, x < 256 → bits BinOp.and IntKind.u8 (x : Int) 15 = ((x % 16 : Nat) : Int) := by decide +kernel
theorem and_u8_5 : ∀ x : Nat, x < 256 → bits BinOp.and IntKind.u8 (x : Int) 31 = ((x % 32 : Nat) : Int) := by decide +kernel
theorem and_u8_6 : ∀ x : Nat, x < 256 → bits BinOp.and IntKind.u8 (x : Int) 63 = ((x % 64 : Nat) : Int) := by decide +kernel
theorem and_u8_7 : ∀ x : Nat, x < 256 → bits BinOp.and IntKind.u8 (x : Int) 127 = ((x % 128 : Nat) : Int) := by decide +kernel
theorem getD_size (a b : ByteArray) : (a ++ b).size = a.size + b.size := by simp
/-- nothing is cut just if what is not used is 0. -/
theorem cutD_eq {d : ByteArray} {b : Int} (h0 : 0 ≤ b) (hs : (d.size : Int) = (b + 7) / 8) : (cutD d b = d) ↔ (b % 8 = 0 ∨ lastN d < 2 ^ (b % 8).toNat) := by
  by_cases h8 : b % 8 = 0
  · rw [cutD, if_pos h8]; simp [h8]
  · rw [cutD, if_neg h8]
    obtain ⟨j, hj⟩ : ∃ j, d.size = j + 1 := ⟨d.size - 1, by omega⟩
    have hlt : j < d.size := by omega
    have hL := lastN_eq hj hlt
    have hx : (d[j]).toNat < 256 := (d[j]).toNat_lt
    have hjs : d.size - 1 = j := by omega
    have hp : 0 < 2 ^ (b % 8).toNat := Nat.two_pow_pos _
    rw [hjs, hL]
    generalize 2 ^ (b % 8).toNat = P at *
    have hsp : d.data.toList = (d.data.toList.take j) ++ [d[j]] := by
      have hl : d.data.toList.length = j + 1 := by rw [← hj]; rfl
      have h1 : d.data.toList[j]'(by omega) = d[j] := rfl
      rw [← h1, ← List.take_succ_eq_append_getElem (by omega), List.take_of_length_le (by omega)]
    have hc : (d.extract 0 j ++ ⟨#[UInt8.ofNat ((d[j]).toNat % P)]⟩ = d) ↔ UInt8.ofNat ((d[j]).toNat % P) = d[j] := by
      constructor
      · intro h
        have h2 : (d.extract 0 j ++ ⟨#[UInt8.ofNat ((d[j]).toNat % P)]⟩).data.toList = d.data.toList := by rw [h]
        rw [ByteArray.toList_data_append, Lib.extract_data, hsp] at h2
        simp at h2
        exact h2.2
      · intro h
        apply Go.WideShapes.bytes_inj
        rw [h, ByteArray.toList_data_append, Lib.extract_data, hsp]
        have hl : (List.take j d.data.toList).length = j := by
          have : d.data.toList.length = j + 1 := by rw [← hj]; rfl
          rw [List.length_take]; omega
        simp [List.take_append_of_le_length (Nat.le_of_eq hl.symm), List.take_of_length_le (Nat.le_of_eq hl)]
    rw [hc]
    constructor
    · intro h
      right
      have h2 : (UInt8.ofNat ((d[j]).toNat % P)).toNat = (d[j]).toNat := by rw [h]
      rw [UInt8.toNat_ofNat'] at h2
      have h3 : (d[j]).toNat % P ≤ (d[j]).toNat := Nat.mod_le _ _
      rw [Nat.mod_eq_of_lt (by omega)] at h2
      rw [← h2]
      exact Nat.mod_lt _ hp
    · intro h
      rcases h with h | h
      · exact absurd h h8
      · rw [Nat.mod_eq_of_lt h]
        simp
theorem loop_data (d : ByteArray) (i : Nat) (r : List UInt8) : ByteArray.toList.loop d i r = r.reverse ++ d.data.toList.drop i := by
  fun_induction ByteArray.toList.loop d i r with
  | case1 i r h ih =>
    have hl : i < d.data.toList.length := h
    rw [ih, List.drop_eq_getElem_cons hl, List.reverse_cons, List.append_assoc]
    congr 2
    show [d.get! i] ++ _ = _
    have : d.get! i = d.data.toList[i] := by
      show d.data[i]! = _
      rw [getElem!_pos d.data i h]
      rfl
    rw [this]; rfl
  | case2 i r h =>
    rw [List.drop_eq_nil_of_le (by show d.size ≤ i; omega), List.append_nil]
theorem toList_data (d : ByteArray) : d.toList = d.data.toList := by
  unfold ByteArray.toList
  rw [loop_data]; rfl
theorem toList_eq (a b : ByteArray) : (a.toList == b.toList) = decide (a = b) := by
  rw [toList_data, toList_data, Bool.eq_iff_iff]
  simp only [beq_iff_eq, decide_eq_true_eq]
  exact ⟨fun h => Go.WideShapes.bytes_inj h, fun h => by rw [h]⟩
end Go.Proofs.Ytkimkhgigbejkab

/- The laws' qnNode: whether two nodes are the same. -/
namespace Go.Proofs.Ytkimkhgigbejkab
open Go.RowKit
theorem nd_eq (n n' : Nd) : n = n' ↔ n.kind = n'.kind ∧ n.data = n'.data ∧ n.size = n'.size ∧ n.count = n'.count ∧ n.ptrs = n'.ptrs ∧ n.items = n'.items := by
  cases n
  cases n'
  simp only [Nd.mk.injEq, Nd.kind, Nd.data, Nd.size, Nd.count, Nd.ptrs, Nd.items]
  exact ⟨fun h => ⟨h.1, h.2.1, h.2.2.2.1, h.2.2.2.2.1, h.2.2.1, h.2.2.2.2.2⟩, fun h => ⟨h.1, h.2.1, h.2.2.2.2.1, h.2.2.1, h.2.2.2.1, h.2.2.2.2.2⟩⟩
theorem bool_of {b : Bool} {p : Prop} (h : b = true ↔ p) (hp : p) : b = true := h.2 hp
theorem bool_no {b : Bool} {p : Prop} (h : b = true ↔ p) (hp : ¬ p) : b = false := by cases b; rfl; exact absurd (h.1 rfl) hp
theorem iff_true_of {p : Prop} (hp : p) : (true = true ↔ p) := ⟨fun _ => hp, fun _ => rfl⟩
theorem iff_false_of {p : Prop} (hp : ¬ p) : (false = true ↔ p) := ⟨fun h => (by cases h), fun h => absurd h hp⟩
def QnS (m : Nat) : Prop := ∀ (m' : Nat) (A B : Option Addr) (c c' : Nat) (l l' : List Nd) (w : World) (S S' : Nat → Prop) (b : Bool), NdsAt w S m A l → NdsAt w S' m' B l' → (b = true ↔ l = l') →
  Calls Try.prog 33 #[.slice A l.length c, .slice B l'.length c'] w fun e w' => e = .returned (.bool b) ∧ Below w.heap.size w w'
def QnN (m : Nat) : Prop := ∀ (m' : Nat) (n n' : Nd) (h h' : Hd) (w : World) (S S' : Nat → Prop) (b : Bool), NdAt w S m n h → NdAt w S' m' n' h' → (b = true ↔ n = n') →
  Calls Try.prog 10 #[.agg #[.int .i64 n.kind, .string n.data, .slice h.A n.ptrs.length h.a, .int .i64 n.size, .int .i64 n.count, .slice h.B n.items.length h.b], .agg #[.int .i64 n'.kind, .string n'.data, .slice h'.A n'.ptrs.length h'.a, .int .i64 n'.size, .int .i64 n'.count, .slice h'.B n'.items.length h'.b]] w fun e w' => e = .returned (.bool b) ∧ Below w.heap.size w w'
set_option maxHeartbeats 4000000 in
set_option maxRecDepth 100000 in
theorem qnN_of (m : Nat) (hS : QnS m) : QnN m := by
  intro m' n n' h h' w S S' b hn hn' hb
  have HS := Lib.hid hS
  have hba : Below w.heap.size w ((w.alloc (.cells #[.int .i64 n.kind, .string n.data, .slice h.A n.ptrs.length h.a, .int .i64 n.size, .int .i64 n.count, .slice h.B n.items.length h.b] nodeT)).alloc (.cells #[.int .i64 n'.kind, .string n'.data, .slice h'.A n'.ptrs.length h'.a, .int .i64 n'.size, .int .i64 n'.count, .slice h'.B n'.items.length h'.b] nodeT)) := ((Below.refl _ _).alloc (Nat.le_refl _) _).alloc (by simp) _
  have k1 : ((w.alloc (.cells #[.int .i64 n.kind, .string n.data, .slice h.A n.ptrs.length h.a, .int .i64 n.size, .int .i64 n.count, .slice h.B n.items.length h.b] nodeT)).alloc (.cells #[.int .i64 n'.kind, .string n'.data, .slice h'.A n'.ptrs.length h'.a, .int .i64 n'.size, .int .i64 n'.count, .slice h'.B n'.items.length h'.b] nodeT)).heap[w.heap.size]? = some (.cells #[.int .i64 n.kind, .string n.data, .slice h.A n.ptrs.length h.a, .int .i64 n.size, .int .i64 n.count, .slice h.B n.items.length h.b] nodeT (0, 0)) := (Below.heap_alloc _ _ _ (by simp)).trans (heap_alloc_new w _)
  have k2 : ((w.alloc (.cells #[.int .i64 n.kind, .string n.data, .slice h.A n.ptrs.length h.a, .int .i64 n.size, .int .i64 n.count, .slice h.B n.items.length h.b] nodeT)).alloc (.cells #[.int .i64 n'.kind, .string n'.data, .slice h'.A n'.ptrs.length h'.a, .int .i64 n'.size, .int .i64 n'.count, .slice h'.B n'.items.length h'.b] nodeT)).heap[w.heap.size + 1]? = some (.cells #[.int .i64 n'.kind, .string n'.data, .slice h'.A n'.ptrs.length h'.a, .int .i64 n'.size, .int .i64 n'.count, .slice h'.B n'.items.length h'.b] nodeT (0, 0)) := by have := heap_alloc_new (w.alloc (.cells #[.int .i64 n.kind, .string n.data, .slice h.A n.ptrs.length h.a, .int .i64 n.size, .int .i64 n.count, .slice h.B n.items.length h.b] nodeT)) (.cells #[.int .i64 n'.kind, .string n'.data, .slice h'.A n'.ptrs.length h'.a, .int .i64 n'.size, .int .i64 n'.count, .slice h'.B n'.items.length h'.b] nodeT); rwa [show (w.alloc (.cells #[.int .i64 n.kind, .string n.data, .slice h.A n.ptrs.length h.a, .int .i64 n.size, .int .i64 n.count, .slice h.B n.items.length h.b] nodeT)).heap.size = w.heap.size + 1 by simp] at this
  have HN := Lib.hid (hn.below hba)
  have HN' := Lib.hid (hn'.below hba)
  have hts : ((w.alloc (.cells #[.int .i64 n.kind, .string n.data, .slice h.A n.ptrs.length h.a, .int .i64 n.size, .int .i64 n.count, .slice h.B n.items.length h.b] nodeT)).alloc (.cells #[.int .i64 n'.kind, .string n'.data, .slice h'.A n'.ptrs.length h'.a, .int .i64 n'.size, .int .i64 n'.count, .slice h'.B n'.items.length h'.b] nodeT)).heap.size = w.heap.size + 2 := by simp
  have HBA := Lib.hid hba
  have HK1 := Lib.hid k1
  have HK2 := Lib.hid k2
  have HTS := Lib.hid hts
  have HQ := Lib.hid (hb.trans (nd_eq n n'))
  clear hS hn hn' hba k1 k2 hts hb
  by_cases hx : n.kind = n'.kind
  case neg =>
    have hxb : (n.kind == n'.kind) = false := by simpa using hx
    obtain rfl : b = false := by
      cases b
      · rfl
      · exact absurd (HQ.out.1 rfl).1 hx
    clear hx
    go_enter Try.func10, Try.ntmps10
    go_wp2
    go_ret
    exact ⟨rfl, HBA.out⟩
  have h1b : (n.kind == n'.kind) = true := by simpa using hx
  have H1 := Lib.hid hx
  clear hx
  by_cases hx : n.data = n'.data
  case neg =>
    have hxb : (n.data.toList == n'.data.toList) = false := by rw [toList_eq]; exact decide_eq_false hx
    obtain rfl : b = false := by
      cases b
      · rfl
      · exact absurd (HQ.out.1 rfl).2.1 hx
    clear hx
    go_enter Try.func10, Try.ntmps10
    go_wp2
    go_ret
    exact ⟨rfl, HBA.out⟩
  have h2b : (n.data.toList == n'.data.toList) = true := by rw [toList_eq]; exact decide_eq_true hx
  have H2 := Lib.hid hx
  clear hx
  by_cases hx : n.size = n'.size
  case neg =>
    have hxb : (n.size == n'.size) = false := by simpa using hx
    obtain rfl : b = false := by
      cases b
      · rfl
      · exact absurd (HQ.out.1 rfl).2.2.1 hx
    clear hx
    go_enter Try.func10, Try.ntmps10
    go_wp2
    go_ret
    exact ⟨rfl, HBA.out⟩
  have h3b : (n.size == n'.size) = true := by simpa using hx
  have H3 := Lib.hid hx
  clear hx
  by_cases hx : n.count = n'.count
  case neg =>
    have hxb : (n.count == n'.count) = false := by simpa using hx
    obtain rfl : b = false := by
      cases b
      · rfl
      · exact absurd (HQ.out.1 rfl).2.2.2.1 hx
    clear hx
    go_enter Try.func10, Try.ntmps10
    go_wp2
    go_ret
    exact ⟨rfl, HBA.out⟩
  have h4b : (n.count == n'.count) = true := by simpa using hx
  have H4 := Lib.hid hx
  clear hx
  by_cases hx : n.ptrs = n'.ptrs
  case neg =>
    obtain rfl : b = false := by
      cases b
      · rfl
      · exact absurd (HQ.out.1 rfl).2.2.2.2.1 hx
    have HC := Lib.hid (HS.out m' h.A h'.A h.a h'.a n.ptrs n'.ptrs _ S S' false HN.out.2.1 HN'.out.2.1 (iff_false_of hx))
    clear hx
    go_enter Try.func10, Try.ntmps10
    go_wp2_with fail
    refine HC.out.mono ?_
    rintro e w1 ⟨rfl, hb1⟩
    have HB1 := Lib.hid (HBA.out.trans (hb1.mono HBA.out.size))
    clear hb1
    go_wp2
    go_ret
    exact ⟨rfl, HB1.out⟩
  have H5 := Lib.hid hx
  have HC := Lib.hid (HS.out m' h.A h'.A h.a h'.a n.ptrs n'.ptrs _ S S' true HN.out.2.1 HN'.out.2.1 (iff_true_of hx))
  have H6 : Hid (b = true ↔ n.items = n'.items) := Lib.hid ⟨fun h => (HQ.out.1 h).2.2.2.2.2, fun h => HQ.out.2 ⟨H1.out, H2.out, H3.out, H4.out, H5.out, h⟩⟩
  clear hx
  go_enter Try.func10, Try.ntmps10
  go_wp2_with fail
  generalize ((w.alloc (.cells #[.int .i64 n.kind, .string n.data, .slice h.A n.ptrs.length h.a, .int .i64 n.size, .int .i64 n.count, .slice h.B n.items.length h.b] nodeT)).alloc (.cells #[.int .i64 n'.kind, .string n'.data, .slice h'.A n'.ptrs.length h'.a, .int .i64 n'.size, .int .i64 n'.count, .slice h'.B n'.items.length h'.b] nodeT)) = W at *
  refine HC.out.mono ?_
  rintro e w1 ⟨rfl, hb1⟩
  have HB1 := Lib.hid hb1
  obtain ⟨a0, a1, a2, a3, a4, a5⟩ := cells6 ((hb1.block _ (by have := HTS.out; omega)).trans HK1.out)
  obtain ⟨b0, b1, b2, b3, b4, b5⟩ := cells6 ((hb1.block _ (by have := HTS.out; omega)).trans HK2.out)
  clear hb1
  go_wp2_with fail
  refine (HS.out m' h.B h'.B h.b h'.b n.items n'.items w1 S S' b (HN.out.below HB1.out).2.2 (HN'.out.below HB1.out).2.2 H6.out).mono ?_
  rintro e w2 ⟨rfl, hb2⟩
  have HB2 := Lib.hid (HBA.out.trans ((HB1.out.trans (hb2.mono HB1.out.size)).mono (by have := HTS.out; omega)))
  clear hb2
  go_wp2
  go_ret
  exact ⟨rfl, HB2.out⟩
theorem qnS_zero : QnS 0 := by
  intro m' A B c c' l l' w S S' b hl hl' hb
  obtain rfl := hl.zero
  have hlen := hl'.len
  unfold maxLen at hlen
  by_cases h0 : l'.length = 0
  · obtain rfl : b = true := hb.2 (List.eq_nil_of_length_eq_zero h0).symm
    rw [h0]
    clear hb hl hl' h0 hlen
    go_enter Try.func33, Try.ntmps33
    go_wp2
    go_loop [5] (fun i => i = .int .i64 0) (fun _ => 0)
    case atStart => rfl
    case round =>
      obtain rfl := hrel
      go_wp2
      go_ret
      exact ⟨rfl, Below.refl _ _⟩
  · obtain rfl : b = false := bool_no hb (fun e => h0 (by rw [← e]; rfl))
    have hxb : ((([] : List Nd).length : Int) != (l'.length : Int)) = true := by simp; omega
    clear hb hl hl'
    go_enter Try.func33, Try.ntmps33
    go_wp2
    go_ret
    exact ⟨rfl, Below.refl _ _⟩
set_option maxHeartbeats 4000000 in
set_option maxRecDepth 100000 in
theorem qnS_succ (m : Nat) (hN : QnN m) : QnS (m + 1) := by
  intro m' A B c c' l l' w S S' b h h' hb
  have hlm := h.len
  have hlm' := h'.len
  unfold maxLen at hlm hlm'
  by_cases hll : l'.length = l.length
  case neg =>
    obtain rfl : b = false := bool_no hb (fun e => hll (by rw [e]))
    have hxb : ((l.length : Int) != (l'.length : Int)) = true := by simp; omega
    clear hb h h' hN
    go_enter Try.func33, Try.ntmps33
    go_wp2
    go_ret
    exact ⟨rfl, Below.refl _ _⟩
  have HF := Lib.hid h
  have HG := Lib.hid (h'.mono (Nat.le_succ m'))
  have HN := Lib.hid hN
  have HQ := Lib.hid hb
  rw [hll]
  have HLL := Lib.hid hll
  clear h h' hN hb hll hlm'
  go_enter Try.func33, Try.ntmps33
  go_wp2
  go_loopw [5] (fun i wr => ∃ k : Nat, i = .int .i64 k ∧ k ≤ l.length ∧ Hid (Below w.heap.size w wr) ∧ Hid (∀ j, j < k → l[j]? = l'[j]?)) (fun i _ => l.length - (intOf i).toNat)
  case atStart => exact ⟨0, rfl, by omega, Lib.hid (Below.refl _ _), Lib.hid (fun j hj => by omega)⟩
  case round =>
    obtain ⟨k, rfl, hk, HB, HE⟩ := hrel
    by_cases hlt : k < l.length
    · have hlt' : k < l'.length := by have := HLL.out; omega
      obtain ⟨x, hx, rfl, cx, nx⟩ := (HF.out.below HB.out).at_ hlt
      obtain ⟨y, hy, rfl, cy, ny⟩ := (HG.out.below HB.out).at_ hlt'
      have HEQ : Hid (l[k] = l'[k] → l[k]? = l'[k]?) := Lib.hid (fun e => by rw [List.getElem?_eq_getElem hlt, List.getElem?_eq_getElem hlt', e])
      have HNE : Hid (l[k] ≠ l'[k] → l ≠ l') := Lib.hid (fun e hl => e (by subst hl; rfl))
      generalize l[k] = n at cx nx HEQ HNE
      generalize l'[k] = n' at cy ny HEQ HNE
      have hd1 : Below wr.heap.size wr wr.drew := ⟨rfl, rfl, rfl, Nat.le_refl _, fun _ _ => rfl⟩
      have hx1 := cx.lt
      have hx2 := cy.lt
      obtain ⟨c0, c1, c2, c3, c4, c5⟩ := cx
      obtain ⟨d0, d1, d2, d3, d4, d5⟩ := cy
      have hk2 : (k : Int) < (l.length : Int) := by omega
      have hs := HB.out.size
      by_cases hnn : n = n'
      · have HP := Lib.hid (HN.out m' n n' hx hy wr.drew S S' true (nx.below hd1) (ny.below hd1) (iff_true_of hnn))
        have HP0 := Lib.hid (HN.out m' n n' hx hy wr S S' true nx ny (iff_true_of hnn))
        have HE1 := Lib.hid (HEQ.out hnn)
        clear nx ny hnn HEQ HNE
        go_wp2
        go_region_with (go_at_call 10; refine HP.out.mono ?_; rintro e w2 ⟨rfl, hb2⟩)
        all_goals
          have HB2 := Lib.hid (HB.out.trans ((show Below w.heap.size wr wr.drew from ⟨rfl, rfl, rfl, Nat.le_refl _, fun _ _ => rfl⟩).trans (hb2.mono (by simpa using hs))))
          clear hb2
          go_wp2
          go_roundw
          case rel =>
            refine ⟨k + 1, by go_num, by omega, HB2, Lib.hid fun j hj => ?_⟩
            rcases Nat.lt_or_ge j k with hl | hge
            · exact HE.out j hl
            · obtain rfl : j = k := by omega
              exact HE1.out
          case measure => simp [intOf]; omega
      · have HP := Lib.hid (HN.out m' n n' hx hy wr.drew S S' false (nx.below hd1) (ny.below hd1) (iff_false_of hnn))
        obtain rfl : b = false := bool_no HQ.out (HNE.out hnn)
        clear nx ny hnn HEQ HNE
        go_wp2
        go_region_with (go_at_call 10; refine HP.out.mono ?_; rintro e w2 ⟨rfl, hb2⟩)
        all_goals
          have HB2 := Lib.hid (HB.out.trans ((show Below w.heap.size wr wr.drew from ⟨rfl, rfl, rfl, Nat.le_refl _, fun _ _ => rfl⟩).trans (hb2.mono (by simpa using hs))))
          clear hb2
          go_wp2
          go_ret
          exact ⟨rfl, HB2.out⟩
    · obtain rfl : k = l.length := by omega
      obtain rfl : b = true := HQ.out.2 (List.ext_getElem? fun j => by
        rcases Nat.lt_or_ge j l.length with hl | hge
        · exact HE.out j hl
        · rw [List.getElem?_eq_none hge, List.getElem?_eq_none (by have := HLL.out; omega)])
      go_wp2
      go_ret
      exact ⟨rfl, HB.out⟩
theorem qnS_any : ∀ m, QnS m
  | 0 => qnS_zero
  | m + 1 => qnS_succ m (qnN_of m (qnS_any m))
theorem qnN_any (m : Nat) : QnN m := qnN_of m (qnS_any m)
end Go.Proofs.Ytkimkhgigbejkab

/- Which nodes may stand in one list. -/
namespace Go.Proofs.Ytkimkhgigbejkab
open Go.RowKit
/-- a node may be an item beside another one. -/
def itemB (n h : Nd) : Bool := structB n.kind n.data n.size n.count n.items.length && (decide (n.data.size = h.data.size) && decide (n.ptrs.length = h.ptrs.length))
def itemsB (l : List Nd) : Bool := l.all fun n => itemB n (l.headD default)
theorem itemsB_take {l : List Nd} {k : Nat} (h : k < l.length) (hh : (l.take k).all (fun n => itemB n (l.headD default)) = true) (hn : itemB l[k] (l.headD default) = true) : (l.take (k + 1)).all (fun n => itemB n (l.headD default)) = true := by
  rw [List.take_succ_eq_append_getElem h, List.all_append, hh]
  simpa using hn
theorem itemsB_false {l : List Nd} {k : Nat} (h : k < l.length) (hn : itemB l[k] (l.headD default) = false) : itemsB l = false := by
  unfold itemsB
  rw [List.all_eq_false]
  exact ⟨l[k], List.getElem_mem h, by rw [hn]; decide⟩
theorem head_at {l : List Nd} (h : 0 < l.length) : l[0] = l.headD default := by
  cases l with
  | nil => cases h
  | cons a t => rfl
theorem addr_zero (x : Addr) : x.add (0 * 6) = x := by simp [Addr.add]
end Go.Proofs.Ytkimkhgigbejkab

/- Which parts a list has: the program's word on it. -/
namespace Go.Proofs.Ytkimkhgigbejkab
open Go.RowKit
/-- the parts of a list. -/
def listB (k s c : Int) (d : ByteArray) (lp li : Nat) (ib : Bool) : Bool :=
  decide (k = 2) && (wiB c 12801 && (if 0 ≤ s ∧ s ≤ 5 then bitsB d (c * bz s) && (decide (lp = 0) && decide (li = 0)) else if s = 6 then decide (d.size = 0) && (decide ((lp : Int) = c) && decide (li = 0)) else if s = 7 then decide (d.size = 0) && (decide (lp = 0) && (decide ((li : Int) = c) && ib)) else false))
def listN (n : Nd) : Bool := listB n.kind n.size n.count n.data n.ptrs.length n.items.length (itemsB n.items)
theorem wi_out {n b : Int} (h : wiB n b = true) : 0 ≤ n ∧ n < b := by simpa [wiB] using h
end Go.Proofs.Ytkimkhgigbejkab

/- Which parts a node has; how many words it takes by itself. -/
namespace Go.Proofs.Ytkimkhgigbejkab
open Go.RowKit
def noneN (n : Nd) : Bool := noneB n.data n.ptrs.length n.size n.count n.items.length
def strN (n : Nd) : Bool := structB n.kind n.data n.size n.count n.items.length
/-- a node has the parts of its kind. -/
def formN (n : Nd) : Bool := decide (n.kind = 0) && noneN n || (strN n || listN n)
abbrev boxN (n : Nd) (h : Hd) : Obj := .cells #[.int .i64 n.kind, .string n.data, .slice h.A n.ptrs.length h.a, .int .i64 n.size, .int .i64 n.count, .slice h.B n.items.length h.b] nodeT (0, 0)
end Go.Proofs.Ytkimkhgigbejkab
