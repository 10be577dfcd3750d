/- Plain facts on words: their cells, copies, loads and stores of a whole array of bytes, numbers of bytes. No Go text. -/
import Derived.Lib.BufferWrite
import Derived.WalkKit
import Derived.Deep.RegionLaw
import Derived.Laws.BitsAllLaws
namespace Go.Proofs.Ytfiiopchfmcjdaa
open Go.RowKit

/-- the cells of a word (or of whatever bytes). -/
def wd (l : List UInt8) : Array Value := (Lib.byteCells l).toArray
theorem wd_size (l : List UInt8) : (wd l).size = l.length := by simp [wd, Lib.byteCells_length]
theorem len8 {l : List UInt8} (h : l.length = 8) : ∃ a b c d e f g i, l = [a, b, c, d, e, f, g, i] := by
  match l, h with
  | [a, b, c, d, e, f, g, i], _ => exact ⟨a, b, c, d, e, f, g, i, rfl⟩
theorem wd8 (a b c d e f g i : UInt8) : wd [a, b, c, d, e, f, g, i] = #[.int .u8 a.toNat, .int .u8 b.toNat, .int .u8 c.toNat, .int .u8 d.toNat, .int .u8 e.toNat, .int .u8 f.toNat, .int .u8 g.toNat, .int .u8 i.toNat] := rfl

/-- copy(dst, s), s A STRING, dst the whole row g of n cells, s at least as long. -/
theorem run_copy_string_ge {P : Program} (w : World) (dT sT ty elem : TypeId) (g dCap : Nat) (s : ByteArray) (cur : Array Value) (t : TypeId)
    (hu : P.underlying dT = some (.slice elem)) (hs : (P.info? elem).map (·.size) = some 1) (hg : w.heap[g]? = some (.cells cur t (0, 0))) (hle : cur.size ≤ s.size) :
    (Builtin.copy_ #[dT, sT] ty #[.slice (some ⟨g, 0, none⟩) cur.size dCap, .string s]).run P w =
      .ok (goInt cur.size) (w.setRow g (wd (s.data.toList.take cur.size))) := by
  have hlen : (Lib.byteCells (s.data.toList.take cur.size)).length = cur.size := by
    rw [Lib.byteCells_length, List.length_take, ← Lib.size_eq]; omega
  have hst := run_storeCells_at P g 0 t (Lib.byteCells (s.data.toList.take cur.size)) 0 cur w hg (by rw [hlen]; simp) (Lib.byteCells_one _)
  have hmin : Nat.min s.size cur.size = cur.size := Nat.min_eq_right hle
  have htk : List.take cur.size (List.map (fun b : UInt8 => Value.int IntKind.u8 (b.toNat : Int)) s.data.toList) = Lib.byteCells (s.data.toList.take cur.size) := by
    rw [Lib.byteCells, List.map_take]
  rw [hlen] at hst
  have hd : List.drop cur.size cur.toList = [] := List.drop_of_length_le (by simp)
  simp only [Nat.add_zero, Nat.zero_add, List.take_zero, List.nil_append, hd, List.append_nil] at hst
  cases hq : P.info? elem with
  | none => simp [hq] at hs
  | some i =>
    simp [Builtin.copy_, run_underlying hu, Builtin.lenOf, Builtin.firstCells, sizeOf, typeInfo, hq, hmin]
    simp only [← List.map_take] at hst ⊢
    rw [show List.map (fun b : UInt8 => Value.int IntKind.u8 (b.toNat : Int)) (List.take cur.size s.data.toList) = Lib.byteCells (s.data.toList.take cur.size) from rfl, hst]
    simp [Result.andThen, wd]

theorem step_copy_string_ge {P : Program} {ops : Array Oper} {o : Oper} {a : Act} {w : World} {K : Act → World → Prop} {Q : Exit → Act → World → Prop} {E : Prop} (hgd : o.guard = none) (d s : Operand) (dT sT : TypeId)
    (ho : o.op = .call { callee := .builtin .copy, args := #[d, s], argTypes := #[dT, sT] }) (elem : TypeId) (hu : P.underlying dT = some (.slice elem)) (hsz : (P.info? elem).map (·.size) = some 1)
    (g dCap n : Nat) (S : ByteArray) (cur : Array Value) (t : TypeId) (hn : cur.size = n) (hd : a.eval d = .slice (some ⟨g, 0, none⟩) n dCap) (hs : a.eval s = .string S)
    (hg : w.heap[g]? = some (.cells cur t (0, 0))) (hle : n ≤ S.size)
    (h : ∀ w', Hid (w'.heap[g]? = some (.cells (wd (S.data.toList.take n)) t (0, 0))) → Hid (w.grownBy w' (some g)) → K (a.put o.dst (goInt n)) w') :
    if Region.wanted o (yielded ops a.tmps) = true then Oper.wp P o a w K Q else E := by
  subst hn
  have hw : Region.wanted o (yielded ops a.tmps) = true := by simp [Region.wanted, hgd]
  rw [if_pos hw]
  have hrun := run_copy_string_ge (P := P) w dT sT o.type elem g dCap S cur t hu hsz hg hle
  unfold Oper.wp
  simp [execOp, ho, resolve, invoke, builtin, hd, hs, hrun, Result.andThen]
  exact h _ (setRow_heap w g _ _ t _ hg) ⟨rfl, rfl, rfl, by simp [World.setRow], fun k _ hk => setRow_other w g k _ (fun e => hk (by rw [e]))⟩

theorem wd_one (l : List UInt8) : (wd l).all (·.oneCell') = true := by
  rw [Array.all_eq_true_iff_forall_mem]
  intro v hv
  exact Lib.byteCells_one l v (by simpa [wd] using hv)
/-- A STORE OF A WHOLE ARRAY of bytes, by what the row holds then. -/
theorem wpList_store_wd {P : Program} {ops : Array Oper} {rest : List Oper} {o : Oper} {a : Act} {w : World} {Q : Exit → Act → World → Prop} (hgd : o.guard = none) (ty : TypeId) (x y : Operand) (ho : o.op = .store ty x y)
    (g : Nat) (l : List UInt8) (hx : a.eval x = .pointer (some ⟨g, 0, none⟩)) (hy : a.eval y = .agg (wd l))
    (t : TypeId) (old : Array Value) (hg : w.heap[g]? = some (.cells old t (0, 0))) (hi : (P.info? ty).map (·.size) = some l.length) (hold : old.size = l.length)
    (h : ∀ w', Hid (w'.heap[g]? = some (.cells (wd l) t (0, 0))) → Hid (w.grownBy w' (some g)) → wpList P ops Q rest (a.put o.dst undef) w') : wpList P ops Q (o :: rest) a w :=
  wpList_store_row hgd ty x y ho g (wd l) hx hy t old hg (by rw [wd_size]; exact hi) (by rw [wd_size]; exact hold) (wd_one l)
    (h _ (setRow_heap w g _ _ t _ hg) ⟨rfl, rfl, rfl, by simp [World.setRow], fun k _ hk => setRow_other w g k _ (fun e => hk (by rw [e]))⟩)
theorem wpList_load_wd {P : Program} {ops : Array Oper} {rest : List Oper} {o : Oper} {a : Act} {w : World} {Q : Exit → Act → World → Prop} (hgd : o.guard = none) (ty : TypeId) (x : Operand) (ho : o.op = .load ty x)
    (g : Nat) (hx : a.eval x = .pointer (some ⟨g, 0, none⟩)) (t : TypeId) (l : List UInt8) (d : TypeDesc) (hg : w.heap[g]? = some (.cells (wd l) t (0, 0)))
    (hu : P.underlying ty = some d) (hd : (match d with | .struct _ | .array _ _ => true | _ => false) = true) (hi : (P.info? ty).map (·.size) = some l.length)
    (h : wpList P ops Q rest (a.put o.dst (.agg (wd l))) w) : wpList P ops Q (o :: rest) a w :=
  wpList_load_row hgd ty x ho g hx t (wd l) (0, 0) d hg hu hd (by rw [wd_size]; exact hi) h

theorem step_load_wd {P : Program} {ops : Array Oper} {o : Oper} {a : Act} {w : World} {K : Act → World → Prop} {Q : Exit → Act → World → Prop} {E : Prop} (hgd : o.guard = none) (ty : TypeId) (x : Operand) (ho : o.op = .load ty x)
    (g : Nat) (hx : a.eval x = .pointer (some ⟨g, 0, none⟩)) (t : TypeId) (l : List UInt8) (d : TypeDesc) (hg : w.heap[g]? = some (.cells (wd l) t (0, 0)))
    (hu : P.underlying ty = some d) (hd : (match d with | .struct _ | .array _ _ => true | _ => false) = true) (hi : (P.info? ty).map (·.size) = some l.length)
    (h : K (a.put o.dst (.agg (wd l))) w) : if Region.wanted o (yielded ops a.tmps) = true then Oper.wp P o a w K Q else E := by
  have hw : Region.wanted o (yielded ops a.tmps) = true := by simp [Region.wanted, hgd]
  rw [if_pos hw]
  exact wp_load_row ty x ho g hx t (wd l) (0, 0) d hg hu hd (by rw [wd_size]; exact hi) h
/-- the number of k bytes of l from a on, the lowest first; 0 where there is none. -/
def leN (l : List UInt8) : Nat → Nat → Nat
  | _, 0 => 0
  | a, k + 1 => (l[a]?.getD 0).toNat + 256 * leN l (a + 1) k
theorem byte_lt (l : List UInt8) (a : Nat) : (l[a]?.getD 0).toNat < 256 := (l[a]?.getD 0).toNat_lt
theorem leN_lt (l : List UInt8) : ∀ (k a : Nat), leN l a k < 256 ^ k
  | 0, _ => by simp [leN]
  | k + 1, a => by
    have h := leN_lt l k (a + 1)
    have h2 := byte_lt l a
    simp only [leN, Nat.pow_succ]
    omega
theorem leN_lt7 (l : List UInt8) (k a : Nat) (h : k ≤ 7) : leN l a k < 72057594037927936 :=
  Nat.lt_of_lt_of_le (leN_lt l k a) (Nat.le_trans (Nat.pow_le_pow_right (by decide) h) (by decide))
theorem or_step (n b : Nat) (hn : n < 72057594037927936) (hb : b < 256) : bits .or .u64 (IntKind.u64.wrap ((n : Int) * 256)) (b : Int) = ((b + 256 * n : Nat) : Int) := by
  have h : IntKind.u64.wrap ((n : Int) * 256) = ((n * 256 : Nat) : Int) := by rw [IntKind.wrap_u64]; omega
  rw [h, u64_or_nat (n * 256) b (by omega) (by omega), nat_join 8 (n * 256) b (by omega) (by omega)]
  omega
theorem wrap_byte (l : List UInt8) (a : Nat) : IntKind.u64.wrap ((l[a]?.getD 0).toNat : Int) = ((l[a]?.getD 0).toNat : Int) := by
  have := byte_lt l a
  rw [IntKind.wrap_u64]; omega
theorem number_step (l : List UInt8) (a z k : Nat) (hk : k < z) (hz : z ≤ 8) :
    bits .or .u64 (IntKind.u64.wrap ((leN l (a + z - k) k : Int) * 256)) (IntKind.u64.wrap ((l[a + z - 1 - k]?.getD 0).toNat : Int)) = ((leN l (a + z - (k + 1)) (k + 1) : Nat) : Int) := by
  rw [wrap_byte, or_step _ _ (leN_lt7 l k _ (by omega)) (byte_lt l _)]
  have e1 : a + z - (k + 1) = a + z - 1 - k := by omega
  have e2 : a + z - 1 - k + 1 = a + z - k := by omega
  rw [e1, leN, e2]
theorem ofInt_mod (n : Int) : BitVec.ofInt 64 (IntKind.i64.wrap n) = BitVec.ofInt 64 n := by
  apply BitVec.eq_of_toInt_eq
  rw [BitVec.toInt_ofInt, BitVec.toInt_ofInt, IntKind.wrap_i64]
  simp only [Int.bmod_def]
  omega
theorem or_step_i (n b : Nat) (hn : n < 72057594037927936) (hb : b < 256) : bits .or .i64 (IntKind.i64.wrap ((n : Int) * 256)) (b : Int) = wrap64 ((b + 256 * n : Nat) : Int) := by
  show IntKind.i64.wrap ((BitVec.ofInt 64 (IntKind.i64.wrap ((n : Int) * 256)) ||| BitVec.ofInt 64 (b : Int)).toNat : Int) = _
  rw [ofInt_mod, show ((n : Int) * 256) = ((n * 256 : Nat) : Int) by omega, BitVec.toNat_or, ofInt_u64 (n * 256) (by omega), ofInt_u64 b (by omega), nat_join 8 (n * 256) b (by omega) (by omega)]
  rw [show n * 256 + b = b + 256 * n by omega]
  simp [wrap64, IntKind.wrap_i64]
theorem wrap64_small (n : Nat) (h : n < 9223372036854775808) : wrap64 (n : Int) = n := by unfold wrap64; omega
theorem get_step (l : List UInt8) (a z k : Nat) (hk : k < z) (hz : z ≤ 8) :
    bits .or .i64 (IntKind.i64.wrap (wrap64 (leN l (a + z - k) k : Int) * 256)) ((l[a + z - 1 - k]?.getD 0).toNat : Int) = wrap64 ((leN l (a + z - (k + 1)) (k + 1) : Nat) : Int) := by
  have h7 := leN_lt7 l k (a + z - k) (by omega)
  rw [wrap64_small _ (by omega), or_step_i _ _ h7 (byte_lt l _)]
  have e1 : a + z - (k + 1) = a + z - 1 - k := by omega
  have e2 : a + z - 1 - k + 1 = a + z - k := by omega
  rw [e1, leN, e2]
theorem wrap64_eq (n : Int) : wrap64 n = IntKind.i64.wrap n := by rw [IntKind.wrap_i64]; unfold wrap64; omega
theorem wrap64_byte' (b : UInt8) : wrap64 (b.toNat : Int) = (b.toNat : Int) := wrap64_small _ (by have := b.toNat_lt; omega)
theorem bytes_get (s : ByteArray) (i : Nat) (h : i < s.size) : s.data.toList[i]?.getD 0 = s[i] := by
  rw [List.getElem?_eq_getElem (by simpa using h)]; rfl
theorem get_round (s : ByteArray) (a z k : Nat) (hk : k < z) (hz : z ≤ 8) (hin : a + (z - 1 - k) < s.size) :
    bits .or .i64 (wrap64 (wrap64 (leN s.data.toList (a + z - k) k : Int) * 256)) (wrap64 (s[a + (z - 1 - k)].toNat : Int)) = wrap64 ((leN s.data.toList (a + z - (k + 1)) (k + 1) : Nat) : Int) := by
  rw [← get_step s.data.toList a z k hk hz, wrap64_byte', ← wrap64_eq, show a + z - 1 - k = a + (z - 1 - k) by omega, bytes_get s _ hin]
theorem get_round_out (s : ByteArray) (a z k : Nat) (hk : k < z) (hz : z ≤ 8) (hin : ¬ a + z - 1 - k < s.size) :
    bits .or .i64 (wrap64 (wrap64 (leN s.data.toList (a + z - k) k : Int) * 256)) 0 = wrap64 ((leN s.data.toList (a + z - (k + 1)) (k + 1) : Nat) : Int) := by
  rw [← get_step s.data.toList a z k hk hz, ← wrap64_eq, List.getElem?_eq_none (by simpa using hin)]
  rfl
theorem wd_cell (w : World) (l : List UInt8) (t : TypeId) (i : Nat) (h : i < l.length) : (w.alloc (.cells (wd l) t)).cell? ⟨w.heap.size, i, none⟩ = some (.int .u8 ((l[i]?.getD 0).toNat : Int)) := by
  rw [cell_of_row _ _ _ (wd l) t (0, 0) (heap_alloc_new w _)]
  simp [wd, Lib.byteCells, h]
end Go.Proofs.Ytfiiopchfmcjdaa
