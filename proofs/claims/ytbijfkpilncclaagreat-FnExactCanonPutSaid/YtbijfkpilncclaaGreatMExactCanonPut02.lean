/- Texts of the proof of the law FnExactCanonPut, side by side: part 2. -/
import Derived.Lib.BufferWrite
import Derived.WalkKit
import Derived.Deep.RegionLaw
import Derived.Laws.BitsAllLaws
import Derived.Lib.Hide
import Derived.Test.YtbijfkpilncclaaGreatMExactCanonPut00
import Derived.Test.YtbijfkpilncclaaGreatMExactCanonPut01
/- Which parts a node has. -/
namespace Go.Proofs.YtbijfkpilncclaaGreat
open Go.RowKit
/-- all parts are 0 or empty. -/
def noneB (d : ByteArray) (lp : Nat) (s c : Int) (li : Nat) : Bool := d.size == 0 && lp == 0 && s == 0 && c == 0 && li == 0
theorem loop_length (d : ByteArray) (i : Nat) (r : List UInt8) : (ByteArray.toList.loop d i r).length = r.length + (d.size - i) := by
  fun_induction ByteArray.toList.loop d i r with
  | case1 i r h ih => rw [ih]; simp only [List.length_cons]; omega
  | case2 i r h => simp only [List.length_reverse]; omega
theorem toList_isEmpty (d : ByteArray) : d.toList.isEmpty = (d.size == 0) := by
  have h := loop_length d 0 []
  simp only [List.length_nil] at h
  unfold ByteArray.toList
  rw [Bool.eq_iff_iff, List.isEmpty_iff, ← List.length_eq_zero_iff, h]
  simp
theorem toList_nil (d : ByteArray) : d.toList = [] ↔ d.size = 0 := by
  have := toList_isEmpty d
  rw [Bool.eq_iff_iff] at this
  simpa using this
set_option maxHeartbeats 1000000 in
theorem isNothing_any (k s c : Int) (d : ByteArray) (A B : Option Addr) (lp cp li ci : Nat) (w : World) :
    Calls Tryz.prog 131 #[.agg #[.int .i64 k, .string d, .slice A lp cp, .int .i64 s, .int .i64 c, .slice B li ci]] w fun e w' => e = .returned (.bool (noneB d lp s c li)) ∧ Below w.heap.size w w' := by
  have HE := toList_isEmpty d
  have HD : Hid (noneB d lp s c li = decide (d.size = 0 ∧ lp = 0 ∧ s = 0 ∧ c = 0 ∧ li = 0)) := Lib.hid (by rw [Bool.eq_iff_iff]; simp [noneB, and_assoc])
  go_enter Tryz.func131, Tryz.ntmps131
  go_wp2
  all_goals go_ret
  all_goals refine ⟨ret_bool ?_, (Below.refl _ _).alloc (Nat.le_refl _) _⟩
  all_goals (rw [HD.out, Bool.eq_iff_iff]; simp_all)
/-- the parts of a struct. -/
def structB (k : Int) (d : ByteArray) (s c : Int) (li : Nat) : Bool := decide (k = 1 ∧ (d.size : Int) % 8 = 0 ∧ s = 0 ∧ c = 0 ∧ li = 0)
set_option maxHeartbeats 1000000 in
theorem isStruct_any (k s c : Int) (d : ByteArray) (A B : Option Addr) (lp cp li ci : Nat) (w : World) :
    Calls Tryz.prog 132 #[.agg #[.int .i64 k, .string d, .slice A lp cp, .int .i64 s, .int .i64 c, .slice B li ci]] w fun e w' => e = .returned (.bool (structB k d s c li)) ∧ Below w.heap.size w w' := by
  have HD : Hid (noneB ByteArray.empty 0 s c li = decide (s = 0 ∧ c = 0 ∧ li = 0)) := Lib.hid (by rw [Bool.eq_iff_iff]; simp [noneB, and_assoc])
  have HS : Hid (structB k d s c li = (decide (k = 1) && (decide ((d.size : Int) % 8 = 0) && noneB ByteArray.empty 0 s c li))) := Lib.hid (by rw [HD.out, Bool.eq_iff_iff]; simp [structB])
  clear HD
  by_cases hk : k = 1
  all_goals
    by_cases h8 : (d.size : Int) % 8 = 0
    all_goals
      go_enter Tryz.func132, Tryz.ntmps132
      go_wp2_with (go_at_call 131; go_must (refine (isNothing_any _ _ _ _ _ _ _ _ _ _ _).mono ?_); rintro e w2 ⟨rfl, hb2⟩)
      go_ret
      refine ⟨ret_bool (by rw [HS.out]; simp [hk, h8] <;> rfl), ?_⟩
      first
      | exact (((Below.refl _ w).alloc (Nat.le_refl _) _).alloc (by simp) _).trans (hb2.mono (by simp; omega))
      | exact ((Below.refl _ w).alloc (Nat.le_refl _) _).alloc (by simp) _
set_option maxHeartbeats 1000000 in
theorem l4Struct_any (k s c : Int) (d : ByteArray) (A B : Option Addr) (lp cp li ci : Nat) (w : World) :
    Calls Tryz.prog 105 #[.agg #[.int .i64 k, .string d, .slice A lp cp, .int .i64 s, .int .i64 c, .slice B li ci]] w fun e w' => e = .returned (.bool (structB k d s c li)) ∧ Below w.heap.size w w' := by
  have HS : Hid (structB k d s c li = decide (k = 1 ∧ (d.size : Int) % 8 = 0 ∧ s = 0 ∧ c = 0 ∧ li = 0)) := Lib.hid rfl
  go_enter Tryz.func105, Tryz.ntmps105
  go_wp2
  all_goals go_ret
  all_goals refine ⟨ret_bool ?_, (Below.refl _ _).alloc (Nat.le_refl _) _⟩
  all_goals (rw [HS.out, Bool.eq_iff_iff]; simp_all)
end Go.Proofs.YtbijfkpilncclaaGreat

/- Plain facts on words: their cells, copies, loads and stores of a whole array of bytes, numbers of bytes. No Go text. -/
namespace Go.Proofs.YtbijfkpilncclaaGreat
open Go.RowKit

/-- the cells of a word (or of whatever bytes). -/
def wd (l : List UInt8) : Array Value := (Lib.byteCells l).toArray
theorem wd_size (l : List UInt8) : (wd l).size = l.length := by simp [wd, Lib.byteCells_length]
theorem len8 {l : List UInt8} (h : l.length = 8) : ∃ a b c d e f g i, l = [a, b, c, d, e, f, g, i] := by
  match l, h with
  | [a, b, c, d, e, f, g, i], _ => exact ⟨a, b, c, d, e, f, g, i, rfl⟩
theorem wd8 (a b c d e f g i : UInt8) : wd [a, b, c, d, e, f, g, i] = #[.int .u8 a.toNat, .int .u8 b.toNat, .int .u8 c.toNat, .int .u8 d.toNat, .int .u8 e.toNat, .int .u8 f.toNat, .int .u8 g.toNat, .int .u8 i.toNat] := rfl

/-- copy(dst, s), s A STRING, dst the whole row g of n cells, s at least as long. -/
theorem run_copy_string_ge {P : Program} (w : World) (dT sT ty elem : TypeId) (g dCap : Nat) (s : ByteArray) (cur : Array Value) (t : TypeId)
    (hu : P.underlying dT = some (.slice elem)) (hs : (P.info? elem).map (·.size) = some 1) (hg : w.heap[g]? = some (.cells cur t (0, 0))) (hle : cur.size ≤ s.size) :
    (Builtin.copy_ #[dT, sT] ty #[.slice (some ⟨g, 0, none⟩) cur.size dCap, .string s]).run P w =
      .ok (goInt cur.size) (w.setRow g (wd (s.data.toList.take cur.size))) := by
  have hlen : (Lib.byteCells (s.data.toList.take cur.size)).length = cur.size := by
    rw [Lib.byteCells_length, List.length_take, ← Lib.size_eq]; omega
  have hst := run_storeCells_at P g 0 t (Lib.byteCells (s.data.toList.take cur.size)) 0 cur w hg (by rw [hlen]; simp) (Lib.byteCells_one _)
  have hmin : Nat.min s.size cur.size = cur.size := Nat.min_eq_right hle
  have htk : List.take cur.size (List.map (fun b : UInt8 => Value.int IntKind.u8 (b.toNat : Int)) s.data.toList) = Lib.byteCells (s.data.toList.take cur.size) := by
    rw [Lib.byteCells, List.map_take]
  rw [hlen] at hst
  have hd : List.drop cur.size cur.toList = [] := List.drop_of_length_le (by simp)
  simp only [Nat.add_zero, Nat.zero_add, List.take_zero, List.nil_append, hd, List.append_nil] at hst
  cases hq : P.info? elem with
  | none => simp [hq] at hs
  | some i =>
    simp [Builtin.copy_, run_underlying hu, Builtin.lenOf, Builtin.firstCells, sizeOf, typeInfo, hq, hmin]
    simp only [← List.map_take] at hst ⊢
    rw [show List.map (fun b : UInt8 => Value.int IntKind.u8 (b.toNat : Int)) (List.take cur.size s.data.toList) = Lib.byteCells (s.data.toList.take cur.size) from rfl, hst]
    simp [Result.andThen, wd]

theorem step_copy_string_ge {P : Program} {ops : Array Oper} {o : Oper} {a : Act} {w : World} {K : Act → World → Prop} {Q : Exit → Act → World → Prop} {E : Prop} (hgd : o.guard = none) (d s : Operand) (dT sT : TypeId)
    (ho : o.op = .call { callee := .builtin .copy, args := #[d, s], argTypes := #[dT, sT] }) (elem : TypeId) (hu : P.underlying dT = some (.slice elem)) (hsz : (P.info? elem).map (·.size) = some 1)
    (g dCap n : Nat) (S : ByteArray) (cur : Array Value) (t : TypeId) (hn : cur.size = n) (hd : a.eval d = .slice (some ⟨g, 0, none⟩) n dCap) (hs : a.eval s = .string S)
    (hg : w.heap[g]? = some (.cells cur t (0, 0))) (hle : n ≤ S.size)
    (h : ∀ w', Hid (w'.heap[g]? = some (.cells (wd (S.data.toList.take n)) t (0, 0))) → Hid (w.grownBy w' (some g)) → K (a.put o.dst (goInt n)) w') :
    if Region.wanted o (yielded ops a.tmps) = true then Oper.wp P o a w K Q else E := by
  subst hn
  have hw : Region.wanted o (yielded ops a.tmps) = true := by simp [Region.wanted, hgd]
  rw [if_pos hw]
  have hrun := run_copy_string_ge (P := P) w dT sT o.type elem g dCap S cur t hu hsz hg hle
  unfold Oper.wp
  simp [execOp, ho, resolve, invoke, builtin, hd, hs, hrun, Result.andThen]
  exact h _ (setRow_heap w g _ _ t _ hg) ⟨rfl, rfl, rfl, by simp [World.setRow], fun k _ hk => setRow_other w g k _ (fun e => hk (by rw [e]))⟩

theorem wd_one (l : List UInt8) : (wd l).all (·.oneCell') = true := by
  rw [Array.all_eq_true_iff_forall_mem]
  intro v hv
  exact Lib.byteCells_one l v (by simpa [wd] using hv)
/-- A STORE OF A WHOLE ARRAY of bytes, by what the row holds then. -/
theorem wpList_store_wd {P : Program} {ops : Array Oper} {rest : List Oper} {o : Oper} {a : Act} {w : World} {Q : Exit → Act → World → Prop} (hgd : o.guard = none) (ty : TypeId) (x y : Operand) (ho : o.op = .store ty x y)
    (g : Nat) (l : List UInt8) (hx : a.eval x = .pointer (some ⟨g, 0, none⟩)) (hy : a.eval y = .agg (wd l))
    (t : TypeId) (old : Array Value) (hg : w.heap[g]? = some (.cells old t (0, 0))) (hi : (P.info? ty).map (·.size) = some l.length) (hold : old.size = l.length)
    (h : ∀ w', Hid (w'.heap[g]? = some (.cells (wd l) t (0, 0))) → Hid (w.grownBy w' (some g)) → wpList P ops Q rest (a.put o.dst undef) w') : wpList P ops Q (o :: rest) a w :=
  wpList_store_row hgd ty x y ho g (wd l) hx hy t old hg (by rw [wd_size]; exact hi) (by rw [wd_size]; exact hold) (wd_one l)
    (h _ (setRow_heap w g _ _ t _ hg) ⟨rfl, rfl, rfl, by simp [World.setRow], fun k _ hk => setRow_other w g k _ (fun e => hk (by rw [e]))⟩)
theorem wpList_load_wd {P : Program} {ops : Array Oper} {rest : List Oper} {o : Oper} {a : Act} {w : World} {Q : Exit → Act → World → Prop} (hgd : o.guard = none) (ty : TypeId) (x : Operand) (ho : o.op = .load ty x)
    (g : Nat) (hx : a.eval x = .pointer (some ⟨g, 0, none⟩)) (t : TypeId) (l : List UInt8) (d : TypeDesc) (hg : w.heap[g]? = some (.cells (wd l) t (0, 0)))
    (hu : P.underlying ty = some d) (hd : (match d with | .struct _ | .array _ _ => true | _ => false) = true) (hi : (P.info? ty).map (·.size) = some l.length)
    (h : wpList P ops Q rest (a.put o.dst (.agg (wd l))) w) : wpList P ops Q (o :: rest) a w :=
  wpList_load_row hgd ty x ho g hx t (wd l) (0, 0) d hg hu hd (by rw [wd_size]; exact hi) h

theorem step_load_wd {P : Program} {ops : Array Oper} {o : Oper} {a : Act} {w : World} {K : Act → World → Prop} {Q : Exit → Act → World → Prop} {E : Prop} (hgd : o.guard = none) (ty : TypeId) (x : Operand) (ho : o.op = .load ty x)
    (g : Nat) (hx : a.eval x = .pointer (some ⟨g, 0, none⟩)) (t : TypeId) (l : List UInt8) (d : TypeDesc) (hg : w.heap[g]? = some (.cells (wd l) t (0, 0)))
    (hu : P.underlying ty = some d) (hd : (match d with | .struct _ | .array _ _ => true | _ => false) = true) (hi : (P.info? ty).map (·.size) = some l.length)
    (h : K (a.put o.dst (.agg (wd l))) w) : if Region.wanted o (yielded ops a.tmps) = true then Oper.wp P o a w K Q else E := by
  have hw : Region.wanted o (yielded ops a.tmps) = true := by simp [Region.wanted, hgd]
  rw [if_pos hw]
  exact wp_load_row ty x ho g hx t (wd l) (0, 0) d hg hu hd (by rw [wd_size]; exact hi) h
/-- the number of k bytes of l from a on, the lowest first; 0 where there is none. -/
def leN (l : List UInt8) : Nat → Nat → Nat
  | _, 0 => 0
  | a, k + 1 => (l[a]?.getD 0).toNat + 256 * leN l (a + 1) k
theorem byte_lt (l : List UInt8) (a : Nat) : (l[a]?.getD 0).toNat < 256 := (l[a]?.getD 0).toNat_lt
theorem leN_lt (l : List UInt8) : ∀ (k a : Nat), leN l a k < 256 ^ k
  | 0, _ => by simp [leN]
  | k + 1, a => by
    have h := leN_lt l k (a + 1)
    have h2 := byte_lt l a
    simp only [leN, Nat.pow_succ]
    omega
theorem leN_lt7 (l : List UInt8) (k a : Nat) (h : k ≤ 7) : leN l a k < 72057594037927936 :=
  Nat.lt_of_lt_of_le (leN_lt l k a) (Nat.le_trans (Nat.pow_le_pow_right (by decide) h) (by decide))
theorem or_step (n b : Nat) (hn : n < 72057594037927936) (hb : b < 256) : bits .or .u64 (IntKind.u64.wrap ((n : Int) * 256)) (b : Int) = ((b + 256 * n : Nat) : Int) := by
  have h : IntKind.u64.wrap ((n : Int) * 256) = ((n * 256 : Nat) : Int) := by rw [IntKind.wrap_u64]; omega
  rw [h, u64_or_nat (n * 256) b (by omega) (by omega), nat_join 8 (n * 256) b (by omega) (by omega)]
  omega
theorem wrap_byte (l : List UInt8) (a : Nat) : IntKind.u64.wrap ((l[a]?.getD 0).toNat : Int) = ((l[a]?.getD 0).toNat : Int) := by
  have := byte_lt l a
  rw [IntKind.wrap_u64]; omega
theorem number_step (l : List UInt8) (a z k : Nat) (hk : k < z) (hz : z ≤ 8) :
    bits .or .u64 (IntKind.u64.wrap ((leN l (a + z - k) k : Int) * 256)) (IntKind.u64.wrap ((l[a + z - 1 - k]?.getD 0).toNat : Int)) = ((leN l (a + z - (k + 1)) (k + 1) : Nat) : Int) := by
  rw [wrap_byte, or_step _ _ (leN_lt7 l k _ (by omega)) (byte_lt l _)]
  have e1 : a + z - (k + 1) = a + z - 1 - k := by omega
  have e2 : a + z - 1 - k + 1 = a + z - k := by omega
  rw [e1, leN, e2]
theorem ofInt_mod (n : Int) : BitVec.ofInt 64 (IntKind.i64.wrap n) = BitVec.ofInt 64 n := by
  apply BitVec.eq_of_toInt_eq
  rw [BitVec.toInt_ofInt, BitVec.toInt_ofInt, IntKind.wrap_i64]
  simp only [Int.bmod_def]
  omega
theorem or_step_i (n b : Nat) (hn : n < 72057594037927936) (hb : b < 256) : bits .or .i64 (IntKind.i64.wrap ((n : Int) * 256)) (b : Int) = wrap64 ((b + 256 * n : Nat) : Int) := by
  show IntKind.i64.wrap ((BitVec.ofInt 64 (IntKind.i64.wrap ((n : Int) * 256)) ||| BitVec.ofInt 64 (b : Int)).toNat : Int) = _
  rw [ofInt_mod, show ((n : Int) * 256) = ((n * 256 : Nat) : Int) by omega, BitVec.toNat_or, ofInt_u64 (n * 256) (by omega), ofInt_u64 b (by omega), nat_join 8 (n * 256) b (by omega) (by omega)]
  rw [show n * 256 + b = b + 256 * n by omega]
  simp [wrap64, IntKind.wrap_i64]
theorem wrap64_small (n : Nat) (h : n < 9223372036854775808) : wrap64 (n : Int) = n := by unfold wrap64; omega
theorem get_step (l : List UInt8) (a z k : Nat) (hk : k < z) (hz : z ≤ 8) :
    bits .or .i64 (IntKind.i64.wrap (wrap64 (leN l (a + z - k) k : Int) * 256)) ((l[a + z - 1 - k]?.getD 0).toNat : Int) = wrap64 ((leN l (a + z - (k + 1)) (k + 1) : Nat) : Int) := by
  have h7 := leN_lt7 l k (a + z - k) (by omega)
  rw [wrap64_small _ (by omega), or_step_i _ _ h7 (byte_lt l _)]
  have e1 : a + z - (k + 1) = a + z - 1 - k := by omega
  have e2 : a + z - 1 - k + 1 = a + z - k := by omega
  rw [e1, leN, e2]
theorem wrap64_eq (n : Int) : wrap64 n = IntKind.i64.wrap n := by rw [IntKind.wrap_i64]; unfold wrap64; omega
theorem wrap64_byte' (b : UInt8) : wrap64 (b.toNat : Int) = (b.toNat : Int) := wrap64_small _ (by have := b.toNat_lt; omega)
theorem bytes_get (s : ByteArray) (i : Nat) (h : i < s.size) : s.data.toList[i]?.getD 0 = s[i] := by
  rw [List.getElem?_eq_getElem (by simpa using h)]; rfl
theorem get_round (s : ByteArray) (a z k : Nat) (hk : k < z) (hz : z ≤ 8) (hin : a + (z - 1 - k) < s.size) :
    bits .or .i64 (wrap64 (wrap64 (leN s.data.toList (a + z - k) k : Int) * 256)) (wrap64 (s[a + (z - 1 - k)].toNat : Int)) = wrap64 ((leN s.data.toList (a + z - (k + 1)) (k + 1) : Nat) : Int) := by
  rw [← get_step s.data.toList a z k hk hz, wrap64_byte', ← wrap64_eq, show a + z - 1 - k = a + (z - 1 - k) by omega, bytes_get s _ hin]
theorem get_round_out (s : ByteArray) (a z k : Nat) (hk : k < z) (hz : z ≤ 8) (hin : ¬ a + z - 1 - k < s.size) :
    bits .or .i64 (wrap64 (wrap64 (leN s.data.toList (a + z - k) k : Int) * 256)) 0 = wrap64 ((leN s.data.toList (a + z - (k + 1)) (k + 1) : Nat) : Int) := by
  rw [← get_step s.data.toList a z k hk hz, ← wrap64_eq, List.getElem?_eq_none (by simpa using hin)]
  rfl
theorem wd_cell (w : World) (l : List UInt8) (t : TypeId) (i : Nat) (h : i < l.length) : (w.alloc (.cells (wd l) t)).cell? ⟨w.heap.size, i, none⟩ = some (.int .u8 ((l[i]?.getD 0).toNat : Int)) := by
  rw [cell_of_row _ _ _ (wd l) t (0, 0) (heap_alloc_new w _)]
  simp [wd, Lib.byteCells, h]
end Go.Proofs.YtbijfkpilncclaaGreat

/- Plain facts on words that are written: bytes of a number, a number put into bytes, a block of bytes in memory. No Go text. No condition beyond each theorem's own. -/
namespace Go.Proofs.YtbijfkpilncclaaGreat
open Go.RowKit

/-- the lowest k bytes of a number, the lowest first. -/
def leB (n : Int) : Nat → List UInt8
  | 0 => []
  | k + 1 => UInt8.ofNat (n % 256).toNat :: leB (n / 256) k
theorem leB_length (n : Int) (k : Nat) : (leB n k).length = k := by
  induction k generalizing n with
  | zero => rfl
  | succ k ih => simp [leB, ih]
/-- n without its lowest k bytes. -/
def shr8 (n : Int) : Nat → Int
  | 0 => n
  | k + 1 => shr8 n k / 256
theorem shr8_succ' (n : Int) (k : Nat) : shr8 (n / 256) k = shr8 n k / 256 := by
  induction k with
  | zero => rfl
  | succ k ih => simp [shr8, ih]
theorem leB_snoc (n : Int) (k : Nat) : leB n (k + 1) = leB n k ++ [UInt8.ofNat (shr8 n k % 256).toNat] := by
  induction k generalizing n with
  | zero => rfl
  | succ k ih => rw [leB, ih, leB, List.cons_append, shr8_succ', shr8]
theorem shr8_bd (n : Int) (k : Nat) (h0 : 0 ≤ n) (h1 : n < 18446744073709551616) : 0 ≤ shr8 n k ∧ shr8 n k < 18446744073709551616 := by
  induction k with
  | zero => exact ⟨h0, h1⟩
  | succ k ih => simp only [shr8]; omega
theorem ofNat_toNat_u8 (m : Int) : (((UInt8.ofNat (m % 256).toNat).toNat : Nat) : Int) = m % 256 := by
  rw [UInt8.toNat_ofNat']; omega
/-- l with xs in the place of as many from a on. -/
def putL (l : List UInt8) (a : Nat) (xs : List UInt8) : List UInt8 := l.take a ++ (xs ++ l.drop (a + xs.length))
theorem putL_length (l : List UInt8) (a : Nat) (xs : List UInt8) (h : a + xs.length ≤ l.length) : (putL l a xs).length = l.length := by simp [putL]; omega
theorem putL_nil (l : List UInt8) (a : Nat) : putL l a [] = l := by simp [putL]
theorem putL_snoc (l : List UInt8) (a : Nat) (xs : List UInt8) (b : UInt8) (h : a + xs.length < l.length) : putL l a (xs ++ [b]) = (putL l a xs).set (a + xs.length) b := by
  have e1 : (l.take a).length = a := by simp; omega
  rw [putL, putL, List.set_append, if_neg (by omega), e1, show a + xs.length - a = xs.length by omega, List.set_append, if_neg (by omega), Nat.sub_self, List.drop_eq_getElem_cons h]
  simp [Nat.add_assoc]
theorem wd_set (l : List UInt8) (i : Nat) (b : UInt8) : (wd l).setIfInBounds i (.int .u8 (b.toNat : Int)) = wd (l.set i b) := by
  simp [wd, Lib.byteCells, List.map_set]

theorem heap_set {w : World} {g i : Nat} {cs : Array Value} {t : TypeId} (u : Value) (h : w.heap[g]? = some (.cells cs t (0, 0))) : (w.setCell ⟨g, i, none⟩ u).heap[g]? = some (.cells (cs.setIfInBounds i u) t (0, 0)) := by
  simp [World.setCell, Array.getElem?_modify, h]
theorem frozen_row {w : World} {g : Nat} {cs : Array Value} {t : TypeId} (h : w.heap[g]? = some (.cells cs t (0, 0))) (i : Nat) : w.frozen? ⟨g, i, none⟩ = false := by
  simp [World.frozen?, h]
theorem wd_cell_row {w : World} {g : Nat} {l : List UInt8} {t : TypeId} (h : w.heap[g]? = some (.cells (wd l) t (0, 0))) (i : Nat) (hi : i < l.length) : w.cell? ⟨g, i, none⟩ = some (.int .u8 ((l[i]?.getD 0).toNat : Int)) := by
  rw [cell_of_row _ _ _ (wd l) t (0, 0) h]
  simp [wd, Lib.byteCells, hi]
theorem heap_set_far {w : World} {g p i : Nat} {o : Obj} (u : Value) (hne : p ≠ g) (h : w.heap[p]? = some o) : (w.setCell ⟨g, i, none⟩ u).heap[p]? = some o :=
  (Below.heap_setCell w ⟨g, i, none⟩ u p hne).trans h
theorem put_step {wr : World} {g : Nat} {t : TypeId} (l : List UInt8) (a : Nat) (n : Int) (k : Nat) (hk : a + k < l.length) (h : wr.heap[g]? = some (.cells (wd (putL l a (leB n k))) t (0, 0))) :
    (wr.setCell ⟨g, a + k, none⟩ (.int .u8 (shr8 n k % 256))).heap[g]? = some (.cells (wd (putL l a (leB n (k + 1)))) t (0, 0)) := by
  rw [heap_set _ h, leB_snoc, putL_snoc _ _ _ _ (by rw [leB_length]; exact hk), leB_length, ← wd_set, ofNat_toNat_u8]
theorem heap_lt {w : World} {g : Nat} {o : Obj} (h : w.heap[g]? = some o) : g < w.heap.size := by
  rcases Nat.lt_or_ge g w.heap.size with hlt | hge
  · exact hlt
  · rw [Array.getElem?_eq_none hge] at h; cases h
theorem heap_alloc_keep {w : World} {g : Nat} {o : Obj} (h : w.heap[g]? = some o) (x : Obj) : (w.alloc x).heap[g]? = some o := (Below.heap_alloc w x g (heap_lt h)).trans h
theorem add_head (g j : Nat) : (⟨g, 0, none⟩ : Addr).add j = ⟨g, j, none⟩ := by unfold Addr.add; split <;> simp_all
theorem convert_wd {P : Program} (w : World) (src dst e : TypeId) (g cap n : Nat) (l : List UInt8) (hn : l.length = n) (hs : P.underlying src = some (.slice e)) (he : P.underlying e = some (.int .u8)) (hd : P.underlying dst = some .string)
    {t : TypeId} {fr : Nat × Nat} {cs : Array Value} (hg : w.heap[g]? = some (.cells cs t fr)) (hc : cs.toList.take n = Lib.byteCells l) :
    (convert src dst (.slice (some ⟨g, 0, none⟩) n cap)).run P w = .ok (.string ⟨l.toArray⟩) w := by
  subst hn
  refine run_convert_bytes_back w src dst e ⟨g, 0, none⟩ cap l hs he hd fun j hj => ?_
  rw [add_head, cell_of_row _ _ _ cs t fr hg]
  have h := congrArg (fun x : List Value => x[j]?) hc
  simp only [List.getElem?_take_of_lt hj, Array.getElem?_toList] at h
  rw [h]
  simp [Lib.byteCells, hj]
theorem convert_nil {P : Program} (w : World) (src dst e : TypeId) (hs : P.underlying src = some (.slice e)) (he : P.underlying e = some (.int .u8)) (hd : P.underlying dst = some .string) :
    (convert src dst (.slice none 0 0)).run P w = .ok (.string ⟨#[]⟩) w := by
  rw [run_convert_bytes_string w src dst e none 0 0 hs he hd]
  rfl
/-- string(b) of bytes that the call itself has made. -/
theorem convert_own {P : Program} (w : World) (src dst e : TypeId) (base n : Nat) (l : List UInt8) (v : Value) (hn : l.length = n) (hs : P.underlying src = some (.slice e)) (he : P.underlying e = some (.int .u8)) (hd : P.underlying dst = some .string)
    (hown : w.ownsRow base e 1 v n (Lib.byteCells l)) : (convert src dst v).run P w = .ok (.string ⟨l.toArray⟩) w := by
  rcases hown.2 with ⟨rfl, rfl⟩ | ⟨g, cap, cur, rfl, _, hg, _, _, _, htk⟩
  · obtain rfl : l = [] := List.eq_nil_of_length_eq_zero hn
    exact convert_nil w src dst e hs he hd
  · exact convert_wd w src dst e g cap n l hn hs he hd hg (by simpa using htk)
theorem byteCells_snoc' (l : List UInt8) (b : UInt8) : Lib.byteCells l ++ [Value.int .u8 (b.toNat : Int)] = Lib.byteCells (l ++ [b]) := by simp [Lib.byteCells]
/-- an append of one element onto a row of the call's own: what lay below stays. -/
theorem below_append {B : Nat} {w0 w w1 : World} {x : Obj} {e : TypeId} {size n : Nat} {v : Value} {xs : List Value} (hb : Below B w0 w) (hB : B ≤ w.heap.size) (hown : w.ownsRow B e size v n xs) (hg : (w.alloc x).grownBy w1 v.ownBlock) : Below B w0 w1 :=
  (hb.alloc hB x).grown hg (by simp; omega) (fun k hk => (hown.lt k hk).1)
theorem ofInt_i64' (a : Nat) (ha : a < 9223372036854775808) : (BitVec.ofInt 64 (a : Int)).toNat = a := ofInt_u64 a (by omega)
theorem and_i64 (a b : Nat) (ha : a < 9223372036854775808) (hb : b < 9223372036854775808) : bits .and .i64 (a : Int) (b : Int) = ((a &&& b : Nat) : Int) := by
  have hx : a &&& b < 2 ^ 63 := Nat.and_lt_two_pow _ (by omega)
  show IntKind.i64.wrap ((BitVec.ofInt 64 (a : Int) &&& BitVec.ofInt 64 (b : Int)).toNat : Int) = _
  rw [BitVec.toNat_and, ofInt_i64' a ha, ofInt_i64' b hb, IntKind.wrap_i64]
  omega
theorem div_cast (b r : Nat) : (b : Int) / 2 ^ r = ((b / 2 ^ r : Nat) : Int) := by
  rw [Int.natCast_ediv, Int.natCast_pow]; rfl
theorem bit_u8 (b r : Nat) (hb : b < 256) : wrap64 (bits .and .u8 ((b : Int) / 2 ^ r) 1) = ((b / 2 ^ r % 2 : Nat) : Int) := by
  have h := Nat.div_le_self b (2 ^ r)
  rw [div_cast, show (1 : Int) = ((1 : Nat) : Int) from rfl, u8_and_nat _ _ (by omega) (by omega), nat_mask1, wrap64_small _ (by omega)]
theorem bit_i64 (b r : Nat) (hb : b < 256) : bits .and .i64 (wrap64 (b : Int) / 2 ^ r) 1 = ((b / 2 ^ r % 2 : Nat) : Int) := by
  have h := Nat.div_le_self b (2 ^ r)
  rw [wrap64_small _ (by omega), div_cast, show (1 : Int) = ((1 : Nat) : Int) from rfl, and_i64 _ _ (by omega) (by omega), nat_mask1]
theorem step_append_own {P : Program} {ops : Array Oper} {o : Oper} {a : Act} {w : World} {K : Act → World → Prop} {Q : Exit → Act → World → Prop} {E : Prop} (hgd : o.guard = none) (s x : Operand) (t : TypeId)
    (ho : o.op = .call { callee := .builtin .append, args := #[s, x], argTypes := #[t, t] })
    (base : Nat) (e : TypeId) (i : TypeInfo) (z : Value) (size bytes : Nat) (ht : P.underlying t = some (.slice e)) (hi : P.info? e = some i) (hz : i.zero = some z)
    (hsize : i.size = size) (hby : i.bytes = bytes) (hzs : z.cells.size = size) (hsz : 0 < size)
    (v : Value) (n : Nat) (xs : List Value) (hs : a.eval s = v) (hown : w.ownsRow base e size v n xs)
    (ad : Addr) (m c : Nat) (news : List Value) (hx : a.eval x = .slice (some ad) m c) (hl : news.length = m * size) (hnews : ∀ j u, news[j]? = some u → w.cell? (ad.add j) = some u) (h1 : ∀ u ∈ news, u.oneCell' = true)
    (h63 : n + m ≤ maxLen) (hbytes : (n + m) * bytes ≤ 140737488355328) (hbase : base ≤ w.heap.size)
    (h : ∀ v' w', Hid (w'.ownsRow base e size v' (n + m) (xs ++ news)) → Hid (w.grownBy w' v.ownBlock) → K (a.put o.dst v') w') : if Region.wanted o (yielded ops a.tmps) = true then Oper.wp P o a w K Q else E := by
  have hw : Region.wanted o (yielded ops a.tmps) = true := by simp [Region.wanted, hgd]
  rw [if_pos hw]
  exact wp_append_own w s x t ho base e i z size bytes ht hi hz hsize hby hzs hsz v n xs hs hown ad m c news hx hl hnews h1 h63 hbytes hbase fun v' w' h2 h3 _ => h v' w' h2 h3
theorem cell_two_new' (w : World) (x y : Value) (t : TypeId) : ∀ j u, [x, y][j]? = some u → (w.alloc (.cells #[x, y] t)).cell? ((⟨w.heap.size, 0, none⟩ : Addr).add j) = some u := by
  intro j u hj
  rw [add_head, cell_of_row _ _ _ _ _ (0, 0) (heap_alloc_new w _)]
  match j, hj with
  | 0, hj => simpa using hj
  | 1, hj => simpa using hj
theorem ext_ba {a b : ByteArray} (h : a.data.toList = b.data.toList) : a = b := by
  cases a; cases b; simp at h; simp [h]
end Go.Proofs.YtbijfkpilncclaaGreat
