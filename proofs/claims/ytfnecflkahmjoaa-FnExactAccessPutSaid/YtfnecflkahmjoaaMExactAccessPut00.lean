/- Texts of the proof of the law FnExactAccessPut, side by side: part 0. -/
import Derived.Test.YtfnecflkahmjoaaProg
import Derived.WalkKit
import Derived.WalkSpells
import Derived.WalkLawsBesides
import Derived.Lib.Hide
import Derived.Lib.BufferWrite
import Derived.Deep.RegionLaw
import Derived.Laws.BitsAllLaws
import Derived.Lib.ConvBytes
import Derived.Deep.QuietTactic
import Derived.BigQuiet
import Derived.Deep.OwnRows
set_option maxHeartbeats 8000000
set_option maxRecDepth 100000
namespace Go.Proofs.Ytfnecflkahmjoaa
open Go.RowKit
theorem ret_bool {a b : Bool} (h : a = b) : Ending.returned (.bool a) = .returned (.bool b) := by rw [h]
theorem ret_int {k : IntKind} {a b : Int} (h : a = b) : Ending.returned (.int k a) = .returned (.int k b) := by rw [h]
theorem wf_bd {n : Int} (h : (Lit.int .i64 n).wf = true) : -9223372036854775808 ≤ n ∧ n ≤ 9223372036854775807 := by
 simp [Lit.wf, IntKind.min, IntKind.max, IntKind.bits, IntKind.signed] at h
 omega
def inB (n a b : Int) : Bool := decide (a ≤ n ∧ n ≤ b)
theorem l1In_any (n a b : Int) (w : World) :
 Calls Try.prog 33 #[.int .i64 n, .int .i64 a, .int .i64 b] w fun e w' => e = .returned (.bool (inB n a b)) ∧ w = w' := by
 by_cases h1 : a ≤ n
 all_goals
  go_enter Try.func33, Try.ntmps33
  go_wp2
  all_goals go_ret
  all_goals refine ⟨ret_bool ?_, rfl⟩
  all_goals (simp [inB]; try omega)
def wd (l : List UInt8) : Array Value := (Lib.byteCells l).toArray
theorem wd_size (l : List UInt8) : (wd l).size = l.length := by simp [wd, Lib.byteCells_length]
theorem len8 {l : List UInt8} (h : l.length = 8) : ∃ a b c d e f g i, l = [a, b, c, d, e, f, g, i] := by
 match l, h with
 | [a, b, c, d, e, f, g, i], _ => exact ⟨a, b, c, d, e, f, g, i, rfl⟩
theorem wd8 (a b c d e f g i : UInt8) : wd [a, b, c, d, e, f, g, i] = #[.int .u8 a.toNat, .int .u8 b.toNat, .int .u8 c.toNat, .int .u8 d.toNat, .int .u8 e.toNat, .int .u8 f.toNat, .int .u8 g.toNat, .int .u8 i.toNat] := rfl
theorem run_copy_string_ge {P : Program} (w : World) (dT sT ty elem : TypeId) (g dCap : Nat) (s : ByteArray) (cur : Array Value) (t : TypeId)
 (hu : P.underlying dT = some (.slice elem)) (hs : (P.info? elem).map (·.size) = some 1) (hg : w.heap[g]? = some (.cells cur t (0, 0))) (hle : cur.size ≤ s.size) :
 (Builtin.copy_ #[dT, sT] ty #[.slice (some ⟨g, 0, none⟩) cur.size dCap, .string s]).run P w =
  .ok (goInt cur.size) (w.setRow g (wd (s.data.toList.take cur.size))) := by
 have hlen : (Lib.byteCells (s.data.toList.take cur.size)).length = cur.size := by
  rw [Lib.byteCells_length, List.length_take, ← Lib.size_eq]; omega
 have hst := run_storeCells_at P g 0 t (Lib.byteCells (s.data.toList.take cur.size)) 0 cur w hg (by rw [hlen]; simp) (Lib.byteCells_one _)
 have hmin : Nat.min s.size cur.size = cur.size := Nat.min_eq_right hle
 have htk : List.take cur.size (List.map (fun b : UInt8 => Value.int IntKind.u8 (b.toNat : Int)) s.data.toList) = Lib.byteCells (s.data.toList.take cur.size) := by
  rw [Lib.byteCells, List.map_take]
 rw [hlen] at hst
 have hd : List.drop cur.size cur.toList = [] := List.drop_of_length_le (by simp)
 simp only [Nat.add_zero, Nat.zero_add, List.take_zero, List.nil_append, hd, List.append_nil] at hst
 cases hq : P.info? elem with
 | none => simp [hq] at hs
 | some i =>
  simp [Builtin.copy_, run_underlying hu, Builtin.lenOf, Builtin.firstCells, sizeOf, typeInfo, hq, hmin]
  simp only [← List.map_take] at hst ⊢
  rw [show List.map (fun b : UInt8 => Value.int IntKind.u8 (b.toNat : Int)) (List.take cur.size s.data.toList) = Lib.byteCells (s.data.toList.take cur.size) from rfl, hst]
  simp [Result.andThen, wd]
theorem step_copy_string_ge {P : Program} {ops : Array Oper} {o : Oper} {a : Act} {w : World} {K : Act → World → Prop} {Q : Exit → Act → World → Prop} {E : Prop} (hgd : o.guard = none) (d s : Operand) (dT sT : TypeId)
 (ho : o.op = .call { callee := .builtin .copy, args := #[d, s], argTypes := #[dT, sT] }) (elem : TypeId) (hu : P.underlying dT = some (.slice elem)) (hsz : (P.info? elem).map (·.size) = some 1)
 (g dCap n : Nat) (S : ByteArray) (cur : Array Value) (t : TypeId) (hn : cur.size = n) (hd : a.eval d = .slice (some ⟨g, 0, none⟩) n dCap) (hs : a.eval s = .string S)
 (hg : w.heap[g]? = some (.cells cur t (0, 0))) (hle : n ≤ S.size)
 (h : ∀ w', Hid (w'.heap[g]? = some (.cells (wd (S.data.toList.take n)) t (0, 0))) → Hid (w.grownBy w' (some g)) → K (a.put o.dst (goInt n)) w') :
 if Region.wanted o (yielded ops a.tmps) = true then Oper.wp P o a w K Q else E := by
 subst hn
 have hw : Region.wanted o (yielded ops a.tmps) = true := by simp [Region.wanted, hgd]
 rw [if_pos hw]
 have hrun := run_copy_string_ge (P := P) w dT sT o.type elem g dCap S cur t hu hsz hg hle
 unfold Oper.wp
 simp [execOp, ho, resolve, invoke, builtin, hd, hs, hrun, Result.andThen]
 exact h _ (setRow_heap w g _ _ t _ hg) ⟨rfl, rfl, rfl, by simp [World.setRow], fun k _ hk => setRow_other w g k _ (fun e => hk (by rw [e]))⟩
theorem wd_one (l : List UInt8) : (wd l).all (·.oneCell') = true := by
 rw [Array.all_eq_true_iff_forall_mem]
 intro v hv
 exact Lib.byteCells_one l v (by simpa [wd] using hv)
theorem wpList_store_wd {P : Program} {ops : Array Oper} {rest : List Oper} {o : Oper} {a : Act} {w : World} {Q : Exit → Act → World → Prop} (hgd : o.guard = none) (ty : TypeId) (x y : Operand) (ho : o.op = .store ty x y)
 (g : Nat) (l : List UInt8) (hx : a.eval x = .pointer (some ⟨g, 0, none⟩)) (hy : a.eval y = .agg (wd l))
 (t : TypeId) (old : Array Value) (hg : w.heap[g]? = some (.cells old t (0, 0))) (hi : (P.info? ty).map (·.size) = some l.length) (hold : old.size = l.length)
 (h : ∀ w', Hid (w'.heap[g]? = some (.cells (wd l) t (0, 0))) → Hid (w.grownBy w' (some g)) → wpList P ops Q rest (a.put o.dst undef) w') : wpList P ops Q (o :: rest) a w :=
 wpList_store_row hgd ty x y ho g (wd l) hx hy t old hg (by rw [wd_size]; exact hi) (by rw [wd_size]; exact hold) (wd_one l)
  (h _ (setRow_heap w g _ _ t _ hg) ⟨rfl, rfl, rfl, by simp [World.setRow], fun k _ hk => setRow_other w g k _ (fun e => hk (by rw [e]))⟩)
theorem wpList_load_wd {P : Program} {ops : Array Oper} {rest : List Oper} {o : Oper} {a : Act} {w : World} {Q : Exit → Act → World → Prop} (hgd : o.guard = none) (ty : TypeId) (x : Operand) (ho : o.op = .load ty x)
 (g : Nat) (hx : a.eval x = .pointer (some ⟨g, 0, none⟩)) (t : TypeId) (l : List UInt8) (d : TypeDesc) (hg : w.heap[g]? = some (.cells (wd l) t (0, 0)))
 (hu : P.underlying ty = some d) (hd : (match d with | .struct _ | .array _ _ => true | _ => false) = true) (hi : (P.info? ty).map (·.size) = some l.length)
 (h : wpList P ops Q rest (a.put o.dst (.agg (wd l))) w) : wpList P ops Q (o :: rest) a w :=
 wpList_load_row hgd ty x ho g hx t (wd l) (0, 0) d hg hu hd (by rw [wd_size]; exact hi) h
theorem wrap64_small (n : Nat) (h : n < 9223372036854775808) : wrap64 (n : Int) = n := by unfold wrap64; omega
theorem wd_cell (w : World) (l : List UInt8) (t : TypeId) (i : Nat) (h : i < l.length) : (w.alloc (.cells (wd l) t)).cell? ⟨w.heap.size, i, none⟩ = some (.int .u8 ((l[i]?.getD 0).toNat : Int)) := by
 rw [cell_of_row _ _ _ (wd l) t (0, 0) (heap_alloc_new w _)]
 simp [wd, Lib.byteCells, h]
def leB (n : Int) : Nat → List UInt8
 | 0 => []
 | k + 1 => UInt8.ofNat (n % 256).toNat :: leB (n / 256) k
theorem leB_length (n : Int) (k : Nat) : (leB n k).length = k := by
 induction k generalizing n with
 | zero => rfl
 | succ k ih => simp [leB, ih]
def shr8 (n : Int) : Nat → Int
 | 0 => n
 | k + 1 => shr8 n k / 256
theorem shr8_succ' (n : Int) (k : Nat) : shr8 (n / 256) k = shr8 n k / 256 := by
 induction k with
 | zero => rfl
 | succ k ih => simp [shr8, ih]
theorem leB_snoc (n : Int) (k : Nat) : leB n (k + 1) = leB n k ++ [UInt8.ofNat (shr8 n k % 256).toNat] := by
 induction k generalizing n with
 | zero => rfl
 | succ k ih => rw [leB, ih, leB, List.cons_append, shr8_succ', shr8]
theorem shr8_bd (n : Int) (k : Nat) (h0 : 0 ≤ n) (h1 : n < 18446744073709551616) : 0 ≤ shr8 n k ∧ shr8 n k < 18446744073709551616 := by
 induction k with
 | zero => exact ⟨h0, h1⟩
 | succ k ih => simp only [shr8]; omega
theorem ofNat_toNat_u8 (m : Int) : (((UInt8.ofNat (m % 256).toNat).toNat : Nat) : Int) = m % 256 := by
 rw [UInt8.toNat_ofNat']; omega
def putL (l : List UInt8) (a : Nat) (xs : List UInt8) : List UInt8 := l.take a ++ (xs ++ l.drop (a + xs.length))
theorem putL_length (l : List UInt8) (a : Nat) (xs : List UInt8) (h : a + xs.length ≤ l.length) : (putL l a xs).length = l.length := by simp [putL]; omega
theorem putL_nil (l : List UInt8) (a : Nat) : putL l a [] = l := by simp [putL]
theorem putL_snoc (l : List UInt8) (a : Nat) (xs : List UInt8) (b : UInt8) (h : a + xs.length < l.length) : putL l a (xs ++ [b]) = (putL l a xs).set (a + xs.length) b := by
 have e1 : (l.take a).length = a := by simp; omega
 rw [putL, putL, List.set_append, if_neg (by omega), e1, show a + xs.length - a = xs.length by omega, List.set_append, if_neg (by omega), Nat.sub_self, List.drop_eq_getElem_cons h]
 simp [Nat.add_assoc]
theorem wd_set (l : List UInt8) (i : Nat) (b : UInt8) : (wd l).setIfInBounds i (.int .u8 (b.toNat : Int)) = wd (l.set i b) := by
 simp [wd, Lib.byteCells, List.map_set]
theorem heap_set {w : World} {g i : Nat} {cs : Array Value} {t : TypeId} (u : Value) (h : w.heap[g]? = some (.cells cs t (0, 0))) : (w.setCell ⟨g, i, none⟩ u).heap[g]? = some (.cells (cs.setIfInBounds i u) t (0, 0)) := by
 simp [World.setCell, Array.getElem?_modify, h]
theorem frozen_row {w : World} {g : Nat} {cs : Array Value} {t : TypeId} (h : w.heap[g]? = some (.cells cs t (0, 0))) (i : Nat) : w.frozen? ⟨g, i, none⟩ = false := by
 simp [World.frozen?, h]
theorem wd_cell_row {w : World} {g : Nat} {l : List UInt8} {t : TypeId} (h : w.heap[g]? = some (.cells (wd l) t (0, 0))) (i : Nat) (hi : i < l.length) : w.cell? ⟨g, i, none⟩ = some (.int .u8 ((l[i]?.getD 0).toNat : Int)) := by
 rw [cell_of_row _ _ _ (wd l) t (0, 0) h]
 simp [wd, Lib.byteCells, hi]
theorem heap_set_far {w : World} {g p i : Nat} {o : Obj} (u : Value) (hne : p ≠ g) (h : w.heap[p]? = some o) : (w.setCell ⟨g, i, none⟩ u).heap[p]? = some o :=
 (Below.heap_setCell w ⟨g, i, none⟩ u p hne).trans h
theorem put_step {wr : World} {g : Nat} {t : TypeId} (l : List UInt8) (a : Nat) (n : Int) (k : Nat) (hk : a + k < l.length) (h : wr.heap[g]? = some (.cells (wd (putL l a (leB n k))) t (0, 0))) :
 (wr.setCell ⟨g, a + k, none⟩ (.int .u8 (shr8 n k % 256))).heap[g]? = some (.cells (wd (putL l a (leB n (k + 1)))) t (0, 0)) := by
 rw [heap_set _ h, leB_snoc, putL_snoc _ _ _ _ (by rw [leB_length]; exact hk), leB_length, ← wd_set, ofNat_toNat_u8]
theorem heap_lt {w : World} {g : Nat} {o : Obj} (h : w.heap[g]? = some o) : g < w.heap.size := by
 rcases Nat.lt_or_ge g w.heap.size with hlt | hge
 · exact hlt
 · rw [Array.getElem?_eq_none hge] at h; cases h
theorem heap_alloc_keep {w : World} {g : Nat} {o : Obj} (h : w.heap[g]? = some o) (x : Obj) : (w.alloc x).heap[g]? = some o := (Below.heap_alloc w x g (heap_lt h)).trans h
theorem add_head (g j : Nat) : (⟨g, 0, none⟩ : Addr).add j = ⟨g, j, none⟩ := by unfold Addr.add; split <;> simp_all
theorem convert_wd {P : Program} (w : World) (src dst e : TypeId) (g cap n : Nat) (l : List UInt8) (hn : l.length = n) (hs : P.underlying src = some (.slice e)) (he : P.underlying e = some (.int .u8)) (hd : P.underlying dst = some .string)
 {t : TypeId} {fr : Nat × Nat} {cs : Array Value} (hg : w.heap[g]? = some (.cells cs t fr)) (hc : cs.toList.take n = Lib.byteCells l) :
 (convert src dst (.slice (some ⟨g, 0, none⟩) n cap)).run P w = .ok (.string ⟨l.toArray⟩) w := by
 subst hn
 refine run_convert_bytes_back w src dst e ⟨g, 0, none⟩ cap l hs he hd fun j hj => ?_
 rw [add_head, cell_of_row _ _ _ cs t fr hg]
 have h := congrArg (fun x : List Value => x[j]?) hc
 simp only [List.getElem?_take_of_lt hj, Array.getElem?_toList] at h
 rw [h]
 simp [Lib.byteCells, hj]
theorem convert_nil {P : Program} (w : World) (src dst e : TypeId) (hs : P.underlying src = some (.slice e)) (he : P.underlying e = some (.int .u8)) (hd : P.underlying dst = some .string) :
 (convert src dst (.slice none 0 0)).run P w = .ok (.string ⟨#[]⟩) w := by
 rw [run_convert_bytes_string w src dst e none 0 0 hs he hd]
 rfl
theorem convert_own {P : Program} (w : World) (src dst e : TypeId) (base n : Nat) (l : List UInt8) (v : Value) (hn : l.length = n) (hs : P.underlying src = some (.slice e)) (he : P.underlying e = some (.int .u8)) (hd : P.underlying dst = some .string)
 (hown : w.ownsRow base e 1 v n (Lib.byteCells l)) : (convert src dst v).run P w = .ok (.string ⟨l.toArray⟩) w := by
 rcases hown.2 with ⟨rfl, rfl⟩ | ⟨g, cap, cur, rfl, _, hg, _, _, _, htk⟩
 · obtain rfl : l = [] := List.eq_nil_of_length_eq_zero hn
   exact convert_nil w src dst e hs he hd
 · exact convert_wd w src dst e g cap n l hn hs he hd hg (by simpa using htk)
theorem byteCells_snoc' (l : List UInt8) (b : UInt8) : Lib.byteCells l ++ [Value.int .u8 (b.toNat : Int)] = Lib.byteCells (l ++ [b]) := by simp [Lib.byteCells]
theorem below_append {B : Nat} {w0 w w1 : World} {x : Obj} {e : TypeId} {size n : Nat} {v : Value} {xs : List Value} (hb : Below B w0 w) (hB : B ≤ w.heap.size) (hown : w.ownsRow B e size v n xs) (hg : (w.alloc x).grownBy w1 v.ownBlock) : Below B w0 w1 :=
 (hb.alloc hB x).grown hg (by simp; omega) (fun k hk => (hown.lt k hk).1)
theorem ext_ba {a b : ByteArray} (h : a.data.toList = b.data.toList) : a = b := by
 cases a; cases b; simp at h; simp [h]
def SRow (w : World) (g : Nat) (e : TypeId) (cs : Array Value) : Prop := w.heap[g]? = some (.cells cs e (cs.size, cs.size + 1))
theorem SRow.cell {w : World} {g : Nat} {e : TypeId} {cs : Array Value} (h : SRow w g e cs) (i : Nat) : w.cell? ⟨g, i, none⟩ = cs[i]? := cell_of_row w g i cs e _ h
theorem SRow.frozen {w : World} {g : Nat} {e : TypeId} {cs : Array Value} (h : SRow w g e cs) (i : Nat) (hi : i < cs.size) : w.frozen? ⟨g, i, none⟩ = false := by
 unfold SRow at h
 simp [World.frozen?, h]
 omega
theorem SRow.set {w : World} {g : Nat} {e : TypeId} {cs : Array Value} (h : SRow w g e cs) (i : Nat) (u : Value) : SRow (w.setCell ⟨g, i, none⟩ u) g e (cs.setIfInBounds i u) := by
 unfold SRow at h ⊢
 simp [World.setCell, Array.getElem?_modify, h]
theorem bytesCells_take (w : World) (e : TypeId) (s : ByteArray) : (Lib.bytesCells w e s).toList.take s.size = Lib.byteCells s.data.toList := by
 have hs : s.data.size = s.size := rfl
 rw [Lib.bytesCells, Array.toList_append, List.take_append_of_le_length (by simp [hs]), List.take_of_length_le (by simp [hs])]
 simp [Lib.byteCells]
theorem below_bytesWorld (w : World) (e : TypeId) (s : ByteArray) : Below w.heap.size w (Lib.bytesWorld w e s) :=
 ⟨rfl, rfl, rfl, by rw [Lib.bytesWorld_size]; omega, fun k hk => Lib.bytesWorld_at_old w e s k hk⟩
theorem take_set (l : List Value) (n i : Nat) (v : Value) (h : i < n) : (l.set i v).take n = (l.take n).set i v := by
 apply List.ext_getElem?
 intro j
 by_cases hj : j < n
 · rw [List.getElem?_take_of_lt hj, List.getElem?_set, List.getElem?_set, List.getElem?_take_of_lt hj, List.length_take]
   by_cases hij : i = j
   · subst hij
     by_cases hl : i < l.length
     · simp [hl, show i < min n l.length by omega]
     · simp [hl, show ¬ i < min n l.length by omega]
   · simp [hij]
 · rw [List.getElem?_eq_none (by simp; omega), List.getElem?_eq_none (by simp; omega)]
theorem byteCells_set (l : List UInt8) (i : Nat) (b : UInt8) : (Lib.byteCells l).set i (.int .u8 (b.toNat : Int)) = Lib.byteCells (l.set i b) := by simp [Lib.byteCells, List.map_set]
theorem srow_size {w : World} {g i : Nat} {e : TypeId} {cs : Array Value} {s : ByteArray} (_h : SRow w g e cs) (ht : cs.toList.take s.size = Lib.byteCells s.data.toList) (hi : i < s.size) : i < cs.size := by
 have h := congrArg List.length ht
 rw [List.length_take, Lib.byteCells_length] at h
 simp at h
 omega
theorem srow_cell {w : World} {g i : Nat} {e : TypeId} {cs : Array Value} {s : ByteArray} (h : SRow w g e cs) (ht : cs.toList.take s.size = Lib.byteCells s.data.toList) (hi : i < s.size) : w.cell? ⟨g, i, none⟩ = some (.int .u8 ((s.data.toList[i]?.getD 0).toNat : Int)) := by
 rw [h.cell]
 have h := congrArg (fun x : List Value => x[i]?) ht
 simp only [List.getElem?_take_of_lt hi, Array.getElem?_toList] at h
 rw [h]
 simp [Lib.byteCells, hi]
theorem wpList_convert_bytes {P : Program} {w : World} {ops : Array Oper} {rest : List Oper} {o : Oper} {a : Act} {Q : Exit → Act → World → Prop} (hgd : o.guard = none) (src dst e : TypeId) (x : Operand) (ho : o.op = .convert src dst x) (s : ByteArray)
 (hx : a.eval x = .string s) {u : TypeDesc} (hs : P.underlying src = some u) (hd : P.underlying dst = some (.slice e)) (he : P.underlying e = some (.int .u8))
 (h : ∀ c w' cs, Hid (SRow w' w.heap.size e cs) → Hid (cs.toList.take s.size = Lib.byteCells s.data.toList) → Hid (Below w.heap.size w w') → Hid (w'.heap.size = w.heap.size + 1) → wpList P ops Q rest (a.put o.dst (.slice (some ⟨w.heap.size, 0, none⟩) s.size c)) w') :
 wpList P ops Q (o :: rest) a w := by
 refine wpList_plain hgd fun _ hK => ?_
 have hr := Lib.run_convert_string_bytes (P := P) w src dst e s hs hd he
 unfold Oper.wp execOp
 simp only [ho, hx, Sem.run_bind, hr, Result.andThen_ok, Sem.run_pure]
 exact hK _ _ (h _ _ _ (Lib.bytesWorld_at_new w e s) (bytesCells_take w e s) (below_bytesWorld w e s) (Lib.bytesWorld_size w e s))
def newB (b : UInt8) (r bit : Nat) : UInt8 := UInt8.ofNat ((b.toNat &&& (255 - 2 ^ r)) ||| (bit * 2 ^ r))
def setBit (l : List UInt8) (i bit : Nat) : List UInt8 := l.set (i / 8) (newB (l[i / 8]?.getD 0) (i % 8) bit)
theorem sub_lt256 (r : Nat) : 255 - 2 ^ r < 256 := Nat.lt_of_le_of_lt (Nat.sub_le _ _) (by decide)
theorem pow_lt256 (r : Nat) (hr : r < 8) : 2 ^ r ≤ 128 := Nat.pow_le_pow_right (by decide) (show r ≤ 7 by omega)
theorem newB_toNat (b : UInt8) (r bit : Nat) (hr : r < 8) (hb : bit ≤ 1) : (newB b r bit).toNat = ((b.toNat &&& (255 - 2 ^ r)) ||| (bit * 2 ^ r)) := by
 have h := pow_lt256 r hr
 have h1 : b.toNat &&& (255 - 2 ^ r) < 2 ^ 8 := Nat.and_lt_two_pow _ (sub_lt256 r)
 have h2 : bit * 2 ^ r < 2 ^ 8 := by
  have : bit = 0 ∨ bit = 1 := by omega
  rcases this with rfl | rfl
  · simp
  · rw [Nat.one_mul]; exact Nat.lt_of_le_of_lt h (by decide)
 have h3 := Nat.or_lt_two_pow h1 h2
 rw [newB, UInt8.toNat_ofNat', Nat.mod_eq_of_lt h3]
theorem pow_mod (r : Nat) (hr : r < 8) : (2 : Int) ^ r % 256 = ((2 ^ r : Nat) : Int) := by
 have h := pow_lt256 r hr
 rw [show (2 : Int) ^ r = ((2 ^ r : Nat) : Int) by rw [Int.natCast_pow]; rfl]
 generalize 2 ^ r = m at h ⊢
 omega
theorem newB_0 (b : UInt8) (r : Nat) (hr : r < 8) : bits .or .u8 (bits .andNot .u8 (b.toNat : Int) ((2 : Int) ^ r % 256)) 0 = ((newB b r 0).toNat : Int) := by
 have h := pow_lt256 r hr
 have h1 : b.toNat &&& (255 - 2 ^ r) < 2 ^ 8 := Nat.and_lt_two_pow _ (sub_lt256 r)
 rw [pow_mod r hr, u8_andNot_nat _ _ b.toNat_lt (Nat.lt_of_le_of_lt h (by decide)), show (0 : Int) = ((0 : Nat) : Int) from rfl, u8_or_nat _ _ h1 (by decide), newB_toNat b r 0 hr (by omega)]
 simp
theorem newB_1 (b : UInt8) (r : Nat) (hr : r < 8) : bits .or .u8 (bits .andNot .u8 (b.toNat : Int) ((2 : Int) ^ r % 256)) ((2 : Int) ^ r % 256) = ((newB b r 1).toNat : Int) := by
 have h := pow_lt256 r hr
 have h1 : b.toNat &&& (255 - 2 ^ r) < 2 ^ 8 := Nat.and_lt_two_pow _ (sub_lt256 r)
 rw [pow_mod r hr, u8_andNot_nat _ _ b.toNat_lt (Nat.lt_of_le_of_lt h (by decide)), u8_or_nat _ _ h1 (Nat.lt_of_le_of_lt h (by decide)), newB_toNat b r 1 hr (by omega)]
 simp
theorem wrap_pow (r : Nat) (hr : r < 8) : wrap64 ((2 : Int) ^ r) = (2 : Int) ^ r := by
 have h := pow_lt256 r hr
 rw [show (2 : Int) ^ r = ((2 ^ r : Nat) : Int) by rw [Int.natCast_pow]; rfl]
 generalize 2 ^ r = m at h ⊢
 exact wrap64_small m (by omega)
def letB (n : Nat) : Bool := decide ((97 ≤ n ∧ n ≤ 122) ∨ (65 ≤ n ∧ n ≤ 90))
def figB (n : Nat) : Bool := decide (48 ≤ n ∧ n ≤ 57)
def nameB (s : ByteArray) : Bool := decide (1 ≤ s.size ∧ s.size ≤ 10) && (letB (s.data.toList[0]?.getD 0).toNat && s.data.toList.all fun b => letB b.toNat || figB b.toNat)
theorem isLetter_any (b : Nat) (hb : b < 256) (w : World) :
 Calls Try.prog 62 #[.int .u8 (b : Int)] w fun e w' => e = .returned (.bool (letB b)) ∧ w = w' := by
 by_cases h1 : (97 : Int) ≤ (b : Int) <;> by_cases h2 : (b : Int) ≤ 122 <;> by_cases h3 : (65 : Int) ≤ (b : Int)
 all_goals
  go_enter Try.func62, Try.ntmps62
  go_wp2
  all_goals go_ret
  all_goals refine ⟨ret_bool ?_, rfl⟩
  all_goals (rw [Bool.eq_iff_iff]; simp [letB]; try omega)
theorem isFigure_any (b : Nat) (hb : b < 256) (w : World) :
 Calls Try.prog 63 #[.int .u8 (b : Int)] w fun e w' => e = .returned (.bool (figB b)) ∧ w = w' := by
 by_cases h1 : (48 : Int) ≤ (b : Int)
 all_goals
  go_enter Try.func63, Try.ntmps63
  go_wp2
  all_goals go_ret
  all_goals refine ⟨ret_bool ?_, rfl⟩
  all_goals (rw [Bool.eq_iff_iff]; simp [figB]; try omega)
def btN (s : ByteArray) (j : Nat) : Nat := (s.data.toList[j]?.getD 0).toNat
theorem btN_at {s : ByteArray} {k : Nat} (h : k < s.size) : btN s k = (s[k]).toNat := by
 have hl : k < s.data.toList.length := by simpa using h
 unfold btN
 rw [List.getElem?_eq_getElem hl, Option.getD_some]
 rfl
theorem btN_lt (s : ByteArray) (j : Nat) : btN s j < 256 := by
 unfold btN
 have := (s.data.toList[j]?.getD 0).toNat_lt
 omega
def okAt (s : ByteArray) (j : Nat) : Bool := letB (btN s j) || (decide (j ≠ 0) && figB (btN s j))
theorem nameB_iff (s : ByteArray) : nameB s = true ↔ (1 ≤ s.size ∧ s.size ≤ 10) ∧ ∀ j, j < s.size → okAt s j = true := by
 unfold nameB
 rw [Bool.and_eq_true, Bool.and_eq_true, decide_eq_true_iff, List.all_eq_true]
 refine and_congr_right fun hsz => ⟨fun ⟨h1, h2⟩ j hj => ?_, fun h => ⟨?_, fun b hb => ?_⟩⟩
 · have hl : j < s.data.toList.length := by simpa using hj
   have h3 := h2 _ (List.getElem_mem hl)
   have hbj : btN s j = (s.data.toList[j]).toNat := by unfold btN; rw [List.getElem?_eq_getElem hl, Option.getD_some]
   unfold okAt
   by_cases hj0 : j = 0
   · subst hj0
     rw [show letB (btN s 0) = true from h1, Bool.true_or]
   · rw [hbj, decide_eq_true hj0, Bool.true_and]
     exact h3
 · have := h 0 (by omega)
   unfold okAt at this
   rw [show decide ((0 : Nat) ≠ 0) = false from rfl, Bool.false_and, Bool.or_false] at this
   exact this
 · obtain ⟨j, hj, rfl⟩ := List.mem_iff_getElem.1 hb
   have h3 := h j (by simpa using hj)
   have hbj : btN s j = (s.data.toList[j]).toNat := by unfold btN; rw [List.getElem?_eq_getElem hj, Option.getD_some]
   unfold okAt at h3
   rw [hbj] at h3
   rw [Bool.or_eq_true] at h3 ⊢
   refine h3.imp id fun h4 => ?_
   rw [Bool.and_eq_true] at h4
   exact h4.2
theorem nameB_bad {s : ByteArray} {j : Nat} (hj : j < s.size) (h : okAt s j = false) : nameB s = false := by
 rw [Bool.eq_false_iff]
 intro hn
 have := ((nameB_iff s).1 hn).2 j hj
 rw [h] at this
 cases this
theorem nameB_size {s : ByteArray} (h : ¬ (1 ≤ s.size ∧ s.size ≤ 10)) : nameB s = false := by
 rw [Bool.eq_false_iff]
 exact fun hn => h ((nameB_iff s).1 hn).1
theorem nameB_all {s : ByteArray} (hz : 1 ≤ s.size ∧ s.size ≤ 10) (h : ∀ j, j < s.size → okAt s j = true) : nameB s = true := (nameB_iff s).2 ⟨hz, h⟩
theorem nm_loop (d : ByteArray) : ∀ (i : Nat) (r : List UInt8), (ByteArray.toList.loop d i r).length = (d.size - i) + r.length := by
 intro i r
 induction h : d.size - i generalizing i r with
 | zero => rw [ByteArray.toList.loop, if_neg (by omega), List.length_reverse]; omega
 | succ n ih => rw [ByteArray.toList.loop, if_pos (by omega), ih (i + 1) _ (by omega), List.length_cons]; omega
theorem nm_empty (d : ByteArray) : d.toList.isEmpty = (d.size == 0) := by
 have h := nm_loop d 0 []
 simp only [List.length_nil] at h
 unfold ByteArray.toList
 rw [Bool.eq_iff_iff, List.isEmpty_iff, ← List.length_eq_zero_iff, h]
 simp
theorem l9Name_any (s : ByteArray) (w : World) (hs : s.size ≤ maxLen) :
 Calls Try.prog 38 #[.string s] w fun e w' => e = .returned (.bool (nameB s)) ∧ w = w' := by
 unfold maxLen at hs
 go_enter Try.func38, Try.ntmps38
 go_wp2
 go_loopw [3] (fun i wr => wr = w ∧ ∃ k : Nat, k ≤ s.size ∧ i = .int .i64 (k : Int) ∧ Hid (∀ j, j < k → okAt s j = true)) (fun i _ => (s.size - intOf i).toNat)
 case atStart => exact ⟨rfl, 0, by omega, by simp, Lib.hid (fun j hj => by omega)⟩
 case round =>
  obtain ⟨rfl, k, hk, rfl, HZ⟩ := hrel
  by_cases hlt : k < s.size
  · have hx := btN_at hlt
    have hx2 := btN_lt s k
    rw [hx] at hx2
    have HOK : Hid (okAt s k = (letB (s[k]).toNat || (decide (k ≠ 0) && figB (s[k]).toNat))) := Lib.hid (by unfold okAt; rw [hx])
    clear hx
    have hcase : (97 ≤ (s[k]).toNat ∧ (s[k]).toNat ≤ 122) ∨ (65 ≤ (s[k]).toNat ∧ (s[k]).toNat ≤ 90) ∨ ((48 ≤ (s[k]).toNat ∧ (s[k]).toNat ≤ 57) ∧ 1 ≤ k) ∨ (122 < (s[k]).toNat ∧ k = 0) ∨ (122 < (s[k]).toNat ∧ 1 ≤ k) ∨ ((90 < (s[k]).toNat ∧ (s[k]).toNat < 97) ∧ k = 0) ∨ ((90 < (s[k]).toNat ∧ (s[k]).toNat < 97) ∧ 1 ≤ k) ∨ ((s[k]).toNat < 65 ∧ k = 0) ∨ ((57 < (s[k]).toNat ∧ (s[k]).toNat < 65) ∧ 1 ≤ k) ∨ ((s[k]).toNat < 48 ∧ 1 ≤ k) := by omega
    rcases hcase with h | h | h | h | h | h | h | h | h | h
    · have HV : Hid (okAt s k = true) := Lib.hid (by rw [HOK.out, Bool.eq_iff_iff]; simp [letB, figB]; omega)
      have f0 : (97 : Int) ≤ ((s[k]).toNat : Int) := by omega
      have f1 : ((s[k]).toNat : Int) ≤ 122 := by omega
      clear h
      go_wp2
      go_roundw
      case rel =>
       refine ⟨by trivial, k + 1, by omega, by go_num, Lib.hid fun j hj => ?_⟩
       by_cases hjk : j < k
       · exact HZ.out j hjk
       · obtain rfl : j = k := by omega
         exact HV.out
      case measure => simp [intOf]; omega
    · have HV : Hid (okAt s k = true) := Lib.hid (by rw [HOK.out, Bool.eq_iff_iff]; simp [letB, figB]; omega)
      have f0 : ¬ (97 : Int) ≤ ((s[k]).toNat : Int) := by omega
      have f1 : (65 : Int) ≤ ((s[k]).toNat : Int) := by omega
      have f2 : ((s[k]).toNat : Int) ≤ 90 := by omega
      clear h
      go_wp2
      go_roundw
      case rel =>
       refine ⟨by trivial, k + 1, by omega, by go_num, Lib.hid fun j hj => ?_⟩
       by_cases hjk : j < k
       · exact HZ.out j hjk
       · obtain rfl : j = k := by omega
         exact HV.out
      case measure => simp [intOf]; omega
    · have HV : Hid (okAt s k = true) := Lib.hid (by rw [HOK.out, Bool.eq_iff_iff]; simp [letB, figB]; omega)
      have f0 : ¬ (97 : Int) ≤ ((s[k]).toNat : Int) := by omega
      have f1 : ¬ (65 : Int) ≤ ((s[k]).toNat : Int) := by omega
      have f2 : ¬ ((s[k]).toNat : Int) < 48 := by omega
      have f3 : ¬ 57 < ((s[k]).toNat : Int) := by omega
      have f4 : ((k : Int) == 0) = false := by simp; omega
      clear h
      go_wp2
      go_roundw
      case rel =>
       refine ⟨by trivial, k + 1, by omega, by go_num, Lib.hid fun j hj => ?_⟩
       by_cases hjk : j < k
       · exact HZ.out j hjk
       · obtain rfl : j = k := by omega
         exact HV.out
      case measure => simp [intOf]; omega
    · have HV : Hid (okAt s k = false) := Lib.hid (by rw [HOK.out, Bool.eq_iff_iff]; simp [letB, figB]; omega)
      have f0 : (97 : Int) ≤ ((s[k]).toNat : Int) := by omega
      have f1 : ¬ ((s[k]).toNat : Int) ≤ 122 := by omega
      have f2 : (65 : Int) ≤ ((s[k]).toNat : Int) := by omega
      have f3 : ¬ ((s[k]).toNat : Int) ≤ 90 := by omega
      have f4 : ((k : Int) == 0) = true := by simp; omega
      clear h
      go_wp2
      go_ret
      exact ⟨by rw [nameB_bad hlt HV.out]; rfl, rfl⟩
    · have HV : Hid (okAt s k = false) := Lib.hid (by rw [HOK.out, Bool.eq_iff_iff]; simp [letB, figB]; omega)
      have f0 : (97 : Int) ≤ ((s[k]).toNat : Int) := by omega
      have f1 : ¬ ((s[k]).toNat : Int) ≤ 122 := by omega
      have f2 : (65 : Int) ≤ ((s[k]).toNat : Int) := by omega
      have f3 : ¬ ((s[k]).toNat : Int) ≤ 90 := by omega
      have f4 : ((k : Int) == 0) = false := by simp; omega
      have f5 : ¬ ((s[k]).toNat : Int) < 48 := by omega
      have f6 : 57 < ((s[k]).toNat : Int) := by omega
      clear h
      go_wp2
      go_ret
      exact ⟨by rw [nameB_bad hlt HV.out]; rfl, rfl⟩
    · have HV : Hid (okAt s k = false) := Lib.hid (by rw [HOK.out, Bool.eq_iff_iff]; simp [letB, figB]; omega)
      have f0 : ¬ (97 : Int) ≤ ((s[k]).toNat : Int) := by omega
      have f1 : (65 : Int) ≤ ((s[k]).toNat : Int) := by omega
      have f2 : ¬ ((s[k]).toNat : Int) ≤ 90 := by omega
      have f3 : ((k : Int) == 0) = true := by simp; omega
      clear h
      go_wp2
      go_ret
      exact ⟨by rw [nameB_bad hlt HV.out]; rfl, rfl⟩
    · have HV : Hid (okAt s k = false) := Lib.hid (by rw [HOK.out, Bool.eq_iff_iff]; simp [letB, figB]; omega)
      have f0 : ¬ (97 : Int) ≤ ((s[k]).toNat : Int) := by omega
      have f1 : (65 : Int) ≤ ((s[k]).toNat : Int) := by omega
      have f2 : ¬ ((s[k]).toNat : Int) ≤ 90 := by omega
      have f3 : ((k : Int) == 0) = false := by simp; omega
      have f4 : ¬ ((s[k]).toNat : Int) < 48 := by omega
      have f5 : 57 < ((s[k]).toNat : Int) := by omega
      clear h
      go_wp2
      go_ret
      exact ⟨by rw [nameB_bad hlt HV.out]; rfl, rfl⟩
    · have HV : Hid (okAt s k = false) := Lib.hid (by rw [HOK.out, Bool.eq_iff_iff]; simp [letB, figB]; omega)
      have f0 : ¬ (97 : Int) ≤ ((s[k]).toNat : Int) := by omega
      have f1 : ¬ (65 : Int) ≤ ((s[k]).toNat : Int) := by omega
      have f2 : ((k : Int) == 0) = true := by simp; omega
      clear h
      go_wp2
      go_ret
      exact ⟨by rw [nameB_bad hlt HV.out]; rfl, rfl⟩
    · have HV : Hid (okAt s k = false) := Lib.hid (by rw [HOK.out, Bool.eq_iff_iff]; simp [letB, figB]; omega)
      have f0 : ¬ (97 : Int) ≤ ((s[k]).toNat : Int) := by omega
      have f1 : ¬ (65 : Int) ≤ ((s[k]).toNat : Int) := by omega
      have f2 : ((k : Int) == 0) = false := by simp; omega
      have f3 : ¬ ((s[k]).toNat : Int) < 48 := by omega
      have f4 : 57 < ((s[k]).toNat : Int) := by omega
      clear h
      go_wp2
      go_ret
      exact ⟨by rw [nameB_bad hlt HV.out]; rfl, rfl⟩
    · have HV : Hid (okAt s k = false) := Lib.hid (by rw [HOK.out, Bool.eq_iff_iff]; simp [letB, figB]; omega)
      have f0 : ¬ (97 : Int) ≤ ((s[k]).toNat : Int) := by omega
      have f1 : ¬ (65 : Int) ≤ ((s[k]).toNat : Int) := by omega
      have f2 : ((k : Int) == 0) = false := by simp; omega
      have f3 : ((s[k]).toNat : Int) < 48 := by omega
      clear h
      go_wp2
      go_ret
      exact ⟨by rw [nameB_bad hlt HV.out]; rfl, rfl⟩
  · obtain rfl : k = s.size := by omega
    have HN : Hid (nameB s = inB s.size 1 10) := Lib.hid (by
     by_cases hz : 1 ≤ s.size ∧ s.size ≤ 10
     · rw [nameB_all hz HZ.out]; unfold inB; rw [decide_eq_true (by omega)]
     · rw [nameB_size hz]; unfold inB; rw [decide_eq_false (by omega)])
    go_wp2_with (go_at_call 33; refine (l1In_any _ _ _ _).mono ?_; rintro e w' ⟨rfl, rfl⟩)
    go_ret
    exact ⟨by rw [HN.out]; rfl, rfl⟩
theorem isName_any (s : ByteArray) (w : World) (hs : s.size ≤ maxLen) :
 Calls Try.prog 45 #[.string s] w fun e w' => e = .returned (.bool (nameB s)) ∧ Below w.heap.size w w' := by
 unfold maxLen at hs
 by_cases h0 : s.size = 0
 · have he : s.toList.isEmpty = true := by rw [nm_empty, h0]; rfl
   have HN := Lib.hid (nameB_size (s := s) (by omega))
   go_enter Try.func45, Try.ntmps45
   go_wp2
   go_ret
   exact ⟨by rw [HN.out]; rfl, Below.refl _ _⟩
 have he : s.toList.isEmpty = false := by rw [nm_empty]; simpa using h0
 by_cases h10 : 10 < s.size
 · have h11 : (10 : Int) < ((s.size : Nat) : Int) := by omega
   have HN := Lib.hid (nameB_size (s := s) (by omega))
   go_enter Try.func45, Try.ntmps45
   go_wp2
   go_ret
   exact ⟨by rw [HN.out]; rfl, Below.refl _ _⟩
 have h11 : ¬ (10 : Int) < ((s.size : Nat) : Int) := by omega
 have hlt : 0 < s.size := by omega
 have hx := btN_at hlt
 have hx2 := btN_lt s 0
 rw [hx] at hx2
 have HX := Lib.hid hx
 clear hx
 cases hl : letB (s[0]).toNat
 · have HN : Hid (nameB s = false) := Lib.hid (nameB_bad hlt (by unfold okAt; rw [HX.out, hl]; rfl))
   have HL := Lib.hid hl
   clear hl
   go_enter Try.func45, Try.ntmps45
   go_wp2_with (go_at_call 62; refine (isLetter_any _ hx2 _).mono ?_; rintro e w' ⟨rfl, rfl⟩; rw [HL.out])
   go_ret
   exact ⟨by rw [HN.out]; rfl, Below.refl _ _⟩
 · have HL := Lib.hid hl
   clear hl
   go_enter Try.func45, Try.ntmps45
   go_wp2_with (first | (go_at_call 62; refine (isLetter_any _ hx2 _).mono ?_; rintro e w' ⟨rfl, rfl⟩; rw [HL.out]) | (refine wpList_convert_bytes rfl 9 82 5 (.tmp 18) rfl s rfl Try.underlying9 Try.underlying82 Try.underlying5 ?_; intro c w1 cs hrow htk hbel hsz))
   have HB1 : Hid (Below w.heap.size w w1) := hbel
   have HR : Hid (SRow w1 w.heap.size 5 cs) := hrow
   clear hrow hbel hsz
   go_loopw [4, 21] (fun _ i wr => wr = w1 ∧ ∃ k : Nat, k ≤ s.size ∧ i = .int .i64 (k : Int) ∧ Hid (∀ j, j < k → okAt s j = true)) (fun _ i _ => s.size - (intOf i).toNat)
   case atStart => exact ⟨rfl, 0, by omega, by simp, Lib.hid (fun j hj => by omega)⟩
   case round =>
    obtain ⟨rfl, k, hk, rfl, HZ⟩ := hrel
    by_cases hk1 : k < s.size
    · obtain ⟨x, hx⟩ : ∃ x, s.data.toList[k]?.getD 0 = x := ⟨_, rfl⟩
      have hc0 := srow_cell HR.out htk.out hk1
      rw [hx] at hc0
      have hb : btN s k = x.toNat := by unfold btN; rw [hx]
      have hx256 := x.toNat_lt
      have hx3 : x.toNat < 256 := by omega
      clear hx hx256
      have HOK : Hid (okAt s k = (letB x.toNat || (decide (k ≠ 0) && figB x.toNat))) := Lib.hid (by unfold okAt; rw [hb])
      have HK0 : Hid (k = 0 → letB x.toNat = true) := Lib.hid (by
       intro h0
       subst h0
       rw [← hb, HX.out, HL.out])
      clear hb
      cases hlx : letB x.toNat
      · cases hfx : figB x.toNat
        · have HV : Hid (okAt s k = false) := Lib.hid (by rw [HOK.out, hlx, hfx]; simp)
          have HLX := Lib.hid hlx
          have HFX := Lib.hid hfx
          clear hlx hfx
          go_wp2_with (first | (go_at_call 62; refine (isLetter_any _ hx3 _).mono ?_; rintro e w' ⟨rfl, rfl⟩; rw [HLX.out]) | (go_at_call 63; refine (isFigure_any _ hx3 _).mono ?_; rintro e w' ⟨rfl, rfl⟩; rw [HFX.out]))
          go_ret
          exact ⟨by rw [nameB_bad hk1 HV.out]; rfl, HB1.out⟩
        · have HV : Hid (okAt s k = true) := Lib.hid (by
           rw [HOK.out, hlx, hfx]
           by_cases h0 : k = 0
           · rw [HK0.out h0] at hlx; cases hlx
           · simp [h0])
          have HLX := Lib.hid hlx
          have HFX := Lib.hid hfx
          clear hlx hfx
          go_wp2_with (first | (go_at_call 62; refine (isLetter_any _ hx3 _).mono ?_; rintro e w' ⟨rfl, rfl⟩; rw [HLX.out]) | (go_at_call 63; refine (isFigure_any _ hx3 _).mono ?_; rintro e w' ⟨rfl, rfl⟩; rw [HFX.out]))
          go_roundw
          case rel =>
           refine ⟨by trivial, k + 1, by omega, by go_num, Lib.hid fun j hj => ?_⟩
           by_cases hjk : j < k
           · exact HZ.out j hjk
           · obtain rfl : j = k := by omega
             exact HV.out
          case measure => simp [intOf]; omega
      · have HV : Hid (okAt s k = true) := Lib.hid (by rw [HOK.out, hlx]; rfl)
        have HLX := Lib.hid hlx
        clear hlx
        go_wp2_with (first | (go_at_call 62; refine (isLetter_any _ hx3 _).mono ?_; rintro e w' ⟨rfl, rfl⟩; rw [HLX.out]))
        go_roundw
        case rel =>
         refine ⟨by trivial, k + 1, by omega, by go_num, Lib.hid fun j hj => ?_⟩
         by_cases hjk : j < k
         · exact HZ.out j hjk
         · obtain rfl : j = k := by omega
           exact HV.out
        case measure => simp [intOf]; omega
    · obtain rfl : k = s.size := by omega
      have HN := Lib.hid (nameB_all (by omega) HZ.out)
      go_wp2
      go_ret
      exact ⟨by rw [HN.out]; rfl, HB1.out⟩
def withB (n b : Int) : Bool := decide (0 ≤ n ∧ n < b)
theorem within_any (n b : Int) (w : World) :
 Calls Try.prog 46 #[.int .i64 n, .int .i64 b] w fun e w' => e = .returned (.bool (withB n b)) ∧ w = w' := by
 by_cases h1 : 0 ≤ n
 all_goals
  go_enter Try.func46, Try.ntmps46
  go_wp2
  all_goals go_ret
  all_goals refine ⟨ret_bool ?_, rfl⟩
  all_goals (simp [withB]; try omega)
def wordsB (n : Nat) : Bool := decide (n % 8 = 0 ∧ n ≤ 1600)
theorem isWords_any (s : ByteArray) (w : World) (hs : s.size ≤ maxLen) :
 Calls Try.prog 85 #[.string s] w fun e w' => e = .returned (.bool (wordsB s.size)) ∧ w = w' := by
 unfold maxLen at hs
 by_cases h1 : s.size % 8 = 0
 all_goals
  go_enter Try.func85, Try.ntmps85
  go_wp2
  go_ret
  refine ⟨ret_bool ?_, rfl⟩
  simp [wordsB, h1]
 omega
theorem size46 : (Try.prog.info? 89).map (·.size) = some 8 := by kernel_rfl
theorem size5 : (Try.prog.info? 5).map (·.size) = some 1 := by kernel_rfl
theorem wordAt_any (s : ByteArray) (i : Int) (w : World) (hs : s.size ≤ maxLen) (h0 : 0 ≤ i) (hi : 8 * i + 8 ≤ s.size) :
 Calls Try.prog 87 #[.string s, .int .i64 i] w fun e w' => e = .returned (.agg (wd ((s.data.toList.drop (8 * i.toNat)).take 8))) ∧ Below w.heap.size w w' := by
 obtain ⟨i, rfl⟩ := Int.eq_ofNat_of_zero_le h0
 unfold maxLen at hs
 have ewd : (s.extract (i * 8) s.size).data.toList.take 8 = (s.data.toList.drop (8 * (i : Int).toNat)).take 8 := by
  rw [Lib.extract_data, Nat.mul_comm]
  congr 2
  simp [List.take_of_length_le]
 have hsz : 8 ≤ (s.extract (i * 8) s.size).size := by simp; omega
 have hlen : ((s.extract (i * 8) s.size).data.toList.take 8).length = 8 := by simp; omega
 generalize hl : (s.extract (i * 8) s.size).data.toList.take 8 = l at ewd hlen
 rw [← ewd]
 have HL := Lib.hid hl
 clear ewd hl
 go_enter Try.func87, Try.ntmps87
 go_wp2
 have e1 : IntKind.i64.wrap ((i : Int) * 8) = (i : Int) * 8 := by rw [IntKind.wrap_i64]; omega
 have e2 : (0 : Int) ≤ (i : Int) * 8 := by omega
 have e3 : (i : Int) * 8 ≤ (s.size : Int) := by omega
 have e4 : ((i : Int) * 8).toNat = i * 8 := by omega
 go_region_law (refine step_copy_string_ge rfl (.tmp 6) (.tmp 10) 82 9 rfl 5 Try.underlying82 size5 (w.heap.size + 1) 8 8 (s.extract (i * 8) s.size) _ 89 rfl (by simp [Act.eval, Act.put]) (by simp [Act.eval, Act.put]) (heap_alloc2_new w _ _) hsz ?_; intro w4 hg4 hb4)
 clear e1 e2 e3 e4
 have hA : Hid (w4.heap[w.heap.size]? = some (.cells #[.int .u8 0, .int .u8 0, .int .u8 0, .int .u8 0, .int .u8 0, .int .u8 0, .int .u8 0, .int .u8 0] 89 (0, 0))) :=
  (hb4.out.block w.heap.size (by simp; omega) (by simp)).trans (heap_alloc2_old w _ _)
 have hB : Hid (Below w.heap.size w w4) := ((Below.refl _ _).alloc (Nat.le_refl _) _ |>.alloc (by simp) _ |>.drew).grown hb4.out (by simp; omega) (fun k e => by cases e; simp)
 clear hb4
 have hG : Hid (w4.heap[w.heap.size + 1]? = some (.cells (wd l) 89 (0, 0))) := by rw [← HL.out]; exact hg4.out
 have hlen := Lib.hid hlen
 clear hg4 HL
 go_wp2_with (first | (refine wpList_load_wd rfl 89 (.tmp 5) rfl (w.heap.size + 1) rfl 89 l _ hG.out Try.underlying89 rfl (by rw [hlen.out]; exact size46) ?_) | (refine wpList_store_wd rfl 89 (.tmp 4) (.tmp 12) rfl w.heap.size l rfl rfl 89 _ hA.out (by rw [hlen.out]; exact size46) (by rw [hlen.out]; rfl) ?_; intro w5 hg5 hb5))
 refine bodyPost_ret (v := .agg (wd l)) ?_ rfl ⟨rfl, hB.out.grown hb5.out (by have := hB.out.size; omega) (fun k e => by cases e; simp)⟩
 exact results_cell_row rfl _ _ w.heap.size 89 _ (0, 0) _ rfl hg5.out Try.underlying89 rfl (by rw [wd_size, hlen.out]; exact size46)
def widthB (size : Int) : Bool := decide (size = 1 ∨ size = 2 ∨ size = 4 ∨ size = 8)
def placeB (at_ size : Int) : Bool := decide (0 ≤ at_ ∧ at_ ≤ 1600 ∧ ((size = 1 ∨ size = 2 ∨ size = 4 ∨ size = 8) ∧ at_ % size = 0))
theorem isWidth_any (size : Int) (w : World) :
 Calls Try.prog 66 #[.int .i64 size] w fun e w' => e = .returned (.bool (widthB size)) ∧ w = w' := by
 by_cases hz : size = 1 ∨ size = 2 ∨ size = 4 ∨ size = 8
 · rcases hz with rfl | rfl | rfl | rfl
   all_goals
    go_enter Try.func66, Try.ntmps66
    go_wp2
    all_goals go_ret
    all_goals exact ⟨ret_bool (by decide), rfl⟩
 · have b1 : (size == 1) = false := by simp; omega
   have b2 : (size == 2) = false := by simp; omega
   have b3 : (size == 4) = false := by simp; omega
   have b4 : (size == 8) = false := by simp; omega
   have hw : widthB size = false := by simp only [widthB, hz, decide_false]
   have HW := Lib.hid hw
   clear hw
   go_enter Try.func66, Try.ntmps66
   go_wp2
   go_ret
   exact ⟨by rw [HW.out]; rfl, rfl⟩
theorem isPlace_any (at_ size : Int) (w : World) :
 Calls Try.prog 91 #[.int .i64 at_, .int .i64 size] w fun e w' => e = .returned (.bool (placeB at_ size)) ∧ w = w' := by
 by_cases hz : size = 1 ∨ size = 2 ∨ size = 4 ∨ size = 8
 · rcases hz with rfl | rfl | rfl | rfl
   all_goals
    by_cases h0 : 0 ≤ at_
    all_goals
     go_enter Try.func91, Try.ntmps91
     go_wp2_with (go_at_call 66; refine (isWidth_any _ _).mono ?_; rintro e w' ⟨rfl, rfl⟩; rw [show widthB _ = true from by decide])
     all_goals go_ret
     all_goals refine ⟨ret_bool ?_, rfl⟩
     all_goals (rw [Bool.eq_iff_iff]; simp [placeB]; omega)
 · have hw : widthB size = false := by simp only [widthB, hz, decide_false]
   have HW := Lib.hid hw
   clear hw
   go_enter Try.func91, Try.ntmps91
   go_wp2_with (go_at_call 66; refine (isWidth_any _ _).mono ?_; rintro e w' ⟨rfl, rfl⟩; rw [HW.out])
   go_ret
   refine ⟨ret_bool ?_, rfl⟩
   have : ¬ (size = 1 ∨ size = 2 ∨ size = 4 ∨ size = 8) := hz
   simp only [placeB, this, false_and, and_false, decide_false]
def fitsB (n size : Int) : Bool := decide (size = 8 ∨ (0 ≤ n ∧ n < 256 ^ size.toNat))
theorem fitsBytes_any (n size : Int) (w : World) (hz : size = 1 ∨ size = 2 ∨ size = 4 ∨ size = 8) (hn : -9223372036854775808 ≤ n ∧ n ≤ 9223372036854775807) :
 Calls Try.prog 64 #[.int .i64 n, .int .i64 size] w fun e w' => e = .returned (.bool (fitsB n size)) ∧ w = w' := by
 obtain ⟨hn1, hn2⟩ := hn
 rcases hz with rfl | rfl | rfl | rfl
 all_goals
  by_cases h0 : 0 ≤ n
  all_goals
   go_enter Try.func64, Try.ntmps64
   go_wp2
   all_goals go_ret
   all_goals refine ⟨ret_bool ?_, rfl⟩
   all_goals (simp [fitsB]; try omega)
def sizeB (n : Int) : Bool := decide (n = 1 ∨ n = 2 ∨ n = 4 ∨ n = 8)
theorem l1Size_any (n : Int) (w : World) :
 Calls Try.prog 40 #[.int .i64 n] w fun e w' => e = .returned (.bool (sizeB n)) ∧ w = w' := by
 by_cases hz : n = 1 ∨ n = 2 ∨ n = 4 ∨ n = 8
 · rcases hz with rfl | rfl | rfl | rfl
   all_goals
    go_enter Try.func40, Try.ntmps40
    go_wp2
    go_ret
    exact ⟨ret_bool (by decide), rfl⟩
 · have b1 : (n == 1) = false := by simp; omega
   have b2 : (n == 2) = false := by simp; omega
   have b3 : (n == 4) = false := by simp; omega
   have b4 : (n == 8) = false := by simp; omega
   go_enter Try.func40, Try.ntmps40
   go_wp2
   go_ret
   refine ⟨ret_bool ?_, rfl⟩
   simp only [sizeB, hz, decide_false]
theorem l1Fits_any (n size : Int) (w : World) (hz : size = 1 ∨ size = 2 ∨ size = 4 ∨ size = 8) :
 Calls Try.prog 35 #[.int .i64 n, .int .i64 size] w fun e w' => e = .returned (.bool (fitsB n size)) ∧ w = w' := by
 rcases hz with rfl | rfl | rfl | rfl
 all_goals
  go_enter Try.func35, Try.ntmps35
  go_wp2_with (first | (go_at_call 33; refine (l1In_any _ _ _ _).mono ?_; rintro e w' ⟨rfl, rfl⟩))
  go_ret
  refine ⟨ret_bool ?_, rfl⟩
  rw [Bool.eq_iff_iff]; simp [fitsB, inB]; try omega
end Go.Proofs.Ytfnecflkahmjoaa
