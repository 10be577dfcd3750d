/- Plain facts on words that are written: bytes of a number, a number put into bytes, a block of bytes in memory. No Go text. No condition beyond each theorem's own. -/
import Derived.Test.YtfiiopchfmcjdaaMath1
import Derived.Lib.Hide
namespace Go.Proofs.Ytfiiopchfmcjdaa
open Go.RowKit

/-- the lowest k bytes of a number, the lowest first. -/
def leB (n : Int) : Nat → List UInt8
  | 0 => []
  | k + 1 => UInt8.ofNat (n % 256).toNat :: leB (n / 256) k
theorem leB_length (n : Int) (k : Nat) : (leB n k).length = k := by
  induction k generalizing n with
  | zero => rfl
  | succ k ih => simp [leB, ih]
/-- n without its lowest k bytes. -/
def shr8 (n : Int) : Nat → Int
  | 0 => n
  | k + 1 => shr8 n k / 256
theorem shr8_succ' (n : Int) (k : Nat) : shr8 (n / 256) k = shr8 n k / 256 := by
  induction k with
  | zero => rfl
  | succ k ih => simp [shr8, ih]
theorem leB_snoc (n : Int) (k : Nat) : leB n (k + 1) = leB n k ++ [UInt8.ofNat (shr8 n k % 256).toNat] := by
  induction k generalizing n with
  | zero => rfl
  | succ k ih => rw [leB, ih, leB, List.cons_append, shr8_succ', shr8]
theorem shr8_bd (n : Int) (k : Nat) (h0 : 0 ≤ n) (h1 : n < 18446744073709551616) : 0 ≤ shr8 n k ∧ shr8 n k < 18446744073709551616 := by
  induction k with
  | zero => exact ⟨h0, h1⟩
  | succ k ih => simp only [shr8]; omega
theorem ofNat_toNat_u8 (m : Int) : (((UInt8.ofNat (m % 256).toNat).toNat : Nat) : Int) = m % 256 := by
  rw [UInt8.toNat_ofNat']; omega
/-- l with xs in the place of as many from a on. -/
def putL (l : List UInt8) (a : Nat) (xs : List UInt8) : List UInt8 := l.take a ++ (xs ++ l.drop (a + xs.length))
theorem putL_length (l : List UInt8) (a : Nat) (xs : List UInt8) (h : a + xs.length ≤ l.length) : (putL l a xs).length = l.length := by simp [putL]; omega
theorem putL_nil (l : List UInt8) (a : Nat) : putL l a [] = l := by simp [putL]
theorem putL_snoc (l : List UInt8) (a : Nat) (xs : List UInt8) (b : UInt8) (h : a + xs.length < l.length) : putL l a (xs ++ [b]) = (putL l a xs).set (a + xs.length) b := by
  have e1 : (l.take a).length = a := by simp; omega
  rw [putL, putL, List.set_append, if_neg (by omega), e1, show a + xs.length - a = xs.length by omega, List.set_append, if_neg (by omega), Nat.sub_self, List.drop_eq_getElem_cons h]
  simp [Nat.add_assoc]
theorem wd_set (l : List UInt8) (i : Nat) (b : UInt8) : (wd l).setIfInBounds i (.int .u8 (b.toNat : Int)) = wd (l.set i b) := by
  simp [wd, Lib.byteCells, List.map_set]

theorem heap_set {w : World} {g i : Nat} {cs : Array Value} {t : TypeId} (u : Value) (h : w.heap[g]? = some (.cells cs t (0, 0))) : (w.setCell ⟨g, i, none⟩ u).heap[g]? = some (.cells (cs.setIfInBounds i u) t (0, 0)) := by
  simp [World.setCell, Array.getElem?_modify, h]
theorem frozen_row {w : World} {g : Nat} {cs : Array Value} {t : TypeId} (h : w.heap[g]? = some (.cells cs t (0, 0))) (i : Nat) : w.frozen? ⟨g, i, none⟩ = false := by
  simp [World.frozen?, h]
theorem wd_cell_row {w : World} {g : Nat} {l : List UInt8} {t : TypeId} (h : w.heap[g]? = some (.cells (wd l) t (0, 0))) (i : Nat) (hi : i < l.length) : w.cell? ⟨g, i, none⟩ = some (.int .u8 ((l[i]?.getD 0).toNat : Int)) := by
  rw [cell_of_row _ _ _ (wd l) t (0, 0) h]
  simp [wd, Lib.byteCells, hi]
theorem heap_set_far {w : World} {g p i : Nat} {o : Obj} (u : Value) (hne : p ≠ g) (h : w.heap[p]? = some o) : (w.setCell ⟨g, i, none⟩ u).heap[p]? = some o :=
  (Below.heap_setCell w ⟨g, i, none⟩ u p hne).trans h
theorem put_step {wr : World} {g : Nat} {t : TypeId} (l : List UInt8) (a : Nat) (n : Int) (k : Nat) (hk : a + k < l.length) (h : wr.heap[g]? = some (.cells (wd (putL l a (leB n k))) t (0, 0))) :
    (wr.setCell ⟨g, a + k, none⟩ (.int .u8 (shr8 n k % 256))).heap[g]? = some (.cells (wd (putL l a (leB n (k + 1)))) t (0, 0)) := by
  rw [heap_set _ h, leB_snoc, putL_snoc _ _ _ _ (by rw [leB_length]; exact hk), leB_length, ← wd_set, ofNat_toNat_u8]
theorem heap_lt {w : World} {g : Nat} {o : Obj} (h : w.heap[g]? = some o) : g < w.heap.size := by
  rcases Nat.lt_or_ge g w.heap.size with hlt | hge
  · exact hlt
  · rw [Array.getElem?_eq_none hge] at h; cases h
theorem heap_alloc_keep {w : World} {g : Nat} {o : Obj} (h : w.heap[g]? = some o) (x : Obj) : (w.alloc x).heap[g]? = some o := (Below.heap_alloc w x g (heap_lt h)).trans h
theorem add_head (g j : Nat) : (⟨g, 0, none⟩ : Addr).add j = ⟨g, j, none⟩ := by unfold Addr.add; split <;> simp_all
theorem convert_wd {P : Program} (w : World) (src dst e : TypeId) (g cap n : Nat) (l : List UInt8) (hn : l.length = n) (hs : P.underlying src = some (.slice e)) (he : P.underlying e = some (.int .u8)) (hd : P.underlying dst = some .string)
    {t : TypeId} {fr : Nat × Nat} {cs : Array Value} (hg : w.heap[g]? = some (.cells cs t fr)) (hc : cs.toList.take n = Lib.byteCells l) :
    (convert src dst (.slice (some ⟨g, 0, none⟩) n cap)).run P w = .ok (.string ⟨l.toArray⟩) w := by
  subst hn
  refine run_convert_bytes_back w src dst e ⟨g, 0, none⟩ cap l hs he hd fun j hj => ?_
  rw [add_head, cell_of_row _ _ _ cs t fr hg]
  have h := congrArg (fun x : List Value => x[j]?) hc
  simp only [List.getElem?_take_of_lt hj, Array.getElem?_toList] at h
  rw [h]
  simp [Lib.byteCells, hj]
theorem convert_nil {P : Program} (w : World) (src dst e : TypeId) (hs : P.underlying src = some (.slice e)) (he : P.underlying e = some (.int .u8)) (hd : P.underlying dst = some .string) :
    (convert src dst (.slice none 0 0)).run P w = .ok (.string ⟨#[]⟩) w := by
  rw [run_convert_bytes_string w src dst e none 0 0 hs he hd]
  rfl
/-- string(b) of bytes that the call itself has made. -/
theorem convert_own {P : Program} (w : World) (src dst e : TypeId) (base n : Nat) (l : List UInt8) (v : Value) (hn : l.length = n) (hs : P.underlying src = some (.slice e)) (he : P.underlying e = some (.int .u8)) (hd : P.underlying dst = some .string)
    (hown : w.ownsRow base e 1 v n (Lib.byteCells l)) : (convert src dst v).run P w = .ok (.string ⟨l.toArray⟩) w := by
  rcases hown.2 with ⟨rfl, rfl⟩ | ⟨g, cap, cur, rfl, _, hg, _, _, _, htk⟩
  · obtain rfl : l = [] := List.eq_nil_of_length_eq_zero hn
    exact convert_nil w src dst e hs he hd
  · exact convert_wd w src dst e g cap n l hn hs he hd hg (by simpa using htk)
theorem byteCells_snoc' (l : List UInt8) (b : UInt8) : Lib.byteCells l ++ [Value.int .u8 (b.toNat : Int)] = Lib.byteCells (l ++ [b]) := by simp [Lib.byteCells]
/-- an append of one element onto a row of the call's own: what lay below stays. -/
theorem below_append {B : Nat} {w0 w w1 : World} {x : Obj} {e : TypeId} {size n : Nat} {v : Value} {xs : List Value} (hb : Below B w0 w) (hB : B ≤ w.heap.size) (hown : w.ownsRow B e size v n xs) (hg : (w.alloc x).grownBy w1 v.ownBlock) : Below B w0 w1 :=
  (hb.alloc hB x).grown hg (by simp; omega) (fun k hk => (hown.lt k hk).1)
theorem ofInt_i64' (a : Nat) (ha : a < 9223372036854775808) : (BitVec.ofInt 64 (a : Int)).toNat = a := ofInt_u64 a (by omega)
theorem and_i64 (a b : Nat) (ha : a < 9223372036854775808) (hb : b < 9223372036854775808) : bits .and .i64 (a : Int) (b : Int) = ((a &&& b : Nat) : Int) := by
  have hx : a &&& b < 2 ^ 63 := Nat.and_lt_two_pow _ (by omega)
  show IntKind.i64.wrap ((BitVec.ofInt 64 (a : Int) &&& BitVec.ofInt 64 (b : Int)).toNat : Int) = _
  rw [BitVec.toNat_and, ofInt_i64' a ha, ofInt_i64' b hb, IntKind.wrap_i64]
  omega
theorem div_cast (b r : Nat) : (b : Int) / 2 ^ r = ((b / 2 ^ r : Nat) : Int) := by
  rw [Int.natCast_ediv, Int.natCast_pow]; rfl
theorem bit_u8 (b r : Nat) (hb : b < 256) : wrap64 (bits .and .u8 ((b : Int) / 2 ^ r) 1) = ((b / 2 ^ r % 2 : Nat) : Int) := by
  have h := Nat.div_le_self b (2 ^ r)
  rw [div_cast, show (1 : Int) = ((1 : Nat) : Int) from rfl, u8_and_nat _ _ (by omega) (by omega), nat_mask1, wrap64_small _ (by omega)]
theorem bit_i64 (b r : Nat) (hb : b < 256) : bits .and .i64 (wrap64 (b : Int) / 2 ^ r) 1 = ((b / 2 ^ r % 2 : Nat) : Int) := by
  have h := Nat.div_le_self b (2 ^ r)
  rw [wrap64_small _ (by omega), div_cast, show (1 : Int) = ((1 : Nat) : Int) from rfl, and_i64 _ _ (by omega) (by omega), nat_mask1]
theorem step_append_own {P : Program} {ops : Array Oper} {o : Oper} {a : Act} {w : World} {K : Act → World → Prop} {Q : Exit → Act → World → Prop} {E : Prop} (hgd : o.guard = none) (s x : Operand) (t : TypeId)
    (ho : o.op = .call { callee := .builtin .append, args := #[s, x], argTypes := #[t, t] })
    (base : Nat) (e : TypeId) (i : TypeInfo) (z : Value) (size bytes : Nat) (ht : P.underlying t = some (.slice e)) (hi : P.info? e = some i) (hz : i.zero = some z)
    (hsize : i.size = size) (hby : i.bytes = bytes) (hzs : z.cells.size = size) (hsz : 0 < size)
    (v : Value) (n : Nat) (xs : List Value) (hs : a.eval s = v) (hown : w.ownsRow base e size v n xs)
    (ad : Addr) (m c : Nat) (news : List Value) (hx : a.eval x = .slice (some ad) m c) (hl : news.length = m * size) (hnews : ∀ j u, news[j]? = some u → w.cell? (ad.add j) = some u) (h1 : ∀ u ∈ news, u.oneCell' = true)
    (h63 : n + m ≤ maxLen) (hbytes : (n + m) * bytes ≤ 140737488355328) (hbase : base ≤ w.heap.size)
    (h : ∀ v' w', Hid (w'.ownsRow base e size v' (n + m) (xs ++ news)) → Hid (w.grownBy w' v.ownBlock) → K (a.put o.dst v') w') : if Region.wanted o (yielded ops a.tmps) = true then Oper.wp P o a w K Q else E := by
  have hw : Region.wanted o (yielded ops a.tmps) = true := by simp [Region.wanted, hgd]
  rw [if_pos hw]
  exact wp_append_own w s x t ho base e i z size bytes ht hi hz hsize hby hzs hsz v n xs hs hown ad m c news hx hl hnews h1 h63 hbytes hbase fun v' w' h2 h3 _ => h v' w' h2 h3
theorem cell_two_new' (w : World) (x y : Value) (t : TypeId) : ∀ j u, [x, y][j]? = some u → (w.alloc (.cells #[x, y] t)).cell? ((⟨w.heap.size, 0, none⟩ : Addr).add j) = some u := by
  intro j u hj
  rw [add_head, cell_of_row _ _ _ _ _ (0, 0) (heap_alloc_new w _)]
  match j, hj with
  | 0, hj => simpa using hj
  | 1, hj => simpa using hj
theorem ext_ba {a b : ByteArray} (h : a.data.toList = b.data.toList) : a = b := by
  cases a; cases b; simp at h; simp [h]
end Go.Proofs.Ytfiiopchfmcjdaa
