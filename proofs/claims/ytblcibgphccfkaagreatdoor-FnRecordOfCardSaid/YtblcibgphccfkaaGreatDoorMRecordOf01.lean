/- Texts of the proof of the law FnRecordOf, side by side: part 1. -/
import Derived.StillTactics
import Derived.Lib.QuietBelow
import Derived.Test.YtblcibgphccfkaaGreatDoorMRecordOf00
set_option maxHeartbeats 8000000
set_option maxRecDepth 100000
namespace Go.Proofs.YtblcibgphccfkaaGreatDoor
open Go.RowKit
def leB (n : Int) : Nat → List UInt8
 | 0 => []
 | k + 1 => UInt8.ofNat (n % 256).toNat :: leB (n / 256) k
theorem leB_length (n : Int) (k : Nat) : (leB n k).length = k := by
 induction k generalizing n with
 | zero => rfl
 | succ k ih => simp [leB, ih]
def shr8 (n : Int) : Nat → Int
 | 0 => n
 | k + 1 => shr8 n k / 256
theorem shr8_succ' (n : Int) (k : Nat) : shr8 (n / 256) k = shr8 n k / 256 := by
 induction k with
 | zero => rfl
 | succ k ih => simp [shr8, ih]
theorem leB_snoc (n : Int) (k : Nat) : leB n (k + 1) = leB n k ++ [UInt8.ofNat (shr8 n k % 256).toNat] := by
 induction k generalizing n with
 | zero => rfl
 | succ k ih => rw [leB, ih, leB, List.cons_append, shr8_succ', shr8]
theorem shr8_bd (n : Int) (k : Nat) (h0 : 0 ≤ n) (h1 : n < 18446744073709551616) : 0 ≤ shr8 n k ∧ shr8 n k < 18446744073709551616 := by
 induction k with
 | zero => exact ⟨h0, h1⟩
 | succ k ih => simp only [shr8]; omega
theorem ofNat_toNat_u8 (m : Int) : (((UInt8.ofNat (m % 256).toNat).toNat : Nat) : Int) = m % 256 := by
 rw [UInt8.toNat_ofNat']; omega
def putL (l : List UInt8) (a : Nat) (xs : List UInt8) : List UInt8 := l.take a ++ (xs ++ l.drop (a + xs.length))
theorem putL_length (l : List UInt8) (a : Nat) (xs : List UInt8) (h : a + xs.length ≤ l.length) : (putL l a xs).length = l.length := by simp [putL]; omega
theorem putL_nil (l : List UInt8) (a : Nat) : putL l a [] = l := by simp [putL]
theorem putL_snoc (l : List UInt8) (a : Nat) (xs : List UInt8) (b : UInt8) (h : a + xs.length < l.length) : putL l a (xs ++ [b]) = (putL l a xs).set (a + xs.length) b := by
 have e1 : (l.take a).length = a := by simp; omega
 rw [putL, putL, List.set_append, if_neg (by omega), e1, show a + xs.length - a = xs.length by omega, List.set_append, if_neg (by omega), Nat.sub_self, List.drop_eq_getElem_cons h]
 simp [Nat.add_assoc]
theorem wd_set (l : List UInt8) (i : Nat) (b : UInt8) : (wd l).setIfInBounds i (.int .u8 (b.toNat : Int)) = wd (l.set i b) := by
 simp [wd, Lib.byteCells, List.map_set]
theorem heap_set {w : World} {g i : Nat} {cs : Array Value} {t : TypeId} (u : Value) (h : w.heap[g]? = some (.cells cs t (0, 0))) : (w.setCell ⟨g, i, none⟩ u).heap[g]? = some (.cells (cs.setIfInBounds i u) t (0, 0)) := by
 simp [World.setCell, Array.getElem?_modify, h]
theorem frozen_row {w : World} {g : Nat} {cs : Array Value} {t : TypeId} (h : w.heap[g]? = some (.cells cs t (0, 0))) (i : Nat) : w.frozen? ⟨g, i, none⟩ = false := by
 simp [World.frozen?, h]
theorem wd_cell_row {w : World} {g : Nat} {l : List UInt8} {t : TypeId} (h : w.heap[g]? = some (.cells (wd l) t (0, 0))) (i : Nat) (hi : i < l.length) : w.cell? ⟨g, i, none⟩ = some (.int .u8 ((l[i]?.getD 0).toNat : Int)) := by
 rw [cell_of_row _ _ _ (wd l) t (0, 0) h]
 simp [wd, Lib.byteCells, hi]
theorem heap_set_far {w : World} {g p i : Nat} {o : Obj} (u : Value) (hne : p ≠ g) (h : w.heap[p]? = some o) : (w.setCell ⟨g, i, none⟩ u).heap[p]? = some o :=
 (Below.heap_setCell w ⟨g, i, none⟩ u p hne).trans h
theorem put_step {wr : World} {g : Nat} {t : TypeId} (l : List UInt8) (a : Nat) (n : Int) (k : Nat) (hk : a + k < l.length) (h : wr.heap[g]? = some (.cells (wd (putL l a (leB n k))) t (0, 0))) :
 (wr.setCell ⟨g, a + k, none⟩ (.int .u8 (shr8 n k % 256))).heap[g]? = some (.cells (wd (putL l a (leB n (k + 1)))) t (0, 0)) := by
 rw [heap_set _ h, leB_snoc, putL_snoc _ _ _ _ (by rw [leB_length]; exact hk), leB_length, ← wd_set, ofNat_toNat_u8]
theorem heap_lt {w : World} {g : Nat} {o : Obj} (h : w.heap[g]? = some o) : g < w.heap.size := by
 rcases Nat.lt_or_ge g w.heap.size with hlt | hge
 · exact hlt
 · rw [Array.getElem?_eq_none hge] at h; cases h
theorem heap_alloc_keep {w : World} {g : Nat} {o : Obj} (h : w.heap[g]? = some o) (x : Obj) : (w.alloc x).heap[g]? = some o := (Below.heap_alloc w x g (heap_lt h)).trans h
theorem add_head (g j : Nat) : (⟨g, 0, none⟩ : Addr).add j = ⟨g, j, none⟩ := by unfold Addr.add; split <;> simp_all
theorem convert_wd {P : Program} (w : World) (src dst e : TypeId) (g cap n : Nat) (l : List UInt8) (hn : l.length = n) (hs : P.underlying src = some (.slice e)) (he : P.underlying e = some (.int .u8)) (hd : P.underlying dst = some .string)
 {t : TypeId} {fr : Nat × Nat} {cs : Array Value} (hg : w.heap[g]? = some (.cells cs t fr)) (hc : cs.toList.take n = Lib.byteCells l) :
 (convert src dst (.slice (some ⟨g, 0, none⟩) n cap)).run P w = .ok (.string ⟨l.toArray⟩) w := by
 subst hn
 refine run_convert_bytes_back w src dst e ⟨g, 0, none⟩ cap l hs he hd fun j hj => ?_
 rw [add_head, cell_of_row _ _ _ cs t fr hg]
 have h := congrArg (fun x : List Value => x[j]?) hc
 simp only [List.getElem?_take_of_lt hj, Array.getElem?_toList] at h
 rw [h]
 simp [Lib.byteCells, hj]
theorem convert_nil {P : Program} (w : World) (src dst e : TypeId) (hs : P.underlying src = some (.slice e)) (he : P.underlying e = some (.int .u8)) (hd : P.underlying dst = some .string) :
 (convert src dst (.slice none 0 0)).run P w = .ok (.string ⟨#[]⟩) w := by
 rw [run_convert_bytes_string w src dst e none 0 0 hs he hd]
 rfl
theorem convert_own {P : Program} (w : World) (src dst e : TypeId) (base n : Nat) (l : List UInt8) (v : Value) (hn : l.length = n) (hs : P.underlying src = some (.slice e)) (he : P.underlying e = some (.int .u8)) (hd : P.underlying dst = some .string)
 (hown : w.ownsRow base e 1 v n (Lib.byteCells l)) : (convert src dst v).run P w = .ok (.string ⟨l.toArray⟩) w := by
 rcases hown.2 with ⟨rfl, rfl⟩ | ⟨g, cap, cur, rfl, _, hg, _, _, _, htk⟩
 · obtain rfl : l = [] := List.eq_nil_of_length_eq_zero hn
   exact convert_nil w src dst e hs he hd
 · exact convert_wd w src dst e g cap n l hn hs he hd hg (by simpa using htk)
theorem byteCells_snoc' (l : List UInt8) (b : UInt8) : Lib.byteCells l ++ [Value.int .u8 (b.toNat : Int)] = Lib.byteCells (l ++ [b]) := by simp [Lib.byteCells]
theorem below_append {B : Nat} {w0 w w1 : World} {x : Obj} {e : TypeId} {size n : Nat} {v : Value} {xs : List Value} (hb : Below B w0 w) (hB : B ≤ w.heap.size) (hown : w.ownsRow B e size v n xs) (hg : (w.alloc x).grownBy w1 v.ownBlock) : Below B w0 w1 :=
 (hb.alloc hB x).grown hg (by simp; omega) (fun k hk => (hown.lt k hk).1)
theorem ofInt_i64' (a : Nat) (ha : a < 9223372036854775808) : (BitVec.ofInt 64 (a : Int)).toNat = a := ofInt_u64 a (by omega)
theorem and_i64 (a b : Nat) (ha : a < 9223372036854775808) (hb : b < 9223372036854775808) : bits .and .i64 (a : Int) (b : Int) = ((a &&& b : Nat) : Int) := by
 have hx : a &&& b < 2 ^ 63 := Nat.and_lt_two_pow _ (by omega)
 show IntKind.i64.wrap ((BitVec.ofInt 64 (a : Int) &&& BitVec.ofInt 64 (b : Int)).toNat : Int) = _
 rw [BitVec.toNat_and, ofInt_i64' a ha, ofInt_i64' b hb, IntKind.wrap_i64]
 omega
theorem div_cast (b r : Nat) : (b : Int) / 2 ^ r = ((b / 2 ^ r : Nat) : Int) := by
 rw [Int.natCast_ediv, Int.natCast_pow]; rfl
theorem bit_u8 (b r : Nat) (hb : b < 256) : wrap64 (bits .and .u8 ((b : Int) / 2 ^ r) 1) = ((b / 2 ^ r % 2 : Nat) : Int) := by
 have h := Nat.div_le_self b (2 ^ r)
 rw [div_cast, show (1 : Int) = ((1 : Nat) : Int) from rfl, u8_and_nat _ _ (by omega) (by omega), nat_mask1, wrap64_small _ (by omega)]
theorem bit_i64 (b r : Nat) (hb : b < 256) : bits .and .i64 (wrap64 (b : Int) / 2 ^ r) 1 = ((b / 2 ^ r % 2 : Nat) : Int) := by
 have h := Nat.div_le_self b (2 ^ r)
 rw [wrap64_small _ (by omega), div_cast, show (1 : Int) = ((1 : Nat) : Int) from rfl, and_i64 _ _ (by omega) (by omega), nat_mask1]
theorem step_append_own {P : Program} {ops : Array Oper} {o : Oper} {a : Act} {w : World} {K : Act → World → Prop} {Q : Exit → Act → World → Prop} {E : Prop} (hgd : o.guard = none) (s x : Operand) (t : TypeId)
 (ho : o.op = .call { callee := .builtin .append, args := #[s, x], argTypes := #[t, t] })
 (base : Nat) (e : TypeId) (i : TypeInfo) (z : Value) (size bytes : Nat) (ht : P.underlying t = some (.slice e)) (hi : P.info? e = some i) (hz : i.zero = some z)
 (hsize : i.size = size) (hby : i.bytes = bytes) (hzs : z.cells.size = size) (hsz : 0 < size)
 (v : Value) (n : Nat) (xs : List Value) (hs : a.eval s = v) (hown : w.ownsRow base e size v n xs)
 (ad : Addr) (m c : Nat) (news : List Value) (hx : a.eval x = .slice (some ad) m c) (hl : news.length = m * size) (hnews : ∀ j u, news[j]? = some u → w.cell? (ad.add j) = some u) (h1 : ∀ u ∈ news, u.oneCell' = true)
 (h63 : n + m ≤ maxLen) (hbytes : (n + m) * bytes ≤ 140737488355328) (hbase : base ≤ w.heap.size)
 (h : ∀ v' w', Hid (w'.ownsRow base e size v' (n + m) (xs ++ news)) → Hid (w.grownBy w' v.ownBlock) → K (a.put o.dst v') w') : if Region.wanted o (yielded ops a.tmps) = true then Oper.wp P o a w K Q else E := by
 have hw : Region.wanted o (yielded ops a.tmps) = true := by simp [Region.wanted, hgd]
 rw [if_pos hw]
 exact wp_append_own w s x t ho base e i z size bytes ht hi hz hsize hby hzs hsz v n xs hs hown ad m c news hx hl hnews h1 h63 hbytes hbase fun v' w' h2 h3 _ => h v' w' h2 h3
theorem cell_two_new' (w : World) (x y : Value) (t : TypeId) : ∀ j u, [x, y][j]? = some u → (w.alloc (.cells #[x, y] t)).cell? ((⟨w.heap.size, 0, none⟩ : Addr).add j) = some u := by
 intro j u hj
 rw [add_head, cell_of_row _ _ _ _ _ (0, 0) (heap_alloc_new w _)]
 match j, hj with
 | 0, hj => simpa using hj
 | 1, hj => simpa using hj
theorem ext_ba {a b : ByteArray} (h : a.data.toList = b.data.toList) : a = b := by
 cases a; cases b; simp at h; simp [h]
def wiB (n b : Int) : Bool := decide (0 ≤ n ∧ n < b)
theorem within_a (n b : Int) (w : World) :
 Calls Tryz.prog 27 #[.int .i64 n, .int .i64 b] w fun e w' => e = .returned (.bool (wiB n b)) ∧ w = w' := by
 by_cases h1 : 0 ≤ n
 all_goals
  go_enter Tryz.func27, Tryz.ntmps27
  go_wp2
  all_goals go_ret
  all_goals refine ⟨ret_bool ?_, rfl⟩
  all_goals (simp [wiB]; try omega)
def bz (n : Int) : Int := if n = 1 then 1 else if n = 2 then 8 else if n = 3 then 16 else if n = 4 then 32 else if n = 5 then 64 else if n = 6 then 64 else 0
theorem bz_le (n : Int) : 0 ≤ bz n ∧ bz n ≤ 64 := by
 unfold bz
 repeat' split
 all_goals omega
theorem sizeBits_a (n : Int) (w : World) (h0 : 0 ≤ n) (h1 : n ≤ 6) :
 Calls Tryz.prog 105 #[.int .i64 n] w fun e w' => e = .returned (.int .i64 (bz n)) ∧ w = w' := by
 have h : n = 0 ∨ n = 1 ∨ n = 2 ∨ n = 3 ∨ n = 4 ∨ n = 5 ∨ n = 6 := by omega
 rcases h with rfl | rfl | rfl | rfl | rfl | rfl | rfl
 all_goals
  go_enter Tryz.func105, Tryz.ntmps105
  go_wp2
  go_ret
  exact ⟨ret_int (by decide), rfl⟩
theorem l2Bits_a (n : Int) (w : World) (h0 : 0 ≤ n) (h1 : n ≤ 6) :
 Calls Tryz.prog 67 #[.int .i64 n] w fun e w' => e = .returned (.int .i64 (bz n)) ∧ Below w.heap.size w w' := by
 have h : n = 0 ∨ n = 1 ∨ n = 2 ∨ n = 3 ∨ n = 4 ∨ n = 5 ∨ n = 6 := by omega
 rcases h with rfl | rfl | rfl | rfl | rfl | rfl | rfl
 all_goals
  go_enter Tryz.func67, Tryz.ntmps67
  go_wp2
  go_ret
  exact ⟨ret_int (by decide), (Below.refl _ _).alloc (Nat.le_refl _) _⟩
def byteZ (s c : Int) : Int := (bz s * c + 7) / 8
theorem l4Bytes_a (s c : Int) (w : World) (h0 : 0 ≤ s) (h1 : s ≤ 6) (h2 : 0 ≤ c) (h3 : c ≤ 12800) :
 Calls Tryz.prog 158 #[.int .i64 s, .int .i64 c] w fun e w' => e = .returned (.int .i64 (byteZ s c)) ∧ Below w.heap.size w w' := by
 have hb := bz_le s
 have HE : Hid (byteZ s c = (bz s * c + 7) / 8) := Lib.hid rfl
 have hm : 0 ≤ bz s * c ∧ bz s * c ≤ 819200 := ⟨Int.mul_nonneg hb.1 h2, by
  have := Int.mul_le_mul hb.2 h3 h2 (by omega)
  omega⟩
 generalize hz : bz s = z at *
 generalize hp : z * c = p at *
 have HP := Lib.hid hp
 clear hp
 go_enter Tryz.func158, Tryz.ntmps158
 go_wp2_with (go_at_call 67; go_must (refine (l2Bits_a _ _ h0 h1).mono ?_); rintro e w1 ⟨rfl, hb1⟩; rw [hz]; have hpp := HP.out)
 go_ret
 exact ⟨by rw [HE.out]; rfl, hb1⟩
def lastN (d : ByteArray) : Nat := if h : d.size - 1 < d.size then (d[d.size - 1]).toNat else 0
def cutD (d : ByteArray) (b : Int) : ByteArray := if b % 8 = 0 then d else d.extract 0 (d.size - 1) ++ ⟨#[UInt8.ofNat (lastN d % 2 ^ (b % 8).toNat)]⟩
def bitsB (d : ByteArray) (b : Int) : Bool := decide ((d.size : Int) = (b + 7) / 8) && (decide (b % 8 = 0) || decide (lastN d < 2 ^ (b % 8).toNat))
theorem conv1n (c : Nat) (hc : c < 256) (W : World) : (convert 22 9 (.slice (some ⟨W.heap.size, 0, none⟩) 1 1)).run Tryz.prog (W.alloc (.cells #[.int .u8 (c : Int)] 5)) = .ok (.string ⟨#[UInt8.ofNat c]⟩) (W.alloc (.cells #[.int .u8 (c : Int)] 5)) := by
 refine convert_wd _ _ _ 5 W.heap.size 1 1 [UInt8.ofNat c] rfl Tryz.underlying22 Tryz.underlying5 Tryz.underlying9 (heap_alloc_new W _) ?_
 have : (UInt8.ofNat c).toNat = c := by rw [UInt8.toNat_ofNat']; omega
 simp [Lib.byteCells]; omega
theorem lastN_eq {d : ByteArray} {j : Nat} (h : d.size = j + 1) (hj : j < d.size) : lastN d = (d[j]).toNat := by
 unfold lastN
 rw [dif_pos (by omega)]
 congr 2
 omega
theorem and_u8_1 : ∀ x : Nat, x < 256 → bits BinOp.and IntKind.u8 (x : Int) 1 = ((x % 2 : Nat) : Int) := by decide +kernel
theorem and_u8_2 : ∀ x : Nat, x < 256 → bits BinOp.and IntKind.u8 (x : Int) 3 = ((x % 4 : Nat) : Int) := by decide +kernel
theorem and_u8_3 : ∀ x : Nat, x < 256 → bits BinOp.and IntKind.u8 (x : Int) 7 = ((x % 8 : Nat) : Int) := by decide +kernel
theorem and_u8_4 : ∀ x : Nat, x < 256 → bits BinOp.and IntKind.u8 (x : Int) 15 = ((x % 16 : Nat) : Int) := by decide +kernel
theorem and_u8_5 : ∀ x : Nat, x < 256 → bits BinOp.and IntKind.u8 (x : Int) 31 = ((x % 32 : Nat) : Int) := by decide +kernel
theorem and_u8_6 : ∀ x : Nat, x < 256 → bits BinOp.and IntKind.u8 (x : Int) 63 = ((x % 64 : Nat) : Int) := by decide +kernel
theorem and_u8_7 : ∀ x : Nat, x < 256 → bits BinOp.and IntKind.u8 (x : Int) 127 = ((x % 128 : Nat) : Int) := by decide +kernel
theorem cutBits_a (d : ByteArray) (b : Int) (w : World) (h0 : 0 ≤ b) (h1 : b ≤ 10000000) (_hd : d.size ≤ maxLen) (hs : (d.size : Int) = (b + 7) / 8) :
 Calls Tryz.prog 159 #[.string d, .int .i64 b] w fun e w' => e = .returned (.string (cutD d b)) ∧ Below w.heap.size w w' := by
 by_cases h8 : b % 8 = 0
 · have HE : Hid (cutD d b = d) := Lib.hid (by rw [cutD, if_pos h8])
   go_enter Tryz.func159, Tryz.ntmps159
   go_wp2
   go_ret
   exact ⟨by rw [HE.out]; rfl, Below.refl _ _⟩
 · obtain ⟨j, hj⟩ : ∃ j, d.size = j + 1 := ⟨d.size - 1, by omega⟩
   have hlt : j < d.size := by omega
   have HS := Lib.hid hs
   have hk : b % 8 = 1 ∨ b % 8 = 2 ∨ b % 8 = 3 ∨ b % 8 = 4 ∨ b % 8 = 5 ∨ b % 8 = 6 ∨ b % 8 = 7 := by omega
   have hjm : j ≤ 10000000 := by omega
   have hle : (j : Int) ≤ (d.size : Int) := by omega
   have hln : (d.size : Int) - 1 = (j : Int) := by omega
   have HJ := Lib.hid hj
   clear hs h8 _hd hj
   have hx : (d[j]).toNat < 256 := (d[j]).toNat_lt
   have HL := Lib.hid (lastN_eq HJ.out hlt)
   rcases hk with hk | hk | hk | hk | hk | hk | hk
   · have hand := and_u8_1 (d[j]).toNat hx
     have hq : (d[j]).toNat % 2 < 256 := by omega
     have HE : Hid (cutD d b = d.extract 0 j ++ ⟨#[UInt8.ofNat ((d[j]).toNat % 2)]⟩) := Lib.hid (by rw [cutD, if_neg (by omega), HL.out, hk, show d.size - 1 = j by have := HJ.out; omega]; rfl)
     generalize (d[j]).toNat % 2 = q at hand hq HE
     have hcv : (convert 22 9 (.slice (some ⟨w.heap.size, 0, none⟩) 1 1)).run Tryz.prog (w.alloc (.cells #[.int .u8 (q : Int)] 5)).drew = .ok (.string ⟨#[UInt8.ofNat q]⟩) (w.alloc (.cells #[.int .u8 (q : Int)] 5)).drew := conv1n q hq w.drew
     go_enter Tryz.func159, Tryz.ntmps159
     go_wp2
     go_region
     go_wp2
     go_ret
     exact ⟨by rw [HE.out]; rfl, ((Below.refl _ w).alloc (Nat.le_refl _) _).drew⟩
   · have hand := and_u8_2 (d[j]).toNat hx
     have hq : (d[j]).toNat % 4 < 256 := by omega
     have HE : Hid (cutD d b = d.extract 0 j ++ ⟨#[UInt8.ofNat ((d[j]).toNat % 4)]⟩) := Lib.hid (by rw [cutD, if_neg (by omega), HL.out, hk, show d.size - 1 = j by have := HJ.out; omega]; rfl)
     generalize (d[j]).toNat % 4 = q at hand hq HE
     have hcv : (convert 22 9 (.slice (some ⟨w.heap.size, 0, none⟩) 1 1)).run Tryz.prog (w.alloc (.cells #[.int .u8 (q : Int)] 5)).drew = .ok (.string ⟨#[UInt8.ofNat q]⟩) (w.alloc (.cells #[.int .u8 (q : Int)] 5)).drew := conv1n q hq w.drew
     go_enter Tryz.func159, Tryz.ntmps159
     go_wp2
     go_region
     go_wp2
     go_ret
     exact ⟨by rw [HE.out]; rfl, ((Below.refl _ w).alloc (Nat.le_refl _) _).drew⟩
   · have hand := and_u8_3 (d[j]).toNat hx
     have hq : (d[j]).toNat % 8 < 256 := by omega
     have HE : Hid (cutD d b = d.extract 0 j ++ ⟨#[UInt8.ofNat ((d[j]).toNat % 8)]⟩) := Lib.hid (by rw [cutD, if_neg (by omega), HL.out, hk, show d.size - 1 = j by have := HJ.out; omega]; rfl)
     generalize (d[j]).toNat % 8 = q at hand hq HE
     have hcv : (convert 22 9 (.slice (some ⟨w.heap.size, 0, none⟩) 1 1)).run Tryz.prog (w.alloc (.cells #[.int .u8 (q : Int)] 5)).drew = .ok (.string ⟨#[UInt8.ofNat q]⟩) (w.alloc (.cells #[.int .u8 (q : Int)] 5)).drew := conv1n q hq w.drew
     go_enter Tryz.func159, Tryz.ntmps159
     go_wp2
     go_region
     go_wp2
     go_ret
     exact ⟨by rw [HE.out]; rfl, ((Below.refl _ w).alloc (Nat.le_refl _) _).drew⟩
   · have hand := and_u8_4 (d[j]).toNat hx
     have hq : (d[j]).toNat % 16 < 256 := by omega
     have HE : Hid (cutD d b = d.extract 0 j ++ ⟨#[UInt8.ofNat ((d[j]).toNat % 16)]⟩) := Lib.hid (by rw [cutD, if_neg (by omega), HL.out, hk, show d.size - 1 = j by have := HJ.out; omega]; rfl)
     generalize (d[j]).toNat % 16 = q at hand hq HE
     have hcv : (convert 22 9 (.slice (some ⟨w.heap.size, 0, none⟩) 1 1)).run Tryz.prog (w.alloc (.cells #[.int .u8 (q : Int)] 5)).drew = .ok (.string ⟨#[UInt8.ofNat q]⟩) (w.alloc (.cells #[.int .u8 (q : Int)] 5)).drew := conv1n q hq w.drew
     go_enter Tryz.func159, Tryz.ntmps159
     go_wp2
     go_region
     go_wp2
     go_ret
     exact ⟨by rw [HE.out]; rfl, ((Below.refl _ w).alloc (Nat.le_refl _) _).drew⟩
   · have hand := and_u8_5 (d[j]).toNat hx
     have hq : (d[j]).toNat % 32 < 256 := by omega
     have HE : Hid (cutD d b = d.extract 0 j ++ ⟨#[UInt8.ofNat ((d[j]).toNat % 32)]⟩) := Lib.hid (by rw [cutD, if_neg (by omega), HL.out, hk, show d.size - 1 = j by have := HJ.out; omega]; rfl)
     generalize (d[j]).toNat % 32 = q at hand hq HE
     have hcv : (convert 22 9 (.slice (some ⟨w.heap.size, 0, none⟩) 1 1)).run Tryz.prog (w.alloc (.cells #[.int .u8 (q : Int)] 5)).drew = .ok (.string ⟨#[UInt8.ofNat q]⟩) (w.alloc (.cells #[.int .u8 (q : Int)] 5)).drew := conv1n q hq w.drew
     go_enter Tryz.func159, Tryz.ntmps159
     go_wp2
     go_region
     go_wp2
     go_ret
     exact ⟨by rw [HE.out]; rfl, ((Below.refl _ w).alloc (Nat.le_refl _) _).drew⟩
   · have hand := and_u8_6 (d[j]).toNat hx
     have hq : (d[j]).toNat % 64 < 256 := by omega
     have HE : Hid (cutD d b = d.extract 0 j ++ ⟨#[UInt8.ofNat ((d[j]).toNat % 64)]⟩) := Lib.hid (by rw [cutD, if_neg (by omega), HL.out, hk, show d.size - 1 = j by have := HJ.out; omega]; rfl)
     generalize (d[j]).toNat % 64 = q at hand hq HE
     have hcv : (convert 22 9 (.slice (some ⟨w.heap.size, 0, none⟩) 1 1)).run Tryz.prog (w.alloc (.cells #[.int .u8 (q : Int)] 5)).drew = .ok (.string ⟨#[UInt8.ofNat q]⟩) (w.alloc (.cells #[.int .u8 (q : Int)] 5)).drew := conv1n q hq w.drew
     go_enter Tryz.func159, Tryz.ntmps159
     go_wp2
     go_region
     go_wp2
     go_ret
     exact ⟨by rw [HE.out]; rfl, ((Below.refl _ w).alloc (Nat.le_refl _) _).drew⟩
   · have hand := and_u8_7 (d[j]).toNat hx
     have hq : (d[j]).toNat % 128 < 256 := by omega
     have HE : Hid (cutD d b = d.extract 0 j ++ ⟨#[UInt8.ofNat ((d[j]).toNat % 128)]⟩) := Lib.hid (by rw [cutD, if_neg (by omega), HL.out, hk, show d.size - 1 = j by have := HJ.out; omega]; rfl)
     generalize (d[j]).toNat % 128 = q at hand hq HE
     have hcv : (convert 22 9 (.slice (some ⟨w.heap.size, 0, none⟩) 1 1)).run Tryz.prog (w.alloc (.cells #[.int .u8 (q : Int)] 5)).drew = .ok (.string ⟨#[UInt8.ofNat q]⟩) (w.alloc (.cells #[.int .u8 (q : Int)] 5)).drew := conv1n q hq w.drew
     go_enter Tryz.func159, Tryz.ntmps159
     go_wp2
     go_region
     go_wp2
     go_ret
     exact ⟨by rw [HE.out]; rfl, ((Below.refl _ w).alloc (Nat.le_refl _) _).drew⟩
theorem getD_size (a b : ByteArray) : (a ++ b).size = a.size + b.size := by simp
theorem cutD_eq {d : ByteArray} {b : Int} (h0 : 0 ≤ b) (hs : (d.size : Int) = (b + 7) / 8) : (cutD d b = d) ↔ (b % 8 = 0 ∨ lastN d < 2 ^ (b % 8).toNat) := by
 by_cases h8 : b % 8 = 0
 · rw [cutD, if_pos h8]; simp [h8]
 · rw [cutD, if_neg h8]
   obtain ⟨j, hj⟩ : ∃ j, d.size = j + 1 := ⟨d.size - 1, by omega⟩
   have hlt : j < d.size := by omega
   have hL := lastN_eq hj hlt
   have hx : (d[j]).toNat < 256 := (d[j]).toNat_lt
   have hjs : d.size - 1 = j := by omega
   have hp : 0 < 2 ^ (b % 8).toNat := Nat.two_pow_pos _
   rw [hjs, hL]
   generalize 2 ^ (b % 8).toNat = P at *
   have hsp : d.data.toList = (d.data.toList.take j) ++ [d[j]] := by
    have hl : d.data.toList.length = j + 1 := by rw [← hj]; rfl
    have h1 : d.data.toList[j]'(by omega) = d[j] := rfl
    rw [← h1, ← List.take_succ_eq_append_getElem (by omega), List.take_of_length_le (by omega)]
   have hc : (d.extract 0 j ++ ⟨#[UInt8.ofNat ((d[j]).toNat % P)]⟩ = d) ↔ UInt8.ofNat ((d[j]).toNat % P) = d[j] := by
    constructor
    · intro h
      have h2 : (d.extract 0 j ++ ⟨#[UInt8.ofNat ((d[j]).toNat % P)]⟩).data.toList = d.data.toList := by rw [h]
      rw [ByteArray.toList_data_append, Lib.extract_data, hsp] at h2
      simp at h2
      exact h2.2
    · intro h
      apply Go.WideShapes.bytes_inj
      rw [h, ByteArray.toList_data_append, Lib.extract_data, hsp]
      have hl : (List.take j d.data.toList).length = j := by
       have : d.data.toList.length = j + 1 := by rw [← hj]; rfl
       rw [List.length_take]; omega
      simp [List.take_append_of_le_length (Nat.le_of_eq hl.symm), List.take_of_length_le (Nat.le_of_eq hl)]
   rw [hc]
   constructor
   · intro h
     right
     have h2 : (UInt8.ofNat ((d[j]).toNat % P)).toNat = (d[j]).toNat := by rw [h]
     rw [UInt8.toNat_ofNat'] at h2
     have h3 : (d[j]).toNat % P ≤ (d[j]).toNat := Nat.mod_le _ _
     rw [Nat.mod_eq_of_lt (by omega)] at h2
     rw [← h2]
     exact Nat.mod_lt _ hp
   · intro h
     rcases h with h | h
     · exact absurd h h8
     · rw [Nat.mod_eq_of_lt h]
       simp
theorem loop_data (d : ByteArray) (i : Nat) (r : List UInt8) : ByteArray.toList.loop d i r = r.reverse ++ d.data.toList.drop i := by
 fun_induction ByteArray.toList.loop d i r with
 | case1 i r h ih =>
  have hl : i < d.data.toList.length := h
  rw [ih, List.drop_eq_getElem_cons hl, List.reverse_cons, List.append_assoc]
  congr 2
  show [d.get! i] ++ _ = _
  have : d.get! i = d.data.toList[i] := by
   show d.data[i]! = _
   rw [getElem!_pos d.data i h]
   rfl
  rw [this]; rfl
 | case2 i r h =>
  rw [List.drop_eq_nil_of_le (by show d.size ≤ i; omega), List.append_nil]
theorem toList_data (d : ByteArray) : d.toList = d.data.toList := by
 unfold ByteArray.toList
 rw [loop_data]; rfl
theorem toList_eq (a b : ByteArray) : (a.toList == b.toList) = decide (a = b) := by
 rw [toList_data, toList_data, Bool.eq_iff_iff]
 simp only [beq_iff_eq, decide_eq_true_eq]
 exact ⟨fun h => Go.WideShapes.bytes_inj h, fun h => by rw [h]⟩
theorem isBits_a (d : ByteArray) (b : Int) (w : World) (h0 : 0 ≤ b) (h1 : b ≤ 10000000) (hd : d.size ≤ maxLen) :
 Calls Tryz.prog 140 #[.string d, .int .i64 b] w fun e w' => e = .returned (.bool (bitsB d b)) ∧ Below w.heap.size w w' := by
 by_cases hs : (d.size : Int) = (b + 7) / 8
 · have hq := cutD_eq h0 hs
   have HC := Lib.hid (cutBits_a d b w h0 h1 hd hs)
   have HE : Hid (bitsB d b = decide (b % 8 = 0 ∨ lastN d < 2 ^ (b % 8).toNat)) := Lib.hid (by rw [Bool.eq_iff_iff]; simp [bitsB, hs])
   go_enter Tryz.func140, Tryz.ntmps140
   go_wp2_with (go_at_call 159; go_must (refine HC.out.mono ?_); rintro e w1 ⟨rfl, hb1⟩)
   go_ret
   refine ⟨ret_bool ?_, hb1⟩
   rw [HE.out, toList_eq, Bool.eq_iff_iff]
   simpa using hq
 · have HE : Hid (bitsB d b = false) := Lib.hid (by simp [bitsB, hs])
   go_enter Tryz.func140, Tryz.ntmps140
   go_wp2
   go_ret
   exact ⟨by rw [HE.out]; rfl, Below.refl _ _⟩
def itemB (n h : Nd) : Bool := structB n.kind n.data n.size n.count n.items.length && (decide (n.data.size = h.data.size) && decide (n.ptrs.length = h.ptrs.length))
def itemsB (l : List Nd) : Bool := l.all fun n => itemB n (l.headD default)
theorem itemsB_take {l : List Nd} {k : Nat} (h : k < l.length) (hh : (l.take k).all (fun n => itemB n (l.headD default)) = true) (hn : itemB l[k] (l.headD default) = true) : (l.take (k + 1)).all (fun n => itemB n (l.headD default)) = true := by
 rw [List.take_succ_eq_append_getElem h, List.all_append, hh]
 simpa using hn
theorem itemsB_false {l : List Nd} {k : Nat} (h : k < l.length) (hn : itemB l[k] (l.headD default) = false) : itemsB l = false := by
 unfold itemsB
 rw [List.all_eq_false]
 exact ⟨l[k], List.getElem_mem h, by rw [hn]; decide⟩
theorem head_at {l : List Nd} (h : 0 < l.length) : l[0] = l.headD default := by
 cases l with
 | nil => cases h
 | cons a t => rfl
theorem addr_zero (x : Addr) : x.add (0 * 6) = x := by simp [Addr.add]
theorem areItems_a (m : Nat) (A : Option Addr) (c : Nat) (l : List Nd) (w : World) (S : Nat → Prop) (hl : NdsAt w S (m + 1) A l) (hlm : l.length ≤ 2000000) :
 Calls Tryz.prog 141 #[.slice A l.length c] w fun e w' => e = .returned (.bool (itemsB l)) ∧ Below w.heap.size w w' := by
 have HF := Lib.hid hl
 clear hl
 go_enter Tryz.func141, Tryz.ntmps141
 go_wp2
 go_loopw [7] (fun i wr => ∃ k : Nat, i = .int .i64 k ∧ k ≤ l.length ∧ Hid ((l.take k).all (fun n => itemB n (l.headD default)) = true) ∧ Hid (Below w.heap.size w wr)) (fun i _ => l.length - (intOf i).toNat)
 case atStart => exact ⟨0, rfl, by omega, Lib.hid rfl, Lib.hid (Below.refl _ _)⟩
 case round =>
  obtain ⟨k, rfl, hk, HA, HB⟩ := hrel
  by_cases hlt : k < l.length
  · obtain ⟨x, hd, rfl, hc, hn⟩ := (HF.out.below HB.out).at_ hlt
    obtain ⟨x', hd0, hxx, hc0, hn0⟩ := (HF.out.below HB.out).at_ (k := 0) (by omega)
    obtain rfl : x = x' := Option.some.inj hxx
    rw [addr_zero] at hc0
    have HFL := Lib.hid (fun h => itemsB_false hlt h)
    have HTR := Lib.hid (fun h => itemsB_take hlt HA.out h)
    have h0l : 0 < l.length := by omega
    rw [head_at h0l] at hc0
    generalize l.headD default = hdn at hc0 HFL HTR
    generalize l[k] = n at hc HFL HTR
    have hxb := hc0.lt
    obtain ⟨c0, c1, c2, c3, c4, c5⟩ := hc
    obtain ⟨-, d1, d2, -, -, -⟩ := hc0
    have HI := Lib.hid (fun W => isStruct_any n.kind n.size n.count n.data hd.A hd.B n.ptrs.length hd.a n.items.length hd.b W)
    have HBA := Lib.hid (HB.out.alloc HB.out.size (.cells #[.int .i64 n.kind, .string n.data, .slice hd.A n.ptrs.length hd.a, .int .i64 n.size, .int .i64 n.count, .slice hd.B n.items.length hd.b] nodeT))
    have HR := Lib.hid (heap_alloc_new wr (.cells #[.int .i64 n.kind, .string n.data, .slice hd.A n.ptrs.length hd.a, .int .i64 n.size, .int .i64 n.count, .slice hd.B n.items.length hd.b] nodeT))
    have HD1 := Lib.hid (((Below.refl wr.heap.size wr).alloc (Nat.le_refl _) (.cells #[.int .i64 n.kind, .string n.data, .slice hd.A n.ptrs.length hd.a, .int .i64 n.size, .int .i64 n.count, .slice hd.B n.items.length hd.b] nodeT)).cell (p := ⟨x.block, x.off + 1, none⟩) hxb |>.trans d1)
    have HD2 := Lib.hid (((Below.refl wr.heap.size wr).alloc (Nat.le_refl _) (.cells #[.int .i64 n.kind, .string n.data, .slice hd.A n.ptrs.length hd.a, .int .i64 n.size, .int .i64 n.count, .slice hd.B n.items.length hd.b] nodeT)).cell (p := ⟨x.block, x.off + 2, none⟩) hxb |>.trans d2)
    clear hn hn0 d1 d2
    go_wp2_with fail
    clear c0 c1 c2 c3 c4 c5
    generalize hW : wr.alloc (.cells #[.int .i64 n.kind, .string n.data, .slice hd.A n.ptrs.length hd.a, .int .i64 n.size, .int .i64 n.count, .slice hd.B n.items.length hd.b] nodeT) = W at *
    clear hW
    obtain ⟨e0, e1, e2, e3, e4, e5⟩ := cells6 HR.out
    have q0 := cell_regrown e0
    have q1 := cell_regrown e1
    have q2 := cell_regrown e2
    have q3 := cell_regrown e3
    have q4 := cell_regrown e4
    have q5 := cell_regrown e5
    have p1 := cell_regrown HD1.out
    have p2 := cell_regrown HD2.out
    cases hst : structB n.kind n.data n.size n.count n.items.length
    · have HX := Lib.hid (HFL.out (by simp [itemB, hst]))
      rw [hst] at HI
      refine wp_region_quiet_below (by kernel_rfl) (by kernel_rfl) ?_
      repeat (first | go_big_quiet_step ((go_at_call 120; exact Calls.regrown_of (HI.out _))) | quiet_step ((go_at_call 120; exact Calls.regrown_of (HI.out _))))
      refine wpQuiet_nil ?_
      intro _ hw'
      obtain ⟨⟨dq, osq⟩, hw''⟩ := hw'
      subst hw''
      have HB2 := Lib.hid (HBA.out.trans ((below_regrown W dq osq).mono HBA.out.size))
      clear q0 q1 q2 q3 q4 q5 e0 e1 e2 e3 e4 e5 p1 p2
      generalize «Sort».grow (redrawn W dq) osq = W2 at *
      go_wp2
      go_ret
      exact ⟨by rw [HX.out]; rfl, HB2.out⟩
    · rw [hst] at HI
      by_cases hz : n.data.size = hdn.data.size
      · have HZ := Lib.hid hz
        have hzb : ((n.data.size : Int) == (hdn.data.size : Int)) = true := by rw [hz]; simp
        have hzn : ((n.data.size : Int) != (hdn.data.size : Int)) = false := by rw [hz]; simp
        clear hz
        by_cases hp : n.ptrs.length = hdn.ptrs.length
        · have HX := Lib.hid (HTR.out (by simp [itemB, hst, HZ.out, hp]))
          have hpn : ((n.ptrs.length : Int) != (hdn.ptrs.length : Int)) = false := by rw [hp]; simp
          clear hp
          refine wp_region_quiet_below (by kernel_rfl) (by kernel_rfl) ?_
          repeat (first | go_big_quiet_step ((go_at_call 120; exact Calls.regrown_of (HI.out _))) | quiet_step ((go_at_call 120; exact Calls.regrown_of (HI.out _))))
          refine wpQuiet_nil ?_
          intro _ hw'
          obtain ⟨⟨dq, osq⟩, hw''⟩ := hw'
          subst hw''
          have HB2 := Lib.hid (HBA.out.trans ((below_regrown W dq osq).mono HBA.out.size))
          clear q0 q1 q2 q3 q4 q5 e0 e1 e2 e3 e4 e5 p1 p2
          generalize «Sort».grow (redrawn W dq) osq = W2 at *
          go_wp2
          go_roundw
          case rel => exact ⟨k + 1, by go_num, by omega, HX, HB2⟩
          case measure => simp [intOf]; omega
        · have HX := Lib.hid (HFL.out (by simp [itemB, hst, HZ.out, hp]))
          have hpn : ((n.ptrs.length : Int) != (hdn.ptrs.length : Int)) = true := by simp; omega
          clear hp
          refine wp_region_quiet_below (by kernel_rfl) (by kernel_rfl) ?_
          repeat (first | go_big_quiet_step ((go_at_call 120; exact Calls.regrown_of (HI.out _))) | quiet_step ((go_at_call 120; exact Calls.regrown_of (HI.out _))))
          refine wpQuiet_nil ?_
          intro _ hw'
          obtain ⟨⟨dq, osq⟩, hw''⟩ := hw'
          subst hw''
          have HB2 := Lib.hid (HBA.out.trans ((below_regrown W dq osq).mono HBA.out.size))
          clear q0 q1 q2 q3 q4 q5 e0 e1 e2 e3 e4 e5 p1 p2
          generalize «Sort».grow (redrawn W dq) osq = W2 at *
          go_wp2
          go_ret
          exact ⟨by rw [HX.out]; rfl, HB2.out⟩
      · have HX := Lib.hid (HFL.out (by simp [itemB, hst, hz]))
        have hzb : ((n.data.size : Int) == (hdn.data.size : Int)) = false := by simp; omega
        have hzn : ((n.data.size : Int) != (hdn.data.size : Int)) = true := by simp; omega
        refine wp_region_quiet_below (by kernel_rfl) (by kernel_rfl) ?_
        repeat (first | go_big_quiet_step ((go_at_call 120; exact Calls.regrown_of (HI.out _))) | quiet_step ((go_at_call 120; exact Calls.regrown_of (HI.out _))))
        refine wpQuiet_nil ?_
        intro _ hw'
        obtain ⟨⟨dq, osq⟩, hw''⟩ := hw'
        subst hw''
        have HB2 := Lib.hid (HBA.out.trans ((below_regrown W dq osq).mono HBA.out.size))
        clear q0 q1 q2 q3 q4 q5 e0 e1 e2 e3 e4 e5 p1 p2
        generalize «Sort».grow (redrawn W dq) osq = W2 at *
        go_wp2
        go_ret
        exact ⟨by rw [HX.out]; rfl, HB2.out⟩
  · obtain rfl : k = l.length := by omega
    rw [List.take_of_length_le (Nat.le_refl _)] at HA
    have HX : Hid (itemsB l = true) := Lib.hid HA.out
    go_wp2
    go_ret
    exact ⟨by rw [HX.out]; rfl, HB.out⟩
end Go.Proofs.YtblcibgphccfkaaGreatDoor
