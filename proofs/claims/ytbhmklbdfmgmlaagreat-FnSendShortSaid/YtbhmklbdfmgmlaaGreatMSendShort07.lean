/- Texts of the proof of the law FnSendShort, side by side: part 7. -/
import Derived.Deep.QuietTactic
import Derived.BigQuiet
import Derived.Test.YtbhmklbdfmgmlaaGreatMSendShort00
import Derived.Test.YtbhmklbdfmgmlaaGreatMSendShort01
import Derived.Test.YtbhmklbdfmgmlaaGreatMSendShort02
import Derived.Test.YtbhmklbdfmgmlaaGreatMSendShort03
import Derived.Test.YtbhmklbdfmgmlaaGreatMSendShort04
import Derived.Test.YtbhmklbdfmgmlaaGreatMSendShort05
import Derived.Test.YtbhmklbdfmgmlaaGreatMSendShort06
/- The parts of a pointer's word as numbers. -/
namespace Go.Proofs.YtbhmklbdfmgmlaaGreat
open Go.RowKit
theorem nat_low (a n : Nat) : a &&& (2 ^ n - 1) = a % 2 ^ n := Nat.and_two_pow_sub_one_eq_mod a n
theorem nat_four (a : Nat) : a &&& 4 = 4 * (a / 4 % 2) := by
  have h : a &&& 4 = (a % 8) &&& 4 := by
    rw [show a % 8 = a &&& 7 from (nat_low a 3).symm, Nat.and_assoc]
    rfl
  have h8 : ∀ r : Nat, r < 8 → r &&& 4 = 4 * (r / 4 % 2) := by decide
  rw [h, h8 _ (Nat.mod_lt _ (by decide))]
  omega
theorem ofInt_32 (a : Nat) (ha : a < 4294967296) : (BitVec.ofInt 32 (a : Int)).toNat = a := by
  rw [BitVec.toNat_ofInt]
  omega
theorem and_u32 (a b : Nat) (ha : a < 4294967296) (hb : b < 4294967296) : bits .and .u32 (a : Int) (b : Int) = ((a &&& b : Nat) : Int) := by
  have hx : a &&& b < 2 ^ 32 := Nat.and_lt_two_pow _ (by omega)
  show IntKind.u32.wrap ((BitVec.ofInt 32 (a : Int) &&& BitVec.ofInt 32 (b : Int)).toNat : Int) = _
  rw [BitVec.toNat_and, ofInt_32 a ha, ofInt_32 b hb, IntKind.wrap_u32]
  omega
theorem and3_64 (a : Nat) (h : a < 4294967296) : bits .and .i64 (a : Int) 3 = ((a % 4 : Nat) : Int) := by
  rw [show (3 : Int) = ((3 : Nat) : Int) from rfl, and_i64 _ _ (by omega) (by omega), nat_low a 2]
theorem and7_64 (a : Nat) (h : a < 4294967296) : bits .and .i64 (a : Int) 7 = ((a % 8 : Nat) : Int) := by
  rw [show (7 : Int) = ((7 : Nat) : Int) from rfl, and_i64 _ _ (by omega) (by omega), nat_low a 3]
theorem andw_64 (a : Nat) (h : a < 4294967296) : bits .and .i64 (a : Int) 65535 = ((a % 65536 : Nat) : Int) := by
  rw [show (65535 : Int) = ((65535 : Nat) : Int) from rfl, and_i64 _ _ (by omega) (by omega), nat_low a 16]
theorem and4_64 (a : Nat) (h : a < 4294967296) : bits .and .i64 (a : Int) 4 = ((4 * (a / 4 % 2) : Nat) : Int) := by
  rw [show (4 : Int) = ((4 : Nat) : Int) from rfl, and_i64 _ _ (by omega) (by omega), nat_four]
theorem and3_32 (a : Nat) (h : a < 4294967296) : bits .and .u32 (a : Int) 3 = ((a % 4 : Nat) : Int) := by
  rw [show (3 : Int) = ((3 : Nat) : Int) from rfl, and_u32 _ _ (by omega) (by omega), nat_low a 2]
theorem and7_32 (a : Nat) (h : a < 4294967296) : bits .and .u32 (a : Int) 7 = ((a % 8 : Nat) : Int) := by
  rw [show (7 : Int) = ((7 : Nat) : Int) from rfl, and_u32 _ _ (by omega) (by omega), nat_low a 3]
theorem andw_32 (a : Nat) (h : a < 4294967296) : bits .and .u32 (a : Int) 65535 = ((a % 65536 : Nat) : Int) := by
  rw [show (65535 : Int) = ((65535 : Nat) : Int) from rfl, and_u32 _ _ (by omega) (by omega), nat_low a 16]
theorem and4_32 (a : Nat) (h : a < 4294967296) : bits .and .u32 (a : Int) 4 = ((4 * (a / 4 % 2) : Nat) : Int) := by
  rw [show (4 : Int) = ((4 : Nat) : Int) from rfl, and_u32 _ _ (by omega) (by omega), nat_four]
/-- thirty bits as a number that may be below 0. -/
def sgn (lo : Nat) : Int := if lo < 2147483648 then ((lo / 4 : Nat) : Int) else ((lo / 4 : Nat) : Int) - 1073741824
/-- the pointer that two halves of a word say. -/
def getP (lo hi : Nat) : Int × Int × Int × Int × Int × Int × Int × Bool :=
  if lo = 0 ∧ hi = 0 then (0, 0, 0, 0, 0, 0, 0, false) else if lo % 4 = 0 then (1, sgn lo, ((hi % 65536 : Nat) : Int), ((hi / 65536 : Nat) : Int), 0, 0, 0, false)
  else if lo % 4 = 1 then (2, sgn lo, 0, 0, ((hi % 8 : Nat) : Int), ((hi / 8 : Nat) : Int), 0, false) else if lo % 4 = 2 then (3, ((lo / 8 : Nat) : Int), 0, 0, 0, 0, (hi : Int), decide (lo / 4 % 2 = 1)) else (4, 0, 0, 0, 0, 0, 0, false)
theorem four_bytes (l : List UInt8) (a : Nat) : leN l a 4 = 0 ↔ l[a]?.getD 0 = 0 ∧ l[a + 1]?.getD 0 = 0 ∧ l[a + 2]?.getD 0 = 0 ∧ l[a + 3]?.getD 0 = 0 := by
  have h : leN l a 4 = (l[a]?.getD 0).toNat + 256 * ((l[a + 1]?.getD 0).toNat + 256 * ((l[a + 2]?.getD 0).toNat + 256 * ((l[a + 3]?.getD 0).toNat + 256 * 0))) := rfl
  rw [h, ← UInt8.toNat_inj, ← UInt8.toNat_inj, ← UInt8.toNat_inj, ← UInt8.toNat_inj]
  simp only [UInt8.toNat_zero]
  omega
end Go.Proofs.YtbhmklbdfmgmlaaGreat

/- Plain facts: the word of a pointer is read back. No Go text. -/
namespace Go.Proofs.YtbhmklbdfmgmlaaGreat
open Go.RowKit
theorem shr_all (n : Int) : ∀ k, shr8 n k = n / 256 ^ k
  | 0 => by simp [shr8]
  | k + 1 => by rw [shr8, shr_all n k, Int.pow_succ, Int.ediv_ediv_of_nonneg (Int.pow_nonneg (by decide))]
theorem leB_add (n : Int) : ∀ (a b : Nat), leB n (a + b) = leB n a ++ leB (n / 256 ^ a) b
  | 0, b => by simp [leB]
  | a + 1, b => by
    rw [show a + 1 + b = (a + b) + 1 by omega, leB, leB, leB_add (n / 256) a b, List.cons_append, Int.pow_succ, Int.mul_comm (256 ^ a) 256, Int.ediv_ediv_of_nonneg (by decide)]
theorem leB_md (n m : Int) : ∀ (k : Nat) (c : Int), n = m + c * 256 ^ k → leB n k = leB m k
  | 0, _, _ => rfl
  | k + 1, c, h => by
    have e : n = m + 256 * (c * 256 ^ k) := by rw [h, Int.pow_succ, Int.mul_comm (256 ^ k) 256, ← Int.mul_assoc, Int.mul_comm c 256, Int.mul_assoc]
    rw [leB, leB, leB_md (n / 256) (m / 256) k c (by omega), show n % 256 = m % 256 by omega]
/-- eight bytes of two numbers. -/
theorem leB_two (lo hi : Int) (h0 : 0 ≤ lo) (h1 : lo < 4294967296) : leB (lo + 4294967296 * hi) 8 = leB lo 4 ++ leB hi 4 := by
  have h := leB_add (lo + 4294967296 * hi) 4 4
  have e : (256 : Int) ^ 4 = 4294967296 := rfl
  rw [e, show (lo + 4294967296 * hi) / 4294967296 = hi by omega] at h
  rw [h, leB_md (lo + 4294967296 * hi) lo 4 hi (by rw [e]; omega)]
theorem leB_four (d p : Int) (h0 : 0 ≤ d) (h1 : d < 65536) : leB (d + 65536 * p) 4 = leB d 2 ++ leB p 2 := by
  have h := leB_add (d + 65536 * p) 2 2
  have e : (256 : Int) ^ 2 = 65536 := rfl
  rw [e, show (d + 65536 * p) / 65536 = p by omega] at h
  rw [h, leB_md (d + 65536 * p) d 2 p (by rw [e]; omega)]
/-- a distance in its thirty bits. -/
def offN (o : Int) : Int := o % 1073741824 * 4
theorem offN_bd (o : Int) : 0 ≤ offN o ∧ offN o ≤ 4294967292 := by unfold offN; omega
theorem sgn_off (o : Int) (lo : Nat) (hl : (lo : Int) = offN o ∨ (lo : Int) = offN o + 1) (h0 : -536870912 ≤ o) (h1 : o ≤ 536870911) : sgn lo = o := by
  unfold offN at hl
  unfold sgn
  split <;> omega
theorem getP_str (o d p : Int) (lo hi : Nat) (hlo : (lo : Int) = offN o) (hhi : (hi : Int) = d + 65536 * p) (h0 : -536870912 ≤ o) (h1 : o ≤ 536870911) (hd0 : 0 ≤ d) (hd1 : d < 65536) (hp0 : 0 ≤ p) (_hp1 : p < 65536) (hz : ¬ (o = 0 ∧ d = 0 ∧ p = 0)) :
    getP lo hi = (1, o, d, p, 0, 0, 0, false) := by
  have hs := sgn_off o lo (.inl hlo) h0 h1
  have hne : ¬ (lo = 0 ∧ hi = 0) := by unfold offN at hlo; omega
  have h4 : lo % 4 = 0 := by unfold offN at hlo; omega
  rw [getP, if_neg hne, if_pos h4, hs, show ((hi % 65536 : Nat) : Int) = d by omega, show ((hi / 65536 : Nat) : Int) = p by omega]
theorem getP_lis (o s c : Int) (lo hi : Nat) (hlo : (lo : Int) = offN o + 1) (hhi : (hi : Int) = c * 8 + s) (h0 : -536870912 ≤ o) (h1 : o ≤ 536870911) (hs0 : 0 ≤ s) (hs1 : s < 8) (hc0 : 0 ≤ c) :
    getP lo hi = (2, o, 0, 0, s, c, 0, false) := by
  have hs := sgn_off o lo (.inr hlo) h0 h1
  have h4 : lo % 4 = 1 := by unfold offN at hlo; omega
  rw [getP, if_neg (by omega), if_neg (by omega), if_pos h4, hs, show ((hi % 8 : Nat) : Int) = s by omega, show ((hi / 8 : Nat) : Int) = c by omega]
theorem getP_far (o g : Int) (t : Bool) (lo hi : Nat) (hlo : (lo : Int) = if t then o * 8 + 6 else o * 8 + 2) (hhi : (hi : Int) = g) (h0 : 0 ≤ o) :
    getP lo hi = (3, o, 0, 0, 0, 0, g, t) := by
  cases t
  · simp only [Bool.false_eq_true, if_false] at hlo
    rw [getP, if_neg (by omega), if_neg (by omega), if_neg (by omega), if_pos (by omega), show ((lo / 8 : Nat) : Int) = o by omega, hhi, show decide (lo / 4 % 2 = 1) = false by simp; omega]
  · simp only [if_true] at hlo
    rw [getP, if_neg (by omega), if_neg (by omega), if_neg (by omega), if_pos (by omega), show ((lo / 8 : Nat) : Int) = o by omega, hhi, show decide (lo / 4 % 2 = 1) = true by simp; omega]
/-- the two numbers of a word. -/
theorem two_of (lo hi : Int) (h0 : 0 ≤ lo) (h1 : lo < 4294967296) (g0 : 0 ≤ hi) (g1 : hi < 4294967296) :
    ((leN (leB lo 4 ++ leB hi 4) 0 4 : Nat) : Int) = lo ∧ ((leN (leB lo 4 ++ leB hi 4) 4 4 : Nat) : Int) = hi := by
  have e : (256 : Int) ^ 4 = 4294967296 := rfl
  constructor
  · rw [leN_congr (leB lo 4 ++ leB hi 4) (leB lo 4) 4 0 0 (fun i hi => by rw [List.getElem?_append_left (by rw [leB_length]; omega)]), leN_leB, e]; omega
  · rw [leN_congr (leB lo 4 ++ leB hi 4) (leB hi 4) 4 4 0 (fun i hi => by rw [List.getElem?_append_right (by rw [leB_length]; omega), leB_length]; congr 1; omega), leN_leB, e]; omega
theorem word_two (l : List UInt8) (h : l.length = 8) : leB ((leN l 0 4 : Nat) : Int) 4 ++ leB ((leN l 4 4 : Nat) : Int) 4 = l := by
  rw [leB_leN l 4 0 (by omega), leB_leN l 4 4 (by omega), List.drop_zero, List.take_of_length_le (l := l.drop 4) (by simp; omega), List.take_append_drop]
/-- what a word says can be written, as that word. -/
theorem getP_put (lo hi : Nat) (hlo : lo < 4294967296) (hhi : hi < 4294967296) :
    (lo = 0 ∧ hi = 0 ∧ getP lo hi = (0, 0, 0, 0, 0, 0, 0, false)) ∨
    (∃ o d p : Int, getP lo hi = (1, o, d, p, 0, 0, 0, false) ∧ (-536870912 ≤ o ∧ o ≤ 536870911) ∧ (0 ≤ d ∧ d < 65536) ∧ (0 ≤ p ∧ p < 65536) ∧ ¬ (o = 0 ∧ d = 0 ∧ p = 0) ∧ offN o = lo ∧ d + 65536 * p = hi) ∨
    (∃ o s c : Int, getP lo hi = (2, o, 0, 0, s, c, 0, false) ∧ (-536870912 ≤ o ∧ o ≤ 536870911) ∧ (0 ≤ s ∧ s < 8) ∧ (0 ≤ c ∧ c < 536870912) ∧ offN o + 1 = lo ∧ c * 8 + s = hi) ∨
    (∃ (o g : Int) (t : Bool), getP lo hi = (3, o, 0, 0, 0, 0, g, t) ∧ (0 ≤ o ∧ o ≤ 536870911) ∧ (0 ≤ g ∧ g < 4294967296) ∧ (if t then o * 8 + 6 else o * 8 + 2) = (lo : Int) ∧ g = hi) ∨
    getP lo hi = (4, 0, 0, 0, 0, 0, 0, false) := by
  by_cases h00 : lo = 0 ∧ hi = 0
  · exact .inl ⟨h00.1, h00.2, by rw [getP, if_pos h00]⟩
  by_cases h0 : lo % 4 = 0
  · refine .inr (.inl ⟨sgn lo, ((hi % 65536 : Nat) : Int), ((hi / 65536 : Nat) : Int), by rw [getP, if_neg h00, if_pos h0], ?_, by omega, by omega, ?_, ?_, by omega⟩)
    · unfold sgn; split <;> omega
    · unfold sgn; split <;> omega
    · unfold sgn offN; split <;> omega
  by_cases h1 : lo % 4 = 1
  · refine .inr (.inr (.inl ⟨sgn lo, ((hi % 8 : Nat) : Int), ((hi / 8 : Nat) : Int), by rw [getP, if_neg h00, if_neg h0, if_pos h1], ?_, by omega, by omega, ?_, by omega⟩))
    · unfold sgn; split <;> omega
    · unfold sgn offN; split <;> omega
  by_cases h2 : lo % 4 = 2
  · refine .inr (.inr (.inr (.inl ⟨((lo / 8 : Nat) : Int), (hi : Int), decide (lo / 4 % 2 = 1), by rw [getP, if_neg h00, if_neg h0, if_neg h1, if_pos h2], by omega, by omega, ?_, rfl⟩)))
    by_cases ht : lo / 4 % 2 = 1
    · rw [if_pos (by simpa using ht)]; omega
    · rw [if_neg (by simpa using ht)]; omega
  · exact .inr (.inr (.inr (.inr (by rw [getP, if_neg h00, if_neg h0, if_neg h1, if_neg h2]))))
end Go.Proofs.YtbhmklbdfmgmlaaGreat

/- Nodes as words in segments: plainly. No Go text. -/
namespace Go.Proofs.YtbhmklbdfmgmlaaGreat
open Go.RowKit
abbrev Segs := List (List UInt8)
def sgS (ss : Segs) (i : Nat) : List UInt8 := ss[i]?.getD []
def wn (s : List UInt8) : Nat := s.length / 8
/-- all words. -/
def totS (ss : Segs) : Nat := (ss.map wn).sum
def zer (k : Nat) : List UInt8 := List.replicate (8 * k) 0
/-- some bytes in the place of others. -/
def spl (s : List UInt8) (p : Nat) (t : List UInt8) : List UInt8 := s.take p ++ t ++ s.drop (p + t.length)
def growB (ss : Segs) (i k : Nat) : Segs := ss.set i (sgS ss i ++ zer k)
def putS (ss : Segs) (i a : Nat) (t : List UInt8) : Segs := ss.set i (spl (sgS ss i) (8 * a) t)
def w8 (lo hi : Int) : List UInt8 := leB lo 4 ++ leB hi 4
/-- the pointer to a node, so far off. -/
def ptrW (n : Nd) (off : Int) : List UInt8 :=
  if n.kind = 1 then w8 (offN off) ((n.data.size / 8 : Nat) + 65536 * (n.ptrs.length : Int))
  else if n.size = 7 then w8 (offN off + 1) (((ownN n : Int) - 1) * 8 + 7) else w8 (offN off + 1) (n.count * 8 + n.size)
def farW (off seg : Nat) : List UInt8 := w8 ((off : Int) * 8 + 2) seg
/-- what an item has. -/
def itD (n : Nd) : Nat := (n.items.headD default).data.size / 8
def itP (n : Nd) : Nat := (n.items.headD default).ptrs.length
def tagW (n : Nd) : List UInt8 := w8 (offN n.count) ((itD n : Nat) + 65536 * (itP n : Int))
/-- another segment than that of the pointer. -/
def otherP (size : Nat) (ss : Segs) (k : Nat) : Option (Segs × Nat) :=
  if wn (sgS ss (ss.length - 1)) + k ≤ size then some (ss, ss.length - 1) else if ss.length < 6 then some (ss ++ [[]], ss.length) else none
/-- where a node's own words stand, the pointer being written. -/
def roomP (L size : Nat) (n : Nd) (ss : Segs) (i a : Nat) : Option (Segs × Nat × Nat) :=
  if wn (sgS ss i) + ownN n ≤ size then
    (if totS ss + ownN n ≤ L then some (putS (growB ss i (ownN n)) i a (ptrW n ((wn (sgS ss i) : Int) - a - 1)), i, wn (sgS ss i)) else none)
  else match otherP size ss (1 + ownN n) with
    | none => none
    | some (s1, j) => if totS s1 + (1 + ownN n) ≤ L then some (putS (putS (growB s1 j (1 + ownN n)) i a (farW (wn (sgS s1 j)) j)) j (wn (sgS s1 j)) (ptrW n 0), j, wn (sgS s1 j) + 1) else none
abbrev Wr := Nd → Segs → Nat → Nat → Option Segs
def ptrsP (wr : Wr) : List Nd → Segs → Nat → Nat → Option Segs
  | [], ss, _, _ => some ss
  | p :: t, ss, i, a => (wr p ss i a).bind fun s1 => ptrsP wr t s1 i (a + 1)
def bodyP (wr : Wr) (n : Nd) (ss : Segs) (i a : Nat) : Option Segs := ptrsP wr n.ptrs (putS ss i a n.data.data.toList) i (a + (n.data.size + 7) / 8)
def itemsP (wr : Wr) (each : Nat) : List Nd → Segs → Nat → Nat → Option Segs
  | [], ss, _, _ => some ss
  | y :: t, ss, i, a => (bodyP wr y ss i a).bind fun s1 => itemsP wr each t s1 i (a + each)
def fillP (wr : Wr) (n : Nd) (ss : Segs) (i a : Nat) : Option Segs :=
  if n.kind = 2 ∧ n.size = 7 then itemsP wr (itD n + itP n) n.items (putS ss i a (tagW n)) i (a + 1) else bodyP wr n ss i a
/-- a node with all within, and the pointer to it at a word; none, if there would be too much. -/
def wrP (L size : Nat) : Nat → Wr
  | 0, _, ss, _, _ => some ss
  | d + 1, n, ss, i, a =>
    if n.kind = 0 then some ss
    else if ownN n = 0 then some (putS ss i a (ptrW n (if n.kind = 1 then -1 else 0)))
    else (roomP L size n ss i a).bind fun r => fillP (wrP L size d) n r.1 r.2.1 r.2.2
def buildP (L size : Nat) (n : Nd) : Option Segs := wrP L size 8 n [zer 1] 0 0
theorem ptrsP_snoc (wr : Wr) : ∀ (l : List Nd) (p : Nd) (ss : Segs) (i a : Nat), ptrsP wr (l ++ [p]) ss i a = (ptrsP wr l ss i a).bind fun s1 => wr p s1 i (a + l.length)
  | [], p, ss, i, a => by simp [ptrsP]
  | q :: t, p, ss, i, a => by
    simp only [List.cons_append, ptrsP, Option.bind_assoc, List.length_cons]
    congr 1
    funext s1
    rw [ptrsP_snoc wr t p s1 i (a + 1), show a + 1 + t.length = a + (t.length + 1) by omega]
theorem itemsP_snoc (wr : Wr) (each : Nat) : ∀ (l : List Nd) (p : Nd) (ss : Segs) (i a : Nat), itemsP wr each (l ++ [p]) ss i a = (itemsP wr each l ss i a).bind fun s1 => bodyP wr p s1 i (a + l.length * each)
  | [], p, ss, i, a => by simp [itemsP]
  | q :: t, p, ss, i, a => by
    simp only [List.cons_append, itemsP, Option.bind_assoc, List.length_cons]
    congr 1
    funext s1
    rw [itemsP_snoc wr each t p s1 i (a + each), show a + each + t.length * each = a + (t.length + 1) * each by rw [Nat.add_mul]; omega]
theorem ptrsP_none (wr : Wr) : ∀ (l m : List Nd) (ss : Segs) (i a : Nat), ptrsP wr l ss i a = none → ptrsP wr (l ++ m) ss i a = none
  | [], m, ss, i, a, h => by cases h
  | q :: t, m, ss, i, a, h => by
    simp only [List.cons_append, ptrsP] at h ⊢
    cases hq : wr q ss i a with
    | none => rfl
    | some s1 => rw [hq] at h; exact ptrsP_none wr t m s1 i (a + 1) h
theorem itemsP_none (wr : Wr) (each : Nat) : ∀ (l m : List Nd) (ss : Segs) (i a : Nat), itemsP wr each l ss i a = none → itemsP wr each (l ++ m) ss i a = none
  | [], m, ss, i, a, h => by cases h
  | q :: t, m, ss, i, a, h => by
    simp only [List.cons_append, itemsP] at h ⊢
    cases hq : bodyP wr q ss i a with
    | none => rfl
    | some s1 => rw [hq] at h; exact itemsP_none wr each t m s1 i (a + each) h
/-- by one more. -/
theorem ptrsP_take (wr : Wr) (l : List Nd) (k : Nat) (hk : k < l.length) (ss : Segs) (i a : Nat) : ptrsP wr (l.take (k + 1)) ss i a = (ptrsP wr (l.take k) ss i a).bind fun s1 => wr l[k] s1 i (a + k) := by
  rw [List.take_succ_eq_append_getElem hk, ptrsP_snoc, List.length_take, Nat.min_eq_left (by omega)]
theorem itemsP_take (wr : Wr) (each : Nat) (l : List Nd) (k : Nat) (hk : k < l.length) (ss : Segs) (i a : Nat) : itemsP wr each (l.take (k + 1)) ss i a = (itemsP wr each (l.take k) ss i a).bind fun s1 => bodyP wr l[k] s1 i (a + k * each) := by
  rw [List.take_succ_eq_append_getElem hk, itemsP_snoc, List.length_take, Nat.min_eq_left (by omega)]
theorem ptrsP_cut (wr : Wr) (l : List Nd) (k : Nat) (ss : Segs) (i a : Nat) (h : ptrsP wr (l.take k) ss i a = none) : ptrsP wr l ss i a = none := by
  have := ptrsP_none wr (l.take k) (l.drop k) ss i a h
  rwa [List.take_append_drop] at this
theorem itemsP_cut (wr : Wr) (each : Nat) (l : List Nd) (k : Nat) (ss : Segs) (i a : Nat) (h : itemsP wr each (l.take k) ss i a = none) : itemsP wr each l ss i a = none := by
  have := itemsP_none wr each (l.take k) (l.drop k) ss i a h
  rwa [List.take_append_drop] at this
theorem sgS_set {ss : Segs} {i : Nat} {x : List UInt8} (h : i < ss.length) (j : Nat) : sgS (ss.set i x) j = if j = i then x else sgS ss j := by
  unfold sgS
  rw [List.getElem?_set]
  by_cases e : i = j
  · subst e; simp [h]
  · rw [if_neg e, if_neg (fun x => e x.symm)]
theorem sgS_app {ss : Segs} {x : List UInt8} (j : Nat) : sgS (ss ++ [x]) j = if j = ss.length then x else sgS ss j := by
  unfold sgS
  by_cases e : j < ss.length
  · rw [List.getElem?_append_left e, if_neg (by omega)]
  · rw [List.getElem?_append_right (by omega)]
    by_cases e2 : j = ss.length
    · subst e2; simp
    · rw [if_neg e2, List.getElem?_eq_none (by simp; omega), List.getElem?_eq_none (by omega)]
theorem sgS_out {ss : Segs} {i : Nat} (h : ss.length ≤ i) : sgS ss i = [] := by unfold sgS; rw [List.getElem?_eq_none h]; rfl
theorem spl_length {s t : List UInt8} {p : Nat} (h : p + t.length ≤ s.length) : (spl s p t).length = s.length := by
  unfold spl; simp only [List.length_append, List.length_take, List.length_drop]; omega
theorem putS_length (ss : Segs) (i a : Nat) (t : List UInt8) : (putS ss i a t).length = ss.length := by unfold putS; simp
theorem growB_length (ss : Segs) (i k : Nat) : (growB ss i k).length = ss.length := by unfold growB; simp
theorem zer_length (k : Nat) : (zer k).length = 8 * k := by simp [zer]
theorem w8_length (a b : Int) : (w8 a b).length = 8 := by unfold w8; rw [List.length_append, leB_length, leB_length]
theorem ptrW_length (n : Nd) (o : Int) : (ptrW n o).length = 8 := by
  unfold ptrW
  split
  · exact w8_length _ _
  · split <;> exact w8_length _ _
theorem farW_length (a b : Nat) : (farW a b).length = 8 := w8_length _ _
theorem tagW_length (n : Nd) : (tagW n).length = 8 := w8_length _ _
/-- whole words. -/
def WdS (ss : Segs) : Prop := ∀ i, (sgS ss i).length % 8 = 0
/-- as many segments, each as long. -/
def Alen (ss s1 : Segs) : Prop := ss.length = s1.length ∧ ∀ i, (sgS ss i).length = (sgS s1 i).length
/-- at least as many, each at least as long. -/
def Grew (ss s1 : Segs) : Prop := ss.length ≤ s1.length ∧ ∀ i, (sgS ss i).length ≤ (sgS s1 i).length
theorem Alen.grew {ss s1 : Segs} (h : Alen ss s1) : Grew ss s1 := ⟨Nat.le_of_eq h.1, fun i => Nat.le_of_eq (h.2 i)⟩
theorem Grew.refl (ss : Segs) : Grew ss ss := ⟨Nat.le_refl _, fun _ => Nat.le_refl _⟩
theorem Grew.trans {a b c : Segs} (h : Grew a b) (g : Grew b c) : Grew a c := ⟨Nat.le_trans h.1 g.1, fun i => Nat.le_trans (h.2 i) (g.2 i)⟩
theorem Grew.wn {a b : Segs} (h : Grew a b) (i : Nat) : wn (sgS a i) ≤ wn (sgS b i) := Nat.div_le_div_right (h.2 i)
theorem Alen.wds {a b : Segs} (h : Alen a b) (hw : WdS a) : WdS b := fun i => by rw [← h.2 i]; exact hw i
theorem totS_set {ss : Segs} : ∀ {i : Nat} (x : List UInt8), i < ss.length → totS (ss.set i x) + wn (sgS ss i) = totS ss + wn x := by
  induction ss with
  | nil => intro i x h; cases h
  | cons s t ih =>
    intro i x h
    cases i with
    | zero => simp [totS, sgS]; omega
    | succ i =>
      have := ih (i := i) x (by simpa using h)
      simp only [totS, sgS, List.set_cons_succ, List.map_cons, List.sum_cons, List.getElem?_cons_succ] at this ⊢
      omega
theorem totS_app (ss : Segs) (x : List UInt8) : totS (ss ++ [x]) = totS ss + wn x := by simp [totS]
theorem wn_le_totS (ss : Segs) (i : Nat) : wn (sgS ss i) ≤ totS ss := by
  by_cases h : i < ss.length
  · have := totS_set (ss := ss) (i := i) [] h
    have : wn [] = 0 := rfl
    omega
  · rw [sgS_out (by omega)]; exact Nat.zero_le _
theorem spl_alen {ss : Segs} {i o : Nat} {t : List UInt8} (h : i < ss.length) (ha : o + t.length ≤ (sgS ss i).length) : Alen ss (ss.set i (spl (sgS ss i) o t)) := by
  refine ⟨by simp, fun j => ?_⟩
  rw [sgS_set h]
  split
  · rename_i e; subst e; exact (spl_length ha).symm
  · rfl
theorem put_alen {ss : Segs} {i a : Nat} {t : List UInt8} (h : i < ss.length) (ha : 8 * a + t.length ≤ (sgS ss i).length) : Alen ss (putS ss i a t) := by
  refine ⟨(putS_length _ _ _ _).symm, fun j => ?_⟩
  unfold putS
  rw [sgS_set h]
  split
  · rename_i e; subst e; exact (spl_length ha).symm
  · rfl
theorem alen_totS : ∀ {a b : Segs}, Alen a b → totS a = totS b
  | [], [], _ => rfl
  | [], _ :: _, h => by cases h.1
  | _ :: _, [], h => by cases h.1
  | x :: a, y :: b, h => by
    have h1 : wn x = wn y := by have := h.2 0; simp [sgS] at this; unfold wn; rw [this]
    have h2 : totS a = totS b := alen_totS ⟨by have := h.1; simpa using this, fun i => by have := h.2 (i + 1); simpa [sgS] using this⟩
    simp only [totS, List.map_cons, List.sum_cons] at h2 ⊢
    omega
theorem put_totS {ss : Segs} {i a : Nat} {t : List UInt8} (h : i < ss.length) (ha : 8 * a + t.length ≤ (sgS ss i).length) : totS (putS ss i a t) = totS ss := (alen_totS (put_alen h ha)).symm
theorem sgS_grow {ss : Segs} {i k : Nat} (h : i < ss.length) (j : Nat) : sgS (growB ss i k) j = if j = i then sgS ss i ++ zer k else sgS ss j := sgS_set h j
theorem wn_grow {ss : Segs} {i k : Nat} (h : i < ss.length) : wn (sgS (growB ss i k) i) = wn (sgS ss i) + k := by
  rw [sgS_grow h, if_pos rfl]; unfold wn; rw [List.length_append, zer_length]; omega
theorem grow_grew {ss : Segs} {i k : Nat} (h : i < ss.length) : Grew ss (growB ss i k) := by
  refine ⟨Nat.le_of_eq (growB_length _ _ _).symm, fun j => ?_⟩
  rw [sgS_grow h]; split
  · rename_i e; subst e; simp
  · exact Nat.le_refl _
theorem grow_wds {ss : Segs} {i k : Nat} (h : i < ss.length) (hw : WdS ss) : WdS (growB ss i k) := by
  intro j
  rw [sgS_grow h]; split
  · rename_i e; subst e; rw [List.length_append, zer_length]; have := hw j; omega
  · exact hw j
theorem grow_totS {ss : Segs} {i k : Nat} (h : i < ss.length) : totS (growB ss i k) = totS ss + k := by
  have := totS_set (ss := ss) (i := i) (sgS ss i ++ zer k) h
  unfold growB
  have h2 : wn (sgS ss i ++ zer k) = wn (sgS ss i) + k := by unfold wn; rw [List.length_append, zer_length]; omega
  omega
theorem app_grew (ss : Segs) : Grew ss (ss ++ [[]]) := by
  refine ⟨by simp, fun j => ?_⟩
  rw [sgS_app]; split
  · rename_i e; subst e; rw [sgS_out (Nat.le_refl _)]; exact Nat.le_refl _
  · exact Nat.le_refl _
theorem app_wds {ss : Segs} (hw : WdS ss) : WdS (ss ++ [[]]) := by
  intro j; rw [sgS_app]; split
  · rfl
  · exact hw j
theorem wds_len {ss : Segs} (h : WdS ss) (i : Nat) : (sgS ss i).length = 8 * wn (sgS ss i) := by unfold wn; have := h i; omega
/-- byte by byte. -/
theorem spl_step (s t : List UInt8) (p k : Nat) (hk : k < t.length) (h : p + t.length ≤ s.length) : spl (spl s p (t.take k)) (p + k) [t[k]] = spl s p (t.take (k + 1)) := by
  have hl : (t.take k).length = k := by rw [List.length_take]; omega
  have hl1 : (t.take (k + 1)).length = k + 1 := by rw [List.length_take]; omega
  have e0 : (s.take p).length = p := by rw [List.length_take]; omega
  unfold spl
  rw [hl, hl1, List.length_singleton]
  have e1 : (s.take p ++ t.take k ++ s.drop (p + k)).take (p + k) = s.take p ++ t.take k := List.take_left' (by rw [List.length_append, e0, hl])
  have e2 : (s.take p ++ t.take k ++ s.drop (p + k)).drop (p + k + 1) = s.drop (p + (k + 1)) := by
    rw [← List.drop_drop, List.drop_left' (by rw [List.length_append, e0, hl]), List.drop_drop]
    congr 1
  rw [e1, e2, List.take_succ_eq_append_getElem hk]
  simp
theorem spl_nil (s : List UInt8) (p : Nat) : spl s p [] = s := by unfold spl; simp
theorem set_sgS (ss : Segs) (i : Nat) : ss.set i (sgS ss i) = ss := by
  apply List.ext_getElem?
  intro j
  rw [List.getElem?_set]
  split
  · rename_i e
    subst e
    split
    · rename_i h; unfold sgS; rw [List.getElem?_eq_getElem h]; rfl
    · rename_i h; rw [List.getElem?_eq_none (by omega)]
  · rfl
theorem putS_nil (ss : Segs) (i a : Nat) : putS ss i a [] = ss := by unfold putS; rw [spl_nil, set_sgS]
theorem putS_step (ss : Segs) (i a k : Nat) (t : List UInt8) (hi : i < ss.length) (hk : k < t.length) (h : 8 * a + t.length ≤ (sgS ss i).length) :
    (putS ss i a (t.take k)).set i (spl (sgS (putS ss i a (t.take k)) i) (8 * a + k) [t[k]]) = putS ss i a (t.take (k + 1)) := by
  have e : sgS (putS ss i a (t.take k)) i = spl (sgS ss i) (8 * a) (t.take k) := by unfold putS; rw [sgS_set hi, if_pos rfl]
  rw [e, spl_step _ _ _ _ hk h]
  unfold putS
  rw [List.set_set]
end Go.Proofs.YtbhmklbdfmgmlaaGreat

/- the specification's l1Zero. -/
namespace Go.Proofs.YtbhmklbdfmgmlaaGreat
open Go.RowKit
def zerB (l : List UInt8) : Bool := l.all (· == 0)
set_option maxHeartbeats 400000 in
theorem l1Zero_any (s : ByteArray) (w : World) (hs : s.size ≤ maxLen) :
    Calls Tryz.prog 62 #[.string s] w fun e w' => e = .returned (.bool (zerB s.data.toList)) ∧ w = w' := by
  unfold maxLen at hs
  have hl : s.data.toList.length = s.size := by simp
  have HL := Lib.hid hl
  clear hl
  go_enter Tryz.func62, Tryz.ntmps62
  go_wp2
  go_loop [3] (fun i => ∃ k : Nat, k ≤ s.size ∧ i = .int .i64 (k : Int) ∧ ∀ j, j < k → s.data.toList[j]?.getD 0 = 0) (fun i => (s.size - intOf i).toNat)
  case atStart => exact ⟨0, by omega, by simp, fun j hj => by omega⟩
  case round =>
    obtain ⟨k, hk, rfl, hz⟩ := hrel
    have HZ := Lib.hid hz
    clear hz
    by_cases hlt : k < s.size
    · have hg := bytes_get s k hlt
      have HG := Lib.hid hg
      clear hg
      by_cases hb : s[k] = 0
      · have hb' : (((s[k]).toNat : Int) == 0) = true := by simp [hb]
        have HB := Lib.hid hb
        clear hb
        go_wp2
        go_round
        case rel =>
          refine ⟨k + 1, by omega, by go_num, fun j hj => ?_⟩
          by_cases hjk : j < k
          · exact HZ.out j hjk
          · obtain rfl : j = k := by omega
            rw [HG.out, HB.out]
        case measure => simp [intOf]; omega
      · have hb' : (((s[k]).toNat : Int) == 0) = false := by
          rw [beq_eq_false_iff_ne]
          intro h
          exact hb (UInt8.toNat_inj.1 (by simpa using h))
        have HB := Lib.hid hb
        clear hb
        go_wp2
        go_ret
        refine ⟨ret_bool ?_, rfl⟩
        rw [eq_comm, zerB, List.all_eq_false]
        refine ⟨s[k], ?_, by simpa using HB.out⟩
        rw [← HG.out, List.getElem?_eq_getElem (by rw [HL.out]; exact hlt)]
        exact List.getElem_mem _
    · go_wp2
      go_ret
      refine ⟨ret_bool ?_, rfl⟩
      rw [eq_comm, zerB, List.all_eq_true]
      intro x hx
      obtain ⟨j, hj, rfl⟩ := List.mem_iff_getElem.1 hx
      have := HZ.out j (by rw [HL.out] at hj; omega)
      rw [List.getElem?_eq_getElem hj] at this
      simpa using this
/-- how many of the first k words are left when words of noughts are taken from their end. -/
def trimN (l : List UInt8) : Nat → Nat
  | 0 => 0
  | k + 1 => if zerB ((l.drop (8 * k)).take 8) then trimN l k else k + 1
theorem trimN_le (l : List UInt8) : ∀ k, trimN l k ≤ k
  | 0 => Nat.le_refl _
  | k + 1 => by
    unfold trimN
    split
    · have := trimN_le l k; omega
    · omega
end Go.Proofs.YtbhmklbdfmgmlaaGreat

/- Words without noughts at the end, purely. -/
namespace Go.Proofs.YtbhmklbdfmgmlaaGreat
open Go.RowKit
theorem trimQ_idem (l : List UInt8) : ∀ k, trimN l (trimN l k) = trimN l k
  | 0 => rfl
  | k + 1 => by
    rw [trimN]
    split
    · exact trimQ_idem l k
    · rename_i h; rw [trimN, if_neg h]
theorem trimQ_zero (l : List UInt8) : ∀ (k q : Nat), trimN l k ≤ q → q < k → zerB ((l.drop (8 * q)).take 8) = true
  | 0, _, _, h => absurd h (by omega)
  | k + 1, q, h1, h2 => by
    rw [trimN] at h1
    split at h1
    · rename_i hz
      by_cases he : q = k
      · rw [he]; exact hz
      · exact trimQ_zero l k q h1 (by omega)
    · omega
theorem trimQ_top (l : List UInt8) : ∀ (k : Nat), 0 < trimN l k → zerB ((l.drop (8 * (trimN l k - 1))).take 8) = false
  | 0, h => absurd h (by simp [trimN])
  | k + 1, h => by
    rw [trimN] at h ⊢
    split at h
    · rename_i hz; rw [if_pos hz]; exact trimQ_top l k h
    · rename_i hz; rw [if_neg hz]; simpa using hz
theorem trimQ_congr (l m : List UInt8) : ∀ k, (∀ q, q < k → (l.drop (8 * q)).take 8 = (m.drop (8 * q)).take 8) → trimN l k = trimN m k
  | 0, _ => rfl
  | k + 1, h => by rw [trimN, trimN, h k (by omega), trimQ_congr l m k (fun q hq => h q (by omega))]
theorem trimQ_more (l : List UInt8) (t : Nat) : ∀ k, (∀ q, t ≤ q → q < t + k → zerB ((l.drop (8 * q)).take 8) = true) → trimN l (t + k) = trimN l t
  | 0, _ => rfl
  | k + 1, h => by rw [← Nat.add_assoc, trimN, if_pos (h (t + k) (by omega) (by omega)), trimQ_more l t k (fun q h1 h2 => h q h1 (by omega))]
/-- how many words are left; the words that are left. -/
def tw (l : List UInt8) : Nat := trimN l (l.length / 8)
def trimL (l : List UInt8) : List UInt8 := l.take (8 * tw l)
theorem tw_le (l : List UInt8) : tw l ≤ l.length / 8 := trimN_le l _
theorem trimL_length (l : List UInt8) : (trimL l).length = 8 * tw l := by
  have := tw_le l
  unfold trimL
  rw [List.length_take]
  omega
theorem zer_of_all {l : List UInt8} (h : ∀ x ∈ l, x = 0) : zerB l = true := by
  unfold zerB
  rw [List.all_eq_true]
  intro x hx
  rw [h x hx]; rfl
theorem zer_all {l : List UInt8} (h : zerB l = true) : ∀ x ∈ l, x = 0 := by
  unfold zerB at h
  rw [List.all_eq_true] at h
  intro x hx
  simpa using h x hx
/-- behind what is left are noughts. -/
theorem trimL_cut {l : List UInt8} {j : Nat} (h8 : l.length % 8 = 0) (h1 : tw l ≤ j) (h2 : 8 * j ≤ l.length) : l.take (8 * j) = trimL l ++ List.replicate (8 * (j - tw l)) 0 := by
  have hs : l.take (8 * j) = l.take (8 * tw l) ++ (l.drop (8 * tw l)).take (8 * (j - tw l)) := by
    rw [show 8 * j = 8 * tw l + 8 * (j - tw l) by omega, List.take_add]
  rw [hs]
  unfold trimL
  congr 1
  apply List.eq_replicate_iff.2
  refine ⟨by simp; omega, ?_⟩
  intro x hx
  obtain ⟨i, hi, rfl⟩ := List.mem_iff_getElem.1 hx
  have hil : i < 8 * (j - tw l) := by simp at hi; omega
  have hq := trimQ_zero l (l.length / 8) (tw l + i / 8) (by unfold tw; omega) (by omega)
  refine zer_all hq _ ?_
  rw [List.getElem_take, List.getElem_drop]
  refine List.mem_iff_getElem?.2 ⟨i % 8, ?_⟩
  rw [List.getElem?_take_of_lt (Nat.mod_lt _ (by decide)), List.getElem?_drop]
  rw [show 8 * (tw l + i / 8) + i % 8 = 8 * tw l + i by omega]
  exact List.getElem?_eq_getElem _
/-- with noughts behind it is left as it is. -/
theorem trimL_pad (l : List UInt8) (k : Nat) : trimL (trimL l ++ List.replicate (8 * k) 0) = trimL l := by
  have hl := trimL_length l
  have hlen : (trimL l ++ List.replicate (8 * k) (0 : UInt8)).length / 8 = tw l + k := by rw [List.length_append, hl, List.length_replicate]; omega
  have h1 : tw (trimL l ++ List.replicate (8 * k) 0) = tw l := by
    unfold tw at hlen ⊢
    rw [hlen]
    rw [trimQ_more _ (trimN l (l.length / 8)) k]
    · rw [trimQ_congr _ l]
      · exact trimQ_idem l _
      · intro q hq
        have hq8 : 8 * q + 8 ≤ (trimL l).length := by rw [hl]; unfold tw; omega
        rw [List.drop_append_of_le_length (by omega), List.take_append_of_le_length (by rw [List.length_drop]; omega)]
        unfold trimL tw
        rw [List.drop_take, List.take_take, Nat.min_eq_left (by omega)]
    · intro q h1 h2
      apply zer_of_all
      intro x hx
      have hx2 := List.mem_of_mem_take hx
      rw [List.drop_append, List.drop_of_length_le (by rw [hl]; unfold tw; omega), List.nil_append] at hx2
      exact (List.mem_replicate.1 (List.mem_of_mem_drop hx2)).2
  have h2 : trimL (trimL l ++ List.replicate (8 * k) 0) = (trimL l ++ List.replicate (8 * k) 0).take (8 * tw l) := by rw [← h1]; rfl
  rw [h2, List.take_append_of_le_length (by rw [hl]; exact Nat.le_refl _), List.take_of_length_le (by rw [hl]; exact Nat.le_refl _)]
theorem trimL_idem (l : List UInt8) : trimL (trimL l) = trimL l := by
  have := trimL_pad l 0
  simpa using this
/-- the last word that is left is none of noughts. -/
theorem tw_top (l : List UInt8) (h : 0 < tw l) : zerB ((l.drop (8 * (tw l - 1))).take 8) = false := trimQ_top l _ h
def trimD (d : ByteArray) : ByteArray := ⟨(trimL d.data.toList).toArray⟩
def zeroD (n : Nat) : ByteArray := ⟨(List.replicate n 0).toArray⟩
theorem trimD_list (d : ByteArray) : (trimD d).data.toList = trimL d.data.toList := by simp [trimD]
theorem trimD_size (d : ByteArray) : (trimD d).size = 8 * tw d.data.toList := by
  have := trimL_length d.data.toList
  show (trimL d.data.toList).toArray.size = _
  simpa using this
theorem ext_d {a b : ByteArray} (h : a.data.toList = b.data.toList) : a = b := by
  cases a; cases b; simp_all
theorem zeroD_size (n : Nat) : (zeroD n).size = n := by show (List.replicate n (0 : UInt8)).toArray.size = n; simp
theorem trimD_pad (d : ByteArray) (k : Nat) : trimD (trimD d ++ zeroD (8 * k)) = trimD d := by
  apply ext_d
  rw [trimD_list, trimD_list, ByteArray.data_append, Array.toList_append, trimD_list]
  show trimL (trimL d.data.toList ++ List.replicate (8 * k) 0) = _
  exact trimL_pad _ _
theorem trimD_idem (d : ByteArray) : trimD (trimD d) = trimD d := by
  apply ext_d
  rw [trimD_list, trimD_list, trimL_idem]
theorem trimD_cut {d : ByteArray} {j : Nat} (h8 : d.size % 8 = 0) (h1 : tw d.data.toList ≤ j) (h2 : 8 * j ≤ d.size) : d.extract 0 (8 * j) = trimD d ++ zeroD (8 * (j - tw d.data.toList)) := by
  have hl : d.data.toList.length = d.size := by simp
  apply ext_d
  rw [ByteArray.data_append, Array.toList_append, trimD_list]
  show _ = trimL d.data.toList ++ List.replicate _ 0
  rw [← trimL_cut (by rw [hl]; exact h8) h1 (by rw [hl]; exact h2)]
  simp [ByteArray.data_extract]
end Go.Proofs.YtbhmklbdfmgmlaaGreat
