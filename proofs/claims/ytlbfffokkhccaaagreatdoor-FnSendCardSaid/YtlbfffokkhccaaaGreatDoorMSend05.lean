/- Texts of the proof of the law FnSend, side by side: part 5. -/
import Derived.Test.YtlbfffokkhccaaaGreatDoorMSend04
set_option maxHeartbeats 8000000
set_option maxRecDepth 100000
namespace Go.Proofs.YtlbfffokkhccaaaGreatDoor
open Go.RowKit
theorem leB_add (n : Int) : ∀ (a b : Nat), leB n (a + b) = leB n a ++ leB (n / 256 ^ a) b
 | 0, b => by simp [leB]
 | a + 1, b => by
   rw [show a + 1 + b = (a + b) + 1 by omega, leB, leB, leB_add (n / 256) a b, List.cons_append, Int.pow_succ, Int.mul_comm (256 ^ a) 256, Int.ediv_ediv_of_nonneg (by decide)]
theorem leB_md (n m : Int) : ∀ (k : Nat) (c : Int), n = m + c * 256 ^ k → leB n k = leB m k
 | 0, _, _ => rfl
 | k + 1, c, h => by
   have e : n = m + 256 * (c * 256 ^ k) := by rw [h, Int.pow_succ, Int.mul_comm (256 ^ k) 256, ← Int.mul_assoc, Int.mul_comm c 256, Int.mul_assoc]
   rw [leB, leB, leB_md (n / 256) (m / 256) k c (by omega), show n % 256 = m % 256 by omega]
theorem leB_two (lo hi : Int) (h0 : 0 ≤ lo) (h1 : lo < 4294967296) : leB (lo + 4294967296 * hi) 8 = leB lo 4 ++ leB hi 4 := by
 have h := leB_add (lo + 4294967296 * hi) 4 4
 have e : (256 : Int) ^ 4 = 4294967296 := rfl
 rw [e, show (lo + 4294967296 * hi) / 4294967296 = hi by omega] at h
 rw [h, leB_md (lo + 4294967296 * hi) lo 4 hi (by rw [e]; omega)]
theorem leB_four (d p : Int) (h0 : 0 ≤ d) (h1 : d < 65536) : leB (d + 65536 * p) 4 = leB d 2 ++ leB p 2 := by
 have h := leB_add (d + 65536 * p) 2 2
 have e : (256 : Int) ^ 2 = 65536 := rfl
 rw [e, show (d + 65536 * p) / 65536 = p by omega] at h
 rw [h, leB_md (d + 65536 * p) d 2 p (by rw [e]; omega)]
def offN (o : Int) : Int := o % 1073741824 * 4
theorem offN_bd (o : Int) : 0 ≤ offN o ∧ offN o ≤ 4294967292 := by unfold offN; omega
theorem sgn_off (o : Int) (lo : Nat) (hl : (lo : Int) = offN o ∨ (lo : Int) = offN o + 1) (h0 : -536870912 ≤ o) (h1 : o ≤ 536870911) : sgn lo = o := by
 unfold offN at hl
 unfold sgn
 split <;> omega
theorem two_of (lo hi : Int) (h0 : 0 ≤ lo) (h1 : lo < 4294967296) (g0 : 0 ≤ hi) (g1 : hi < 4294967296) :
 ((leN (leB lo 4 ++ leB hi 4) 0 4 : Nat) : Int) = lo ∧ ((leN (leB lo 4 ++ leB hi 4) 4 4 : Nat) : Int) = hi := by
 have e : (256 : Int) ^ 4 = 4294967296 := rfl
 constructor
 · rw [leN_congr (leB lo 4 ++ leB hi 4) (leB lo 4) 4 0 0 (fun i hi => by rw [List.getElem?_append_left (by rw [leB_length]; omega)]), leN_leB, e]; omega
 · rw [leN_congr (leB lo 4 ++ leB hi 4) (leB hi 4) 4 4 0 (fun i hi => by rw [List.getElem?_append_right (by rw [leB_length]; omega), leB_length]; congr 1; omega), leN_leB, e]; omega
abbrev Segs := List (List UInt8)
def sgS (ss : Segs) (i : Nat) : List UInt8 := ss[i]?.getD []
def wn (s : List UInt8) : Nat := s.length / 8
def totS (ss : Segs) : Nat := (ss.map wn).sum
def zer (k : Nat) : List UInt8 := List.replicate (8 * k) 0
def spl (s : List UInt8) (p : Nat) (t : List UInt8) : List UInt8 := s.take p ++ t ++ s.drop (p + t.length)
def growB (ss : Segs) (i k : Nat) : Segs := ss.set i (sgS ss i ++ zer k)
def putS (ss : Segs) (i a : Nat) (t : List UInt8) : Segs := ss.set i (spl (sgS ss i) (8 * a) t)
def w8 (lo hi : Int) : List UInt8 := leB lo 4 ++ leB hi 4
def ptrW (n : Nd) (off : Int) : List UInt8 :=
 if n.kind = 1 then w8 (offN off) ((n.data.size / 8 : Nat) + 65536 * (n.ptrs.length : Int))
 else if n.size = 7 then w8 (offN off + 1) (((ownN n : Int) - 1) * 8 + 7) else w8 (offN off + 1) (n.count * 8 + n.size)
def farW (off seg : Nat) : List UInt8 := w8 ((off : Int) * 8 + 2) seg
def itD (n : Nd) : Nat := (n.items.headD default).data.size / 8
def itP (n : Nd) : Nat := (n.items.headD default).ptrs.length
def tagW (n : Nd) : List UInt8 := w8 (offN n.count) ((itD n : Nat) + 65536 * (itP n : Int))
def otherP (size : Nat) (ss : Segs) (k : Nat) : Option (Segs × Nat) :=
 if wn (sgS ss (ss.length - 1)) + k ≤ size then some (ss, ss.length - 1) else if ss.length < 6 then some (ss ++ [[]], ss.length) else none
def roomP (L size : Nat) (n : Nd) (ss : Segs) (i a : Nat) : Option (Segs × Nat × Nat) :=
 if wn (sgS ss i) + ownN n ≤ size then
  (if totS ss + ownN n ≤ L then some (putS (growB ss i (ownN n)) i a (ptrW n ((wn (sgS ss i) : Int) - a - 1)), i, wn (sgS ss i)) else none)
 else match otherP size ss (1 + ownN n) with
  | none => none
  | some (s1, j) => if totS s1 + (1 + ownN n) ≤ L then some (putS (putS (growB s1 j (1 + ownN n)) i a (farW (wn (sgS s1 j)) j)) j (wn (sgS s1 j)) (ptrW n 0), j, wn (sgS s1 j) + 1) else none
abbrev Wr := Nd → Segs → Nat → Nat → Option Segs
def ptrsP (wr : Wr) : List Nd → Segs → Nat → Nat → Option Segs
 | [], ss, _, _ => some ss
 | p :: t, ss, i, a => (wr p ss i a).bind fun s1 => ptrsP wr t s1 i (a + 1)
def bodyP (wr : Wr) (n : Nd) (ss : Segs) (i a : Nat) : Option Segs := ptrsP wr n.ptrs (putS ss i a n.data.data.toList) i (a + (n.data.size + 7) / 8)
def itemsP (wr : Wr) (each : Nat) : List Nd → Segs → Nat → Nat → Option Segs
 | [], ss, _, _ => some ss
 | y :: t, ss, i, a => (bodyP wr y ss i a).bind fun s1 => itemsP wr each t s1 i (a + each)
def fillP (wr : Wr) (n : Nd) (ss : Segs) (i a : Nat) : Option Segs :=
 if n.kind = 2 ∧ n.size = 7 then itemsP wr (itD n + itP n) n.items (putS ss i a (tagW n)) i (a + 1) else bodyP wr n ss i a
def wrP (L size : Nat) : Nat → Wr
 | 0, _, ss, _, _ => some ss
 | d + 1, n, ss, i, a =>
  if n.kind = 0 then some ss
  else if ownN n = 0 then some (putS ss i a (ptrW n (if n.kind = 1 then -1 else 0)))
  else (roomP L size n ss i a).bind fun r => fillP (wrP L size d) n r.1 r.2.1 r.2.2
def buildP (L size : Nat) (n : Nd) : Option Segs := wrP L size 8 n [zer 1] 0 0
theorem ptrsP_snoc (wr : Wr) : ∀ (l : List Nd) (p : Nd) (ss : Segs) (i a : Nat), ptrsP wr (l ++ [p]) ss i a = (ptrsP wr l ss i a).bind fun s1 => wr p s1 i (a + l.length)
 | [], p, ss, i, a => by simp [ptrsP]
 | q :: t, p, ss, i, a => by
   simp only [List.cons_append, ptrsP, Option.bind_assoc, List.length_cons]
   congr 1
   funext s1
   rw [ptrsP_snoc wr t p s1 i (a + 1), show a + 1 + t.length = a + (t.length + 1) by omega]
theorem itemsP_snoc (wr : Wr) (each : Nat) : ∀ (l : List Nd) (p : Nd) (ss : Segs) (i a : Nat), itemsP wr each (l ++ [p]) ss i a = (itemsP wr each l ss i a).bind fun s1 => bodyP wr p s1 i (a + l.length * each)
 | [], p, ss, i, a => by simp [itemsP]
 | q :: t, p, ss, i, a => by
   simp only [List.cons_append, itemsP, Option.bind_assoc, List.length_cons]
   congr 1
   funext s1
   rw [itemsP_snoc wr each t p s1 i (a + each), show a + each + t.length * each = a + (t.length + 1) * each by rw [Nat.add_mul]; omega]
theorem ptrsP_none (wr : Wr) : ∀ (l m : List Nd) (ss : Segs) (i a : Nat), ptrsP wr l ss i a = none → ptrsP wr (l ++ m) ss i a = none
 | [], m, ss, i, a, h => by cases h
 | q :: t, m, ss, i, a, h => by
   simp only [List.cons_append, ptrsP] at h ⊢
   cases hq : wr q ss i a with
   | none => rfl
   | some s1 => rw [hq] at h; exact ptrsP_none wr t m s1 i (a + 1) h
theorem itemsP_none (wr : Wr) (each : Nat) : ∀ (l m : List Nd) (ss : Segs) (i a : Nat), itemsP wr each l ss i a = none → itemsP wr each (l ++ m) ss i a = none
 | [], m, ss, i, a, h => by cases h
 | q :: t, m, ss, i, a, h => by
   simp only [List.cons_append, itemsP] at h ⊢
   cases hq : bodyP wr q ss i a with
   | none => rfl
   | some s1 => rw [hq] at h; exact itemsP_none wr each t m s1 i (a + each) h
theorem ptrsP_take (wr : Wr) (l : List Nd) (k : Nat) (hk : k < l.length) (ss : Segs) (i a : Nat) : ptrsP wr (l.take (k + 1)) ss i a = (ptrsP wr (l.take k) ss i a).bind fun s1 => wr l[k] s1 i (a + k) := by
 rw [List.take_succ_eq_append_getElem hk, ptrsP_snoc, List.length_take, Nat.min_eq_left (by omega)]
theorem itemsP_take (wr : Wr) (each : Nat) (l : List Nd) (k : Nat) (hk : k < l.length) (ss : Segs) (i a : Nat) : itemsP wr each (l.take (k + 1)) ss i a = (itemsP wr each (l.take k) ss i a).bind fun s1 => bodyP wr l[k] s1 i (a + k * each) := by
 rw [List.take_succ_eq_append_getElem hk, itemsP_snoc, List.length_take, Nat.min_eq_left (by omega)]
theorem ptrsP_cut (wr : Wr) (l : List Nd) (k : Nat) (ss : Segs) (i a : Nat) (h : ptrsP wr (l.take k) ss i a = none) : ptrsP wr l ss i a = none := by
 have := ptrsP_none wr (l.take k) (l.drop k) ss i a h
 rwa [List.take_append_drop] at this
theorem itemsP_cut (wr : Wr) (each : Nat) (l : List Nd) (k : Nat) (ss : Segs) (i a : Nat) (h : itemsP wr each (l.take k) ss i a = none) : itemsP wr each l ss i a = none := by
 have := itemsP_none wr each (l.take k) (l.drop k) ss i a h
 rwa [List.take_append_drop] at this
theorem sgS_set {ss : Segs} {i : Nat} {x : List UInt8} (h : i < ss.length) (j : Nat) : sgS (ss.set i x) j = if j = i then x else sgS ss j := by
 unfold sgS
 rw [List.getElem?_set]
 by_cases e : i = j
 · subst e; simp [h]
 · rw [if_neg e, if_neg (fun x => e x.symm)]
theorem sgS_app {ss : Segs} {x : List UInt8} (j : Nat) : sgS (ss ++ [x]) j = if j = ss.length then x else sgS ss j := by
 unfold sgS
 by_cases e : j < ss.length
 · rw [List.getElem?_append_left e, if_neg (by omega)]
 · rw [List.getElem?_append_right (by omega)]
   by_cases e2 : j = ss.length
   · subst e2; simp
   · rw [if_neg e2, List.getElem?_eq_none (by simp; omega), List.getElem?_eq_none (by omega)]
theorem sgS_out {ss : Segs} {i : Nat} (h : ss.length ≤ i) : sgS ss i = [] := by unfold sgS; rw [List.getElem?_eq_none h]; rfl
theorem spl_length {s t : List UInt8} {p : Nat} (h : p + t.length ≤ s.length) : (spl s p t).length = s.length := by
 unfold spl; simp only [List.length_append, List.length_take, List.length_drop]; omega
theorem putS_length (ss : Segs) (i a : Nat) (t : List UInt8) : (putS ss i a t).length = ss.length := by unfold putS; simp
theorem growB_length (ss : Segs) (i k : Nat) : (growB ss i k).length = ss.length := by unfold growB; simp
theorem zer_length (k : Nat) : (zer k).length = 8 * k := by simp [zer]
theorem w8_length (a b : Int) : (w8 a b).length = 8 := by unfold w8; rw [List.length_append, leB_length, leB_length]
theorem ptrW_length (n : Nd) (o : Int) : (ptrW n o).length = 8 := by
 unfold ptrW
 split
 · exact w8_length _ _
 · split <;> exact w8_length _ _
theorem farW_length (a b : Nat) : (farW a b).length = 8 := w8_length _ _
theorem tagW_length (n : Nd) : (tagW n).length = 8 := w8_length _ _
def WdS (ss : Segs) : Prop := ∀ i, (sgS ss i).length % 8 = 0
def Alen (ss s1 : Segs) : Prop := ss.length = s1.length ∧ ∀ i, (sgS ss i).length = (sgS s1 i).length
def Grew (ss s1 : Segs) : Prop := ss.length ≤ s1.length ∧ ∀ i, (sgS ss i).length ≤ (sgS s1 i).length
theorem Alen.grew {ss s1 : Segs} (h : Alen ss s1) : Grew ss s1 := ⟨Nat.le_of_eq h.1, fun i => Nat.le_of_eq (h.2 i)⟩
theorem Grew.refl (ss : Segs) : Grew ss ss := ⟨Nat.le_refl _, fun _ => Nat.le_refl _⟩
theorem Grew.trans {a b c : Segs} (h : Grew a b) (g : Grew b c) : Grew a c := ⟨Nat.le_trans h.1 g.1, fun i => Nat.le_trans (h.2 i) (g.2 i)⟩
theorem Grew.wn {a b : Segs} (h : Grew a b) (i : Nat) : wn (sgS a i) ≤ wn (sgS b i) := Nat.div_le_div_right (h.2 i)
theorem Alen.wds {a b : Segs} (h : Alen a b) (hw : WdS a) : WdS b := fun i => by rw [← h.2 i]; exact hw i
theorem totS_set {ss : Segs} : ∀ {i : Nat} (x : List UInt8), i < ss.length → totS (ss.set i x) + wn (sgS ss i) = totS ss + wn x := by
 induction ss with
 | nil => intro i x h; cases h
 | cons s t ih =>
  intro i x h
  cases i with
  | zero => simp [totS, sgS]; omega
  | succ i =>
   have := ih (i := i) x (by simpa using h)
   simp only [totS, sgS, List.set_cons_succ, List.map_cons, List.sum_cons, List.getElem?_cons_succ] at this ⊢
   omega
theorem totS_app (ss : Segs) (x : List UInt8) : totS (ss ++ [x]) = totS ss + wn x := by simp [totS]
theorem wn_le_totS (ss : Segs) (i : Nat) : wn (sgS ss i) ≤ totS ss := by
 by_cases h : i < ss.length
 · have := totS_set (ss := ss) (i := i) [] h
   have : wn [] = 0 := rfl
   omega
 · rw [sgS_out (by omega)]; exact Nat.zero_le _
theorem spl_alen {ss : Segs} {i o : Nat} {t : List UInt8} (h : i < ss.length) (ha : o + t.length ≤ (sgS ss i).length) : Alen ss (ss.set i (spl (sgS ss i) o t)) := by
 refine ⟨by simp, fun j => ?_⟩
 rw [sgS_set h]
 split
 · rename_i e; subst e; exact (spl_length ha).symm
 · rfl
theorem put_alen {ss : Segs} {i a : Nat} {t : List UInt8} (h : i < ss.length) (ha : 8 * a + t.length ≤ (sgS ss i).length) : Alen ss (putS ss i a t) := by
 refine ⟨(putS_length _ _ _ _).symm, fun j => ?_⟩
 unfold putS
 rw [sgS_set h]
 split
 · rename_i e; subst e; exact (spl_length ha).symm
 · rfl
theorem alen_totS : ∀ {a b : Segs}, Alen a b → totS a = totS b
 | [], [], _ => rfl
 | [], _ :: _, h => by cases h.1
 | _ :: _, [], h => by cases h.1
 | x :: a, y :: b, h => by
   have h1 : wn x = wn y := by have := h.2 0; simp [sgS] at this; unfold wn; rw [this]
   have h2 : totS a = totS b := alen_totS ⟨by have := h.1; simpa using this, fun i => by have := h.2 (i + 1); simpa [sgS] using this⟩
   simp only [totS, List.map_cons, List.sum_cons] at h2 ⊢
   omega
theorem put_totS {ss : Segs} {i a : Nat} {t : List UInt8} (h : i < ss.length) (ha : 8 * a + t.length ≤ (sgS ss i).length) : totS (putS ss i a t) = totS ss := (alen_totS (put_alen h ha)).symm
theorem sgS_grow {ss : Segs} {i k : Nat} (h : i < ss.length) (j : Nat) : sgS (growB ss i k) j = if j = i then sgS ss i ++ zer k else sgS ss j := sgS_set h j
theorem wn_grow {ss : Segs} {i k : Nat} (h : i < ss.length) : wn (sgS (growB ss i k) i) = wn (sgS ss i) + k := by
 rw [sgS_grow h, if_pos rfl]; unfold wn; rw [List.length_append, zer_length]; omega
theorem grow_grew {ss : Segs} {i k : Nat} (h : i < ss.length) : Grew ss (growB ss i k) := by
 refine ⟨Nat.le_of_eq (growB_length _ _ _).symm, fun j => ?_⟩
 rw [sgS_grow h]; split
 · rename_i e; subst e; simp
 · exact Nat.le_refl _
theorem grow_wds {ss : Segs} {i k : Nat} (h : i < ss.length) (hw : WdS ss) : WdS (growB ss i k) := by
 intro j
 rw [sgS_grow h]; split
 · rename_i e; subst e; rw [List.length_append, zer_length]; have := hw j; omega
 · exact hw j
theorem grow_totS {ss : Segs} {i k : Nat} (h : i < ss.length) : totS (growB ss i k) = totS ss + k := by
 have := totS_set (ss := ss) (i := i) (sgS ss i ++ zer k) h
 unfold growB
 have h2 : wn (sgS ss i ++ zer k) = wn (sgS ss i) + k := by unfold wn; rw [List.length_append, zer_length]; omega
 omega
theorem app_grew (ss : Segs) : Grew ss (ss ++ [[]]) := by
 refine ⟨by simp, fun j => ?_⟩
 rw [sgS_app]; split
 · rename_i e; subst e; rw [sgS_out (Nat.le_refl _)]; exact Nat.le_refl _
 · exact Nat.le_refl _
theorem app_wds {ss : Segs} (hw : WdS ss) : WdS (ss ++ [[]]) := by
 intro j; rw [sgS_app]; split
 · rfl
 · exact hw j
theorem wds_len {ss : Segs} (h : WdS ss) (i : Nat) : (sgS ss i).length = 8 * wn (sgS ss i) := by unfold wn; have := h i; omega
theorem spl_step (s t : List UInt8) (p k : Nat) (hk : k < t.length) (h : p + t.length ≤ s.length) : spl (spl s p (t.take k)) (p + k) [t[k]] = spl s p (t.take (k + 1)) := by
 have hl : (t.take k).length = k := by rw [List.length_take]; omega
 have hl1 : (t.take (k + 1)).length = k + 1 := by rw [List.length_take]; omega
 have e0 : (s.take p).length = p := by rw [List.length_take]; omega
 unfold spl
 rw [hl, hl1, List.length_singleton]
 have e1 : (s.take p ++ t.take k ++ s.drop (p + k)).take (p + k) = s.take p ++ t.take k := List.take_left' (by rw [List.length_append, e0, hl])
 have e2 : (s.take p ++ t.take k ++ s.drop (p + k)).drop (p + k + 1) = s.drop (p + (k + 1)) := by
  rw [← List.drop_drop, List.drop_left' (by rw [List.length_append, e0, hl]), List.drop_drop]
  congr 1
 rw [e1, e2, List.take_succ_eq_append_getElem hk]
 simp
theorem spl_nil (s : List UInt8) (p : Nat) : spl s p [] = s := by unfold spl; simp
theorem set_sgS (ss : Segs) (i : Nat) : ss.set i (sgS ss i) = ss := by
 apply List.ext_getElem?
 intro j
 rw [List.getElem?_set]
 split
 · rename_i e
   subst e
   split
   · rename_i h; unfold sgS; rw [List.getElem?_eq_getElem h]; rfl
   · rename_i h; rw [List.getElem?_eq_none (by omega)]
 · rfl
theorem putS_nil (ss : Segs) (i a : Nat) : putS ss i a [] = ss := by unfold putS; rw [spl_nil, set_sgS]
theorem putS_step (ss : Segs) (i a k : Nat) (t : List UInt8) (hi : i < ss.length) (hk : k < t.length) (h : 8 * a + t.length ≤ (sgS ss i).length) :
 (putS ss i a (t.take k)).set i (spl (sgS (putS ss i a (t.take k)) i) (8 * a + k) [t[k]]) = putS ss i a (t.take (k + 1)) := by
 have e : sgS (putS ss i a (t.take k)) i = spl (sgS ss i) (8 * a) (t.take k) := by unfold putS; rw [sgS_set hi, if_pos rfl]
 rw [e, spl_step _ _ _ _ hk h]
 unfold putS
 rw [List.set_set]
def zerB (l : List UInt8) : Bool := l.all (· == 0)
theorem l1Zero_any (s : ByteArray) (w : World) (hs : s.size ≤ maxLen) :
 Calls Tryz.prog 101 #[.string s] w fun e w' => e = .returned (.bool (zerB s.data.toList)) ∧ w = w' := by
 unfold maxLen at hs
 have hl : s.data.toList.length = s.size := by simp
 have HL := Lib.hid hl
 clear hl
 go_enter Tryz.func101, Tryz.ntmps101
 go_wp2
 go_loop [3] (fun i => ∃ k : Nat, k ≤ s.size ∧ i = .int .i64 (k : Int) ∧ ∀ j, j < k → s.data.toList[j]?.getD 0 = 0) (fun i => (s.size - intOf i).toNat)
 case atStart => exact ⟨0, by omega, by simp, fun j hj => by omega⟩
 case round =>
  obtain ⟨k, hk, rfl, hz⟩ := hrel
  have HZ := Lib.hid hz
  clear hz
  by_cases hlt : k < s.size
  · have hg := bytes_get s k hlt
    have HG := Lib.hid hg
    clear hg
    by_cases hb : s[k] = 0
    · have hb' : (((s[k]).toNat : Int) == 0) = true := by simp [hb]
      have HB := Lib.hid hb
      clear hb
      go_wp2
      go_round
      case rel =>
       refine ⟨k + 1, by omega, by go_num, fun j hj => ?_⟩
       by_cases hjk : j < k
       · exact HZ.out j hjk
       · obtain rfl : j = k := by omega
         rw [HG.out, HB.out]
      case measure => simp [intOf]; omega
    · have hb' : (((s[k]).toNat : Int) == 0) = false := by
       rw [beq_eq_false_iff_ne]
       intro h
       exact hb (UInt8.toNat_inj.1 (by simpa using h))
      have HB := Lib.hid hb
      clear hb
      go_wp2
      go_ret
      refine ⟨ret_bool ?_, rfl⟩
      rw [eq_comm, zerB, List.all_eq_false]
      refine ⟨s[k], ?_, by simpa using HB.out⟩
      rw [← HG.out, List.getElem?_eq_getElem (by rw [HL.out]; exact hlt)]
      exact List.getElem_mem _
  · go_wp2
    go_ret
    refine ⟨ret_bool ?_, rfl⟩
    rw [eq_comm, zerB, List.all_eq_true]
    intro x hx
    obtain ⟨j, hj, rfl⟩ := List.mem_iff_getElem.1 hx
    have := HZ.out j (by rw [HL.out] at hj; omega)
    rw [List.getElem?_eq_getElem hj] at this
    simpa using this
theorem can_item_kind {l : List Nd} (hi : itemsB l = true) : ∀ y ∈ l, y.kind = 1 ∧ y.data.size % 8 = 0 ∧ y.size = 0 ∧ y.count = 0 ∧ y.items = [] ∧ y.data.size = (l.headD default).data.size ∧ y.ptrs.length = (l.headD default).ptrs.length := by
 intro y hy
 have h1 := List.all_eq_true.1 hi y hy
 unfold itemB at h1
 simp only [Bool.and_eq_true, decide_eq_true_eq, structB] at h1
 obtain ⟨⟨h2, h3, h4, h5, h6⟩, h7, h8⟩ := h1
 exact ⟨h2, by omega, h4, h5, nil_of_len h6, h7, h8⟩
end Go.Proofs.YtlbfffokkhccaaaGreatDoor
namespace Go.Proofs.YtlbfffokkhccaaaGreatDoor
structure SOk (L : Nat) (ss : Segs) : Prop where
 wds : WdS ss
 one : 1 ≤ ss.length
 six : ss.length ≤ 6
 totS : totS ss ≤ L
theorem SOk.put {L : Nat} {ss : Segs} (h : SOk L ss) {i a : Nat} {t : List UInt8} (hi : i < ss.length) (ha : 8 * a + t.length ≤ (sgS ss i).length) : SOk L (putS ss i a t) :=
 ⟨(put_alen hi ha).wds h.wds, by rw [putS_length]; exact h.one, by rw [putS_length]; exact h.six, by rw [put_totS hi ha]; exact h.totS⟩
theorem SOk.grow {L : Nat} {ss : Segs} (h : SOk L ss) {i k : Nat} (hi : i < ss.length) (ht : Go.Proofs.YtlbfffokkhccaaaGreatDoor.totS ss + k ≤ L) : SOk L (growB ss i k) :=
 ⟨grow_wds hi h.wds, by rw [growB_length]; exact h.one, by rw [growB_length]; exact h.six, by rw [grow_totS hi]; exact ht⟩
theorem put_grew {ss : Segs} {i a : Nat} {t : List UInt8} (hi : i < ss.length) (ha : 8 * a + t.length ≤ (sgS ss i).length) : Grew ss (putS ss i a t) := (put_alen hi ha).grew
theorem Alen.wn {a b : Segs} (h : Alen a b) (i : Nat) : wn (sgS a i) = wn (sgS b i) := by unfold Go.Proofs.YtlbfffokkhccaaaGreatDoor.wn; rw [h.2 i]
theorem room8 {ss : Segs} (hw : WdS ss) {i a k : Nat} (ha : a + k ≤ wn (sgS ss i)) : 8 * a + 8 * k ≤ (sgS ss i).length := by have := wds_len hw i; omega
theorem other_some {L size : Nat} {ss s1 : Segs} {k j : Nat} (hk : SOk L ss) (h : otherP size ss k = some (s1, j)) : SOk L s1 ∧ Grew ss s1 ∧ j < s1.length := by
 unfold otherP at h
 split at h
 · injection h with h
   injection h with h1 h2
   subst h1 h2
   exact ⟨hk, Grew.refl _, by have := hk.one; omega⟩
 · split at h
   · injection h with h
     injection h with h1 h2
     subst h1 h2
     exact ⟨⟨app_wds hk.wds, by simp, by simp; omega, by rw [totS_app]; exact hk.totS⟩, app_grew _, by simp⟩
   · cases h
theorem room_some {L size : Nat} {n : Nd} {ss s1 : Segs} {i a j c : Nat} (hk : SOk L ss) (hi : i < ss.length) (ha : a < wn (sgS ss i)) (h : roomP L size n ss i a = some (s1, j, c)) : SOk L s1 ∧ Grew ss s1 ∧ j < s1.length ∧ c + ownN n ≤ wn (sgS s1 j) := by
 unfold roomP at h
 split at h
 · split at h
   · rename_i ht
     injection h with h
     injection h with h1 h2
     injection h2 with h2 h3
     subst h1 h2 h3
     have hg := hk.grow hi ht
     have hi' : i < (growB ss i (ownN n)).length := by rw [growB_length]; exact hi
     have hr := room8 (k := 1) hg.wds (i := i) (a := a) (by rw [wn_grow hi]; omega)
     have hp : 8 * a + (ptrW n ((wn (sgS ss i) : Int) - a - 1)).length ≤ (sgS (growB ss i (ownN n)) i).length := by rw [ptrW_length]; omega
     refine ⟨hg.put hi' hp, (grow_grew hi).trans (put_grew hi' hp), by rw [putS_length]; exact hi', ?_⟩
     rw [← (put_alen hi' hp).wn, wn_grow hi]
     omega
   · cases h
 · split at h
   · cases h
   · rename_i s0 j0 ho
     obtain ⟨h1, h2, h3⟩ := other_some hk ho
     split at h
     · rename_i ht
       injection h with h
       injection h with e1 e2
       injection e2 with e2 e3
       subst e1 e2 e3
       have hg := h1.grow h3 ht
       have hi' : i < (growB s0 j0 (1 + ownN n)).length := by rw [growB_length]; exact Nat.lt_of_lt_of_le hi h2.1
       have hj' : j0 < (growB s0 j0 (1 + ownN n)).length := by rw [growB_length]; exact h3
       have hai : a < wn (sgS (growB s0 j0 (1 + ownN n)) i) := Nat.lt_of_lt_of_le ha ((h2.trans (grow_grew h3)).wn i)
       have hr := room8 (k := 1) hg.wds (i := i) (a := a) (by omega)
       have hp : 8 * a + (farW (wn (sgS s0 j0)) j0).length ≤ (sgS (growB s0 j0 (1 + ownN n)) i).length := by rw [farW_length]; omega
       have hg2 := hg.put hi' hp
       have hwj : wn (sgS (putS (growB s0 j0 (1 + ownN n)) i a (farW (wn (sgS s0 j0)) j0)) j0) = wn (sgS s0 j0) + (1 + ownN n) := by rw [← (put_alen hi' hp).wn, wn_grow h3]
       have hj2 : j0 < (putS (growB s0 j0 (1 + ownN n)) i a (farW (wn (sgS s0 j0)) j0)).length := by rw [putS_length]; exact hj'
       have hr2 := room8 (k := 1) hg2.wds (i := j0) (a := wn (sgS s0 j0)) (by omega)
       have hp2 : 8 * wn (sgS s0 j0) + (ptrW n 0).length ≤ (sgS (putS (growB s0 j0 (1 + ownN n)) i a (farW (wn (sgS s0 j0)) j0)) j0).length := by rw [ptrW_length]; omega
       refine ⟨hg2.put hj2 hp2, ((h2.trans (grow_grew h3)).trans (put_grew hi' hp)).trans (put_grew hj2 hp2), by rw [putS_length]; exact hj2, ?_⟩
       rw [← (put_alen hj2 hp2).wn, hwj]
       omega
     · cases h
def WrOk (L : Nat) (wr : Wr) (Q : Nd → Prop) : Prop := ∀ p ss i a s1, Q p → SOk L ss → i < ss.length → a < wn (sgS ss i) → wr p ss i a = some s1 → SOk L s1 ∧ Grew ss s1
theorem ptrs_some {L : Nat} {wr : Wr} {Q : Nd → Prop} (hw : WrOk L wr Q) : ∀ (l : List Nd) (ss : Segs) (i a : Nat) (s1 : Segs), (∀ p ∈ l, Q p) → SOk L ss → i < ss.length → a + l.length ≤ wn (sgS ss i) → ptrsP wr l ss i a = some s1 → SOk L s1 ∧ Grew ss s1
 | [], ss, i, a, s1, _, hk, _, _, h => by injection h with h; subst h; exact ⟨hk, Grew.refl _⟩
 | p :: t, ss, i, a, s1, hq, hk, hi, ha, h => by
   simp only [ptrsP, Option.bind_eq_some_iff] at h
   obtain ⟨s2, h1, h2⟩ := h
   simp only [List.length_cons] at ha
   obtain ⟨k2, g2⟩ := hw p ss i a s2 (hq p (List.mem_cons_self ..)) hk hi (by omega) h1
   obtain ⟨k3, g3⟩ := ptrs_some hw t s2 i (a + 1) s1 (fun q hm => hq q (List.mem_cons_of_mem _ hm)) k2 (Nat.lt_of_lt_of_le hi g2.1) (by have := g2.wn i; omega) h2
   exact ⟨k3, g2.trans g3⟩
theorem data_toList (d : ByteArray) : d.data.toList.length = d.size := by simp
theorem body_fits {ss : Segs} {n : Nd} {i a : Nat} (hw : WdS ss) (ha : a + ownB n ≤ wn (sgS ss i)) : 8 * a + n.data.data.toList.length ≤ (sgS ss i).length := by
 rw [data_toList]
 have := wds_len hw i
 unfold ownB at ha
 omega
theorem body_some {L : Nat} {wr : Wr} {Q : Nd → Prop} (hw : WrOk L wr Q) {n : Nd} {ss s1 : Segs} {i a : Nat} (hq : ∀ p ∈ n.ptrs, Q p) (hk : SOk L ss) (hi : i < ss.length) (ha : a + ownB n ≤ wn (sgS ss i)) (h : bodyP wr n ss i a = some s1) : SOk L s1 ∧ Grew ss s1 := by
 unfold bodyP at h
 have hf := body_fits hk.wds ha
 have hp := put_alen hi hf
 obtain ⟨k2, g2⟩ := ptrs_some hw n.ptrs _ i _ s1 hq (hk.put hi hf) (by rw [putS_length]; exact hi) (by rw [← hp.wn]; unfold ownB at ha; omega) h
 exact ⟨k2, hp.grew.trans g2⟩
theorem items_some {L : Nat} {wr : Wr} {Q : Nd → Prop} (hw : WrOk L wr Q) (each : Nat) : ∀ (l : List Nd) (ss : Segs) (i a : Nat) (s1 : Segs), (∀ y ∈ l, ownB y = each ∧ ∀ p ∈ y.ptrs, Q p) → SOk L ss → i < ss.length → a + l.length * each ≤ wn (sgS ss i) → itemsP wr each l ss i a = some s1 → SOk L s1 ∧ Grew ss s1
 | [], ss, i, a, s1, _, hk, _, _, h => by injection h with h; subst h; exact ⟨hk, Grew.refl _⟩
 | y :: t, ss, i, a, s1, hq, hk, hi, ha, h => by
   simp only [itemsP, Option.bind_eq_some_iff] at h
   obtain ⟨s2, h1, h2⟩ := h
   simp only [List.length_cons, Nat.add_mul, Nat.one_mul] at ha
   obtain ⟨hy, hyp⟩ := hq y (List.mem_cons_self ..)
   obtain ⟨k2, g2⟩ := body_some hw hyp hk hi (by rw [hy]; omega) h1
   obtain ⟨k3, g3⟩ := items_some hw each t s2 i (a + each) s1 (fun q hm => hq q (List.mem_cons_of_mem _ hm)) k2 (Nat.lt_of_lt_of_le hi g2.1) (by have := g2.wn i; omega) h2
   exact ⟨k3, g2.trans g3⟩
theorem item_own {n : Nd} (hi : itemsB n.items = true) : ∀ y ∈ n.items, ownB y = itD n + itP n := by
 intro y hy
 obtain ⟨_, h8, _, _, _, hd, hp⟩ := can_item_kind hi y hy
 unfold ownB itD itP
 rw [← hd, ← hp]
 omega
theorem own_items {l : List Nd} {e : Nat} (h : ∀ y ∈ l, ownB y = e) : (l.map ownB).sum = l.length * e := by
 induction l with
 | nil => simp
 | cons y t ih => rw [List.map_cons, List.sum_cons, h y (List.mem_cons_self ..), ih (fun q hq => h q (List.mem_cons_of_mem _ hq)), List.length_cons, Nat.add_mul]; omega
theorem own_many {n : Nd} (hf : formN n = true) (hk : n.kind = 2 ∧ n.size = 7) : itemsB n.items = true ∧ ownN n = 1 + n.items.length * (itD n + itP n) ∧ n.ptrs = [] := by
 rcases form_cases hf with h | h | ⟨h1, h2, h | h | h⟩
 · omega
 · omega
 · omega
 · omega
 · refine ⟨h.2.2.2.2, ?_, List.eq_nil_of_length_eq_zero h.2.2.1⟩
   unfold ownN
   rw [if_pos hk, own_items (item_own h.2.2.2.2)]
   unfold ownB
   omega
theorem own_plain {n : Nd} (hf : formN n = true) (hk : ¬ (n.kind = 2 ∧ n.size = 7)) : ownN n = ownB n ∧ n.items = [] := by
 have hi : n.items = [] := by
  rcases form_cases hf with h | h | ⟨h1, h2, h | h | h⟩
  · exact List.eq_nil_of_length_eq_zero h.2.2.2.2.2
  · exact List.eq_nil_of_length_eq_zero h.2.2.2.2
  · exact List.eq_nil_of_length_eq_zero h.2.2.2.2
  · exact List.eq_nil_of_length_eq_zero h.2.2.2
  · exact absurd ⟨h1, h.1⟩ hk
 refine ⟨?_, hi⟩
 unfold ownN
 rw [if_neg hk, hi]
 simp
theorem fill_some {L : Nat} {wr : Wr} {Q : Nd → Prop} (hw : WrOk L wr Q) {n : Nd} {ss s1 : Segs} {i a : Nat} (hf : formN n = true) (hq : ∀ p ∈ ptrsL n, Q p) (hk : SOk L ss) (hi : i < ss.length) (ha : a + ownN n ≤ wn (sgS ss i)) (h : fillP wr n ss i a = some s1) : SOk L s1 ∧ Grew ss s1 := by
 unfold fillP at h
 split at h
 · rename_i hm
   obtain ⟨h1, h2, h3⟩ := own_many hf hm
   have hr := room8 (k := 1) hk.wds (i := i) (a := a) (by omega)
   have hp : 8 * a + (tagW n).length ≤ (sgS ss i).length := by rw [tagW_length]; omega
   obtain ⟨k2, g2⟩ := items_some hw (itD n + itP n) n.items _ i (a + 1) s1 (fun y hy => ⟨item_own h1 y hy, fun p hp => hq p (List.mem_append_right _ (List.mem_flatMap.2 ⟨y, hy, hp⟩))⟩) (hk.put hi hp) (by rw [putS_length]; exact hi) (by rw [← (put_alen hi hp).wn]; omega) h
   exact ⟨k2, (put_grew hi hp).trans g2⟩
 · rename_i hm
   obtain ⟨h1, h2⟩ := own_plain hf hm
   exact body_some hw (fun p hp => hq p (List.mem_append_left _ hp)) hk hi (by omega) h
theorem ok_formN : ∀ {d : Nat} {n : Nd}, okN d n = true → formN n = true := fun {d n} h => by
 cases hf : formN n with
 | true => rfl
 | false => rw [ok_form hf] at h; cases h
theorem ok_within {d : Nat} {n : Nd} (h : okN (d + 1) n = true) (hk : n.kind ≠ 0) : ∀ p ∈ ptrsL n, okN d p = true := by
 have : (ptrsL n).all (okN d) = true := by
  simp only [okN, Bool.and_eq_true, Bool.or_eq_true, decide_eq_true_eq] at h
  rcases h.2 with h | h
  · exact absurd h hk
  · exact h
 exact List.all_eq_true.1 this
theorem wr_some (L size : Nat) : ∀ d, WrOk L (wrP L size d) (fun n => okN d n = true)
 | 0 => fun p ss i a s1 _ hk _ _ h => by simp only [wrP] at h; injection h with h; subst h; exact ⟨hk, Grew.refl _⟩
 | d + 1 => fun n ss i a s1 hn hk hi ha h => by
   simp only [wrP] at h
   split at h
   · injection h with h; subst h; exact ⟨hk, Grew.refl _⟩
   · rename_i hk0
     split at h
     · injection h with h
       subst h
       have hr := room8 (k := 1) hk.wds (i := i) (a := a) (by omega)
       have hp : 8 * a + (ptrW n (if n.kind = 1 then -1 else 0)).length ≤ (sgS ss i).length := by rw [ptrW_length]; omega
       exact ⟨hk.put hi hp, put_grew hi hp⟩
     · rw [Option.bind_eq_some_iff] at h
       obtain ⟨⟨s2, j, c⟩, h1, h2⟩ := h
       obtain ⟨k2, g2, hj, hc⟩ := room_some hk hi ha h1
       obtain ⟨k3, g3⟩ := fill_some (wr_some L size d) (ok_formN hn) (ok_within hn hk0) k2 hj hc h2
       exact ⟨k3, g2.trans g3⟩
end Go.Proofs.YtlbfffokkhccaaaGreatDoor
