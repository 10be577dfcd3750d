/- Texts of the proof of the law FnBuildSegs, side by side: part 22. -/
import Derived.RegionTactic
import Derived.BigRegion
import Derived.StillTailTactics
import Derived.Test.YtbhmklbdfmgmlaaMBuildSegs00
import Derived.Test.YtbhmklbdfmgmlaaMBuildSegs01
import Derived.Test.YtbhmklbdfmgmlaaMBuildSegs02
import Derived.Test.YtbhmklbdfmgmlaaMBuildSegs03
import Derived.Test.YtbhmklbdfmgmlaaMBuildSegs04
import Derived.Test.YtbhmklbdfmgmlaaMBuildSegs05
import Derived.Test.YtbhmklbdfmgmlaaMBuildSegs06
import Derived.Test.YtbhmklbdfmgmlaaMBuildSegs07
import Derived.Test.YtbhmklbdfmgmlaaMBuildSegs08
import Derived.Test.YtbhmklbdfmgmlaaMBuildSegs09
import Derived.Test.YtbhmklbdfmgmlaaMBuildSegs10
import Derived.Test.YtbhmklbdfmgmlaaMBuildSegs11
import Derived.Test.YtbhmklbdfmgmlaaMBuildSegs12
import Derived.Test.YtbhmklbdfmgmlaaMBuildSegs13
import Derived.Test.YtbhmklbdfmgmlaaMBuildSegs14
import Derived.Test.YtbhmklbdfmgmlaaMBuildSegs15
import Derived.Test.YtbhmklbdfmgmlaaMBuildSegs16
import Derived.Test.YtbhmklbdfmgmlaaMBuildSegs17
import Derived.Test.YtbhmklbdfmgmlaaMBuildSegs18
import Derived.Test.YtbhmklbdfmgmlaaMBuildSegs19
import Derived.Test.YtbhmklbdfmgmlaaMBuildSegs20
import Derived.Test.YtbhmklbdfmgmlaaMBuildSegs21
/- One segment has room for all: plainly. No Go text. -/
namespace Go.Proofs.Ytbhmklbdfmgmlaa
/-- what a writer of nodes does where there is room. -/
def OneW (L size : Nat) (wr : Wr) (Q : Nd → Prop) (f : Nd → Nat) : Prop := ∀ p s a, Q p → s.length % 8 = 0 → a < wn s → wn s + f p ≤ size → wn s + f p ≤ L → ∃ s1, wr p [s] 0 a = some [s1] ∧ s1.length = s.length + 8 * f p
theorem ptrs_one {L size : Nat} {wr : Wr} {Q : Nd → Prop} {f : Nd → Nat} (hw : OneW L size wr Q f) : ∀ (l : List Nd) (s : List UInt8) (a : Nat), (∀ p ∈ l, Q p) → s.length % 8 = 0 → a + l.length ≤ wn s → wn s + (l.map f).sum ≤ size → wn s + (l.map f).sum ≤ L → ∃ s1, ptrsP wr l [s] 0 a = some [s1] ∧ s1.length = s.length + 8 * (l.map f).sum
  | [], s, a, _, _, _, _, _ => ⟨s, rfl, by simp⟩
  | p :: t, s, a, hq, h8, ha, h1, h2 => by
    simp only [List.length_cons] at ha
    simp only [List.map_cons, List.sum_cons] at h1 h2 ⊢
    obtain ⟨s1, e1, l1⟩ := hw p s a (hq p (List.mem_cons_self ..)) h8 (by omega) (by omega) (by omega)
    have e : wn s1 = wn s + f p := by unfold wn; omega
    obtain ⟨s2, e2, l2⟩ := ptrs_one hw t s1 (a + 1) (fun q hm => hq q (List.mem_cons_of_mem _ hm)) (by omega) (by omega) (by omega) (by omega)
    exact ⟨s2, by simp only [ptrsP, e1, Option.bind_some]; exact e2, by omega⟩
theorem put_one (s t : List UInt8) (a : Nat) : putS [s] 0 a t = [spl s (8 * a) t] := rfl
theorem body_one {L size : Nat} {wr : Wr} {Q : Nd → Prop} {f : Nd → Nat} (hw : OneW L size wr Q f) {n : Nd} {s : List UInt8} {a : Nat} (hq : ∀ p ∈ n.ptrs, Q p) (h8 : s.length % 8 = 0) (ha : a + ownB n ≤ wn s) (h1 : wn s + (n.ptrs.map f).sum ≤ size) (h2 : wn s + (n.ptrs.map f).sum ≤ L) : ∃ s1, bodyP wr n [s] 0 a = some [s1] ∧ s1.length = s.length + 8 * (n.ptrs.map f).sum := by
  unfold bodyP
  rw [put_one]
  have hl : (spl s (8 * a) n.data.data.toList).length = s.length := spl_length (by have h8 := wds_len (ss := [s]) (fun i => by cases i with | zero => exact h8 | succ i => rfl) 0; rw [data_toList]; unfold ownB at ha; have : sgS [s] 0 = s := rfl; rw [this] at h8; omega)
  have hwn : wn (spl s (8 * a) n.data.data.toList) = wn s := by unfold wn; rw [hl]
  obtain ⟨s1, e1, l1⟩ := ptrs_one hw n.ptrs (spl s (8 * a) n.data.data.toList) (a + (n.data.size + 7) / 8) hq (by omega) (by rw [hwn]; unfold ownB at ha; omega) (by omega) (by omega)
  rw [hl] at l1
  exact ⟨s1, e1, l1⟩
theorem items_one {L size : Nat} {wr : Wr} {Q : Nd → Prop} {f : Nd → Nat} (hw : OneW L size wr Q f) (each : Nat) : ∀ (l : List Nd) (s : List UInt8) (a : Nat), (∀ y ∈ l, ownB y = each ∧ ∀ p ∈ y.ptrs, Q p) → s.length % 8 = 0 → a + l.length * each ≤ wn s → wn s + (l.map fun y => (y.ptrs.map f).sum).sum ≤ size → wn s + (l.map fun y => (y.ptrs.map f).sum).sum ≤ L → ∃ s1, itemsP wr each l [s] 0 a = some [s1] ∧ s1.length = s.length + 8 * (l.map fun y => (y.ptrs.map f).sum).sum
  | [], s, a, _, _, _, _, _ => ⟨s, rfl, by simp⟩
  | y :: t, s, a, hq, h8, ha, h1, h2 => by
    simp only [List.length_cons, Nat.add_mul, Nat.one_mul] at ha
    simp only [List.map_cons, List.sum_cons] at h1 h2 ⊢
    obtain ⟨hy, hyp⟩ := hq y (List.mem_cons_self ..)
    obtain ⟨s1, e1, l1⟩ := body_one (a := a) hw hyp h8 (by rw [hy]; omega) (show wn s + (y.ptrs.map f).sum ≤ size by omega) (show wn s + (y.ptrs.map f).sum ≤ L by omega)
    have e : wn s1 = wn s + (y.ptrs.map f).sum := by unfold wn; omega
    obtain ⟨s2, e2, l2⟩ := items_one hw each t s1 (a + each) (fun q hm => hq q (List.mem_cons_of_mem _ hm)) (by omega) (by omega) (by omega) (by omega)
    exact ⟨s2, by simp only [itemsP, e1, Option.bind_some]; exact e2, by omega⟩
theorem fill_one {L size : Nat} {wr : Wr} {Q : Nd → Prop} {f : Nd → Nat} (hw : OneW L size wr Q f) {n : Nd} {s : List UInt8} {a : Nat} (hf : formN n = true) (hq : ∀ p ∈ ptrsL n, Q p) (h8 : s.length % 8 = 0) (ha : a + ownN n ≤ wn s) (h1 : wn s + ((ptrsL n).map f).sum ≤ size) (h2 : wn s + ((ptrsL n).map f).sum ≤ L) : ∃ s1, fillP wr n [s] 0 a = some [s1] ∧ s1.length = s.length + 8 * ((ptrsL n).map f).sum := by
  have hsum : ((ptrsL n).map f).sum = (n.ptrs.map f).sum + (n.items.map fun y => (y.ptrs.map f).sum).sum := by unfold ptrsL; rw [List.map_append, List.sum_append, flat_sum]
  unfold fillP
  split
  · rename_i hm
    obtain ⟨g1, g2, g3⟩ := own_many hf hm
    have e0 : (n.ptrs.map f).sum = 0 := by rw [g3]; rfl
    rw [put_one]
    have hl : (spl s (8 * a) (tagW n)).length = s.length := spl_length (by rw [tagW_length]; unfold wn at ha; omega)
    have hwn : wn (spl s (8 * a) (tagW n)) = wn s := by unfold wn; rw [hl]
    obtain ⟨s1, e1, l1⟩ := items_one hw (itD n + itP n) n.items (spl s (8 * a) (tagW n)) (a + 1) (fun y hy => ⟨item_own g1 y hy, fun p hp => hq p (List.mem_append_right _ (List.mem_flatMap.2 ⟨y, hy, hp⟩))⟩) (by omega) (by omega) (by omega) (by omega)
    exact ⟨s1, e1, by omega⟩
  · rename_i hm
    obtain ⟨g1, g2⟩ := own_plain hf hm
    have e0 : (n.items.map fun y => (y.ptrs.map f).sum).sum = 0 := by rw [g2]; rfl
    obtain ⟨s1, e1, l1⟩ := body_one (a := a) hw (fun p hp => hq p (List.mem_append_left _ hp)) h8 (by omega) (show wn s + (n.ptrs.map f).sum ≤ size by omega) (show wn s + (n.ptrs.map f).sum ≤ L by omega)
    exact ⟨s1, e1, by omega⟩
theorem own_none {n : Nd} (hf : formN n = true) (ho : ownN n = 0) : ptrsL n = [] := by
  by_cases hm : n.kind = 2 ∧ n.size = 7
  · have := (own_many hf hm).2.1; omega
  · obtain ⟨g1, g2⟩ := own_plain hf hm
    have : n.ptrs.length = 0 := by unfold ownB at g1; omega
    unfold ptrsL
    rw [g2, List.eq_nil_of_length_eq_zero this]
    rfl
theorem wr_one (L size : Nat) : ∀ d, OneW L size (wrP L size d) (fun n => okN d n = true) (wordsN d)
  | 0 => fun p s a _ _ _ _ _ => ⟨s, rfl, rfl⟩
  | d + 1 => fun n s a hn h8 ha h1 h2 => by
    have hf := ok_formN hn
    simp only [wrP]
    split
    · rename_i hk0
      exact ⟨s, rfl, by rw [(none_words (d := d + 1) hf hk0).2]; rfl⟩
    · rename_i hk0
      have e3 : wordsN (d + 1) n = ownN n + ((ptrsL n).map (wordsN d)).sum := rfl
      split
      · rename_i hp
        refine ⟨_, by rw [put_one], ?_⟩
        rw [spl_length (by rw [ptrW_length]; unfold wn at ha; omega), e3, hp, own_none hf hp]
        rfl
      · rename_i hp
        have hr : roomP L size n [s] 0 a = some ([spl (s ++ zer (ownN n)) (8 * a) (ptrW n ((wn s : Int) - a - 1))], 0, wn s) := by
          unfold roomP
          have hs : sgS [s] 0 = s := rfl
          have ht : totS [s] = wn s := by simp [totS]
          rw [hs, ht, if_pos (by omega), if_pos (by omega)]
          rfl
        rw [hr, Option.bind_some]
        have hl : (spl (s ++ zer (ownN n)) (8 * a) (ptrW n ((wn s : Int) - a - 1))).length = s.length + 8 * ownN n := by
          rw [spl_length (by rw [ptrW_length, List.length_append]; unfold wn at ha; omega), List.length_append, zer_length]
        have hwn : wn (spl (s ++ zer (ownN n)) (8 * a) (ptrW n ((wn s : Int) - a - 1))) = wn s + ownN n := by unfold wn at hl ⊢; rw [hl]; omega
        obtain ⟨s1, g1, g2⟩ := fill_one (wr_one L size d) hf (ok_within hn hk0) (s := spl (s ++ zer (ownN n)) (8 * a) (ptrW n ((wn s : Int) - a - 1))) (a := wn s) (by omega) (by omega) (by omega) (by omega)
        exact ⟨s1, g1, by omega⟩
theorem build_one {n : Nd} {size : Nat} (h : nodeOk n = true) (hs : nodeWords n + 1 ≤ size) : ∃ s, buildP 200 size n = some [s] ∧ s.length = 8 * (nodeWords n + 1) := by
  obtain ⟨h1, h2⟩ := node_ok h
  have e : nodeWords n = wordsN 8 n := by unfold nodeWords; rw [if_pos h]
  rw [e] at hs ⊢
  obtain ⟨s, g1, g2⟩ := wr_one 200 size 8 n (zer 1) 0 h1 (by decide) (by decide) (by rw [show wn (zer 1) = 1 by decide]; omega) (by rw [show wn (zer 1) = 1 by decide]; omega)
  exact ⟨s, g1, by rw [g2, zer_length]; omega⟩
end Go.Proofs.Ytbhmklbdfmgmlaa

/- How much is built at least; the first segment: plainly. No Go text. -/
namespace Go.Proofs.Ytbhmklbdfmgmlaa
def Fst (size : Nat) (ss s1 : Segs) : Prop := wn (sgS ss 0) ≤ size → wn (sgS s1 0) ≤ size
theorem put_fst {size : Nat} {ss : Segs} {i a : Nat} {t : List UInt8} (hi : i < ss.length) (ha : 8 * a + t.length ≤ (sgS ss i).length) : Fst size ss (putS ss i a t) := fun h => by rw [← (put_alen hi ha).wn]; exact h
theorem Fst.trans {size : Nat} {a b c : Segs} (h : Fst size a b) (g : Fst size b c) : Fst size a c := fun x => g (h x)
theorem grow_fst {size : Nat} {ss : Segs} {j k : Nat} (hj : j < ss.length) (h : j = 0 → wn (sgS ss 0) + k ≤ size) : Fst size ss (growB ss j k) := fun x => by
  by_cases e : j = 0
  · subst e; rw [wn_grow hj]; exact h rfl
  · rw [sgS_grow hj, if_neg (fun q => e q.symm)]; exact x
theorem room_low {L size : Nat} {n : Nd} {ss s1 : Segs} {i a j c : Nat} (hk : SOk L ss) (hi : i < ss.length) (ha : a < wn (sgS ss i)) (h : roomP L size n ss i a = some (s1, j, c)) : totS ss + ownN n ≤ totS s1 ∧ Fst size ss s1 := by
  unfold roomP at h
  split at h
  · rename_i hfit
    split at h
    · rename_i ht
      injection h with h
      injection h with h1 h2
      subst h1
      have hi' : i < (growB ss i (ownN n)).length := by rw [growB_length]; exact hi
      have hg := hk.grow hi ht
      have hr := room8 (k := 1) hg.wds (i := i) (a := a) (by rw [wn_grow hi]; omega)
      have hp : 8 * a + (ptrW n ((wn (sgS ss i) : Int) - a - 1)).length ≤ (sgS (growB ss i (ownN n)) i).length := by rw [ptrW_length]; omega
      refine ⟨?_, (grow_fst hi (fun e => by subst e; exact hfit)).trans (put_fst hi' hp)⟩
      rw [put_totS hi' hp, grow_totS hi]
      exact Nat.le_refl _
    · cases h
  · split at h
    · cases h
    · rename_i s0 j0 ho
      obtain ⟨h1, h2, h3⟩ := other_some hk ho
      have h0 : totS s0 = totS ss ∧ Fst size ss s0 ∧ (j0 = 0 → wn (sgS s0 0) + (1 + ownN n) ≤ size) := by
        unfold otherP at ho
        split at ho
        · rename_i hl
          injection ho with ho; injection ho with e1 e2
          subst e1
          exact ⟨rfl, fun x => x, fun e => by rw [e] at e2; rw [e2] at hl; exact hl⟩
        · split at ho
          · injection ho with ho; injection ho with e1 e2
            subst e1
            have h1 := hk.one
            refine ⟨by rw [totS_app]; rfl, fun x => ?_, fun e => by omega⟩
            rw [sgS_app, if_neg (by omega)]; exact x
          · cases ho
      split at h
      · rename_i ht
        injection h with h
        injection h with e1 e2
        subst e1
        have hg := h1.grow h3 ht
        have hi' : i < (growB s0 j0 (1 + ownN n)).length := by rw [growB_length]; exact Nat.lt_of_lt_of_le hi h2.1
        have hai : a < wn (sgS (growB s0 j0 (1 + ownN n)) i) := Nat.lt_of_lt_of_le ha ((h2.trans (grow_grew h3)).wn i)
        have hr := room8 (k := 1) hg.wds (i := i) (a := a) (by omega)
        have hp : 8 * a + (farW (wn (sgS s0 j0)) j0).length ≤ (sgS (growB s0 j0 (1 + ownN n)) i).length := by rw [farW_length]; omega
        have hj2 : j0 < (putS (growB s0 j0 (1 + ownN n)) i a (farW (wn (sgS s0 j0)) j0)).length := by rw [putS_length, growB_length]; exact h3
        have hg2 := hg.put hi' hp
        have hwj : wn (sgS (putS (growB s0 j0 (1 + ownN n)) i a (farW (wn (sgS s0 j0)) j0)) j0) = wn (sgS s0 j0) + (1 + ownN n) := by rw [← (put_alen hi' hp).wn, wn_grow h3]
        have hr2 := room8 (k := 1) hg2.wds (i := j0) (a := wn (sgS s0 j0)) (by omega)
        have hp2 : 8 * wn (sgS s0 j0) + (ptrW n 0).length ≤ (sgS (putS (growB s0 j0 (1 + ownN n)) i a (farW (wn (sgS s0 j0)) j0)) j0).length := by rw [ptrW_length]; omega
        refine ⟨?_, ((h0.2.1.trans (grow_fst h3 h0.2.2)).trans (put_fst hi' hp)).trans (put_fst hj2 hp2)⟩
        rw [put_totS hj2 hp2, put_totS hi' hp, grow_totS h3, h0.1]
        omega
      · cases h
/-- what a writer of nodes adds at least. -/
def WrLow (L size : Nat) (wr : Wr) (Q : Nd → Prop) (f : Nd → Nat) : Prop := ∀ p ss i a s1, Q p → SOk L ss → i < ss.length → a < wn (sgS ss i) → wr p ss i a = some s1 → totS ss + f p ≤ totS s1 ∧ Fst size ss s1
theorem ptrs_low {L size : Nat} {wr : Wr} {Q : Nd → Prop} {f : Nd → Nat} (hw : WrOk L wr Q) (ht : WrLow L size wr Q f) : ∀ (l : List Nd) (ss : Segs) (i a : Nat) (s1 : Segs), (∀ p ∈ l, Q p) → SOk L ss → i < ss.length → a + l.length ≤ wn (sgS ss i) → ptrsP wr l ss i a = some s1 → totS ss + (l.map f).sum ≤ totS s1 ∧ Fst size ss s1
  | [], ss, i, a, s1, _, hk, _, _, h => by injection h with h; subst h; exact ⟨Nat.le_refl _, fun x => x⟩
  | p :: t, ss, i, a, s1, hq, hk, hi, ha, h => by
    simp only [ptrsP, Option.bind_eq_some_iff] at h
    obtain ⟨s2, h1, h2⟩ := h
    simp only [List.length_cons] at ha
    obtain ⟨k2, g2⟩ := hw p ss i a s2 (hq p (List.mem_cons_self ..)) hk hi (by omega) h1
    obtain ⟨e1, f1⟩ := ht p ss i a s2 (hq p (List.mem_cons_self ..)) hk hi (by omega) h1
    obtain ⟨e2, f2⟩ := ptrs_low hw ht t s2 i (a + 1) s1 (fun q hm => hq q (List.mem_cons_of_mem _ hm)) k2 (Nat.lt_of_lt_of_le hi g2.1) (by have := g2.wn i; omega) h2
    rw [List.map_cons, List.sum_cons]
    exact ⟨by omega, f1.trans f2⟩
theorem body_low {L size : Nat} {wr : Wr} {Q : Nd → Prop} {f : Nd → Nat} (hw : WrOk L wr Q) (ht : WrLow L size wr Q f) {n : Nd} {ss s1 : Segs} {i a : Nat} (hq : ∀ p ∈ n.ptrs, Q p) (hk : SOk L ss) (hi : i < ss.length) (ha : a + ownB n ≤ wn (sgS ss i)) (h : bodyP wr n ss i a = some s1) : totS ss + (n.ptrs.map f).sum ≤ totS s1 ∧ Fst size ss s1 := by
  unfold bodyP at h
  have hf := body_fits hk.wds ha
  have hp := put_alen hi hf
  obtain ⟨e1, f1⟩ := ptrs_low hw ht n.ptrs _ i _ s1 hq (hk.put hi hf) (by rw [putS_length]; exact hi) (by rw [← hp.wn]; unfold ownB at ha; omega) h
  rw [put_totS hi hf] at e1
  exact ⟨e1, (put_fst hi hf).trans f1⟩
theorem items_low {L size : Nat} {wr : Wr} {Q : Nd → Prop} {f : Nd → Nat} (hw : WrOk L wr Q) (ht : WrLow L size wr Q f) (each : Nat) : ∀ (l : List Nd) (ss : Segs) (i a : Nat) (s1 : Segs), (∀ y ∈ l, ownB y = each ∧ ∀ p ∈ y.ptrs, Q p) → SOk L ss → i < ss.length → a + l.length * each ≤ wn (sgS ss i) → itemsP wr each l ss i a = some s1 → totS ss + (l.map fun y => (y.ptrs.map f).sum).sum ≤ totS s1 ∧ Fst size ss s1
  | [], ss, i, a, s1, _, hk, _, _, h => by injection h with h; subst h; exact ⟨Nat.le_refl _, fun x => x⟩
  | y :: t, ss, i, a, s1, hq, hk, hi, ha, h => by
    simp only [itemsP, Option.bind_eq_some_iff] at h
    obtain ⟨s2, h1, h2⟩ := h
    simp only [List.length_cons, Nat.add_mul, Nat.one_mul] at ha
    obtain ⟨hy, hyp⟩ := hq y (List.mem_cons_self ..)
    obtain ⟨k2, g2⟩ := body_some hw hyp hk hi (by rw [hy]; omega) h1
    obtain ⟨e1, f1⟩ := body_low hw ht hyp hk hi (by rw [hy]; omega) h1
    obtain ⟨e2, f2⟩ := items_low hw ht each t s2 i (a + each) s1 (fun q hm => hq q (List.mem_cons_of_mem _ hm)) k2 (Nat.lt_of_lt_of_le hi g2.1) (by have := g2.wn i; omega) h2
    rw [List.map_cons, List.sum_cons]
    exact ⟨by omega, f1.trans f2⟩
theorem fill_low {L size : Nat} {wr : Wr} {Q : Nd → Prop} {f : Nd → Nat} (hw : WrOk L wr Q) (ht : WrLow L size wr Q f) {n : Nd} {ss s1 : Segs} {i a : Nat} (hf : formN n = true) (hq : ∀ p ∈ ptrsL n, Q p) (hk : SOk L ss) (hi : i < ss.length) (ha : a + ownN n ≤ wn (sgS ss i)) (h : fillP wr n ss i a = some s1) : totS ss + ((ptrsL n).map f).sum ≤ totS s1 ∧ Fst size ss s1 := by
  have hsum : ((ptrsL n).map f).sum = (n.ptrs.map f).sum + (n.items.map fun y => (y.ptrs.map f).sum).sum := by unfold ptrsL; rw [List.map_append, List.sum_append, flat_sum]
  unfold fillP at h
  split at h
  · rename_i hm
    obtain ⟨h1, h2, h3⟩ := own_many hf hm
    have e0 : (n.ptrs.map f).sum = 0 := by rw [h3]; rfl
    have hr := room8 (k := 1) hk.wds (i := i) (a := a) (by omega)
    have hp : 8 * a + (tagW n).length ≤ (sgS ss i).length := by rw [tagW_length]; omega
    obtain ⟨e1, f1⟩ := items_low hw ht (itD n + itP n) n.items _ i (a + 1) s1 (fun y hy => ⟨item_own h1 y hy, fun p hp => hq p (List.mem_append_right _ (List.mem_flatMap.2 ⟨y, hy, hp⟩))⟩) (hk.put hi hp) (by rw [putS_length]; exact hi) (by rw [← (put_alen hi hp).wn]; omega) h
    rw [put_totS hi hp] at e1
    exact ⟨by omega, (put_fst hi hp).trans f1⟩
  · rename_i hm
    obtain ⟨h1, h2⟩ := own_plain hf hm
    have e0 : (n.items.map fun y => (y.ptrs.map f).sum).sum = 0 := by rw [h2]; rfl
    obtain ⟨e1, f1⟩ := body_low hw ht (fun p hp => hq p (List.mem_append_left _ hp)) hk hi (by omega) h
    exact ⟨by omega, f1⟩
theorem wr_low (L size : Nat) : ∀ d, WrLow L size (wrP L size d) (fun n => okN d n = true) (wordsN d)
  | 0 => fun p ss i a s1 _ hk _ _ h => by simp only [wrP] at h; injection h with h; subst h; exact ⟨Nat.le_refl _, fun x => x⟩
  | d + 1 => fun n ss i a s1 hn hk hi ha h => by
    simp only [wrP] at h
    split at h
    · rename_i hk0
      injection h with h; subst h
      exact ⟨by rw [(none_words (d := d + 1) (ok_formN hn) hk0).2]; exact Nat.le_refl _, fun x => x⟩
    · rename_i hk0
      have e3 : wordsN (d + 1) n = ownN n + ((ptrsL n).map (wordsN d)).sum := rfl
      split at h
      · rename_i hp
        injection h with h
        subst h
        have hr := room8 (k := 1) hk.wds (i := i) (a := a) (by omega)
        have hl : 8 * a + (ptrW n (if n.kind = 1 then -1 else 0)).length ≤ (sgS ss i).length := by rw [ptrW_length]; omega
        refine ⟨?_, put_fst hi hl⟩
        rw [put_totS hi hl, e3, hp, own_none (ok_formN hn) hp]
        exact Nat.le_refl _
      · rename_i hp
        rw [Option.bind_eq_some_iff] at h
        obtain ⟨⟨s2, j, c⟩, h1, h2⟩ := h
        obtain ⟨k2, g2, hj, hc⟩ := room_some hk hi ha h1
        obtain ⟨e1, f1⟩ := room_low hk hi ha h1
        obtain ⟨e2, f2⟩ := fill_low (wr_some L size d) (wr_low L size d) (ok_formN hn) (ok_within hn hk0) k2 hj hc h2
        exact ⟨by omega, f1.trans f2⟩
/-- what is built, in words. -/
theorem bld_facts {n : Nd} {z : Int} {ss : Segs} (h : bldV n z = some ss) : 1 ≤ ss.length ∧ ss.length ≤ 6 ∧ totS ss ≤ 200 ∧ nodeWords n ≤ 199 ∧ nodeWords n + 1 ≤ totS ss ∧ totS ss ≤ 2 * (nodeWords n + 1) ∧ (z < nodeWords n + 1 ∨ ss.length = 1) ∧ (1 < ss.length ∨ totS ss = nodeWords n + 1) := by
  unfold bldV at h
  split at h
  · rename_i hh
    obtain ⟨hok, hz1, hz2⟩ := hh
    obtain ⟨h1, h2⟩ := node_ok hok
    have e : nodeWords n = wordsN 8 n := by unfold nodeWords; rw [if_pos hok]
    have hk0 := SOKL 200 (by omega)
    have hs := wr_some 200 z.toNat 8 n [zer 1] 0 0 ss h1 hk0 (by decide) (by decide) h
    have ht := wr_tot 200 z.toNat 8 n [zer 1] 0 0 ss h1 hk0 (by decide) (by decide) h
    obtain ⟨hl, hf⟩ := wr_low 200 z.toNat 8 n [zer 1] 0 0 ss h1 hk0 (by decide) (by decide) h
    have h01 : totS [zer 1] = 1 := by decide
    have h02 : wn (sgS [zer 1] 0) = 1 := by decide
    rw [h01] at ht hl
    have hf1 := hf (by rw [h02]; omega)
    refine ⟨hs.1.one, hs.1.six, hs.1.totS, by omega, by omega, by omega, ?_, ?_⟩
    · by_cases hfit : nodeWords n + 1 ≤ z.toNat
      · right
        obtain ⟨s, g1, g2⟩ := build_one hok hfit
        rw [g1] at h
        injection h with h
        subst h
        rfl
      · left; omega
    · by_cases hfit : nodeWords n + 1 ≤ z.toNat
      · right
        obtain ⟨s, g1, g2⟩ := build_one hok hfit
        rw [g1] at h
        injection h with h
        subst h
        have : totS [s] = wn s := by simp [totS]
        rw [this]; unfold wn; omega
      · left
        have h1 := hs.1.one
        by_cases hx : ss.length = 1
        · obtain ⟨s, rfl⟩ := List.length_eq_one_iff.1 hx
          have : totS [s] = wn s := by simp [totS]
          have e2 : wn (sgS [s] 0) = wn s := rfl
          omega
        · omega
  · cases h
end Go.Proofs.Ytbhmklbdfmgmlaa

/- The specification's writer of segments in memory. -/
namespace Go.Proofs.Ytbhmklbdfmgmlaa
open Go.RowKit
abbrev wrT : TypeId := 76
abbrev stT : TypeId := 9
abbrev strS (s : List UInt8) : Value := .string ⟨s.toArray⟩
/-- a writer of segments, and its texts. -/
def Sb (w : World) (base b size : Nat) (ss : Segs) (bad : Bool) (P : Nat → Prop) : Prop :=
  ∃ v, w.heap[b]? = some (.cells #[v, .int .i64 size, .bool bad] wrT (0, 0)) ∧ w.ownsRow base stT 1 v ss.length (ss.map strS) ∧ base ≤ b ∧ P b ∧ ∀ k, v.ownBlock = some k → P k
theorem Sb.low {w w' : World} {base b size : Nat} {ss : Segs} {bad : Bool} {P : Nat → Prop} (h : Sb w base b size ss bad P) (hb : Below w.heap.size w w') : Sb w' base b size ss bad P := by
  obtain ⟨v, h1, h2, h3, h4⟩ := h
  exact ⟨v, (hb.block _ (row_lt h1)).trans h1, own_keepB h2 (fun k hk => hb.block k (h2.lt k hk).2), h3, h4⟩
theorem Sb.weak {w : World} {base b size : Nat} {ss : Segs} {bad : Bool} {P Q : Nat → Prop} (h : Sb w base b size ss bad P) (hQ : ∀ k, P k → Q k) : Sb w base b size ss bad Q := by
  obtain ⟨v, h1, h2, h3, h4, h5⟩ := h
  exact ⟨v, h1, h2, h3, hQ _ h4, fun k hk => hQ _ (h5 k hk)⟩
theorem Sb.tight {w : World} {base b size : Nat} {ss : Segs} {bad : Bool} {P : Nat → Prop} (h : Sb w base b size ss bad P) : Sb w base b size ss bad (fun k => P k ∧ base ≤ k ∧ k < w.heap.size) := by
  obtain ⟨v, h1, h2, h3, h4, h5⟩ := h
  exact ⟨v, h1, h2, h3, ⟨h4, h3, row_lt h1⟩, fun k hk => ⟨h5 k hk, h2.lt k hk⟩⟩
theorem Sb.base {w : World} {base b size : Nat} {ss : Segs} {bad : Bool} {P : Nat → Prop} (h : Sb w base b size ss bad P) : base ≤ b ∧ b < w.heap.size := by
  obtain ⟨v, h1, h2, h3, h4, h5⟩ := h
  exact ⟨h3, row_lt h1⟩
theorem KP.drew {P : Nat → Prop} {w w' : World} (h : KP P w w') : KP P w w'.drew := ⟨h.os, h.tape, h.output, h.size, h.block⟩
theorem Sb.drew {w : World} {base b size : Nat} {ss : Segs} {bad : Bool} {P : Nat → Prop} (h : Sb w base b size ss bad P) : Sb w.drew base b size ss bad P := h.low (Below.refl _ _).drew
theorem sg_eq {ss : Segs} {i : Nat} (hi : i < ss.length) : sgS ss i = ss[i] := by unfold sgS; rw [List.getElem?_eq_getElem hi]; rfl
/-- what a walk reads to come to a segment. -/
theorem Sb.open_ {w : World} {base b size : Nat} {ss : Segs} {bad : Bool} {P : Nat → Prop} (h : Sb w base b size ss bad P) (h1 : 1 ≤ ss.length) : ∃ r cap, w.heap[b]? = some (.cells #[.slice (some ⟨r, 0, none⟩) ss.length cap, .int .i64 size, .bool bad] wrT (0, 0)) ∧ (P r ∧ r < w.heap.size ∧ r ≠ b) ∧
    (∀ i, i < ss.length → w.cell? ⟨r, i, none⟩ = some (strS (sgS ss i)) ∧ w.frozen? ⟨r, i, none⟩ = false) ∧
    ∀ i s, i < ss.length → Sb (w.setCell ⟨r, i, none⟩ (strS s)) base b size (ss.set i s) bad P := by
  obtain ⟨v, hb, ho, hl, hP, hv⟩ := h
  obtain ⟨r, cap, cur, rfl, e2, e3, e4, e5, e6, e7⟩ := own_cases ho h1
  have hne : r ≠ b := ne_T e3 hb (by decide)
  refine ⟨r, cap, hb, ⟨hv r rfl, row_lt e3, hne⟩, fun i hi => ⟨?_, row_free e3 i⟩, fun i s hi => ?_⟩
  · have := ho.cells (g := r) rfl i (strS (sgS ss i)) (by rw [List.getElem?_map, List.getElem?_eq_getElem hi, sg_eq hi]; rfl)
    rwa [add_zero0] at this
  · refine ⟨_, (Below.heap_setCell w ⟨r, i, none⟩ _ b (fun e => hne e.symm)).trans hb, ?_, hl, hP, hv⟩
    have := ho.stored (g := r) (cap := cap) i (strS s)
    rw [List.length_set, List.map_set]
    exact this.1
theorem Sb.bad_ {w : World} {base b size : Nat} {ss : Segs} {bad : Bool} {P : Nat → Prop} (h : Sb w base b size ss bad P) : Sb (w.setCell ⟨b, 2, none⟩ (.bool true)) base b size ss true P := by
  obtain ⟨v, hb, ho, hl, hP, hv⟩ := h
  refine ⟨v, row_setN hb 2 _, own_keepB ho (fun k hk => Below.heap_setCell w ⟨b, 2, none⟩ _ k ?_), hl, hP, hv⟩
  obtain ⟨c, hc⟩ := own_T ho hk
  exact ne_T hc hb (by decide)
end Go.Proofs.Ytbhmklbdfmgmlaa

/- The specification's writer: bytes are put; words more. -/
namespace Go.Proofs.Ytbhmklbdfmgmlaa
open Go.RowKit Go.Deep
def PutQ (base b size : Nat) (ss : Segs) (i a : Nat) (t : List UInt8) (P : Nat → Prop) (w : World) (e : Ending) (w' : World) : Prop :=
  e = .returned (.tuple #[]) ∧ KP P w w' ∧ Sb w' base b size (putS ss i a t) false P
theorem spl_ba (s t : List UInt8) (p : Nat) (h : p + t.length ≤ s.length) : ((⟨s.toArray⟩ : ByteArray).extract 0 p ++ (⟨t.toArray⟩ : ByteArray)) ++ (⟨s.toArray⟩ : ByteArray).extract (p + t.length) s.length = ⟨(spl s p t).toArray⟩ := by
  apply ext_ba
  rw [ByteArray.data_append, ByteArray.data_append, Array.toList_append, Array.toList_append, Lib.extract_data, Lib.extract_data]
  unfold spl
  simp
  rw [List.take_of_length_le (by rw [List.length_drop]; exact Nat.le_refl _)]
set_option maxHeartbeats 2000000 in
set_option maxRecDepth 100000 in
theorem sput_any (base b size : Nat) (ss : Segs) (P : Nat → Prop) (w : World) (h : Sb w base b size ss false P) (i a : Nat) (t : List UInt8) (hi : i < ss.length) (ha : 8 * a + t.length ≤ (sgS ss i).length) (hl : (sgS ss i).length ≤ 100000) :
    Calls Try.prog 62 #[.pointer (some ⟨b, 0, none⟩), .int .i64 (i : Int), .int .i64 (a : Int), .string ⟨t.toArray⟩] w (PutQ base b size ss i a t P w) := by
  obtain ⟨r, cap, hb, ⟨hPr, hrl, hrb⟩, hc, hst⟩ := h.open_ (by omega)
  obtain ⟨c0, c1, c2⟩ := cells3 hb
  obtain ⟨hci, hfi⟩ := hc i hi
  have hfin := hst i (spl (sgS ss i) (8 * a) t) hi
  have hba := spl_ba (sgS ss i) t (8 * a) ha
  have hts : (⟨t.toArray⟩ : ByteArray).size = t.length := by simp [ByteArray.size]
  have hss : (⟨(sgS ss i).toArray⟩ : ByteArray).size = (sgS ss i).length := by simp [ByteArray.size]
  have hlt : (i : Int) < (ss.length : Int) := by omega
  have HF := Lib.hid hfin
  have HPR := Lib.hid hPr
  obtain ⟨s, hs⟩ : ∃ s, sgS ss i = s := ⟨_, rfl⟩
  rw [hs] at hci hfin hba hss ha hl HF
  have HS := Lib.hid hs
  obtain ⟨S, hS⟩ : ∃ S : ByteArray, S = ⟨s.toArray⟩ := ⟨_, rfl⟩
  obtain ⟨T, hT⟩ : ∃ T : ByteArray, T = ⟨t.toArray⟩ := ⟨_, rfl⟩
  unfold strS at hci
  rw [← hS] at hci hss hba
  rw [← hT] at hts hba ⊢
  have hx1 : (0 : Int) ≤ 8 * (a : Int) := by omega
  have hx2 : 8 * (a : Int) ≤ (S.size : Int) := by rw [hss]; omega
  have hx3 : (0 : Int) ≤ 8 * (a : Int) + (T.size : Int) := by omega
  have hx4 : 8 * (a : Int) + (T.size : Int) ≤ (S.size : Int) := by rw [hss, hts]; omega
  have hN1 : (8 * (a : Int)).toNat = 8 * a := by omega
  have hN2 : (8 * (a : Int) + (T.size : Int)).toNat = 8 * a + T.size := by omega
  have hT5 : T.size ≤ 100000 := by omega
  have hS5 : S.size ≤ 100000 := by omega
  have hsz1 : (S.extract 0 (8 * a)).size ≤ 100000 := by rw [ByteArray.size_extract]; omega
  have HFIN : Hid (∀ W : World, W = w.setCell ⟨r, i, none⟩ (.string ((S.extract 0 (8 * a) ++ T) ++ S.extract (8 * a + T.size) S.size)) → KP P w W ∧ Sb W base b size (putS ss i a t) false P) := Lib.hid (fun W hW => by
    subst hW
    rw [hts, hss, hba]
    refine ⟨KP.set HPR.out _ _ _, ?_⟩
    have := HF.out
    unfold putS
    rw [HS.out]
    exact this)
  have HSS := Lib.hid hss
  have HTS := Lib.hid hts
  clear hfin hba hs hS hT hss hts hc hst ha
  go_enter Try.func62, Try.ntmps62
  go_wp2_with fail
  go_region
  obtain ⟨k1, k2⟩ := HFIN.out _ rfl
  go_end0
  exact ⟨rfl, k1.drew, k2.drew⟩
def RoomSQ (base b size : Nat) (ss : Segs) (i k : Nat) (P : Nat → Prop) (w : World) (e : Ending) (w' : World) : Prop :=
  e = .returned (.int .i64 (wn (sgS ss i) : Nat)) ∧ KP P w w' ∧ Sb w' base b size (growB ss i k) false P
set_option maxHeartbeats 2000000 in
set_option maxRecDepth 100000 in
theorem sroom_any (base b size : Nat) (ss : Segs) (P : Nat → Prop) (w : World) (h : Sb w base b size ss false P) (i k : Nat) (hi : i < ss.length) (hk : k ≤ 10000) (hl : (sgS ss i).length ≤ 100000) :
    Calls Try.prog 65 #[.pointer (some ⟨b, 0, none⟩), .int .i64 (i : Int), .int .i64 (k : Int)] w (RoomSQ base b size ss i k P w) := by
  obtain ⟨r, cap, hb, ⟨hPr, hrl, hrb⟩, hc, hst⟩ := h.open_ (by omega)
  obtain ⟨c0, c1, c2⟩ := cells3 hb
  obtain ⟨hci, hfi⟩ := hc i hi
  have hss : (⟨(sgS ss i).toArray⟩ : ByteArray).size = (sgS ss i).length := by simp [ByteArray.size]
  have hlt : (i : Int) < (ss.length : Int) := by omega
  have HH := Lib.hid h
  have HB := Lib.hid hb
  have HC := Lib.hid hci
  have HPR := Lib.hid hPr
  obtain ⟨s, hs⟩ : ∃ s, sgS ss i = s := ⟨_, rfl⟩
  rw [hs] at hci hss hl HC
  have HS := Lib.hid hs
  obtain ⟨S, hS⟩ : ∃ S : ByteArray, S = ⟨s.toArray⟩ := ⟨_, rfl⟩
  unfold strS at hci HC
  rw [← hS] at hci hss HC
  have HSV := Lib.hid hS
  have hn8 : (8 * (k : Int)).toNat = 8 * k := by omega
  have HM := Lib.hid (fun W => l1Many_any ⟨#[0]⟩ (8 * (k : Int)) W (by omega) (by omega) (by decide) (by show 1 * _ ≤ _; omega))
  obtain ⟨Z, hZ⟩ : ∃ Z : ByteArray, Z = ⟨(zer k).toArray⟩ := ⟨_, rfl⟩
  have hzz : (⟨(repL (⟨#[0]⟩ : ByteArray).data.toList (8 * (k : Int)).toNat).toArray⟩ : ByteArray) = Z := by
    rw [hZ, hn8]
    congr 2
    unfold zer
    generalize 8 * k = q
    induction q with
    | zero => rfl
    | succ q ih => rw [List.replicate_succ, ← ih]; rfl
  have hzs : Z.size = 8 * k := by rw [hZ]; simp [ByteArray.size, zer_length]
  have HZV := Lib.hid hZ
  have hS5 : S.size ≤ 100000 := by omega
  have hZ5 : Z.size ≤ 100000 := by omega
  have hcc : ¬ 9223372036854775807 < S.size + Z.size := by omega
  have HE : Hid (((S.size : Int) / 8) = ((wn (sgS ss i) : Nat) : Int)) := Lib.hid (by rw [HS.out]; unfold wn; rw [hss]; omega)
  have hHM : ∀ W, Calls Try.prog 43 #[.string ⟨#[0]⟩, .int .i64 (8 * (k : Int))] W fun e w' => e = .returned (.string Z) ∧ W = w' := fun W => by
    have := HM.out W
    rw [hzz] at this
    exact this
  have HHM := Lib.hid hHM
  have HFIN : Hid (∀ W : World, W = w.setCell ⟨r, i, none⟩ (.string (S ++ Z)) → KP P w W.drew ∧ Sb W.drew base b size (growB ss i k) false P) := Lib.hid (fun W hW => by
    subst hW
    have h1 := hst i (s ++ zer k) hi
    have e : (⟨(s ++ zer k).toArray⟩ : ByteArray) = S ++ Z := by
      rw [hS, hZ]; apply ext_ba; rw [ByteArray.data_append]; simp
    unfold strS at h1
    rw [e] at h1
    refine ⟨(KP.set HPR.out _ _ _).drew, ?_⟩
    unfold growB
    rw [HS.out]
    exact h1.drew)
  have hw8k : IntKind.i64.wrap (8 * (k : Int)) = 8 * (k : Int) := by rw [IntKind.wrap_i64]; omega
  clear hHM hzz hzs hS hZ hn8 hs h hb hc hst HM hss
  go_enter Try.func65, Try.ntmps65
  go_wp2_with fail
  refine wp_region_still_tail 17 (by kernel_rfl) (by kernel_rfl) ?_
  simp only [List.take_succ_cons, List.take_zero, List.drop_succ_cons, List.drop_zero]
  repeat still_step
  refine wpStill_step (fun K hK => ?_)
  go_simp
  refine ⟨_, (HHM.out _).mono (fun e w' h => ⟨h.1, h.2.symm⟩), hK _ ?_⟩
  clear hK K
  repeat still_step
  refine wpStill_nil ?_
  change wpList _ _ _ _ _ w.drew
  have q0 : w.drew.cell? ⟨b, 0, none⟩ = some (.slice (some ⟨r, 0, none⟩) ss.length cap) := c0
  have q1 : w.drew.cell? ⟨r, i, none⟩ = some (.string S) := hci
  have q2 : w.drew.frozen? ⟨r, i, none⟩ = false := hfi
  have HFIN2 : Hid (∀ W : World, W = w.drew.setCell ⟨r, i, none⟩ (.string (S ++ Z)) → KP P w W ∧ Sb W base b size (growB ss i k) false P) := Lib.hid (fun W hW => by subst hW; exact HFIN.out _ rfl)
  clear c0 c1 c2 hci hfi HFIN
  generalize w.drew = w2 at *
  go_wp2
  obtain ⟨k1, k2⟩ := HFIN2.out _ rfl
  go_ret
  exact ⟨ret_int HE.out, k1, k2⟩
end Go.Proofs.Ytbhmklbdfmgmlaa
