/- Texts of the proof of the law FnCanonPut, side by side: part 42. -/
import Derived.Test.YtbijfkpilncclaaGreatMCanonPut00
import Derived.Test.YtbijfkpilncclaaGreatMCanonPut01
import Derived.Test.YtbijfkpilncclaaGreatMCanonPut02
import Derived.Test.YtbijfkpilncclaaGreatMCanonPut03
import Derived.Test.YtbijfkpilncclaaGreatMCanonPut04
import Derived.Test.YtbijfkpilncclaaGreatMCanonPut05
import Derived.Test.YtbijfkpilncclaaGreatMCanonPut06
import Derived.Test.YtbijfkpilncclaaGreatMCanonPut07
import Derived.Test.YtbijfkpilncclaaGreatMCanonPut08
import Derived.Test.YtbijfkpilncclaaGreatMCanonPut09
import Derived.Test.YtbijfkpilncclaaGreatMCanonPut10
import Derived.Test.YtbijfkpilncclaaGreatMCanonPut11
import Derived.Test.YtbijfkpilncclaaGreatMCanonPut12
import Derived.Test.YtbijfkpilncclaaGreatMCanonPut13
import Derived.Test.YtbijfkpilncclaaGreatMCanonPut14
import Derived.Test.YtbijfkpilncclaaGreatMCanonPut15
import Derived.Test.YtbijfkpilncclaaGreatMCanonPut16
import Derived.Test.YtbijfkpilncclaaGreatMCanonPut17
import Derived.Test.YtbijfkpilncclaaGreatMCanonPut18
import Derived.Test.YtbijfkpilncclaaGreatMCanonPut19
import Derived.Test.YtbijfkpilncclaaGreatMCanonPut20
import Derived.Test.YtbijfkpilncclaaGreatMCanonPut21
import Derived.Test.YtbijfkpilncclaaGreatMCanonPut22
import Derived.Test.YtbijfkpilncclaaGreatMCanonPut23
import Derived.Test.YtbijfkpilncclaaGreatMCanonPut24
import Derived.Test.YtbijfkpilncclaaGreatMCanonPut25
import Derived.Test.YtbijfkpilncclaaGreatMCanonPut26
import Derived.Test.YtbijfkpilncclaaGreatMCanonPut27
import Derived.Test.YtbijfkpilncclaaGreatMCanonPut28
import Derived.Test.YtbijfkpilncclaaGreatMCanonPut29
import Derived.Test.YtbijfkpilncclaaGreatMCanonPut30
import Derived.Test.YtbijfkpilncclaaGreatMCanonPut31
import Derived.Test.YtbijfkpilncclaaGreatMCanonPut32
import Derived.Test.YtbijfkpilncclaaGreatMCanonPut33
import Derived.Test.YtbijfkpilncclaaGreatMCanonPut34
import Derived.Test.YtbijfkpilncclaaGreatMCanonPut35
import Derived.Test.YtbijfkpilncclaaGreatMCanonPut36
import Derived.Test.YtbijfkpilncclaaGreatMCanonPut37
import Derived.Test.YtbijfkpilncclaaGreatMCanonPut38
import Derived.Test.YtbijfkpilncclaaGreatMCanonPut39
import Derived.Test.YtbijfkpilncclaaGreatMCanonPut40
import Derived.Test.YtbijfkpilncclaaGreatMCanonPut41
namespace Go.Proofs.YtbijfkpilncclaaGreat
theorem body_rep {L : Nat} {wr : Wr} {Q : Nd → Prop} {R : Segs → Nd → Nat → Nat → Prop} (hw : WrOk L wr Q) (hr : WrRep L wr Q R) {n : Nd} {ss s1 : Segs} {i a : Nat} (hq : ∀ p ∈ n.ptrs, Q p) (hk : SOk L ss) (hi : i < ss.length) (ha : a + ownB n ≤ wn (sgS ss i)) (hz : HasT ss i (8 * a) (zer (ownB n))) (h : bodyP wr n ss i a = some s1) :
    Kept ss s1 i a (ownB n) ∧ ∀ s2, Same ss s1 s2 i a (ownB n) → BodyR (R s2) s2 n i a := by
  have hf := body_fits hk.wds ha
  have hal := put_alen hi hf
  have hwi := wds_len hk.wds i
  have hdl : n.data.data.toList.length = n.data.size := data_toList _
  obtain ⟨dw, hdw⟩ : ∃ dw, (n.data.size + 7) / 8 = dw := ⟨_, rfl⟩
  have hob : ownB n = dw + n.ptrs.length := by unfold ownB; rw [hdw]
  unfold bodyP at h
  rw [hdw] at h
  have hib := (hk.put hi hf)
  have hi1 : i < (putS ss i a n.data.data.toList).length := by rw [putS_length]; exact hi
  have ha1 : a + dw + n.ptrs.length ≤ wn (sgS (putS ss i a n.data.data.toList) i) := by rw [← hal.wn]; omega
  have hz1 : HasT (putS ss i a n.data.data.toList) i (8 * (a + dw)) (zer n.ptrs.length) := (hz.cut (k := dw) (m := n.ptrs.length) (by omega)).agree (fun q hq' => by
    rw [byte_put hi hf, if_neg (fun h => by omega)])
  obtain ⟨e1, r1⟩ := ptrs_rep hw hr n.ptrs _ i (a + dw) s1 hq hib hi1 ha1 hz1 h
  obtain ⟨k3, g3⟩ := ptrs_some hw n.ptrs _ i (a + dw) s1 hq hib hi1 ha1 h
  refine ⟨fun j p hp hn => ?_, fun s2 h2 => ⟨fun q hq' => ?_, fun k hk' => ?_⟩⟩
  · rw [e1 j p (by rw [← hal.2 j]; exact hp) (fun h => hn ⟨h.1, by omega, by omega⟩)]
    exact byte_put hi hf j p ▸ if_neg (fun h => hn ⟨h.1, h.2.1, by omega⟩)
  · have h3 := h2 i (8 * a + q) (.inl ⟨rfl, by omega, by omega⟩)
    rw [h3, e1 i (8 * a + q) (by rw [← hal.2 i]; omega) (fun h => by omega)]
    exact put_has hi hf q hq'
  · rw [hdw]
    exact r1 s2 (fun j p hjp => h2 j p (by
      rcases hjp with ⟨e, h4, h5⟩ | ⟨h4, h5⟩
      · exact .inl ⟨e, by omega, by omega⟩
      · exact .inr ⟨by rw [hal.2 j]; exact h4, h5⟩)) k hk'
theorem items_rep {L : Nat} {wr : Wr} {Q : Nd → Prop} {R : Segs → Nd → Nat → Nat → Prop} (hw : WrOk L wr Q) (hr : WrRep L wr Q R) (each : Nat) : ∀ (l : List Nd) (ss : Segs) (i a : Nat) (s1 : Segs), (∀ y ∈ l, ownB y = each ∧ ∀ p ∈ y.ptrs, Q p) → SOk L ss → i < ss.length → a + l.length * each ≤ wn (sgS ss i) → HasT ss i (8 * a) (zer (l.length * each)) → itemsP wr each l ss i a = some s1 →
    Kept ss s1 i a (l.length * each) ∧ ∀ s2, Same ss s1 s2 i a (l.length * each) → ∀ k (h : k < l.length), BodyR (R s2) s2 l[k] i (a + k * each)
  | [], ss, i, a, s1, _, hk, _, _, _, h => by
    injection h with h
    subst h
    exact ⟨Kept.refl _ _ _ _, fun s2 _ k hk => by cases hk⟩
  | y :: t, ss, i, a, s1, hq, hk, hi, ha, hz, h => by
    simp only [itemsP, Option.bind_eq_some_iff] at h
    obtain ⟨s2, h1, h2⟩ := h
    simp only [List.length_cons, Nat.add_mul, Nat.one_mul] at ha hz
    obtain ⟨hy, hyp⟩ := hq y (List.mem_cons_self ..)
    obtain ⟨k2, g2⟩ := body_some hw hyp hk hi (by rw [hy]; omega) h1
    obtain ⟨e1, r1⟩ := body_rep hw hr hyp hk hi (by rw [hy]; omega) (by rw [hy]; exact hz.cut (k := 0) (m := each) (by omega)) h1
    rw [hy] at e1 r1
    have hi2 := Nat.lt_of_lt_of_le hi g2.1
    have hwi := wds_len hk.wds i
    have hz2 : HasT s2 i (8 * (a + each)) (zer (t.length * each)) := (hz.cut (k := each) (m := t.length * each) (by omega)).agree (fun q hq' => by
      rw [zer_length] at hq'
      exact e1 i _ (by omega) (fun h => by omega))
    have ha2 : a + each + t.length * each ≤ wn (sgS s2 i) := by have := g2.wn i; omega
    obtain ⟨e2, r2⟩ := items_rep hw hr each t s2 i (a + each) s1 (fun q hm => hq q (List.mem_cons_of_mem _ hm)) k2 hi2 ha2 hz2 h2
    obtain ⟨k3, g3⟩ := items_some hw each t s2 i (a + each) s1 (fun q hm => hq q (List.mem_cons_of_mem _ hm)) k2 hi2 ha2 h2
    have hlen : (y :: t).length * each = t.length * each + each := by rw [List.length_cons, Nat.add_mul, Nat.one_mul]
    rw [hlen]
    refine ⟨fun j p hp hn => ?_, fun s3 h3 k hk3 => ?_⟩
    · rw [e2 j p (Nat.lt_of_lt_of_le hp (g2.2 j)) (fun h => hn ⟨h.1, by omega, by omega⟩)]
      exact e1 j p hp (fun h => hn ⟨h.1, by omega, by omega⟩)
    · cases k with
      | zero =>
        rw [Nat.zero_mul, Nat.add_zero]
        refine r1 s3 (fun j p hjp => ?_)
        have hold : byteS s1 j p = byteS s2 j p := e2 j p (by
          rcases hjp with ⟨rfl, h4, h5⟩ | ⟨h4, h5⟩
          · have := g2.2 j; omega
          · exact h5) (fun h => by
          rcases hjp with ⟨_, h4, h5⟩ | ⟨h4, h5⟩
          · omega
          · have := h.1; subst this; omega)
        rw [← hold]
        refine h3 j p ?_
        rcases hjp with ⟨e, h4, h5⟩ | ⟨h4, h5⟩
        · exact .inl ⟨e, h4, by omega⟩
        · exact .inr ⟨h4, Nat.lt_of_lt_of_le h5 (g3.2 j)⟩
      | succ k =>
        rw [List.length_cons] at hk3
        have := r2 s3 (fun j p hjp => h3 j p (by
          rcases hjp with ⟨e, h4, h5⟩ | ⟨h4, h5⟩
          · exact .inl ⟨e, by omega, by omega⟩
          · exact .inr ⟨Nat.le_trans (g2.2 j) h4, h5⟩)) k (by omega)
        rw [show a + (k + 1) * each = a + each + k * each by rw [Nat.add_mul, Nat.one_mul]; omega]
        exact this
theorem fill_rep {L : Nat} {wr : Wr} {Q : Nd → Prop} {R : Segs → Nd → Nat → Nat → Prop} (hw : WrOk L wr Q) (hr : WrRep L wr Q R) {n : Nd} {ss s1 : Segs} {i a : Nat} (hf : formN n = true) (hq : ∀ p ∈ ptrsL n, Q p) (hk : SOk L ss) (hi : i < ss.length) (ha : a + ownN n ≤ wn (sgS ss i)) (hz : HasT ss i (8 * a) (zer (ownN n))) (h : fillP wr n ss i a = some s1) :
    Kept ss s1 i a (ownN n) ∧ ∀ s2, Same ss s1 s2 i a (ownN n) → FillR (R s2) s2 n i a := by
  unfold fillP at h
  by_cases hm : n.kind = 2 ∧ n.size = 7
  · rw [if_pos hm] at h
    obtain ⟨g1, g2, g3⟩ := own_many hf hm
    have hwi := wds_len hk.wds i
    have hp : 8 * a + (tagW n).length ≤ (sgS ss i).length := by rw [tagW_length]; omega
    have hal := put_alen hi hp
    have htl := tagW_length n
    have hz1 : HasT (putS ss i a (tagW n)) i (8 * (a + 1)) (zer (n.items.length * (itD n + itP n))) := (hz.cut (k := 1) (m := n.items.length * (itD n + itP n)) (by omega)).agree (fun q hq' => by
      rw [byte_put hi hp, if_neg (fun h => by omega)])
    have hqi : ∀ y ∈ n.items, ownB y = itD n + itP n ∧ ∀ p ∈ y.ptrs, Q p := fun y hy => ⟨item_own g1 y hy, fun p hp => hq p (List.mem_append_right _ (List.mem_flatMap.2 ⟨y, hy, hp⟩))⟩
    obtain ⟨e1, r1⟩ := items_rep hw hr (itD n + itP n) n.items _ i (a + 1) s1 hqi (hk.put hi hp) (by rw [putS_length]; exact hi) (by rw [← hal.wn]; omega) hz1 h
    refine ⟨fun j p hpl hn => ?_, fun s2 h2 => ?_⟩
    · rw [e1 j p (by rw [← hal.2 j]; exact hpl) (fun h => hn ⟨h.1, by omega, by omega⟩)]
      exact byte_put hi hp j p ▸ if_neg (fun h => hn ⟨h.1, h.2.1, by omega⟩)
    · unfold FillR
      rw [if_pos hm]
      refine ⟨fun q hq' => ?_, fun k hk' => ?_⟩
      · have h3 := h2 i (8 * a + q) (.inl ⟨rfl, by omega, by omega⟩)
        rw [h3, e1 i (8 * a + q) (by rw [← hal.2 i]; omega) (fun h => by omega)]
        exact put_has hi hp q hq'
      · exact r1 s2 (fun j p hjp => h2 j p (by
          rcases hjp with ⟨e, h4, h5⟩ | ⟨h4, h5⟩
          · exact .inl ⟨e, by omega, by omega⟩
          · exact .inr ⟨by rw [hal.2 j]; exact h4, h5⟩)) k hk'
  · rw [if_neg hm] at h
    obtain ⟨g1, g2⟩ := own_plain hf hm
    rw [g1] at ha hz ⊢
    obtain ⟨e1, r1⟩ := body_rep hw hr (fun p hp => hq p (List.mem_append_left _ hp)) hk hi ha hz h
    exact ⟨e1, fun s2 h2 => by unfold FillR; rw [if_neg hm]; exact r1 s2 h2⟩
end Go.Proofs.YtbijfkpilncclaaGreat

namespace Go.Proofs.YtbijfkpilncclaaGreat
def PtrR (s : Segs) (n : Nd) (i a j c : Nat) : Prop := (j = i ∧ HasT s i (8 * a) (ptrW n ((c : Int) - a - 1))) ∨ ∃ pad : Nat, c = pad + 1 ∧ HasT s i (8 * a) (farW pad j) ∧ HasT s j (8 * pad) (ptrW n 0)
theorem grow_zero {ss : Segs} {i k : Nat} (hi : i < ss.length) (hw : WdS ss) : HasT (growB ss i k) i (8 * wn (sgS ss i)) (zer k) := fun q hq => by
  unfold byteS
  have := wds_len hw i
  rw [sgS_grow hi, if_pos rfl, List.getElem?_append_right (by omega)]
  congr 1
  omega
theorem room_rep {L size : Nat} {n : Nd} {ss s1 : Segs} {i a j c : Nat} (hk : SOk L ss) (hi : i < ss.length) (ha : a < wn (sgS ss i)) (h : roomP L size n ss i a = some (s1, j, c)) :
    Kept ss s1 i a 1 ∧ HasT s1 j (8 * c) (zer (ownN n)) ∧ (sgS ss j).length ≤ 8 * c ∧
    ∀ s2, (∀ j' p, ((j' = i ∧ 8 * a ≤ p ∧ p < 8 * a + 8) ∨ (j' = j ∧ (sgS ss j).length ≤ p ∧ p < 8 * c)) → byteS s2 j' p = byteS s1 j' p) → PtrR s2 n i a j c := by
  have hwi := wds_len hk.wds i
  unfold roomP at h
  split at h
  · split at h
    · rename_i ht
      injection h with h
      injection h with h1 h2
      injection h2 with h2 h3
      subst h1 h2 h3
      have hg := hk.grow hi ht
      have hi' : i < (growB ss i (ownN n)).length := by rw [growB_length]; exact hi
      have hr := room8 (k := 1) hg.wds (i := i) (a := a) (by rw [wn_grow hi]; omega)
      have hp : 8 * a + (ptrW n ((wn (sgS ss i) : Int) - a - 1)).length ≤ (sgS (growB ss i (ownN n)) i).length := by rw [ptrW_length]; omega
      have hpl := ptrW_length n ((wn (sgS ss i) : Int) - a - 1)
      refine ⟨fun j p hpl' hn => ?_, (grow_zero hi hk.wds).agree (fun q hq => ?_), by omega, fun s2 h2 => .inl ⟨rfl, (put_has hi' hp).agree (fun q hq => ?_)⟩⟩
      · rw [byte_put hi' hp, if_neg (fun h => hn ⟨h.1, by omega, by omega⟩)]
        exact byte_grow hi hpl'
      · rw [byte_put hi' hp, if_neg (fun h => by omega)]
      · exact h2 i _ (.inl ⟨rfl, by omega, by omega⟩)
    · cases h
  · split at h
    · cases h
    · rename_i s0 j0 ho
      obtain ⟨h1, h2, h3⟩ := other_some hk ho
      have h0 : ∀ j p, p < (sgS ss j).length → byteS s0 j p = byteS ss j p := by
        unfold otherP at ho
        split at ho
        · injection ho with ho; injection ho with e; intro j p _; rw [e]
        · split at ho
          · injection ho with ho; injection ho with e; intro j p hp; rw [← e]; exact byte_app hp
          · cases ho
      split at h
      · rename_i ht
        injection h with h
        injection h with e1 e2
        injection e2 with e2 e3
        subst e1 e2 e3
        have hg := h1.grow h3 ht
        have hi' : i < (growB s0 j0 (1 + ownN n)).length := by rw [growB_length]; exact Nat.lt_of_lt_of_le hi h2.1
        have hai : a < wn (sgS (growB s0 j0 (1 + ownN n)) i) := Nat.lt_of_lt_of_le ha ((h2.trans (grow_grew h3)).wn i)
        have hr := room8 (k := 1) hg.wds (i := i) (a := a) (by omega)
        have hfl := farW_length (wn (sgS s0 j0)) j0
        have hpl := ptrW_length n 0
        have hp : 8 * a + (farW (wn (sgS s0 j0)) j0).length ≤ (sgS (growB s0 j0 (1 + ownN n)) i).length := by omega
        have hg2 := hg.put hi' hp
        have hwj : wn (sgS (putS (growB s0 j0 (1 + ownN n)) i a (farW (wn (sgS s0 j0)) j0)) j0) = wn (sgS s0 j0) + (1 + ownN n) := by rw [← (put_alen hi' hp).wn, wn_grow h3]
        have hj2 : j0 < (putS (growB s0 j0 (1 + ownN n)) i a (farW (wn (sgS s0 j0)) j0)).length := by rw [putS_length, growB_length]; exact h3
        have hr2 := room8 (k := 1) hg2.wds (i := j0) (a := wn (sgS s0 j0)) (by omega)
        have hp2 : 8 * wn (sgS s0 j0) + (ptrW n 0).length ≤ (sgS (putS (growB s0 j0 (1 + ownN n)) i a (farW (wn (sgS s0 j0)) j0)) j0).length := by omega
        have hwj0 := wds_len h1.wds j0
        have hgj := h2.2 j0
        have hgi := h2.2 i
        refine ⟨fun j p hp' hn => ?_, ((grow_zero (k := 1 + ownN n) h3 h1.wds).cut (k := 1) (m := ownN n) (by omega)).agree (fun q hq => ?_), by omega, fun s2 h2' => .inr ⟨wn (sgS s0 j0), rfl, fun q hq => ?_, fun q hq => ?_⟩⟩
        · have hgp := h2.2 j
          rw [byte_put hj2 hp2, if_neg (fun h => by have e := h.1; subst e; omega), byte_put hi' hp, if_neg (fun h => hn ⟨h.1, by omega, by omega⟩), byte_grow h3 (by omega)]
          exact h0 j p hp'
        · rw [zer_length] at hq
          rw [byte_put hj2 hp2, if_neg (fun h => by omega), byte_put hi' hp, if_neg (fun h => by have e := h.1; subst e; omega)]
        · rw [h2' i (8 * a + q) (.inl ⟨rfl, by omega, by omega⟩), byte_put hj2 hp2, if_neg (fun h => by have e := h.1; subst e; omega)]
          exact put_has hi' hp q hq
        · rw [h2' j0 (8 * wn (sgS s0 j0) + q) (.inr ⟨rfl, by omega, by omega⟩)]
          exact put_has hj2 hp2 q hq
      · cases h
theorem wr_rep (L size : Nat) : ∀ d, WrRep L (wrP L size d) (fun n => okN d n = true) (fun s n i a => RepN s d n i a)
  | 0 => fun p ss i a s1 hn hk hi ha hz h => by
    simp only [wrP] at h
    injection h with h
    subst h
    have hk0 : p.kind = 0 := by simp only [okN, Bool.and_eq_true, decide_eq_true_eq] at hn; exact hn.2
    refine ⟨Kept.refl _ _ _ _, fun s2 h2 => ⟨hk0, hz.agree (fun q hq => ?_)⟩⟩
    rw [zer_length] at hq
    exact h2 i _ (.inl ⟨rfl, by omega, by omega⟩)
  | d + 1 => fun n ss i a s1 hn hk hi ha hz h => by
    have hf := ok_formN hn
    have hwi := wds_len hk.wds i
    simp only [wrP] at h
    by_cases hk0 : n.kind = 0
    · rw [if_pos hk0] at h
      injection h with h
      subst h
      refine ⟨Kept.refl _ _ _ _, fun s2 h2 => .inl ⟨hk0, hz.agree (fun q hq => ?_)⟩⟩
      rw [zer_length] at hq
      exact h2 i _ (.inl ⟨rfl, by omega, by omega⟩)
    · rw [if_neg hk0] at h
      by_cases hp : ownN n = 0
      · rw [if_pos hp] at h
        injection h with h
        subst h
        have hpl := ptrW_length n (if n.kind = 1 then -1 else 0)
        have hl : 8 * a + (ptrW n (if n.kind = 1 then -1 else 0)).length ≤ (sgS ss i).length := by omega
        refine ⟨put_kept hi hl (by omega), fun s2 h2 => .inr (.inl ⟨hk0, hp, (put_has hi hl).agree (fun q hq => h2 i _ (.inl ⟨rfl, by omega, by omega⟩))⟩)⟩
      · rw [if_neg hp, Option.bind_eq_some_iff] at h
        obtain ⟨⟨s2, j, c⟩, h1, h2⟩ := h
        obtain ⟨k2, g2, hj, hc⟩ := room_some hk hi ha h1
        obtain ⟨r1, r2, r3, r4⟩ := room_rep hk hi ha h1
        obtain ⟨e1, e2⟩ := fill_rep (wr_some L size d) (wr_rep L size d) hf (ok_within hn hk0) k2 hj hc r2 h2
        obtain ⟨k3, g3⟩ := fill_some (wr_some L size d) hf (ok_within hn hk0) k2 hj hc h2
        have hcl := wds_len k2.wds j
        refine ⟨fun j' p hp' hn' => ?_, fun s3 h3 => .inr (.inr ⟨hk0, hp, j, c, r4 s3 (fun j' p hjp => ?_), e2 s3 (fun j' p hjp => h3 j' p ?_)⟩)⟩
        · rw [e1 j' p (Nat.lt_of_lt_of_le hp' (g2.2 j')) (fun h => by have e := h.1; subst e; omega)]
          exact r1 j' p hp' hn'
        · have hg2j := g2.2 j'
          have hg3j := g3.2 j'
          have hs : byteS s3 j' p = byteS s1 j' p := h3 j' p (by
            rcases hjp with ⟨e, h4, h5⟩ | ⟨e, h4, h5⟩
            · exact .inl ⟨e, h4, by omega⟩
            · subst e; exact .inr ⟨h4, by omega⟩)
          rw [hs]
          exact e1 j' p (by
            rcases hjp with ⟨e, h4, h5⟩ | ⟨e, h4, h5⟩
            · subst e; omega
            · subst e; omega) (fun h => by
            rcases hjp with ⟨e, h4, h5⟩ | ⟨e, h4, h5⟩
            · have e' := h.1; subst e; subst e'; omega
            · omega)
        · have hg2j := g2.2 j'
          have hg3j := g3.2 j'
          rcases hjp with ⟨e, h4, h5⟩ | ⟨h4, h5⟩
          · subst e; exact .inr ⟨by omega, by omega⟩
          · exact .inr ⟨by omega, h5⟩
theorem build_rep {L size : Nat} {n : Nd} {ss : Segs} (hL : 1 ≤ L) (hok : okN 8 n = true) (h : buildP L size n = some ss) : RepN ss 8 n 0 0 :=
  (wr_rep L size 8 n [zer 1] 0 0 ss hok (SOKL L hL) (by decide) (by decide) (fun q hq => by
    rw [zer_length] at hq
    have : ∀ q, q < 8 * 1 → byteS [zer 1] 0 (8 * 0 + q) = (zer 1)[q]? := by decide
    exact this q hq) h).2 ss (fun _ _ _ => rfl)
end Go.Proofs.YtbijfkpilncclaaGreat

namespace Go.Proofs.YtbijfkpilncclaaGreat
theorem leB4_inj {a b : Int} (ha : 0 ≤ a ∧ a < 4294967296) (hb : 0 ≤ b ∧ b < 4294967296) (h : leB a 4 = leB b 4) : a = b := by
  have h1 := leN_leB 4 a
  have h2 := leN_leB 4 b
  rw [h, h2] at h1
  rw [show (256 : Int) ^ 4 = 4294967296 by decide] at h1
  omega
theorem w8_inj {a b c d : Int} (ha : 0 ≤ a ∧ a < 4294967296) (hb : 0 ≤ b ∧ b < 4294967296) (hc : 0 ≤ c ∧ c < 4294967296) (hd : 0 ≤ d ∧ d < 4294967296) (h : w8 a b = w8 c d) : a = c ∧ b = d := by
  unfold w8 at h
  obtain ⟨h1, h2⟩ := List.append_inj h (by rw [leB_length, leB_length])
  exact ⟨leB4_inj ha hc h1, leB4_inj hb hd h2⟩
def loP (n : Nd) (off : Int) : Int := if n.kind = 1 then offN off else offN off + 1
def hiP (n : Nd) : Int := if n.kind = 1 then (n.data.size / 8 : Nat) + 65536 * (n.ptrs.length : Int) else if n.size = 7 then ((ownN n : Int) - 1) * 8 + 7 else n.count * 8 + n.size
theorem ptrW_two (n : Nd) (off : Int) : ptrW n off = w8 (loP n off) (hiP n) := by
  unfold ptrW loP hiP
  split
  · rfl
  · split <;> rfl
structure PtOk (n : Nd) : Prop where
  data : n.data.size ≤ 2400
  ptrs : n.ptrs.length ≤ 300
  kind : n.kind = 1 ∨ n.kind = 2
  size : n.kind = 2 → 0 ≤ n.size ∧ n.size ≤ 7 ∧ 0 ≤ n.count ∧ n.count < 12801
  own : n.kind = 2 → n.size = 7 → 1 ≤ ownN n ∧ ownN n ≤ 300
theorem PtOk.bd {n : Nd} (h : PtOk n) (off : Int) : (0 ≤ loP n off ∧ loP n off < 4294967296) ∧ (0 ≤ hiP n ∧ hiP n < 4294967296) := by
  have h1 := h.data
  have h2 := h.ptrs
  have h3 := offN_bd off
  refine ⟨?_, ?_⟩
  · unfold loP offN at *; split <;> omega
  · unfold hiP
    rcases h.kind with k | k
    · rw [if_pos k]; omega
    · have hs := h.size k
      rw [if_neg (by omega)]
      split
      · rename_i e; have := h.own k e; omega
      · omega
theorem ptrW_inj {n m : Nd} {o p : Int} (hn : PtOk n) (hm : PtOk m) (ho : -536870912 ≤ o ∧ o ≤ 536870911) (hp : -536870912 ≤ p ∧ p ≤ 536870911) (h : ptrW n o = ptrW m p) :
    o = p ∧ n.kind = m.kind ∧ hiP n = hiP m := by
  rw [ptrW_two, ptrW_two] at h
  obtain ⟨h1, h2⟩ := w8_inj (hn.bd o).1 (hn.bd o).2 (hm.bd p).1 (hm.bd p).2 h
  unfold loP offN at h1
  rcases hn.kind with k | k <;> rcases hm.kind with k' | k'
  · rw [if_pos k, if_pos k'] at h1; exact ⟨by omega, by omega, h2⟩
  · rw [if_pos k, if_neg (by omega)] at h1; omega
  · rw [if_neg (by omega), if_pos k'] at h1; omega
  · rw [if_neg (by omega), if_neg (by omega)] at h1; exact ⟨by omega, by omega, h2⟩
theorem hiP_inj {n m : Nd} (hn : PtOk n) (hm : PtOk m) (hk : n.kind = m.kind) (h : hiP n = hiP m) :
    (n.kind = 1 → n.data.size / 8 = m.data.size / 8 ∧ n.ptrs.length = m.ptrs.length) ∧ (n.kind = 2 → n.size = m.size ∧ (n.size = 7 → ownN n = ownN m) ∧ (n.size ≠ 7 → n.count = m.count)) := by
  have h1 := hn.data
  have h2 := hn.ptrs
  have h3 := hm.data
  have h4 := hm.ptrs
  unfold hiP at h
  refine ⟨fun k => ?_, fun k => ?_⟩
  · rw [if_pos k, if_pos (by omega)] at h; omega
  · have s1 := hn.size k
    have s2 := hm.size (by omega)
    rw [if_neg (show ¬ n.kind = 1 by omega), if_neg (show ¬ m.kind = 1 by omega)] at h
    by_cases e : n.size = 7 <;> by_cases e' : m.size = 7
    · rw [if_pos e, if_pos e'] at h
      have := hn.own k e
      have := hm.own (by omega) e'
      exact ⟨by omega, fun _ => by omega, fun x => absurd e x⟩
    · rw [if_pos e, if_neg e'] at h; omega
    · rw [if_neg e, if_pos e'] at h; omega
    · rw [if_neg e, if_neg e'] at h; exact ⟨by omega, fun x => absurd x e, fun _ => by omega⟩
theorem far_ne {n : Nd} {o : Int} {pad j : Nat} (hn : PtOk n) (hp : pad ≤ 1000) (hj : j ≤ 10) : farW pad j ≠ ptrW n o := fun h => by
  rw [ptrW_two] at h
  unfold farW at h
  obtain ⟨h1, h2⟩ := w8_inj (by omega) (by omega) (hn.bd o).1 (hn.bd o).2 h
  unfold loP offN at h1
  split at h1 <;> omega
theorem far_inj {pad pad' j j' : Nat} (hp : pad ≤ 1000) (hj : j ≤ 10) (hp' : pad' ≤ 1000) (hj' : j' ≤ 10) (h : farW pad j = farW pad' j') : pad = pad' ∧ j = j' := by
  unfold farW at h
  obtain ⟨h1, h2⟩ := w8_inj (by omega) (by omega) (by omega) (by omega) h
  omega
end Go.Proofs.YtbijfkpilncclaaGreat

namespace Go.Proofs.YtbijfkpilncclaaGreat
theorem HasT.le {s : Segs} {j p : Nat} {t : List UInt8} (h : HasT s j p t) (ht : 1 ≤ t.length) : p + t.length ≤ (sgS s j).length := by
  have h1 := h (t.length - 1) (by omega)
  have h2 : t[t.length - 1]? = some t[t.length - 1] := List.getElem?_eq_getElem (by omega)
  rw [h2] at h1
  unfold byteS at h1
  obtain ⟨h3, -⟩ := List.getElem?_eq_some_iff.1 h1
  omega
theorem RepN.le {s : Segs} : ∀ {d : Nat} {n : Nd} {i a : Nat}, RepN s d n i a → 8 * a + 8 ≤ (sgS s i).length
  | 0, n, i, a, h => by have := h.2.le (by rw [zer_length]; omega); rw [zer_length] at this; omega
  | d + 1, n, i, a, h => by
    rcases h with ⟨_, h⟩ | ⟨_, _, h⟩ | ⟨_, _, j, c, h, _⟩
    · have := h.le (by rw [zer_length]; omega); rw [zer_length] at this; omega
    · have := h.le (by rw [ptrW_length]; omega); rw [ptrW_length] at this; omega
    · rcases h with ⟨_, h⟩ | ⟨pad, _, h, _⟩
      · have := h.le (by rw [ptrW_length]; omega); rw [ptrW_length] at this; omega
      · have := h.le (by rw [farW_length]; omega); rw [farW_length] at this; omega
theorem body_le {s : Segs} {d : Nat} {n : Nd} {j c : Nat} (h : BodyR (RepN s d) s n j c) (ho : ownB n ≠ 0) : 8 * c < (sgS s j).length := by
  obtain ⟨h1, h2⟩ := h
  unfold ownB at ho
  by_cases hd : n.data.size = 0
  · have hp : 0 < n.ptrs.length := by omega
    have := (h2 0 hp).le
    rw [hd] at this
    omega
  · have hl := data_toList n.data
    have := h1.le (by omega)
    omega
theorem fill_le {s : Segs} {d : Nat} {n : Nd} {j c : Nat} (hf : formN n = true) (h : FillR (RepN s d) s n j c) (ho : ownN n ≠ 0) : 8 * c < (sgS s j).length := by
  unfold FillR at h
  split at h
  · have := h.1.le (by rw [tagW_length]; omega)
    rw [tagW_length] at this
    omega
  · rename_i hm
    exact body_le h (by rw [← (own_plain hf hm).1]; exact ho)
theorem tagW_inj {n m : Nd} (hn : 0 ≤ n.count ∧ n.count < 12801) (hm : 0 ≤ m.count ∧ m.count < 12801) (h1 : itD n ≤ 300 ∧ itP n ≤ 300) (h2 : itD m ≤ 300 ∧ itP m ≤ 300) (h : tagW n = tagW m) : n.count = m.count ∧ itD n = itD m ∧ itP n = itP m := by
  unfold tagW at h
  have b1 := offN_bd n.count
  have b2 := offN_bd m.count
  obtain ⟨e1, e2⟩ := w8_inj (by omega) (by omega) (by omega) (by omega) h
  unfold offN at e1
  omega
end Go.Proofs.YtbijfkpilncclaaGreat

namespace Go.Proofs.YtbijfkpilncclaaGreat
theorem bytes_eq {a b : ByteArray} (h : a.data.toList = b.data.toList) : a = b := by
  obtain ⟨⟨a⟩⟩ := a
  obtain ⟨⟨b⟩⟩ := b
  simp only at h
  rw [h]
theorem bytes_nil {a b : ByteArray} (h : a.size = 0) (g : b.size = 0) : a = b := bytes_eq (by
  have h1 := data_toList a
  have h2 := data_toList b
  rw [List.eq_nil_of_length_eq_zero (h1.trans h), List.eq_nil_of_length_eq_zero (h2.trans g)])
theorem nd_alike {n m : Nd} (h1 : n.kind = m.kind) (h2 : n.data = m.data) (h3 : n.ptrs = m.ptrs) (h4 : n.size = m.size) (h5 : n.count = m.count) (h6 : n.items = m.items) : n = m := by
  cases n; cases m
  simp only [Nd.kind, Nd.data, Nd.ptrs, Nd.size, Nd.count, Nd.items] at h1 h2 h3 h4 h5 h6
  subst h1 h2 h3 h4 h5 h6
  rfl
theorem nothing_eq {n m : Nd} (hn : formN n = true) (hm : formN m = true) (h : n.kind = 0) (g : m.kind = 0) : n = m := by
  rcases form_cases hn with c | c | c
  · rcases form_cases hm with e | e | e
    · exact nd_alike (by omega) (bytes_nil c.2.1 e.2.1) ((nil_of_len c.2.2.1).trans (nil_of_len e.2.2.1).symm) (by omega) (by omega) ((nil_of_len c.2.2.2.2.2).trans (nil_of_len e.2.2.2.2.2).symm)
    · omega
    · omega
  · omega
  · omega
theorem pt_ok {n : Nd} (hf : formN n = true) (ho : ownN n ≤ 300) (hk : n.kind ≠ 0) : PtOk n := by
  obtain ⟨h1, h2, h3, h4, h5, h6, h7⟩ := form_small hf ho
  exact ⟨h1, h2, h4 hk, h5, fun a b => ⟨(h6 a b).1, ho⟩⟩
theorem shape_eq {n m : Nd} (hn : formN n = true) (hm : formN m = true) (pn : PtOk n) (pm : PtOk m) (hk : n.kind = m.kind) (h : hiP n = hiP m) :
    n.size = m.size ∧ (n.size ≠ 7 → n.count = m.count ∧ n.data.size = m.data.size ∧ n.ptrs.length = m.ptrs.length) ∧ ownN n = ownN m := by
  obtain ⟨h1, h2⟩ := hiP_inj pn pm hk h
  rcases form_cases hn with c | c | c
  · have := pn.kind; omega
  · rcases form_cases hm with e | e | e
    · omega
    · obtain ⟨d1, d2⟩ := h1 c.1
      have hd : n.data.size = m.data.size := by omega
      refine ⟨by omega, fun _ => ⟨by omega, hd, d2⟩, ?_⟩
      rw [(own_plain hn (by omega)).1, (own_plain hm (by omega)).1]
      unfold ownB
      omega
    · omega
  · rcases form_cases hm with e | e | e
    · omega
    · omega
    · obtain ⟨d1, d2, d3⟩ := h2 c.1
      by_cases h7 : n.size = 7
      · exact ⟨d1, fun x => absurd h7 x, d2 h7⟩
      · have hc := d3 h7
        have hall : n.data.size = m.data.size ∧ n.ptrs.length = m.ptrs.length := by
          rcases c.2.2 with c1 | c1 | c1
          · rcases e.2.2 with e1 | e1 | e1
            · have b1 := c1.2.2.1
              have b2 := e1.2.2.1
              unfold bitsB at b1 b2
              rw [Bool.and_eq_true, decide_eq_true_eq] at b1 b2
              have b1 := b1.1
              have b2 := b2.1
              rw [d1, hc] at b1
              exact ⟨by omega, by omega⟩
            · omega
            · omega
          · rcases e.2.2 with e1 | e1 | e1
            · omega
            · omega
            · omega
          · omega
        refine ⟨d1, fun _ => ⟨hc, hall.1, hall.2⟩, ?_⟩
        rw [(own_plain hn (by omega)).1, (own_plain hm (by omega)).1]
        unfold ownB
        omega
theorem zer_w8 : zer 1 = w8 0 0 := by decide
theorem zer_far {pad j : Nat} (hp : pad ≤ 1000) (hj : j ≤ 10) : zer 1 ≠ farW pad j := fun h => by
  rw [zer_w8] at h
  unfold farW at h
  obtain ⟨h1, h2⟩ := w8_inj (by omega) (by omega) (by omega) (by omega) h
  omega
theorem zer_ptr {n : Nd} {o : Int} (pn : PtOk n) (h : zer 1 = ptrW n o) (ho : -536870912 ≤ o ∧ o ≤ 536870911) : n.kind = 1 ∧ o = 0 ∧ n.data.size / 8 = 0 ∧ n.ptrs.length = 0 := by
  rw [zer_w8, ptrW_two] at h
  obtain ⟨h1, h2⟩ := w8_inj (by omega) (by omega) (pn.bd o).1 (pn.bd o).2 h
  have hd := pn.data
  have hp := pn.ptrs
  unfold loP offN at h1
  rcases pn.kind with k | k
  · rw [if_pos k] at h1
    unfold hiP at h2
    rw [if_pos k] at h2
    omega
  · rw [if_neg (by omega)] at h1
    omega
theorem zer_bare {n : Nd} (pn : PtOk n) : zer 1 ≠ ptrW n (if n.kind = 1 then -1 else 0) := fun h => by
  have := zer_ptr pn h (by split <;> omega)
  rw [if_pos this.1] at this
  omega
theorem zer_real {n : Nd} {o : Int} (hn : formN n = true) (pn : PtOk n) (h0 : ownN n ≠ 0) (ho : -536870912 ≤ o ∧ o ≤ 536870911) : zer 1 ≠ ptrW n o := fun h => by
  have h1 := zer_ptr pn h ho
  rw [(own_plain hn (by omega)).1] at h0
  rcases form_cases hn with c | c | c
  · omega
  · unfold ownB at h0; omega
  · omega
theorem body_inj {s : Segs} {d : Nat} {n m : Nd} {j c : Nat} (h : BodyR (RepN s d) s n j c) (g : BodyR (RepN s d) s m j c) (hd : n.data.size = m.data.size) (hp : n.ptrs.length = m.ptrs.length) (hi : ∀ p ∈ n.ptrs, ∀ q ∈ m.ptrs, ∀ i a, RepN s d p i a → RepN s d q i a → p = q) :
    n.data = m.data ∧ n.ptrs = m.ptrs := by
  refine ⟨bytes_eq (h.1.inj g.1 (by rw [data_toList, data_toList, hd])), List.ext_getElem hp fun k h1 h2 => ?_⟩
  have a1 := h.2 k h1
  have a2 := g.2 k h2
  rw [← hd] at a2
  exact hi _ (List.getElem_mem _) _ (List.getElem_mem _) _ _ a1 a2
theorem fill_inj {s : Segs} {d : Nat} {n m : Nd} {j c : Nat} (hn : formN n = true) (hm : formN m = true) (pn : PtOk n) (pm : PtOk m) (hk : n.kind = m.kind) (hh : hiP n = hiP m) (h : FillR (RepN s d) s n j c) (g : FillR (RepN s d) s m j c) (on : ownN n ≤ 300) (om : ownN m ≤ 300)
    (hi : ∀ p ∈ ptrsL n, ∀ q ∈ ptrsL m, ∀ i a, RepN s d p i a → RepN s d q i a → p = q) : n = m := by
  obtain ⟨h1, h2, _⟩ := shape_eq hn hm pn pm hk hh
  unfold FillR at h g
  by_cases e : n.kind = 2 ∧ n.size = 7
  · rw [if_pos e] at h
    rw [if_pos (by omega)] at g
    obtain ⟨hi1, ho1, hp1⟩ := own_many hn e
    obtain ⟨hi2, ho2, hp2⟩ := own_many hm (by omega)
    have b1 : itD n ≤ 300 ∧ itP n ≤ 300 := by
      by_cases hl : n.items.length = 0
      · unfold itD itP; rw [nil_of_len hl]; decide
      · have : 1 * (itD n + itP n) ≤ n.items.length * (itD n + itP n) := Nat.mul_le_mul_right _ (by omega)
        omega
    have b2 : itD m ≤ 300 ∧ itP m ≤ 300 := by
      by_cases hl : m.items.length = 0
      · unfold itD itP; rw [nil_of_len hl]; decide
      · have : 1 * (itD m + itP m) ≤ m.items.length * (itD m + itP m) := Nat.mul_le_mul_right _ (by omega)
        omega
    have s1 := pn.size e.1
    have s2 := pm.size (by omega)
    obtain ⟨t1, t2, t3⟩ := tagW_inj (n := n) (m := m) (by omega) (by omega) b1 b2 (h.1.inj g.1 (by rw [tagW_length, tagW_length]))
    have f1 := (form_small hn on).2.2.2.2.2.1 e.1 e.2
    have f2 := (form_small hm om).2.2.2.2.2.1 (by omega) (by omega)
    refine nd_alike hk (bytes_nil f1.2.2.1 f2.2.2.1) (hp1.trans hp2.symm) h1 t1 (List.ext_getElem (by omega) fun k k1 k2 => ?_)
    have m1 : n.items[k] ∈ n.items := List.getElem_mem _
    have m2 : m.items[k] ∈ m.items := List.getElem_mem _
    have a1 := h.2 k k1
    have a2 := g.2 k k2
    rw [← t2, ← t3] at a2
    obtain ⟨u1, u2, u3, u4, u5, u6, u7⟩ := can_item_kind hi1 _ m1
    obtain ⟨v1, v2, v3, v4, v5, v6, v7⟩ := can_item_kind hi2 _ m2
    have w1 : n.items[k].data.size = m.items[k].data.size := by
      unfold itD at t2; omega
    have w2 : n.items[k].ptrs.length = m.items[k].ptrs.length := by
      unfold itP at t3; omega
    obtain ⟨x1, x2⟩ := body_inj a1 a2 w1 w2 fun p hp q hq => hi p (List.mem_append_right _ (List.mem_flatMap.2 ⟨_, m1, hp⟩)) q (List.mem_append_right _ (List.mem_flatMap.2 ⟨_, m2, hq⟩))
    exact nd_alike (u1.trans v1.symm) x1 x2 (u3.trans v3.symm) (u4.trans v4.symm) (u5.trans v5.symm)
  · rw [if_neg e] at h
    rw [if_neg (by omega)] at g
    have hs : n.size ≠ 7 := by
      intro x
      rcases form_cases hn with c | c | c
      · have := pn.kind; omega
      · omega
      · exact e ⟨c.1, x⟩
    obtain ⟨c1, c2, c3⟩ := h2 hs
    obtain ⟨x1, x2⟩ := body_inj h g c2 c3 fun p hp q hq => hi p (List.mem_append_left _ hp) q (List.mem_append_left _ hq)
    exact nd_alike hk x1 x2 h1 c1 ((own_plain hn e).2.trans (own_plain hm (by omega)).2.symm)
theorem rep_inj {s : Segs} (hs : ∀ j, (sgS s j).length ≤ 7992) (hl : s.length ≤ 10) : ∀ (d : Nat) (n m : Nd) (i a : Nat), okN d n = true → okN d m = true → wordsN d n ≤ 199 → wordsN d m ≤ 199 → RepN s d n i a → RepN s d m i a → n = m
  | 0, n, m, i, a, hn, hm, _, _, h, g => nothing_eq (ok_formN hn) (ok_formN hm) h.1 g.1
  | d + 1, n, m, i, a, hn, hm, wn', wm', h, g => by
    have fn := ok_formN hn
    have fm := ok_formN hm
    have kn := words_kids hn
    have km := words_kids hm
    have ha : a ≤ 998 := by have := h.le; have := hs i; omega
    have lj : ∀ {j c : Nat}, 8 * c < (sgS s j).length → c ≤ 998 ∧ j ≤ 10 := fun {j c} x => by
      have := hs j
      refine ⟨by omega, ?_⟩
      by_cases e : j < s.length
      · omega
      · rw [sgS_out (by omega)] at x; cases x
    rcases h with ⟨h0, h⟩ | ⟨h0, h1, h⟩ | ⟨h0, h1, j, c, h, hf⟩ <;> rcases g with ⟨g0, g⟩ | ⟨g0, g1, g⟩ | ⟨g0, g1, j', c', g, gf⟩
    · exact nothing_eq fn fm h0 g0
    · exact absurd (h.inj g (by rw [zer_length, ptrW_length])) (zer_bare (pt_ok fm (by omega) g0))
    · have pm := pt_ok fm (by omega) g0
      obtain ⟨l1, l2⟩ := lj (fill_le fm gf g1)
      rcases g with ⟨rfl, g⟩ | ⟨pad, e, g, _⟩
      · exact absurd (h.inj g (by rw [zer_length, ptrW_length])) (zer_real fm pm g1 (by omega))
      · exact absurd (h.inj g (by rw [zer_length, farW_length])) (zer_far (by omega) l2)
    · exact absurd (g.inj h (by rw [zer_length, ptrW_length])) (zer_bare (pt_ok fn (by omega) h0))
    · have pn := pt_ok fn (by omega) h0
      have pm := pt_ok fm (by omega) g0
      obtain ⟨_, e2, e3⟩ := ptrW_inj pn pm (by split <;> omega) (by split <;> omega) (h.inj g (by rw [ptrW_length, ptrW_length]))
      obtain ⟨s1, s2, _⟩ := shape_eq fn fm pn pm e2 e3
      have q1 : ¬ (n.kind = 2 ∧ n.size = 7) := fun x => by
        have := (pn.own x.1 x.2).1; omega
      obtain ⟨o1, i1⟩ := own_plain fn q1
      obtain ⟨o2, i2⟩ := own_plain fm (by omega)
      have hs7 : n.size ≠ 7 := by
        intro x
        rcases form_cases fn with c | c | c
        · omega
        · omega
        · exact q1 ⟨c.1, x⟩
      obtain ⟨c1, c2, c3⟩ := s2 hs7
      unfold ownB at o1 o2
      exact nd_alike e2 (bytes_nil (by omega) (by omega)) ((nil_of_len (by omega)).trans (nil_of_len (by omega)).symm) s1 c1 (i1.trans i2.symm)
    · have pn := pt_ok fn (by omega) h0
      have pm := pt_ok fm (by omega) g0
      obtain ⟨l1, l2⟩ := lj (fill_le fm gf g1)
      rcases g with ⟨rfl, g⟩ | ⟨pad, e, g, _⟩
      · obtain ⟨_, e2, e3⟩ := ptrW_inj pn pm (by split <;> omega) (by omega) (h.inj g (by rw [ptrW_length, ptrW_length]))
        have := (shape_eq fn fm pn pm e2 e3).2.2
        omega
      · exact absurd (g.inj h (by rw [ptrW_length, farW_length])) (far_ne pn (by omega) l2)
    · have pn := pt_ok fn (by omega) h0
      obtain ⟨l1, l2⟩ := lj (fill_le fn hf h1)
      rcases h with ⟨rfl, h⟩ | ⟨pad, e, h, _⟩
      · exact absurd (g.inj h (by rw [zer_length, ptrW_length])) (zer_real fn pn h1 (by omega))
      · exact absurd (g.inj h (by rw [zer_length, farW_length])) (zer_far (by omega) l2)
    · have pn := pt_ok fn (by omega) h0
      have pm := pt_ok fm (by omega) g0
      obtain ⟨l1, l2⟩ := lj (fill_le fn hf h1)
      rcases h with ⟨rfl, h⟩ | ⟨pad, e, h, _⟩
      · obtain ⟨_, e2, e3⟩ := ptrW_inj pm pn (by split <;> omega) (by omega) (g.inj h (by rw [ptrW_length, ptrW_length]))
        have := (shape_eq fm fn pm pn e2 e3).2.2
        omega
      · exact absurd (h.inj g (by rw [ptrW_length, farW_length])) (far_ne pm (by omega) l2)
    · have pn := pt_ok fn (by omega) h0
      have pm := pt_ok fm (by omega) g0
      obtain ⟨l1, l2⟩ := lj (fill_le fn hf h1)
      obtain ⟨l3, l4⟩ := lj (fill_le fm gf g1)
      have hi : ∀ p ∈ ptrsL n, ∀ q ∈ ptrsL m, ∀ i a, RepN s d p i a → RepN s d q i a → p = q := fun p hp q hq i a =>
        rep_inj hs hl d p q i a (ok_within hn h0 p hp) (ok_within hm g0 q hq) (Nat.le_trans (words_mem hn hp) wn') (Nat.le_trans (words_mem hm hq) wm')
      rcases h with ⟨rfl, h⟩ | ⟨pad, e, h, h'⟩ <;> rcases g with ⟨e', g⟩ | ⟨pad', e', g, g'⟩
      · obtain ⟨e1, e2, e3⟩ := ptrW_inj pn pm (by omega) (by omega) (h.inj g (by rw [ptrW_length, ptrW_length]))
        have : c = c' := by omega
        subst this e'
        exact fill_inj fn fm pn pm e2 e3 hf gf (by omega) (by omega) hi
      · exact absurd (g.inj h (by rw [ptrW_length, farW_length])) (far_ne pn (by omega) l4)
      · exact absurd (h.inj g (by rw [ptrW_length, farW_length])) (far_ne pm (by omega) l2)
      · obtain ⟨e1, e2⟩ := far_inj (by omega) l2 (by omega) l4 (h.inj g (by rw [farW_length, farW_length]))
        subst e1 e2
        have : c = c' := by omega
        subst this
        obtain ⟨_, e2, e3⟩ := ptrW_inj pn pm (by omega) (by omega) (h'.inj g' (by rw [ptrW_length, ptrW_length]))
        exact fill_inj fn fm pn pm e2 e3 hf gf (by omega) (by omega) hi
theorem build_inj {L size : Nat} {n m : Nd} {ss : Segs} (hL : 1 ≤ L) (hn : nodeOk n = true) (hm : nodeOk m = true) (hs : ∀ j, (sgS ss j).length ≤ 7992) (hl : ss.length ≤ 10) (h : buildP L size n = some ss) (g : buildP L size m = some ss) : n = m := by
  obtain ⟨a1, a2⟩ := node_ok hn
  obtain ⟨b1, b2⟩ := node_ok hm
  exact rep_inj hs hl 8 n m 0 0 a1 b1 a2 b2 (build_rep hL a1 h) (build_rep hL b1 g)
end Go.Proofs.YtbijfkpilncclaaGreat

namespace Go.Proofs.YtbijfkpilncclaaGreat
open Go.RowKit Go.Deep
theorem CpQ.two {n : Nd} {w : World} {e : Ending} {w' : World} (h : CpQ n w e w') : e = .returned (.tuple #[.string (oneS (cpV n)), .bool (oneB (cpV n))]) ∧ Below w.heap.size w w' := h
theorem cp_one {n : Nd} (h : nodeOk n = true) : ∃ s, cpV n = some [s] ∧ s.length ≤ 1600 ∧ buildP 200 200 (canN n) = some [s] := by
  have hx := nodeOk_can h
  have hw := (node_ok hx).2
  have hnw : nodeWords (canN n) = wordsN 8 (canN n) := by unfold nodeWords; rw [if_pos hx]
  obtain ⟨s, h1, h2⟩ := build_one (size := 200) hx (by omega)
  refine ⟨s, ?_, ?_, h1⟩
  · unfold cpV bldV
    rw [if_pos h, ← canX_ok h, if_pos ⟨hx, by decide, by decide⟩]
    exact h1
  · rw [h2]
    skip
    omega
theorem cp_ok {n : Nd} (h : oneB (cpV n) = true) : nodeOk n = true := by
  unfold cpV at h
  by_cases e : nodeOk n = true
  · exact e
  · rw [if_neg e] at h; cases h
theorem cp_alike {n m : Nd} {b : Bool} (hn : oneB (cpV n) = true) (hm : oneB (cpV m) = true) (hb : b = true ↔ (nodeOk n = true ∧ nodeOk m = true ∧ canN n = canN m)) : ((oneS (cpV n)).toList == (oneS (cpV m)).toList) = b := by
  have kn := cp_ok hn
  have km := cp_ok hm
  obtain ⟨s, h1, h2, h3⟩ := cp_one kn
  obtain ⟨t, g1, g2, g3⟩ := cp_one km
  rw [h1, g1, Bool.eq_iff_iff, hb, beq_iff_eq]
  refine ⟨fun e => ⟨kn, km, ?_⟩, fun e => ?_⟩
  · have e2 : s = t := by
      have e3 : (⟨s.toArray⟩ : ByteArray).toList = (⟨t.toArray⟩ : ByteArray).toList := e
      rw [toList_data, toList_data] at e3
      simpa using e3
    subst e2
    refine build_inj (L := 200) (size := 200) (ss := [s]) (by decide) (nodeOk_can kn) (nodeOk_can km) (fun j => ?_) (by simp) h3 g3
    unfold sgS
    cases j with
    | zero => simp; omega
    | succ j => simp
  · rw [e.2.2] at h3
    rw [h3] at g3
    injection g3 with g3
    injection g3 with g3
    rw [g3]
end Go.Proofs.YtbijfkpilncclaaGreat
