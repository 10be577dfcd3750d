/- Texts of the proof of the law FnCanonPut, side by side: part 25. -/
import Derived.Test.YtbijfkpilncclaaGreatMCanonPut00
import Derived.Test.YtbijfkpilncclaaGreatMCanonPut01
import Derived.Test.YtbijfkpilncclaaGreatMCanonPut02
import Derived.Test.YtbijfkpilncclaaGreatMCanonPut03
import Derived.Test.YtbijfkpilncclaaGreatMCanonPut04
import Derived.Test.YtbijfkpilncclaaGreatMCanonPut05
import Derived.Test.YtbijfkpilncclaaGreatMCanonPut06
import Derived.Test.YtbijfkpilncclaaGreatMCanonPut07
import Derived.Test.YtbijfkpilncclaaGreatMCanonPut08
import Derived.Test.YtbijfkpilncclaaGreatMCanonPut09
import Derived.Test.YtbijfkpilncclaaGreatMCanonPut10
import Derived.Test.YtbijfkpilncclaaGreatMCanonPut11
import Derived.Test.YtbijfkpilncclaaGreatMCanonPut12
import Derived.Test.YtbijfkpilncclaaGreatMCanonPut13
import Derived.Test.YtbijfkpilncclaaGreatMCanonPut14
import Derived.Test.YtbijfkpilncclaaGreatMCanonPut15
import Derived.Test.YtbijfkpilncclaaGreatMCanonPut16
import Derived.Test.YtbijfkpilncclaaGreatMCanonPut17
import Derived.Test.YtbijfkpilncclaaGreatMCanonPut18
import Derived.Test.YtbijfkpilncclaaGreatMCanonPut19
import Derived.Test.YtbijfkpilncclaaGreatMCanonPut20
import Derived.Test.YtbijfkpilncclaaGreatMCanonPut21
import Derived.Test.YtbijfkpilncclaaGreatMCanonPut22
import Derived.Test.YtbijfkpilncclaaGreatMCanonPut23
import Derived.Test.YtbijfkpilncclaaGreatMCanonPut24
namespace Go.Proofs.YtbijfkpilncclaaGreat
theorem grew_tot : ∀ {a b : Segs}, Grew a b → totS a ≤ totS b
  | [], b, _ => Nat.zero_le _
  | x :: a, [], h => by have := h.1; simp at this
  | x :: a, y :: b, h => by
    have h1 : wn x ≤ wn y := by have := h.2 0; simp [sgS] at this; exact Nat.div_le_div_right this
    have h2 : totS a ≤ totS b := grew_tot ⟨by have := h.1; simpa using this, fun i => by have := h.2 (i + 1); simpa [sgS] using this⟩
    simp only [totS, List.map_cons, List.sum_cons] at h2 ⊢
    omega
theorem room_tot {L size : Nat} {n : Nd} {ss s1 : Segs} {i a j c : Nat} (hk : SOk L ss) (hi : i < ss.length) (ha : a < wn (sgS ss i)) (h : roomP L size n ss i a = some (s1, j, c)) : totS s1 ≤ totS ss + ownN n + 1 := by
  unfold roomP at h
  split at h
  · split at h
    · rename_i ht
      injection h with h
      injection h with h1 h2
      subst h1
      have hi' : i < (growB ss i (ownN n)).length := by rw [growB_length]; exact hi
      have hg := hk.grow hi ht
      have hr := room8 (k := 1) hg.wds (i := i) (a := a) (by rw [wn_grow hi]; omega)
      rw [put_totS hi' (by rw [ptrW_length]; omega), grow_totS hi]
      omega
    · cases h
  · split at h
    · cases h
    · rename_i s0 j0 ho
      obtain ⟨h1, h2, h3⟩ := other_some hk ho
      have h0 : totS s0 = totS ss := by
        unfold otherP at ho
        split at ho
        · injection ho with ho; injection ho with e; rw [e]
        · split at ho
          · injection ho with ho; injection ho with e; rw [← e, totS_app]; rfl
          · cases ho
      split at h
      · rename_i ht
        injection h with h
        injection h with e1 e2
        subst e1
        have hg := h1.grow h3 ht
        have hi' : i < (growB s0 j0 (1 + ownN n)).length := by rw [growB_length]; exact Nat.lt_of_lt_of_le hi h2.1
        have hai : a < wn (sgS (growB s0 j0 (1 + ownN n)) i) := Nat.lt_of_lt_of_le ha ((h2.trans (grow_grew h3)).wn i)
        have hr := room8 (k := 1) hg.wds (i := i) (a := a) (by omega)
        have hp : 8 * a + (farW (wn (sgS s0 j0)) j0).length ≤ (sgS (growB s0 j0 (1 + ownN n)) i).length := by rw [farW_length]; omega
        have hj2 : j0 < (putS (growB s0 j0 (1 + ownN n)) i a (farW (wn (sgS s0 j0)) j0)).length := by rw [putS_length, growB_length]; exact h3
        have hg2 := hg.put hi' hp
        have hwj : wn (sgS (putS (growB s0 j0 (1 + ownN n)) i a (farW (wn (sgS s0 j0)) j0)) j0) = wn (sgS s0 j0) + (1 + ownN n) := by rw [← (put_alen hi' hp).wn, wn_grow h3]
        have hr2 := room8 (k := 1) hg2.wds (i := j0) (a := wn (sgS s0 j0)) (by omega)
        rw [put_totS hj2 (by rw [ptrW_length]; omega), put_totS hi' hp, grow_totS h3, h0]
        omega
      · cases h
def WrTot (L : Nat) (wr : Wr) (Q : Nd → Prop) (f : Nd → Nat) : Prop := ∀ p ss i a s1, Q p → SOk L ss → i < ss.length → a < wn (sgS ss i) → wr p ss i a = some s1 → totS s1 ≤ totS ss + 2 * f p
theorem ptrs_tot {L : Nat} {wr : Wr} {Q : Nd → Prop} {f : Nd → Nat} (hw : WrOk L wr Q) (ht : WrTot L wr Q f) : ∀ (l : List Nd) (ss : Segs) (i a : Nat) (s1 : Segs), (∀ p ∈ l, Q p) → SOk L ss → i < ss.length → a + l.length ≤ wn (sgS ss i) → ptrsP wr l ss i a = some s1 → totS s1 ≤ totS ss + 2 * (l.map f).sum
  | [], ss, i, a, s1, _, hk, _, _, h => by injection h with h; subst h; exact Nat.le_add_right _ _
  | p :: t, ss, i, a, s1, hq, hk, hi, ha, h => by
    simp only [ptrsP, Option.bind_eq_some_iff] at h
    obtain ⟨s2, h1, h2⟩ := h
    simp only [List.length_cons] at ha
    obtain ⟨k2, g2⟩ := hw p ss i a s2 (hq p (List.mem_cons_self ..)) hk hi (by omega) h1
    have e1 := ht p ss i a s2 (hq p (List.mem_cons_self ..)) hk hi (by omega) h1
    have e2 := ptrs_tot hw ht t s2 i (a + 1) s1 (fun q hm => hq q (List.mem_cons_of_mem _ hm)) k2 (Nat.lt_of_lt_of_le hi g2.1) (by have := g2.wn i; omega) h2
    rw [List.map_cons, List.sum_cons]
    omega
theorem body_tot {L : Nat} {wr : Wr} {Q : Nd → Prop} {f : Nd → Nat} (hw : WrOk L wr Q) (ht : WrTot L wr Q f) {n : Nd} {ss s1 : Segs} {i a : Nat} (hq : ∀ p ∈ n.ptrs, Q p) (hk : SOk L ss) (hi : i < ss.length) (ha : a + ownB n ≤ wn (sgS ss i)) (h : bodyP wr n ss i a = some s1) : totS s1 ≤ totS ss + 2 * (n.ptrs.map f).sum := by
  unfold bodyP at h
  have hf := body_fits hk.wds ha
  have hp := put_alen hi hf
  have := ptrs_tot hw ht n.ptrs _ i _ s1 hq (hk.put hi hf) (by rw [putS_length]; exact hi) (by rw [← hp.wn]; unfold ownB at ha; omega) h
  rw [put_totS hi hf] at this
  exact this
theorem items_tot {L : Nat} {wr : Wr} {Q : Nd → Prop} {f : Nd → Nat} (hw : WrOk L wr Q) (ht : WrTot L wr Q f) (each : Nat) : ∀ (l : List Nd) (ss : Segs) (i a : Nat) (s1 : Segs), (∀ y ∈ l, ownB y = each ∧ ∀ p ∈ y.ptrs, Q p) → SOk L ss → i < ss.length → a + l.length * each ≤ wn (sgS ss i) → itemsP wr each l ss i a = some s1 → totS s1 ≤ totS ss + 2 * (l.map fun y => (y.ptrs.map f).sum).sum
  | [], ss, i, a, s1, _, hk, _, _, h => by injection h with h; subst h; exact Nat.le_add_right _ _
  | y :: t, ss, i, a, s1, hq, hk, hi, ha, h => by
    simp only [itemsP, Option.bind_eq_some_iff] at h
    obtain ⟨s2, h1, h2⟩ := h
    simp only [List.length_cons, Nat.add_mul, Nat.one_mul] at ha
    obtain ⟨hy, hyp⟩ := hq y (List.mem_cons_self ..)
    obtain ⟨k2, g2⟩ := body_some hw hyp hk hi (by rw [hy]; omega) h1
    have e1 := body_tot hw ht hyp hk hi (by rw [hy]; omega) h1
    have e2 := items_tot hw ht each t s2 i (a + each) s1 (fun q hm => hq q (List.mem_cons_of_mem _ hm)) k2 (Nat.lt_of_lt_of_le hi g2.1) (by have := g2.wn i; omega) h2
    rw [List.map_cons, List.sum_cons]
    omega
theorem flat_sum (l : List Nd) (f : Nd → Nat) : ((l.flatMap Nd.ptrs).map f).sum = (l.map fun y => (y.ptrs.map f).sum).sum := by
  induction l with
  | nil => rfl
  | cons y t ih => rw [List.flatMap_cons, List.map_append, List.sum_append, ih, List.map_cons, List.sum_cons]
theorem fill_tot {L : Nat} {wr : Wr} {Q : Nd → Prop} {f : Nd → Nat} (hw : WrOk L wr Q) (ht : WrTot L wr Q f) {n : Nd} {ss s1 : Segs} {i a : Nat} (hf : formN n = true) (hq : ∀ p ∈ ptrsL n, Q p) (hk : SOk L ss) (hi : i < ss.length) (ha : a + ownN n ≤ wn (sgS ss i)) (h : fillP wr n ss i a = some s1) : totS s1 ≤ totS ss + 2 * ((ptrsL n).map f).sum := by
  have hsum : ((ptrsL n).map f).sum = (n.ptrs.map f).sum + (n.items.map fun y => (y.ptrs.map f).sum).sum := by unfold ptrsL; rw [List.map_append, List.sum_append, flat_sum]
  unfold fillP at h
  split at h
  · rename_i hm
    obtain ⟨h1, h2, h3⟩ := own_many hf hm
    have hr := room8 (k := 1) hk.wds (i := i) (a := a) (by omega)
    have hp : 8 * a + (tagW n).length ≤ (sgS ss i).length := by rw [tagW_length]; omega
    have := items_tot hw ht (itD n + itP n) n.items _ i (a + 1) s1 (fun y hy => ⟨item_own h1 y hy, fun p hp => hq p (List.mem_append_right _ (List.mem_flatMap.2 ⟨y, hy, hp⟩))⟩) (hk.put hi hp) (by rw [putS_length]; exact hi) (by rw [← (put_alen hi hp).wn]; omega) h
    rw [put_totS hi hp] at this
    omega
  · rename_i hm
    obtain ⟨h1, h2⟩ := own_plain hf hm
    have := body_tot hw ht (fun p hp => hq p (List.mem_append_left _ hp)) hk hi (by omega) h
    omega
theorem wr_tot (L size : Nat) : ∀ d, WrTot L (wrP L size d) (fun n => okN d n = true) (wordsN d)
  | 0 => fun p ss i a s1 _ hk _ _ h => by simp only [wrP] at h; injection h with h; subst h; exact Nat.le_add_right _ _
  | d + 1 => fun n ss i a s1 hn hk hi ha h => by
    simp only [wrP] at h
    split at h
    · injection h with h; subst h; exact Nat.le_add_right _ _
    · rename_i hk0
      split at h
      · injection h with h
        subst h
        have hr := room8 (k := 1) hk.wds (i := i) (a := a) (by omega)
        rw [put_totS hi (by rw [ptrW_length]; omega)]
        exact Nat.le_add_right _ _
      · rename_i hp
        rw [Option.bind_eq_some_iff] at h
        obtain ⟨⟨s2, j, c⟩, h1, h2⟩ := h
        obtain ⟨k2, g2, hj, hc⟩ := room_some hk hi ha h1
        have e1 := room_tot hk hi ha h1
        have e2 := fill_tot (wr_some L size d) (wr_tot L size d) (ok_formN hn) (ok_within hn hk0) k2 hj hc h2
        have e3 : wordsN (d + 1) n = ownN n + ((ptrsL n).map (wordsN d)).sum := rfl
        omega
def WrUp (wr wr' : Wr) : Prop := ∀ p ss i a s1, wr p ss i a = some s1 → wr' p ss i a = some s1
theorem ptrs_up {wr wr' : Wr} (hu : WrUp wr wr') : ∀ (l : List Nd) (ss : Segs) (i a : Nat) (s1 : Segs), ptrsP wr l ss i a = some s1 → ptrsP wr' l ss i a = some s1
  | [], _, _, _, _, h => h
  | p :: t, ss, i, a, s1, h => by
    simp only [ptrsP, Option.bind_eq_some_iff] at h ⊢
    obtain ⟨s2, h1, h2⟩ := h
    exact ⟨s2, hu _ _ _ _ _ h1, ptrs_up hu t s2 i (a + 1) s1 h2⟩
theorem items_up {wr wr' : Wr} (hu : WrUp wr wr') (each : Nat) : ∀ (l : List Nd) (ss : Segs) (i a : Nat) (s1 : Segs), itemsP wr each l ss i a = some s1 → itemsP wr' each l ss i a = some s1
  | [], _, _, _, _, h => h
  | p :: t, ss, i, a, s1, h => by
    simp only [itemsP, Option.bind_eq_some_iff] at h ⊢
    obtain ⟨s2, h1, h2⟩ := h
    exact ⟨s2, ptrs_up hu _ _ _ _ _ h1, items_up hu each t s2 i (a + each) s1 h2⟩
theorem fill_up {wr wr' : Wr} (hu : WrUp wr wr') {n : Nd} {ss s1 : Segs} {i a : Nat} (h : fillP wr n ss i a = some s1) : fillP wr' n ss i a = some s1 := by
  unfold fillP at h ⊢
  split
  · rename_i hm; rw [if_pos hm] at h; exact items_up hu _ _ _ _ _ _ h
  · rename_i hm; rw [if_neg hm] at h; exact ptrs_up hu _ _ _ _ _ h
theorem room_up {L L' size : Nat} (hL : L ≤ L') {n : Nd} {ss : Segs} {i a : Nat} {r : Segs × Nat × Nat} (h : roomP L size n ss i a = some r) : roomP L' size n ss i a = some r := by
  unfold roomP at h ⊢
  split
  · rename_i hf
    rw [if_pos hf] at h
    split at h
    · rename_i ht; rw [if_pos (by omega)]; exact h
    · cases h
  · rename_i hf
    rw [if_neg hf] at h
    split at h
    · cases h
    · rename_i s0 j0 ho
      split at h
      · rename_i ht; rw [if_pos (by omega)]; exact h
      · cases h
theorem wr_up {L L' : Nat} (size : Nat) (hL : L ≤ L') : ∀ d, WrUp (wrP L size d) (wrP L' size d)
  | 0 => fun p ss i a s1 h => h
  | d + 1 => fun n ss i a s1 h => by
    simp only [wrP] at h ⊢
    split
    · rename_i hk; rw [if_pos hk] at h; exact h
    · rename_i hk
      rw [if_neg hk] at h
      split
      · rename_i hp; rw [if_pos hp] at h; exact h
      · rename_i hp
        rw [if_neg hp, Option.bind_eq_some_iff] at h
        obtain ⟨r, h1, h2⟩ := h
        rw [room_up hL h1, Option.bind_some]
        exact fill_up (wr_up size hL d) h2
def WrDn (L l : Nat) (wr wr' : Wr) (Q : Nd → Prop) : Prop := ∀ p ss i a s1, Q p → SOk L ss → i < ss.length → a < wn (sgS ss i) → wr p ss i a = some s1 → totS s1 ≤ l → wr' p ss i a = some s1
theorem ptrs_dn {L l : Nat} {wr wr' : Wr} {Q : Nd → Prop} (hw : WrOk L wr Q) (hd : WrDn L l wr wr' Q) : ∀ (li : List Nd) (ss : Segs) (i a : Nat) (s1 : Segs), (∀ p ∈ li, Q p) → SOk L ss → i < ss.length → a + li.length ≤ wn (sgS ss i) → ptrsP wr li ss i a = some s1 → totS s1 ≤ l → ptrsP wr' li ss i a = some s1
  | [], _, _, _, _, _, _, _, _, h, _ => h
  | p :: t, ss, i, a, s1, hq, hk, hi, ha, h, hl => by
    simp only [ptrsP, Option.bind_eq_some_iff] at h ⊢
    obtain ⟨s2, h1, h2⟩ := h
    simp only [List.length_cons] at ha
    obtain ⟨k2, g2⟩ := hw p ss i a s2 (hq p (List.mem_cons_self ..)) hk hi (by omega) h1
    have hi2 := Nat.lt_of_lt_of_le hi g2.1
    have ha2 : a + 1 + t.length ≤ wn (sgS s2 i) := by have := g2.wn i; omega
    obtain ⟨k3, g3⟩ := ptrs_some hw t s2 i (a + 1) s1 (fun q hm => hq q (List.mem_cons_of_mem _ hm)) k2 hi2 ha2 h2
    exact ⟨s2, hd _ _ _ _ _ (hq p (List.mem_cons_self ..)) hk hi (by omega) h1 (Nat.le_trans (grew_tot g3) hl), ptrs_dn hw hd t s2 i (a + 1) s1 (fun q hm => hq q (List.mem_cons_of_mem _ hm)) k2 hi2 ha2 h2 hl⟩
theorem body_dn {L l : Nat} {wr wr' : Wr} {Q : Nd → Prop} (hw : WrOk L wr Q) (hd : WrDn L l wr wr' Q) {n : Nd} {ss s1 : Segs} {i a : Nat} (hq : ∀ p ∈ n.ptrs, Q p) (hk : SOk L ss) (hi : i < ss.length) (ha : a + ownB n ≤ wn (sgS ss i)) (h : bodyP wr n ss i a = some s1) (hl : totS s1 ≤ l) : bodyP wr' n ss i a = some s1 := by
  unfold bodyP at h ⊢
  have hf := body_fits hk.wds ha
  have hp := put_alen hi hf
  exact ptrs_dn hw hd n.ptrs _ i _ s1 hq (hk.put hi hf) (by rw [putS_length]; exact hi) (by rw [← hp.wn]; unfold ownB at ha; omega) h hl
theorem items_dn {L l : Nat} {wr wr' : Wr} {Q : Nd → Prop} (hw : WrOk L wr Q) (hd : WrDn L l wr wr' Q) (each : Nat) : ∀ (li : List Nd) (ss : Segs) (i a : Nat) (s1 : Segs), (∀ y ∈ li, ownB y = each ∧ ∀ p ∈ y.ptrs, Q p) → SOk L ss → i < ss.length → a + li.length * each ≤ wn (sgS ss i) → itemsP wr each li ss i a = some s1 → totS s1 ≤ l → itemsP wr' each li ss i a = some s1
  | [], _, _, _, _, _, _, _, _, h, _ => h
  | y :: t, ss, i, a, s1, hq, hk, hi, ha, h, hl => by
    simp only [itemsP, Option.bind_eq_some_iff] at h ⊢
    obtain ⟨s2, h1, h2⟩ := h
    simp only [List.length_cons, Nat.add_mul, Nat.one_mul] at ha
    obtain ⟨hy, hyp⟩ := hq y (List.mem_cons_self ..)
    obtain ⟨k2, g2⟩ := body_some hw hyp hk hi (by rw [hy]; omega) h1
    have hi2 := Nat.lt_of_lt_of_le hi g2.1
    have ha2 : a + each + t.length * each ≤ wn (sgS s2 i) := by have := g2.wn i; omega
    obtain ⟨k3, g3⟩ := items_some hw each t s2 i (a + each) s1 (fun q hm => hq q (List.mem_cons_of_mem _ hm)) k2 hi2 ha2 h2
    exact ⟨s2, body_dn hw hd hyp hk hi (by rw [hy]; omega) h1 (Nat.le_trans (grew_tot g3) hl), items_dn hw hd each t s2 i (a + each) s1 (fun q hm => hq q (List.mem_cons_of_mem _ hm)) k2 hi2 ha2 h2 hl⟩
theorem fill_dn {L l : Nat} {wr wr' : Wr} {Q : Nd → Prop} (hw : WrOk L wr Q) (hd : WrDn L l wr wr' Q) {n : Nd} {ss s1 : Segs} {i a : Nat} (hf : formN n = true) (hq : ∀ p ∈ ptrsL n, Q p) (hk : SOk L ss) (hi : i < ss.length) (ha : a + ownN n ≤ wn (sgS ss i)) (h : fillP wr n ss i a = some s1) (hl : totS s1 ≤ l) : fillP wr' n ss i a = some s1 := by
  unfold fillP at h ⊢
  split
  · rename_i hm
    rw [if_pos hm] at h
    obtain ⟨h1, h2, h3⟩ := own_many hf hm
    have hr := room8 (k := 1) hk.wds (i := i) (a := a) (by omega)
    have hp : 8 * a + (tagW n).length ≤ (sgS ss i).length := by rw [tagW_length]; omega
    exact items_dn hw hd (itD n + itP n) n.items _ i (a + 1) s1 (fun y hy => ⟨item_own h1 y hy, fun p hp => hq p (List.mem_append_right _ (List.mem_flatMap.2 ⟨y, hy, hp⟩))⟩) (hk.put hi hp) (by rw [putS_length]; exact hi) (by rw [← (put_alen hi hp).wn]; omega) h hl
  · rename_i hm
    rw [if_neg hm] at h
    obtain ⟨h1, h2⟩ := own_plain hf hm
    exact body_dn hw hd (fun p hp => hq p (List.mem_append_left _ hp)) hk hi (by omega) h hl
theorem room_dn {L l size : Nat} {n : Nd} {ss s1 : Segs} {i a j c : Nat} (hk : SOk L ss) (hi : i < ss.length) (ha : a < wn (sgS ss i)) (h : roomP L size n ss i a = some (s1, j, c)) (hl : totS s1 ≤ l) : roomP l size n ss i a = some (s1, j, c) := by
  have hx := h
  unfold roomP at h ⊢
  split
  · rename_i hf
    rw [if_pos hf] at h
    split at h
    · rename_i ht
      have e : totS s1 = totS ss + ownN n := by
        injection h with h
        injection h with h1 h2
        subst h1
        have hi' : i < (growB ss i (ownN n)).length := by rw [growB_length]; exact hi
        have hg := hk.grow hi ht
        have hr := room8 (k := 1) hg.wds (i := i) (a := a) (by rw [wn_grow hi]; omega)
        rw [put_totS hi' (by rw [ptrW_length]; omega), grow_totS hi]
      rw [if_pos (by omega)]; exact h
    · cases h
  · rename_i hf
    rw [if_neg hf] at h
    split at h
    · cases h
    · rename_i s0 j0 ho
      split at h
      · rename_i ht
        obtain ⟨h1, h2, h3⟩ := other_some hk ho
        have e : totS s1 = totS s0 + (1 + ownN n) := by
          injection h with h
          injection h with e1 e2
          subst e1
          have hg := h1.grow h3 ht
          have hi' : i < (growB s0 j0 (1 + ownN n)).length := by rw [growB_length]; exact Nat.lt_of_lt_of_le hi h2.1
          have hai : a < wn (sgS (growB s0 j0 (1 + ownN n)) i) := Nat.lt_of_lt_of_le ha ((h2.trans (grow_grew h3)).wn i)
          have hr := room8 (k := 1) hg.wds (i := i) (a := a) (by omega)
          have hp : 8 * a + (farW (wn (sgS s0 j0)) j0).length ≤ (sgS (growB s0 j0 (1 + ownN n)) i).length := by rw [farW_length]; omega
          have hj2 : j0 < (putS (growB s0 j0 (1 + ownN n)) i a (farW (wn (sgS s0 j0)) j0)).length := by rw [putS_length, growB_length]; exact h3
          have hg2 := hg.put hi' hp
          have hwj : wn (sgS (putS (growB s0 j0 (1 + ownN n)) i a (farW (wn (sgS s0 j0)) j0)) j0) = wn (sgS s0 j0) + (1 + ownN n) := by rw [← (put_alen hi' hp).wn, wn_grow h3]
          have hr2 := room8 (k := 1) hg2.wds (i := j0) (a := wn (sgS s0 j0)) (by omega)
          rw [put_totS hj2 (by rw [ptrW_length]; omega), put_totS hi' hp, grow_totS h3]
        rw [if_pos (by omega)]; exact h
      · cases h
theorem wr_dn (L l size : Nat) : ∀ d, WrDn L l (wrP L size d) (wrP l size d) (fun n => okN d n = true)
  | 0 => fun p ss i a s1 _ _ _ _ h _ => h
  | d + 1 => fun n ss i a s1 hn hk hi ha h hl => by
    simp only [wrP] at h ⊢
    split
    · rename_i hk0; rw [if_pos hk0] at h; exact h
    · rename_i hk0
      rw [if_neg hk0] at h
      split
      · rename_i hp; rw [if_pos hp] at h; exact h
      · rename_i hp
        rw [if_neg hp, Option.bind_eq_some_iff] at h
        obtain ⟨⟨s2, j, c⟩, h1, h2⟩ := h
        obtain ⟨k2, g2, hj, hc⟩ := room_some hk hi ha h1
        obtain ⟨k3, g3⟩ := fill_some (wr_some L size d) (ok_formN hn) (ok_within hn hk0) k2 hj hc h2
        rw [room_dn hk hi ha h1 (Nat.le_trans (grew_tot g3) hl), Option.bind_some]
        exact fill_dn (wr_some L size d) (wr_dn L l size d) (ok_formN hn) (ok_within hn hk0) k2 hj hc h2 hl
theorem SOKL (L : Nat) (hL : 1 ≤ L) : SOk L [zer 1] := ⟨fun i => by
  match i with
  | 0 => rfl
  | i + 1 => rfl, by decide, by decide, hL⟩
theorem build_lim {size : Nat} {n : Nd} (hok : okN 8 n = true) (L : Nat) (hL : 200 ≤ L) : buildP 200 size n = (buildP L size n).bind fun ss => if totS ss ≤ 200 then some ss else none := by
  unfold buildP
  cases h : wrP L size 8 n [zer 1] 0 0 with
  | none =>
    cases h2 : wrP 200 size 8 n [zer 1] 0 0 with
    | none => rfl
    | some s => rw [wr_up size hL 8 _ _ _ _ _ h2] at h; cases h
  | some s =>
    rw [Option.bind_some]
    by_cases ht : totS s ≤ 200
    · rw [if_pos ht]
      exact wr_dn L 200 size 8 _ _ _ _ _ hok (SOKL L (by omega)) (by decide) (by decide) h ht
    · rw [if_neg ht]
      cases h2 : wrP 200 size 8 n [zer 1] 0 0 with
      | none => rfl
      | some s' =>
        have h3 := wr_up size hL 8 _ _ _ _ _ h2
        rw [h3] at h
        injection h with h
        subst h
        exact absurd (wr_some 200 size 8 _ _ _ _ _ hok (SOKL 200 (by omega)) (by decide) (by decide) h2).1.totS ht
end Go.Proofs.YtbijfkpilncclaaGreat
