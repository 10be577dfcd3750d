/- Texts of the proof of the law FnSend, side by side: part 6. -/
import Derived.Test.YtlbfffokkhccaaaGreatDoorMSend05
set_option maxHeartbeats 8000000
set_option maxRecDepth 100000
namespace Go.Proofs.YtlbfffokkhccaaaGreatDoor
theorem grew_tot : ∀ {a b : Segs}, Grew a b → totS a ≤ totS b
 | [], b, _ => Nat.zero_le _
 | x :: a, [], h => by have := h.1; simp at this
 | x :: a, y :: b, h => by
   have h1 : wn x ≤ wn y := by have := h.2 0; simp [sgS] at this; exact Nat.div_le_div_right this
   have h2 : totS a ≤ totS b := grew_tot ⟨by have := h.1; simpa using this, fun i => by have := h.2 (i + 1); simpa [sgS] using this⟩
   simp only [totS, List.map_cons, List.sum_cons] at h2 ⊢
   omega
theorem room_tot {L size : Nat} {n : Nd} {ss s1 : Segs} {i a j c : Nat} (hk : SOk L ss) (hi : i < ss.length) (ha : a < wn (sgS ss i)) (h : roomP L size n ss i a = some (s1, j, c)) : totS s1 ≤ totS ss + ownN n + 1 := by
 unfold roomP at h
 split at h
 · split at h
   · rename_i ht
     injection h with h
     injection h with h1 h2
     subst h1
     have hi' : i < (growB ss i (ownN n)).length := by rw [growB_length]; exact hi
     have hg := hk.grow hi ht
     have hr := room8 (k := 1) hg.wds (i := i) (a := a) (by rw [wn_grow hi]; omega)
     rw [put_totS hi' (by rw [ptrW_length]; omega), grow_totS hi]
     omega
   · cases h
 · split at h
   · cases h
   · rename_i s0 j0 ho
     obtain ⟨h1, h2, h3⟩ := other_some hk ho
     have h0 : totS s0 = totS ss := by
      unfold otherP at ho
      split at ho
      · injection ho with ho; injection ho with e; rw [e]
      · split at ho
        · injection ho with ho; injection ho with e; rw [← e, totS_app]; rfl
        · cases ho
     split at h
     · rename_i ht
       injection h with h
       injection h with e1 e2
       subst e1
       have hg := h1.grow h3 ht
       have hi' : i < (growB s0 j0 (1 + ownN n)).length := by rw [growB_length]; exact Nat.lt_of_lt_of_le hi h2.1
       have hai : a < wn (sgS (growB s0 j0 (1 + ownN n)) i) := Nat.lt_of_lt_of_le ha ((h2.trans (grow_grew h3)).wn i)
       have hr := room8 (k := 1) hg.wds (i := i) (a := a) (by omega)
       have hp : 8 * a + (farW (wn (sgS s0 j0)) j0).length ≤ (sgS (growB s0 j0 (1 + ownN n)) i).length := by rw [farW_length]; omega
       have hj2 : j0 < (putS (growB s0 j0 (1 + ownN n)) i a (farW (wn (sgS s0 j0)) j0)).length := by rw [putS_length, growB_length]; exact h3
       have hg2 := hg.put hi' hp
       have hwj : wn (sgS (putS (growB s0 j0 (1 + ownN n)) i a (farW (wn (sgS s0 j0)) j0)) j0) = wn (sgS s0 j0) + (1 + ownN n) := by rw [← (put_alen hi' hp).wn, wn_grow h3]
       have hr2 := room8 (k := 1) hg2.wds (i := j0) (a := wn (sgS s0 j0)) (by omega)
       rw [put_totS hj2 (by rw [ptrW_length]; omega), put_totS hi' hp, grow_totS h3, h0]
       omega
     · cases h
def WrTot (L : Nat) (wr : Wr) (Q : Nd → Prop) (f : Nd → Nat) : Prop := ∀ p ss i a s1, Q p → SOk L ss → i < ss.length → a < wn (sgS ss i) → wr p ss i a = some s1 → totS s1 ≤ totS ss + 2 * f p
theorem ptrs_tot {L : Nat} {wr : Wr} {Q : Nd → Prop} {f : Nd → Nat} (hw : WrOk L wr Q) (ht : WrTot L wr Q f) : ∀ (l : List Nd) (ss : Segs) (i a : Nat) (s1 : Segs), (∀ p ∈ l, Q p) → SOk L ss → i < ss.length → a + l.length ≤ wn (sgS ss i) → ptrsP wr l ss i a = some s1 → totS s1 ≤ totS ss + 2 * (l.map f).sum
 | [], ss, i, a, s1, _, hk, _, _, h => by injection h with h; subst h; exact Nat.le_add_right _ _
 | p :: t, ss, i, a, s1, hq, hk, hi, ha, h => by
   simp only [ptrsP, Option.bind_eq_some_iff] at h
   obtain ⟨s2, h1, h2⟩ := h
   simp only [List.length_cons] at ha
   obtain ⟨k2, g2⟩ := hw p ss i a s2 (hq p (List.mem_cons_self ..)) hk hi (by omega) h1
   have e1 := ht p ss i a s2 (hq p (List.mem_cons_self ..)) hk hi (by omega) h1
   have e2 := ptrs_tot hw ht t s2 i (a + 1) s1 (fun q hm => hq q (List.mem_cons_of_mem _ hm)) k2 (Nat.lt_of_lt_of_le hi g2.1) (by have := g2.wn i; omega) h2
   rw [List.map_cons, List.sum_cons]
   omega
theorem body_tot {L : Nat} {wr : Wr} {Q : Nd → Prop} {f : Nd → Nat} (hw : WrOk L wr Q) (ht : WrTot L wr Q f) {n : Nd} {ss s1 : Segs} {i a : Nat} (hq : ∀ p ∈ n.ptrs, Q p) (hk : SOk L ss) (hi : i < ss.length) (ha : a + ownB n ≤ wn (sgS ss i)) (h : bodyP wr n ss i a = some s1) : totS s1 ≤ totS ss + 2 * (n.ptrs.map f).sum := by
 unfold bodyP at h
 have hf := body_fits hk.wds ha
 have hp := put_alen hi hf
 have := ptrs_tot hw ht n.ptrs _ i _ s1 hq (hk.put hi hf) (by rw [putS_length]; exact hi) (by rw [← hp.wn]; unfold ownB at ha; omega) h
 rw [put_totS hi hf] at this
 exact this
theorem items_tot {L : Nat} {wr : Wr} {Q : Nd → Prop} {f : Nd → Nat} (hw : WrOk L wr Q) (ht : WrTot L wr Q f) (each : Nat) : ∀ (l : List Nd) (ss : Segs) (i a : Nat) (s1 : Segs), (∀ y ∈ l, ownB y = each ∧ ∀ p ∈ y.ptrs, Q p) → SOk L ss → i < ss.length → a + l.length * each ≤ wn (sgS ss i) → itemsP wr each l ss i a = some s1 → totS s1 ≤ totS ss + 2 * (l.map fun y => (y.ptrs.map f).sum).sum
 | [], ss, i, a, s1, _, hk, _, _, h => by injection h with h; subst h; exact Nat.le_add_right _ _
 | y :: t, ss, i, a, s1, hq, hk, hi, ha, h => by
   simp only [itemsP, Option.bind_eq_some_iff] at h
   obtain ⟨s2, h1, h2⟩ := h
   simp only [List.length_cons, Nat.add_mul, Nat.one_mul] at ha
   obtain ⟨hy, hyp⟩ := hq y (List.mem_cons_self ..)
   obtain ⟨k2, g2⟩ := body_some hw hyp hk hi (by rw [hy]; omega) h1
   have e1 := body_tot hw ht hyp hk hi (by rw [hy]; omega) h1
   have e2 := items_tot hw ht each t s2 i (a + each) s1 (fun q hm => hq q (List.mem_cons_of_mem _ hm)) k2 (Nat.lt_of_lt_of_le hi g2.1) (by have := g2.wn i; omega) h2
   rw [List.map_cons, List.sum_cons]
   omega
theorem flat_sum (l : List Nd) (f : Nd → Nat) : ((l.flatMap Nd.ptrs).map f).sum = (l.map fun y => (y.ptrs.map f).sum).sum := by
 induction l with
 | nil => rfl
 | cons y t ih => rw [List.flatMap_cons, List.map_append, List.sum_append, ih, List.map_cons, List.sum_cons]
theorem fill_tot {L : Nat} {wr : Wr} {Q : Nd → Prop} {f : Nd → Nat} (hw : WrOk L wr Q) (ht : WrTot L wr Q f) {n : Nd} {ss s1 : Segs} {i a : Nat} (hf : formN n = true) (hq : ∀ p ∈ ptrsL n, Q p) (hk : SOk L ss) (hi : i < ss.length) (ha : a + ownN n ≤ wn (sgS ss i)) (h : fillP wr n ss i a = some s1) : totS s1 ≤ totS ss + 2 * ((ptrsL n).map f).sum := by
 have hsum : ((ptrsL n).map f).sum = (n.ptrs.map f).sum + (n.items.map fun y => (y.ptrs.map f).sum).sum := by unfold ptrsL; rw [List.map_append, List.sum_append, flat_sum]
 unfold fillP at h
 split at h
 · rename_i hm
   obtain ⟨h1, h2, h3⟩ := own_many hf hm
   have hr := room8 (k := 1) hk.wds (i := i) (a := a) (by omega)
   have hp : 8 * a + (tagW n).length ≤ (sgS ss i).length := by rw [tagW_length]; omega
   have := items_tot hw ht (itD n + itP n) n.items _ i (a + 1) s1 (fun y hy => ⟨item_own h1 y hy, fun p hp => hq p (List.mem_append_right _ (List.mem_flatMap.2 ⟨y, hy, hp⟩))⟩) (hk.put hi hp) (by rw [putS_length]; exact hi) (by rw [← (put_alen hi hp).wn]; omega) h
   rw [put_totS hi hp] at this
   omega
 · rename_i hm
   obtain ⟨h1, h2⟩ := own_plain hf hm
   have := body_tot hw ht (fun p hp => hq p (List.mem_append_left _ hp)) hk hi (by omega) h
   omega
theorem wr_tot (L size : Nat) : ∀ d, WrTot L (wrP L size d) (fun n => okN d n = true) (wordsN d)
 | 0 => fun p ss i a s1 _ hk _ _ h => by simp only [wrP] at h; injection h with h; subst h; exact Nat.le_add_right _ _
 | d + 1 => fun n ss i a s1 hn hk hi ha h => by
   simp only [wrP] at h
   split at h
   · injection h with h; subst h; exact Nat.le_add_right _ _
   · rename_i hk0
     split at h
     · injection h with h
       subst h
       have hr := room8 (k := 1) hk.wds (i := i) (a := a) (by omega)
       rw [put_totS hi (by rw [ptrW_length]; omega)]
       exact Nat.le_add_right _ _
     · rename_i hp
       rw [Option.bind_eq_some_iff] at h
       obtain ⟨⟨s2, j, c⟩, h1, h2⟩ := h
       obtain ⟨k2, g2, hj, hc⟩ := room_some hk hi ha h1
       have e1 := room_tot hk hi ha h1
       have e2 := fill_tot (wr_some L size d) (wr_tot L size d) (ok_formN hn) (ok_within hn hk0) k2 hj hc h2
       have e3 : wordsN (d + 1) n = ownN n + ((ptrsL n).map (wordsN d)).sum := rfl
       omega
def WrUp (wr wr' : Wr) : Prop := ∀ p ss i a s1, wr p ss i a = some s1 → wr' p ss i a = some s1
theorem ptrs_up {wr wr' : Wr} (hu : WrUp wr wr') : ∀ (l : List Nd) (ss : Segs) (i a : Nat) (s1 : Segs), ptrsP wr l ss i a = some s1 → ptrsP wr' l ss i a = some s1
 | [], _, _, _, _, h => h
 | p :: t, ss, i, a, s1, h => by
   simp only [ptrsP, Option.bind_eq_some_iff] at h ⊢
   obtain ⟨s2, h1, h2⟩ := h
   exact ⟨s2, hu _ _ _ _ _ h1, ptrs_up hu t s2 i (a + 1) s1 h2⟩
theorem items_up {wr wr' : Wr} (hu : WrUp wr wr') (each : Nat) : ∀ (l : List Nd) (ss : Segs) (i a : Nat) (s1 : Segs), itemsP wr each l ss i a = some s1 → itemsP wr' each l ss i a = some s1
 | [], _, _, _, _, h => h
 | p :: t, ss, i, a, s1, h => by
   simp only [itemsP, Option.bind_eq_some_iff] at h ⊢
   obtain ⟨s2, h1, h2⟩ := h
   exact ⟨s2, ptrs_up hu _ _ _ _ _ h1, items_up hu each t s2 i (a + each) s1 h2⟩
theorem fill_up {wr wr' : Wr} (hu : WrUp wr wr') {n : Nd} {ss s1 : Segs} {i a : Nat} (h : fillP wr n ss i a = some s1) : fillP wr' n ss i a = some s1 := by
 unfold fillP at h ⊢
 split
 · rename_i hm; rw [if_pos hm] at h; exact items_up hu _ _ _ _ _ _ h
 · rename_i hm; rw [if_neg hm] at h; exact ptrs_up hu _ _ _ _ _ h
theorem room_up {L L' size : Nat} (hL : L ≤ L') {n : Nd} {ss : Segs} {i a : Nat} {r : Segs × Nat × Nat} (h : roomP L size n ss i a = some r) : roomP L' size n ss i a = some r := by
 unfold roomP at h ⊢
 split
 · rename_i hf
   rw [if_pos hf] at h
   split at h
   · rename_i ht; rw [if_pos (by omega)]; exact h
   · cases h
 · rename_i hf
   rw [if_neg hf] at h
   split at h
   · cases h
   · rename_i s0 j0 ho
     split at h
     · rename_i ht; rw [if_pos (by omega)]; exact h
     · cases h
theorem wr_up {L L' : Nat} (size : Nat) (hL : L ≤ L') : ∀ d, WrUp (wrP L size d) (wrP L' size d)
 | 0 => fun p ss i a s1 h => h
 | d + 1 => fun n ss i a s1 h => by
   simp only [wrP] at h ⊢
   split
   · rename_i hk; rw [if_pos hk] at h; exact h
   · rename_i hk
     rw [if_neg hk] at h
     split
     · rename_i hp; rw [if_pos hp] at h; exact h
     · rename_i hp
       rw [if_neg hp, Option.bind_eq_some_iff] at h
       obtain ⟨r, h1, h2⟩ := h
       rw [room_up hL h1, Option.bind_some]
       exact fill_up (wr_up size hL d) h2
def WrDn (L l : Nat) (wr wr' : Wr) (Q : Nd → Prop) : Prop := ∀ p ss i a s1, Q p → SOk L ss → i < ss.length → a < wn (sgS ss i) → wr p ss i a = some s1 → totS s1 ≤ l → wr' p ss i a = some s1
theorem ptrs_dn {L l : Nat} {wr wr' : Wr} {Q : Nd → Prop} (hw : WrOk L wr Q) (hd : WrDn L l wr wr' Q) : ∀ (li : List Nd) (ss : Segs) (i a : Nat) (s1 : Segs), (∀ p ∈ li, Q p) → SOk L ss → i < ss.length → a + li.length ≤ wn (sgS ss i) → ptrsP wr li ss i a = some s1 → totS s1 ≤ l → ptrsP wr' li ss i a = some s1
 | [], _, _, _, _, _, _, _, _, h, _ => h
 | p :: t, ss, i, a, s1, hq, hk, hi, ha, h, hl => by
   simp only [ptrsP, Option.bind_eq_some_iff] at h ⊢
   obtain ⟨s2, h1, h2⟩ := h
   simp only [List.length_cons] at ha
   obtain ⟨k2, g2⟩ := hw p ss i a s2 (hq p (List.mem_cons_self ..)) hk hi (by omega) h1
   have hi2 := Nat.lt_of_lt_of_le hi g2.1
   have ha2 : a + 1 + t.length ≤ wn (sgS s2 i) := by have := g2.wn i; omega
   obtain ⟨k3, g3⟩ := ptrs_some hw t s2 i (a + 1) s1 (fun q hm => hq q (List.mem_cons_of_mem _ hm)) k2 hi2 ha2 h2
   exact ⟨s2, hd _ _ _ _ _ (hq p (List.mem_cons_self ..)) hk hi (by omega) h1 (Nat.le_trans (grew_tot g3) hl), ptrs_dn hw hd t s2 i (a + 1) s1 (fun q hm => hq q (List.mem_cons_of_mem _ hm)) k2 hi2 ha2 h2 hl⟩
theorem body_dn {L l : Nat} {wr wr' : Wr} {Q : Nd → Prop} (hw : WrOk L wr Q) (hd : WrDn L l wr wr' Q) {n : Nd} {ss s1 : Segs} {i a : Nat} (hq : ∀ p ∈ n.ptrs, Q p) (hk : SOk L ss) (hi : i < ss.length) (ha : a + ownB n ≤ wn (sgS ss i)) (h : bodyP wr n ss i a = some s1) (hl : totS s1 ≤ l) : bodyP wr' n ss i a = some s1 := by
 unfold bodyP at h ⊢
 have hf := body_fits hk.wds ha
 have hp := put_alen hi hf
 exact ptrs_dn hw hd n.ptrs _ i _ s1 hq (hk.put hi hf) (by rw [putS_length]; exact hi) (by rw [← hp.wn]; unfold ownB at ha; omega) h hl
theorem items_dn {L l : Nat} {wr wr' : Wr} {Q : Nd → Prop} (hw : WrOk L wr Q) (hd : WrDn L l wr wr' Q) (each : Nat) : ∀ (li : List Nd) (ss : Segs) (i a : Nat) (s1 : Segs), (∀ y ∈ li, ownB y = each ∧ ∀ p ∈ y.ptrs, Q p) → SOk L ss → i < ss.length → a + li.length * each ≤ wn (sgS ss i) → itemsP wr each li ss i a = some s1 → totS s1 ≤ l → itemsP wr' each li ss i a = some s1
 | [], _, _, _, _, _, _, _, _, h, _ => h
 | y :: t, ss, i, a, s1, hq, hk, hi, ha, h, hl => by
   simp only [itemsP, Option.bind_eq_some_iff] at h ⊢
   obtain ⟨s2, h1, h2⟩ := h
   simp only [List.length_cons, Nat.add_mul, Nat.one_mul] at ha
   obtain ⟨hy, hyp⟩ := hq y (List.mem_cons_self ..)
   obtain ⟨k2, g2⟩ := body_some hw hyp hk hi (by rw [hy]; omega) h1
   have hi2 := Nat.lt_of_lt_of_le hi g2.1
   have ha2 : a + each + t.length * each ≤ wn (sgS s2 i) := by have := g2.wn i; omega
   obtain ⟨k3, g3⟩ := items_some hw each t s2 i (a + each) s1 (fun q hm => hq q (List.mem_cons_of_mem _ hm)) k2 hi2 ha2 h2
   exact ⟨s2, body_dn hw hd hyp hk hi (by rw [hy]; omega) h1 (Nat.le_trans (grew_tot g3) hl), items_dn hw hd each t s2 i (a + each) s1 (fun q hm => hq q (List.mem_cons_of_mem _ hm)) k2 hi2 ha2 h2 hl⟩
theorem fill_dn {L l : Nat} {wr wr' : Wr} {Q : Nd → Prop} (hw : WrOk L wr Q) (hd : WrDn L l wr wr' Q) {n : Nd} {ss s1 : Segs} {i a : Nat} (hf : formN n = true) (hq : ∀ p ∈ ptrsL n, Q p) (hk : SOk L ss) (hi : i < ss.length) (ha : a + ownN n ≤ wn (sgS ss i)) (h : fillP wr n ss i a = some s1) (hl : totS s1 ≤ l) : fillP wr' n ss i a = some s1 := by
 unfold fillP at h ⊢
 split
 · rename_i hm
   rw [if_pos hm] at h
   obtain ⟨h1, h2, h3⟩ := own_many hf hm
   have hr := room8 (k := 1) hk.wds (i := i) (a := a) (by omega)
   have hp : 8 * a + (tagW n).length ≤ (sgS ss i).length := by rw [tagW_length]; omega
   exact items_dn hw hd (itD n + itP n) n.items _ i (a + 1) s1 (fun y hy => ⟨item_own h1 y hy, fun p hp => hq p (List.mem_append_right _ (List.mem_flatMap.2 ⟨y, hy, hp⟩))⟩) (hk.put hi hp) (by rw [putS_length]; exact hi) (by rw [← (put_alen hi hp).wn]; omega) h hl
 · rename_i hm
   rw [if_neg hm] at h
   obtain ⟨h1, h2⟩ := own_plain hf hm
   exact body_dn hw hd (fun p hp => hq p (List.mem_append_left _ hp)) hk hi (by omega) h hl
theorem room_dn {L l size : Nat} {n : Nd} {ss s1 : Segs} {i a j c : Nat} (hk : SOk L ss) (hi : i < ss.length) (ha : a < wn (sgS ss i)) (h : roomP L size n ss i a = some (s1, j, c)) (hl : totS s1 ≤ l) : roomP l size n ss i a = some (s1, j, c) := by
 have hx := h
 unfold roomP at h ⊢
 split
 · rename_i hf
   rw [if_pos hf] at h
   split at h
   · rename_i ht
     have e : totS s1 = totS ss + ownN n := by
      injection h with h
      injection h with h1 h2
      subst h1
      have hi' : i < (growB ss i (ownN n)).length := by rw [growB_length]; exact hi
      have hg := hk.grow hi ht
      have hr := room8 (k := 1) hg.wds (i := i) (a := a) (by rw [wn_grow hi]; omega)
      rw [put_totS hi' (by rw [ptrW_length]; omega), grow_totS hi]
     rw [if_pos (by omega)]; exact h
   · cases h
 · rename_i hf
   rw [if_neg hf] at h
   split at h
   · cases h
   · rename_i s0 j0 ho
     split at h
     · rename_i ht
       obtain ⟨h1, h2, h3⟩ := other_some hk ho
       have e : totS s1 = totS s0 + (1 + ownN n) := by
        injection h with h
        injection h with e1 e2
        subst e1
        have hg := h1.grow h3 ht
        have hi' : i < (growB s0 j0 (1 + ownN n)).length := by rw [growB_length]; exact Nat.lt_of_lt_of_le hi h2.1
        have hai : a < wn (sgS (growB s0 j0 (1 + ownN n)) i) := Nat.lt_of_lt_of_le ha ((h2.trans (grow_grew h3)).wn i)
        have hr := room8 (k := 1) hg.wds (i := i) (a := a) (by omega)
        have hp : 8 * a + (farW (wn (sgS s0 j0)) j0).length ≤ (sgS (growB s0 j0 (1 + ownN n)) i).length := by rw [farW_length]; omega
        have hj2 : j0 < (putS (growB s0 j0 (1 + ownN n)) i a (farW (wn (sgS s0 j0)) j0)).length := by rw [putS_length, growB_length]; exact h3
        have hg2 := hg.put hi' hp
        have hwj : wn (sgS (putS (growB s0 j0 (1 + ownN n)) i a (farW (wn (sgS s0 j0)) j0)) j0) = wn (sgS s0 j0) + (1 + ownN n) := by rw [← (put_alen hi' hp).wn, wn_grow h3]
        have hr2 := room8 (k := 1) hg2.wds (i := j0) (a := wn (sgS s0 j0)) (by omega)
        rw [put_totS hj2 (by rw [ptrW_length]; omega), put_totS hi' hp, grow_totS h3]
       rw [if_pos (by omega)]; exact h
     · cases h
theorem wr_dn (L l size : Nat) : ∀ d, WrDn L l (wrP L size d) (wrP l size d) (fun n => okN d n = true)
 | 0 => fun p ss i a s1 _ _ _ _ h _ => h
 | d + 1 => fun n ss i a s1 hn hk hi ha h hl => by
   simp only [wrP] at h ⊢
   split
   · rename_i hk0; rw [if_pos hk0] at h; exact h
   · rename_i hk0
     rw [if_neg hk0] at h
     split
     · rename_i hp; rw [if_pos hp] at h; exact h
     · rename_i hp
       rw [if_neg hp, Option.bind_eq_some_iff] at h
       obtain ⟨⟨s2, j, c⟩, h1, h2⟩ := h
       obtain ⟨k2, g2, hj, hc⟩ := room_some hk hi ha h1
       obtain ⟨k3, g3⟩ := fill_some (wr_some L size d) (ok_formN hn) (ok_within hn hk0) k2 hj hc h2
       rw [room_dn hk hi ha h1 (Nat.le_trans (grew_tot g3) hl), Option.bind_some]
       exact fill_dn (wr_some L size d) (wr_dn L l size d) (ok_formN hn) (ok_within hn hk0) k2 hj hc h2 hl
theorem SOKL (L : Nat) (hL : 1 ≤ L) : SOk L [zer 1] := ⟨fun i => by
 match i with
 | 0 => rfl
 | i + 1 => rfl, by decide, by decide, hL⟩
theorem build_lim {size : Nat} {n : Nd} (hok : okN 8 n = true) (L : Nat) (hL : 200 ≤ L) : buildP 200 size n = (buildP L size n).bind fun ss => if totS ss ≤ 200 then some ss else none := by
 unfold buildP
 cases h : wrP L size 8 n [zer 1] 0 0 with
 | none =>
  cases h2 : wrP 200 size 8 n [zer 1] 0 0 with
  | none => rfl
  | some s => rw [wr_up size hL 8 _ _ _ _ _ h2] at h; cases h
 | some s =>
  rw [Option.bind_some]
  by_cases ht : totS s ≤ 200
  · rw [if_pos ht]
    exact wr_dn L 200 size 8 _ _ _ _ _ hok (SOKL L (by omega)) (by decide) (by decide) h ht
  · rw [if_neg ht]
    cases h2 : wrP 200 size 8 n [zer 1] 0 0 with
    | none => rfl
    | some s' =>
     have h3 := wr_up size hL 8 _ _ _ _ _ h2
     rw [h3] at h
     injection h with h
     subst h
     exact absurd (wr_some 200 size 8 _ _ _ _ _ hok (SOKL 200 (by omega)) (by decide) (by decide) h2).1.totS ht
def byteS (s : Segs) (j p : Nat) : Option UInt8 := (sgS s j)[p]?
def HasT (s : Segs) (j p : Nat) (t : List UInt8) : Prop := ∀ q, q < t.length → byteS s j (p + q) = t[q]?
theorem HasT.agree {s s' : Segs} {j p : Nat} {t : List UInt8} (h : HasT s j p t) (ha : ∀ q, q < t.length → byteS s' j (p + q) = byteS s j (p + q)) : HasT s' j p t := fun q hq => (ha q hq).trans (h q hq)
theorem spl_byte {x t : List UInt8} {o : Nat} (h : o + t.length ≤ x.length) (p : Nat) : (spl x o t)[p]? = if o ≤ p ∧ p < o + t.length then t[p - o]? else x[p]? := by
 unfold spl
 have h0 : (x.take o).length = o := by rw [List.length_take]; omega
 by_cases h1 : p < o
 · rw [if_neg (by omega), List.append_assoc, List.getElem?_append_left (by omega), List.getElem?_take_of_lt h1]
 · by_cases h2 : p < o + t.length
   · rw [if_pos ⟨by omega, h2⟩, List.getElem?_append_left (by rw [List.length_append]; omega), List.getElem?_append_right (by omega), h0]
   · rw [if_neg (by omega), List.getElem?_append_right (by rw [List.length_append]; omega), List.length_append, h0, List.getElem?_drop]
     congr 1
     omega
theorem byte_put {ss : Segs} {i a : Nat} {t : List UInt8} (hi : i < ss.length) (ha : 8 * a + t.length ≤ (sgS ss i).length) (j p : Nat) : byteS (putS ss i a t) j p = if j = i ∧ 8 * a ≤ p ∧ p < 8 * a + t.length then t[p - 8 * a]? else byteS ss j p := by
 unfold byteS putS
 rw [sgS_set hi]
 by_cases e : j = i
 · subst e
   rw [if_pos rfl, spl_byte ha]
   by_cases h : 8 * a ≤ p ∧ p < 8 * a + t.length
   · rw [if_pos h, if_pos ⟨rfl, h⟩]
   · rw [if_neg h, if_neg (fun x => h x.2)]
 · rw [if_neg e, if_neg (fun x => e x.1)]
theorem put_has {ss : Segs} {i a : Nat} {t : List UInt8} (hi : i < ss.length) (ha : 8 * a + t.length ≤ (sgS ss i).length) : HasT (putS ss i a t) i (8 * a) t := fun q hq => by
 rw [byte_put hi ha, if_pos ⟨rfl, by omega, by omega⟩]
 congr 1
 omega
theorem byte_grow {ss : Segs} {i k : Nat} (hi : i < ss.length) {j p : Nat} (hp : p < (sgS ss j).length) : byteS (growB ss i k) j p = byteS ss j p := by
 unfold byteS
 rw [sgS_grow hi]
 split
 · rename_i e; subst e; rw [List.getElem?_append_left hp]
 · rfl
theorem byte_app {ss : Segs} {j p : Nat} (hp : p < (sgS ss j).length) : byteS (ss ++ [[]]) j p = byteS ss j p := by
 unfold byteS
 rw [sgS_app]
 split
 · rename_i e; subst e; rw [sgS_out (Nat.le_refl _)] at hp; cases hp
 · rfl
def Kept (ss s1 : Segs) (i a n : Nat) : Prop := ∀ j p, p < (sgS ss j).length → ¬ (j = i ∧ 8 * a ≤ p ∧ p < 8 * (a + n)) → byteS s1 j p = byteS ss j p
def Same (ss s1 s2 : Segs) (i a n : Nat) : Prop := ∀ j p, ((j = i ∧ 8 * a ≤ p ∧ p < 8 * (a + n)) ∨ (sgS ss j).length ≤ p ∧ p < (sgS s1 j).length) → byteS s2 j p = byteS s1 j p
def BodyR (R : Nd → Nat → Nat → Prop) (s : Segs) (n : Nd) (j c : Nat) : Prop := HasT s j (8 * c) n.data.data.toList ∧ ∀ k (h : k < n.ptrs.length), R n.ptrs[k] j (c + (n.data.size + 7) / 8 + k)
def FillR (R : Nd → Nat → Nat → Prop) (s : Segs) (n : Nd) (j c : Nat) : Prop :=
 if n.kind = 2 ∧ n.size = 7 then HasT s j (8 * c) (tagW n) ∧ ∀ k (h : k < n.items.length), BodyR R s n.items[k] j (c + 1 + k * (itD n + itP n)) else BodyR R s n j c
def RepN (s : Segs) : Nat → Nd → Nat → Nat → Prop
 | 0, n, i, a => n.kind = 0 ∧ HasT s i (8 * a) (zer 1)
 | d + 1, n, i, a => (n.kind = 0 ∧ HasT s i (8 * a) (zer 1)) ∨ (n.kind ≠ 0 ∧ ownN n = 0 ∧ HasT s i (8 * a) (ptrW n (if n.kind = 1 then -1 else 0))) ∨
   (n.kind ≠ 0 ∧ ownN n ≠ 0 ∧ ∃ j c : Nat, ((j = i ∧ HasT s i (8 * a) (ptrW n ((c : Int) - a - 1))) ∨ ∃ pad : Nat, c = pad + 1 ∧ HasT s i (8 * a) (farW pad j) ∧ HasT s j (8 * pad) (ptrW n 0)) ∧ FillR (RepN s d) s n j c)
theorem Kept.refl (ss : Segs) (i a n : Nat) : Kept ss ss i a n := fun _ _ _ _ => rfl
theorem put_kept {ss : Segs} {i a n : Nat} {t : List UInt8} (hi : i < ss.length) (ha : 8 * a + t.length ≤ (sgS ss i).length) (ht : t.length ≤ 8 * n) : Kept ss (putS ss i a t) i a n := fun j p _ hn => by
 rw [byte_put hi ha, if_neg (fun h => hn ⟨h.1, h.2.1, by omega⟩)]
theorem HasT.cut {s : Segs} {j a m n k : Nat} (h : HasT s j (8 * a) (zer n)) (hk : k + m ≤ n) : HasT s j (8 * (a + k)) (zer m) := fun q hq => by
 rw [zer_length] at hq
 have := h (8 * k + q) (by rw [zer_length]; omega)
 rw [show 8 * (a + k) + q = 8 * a + (8 * k + q) by omega, this]
 unfold zer
 rw [List.getElem?_replicate, List.getElem?_replicate, if_pos (by omega), if_pos hq]
def WrRep (L : Nat) (wr : Wr) (Q : Nd → Prop) (R : Segs → Nd → Nat → Nat → Prop) : Prop := ∀ p ss i a s1, Q p → SOk L ss → i < ss.length → a < wn (sgS ss i) → HasT ss i (8 * a) (zer 1) → wr p ss i a = some s1 → Kept ss s1 i a 1 ∧ ∀ s2, Same ss s1 s2 i a 1 → R s2 p i a
theorem ptrs_rep {L : Nat} {wr : Wr} {Q : Nd → Prop} {R : Segs → Nd → Nat → Nat → Prop} (hw : WrOk L wr Q) (hr : WrRep L wr Q R) : ∀ (l : List Nd) (ss : Segs) (i a : Nat) (s1 : Segs), (∀ p ∈ l, Q p) → SOk L ss → i < ss.length → a + l.length ≤ wn (sgS ss i) → HasT ss i (8 * a) (zer l.length) → ptrsP wr l ss i a = some s1 → Kept ss s1 i a l.length ∧ ∀ s2, Same ss s1 s2 i a l.length → ∀ k (h : k < l.length), R s2 l[k] i (a + k)
 | [], ss, i, a, s1, _, hk, _, _, _, h => by
   injection h with h
   subst h
   exact ⟨Kept.refl _ _ _ _, fun s2 _ k hk => by cases hk⟩
 | p :: t, ss, i, a, s1, hq, hk, hi, ha, hz, h => by
   simp only [ptrsP, Option.bind_eq_some_iff] at h
   obtain ⟨s2, h1, h2⟩ := h
   simp only [List.length_cons] at ha hz
   obtain ⟨k2, g2⟩ := hw p ss i a s2 (hq p (List.mem_cons_self ..)) hk hi (by omega) h1
   obtain ⟨e1, r1⟩ := hr p ss i a s2 (hq p (List.mem_cons_self ..)) hk hi (by omega) (hz.cut (k := 0) (m := 1) (by omega)) h1
   have hi2 := Nat.lt_of_lt_of_le hi g2.1
   have hwi := wds_len hk.wds i
   have hz2 : HasT s2 i (8 * (a + 1)) (zer t.length) := (hz.cut (k := 1) (m := t.length) (by omega)).agree (fun q hq' => by
    rw [zer_length] at hq'
    exact e1 i _ (by omega) (fun h => by omega))
   have ha2 : a + 1 + t.length ≤ wn (sgS s2 i) := by have := g2.wn i; omega
   obtain ⟨e2, r2⟩ := ptrs_rep hw hr t s2 i (a + 1) s1 (fun q hm => hq q (List.mem_cons_of_mem _ hm)) k2 hi2 ha2 hz2 h2
   obtain ⟨k3, g3⟩ := ptrs_some hw t s2 i (a + 1) s1 (fun q hm => hq q (List.mem_cons_of_mem _ hm)) k2 hi2 ha2 h2
   refine ⟨fun j p hp hn => ?_, fun s3 h3 k hk3 => ?_⟩
   · rw [List.length_cons] at hn
     rw [e2 j p (Nat.lt_of_lt_of_le hp (g2.2 j)) (fun h => hn ⟨h.1, by omega, by omega⟩)]
     exact e1 j p hp (fun h => hn ⟨h.1, by omega, by omega⟩)
   · cases k with
     | zero =>
      refine r1 s3 (fun j p hjp => ?_)
      have hold : byteS s1 j p = byteS s2 j p := e2 j p (by
       rcases hjp with ⟨rfl, h4, h5⟩ | ⟨h4, h5⟩
       · have := g2.2 j; omega
       · exact h5) (fun h => by
       rcases hjp with ⟨_, h4, h5⟩ | ⟨h4, h5⟩
       · omega
       · have := h.1; subst this; omega)
      rw [← hold]
      refine h3 j p ?_
      rcases hjp with ⟨e, h4, h5⟩ | ⟨h4, h5⟩
      · exact .inl ⟨e, h4, by rw [List.length_cons]; omega⟩
      · exact .inr ⟨h4, Nat.lt_of_lt_of_le h5 (g3.2 j)⟩
     | succ k =>
      rw [List.length_cons] at hk3
      have := r2 s3 (fun j p hjp => h3 j p (by
       rcases hjp with ⟨e, h4, h5⟩ | ⟨h4, h5⟩
       · exact .inl ⟨e, by omega, by rw [List.length_cons]; omega⟩
       · exact .inr ⟨Nat.le_trans (g2.2 j) h4, h5⟩)) k (by omega)
      rw [show a + (k + 1) = a + 1 + k by omega]
      exact this
theorem body_rep {L : Nat} {wr : Wr} {Q : Nd → Prop} {R : Segs → Nd → Nat → Nat → Prop} (hw : WrOk L wr Q) (hr : WrRep L wr Q R) {n : Nd} {ss s1 : Segs} {i a : Nat} (hq : ∀ p ∈ n.ptrs, Q p) (hk : SOk L ss) (hi : i < ss.length) (ha : a + ownB n ≤ wn (sgS ss i)) (hz : HasT ss i (8 * a) (zer (ownB n))) (h : bodyP wr n ss i a = some s1) :
 Kept ss s1 i a (ownB n) ∧ ∀ s2, Same ss s1 s2 i a (ownB n) → BodyR (R s2) s2 n i a := by
 have hf := body_fits hk.wds ha
 have hal := put_alen hi hf
 have hwi := wds_len hk.wds i
 have hdl : n.data.data.toList.length = n.data.size := data_toList _
 obtain ⟨dw, hdw⟩ : ∃ dw, (n.data.size + 7) / 8 = dw := ⟨_, rfl⟩
 have hob : ownB n = dw + n.ptrs.length := by unfold ownB; rw [hdw]
 unfold bodyP at h
 rw [hdw] at h
 have hib := (hk.put hi hf)
 have hi1 : i < (putS ss i a n.data.data.toList).length := by rw [putS_length]; exact hi
 have ha1 : a + dw + n.ptrs.length ≤ wn (sgS (putS ss i a n.data.data.toList) i) := by rw [← hal.wn]; omega
 have hz1 : HasT (putS ss i a n.data.data.toList) i (8 * (a + dw)) (zer n.ptrs.length) := (hz.cut (k := dw) (m := n.ptrs.length) (by omega)).agree (fun q hq' => by
  rw [byte_put hi hf, if_neg (fun h => by omega)])
 obtain ⟨e1, r1⟩ := ptrs_rep hw hr n.ptrs _ i (a + dw) s1 hq hib hi1 ha1 hz1 h
 obtain ⟨k3, g3⟩ := ptrs_some hw n.ptrs _ i (a + dw) s1 hq hib hi1 ha1 h
 refine ⟨fun j p hp hn => ?_, fun s2 h2 => ⟨fun q hq' => ?_, fun k hk' => ?_⟩⟩
 · rw [e1 j p (by rw [← hal.2 j]; exact hp) (fun h => hn ⟨h.1, by omega, by omega⟩)]
   exact byte_put hi hf j p ▸ if_neg (fun h => hn ⟨h.1, h.2.1, by omega⟩)
 · have h3 := h2 i (8 * a + q) (.inl ⟨rfl, by omega, by omega⟩)
   rw [h3, e1 i (8 * a + q) (by rw [← hal.2 i]; omega) (fun h => by omega)]
   exact put_has hi hf q hq'
 · rw [hdw]
   exact r1 s2 (fun j p hjp => h2 j p (by
    rcases hjp with ⟨e, h4, h5⟩ | ⟨h4, h5⟩
    · exact .inl ⟨e, by omega, by omega⟩
    · exact .inr ⟨by rw [hal.2 j]; exact h4, h5⟩)) k hk'
theorem items_rep {L : Nat} {wr : Wr} {Q : Nd → Prop} {R : Segs → Nd → Nat → Nat → Prop} (hw : WrOk L wr Q) (hr : WrRep L wr Q R) (each : Nat) : ∀ (l : List Nd) (ss : Segs) (i a : Nat) (s1 : Segs), (∀ y ∈ l, ownB y = each ∧ ∀ p ∈ y.ptrs, Q p) → SOk L ss → i < ss.length → a + l.length * each ≤ wn (sgS ss i) → HasT ss i (8 * a) (zer (l.length * each)) → itemsP wr each l ss i a = some s1 →
 Kept ss s1 i a (l.length * each) ∧ ∀ s2, Same ss s1 s2 i a (l.length * each) → ∀ k (h : k < l.length), BodyR (R s2) s2 l[k] i (a + k * each)
 | [], ss, i, a, s1, _, hk, _, _, _, h => by
   injection h with h
   subst h
   exact ⟨Kept.refl _ _ _ _, fun s2 _ k hk => by cases hk⟩
 | y :: t, ss, i, a, s1, hq, hk, hi, ha, hz, h => by
   simp only [itemsP, Option.bind_eq_some_iff] at h
   obtain ⟨s2, h1, h2⟩ := h
   simp only [List.length_cons, Nat.add_mul, Nat.one_mul] at ha hz
   obtain ⟨hy, hyp⟩ := hq y (List.mem_cons_self ..)
   obtain ⟨k2, g2⟩ := body_some hw hyp hk hi (by rw [hy]; omega) h1
   obtain ⟨e1, r1⟩ := body_rep hw hr hyp hk hi (by rw [hy]; omega) (by rw [hy]; exact hz.cut (k := 0) (m := each) (by omega)) h1
   rw [hy] at e1 r1
   have hi2 := Nat.lt_of_lt_of_le hi g2.1
   have hwi := wds_len hk.wds i
   have hz2 : HasT s2 i (8 * (a + each)) (zer (t.length * each)) := (hz.cut (k := each) (m := t.length * each) (by omega)).agree (fun q hq' => by
    rw [zer_length] at hq'
    exact e1 i _ (by omega) (fun h => by omega))
   have ha2 : a + each + t.length * each ≤ wn (sgS s2 i) := by have := g2.wn i; omega
   obtain ⟨e2, r2⟩ := items_rep hw hr each t s2 i (a + each) s1 (fun q hm => hq q (List.mem_cons_of_mem _ hm)) k2 hi2 ha2 hz2 h2
   obtain ⟨k3, g3⟩ := items_some hw each t s2 i (a + each) s1 (fun q hm => hq q (List.mem_cons_of_mem _ hm)) k2 hi2 ha2 h2
   have hlen : (y :: t).length * each = t.length * each + each := by rw [List.length_cons, Nat.add_mul, Nat.one_mul]
   rw [hlen]
   refine ⟨fun j p hp hn => ?_, fun s3 h3 k hk3 => ?_⟩
   · rw [e2 j p (Nat.lt_of_lt_of_le hp (g2.2 j)) (fun h => hn ⟨h.1, by omega, by omega⟩)]
     exact e1 j p hp (fun h => hn ⟨h.1, by omega, by omega⟩)
   · cases k with
     | zero =>
      rw [Nat.zero_mul, Nat.add_zero]
      refine r1 s3 (fun j p hjp => ?_)
      have hold : byteS s1 j p = byteS s2 j p := e2 j p (by
       rcases hjp with ⟨rfl, h4, h5⟩ | ⟨h4, h5⟩
       · have := g2.2 j; omega
       · exact h5) (fun h => by
       rcases hjp with ⟨_, h4, h5⟩ | ⟨h4, h5⟩
       · omega
       · have := h.1; subst this; omega)
      rw [← hold]
      refine h3 j p ?_
      rcases hjp with ⟨e, h4, h5⟩ | ⟨h4, h5⟩
      · exact .inl ⟨e, h4, by omega⟩
      · exact .inr ⟨h4, Nat.lt_of_lt_of_le h5 (g3.2 j)⟩
     | succ k =>
      rw [List.length_cons] at hk3
      have := r2 s3 (fun j p hjp => h3 j p (by
       rcases hjp with ⟨e, h4, h5⟩ | ⟨h4, h5⟩
       · exact .inl ⟨e, by omega, by omega⟩
       · exact .inr ⟨Nat.le_trans (g2.2 j) h4, h5⟩)) k (by omega)
      rw [show a + (k + 1) * each = a + each + k * each by rw [Nat.add_mul, Nat.one_mul]; omega]
      exact this
theorem fill_rep {L : Nat} {wr : Wr} {Q : Nd → Prop} {R : Segs → Nd → Nat → Nat → Prop} (hw : WrOk L wr Q) (hr : WrRep L wr Q R) {n : Nd} {ss s1 : Segs} {i a : Nat} (hf : formN n = true) (hq : ∀ p ∈ ptrsL n, Q p) (hk : SOk L ss) (hi : i < ss.length) (ha : a + ownN n ≤ wn (sgS ss i)) (hz : HasT ss i (8 * a) (zer (ownN n))) (h : fillP wr n ss i a = some s1) :
 Kept ss s1 i a (ownN n) ∧ ∀ s2, Same ss s1 s2 i a (ownN n) → FillR (R s2) s2 n i a := by
 unfold fillP at h
 by_cases hm : n.kind = 2 ∧ n.size = 7
 · rw [if_pos hm] at h
   obtain ⟨g1, g2, g3⟩ := own_many hf hm
   have hwi := wds_len hk.wds i
   have hp : 8 * a + (tagW n).length ≤ (sgS ss i).length := by rw [tagW_length]; omega
   have hal := put_alen hi hp
   have htl := tagW_length n
   have hz1 : HasT (putS ss i a (tagW n)) i (8 * (a + 1)) (zer (n.items.length * (itD n + itP n))) := (hz.cut (k := 1) (m := n.items.length * (itD n + itP n)) (by omega)).agree (fun q hq' => by
    rw [byte_put hi hp, if_neg (fun h => by omega)])
   have hqi : ∀ y ∈ n.items, ownB y = itD n + itP n ∧ ∀ p ∈ y.ptrs, Q p := fun y hy => ⟨item_own g1 y hy, fun p hp => hq p (List.mem_append_right _ (List.mem_flatMap.2 ⟨y, hy, hp⟩))⟩
   obtain ⟨e1, r1⟩ := items_rep hw hr (itD n + itP n) n.items _ i (a + 1) s1 hqi (hk.put hi hp) (by rw [putS_length]; exact hi) (by rw [← hal.wn]; omega) hz1 h
   refine ⟨fun j p hpl hn => ?_, fun s2 h2 => ?_⟩
   · rw [e1 j p (by rw [← hal.2 j]; exact hpl) (fun h => hn ⟨h.1, by omega, by omega⟩)]
     exact byte_put hi hp j p ▸ if_neg (fun h => hn ⟨h.1, h.2.1, by omega⟩)
   · unfold FillR
     rw [if_pos hm]
     refine ⟨fun q hq' => ?_, fun k hk' => ?_⟩
     · have h3 := h2 i (8 * a + q) (.inl ⟨rfl, by omega, by omega⟩)
       rw [h3, e1 i (8 * a + q) (by rw [← hal.2 i]; omega) (fun h => by omega)]
       exact put_has hi hp q hq'
     · exact r1 s2 (fun j p hjp => h2 j p (by
        rcases hjp with ⟨e, h4, h5⟩ | ⟨h4, h5⟩
        · exact .inl ⟨e, by omega, by omega⟩
        · exact .inr ⟨by rw [hal.2 j]; exact h4, h5⟩)) k hk'
 · rw [if_neg hm] at h
   obtain ⟨g1, g2⟩ := own_plain hf hm
   rw [g1] at ha hz ⊢
   obtain ⟨e1, r1⟩ := body_rep hw hr (fun p hp => hq p (List.mem_append_left _ hp)) hk hi ha hz h
   exact ⟨e1, fun s2 h2 => by unfold FillR; rw [if_neg hm]; exact r1 s2 h2⟩
end Go.Proofs.YtlbfffokkhccaaaGreatDoor
