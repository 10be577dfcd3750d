/- Texts of the proof of the law FnReadTwo, side by side: part 7. -/
import Derived.Test.YtlbfffokkhccaaaGreatDoorMReadTwo06
namespace Go.Proofs.YtlbfffokkhccaaaGreatDoor
def OneW (L size : Nat) (wr : Wr) (Q : Nd → Prop) (f : Nd → Nat) : Prop := ∀ p s a, Q p → s.length % 8 = 0 → a < wn s → wn s + f p ≤ size → wn s + f p ≤ L → ∃ s1, wr p [s] 0 a = some [s1] ∧ s1.length = s.length + 8 * f p
theorem ptrs_one {L size : Nat} {wr : Wr} {Q : Nd → Prop} {f : Nd → Nat} (hw : OneW L size wr Q f) : ∀ (l : List Nd) (s : List UInt8) (a : Nat), (∀ p ∈ l, Q p) → s.length % 8 = 0 → a + l.length ≤ wn s → wn s + (l.map f).sum ≤ size → wn s + (l.map f).sum ≤ L → ∃ s1, ptrsP wr l [s] 0 a = some [s1] ∧ s1.length = s.length + 8 * (l.map f).sum
 | [], s, a, _, _, _, _, _ => ⟨s, rfl, by simp⟩
 | p :: t, s, a, hq, h8, ha, h1, h2 => by
   simp only [List.length_cons] at ha
   simp only [List.map_cons, List.sum_cons] at h1 h2 ⊢
   obtain ⟨s1, e1, l1⟩ := hw p s a (hq p (List.mem_cons_self ..)) h8 (by omega) (by omega) (by omega)
   have e : wn s1 = wn s + f p := by unfold wn; omega
   obtain ⟨s2, e2, l2⟩ := ptrs_one hw t s1 (a + 1) (fun q hm => hq q (List.mem_cons_of_mem _ hm)) (by omega) (by omega) (by omega) (by omega)
   exact ⟨s2, by simp only [ptrsP, e1, Option.bind_some]; exact e2, by omega⟩
theorem put_one (s t : List UInt8) (a : Nat) : putS [s] 0 a t = [spl s (8 * a) t] := rfl
theorem body_one {L size : Nat} {wr : Wr} {Q : Nd → Prop} {f : Nd → Nat} (hw : OneW L size wr Q f) {n : Nd} {s : List UInt8} {a : Nat} (hq : ∀ p ∈ n.ptrs, Q p) (h8 : s.length % 8 = 0) (ha : a + ownB n ≤ wn s) (h1 : wn s + (n.ptrs.map f).sum ≤ size) (h2 : wn s + (n.ptrs.map f).sum ≤ L) : ∃ s1, bodyP wr n [s] 0 a = some [s1] ∧ s1.length = s.length + 8 * (n.ptrs.map f).sum := by
 unfold bodyP
 rw [put_one]
 have hl : (spl s (8 * a) n.data.data.toList).length = s.length := spl_length (by have h8 := wds_len (ss := [s]) (fun i => by cases i with | zero => exact h8 | succ i => rfl) 0; rw [data_toList]; unfold ownB at ha; have : sgS [s] 0 = s := rfl; rw [this] at h8; omega)
 have hwn : wn (spl s (8 * a) n.data.data.toList) = wn s := by unfold wn; rw [hl]
 obtain ⟨s1, e1, l1⟩ := ptrs_one hw n.ptrs (spl s (8 * a) n.data.data.toList) (a + (n.data.size + 7) / 8) hq (by omega) (by rw [hwn]; unfold ownB at ha; omega) (by omega) (by omega)
 rw [hl] at l1
 exact ⟨s1, e1, l1⟩
theorem items_one {L size : Nat} {wr : Wr} {Q : Nd → Prop} {f : Nd → Nat} (hw : OneW L size wr Q f) (each : Nat) : ∀ (l : List Nd) (s : List UInt8) (a : Nat), (∀ y ∈ l, ownB y = each ∧ ∀ p ∈ y.ptrs, Q p) → s.length % 8 = 0 → a + l.length * each ≤ wn s → wn s + (l.map fun y => (y.ptrs.map f).sum).sum ≤ size → wn s + (l.map fun y => (y.ptrs.map f).sum).sum ≤ L → ∃ s1, itemsP wr each l [s] 0 a = some [s1] ∧ s1.length = s.length + 8 * (l.map fun y => (y.ptrs.map f).sum).sum
 | [], s, a, _, _, _, _, _ => ⟨s, rfl, by simp⟩
 | y :: t, s, a, hq, h8, ha, h1, h2 => by
   simp only [List.length_cons, Nat.add_mul, Nat.one_mul] at ha
   simp only [List.map_cons, List.sum_cons] at h1 h2 ⊢
   obtain ⟨hy, hyp⟩ := hq y (List.mem_cons_self ..)
   obtain ⟨s1, e1, l1⟩ := body_one (a := a) hw hyp h8 (by rw [hy]; omega) (show wn s + (y.ptrs.map f).sum ≤ size by omega) (show wn s + (y.ptrs.map f).sum ≤ L by omega)
   have e : wn s1 = wn s + (y.ptrs.map f).sum := by unfold wn; omega
   obtain ⟨s2, e2, l2⟩ := items_one hw each t s1 (a + each) (fun q hm => hq q (List.mem_cons_of_mem _ hm)) (by omega) (by omega) (by omega) (by omega)
   exact ⟨s2, by simp only [itemsP, e1, Option.bind_some]; exact e2, by omega⟩
theorem fill_one {L size : Nat} {wr : Wr} {Q : Nd → Prop} {f : Nd → Nat} (hw : OneW L size wr Q f) {n : Nd} {s : List UInt8} {a : Nat} (hf : formN n = true) (hq : ∀ p ∈ ptrsL n, Q p) (h8 : s.length % 8 = 0) (ha : a + ownN n ≤ wn s) (h1 : wn s + ((ptrsL n).map f).sum ≤ size) (h2 : wn s + ((ptrsL n).map f).sum ≤ L) : ∃ s1, fillP wr n [s] 0 a = some [s1] ∧ s1.length = s.length + 8 * ((ptrsL n).map f).sum := by
 have hsum : ((ptrsL n).map f).sum = (n.ptrs.map f).sum + (n.items.map fun y => (y.ptrs.map f).sum).sum := by unfold ptrsL; rw [List.map_append, List.sum_append, flat_sum]
 unfold fillP
 split
 · rename_i hm
   obtain ⟨g1, g2, g3⟩ := own_many hf hm
   have e0 : (n.ptrs.map f).sum = 0 := by rw [g3]; rfl
   rw [put_one]
   have hl : (spl s (8 * a) (tagW n)).length = s.length := spl_length (by rw [tagW_length]; unfold wn at ha; omega)
   have hwn : wn (spl s (8 * a) (tagW n)) = wn s := by unfold wn; rw [hl]
   obtain ⟨s1, e1, l1⟩ := items_one hw (itD n + itP n) n.items (spl s (8 * a) (tagW n)) (a + 1) (fun y hy => ⟨item_own g1 y hy, fun p hp => hq p (List.mem_append_right _ (List.mem_flatMap.2 ⟨y, hy, hp⟩))⟩) (by omega) (by omega) (by omega) (by omega)
   exact ⟨s1, e1, by omega⟩
 · rename_i hm
   obtain ⟨g1, g2⟩ := own_plain hf hm
   have e0 : (n.items.map fun y => (y.ptrs.map f).sum).sum = 0 := by rw [g2]; rfl
   obtain ⟨s1, e1, l1⟩ := body_one (a := a) hw (fun p hp => hq p (List.mem_append_left _ hp)) h8 (by omega) (show wn s + (n.ptrs.map f).sum ≤ size by omega) (show wn s + (n.ptrs.map f).sum ≤ L by omega)
   exact ⟨s1, e1, by omega⟩
theorem own_none {n : Nd} (hf : formN n = true) (ho : ownN n = 0) : ptrsL n = [] := by
 by_cases hm : n.kind = 2 ∧ n.size = 7
 · have := (own_many hf hm).2.1; omega
 · obtain ⟨g1, g2⟩ := own_plain hf hm
   have : n.ptrs.length = 0 := by unfold ownB at g1; omega
   unfold ptrsL
   rw [g2, List.eq_nil_of_length_eq_zero this]
   rfl
theorem wr_one (L size : Nat) : ∀ d, OneW L size (wrP L size d) (fun n => okN d n = true) (wordsN d)
 | 0 => fun p s a _ _ _ _ _ => ⟨s, rfl, rfl⟩
 | d + 1 => fun n s a hn h8 ha h1 h2 => by
   have hf := ok_formN hn
   simp only [wrP]
   split
   · rename_i hk0
     exact ⟨s, rfl, by rw [(none_words (d := d + 1) hf hk0).2]; rfl⟩
   · rename_i hk0
     have e3 : wordsN (d + 1) n = ownN n + ((ptrsL n).map (wordsN d)).sum := rfl
     split
     · rename_i hp
       refine ⟨_, by rw [put_one], ?_⟩
       rw [spl_length (by rw [ptrW_length]; unfold wn at ha; omega), e3, hp, own_none hf hp]
       rfl
     · rename_i hp
       have hr : roomP L size n [s] 0 a = some ([spl (s ++ zer (ownN n)) (8 * a) (ptrW n ((wn s : Int) - a - 1))], 0, wn s) := by
        unfold roomP
        have hs : sgS [s] 0 = s := rfl
        have ht : totS [s] = wn s := by simp [totS]
        rw [hs, ht, if_pos (by omega), if_pos (by omega)]
        rfl
       rw [hr, Option.bind_some]
       have hl : (spl (s ++ zer (ownN n)) (8 * a) (ptrW n ((wn s : Int) - a - 1))).length = s.length + 8 * ownN n := by
        rw [spl_length (by rw [ptrW_length, List.length_append]; unfold wn at ha; omega), List.length_append, zer_length]
       have hwn : wn (spl (s ++ zer (ownN n)) (8 * a) (ptrW n ((wn s : Int) - a - 1))) = wn s + ownN n := by unfold wn at hl ⊢; rw [hl]; omega
       obtain ⟨s1, g1, g2⟩ := fill_one (wr_one L size d) hf (ok_within hn hk0) (s := spl (s ++ zer (ownN n)) (8 * a) (ptrW n ((wn s : Int) - a - 1))) (a := wn s) (by omega) (by omega) (by omega) (by omega)
       exact ⟨s1, g1, by omega⟩
theorem build_one {n : Nd} {size : Nat} (h : nodeOk n = true) (hs : nodeWords n + 1 ≤ size) : ∃ s, buildP 200 size n = some [s] ∧ s.length = 8 * (nodeWords n + 1) := by
 obtain ⟨h1, h2⟩ := node_ok h
 have e : nodeWords n = wordsN 8 n := by unfold nodeWords; rw [if_pos h]
 rw [e] at hs ⊢
 obtain ⟨s, g1, g2⟩ := wr_one 200 size 8 n (zer 1) 0 h1 (by decide) (by decide) (by rw [show wn (zer 1) = 1 by decide]; omega) (by rw [show wn (zer 1) = 1 by decide]; omega)
 exact ⟨s, g1, by rw [g2, zer_length]; omega⟩
end Go.Proofs.YtlbfffokkhccaaaGreatDoor
namespace Go.Proofs.YtlbfffokkhccaaaGreatDoor
def PtrR (s : Segs) (n : Nd) (i a j c : Nat) : Prop := (j = i ∧ HasT s i (8 * a) (ptrW n ((c : Int) - a - 1))) ∨ ∃ pad : Nat, c = pad + 1 ∧ HasT s i (8 * a) (farW pad j) ∧ HasT s j (8 * pad) (ptrW n 0)
theorem grow_zero {ss : Segs} {i k : Nat} (hi : i < ss.length) (hw : WdS ss) : HasT (growB ss i k) i (8 * wn (sgS ss i)) (zer k) := fun q hq => by
 unfold byteS
 have := wds_len hw i
 rw [sgS_grow hi, if_pos rfl, List.getElem?_append_right (by omega)]
 congr 1
 omega
theorem room_rep {L size : Nat} {n : Nd} {ss s1 : Segs} {i a j c : Nat} (hk : SOk L ss) (hi : i < ss.length) (ha : a < wn (sgS ss i)) (h : roomP L size n ss i a = some (s1, j, c)) :
 Kept ss s1 i a 1 ∧ HasT s1 j (8 * c) (zer (ownN n)) ∧ (sgS ss j).length ≤ 8 * c ∧
 ∀ s2, (∀ j' p, ((j' = i ∧ 8 * a ≤ p ∧ p < 8 * a + 8) ∨ (j' = j ∧ (sgS ss j).length ≤ p ∧ p < 8 * c)) → byteS s2 j' p = byteS s1 j' p) → PtrR s2 n i a j c := by
 have hwi := wds_len hk.wds i
 unfold roomP at h
 split at h
 · split at h
   · rename_i ht
     injection h with h
     injection h with h1 h2
     injection h2 with h2 h3
     subst h1 h2 h3
     have hg := hk.grow hi ht
     have hi' : i < (growB ss i (ownN n)).length := by rw [growB_length]; exact hi
     have hr := room8 (k := 1) hg.wds (i := i) (a := a) (by rw [wn_grow hi]; omega)
     have hp : 8 * a + (ptrW n ((wn (sgS ss i) : Int) - a - 1)).length ≤ (sgS (growB ss i (ownN n)) i).length := by rw [ptrW_length]; omega
     have hpl := ptrW_length n ((wn (sgS ss i) : Int) - a - 1)
     refine ⟨fun j p hpl' hn => ?_, (grow_zero hi hk.wds).agree (fun q hq => ?_), by omega, fun s2 h2 => .inl ⟨rfl, (put_has hi' hp).agree (fun q hq => ?_)⟩⟩
     · rw [byte_put hi' hp, if_neg (fun h => hn ⟨h.1, by omega, by omega⟩)]
       exact byte_grow hi hpl'
     · rw [byte_put hi' hp, if_neg (fun h => by omega)]
     · exact h2 i _ (.inl ⟨rfl, by omega, by omega⟩)
   · cases h
 · split at h
   · cases h
   · rename_i s0 j0 ho
     obtain ⟨h1, h2, h3⟩ := other_some hk ho
     have h0 : ∀ j p, p < (sgS ss j).length → byteS s0 j p = byteS ss j p := by
      unfold otherP at ho
      split at ho
      · injection ho with ho; injection ho with e; intro j p _; rw [e]
      · split at ho
        · injection ho with ho; injection ho with e; intro j p hp; rw [← e]; exact byte_app hp
        · cases ho
     split at h
     · rename_i ht
       injection h with h
       injection h with e1 e2
       injection e2 with e2 e3
       subst e1 e2 e3
       have hg := h1.grow h3 ht
       have hi' : i < (growB s0 j0 (1 + ownN n)).length := by rw [growB_length]; exact Nat.lt_of_lt_of_le hi h2.1
       have hai : a < wn (sgS (growB s0 j0 (1 + ownN n)) i) := Nat.lt_of_lt_of_le ha ((h2.trans (grow_grew h3)).wn i)
       have hr := room8 (k := 1) hg.wds (i := i) (a := a) (by omega)
       have hfl := farW_length (wn (sgS s0 j0)) j0
       have hpl := ptrW_length n 0
       have hp : 8 * a + (farW (wn (sgS s0 j0)) j0).length ≤ (sgS (growB s0 j0 (1 + ownN n)) i).length := by omega
       have hg2 := hg.put hi' hp
       have hwj : wn (sgS (putS (growB s0 j0 (1 + ownN n)) i a (farW (wn (sgS s0 j0)) j0)) j0) = wn (sgS s0 j0) + (1 + ownN n) := by rw [← (put_alen hi' hp).wn, wn_grow h3]
       have hj2 : j0 < (putS (growB s0 j0 (1 + ownN n)) i a (farW (wn (sgS s0 j0)) j0)).length := by rw [putS_length, growB_length]; exact h3
       have hr2 := room8 (k := 1) hg2.wds (i := j0) (a := wn (sgS s0 j0)) (by omega)
       have hp2 : 8 * wn (sgS s0 j0) + (ptrW n 0).length ≤ (sgS (putS (growB s0 j0 (1 + ownN n)) i a (farW (wn (sgS s0 j0)) j0)) j0).length := by omega
       have hwj0 := wds_len h1.wds j0
       have hgj := h2.2 j0
       have hgi := h2.2 i
       refine ⟨fun j p hp' hn => ?_, ((grow_zero (k := 1 + ownN n) h3 h1.wds).cut (k := 1) (m := ownN n) (by omega)).agree (fun q hq => ?_), by omega, fun s2 h2' => .inr ⟨wn (sgS s0 j0), rfl, fun q hq => ?_, fun q hq => ?_⟩⟩
       · have hgp := h2.2 j
         rw [byte_put hj2 hp2, if_neg (fun h => by have e := h.1; subst e; omega), byte_put hi' hp, if_neg (fun h => hn ⟨h.1, by omega, by omega⟩), byte_grow h3 (by omega)]
         exact h0 j p hp'
       · rw [zer_length] at hq
         rw [byte_put hj2 hp2, if_neg (fun h => by omega), byte_put hi' hp, if_neg (fun h => by have e := h.1; subst e; omega)]
       · rw [h2' i (8 * a + q) (.inl ⟨rfl, by omega, by omega⟩), byte_put hj2 hp2, if_neg (fun h => by have e := h.1; subst e; omega)]
         exact put_has hi' hp q hq
       · rw [h2' j0 (8 * wn (sgS s0 j0) + q) (.inr ⟨rfl, by omega, by omega⟩)]
         exact put_has hj2 hp2 q hq
     · cases h
theorem wr_rep (L size : Nat) : ∀ d, WrRep L (wrP L size d) (fun n => okN d n = true) (fun s n i a => RepN s d n i a)
 | 0 => fun p ss i a s1 hn hk hi ha hz h => by
   simp only [wrP] at h
   injection h with h
   subst h
   have hk0 : p.kind = 0 := by simp only [okN, Bool.and_eq_true, decide_eq_true_eq] at hn; exact hn.2
   refine ⟨Kept.refl _ _ _ _, fun s2 h2 => ⟨hk0, hz.agree (fun q hq => ?_)⟩⟩
   rw [zer_length] at hq
   exact h2 i _ (.inl ⟨rfl, by omega, by omega⟩)
 | d + 1 => fun n ss i a s1 hn hk hi ha hz h => by
   have hf := ok_formN hn
   have hwi := wds_len hk.wds i
   simp only [wrP] at h
   by_cases hk0 : n.kind = 0
   · rw [if_pos hk0] at h
     injection h with h
     subst h
     refine ⟨Kept.refl _ _ _ _, fun s2 h2 => .inl ⟨hk0, hz.agree (fun q hq => ?_)⟩⟩
     rw [zer_length] at hq
     exact h2 i _ (.inl ⟨rfl, by omega, by omega⟩)
   · rw [if_neg hk0] at h
     by_cases hp : ownN n = 0
     · rw [if_pos hp] at h
       injection h with h
       subst h
       have hpl := ptrW_length n (if n.kind = 1 then -1 else 0)
       have hl : 8 * a + (ptrW n (if n.kind = 1 then -1 else 0)).length ≤ (sgS ss i).length := by omega
       refine ⟨put_kept hi hl (by omega), fun s2 h2 => .inr (.inl ⟨hk0, hp, (put_has hi hl).agree (fun q hq => h2 i _ (.inl ⟨rfl, by omega, by omega⟩))⟩)⟩
     · rw [if_neg hp, Option.bind_eq_some_iff] at h
       obtain ⟨⟨s2, j, c⟩, h1, h2⟩ := h
       obtain ⟨k2, g2, hj, hc⟩ := room_some hk hi ha h1
       obtain ⟨r1, r2, r3, r4⟩ := room_rep hk hi ha h1
       obtain ⟨e1, e2⟩ := fill_rep (wr_some L size d) (wr_rep L size d) hf (ok_within hn hk0) k2 hj hc r2 h2
       obtain ⟨k3, g3⟩ := fill_some (wr_some L size d) hf (ok_within hn hk0) k2 hj hc h2
       have hcl := wds_len k2.wds j
       refine ⟨fun j' p hp' hn' => ?_, fun s3 h3 => .inr (.inr ⟨hk0, hp, j, c, r4 s3 (fun j' p hjp => ?_), e2 s3 (fun j' p hjp => h3 j' p ?_)⟩)⟩
       · rw [e1 j' p (Nat.lt_of_lt_of_le hp' (g2.2 j')) (fun h => by have e := h.1; subst e; omega)]
         exact r1 j' p hp' hn'
       · have hg2j := g2.2 j'
         have hg3j := g3.2 j'
         have hs : byteS s3 j' p = byteS s1 j' p := h3 j' p (by
          rcases hjp with ⟨e, h4, h5⟩ | ⟨e, h4, h5⟩
          · exact .inl ⟨e, h4, by omega⟩
          · subst e; exact .inr ⟨h4, by omega⟩)
         rw [hs]
         exact e1 j' p (by
          rcases hjp with ⟨e, h4, h5⟩ | ⟨e, h4, h5⟩
          · subst e; omega
          · subst e; omega) (fun h => by
          rcases hjp with ⟨e, h4, h5⟩ | ⟨e, h4, h5⟩
          · have e' := h.1; subst e; subst e'; omega
          · omega)
       · have hg2j := g2.2 j'
         have hg3j := g3.2 j'
         rcases hjp with ⟨e, h4, h5⟩ | ⟨h4, h5⟩
         · subst e; exact .inr ⟨by omega, by omega⟩
         · exact .inr ⟨by omega, h5⟩
theorem build_rep {L size : Nat} {n : Nd} {ss : Segs} (hL : 1 ≤ L) (hok : okN 8 n = true) (h : buildP L size n = some ss) : RepN ss 8 n 0 0 :=
 (wr_rep L size 8 n [zer 1] 0 0 ss hok (SOKL L hL) (by decide) (by decide) (fun q hq => by
  rw [zer_length] at hq
  have : ∀ q, q < 8 * 1 → byteS [zer 1] 0 (8 * 0 + q) = (zer 1)[q]? := by decide
  exact this q hq) h).2 ss (fun _ _ _ => rfl)
end Go.Proofs.YtlbfffokkhccaaaGreatDoor
namespace Go.Proofs.YtlbfffokkhccaaaGreatDoor
def loP (n : Nd) (off : Int) : Int := if n.kind = 1 then offN off else offN off + 1
def hiP (n : Nd) : Int := if n.kind = 1 then (n.data.size / 8 : Nat) + 65536 * (n.ptrs.length : Int) else if n.size = 7 then ((ownN n : Int) - 1) * 8 + 7 else n.count * 8 + n.size
theorem ptrW_two (n : Nd) (off : Int) : ptrW n off = w8 (loP n off) (hiP n) := by
 unfold ptrW loP hiP
 split
 · rfl
 · split <;> rfl
structure PtOk (n : Nd) : Prop where
 data : n.data.size ≤ 2400
 ptrs : n.ptrs.length ≤ 300
 kind : n.kind = 1 ∨ n.kind = 2
 size : n.kind = 2 → 0 ≤ n.size ∧ n.size ≤ 7 ∧ 0 ≤ n.count ∧ n.count < 12801
 own : n.kind = 2 → n.size = 7 → 1 ≤ ownN n ∧ ownN n ≤ 300
theorem PtOk.bd {n : Nd} (h : PtOk n) (off : Int) : (0 ≤ loP n off ∧ loP n off < 4294967296) ∧ (0 ≤ hiP n ∧ hiP n < 4294967296) := by
 have h1 := h.data
 have h2 := h.ptrs
 have h3 := offN_bd off
 refine ⟨?_, ?_⟩
 · unfold loP offN at *; split <;> omega
 · unfold hiP
   rcases h.kind with k | k
   · rw [if_pos k]; omega
   · have hs := h.size k
     rw [if_neg (by omega)]
     split
     · rename_i e; have := h.own k e; omega
     · omega
end Go.Proofs.YtlbfffokkhccaaaGreatDoor
namespace Go.Proofs.YtlbfffokkhccaaaGreatDoor
theorem HasT.le {s : Segs} {j p : Nat} {t : List UInt8} (h : HasT s j p t) (ht : 1 ≤ t.length) : p + t.length ≤ (sgS s j).length := by
 have h1 := h (t.length - 1) (by omega)
 have h2 : t[t.length - 1]? = some t[t.length - 1] := List.getElem?_eq_getElem (by omega)
 rw [h2] at h1
 unfold byteS at h1
 obtain ⟨h3, -⟩ := List.getElem?_eq_some_iff.1 h1
 omega
theorem RepN.le {s : Segs} : ∀ {d : Nat} {n : Nd} {i a : Nat}, RepN s d n i a → 8 * a + 8 ≤ (sgS s i).length
 | 0, n, i, a, h => by have := h.2.le (by rw [zer_length]; omega); rw [zer_length] at this; omega
 | d + 1, n, i, a, h => by
   rcases h with ⟨_, h⟩ | ⟨_, _, h⟩ | ⟨_, _, j, c, h, _⟩
   · have := h.le (by rw [zer_length]; omega); rw [zer_length] at this; omega
   · have := h.le (by rw [ptrW_length]; omega); rw [ptrW_length] at this; omega
   · rcases h with ⟨_, h⟩ | ⟨pad, _, h, _⟩
     · have := h.le (by rw [ptrW_length]; omega); rw [ptrW_length] at this; omega
     · have := h.le (by rw [farW_length]; omega); rw [farW_length] at this; omega
theorem body_le {s : Segs} {d : Nat} {n : Nd} {j c : Nat} (h : BodyR (RepN s d) s n j c) (ho : ownB n ≠ 0) : 8 * c < (sgS s j).length := by
 obtain ⟨h1, h2⟩ := h
 unfold ownB at ho
 by_cases hd : n.data.size = 0
 · have hp : 0 < n.ptrs.length := by omega
   have := (h2 0 hp).le
   rw [hd] at this
   omega
 · have hl := data_toList n.data
   have := h1.le (by omega)
   omega
theorem fill_le {s : Segs} {d : Nat} {n : Nd} {j c : Nat} (hf : formN n = true) (h : FillR (RepN s d) s n j c) (ho : ownN n ≠ 0) : 8 * c < (sgS s j).length := by
 unfold FillR at h
 split at h
 · have := h.1.le (by rw [tagW_length]; omega)
   rw [tagW_length] at this
   omega
 · rename_i hm
   exact body_le h (by rw [← (own_plain hf hm).1]; exact ho)
end Go.Proofs.YtlbfffokkhccaaaGreatDoor
namespace Go.Proofs.YtlbfffokkhccaaaGreatDoor
open Go.RowKit
theorem bits_rest {d : ByteArray} {b : Int} (_h0 : 0 ≤ b) (hs : (d.size : Int) = (b + 7) / 8) (h8 : b % 8 = 0) : bitsB d b = true := by simp [bitsB, hs, h8]
theorem div_pow (x r : Nat) : ((x : Int) / (2 : Int) ^ r == 0) = decide (x < 2 ^ r) := by
 have h : (2 : Int) ^ r = ((2 ^ r : Nat) : Int) := by simp
 have hp : 0 < 2 ^ r := Nat.two_pow_pos r
 rw [h, Bool.eq_iff_iff]
 generalize 2 ^ r = p at *
 rw [← Int.natCast_ediv]
 simp only [beq_iff_eq, decide_eq_true_eq]
 have := Nat.div_eq_zero_iff (a := x) (b := p)
 omega
set_option maxHeartbeats 4000000 in
set_option maxRecDepth 100000 in
theorem l4Plain_a (k s c : Int) (d : ByteArray) (A B : Option Addr) (lp cp li ci : Nat) (w : World) (h0 : 0 ≤ s) (h5 : s ≤ 5) (c0 : 0 ≤ c) (c1 : c ≤ 12800) (_hdm : d.size ≤ maxLen) :
 Calls Tryz.prog 162 #[.agg #[.int .i64 k, .string d, .slice A lp cp, .int .i64 s, .int .i64 c, .slice B li ci]] w fun e w' => e = .returned (.bool (bitsB d (c * bz s))) ∧ Below w.heap.size w w' := by
 have HBY := Lib.hid (fun W => l4Bytes_a s c W h0 (by omega) c0 c1)
 have HBZ : Hid (byteZ s c = (c * bz s + 7) / 8) := Lib.hid (by unfold byteZ; rw [Int.mul_comm])
 have HR := Lib.hid (heap_alloc_new w (.cells #[.int .i64 k, .string d, .slice A lp cp, .int .i64 s, .int .i64 c, .slice B li ci] nodeT))
 have HBA := Lib.hid ((Below.refl w.heap.size w).alloc (Nat.le_refl _) (.cells #[.int .i64 k, .string d, .slice A lp cp, .int .i64 s, .int .i64 c, .slice B li ci] nodeT))
 have hby : 0 ≤ byteZ s c ∧ byteZ s c ≤ 102401 := by
  have hb := bz_le s
  have h1 := Int.mul_nonneg hb.1 c0
  have h2 := Int.mul_le_mul hb.2 c1 c0 (by omega)
  unfold byteZ; omega
 obtain ⟨by_, hbyd⟩ : ∃ z, z = byteZ s c := ⟨_, rfl⟩
 rw [← hbyd] at HBY HBZ hby
 clear hbyd
 by_cases hne : (d.size : Int) = by_
 · have hneb : ((d.size : Int) != by_) = false := by rw [hne]; simp
   have HSZ : Hid ((d.size : Int) = (c * bz s + 7) / 8) := Lib.hid (by rw [hne, HBZ.out])
   have HNE := Lib.hid hne
   clear hne
   go_enter Tryz.func162, Tryz.ntmps162
   go_wp2_with fail
   generalize w.alloc (.cells #[.int .i64 k, .string d, .slice A lp cp, .int .i64 s, .int .i64 c, .slice B li ci] nodeT) = W at *
   obtain ⟨e0, e1, e2, e3, e4, e5⟩ := cells6 HR.out
   have q1 := cell_regrown e1
   have q3 := cell_regrown e3
   have q4 := cell_regrown e4
   refine wp_region_quiet_below (by kernel_rfl) (by kernel_rfl) ?_
   repeat (first | go_big_quiet_step ((go_at_call 185; with_reducible exact Calls.regrown_of (HBY.out _))) | quiet_step ((go_at_call 185; with_reducible exact Calls.regrown_of (HBY.out _))))
   refine wpQuiet_nil ?_
   intro _ hw'
   obtain ⟨⟨dq, osq⟩, hw''⟩ := hw'
   subst hw''
   have HB2 := Lib.hid (HBA.out.trans ((below_regrown W dq osq).mono HBA.out.size))
   have HR2 := Lib.hid (((below_regrown W dq osq).block _ (row_lt HR.out)).trans HR.out)
   clear q1 q3 q4 e0 e1 e2 e3 e4 e5
   generalize «Sort».grow (redrawn W dq) osq = W2 at *
   obtain ⟨e0, e1, e2, e3, e4, e5⟩ := cells6 HR2.out
   clear HR HBA HBY
   by_cases hs1 : s = 1
   · subst hs1
     have hc1 : c * bz 1 = c := by rw [show bz 1 = 1 from rfl, Int.mul_one]
     rw [hc1] at HSZ
     have HC1 := Lib.hid hc1
     clear hc1
     by_cases h8 : c % 8 = 0
     · have HX := Lib.hid (bits_rest c0 HSZ.out h8)
       go_wp2
       go_ret
       exact ⟨by rw [HC1.out, HX.out]; rfl, HB2.out⟩
     · obtain ⟨j, hj⟩ : ∃ j, d.size = j + 1 := ⟨d.size - 1, by have := HSZ.out; omega⟩
       have hlt : j < d.size := by omega
       have hln : (d.size : Int) - 1 = (j : Int) := by omega
       have hjm : j ≤ 10000000 := by have := HSZ.out; omega
       have HLN := Lib.hid (lastN_eq hj hlt)
       have hx : (d[j]).toNat < 256 := (d[j]).toNat_lt
       have h8b : (c % 8 == 0) = false := by simpa using h8
       have HX : Hid (bitsB d c = decide ((d[j]).toNat < 2 ^ (c % 8).toNat)) := Lib.hid (by
        unfold bitsB
        rw [decide_eq_true HSZ.out, decide_eq_false h8, HLN.out]
        rfl)
       have hw : wrap64 ((d[j]).toNat : Int) = ((d[j]).toNat : Int) := by
        simp only [wrap64]
        omega
       have HW := Lib.hid hw
       have H8 := Lib.hid h8
       clear hj h8 hw
       go_wp2
       go_ret
       refine ⟨?_, HB2.out⟩
       rw [HC1.out, HX.out]
       exact ret_bool (div_pow _ _)
   · have hs1b : (s != 1) = true := by simpa using hs1
     have HX : Hid (bitsB d (c * bz s) = true) := Lib.hid (bits_rest (Int.mul_nonneg c0 (bz_le s).1) HSZ.out (by
      have : s = 0 ∨ s = 2 ∨ s = 3 ∨ s = 4 ∨ s = 5 := by omega
      rcases this with rfl | rfl | rfl | rfl | rfl
      · rw [show bz 0 = 0 from rfl]; omega
      · rw [show bz 2 = 8 from rfl]; omega
      · rw [show bz 3 = 16 from rfl]; omega
      · rw [show bz 4 = 32 from rfl]; omega
      · rw [show bz 5 = 64 from rfl]; omega))
     go_wp2
     go_ret
     exact ⟨by rw [HX.out]; rfl, HB2.out⟩
 · have hneb : ((d.size : Int) != by_) = true := by simpa using hne
   have HX : Hid (bitsB d (c * bz s) = false) := Lib.hid (by unfold bitsB; rw [← HBZ.out, decide_eq_false hne]; rfl)
   clear hne
   go_enter Tryz.func162, Tryz.ntmps162
   go_wp2_with fail
   generalize w.alloc (.cells #[.int .i64 k, .string d, .slice A lp cp, .int .i64 s, .int .i64 c, .slice B li ci] nodeT) = W at *
   obtain ⟨e0, e1, e2, e3, e4, e5⟩ := cells6 HR.out
   have q1 := cell_regrown e1
   have q3 := cell_regrown e3
   have q4 := cell_regrown e4
   refine wp_region_quiet_below (by kernel_rfl) (by kernel_rfl) ?_
   repeat (first | go_big_quiet_step ((go_at_call 185; with_reducible exact Calls.regrown_of (HBY.out _))) | quiet_step ((go_at_call 185; with_reducible exact Calls.regrown_of (HBY.out _))))
   refine wpQuiet_nil ?_
   intro _ hw'
   obtain ⟨⟨dq, osq⟩, hw''⟩ := hw'
   subst hw''
   have HB2 := Lib.hid (HBA.out.trans ((below_regrown W dq osq).mono HBA.out.size))
   clear q1 q3 q4 e0 e1 e2 e3 e4 e5
   generalize «Sort».grow (redrawn W dq) osq = W2 at *
   go_wp2
   go_ret
   exact ⟨by rw [HX.out]; rfl, HB2.out⟩
end Go.Proofs.YtlbfffokkhccaaaGreatDoor
namespace Go.Proofs.YtlbfffokkhccaaaGreatDoor
open Go.RowKit
def CutP (b : Nat) (w : World) (e : Ending) (w' : World) : Prop := ∃ u : ByteArray, u.size ≤ b ∧ e = .returned (.string u) ∧ Below w.heap.size w w'
set_option maxHeartbeats 4000000 in
set_option maxRecDepth 100000 in
theorem l4Cut_a (d : ByteArray) (s c : Int) (w : World) (h0 : 0 ≤ s) (h5 : s ≤ 5) (c0 : 0 ≤ c) (c1 : c ≤ 11) (hd : 96 ≤ d.size) (hd2 : d.size ≤ 1000) :
 Calls Tryz.prog 155 #[.string d, .int .i64 s, .int .i64 c] w (CutP 1001 w) := by
 have hb := bz_le s
 have hby : 0 ≤ byteZ s c ∧ byteZ s c ≤ 88 := by
  have h1 := Int.mul_nonneg hb.1 c0
  have h2 := Int.mul_le_mul hb.2 c1 c0 (by omega)
  unfold byteZ; omega
 obtain ⟨nn, hnn⟩ := Int.eq_ofNat_of_zero_le hby.1
 have HBY := Lib.hid (l4Bytes_a s c w h0 (by omega) c0 (by omega))
 rw [hnn] at HBY
 have hn88 : nn ≤ 88 := by omega
 obtain ⟨o, hext⟩ : ∃ o, d.extract 0 nn = o := ⟨_, rfl⟩
 have hos : o.size = nn := by rw [← hext, ByteArray.size_extract]; omega
 have hle : (nn : Int) ≤ (d.size : Int) := by omega
 have HOS := Lib.hid hos
 by_cases hs1 : s = 1
 · subst hs1
   by_cases h8 : c % 8 = 0
   · clear hos
     go_enter Tryz.func155, Tryz.ntmps155
     go_wp2_with fail
     refine HBY.out.mono ?_
     rintro e w1 ⟨rfl, hb1⟩
     have HB1 := Lib.hid hb1
     clear hb1
     go_wp2
     go_ret
     exact ⟨o, by have := HOS.out; omega, rfl, HB1.out⟩
   · have hn1 : byteZ 1 c = (c + 7) / 8 := by unfold byteZ; rw [show bz 1 = 1 from rfl, Int.one_mul]
     obtain ⟨j, hj⟩ : ∃ j, nn = j + 1 := ⟨nn - 1, by omega⟩
     have hlt : j < o.size := by omega
     have hle2 : (j : Int) ≤ (o.size : Int) := by omega
     have hln : (nn : Int) - 1 = (j : Int) := by omega
     have hjm : j ≤ 100 := by omega
     have hx : (o[j]).toNat < 256 := (o[j]).toNat_lt
     have HJ := Lib.hid hj
     have hk : c % 8 = 1 ∨ c % 8 = 2 ∨ c % 8 = 3 ∨ c % 8 = 4 ∨ c % 8 = 5 ∨ c % 8 = 6 ∨ c % 8 = 7 := by omega
     clear hos hj h8 hn1 hnn hby hb hd hd2 h0 h5
     rcases hk with hk | hk | hk | hk | hk | hk | hk
     · have hand := and_u8_1 (o[j]).toNat hx
       have hq : (o[j]).toNat % 2 < 256 := by omega
       generalize (o[j]).toNat % 2 = q at hand hq
       go_enter Tryz.func155, Tryz.ntmps155
       go_wp2_with fail
       refine HBY.out.mono ?_
       rintro e w1 ⟨rfl, hb1⟩
       have hcv : (convert 22 9 (.slice (some ⟨w1.heap.size, 0, none⟩) 1 1)).run Tryz.prog (w1.alloc (.cells #[.int .u8 (q : Int)] 5)).drew = .ok (.string ⟨#[UInt8.ofNat q]⟩) (w1.alloc (.cells #[.int .u8 (q : Int)] 5)).drew := conv1n q hq w1.drew
       have HB1 := Lib.hid hb1
       clear hb1
       go_wp2
       go_region
       go_wp2
       go_ret
       exact ⟨o.extract 0 j ++ ⟨#[UInt8.ofNat q]⟩, by have := HOS.out; rw [getD_size, ByteArray.size_extract]; show _ + 1 ≤ _; have := HJ.out; omega, rfl, (HB1.out.alloc HB1.out.size _).drew⟩
     · have hand := and_u8_2 (o[j]).toNat hx
       have hq : (o[j]).toNat % 4 < 256 := by omega
       generalize (o[j]).toNat % 4 = q at hand hq
       go_enter Tryz.func155, Tryz.ntmps155
       go_wp2_with fail
       refine HBY.out.mono ?_
       rintro e w1 ⟨rfl, hb1⟩
       have hcv : (convert 22 9 (.slice (some ⟨w1.heap.size, 0, none⟩) 1 1)).run Tryz.prog (w1.alloc (.cells #[.int .u8 (q : Int)] 5)).drew = .ok (.string ⟨#[UInt8.ofNat q]⟩) (w1.alloc (.cells #[.int .u8 (q : Int)] 5)).drew := conv1n q hq w1.drew
       have HB1 := Lib.hid hb1
       clear hb1
       go_wp2
       go_region
       go_wp2
       go_ret
       exact ⟨o.extract 0 j ++ ⟨#[UInt8.ofNat q]⟩, by have := HOS.out; rw [getD_size, ByteArray.size_extract]; show _ + 1 ≤ _; have := HJ.out; omega, rfl, (HB1.out.alloc HB1.out.size _).drew⟩
     · have hand := and_u8_3 (o[j]).toNat hx
       have hq : (o[j]).toNat % 8 < 256 := by omega
       generalize (o[j]).toNat % 8 = q at hand hq
       go_enter Tryz.func155, Tryz.ntmps155
       go_wp2_with fail
       refine HBY.out.mono ?_
       rintro e w1 ⟨rfl, hb1⟩
       have hcv : (convert 22 9 (.slice (some ⟨w1.heap.size, 0, none⟩) 1 1)).run Tryz.prog (w1.alloc (.cells #[.int .u8 (q : Int)] 5)).drew = .ok (.string ⟨#[UInt8.ofNat q]⟩) (w1.alloc (.cells #[.int .u8 (q : Int)] 5)).drew := conv1n q hq w1.drew
       have HB1 := Lib.hid hb1
       clear hb1
       go_wp2
       go_region
       go_wp2
       go_ret
       exact ⟨o.extract 0 j ++ ⟨#[UInt8.ofNat q]⟩, by have := HOS.out; rw [getD_size, ByteArray.size_extract]; show _ + 1 ≤ _; have := HJ.out; omega, rfl, (HB1.out.alloc HB1.out.size _).drew⟩
     · have hand := and_u8_4 (o[j]).toNat hx
       have hq : (o[j]).toNat % 16 < 256 := by omega
       generalize (o[j]).toNat % 16 = q at hand hq
       go_enter Tryz.func155, Tryz.ntmps155
       go_wp2_with fail
       refine HBY.out.mono ?_
       rintro e w1 ⟨rfl, hb1⟩
       have hcv : (convert 22 9 (.slice (some ⟨w1.heap.size, 0, none⟩) 1 1)).run Tryz.prog (w1.alloc (.cells #[.int .u8 (q : Int)] 5)).drew = .ok (.string ⟨#[UInt8.ofNat q]⟩) (w1.alloc (.cells #[.int .u8 (q : Int)] 5)).drew := conv1n q hq w1.drew
       have HB1 := Lib.hid hb1
       clear hb1
       go_wp2
       go_region
       go_wp2
       go_ret
       exact ⟨o.extract 0 j ++ ⟨#[UInt8.ofNat q]⟩, by have := HOS.out; rw [getD_size, ByteArray.size_extract]; show _ + 1 ≤ _; have := HJ.out; omega, rfl, (HB1.out.alloc HB1.out.size _).drew⟩
     · have hand := and_u8_5 (o[j]).toNat hx
       have hq : (o[j]).toNat % 32 < 256 := by omega
       generalize (o[j]).toNat % 32 = q at hand hq
       go_enter Tryz.func155, Tryz.ntmps155
       go_wp2_with fail
       refine HBY.out.mono ?_
       rintro e w1 ⟨rfl, hb1⟩
       have hcv : (convert 22 9 (.slice (some ⟨w1.heap.size, 0, none⟩) 1 1)).run Tryz.prog (w1.alloc (.cells #[.int .u8 (q : Int)] 5)).drew = .ok (.string ⟨#[UInt8.ofNat q]⟩) (w1.alloc (.cells #[.int .u8 (q : Int)] 5)).drew := conv1n q hq w1.drew
       have HB1 := Lib.hid hb1
       clear hb1
       go_wp2
       go_region
       go_wp2
       go_ret
       exact ⟨o.extract 0 j ++ ⟨#[UInt8.ofNat q]⟩, by have := HOS.out; rw [getD_size, ByteArray.size_extract]; show _ + 1 ≤ _; have := HJ.out; omega, rfl, (HB1.out.alloc HB1.out.size _).drew⟩
     · have hand := and_u8_6 (o[j]).toNat hx
       have hq : (o[j]).toNat % 64 < 256 := by omega
       generalize (o[j]).toNat % 64 = q at hand hq
       go_enter Tryz.func155, Tryz.ntmps155
       go_wp2_with fail
       refine HBY.out.mono ?_
       rintro e w1 ⟨rfl, hb1⟩
       have hcv : (convert 22 9 (.slice (some ⟨w1.heap.size, 0, none⟩) 1 1)).run Tryz.prog (w1.alloc (.cells #[.int .u8 (q : Int)] 5)).drew = .ok (.string ⟨#[UInt8.ofNat q]⟩) (w1.alloc (.cells #[.int .u8 (q : Int)] 5)).drew := conv1n q hq w1.drew
       have HB1 := Lib.hid hb1
       clear hb1
       go_wp2
       go_region
       go_wp2
       go_ret
       exact ⟨o.extract 0 j ++ ⟨#[UInt8.ofNat q]⟩, by have := HOS.out; rw [getD_size, ByteArray.size_extract]; show _ + 1 ≤ _; have := HJ.out; omega, rfl, (HB1.out.alloc HB1.out.size _).drew⟩
     · have hand := and_u8_7 (o[j]).toNat hx
       have hq : (o[j]).toNat % 128 < 256 := by omega
       generalize (o[j]).toNat % 128 = q at hand hq
       go_enter Tryz.func155, Tryz.ntmps155
       go_wp2_with fail
       refine HBY.out.mono ?_
       rintro e w1 ⟨rfl, hb1⟩
       have hcv : (convert 22 9 (.slice (some ⟨w1.heap.size, 0, none⟩) 1 1)).run Tryz.prog (w1.alloc (.cells #[.int .u8 (q : Int)] 5)).drew = .ok (.string ⟨#[UInt8.ofNat q]⟩) (w1.alloc (.cells #[.int .u8 (q : Int)] 5)).drew := conv1n q hq w1.drew
       have HB1 := Lib.hid hb1
       clear hb1
       go_wp2
       go_region
       go_wp2
       go_ret
       exact ⟨o.extract 0 j ++ ⟨#[UInt8.ofNat q]⟩, by have := HOS.out; rw [getD_size, ByteArray.size_extract]; show _ + 1 ≤ _; have := HJ.out; omega, rfl, (HB1.out.alloc HB1.out.size _).drew⟩
 · have hs1b : (s == 1) = false := by simpa using hs1
   clear hos hs1
   go_enter Tryz.func155, Tryz.ntmps155
   go_wp2_with fail
   refine HBY.out.mono ?_
   rintro e w1 ⟨rfl, hb1⟩
   have HB1 := Lib.hid hb1
   clear hb1
   go_wp2
   go_ret
   exact ⟨o, by have := HOS.out; omega, rfl, HB1.out⟩
end Go.Proofs.YtlbfffokkhccaaaGreatDoor
namespace Go.Proofs.YtlbfffokkhccaaaGreatDoor
open Go.RowKit
def Clean (w : World) (k : Nat) : Prop := ∃ cs T, w.heap[k]? = some (.cells cs T (0, 0))
end Go.Proofs.YtlbfffokkhccaaaGreatDoor
namespace Go.Proofs.YtlbfffokkhccaaaGreatDoor
open Go.RowKit
def FromC (w : World) (B : Nat) : Nat → Prop := fun k => B ≤ k ∧ Clean w k
theorem clean_of {w w' : World} {k : Nat} (h : Clean w k) (he : w'.heap[k]? = w.heap[k]?) : Clean w' k := by
 obtain ⟨c, t, hk⟩ := h
 exact ⟨c, t, he.trans hk⟩
theorem clean_low {w w' : World} {k : Nat} (h : Clean w k) (hb : Below w.heap.size w w') : Clean w' k := by
 obtain ⟨c, t, hk⟩ := h
 exact ⟨c, t, (hb.block k (heap_lt hk)).trans hk⟩
theorem clean_set {w : World} {k : Nat} (h : Clean w k) (p : Addr) (v : Value) : Clean (w.setCell p v) k := by
 obtain ⟨c, t, h4⟩ := h
 by_cases hk : k = p.block
 · subst hk
   obtain ⟨b, o, s⟩ := p
   cases s with
   | none => exact ⟨c.setIfInBounds o v, t, by simp [World.setCell, Array.getElem?_modify, h4]⟩
   | some s => exact ⟨c, t, by simp [World.setCell, Array.getElem?_modify, h4]⟩
 · exact ⟨c, t, (Below.heap_setCell w p v k hk).trans h4⟩
theorem clean_size {w : World} {k : Nat} (h : Clean w k) : k < w.heap.size := by
 obtain ⟨c, t, hk⟩ := h
 exact heap_lt hk
theorem NdAt.belowC {w w' : World} {B m : Nat} {n : Nd} {h : Hd} (hn : NdAt w (FromC w B) m n h) (hb : Below w.heap.size w w') : NdAt w' (FromC w' B) m n h := (hn.below hb).weak (fun _ hk => ⟨hk.1, clean_low hk.2 hb⟩)
theorem NdsAt.fromC {w : World} {B B' m : Nat} {A : Option Addr} {l : List Nd} (h : NdsAt w (FromC w B) m A l) (hB : B' ≤ B) : NdsAt w (FromC w B') m A l := h.weak (fun _ hk => ⟨Nat.le_trans hB hk.1, hk.2⟩)
theorem NdAt.fromC {w : World} {B B' m : Nat} {n : Nd} {h : Hd} (hn : NdAt w (FromC w B) m n h) (hB : B' ≤ B) : NdAt w (FromC w B') m n h := hn.weak (fun _ hk => ⟨Nat.le_trans hB hk.1, hk.2⟩)
theorem NdsAt.uponC {w w' : World} {B m : Nat} {A : Option Addr} {l : List Nd} (h : NdsAt w (FromC w B) m A l) (hu : Upon B w w') : NdsAt w' (FromC w' B) m A l :=
 (NdsAt.map (fun _ h => h) (fun _p _ _ hs hc => hc.block (hu.block _ hs.1 hc.lt)) _ _ _ h).weak (fun k hk => ⟨hk.1, clean_of hk.2 (hu.block k hk.1 (clean_size hk.2))⟩)
theorem NdAt.uponC {w w' : World} {B m : Nat} {n : Nd} {h : Hd} (hn : NdAt w (FromC w B) m n h) (hu : Upon B w w') : NdAt w' (FromC w' B) m n h := ⟨hn.1, hn.2.1.uponC hu, hn.2.2.uponC hu⟩
theorem NdAt.plain {w : World} {B m : Nat} {n : Nd} {h : Hd} (hn : NdAt w (FromC w B) m n h) : NdAt w (From B) m n h := hn.weak (fun _ hk => hk.1)
theorem nds_of_ownC {w : World} {R T m : Nat} {v : Value} {q : List (Nd × Hd)} (h : w.ownsRow R T 6 v q.length (rowOf q)) (hq : q.length ≤ maxLen) (hr : ∀ r ∈ q, NdAt w (FromC w R) m r.1 r.2) : ∃ A cap, v = .slice A q.length cap ∧ NdsAt w (FromC w R) (m + 1) A (q.map (·.1)) := by
 rcases h.2 with ⟨rfl, h0⟩ | ⟨g, cap, cur, rfl, hR, hg, _⟩
 · obtain rfl : q = [] := List.eq_nil_of_length_eq_zero h0
   exact ⟨none, 0, rfl, NdsAt.nil _ _ _ _⟩
 · exact ⟨_, cap, rfl, by simpa using hq, q, rfl, .inr ⟨_, rfl, ⟨hR, _, _, hg⟩, at_cells (fun j u hj => h.cells (g := g) rfl j u hj)⟩, hr⟩
end Go.Proofs.YtlbfffokkhccaaaGreatDoor