/- Texts of the proof of the law FnSendShort, side by side: part 5. -/
import Derived.Deep.QuietTactic
import Derived.BigQuiet
import Derived.Test.YtbijfkpilncclaaGreatMSendShort00
import Derived.Test.YtbijfkpilncclaaGreatMSendShort01
import Derived.Test.YtbijfkpilncclaaGreatMSendShort02
import Derived.Test.YtbijfkpilncclaaGreatMSendShort03
import Derived.Test.YtbijfkpilncclaaGreatMSendShort04
namespace Go.Proofs.YtbijfkpilncclaaGreat
open Go.RowKit
def zerB (l : List UInt8) : Bool := l.all (· == 0)
set_option maxHeartbeats 400000 in
theorem l1Zero_any (s : ByteArray) (w : World) (hs : s.size ≤ maxLen) :
    Calls Tryz.prog 62 #[.string s] w fun e w' => e = .returned (.bool (zerB s.data.toList)) ∧ w = w' := by
  unfold maxLen at hs
  have hl : s.data.toList.length = s.size := by simp
  have HL := Lib.hid hl
  clear hl
  go_enter Tryz.func62, Tryz.ntmps62
  go_wp2
  go_loop [3] (fun i => ∃ k : Nat, k ≤ s.size ∧ i = .int .i64 (k : Int) ∧ ∀ j, j < k → s.data.toList[j]?.getD 0 = 0) (fun i => (s.size - intOf i).toNat)
  case atStart => exact ⟨0, by omega, by simp, fun j hj => by omega⟩
  case round =>
    obtain ⟨k, hk, rfl, hz⟩ := hrel
    have HZ := Lib.hid hz
    clear hz
    by_cases hlt : k < s.size
    · have hg := bytes_get s k hlt
      have HG := Lib.hid hg
      clear hg
      by_cases hb : s[k] = 0
      · have hb' : (((s[k]).toNat : Int) == 0) = true := by simp [hb]
        have HB := Lib.hid hb
        clear hb
        go_wp2
        go_round
        case rel =>
          refine ⟨k + 1, by omega, by go_num, fun j hj => ?_⟩
          by_cases hjk : j < k
          · exact HZ.out j hjk
          · obtain rfl : j = k := by omega
            rw [HG.out, HB.out]
        case measure => simp [intOf]; omega
      · have hb' : (((s[k]).toNat : Int) == 0) = false := by
          rw [beq_eq_false_iff_ne]
          intro h
          exact hb (UInt8.toNat_inj.1 (by simpa using h))
        have HB := Lib.hid hb
        clear hb
        go_wp2
        go_ret
        refine ⟨ret_bool ?_, rfl⟩
        rw [eq_comm, zerB, List.all_eq_false]
        refine ⟨s[k], ?_, by simpa using HB.out⟩
        rw [← HG.out, List.getElem?_eq_getElem (by rw [HL.out]; exact hlt)]
        exact List.getElem_mem _
    · go_wp2
      go_ret
      refine ⟨ret_bool ?_, rfl⟩
      rw [eq_comm, zerB, List.all_eq_true]
      intro x hx
      obtain ⟨j, hj, rfl⟩ := List.mem_iff_getElem.1 hx
      have := HZ.out j (by rw [HL.out] at hj; omega)
      rw [List.getElem?_eq_getElem hj] at this
      simpa using this
end Go.Proofs.YtbijfkpilncclaaGreat

namespace Go.Proofs.YtbijfkpilncclaaGreat
open Go.RowKit
end Go.Proofs.YtbijfkpilncclaaGreat

namespace Go.Proofs.YtbijfkpilncclaaGreat
open Go.RowKit
theorem can_item_kind {l : List Nd} (hi : itemsB l = true) : ∀ y ∈ l, y.kind = 1 ∧ y.data.size % 8 = 0 ∧ y.size = 0 ∧ y.count = 0 ∧ y.items = [] ∧ y.data.size = (l.headD default).data.size ∧ y.ptrs.length = (l.headD default).ptrs.length := by
  intro y hy
  have h1 := List.all_eq_true.1 hi y hy
  unfold itemB at h1
  simp only [Bool.and_eq_true, decide_eq_true_eq, structB] at h1
  obtain ⟨⟨h2, h3, h4, h5, h6⟩, h7, h8⟩ := h1
  exact ⟨h2, by omega, h4, h5, nil_of_len h6, h7, h8⟩
end Go.Proofs.YtbijfkpilncclaaGreat


namespace Go.Proofs.YtbijfkpilncclaaGreat
structure SOk (L : Nat) (ss : Segs) : Prop where
  wds : WdS ss
  one : 1 ≤ ss.length
  six : ss.length ≤ 6
  totS : totS ss ≤ L
theorem SOk.put {L : Nat} {ss : Segs} (h : SOk L ss) {i a : Nat} {t : List UInt8} (hi : i < ss.length) (ha : 8 * a + t.length ≤ (sgS ss i).length) : SOk L (putS ss i a t) :=
  ⟨(put_alen hi ha).wds h.wds, by rw [putS_length]; exact h.one, by rw [putS_length]; exact h.six, by rw [put_totS hi ha]; exact h.totS⟩
theorem SOk.grow {L : Nat} {ss : Segs} (h : SOk L ss) {i k : Nat} (hi : i < ss.length) (ht : Go.Proofs.YtbijfkpilncclaaGreat.totS ss + k ≤ L) : SOk L (growB ss i k) :=
  ⟨grow_wds hi h.wds, by rw [growB_length]; exact h.one, by rw [growB_length]; exact h.six, by rw [grow_totS hi]; exact ht⟩
theorem put_grew {ss : Segs} {i a : Nat} {t : List UInt8} (hi : i < ss.length) (ha : 8 * a + t.length ≤ (sgS ss i).length) : Grew ss (putS ss i a t) := (put_alen hi ha).grew
theorem Alen.wn {a b : Segs} (h : Alen a b) (i : Nat) : wn (sgS a i) = wn (sgS b i) := by unfold Go.Proofs.YtbijfkpilncclaaGreat.wn; rw [h.2 i]
theorem room8 {ss : Segs} (hw : WdS ss) {i a k : Nat} (ha : a + k ≤ wn (sgS ss i)) : 8 * a + 8 * k ≤ (sgS ss i).length := by have := wds_len hw i; omega
theorem other_some {L size : Nat} {ss s1 : Segs} {k j : Nat} (hk : SOk L ss) (h : otherP size ss k = some (s1, j)) : SOk L s1 ∧ Grew ss s1 ∧ j < s1.length := by
  unfold otherP at h
  split at h
  · injection h with h
    injection h with h1 h2
    subst h1 h2
    exact ⟨hk, Grew.refl _, by have := hk.one; omega⟩
  · split at h
    · injection h with h
      injection h with h1 h2
      subst h1 h2
      exact ⟨⟨app_wds hk.wds, by simp, by simp; omega, by rw [totS_app]; exact hk.totS⟩, app_grew _, by simp⟩
    · cases h
theorem room_some {L size : Nat} {n : Nd} {ss s1 : Segs} {i a j c : Nat} (hk : SOk L ss) (hi : i < ss.length) (ha : a < wn (sgS ss i)) (h : roomP L size n ss i a = some (s1, j, c)) : SOk L s1 ∧ Grew ss s1 ∧ j < s1.length ∧ c + ownN n ≤ wn (sgS s1 j) := by
  unfold roomP at h
  split at h
  · split at h
    · rename_i ht
      injection h with h
      injection h with h1 h2
      injection h2 with h2 h3
      subst h1 h2 h3
      have hg := hk.grow hi ht
      have hi' : i < (growB ss i (ownN n)).length := by rw [growB_length]; exact hi
      have hr := room8 (k := 1) hg.wds (i := i) (a := a) (by rw [wn_grow hi]; omega)
      have hp : 8 * a + (ptrW n ((wn (sgS ss i) : Int) - a - 1)).length ≤ (sgS (growB ss i (ownN n)) i).length := by rw [ptrW_length]; omega
      refine ⟨hg.put hi' hp, (grow_grew hi).trans (put_grew hi' hp), by rw [putS_length]; exact hi', ?_⟩
      rw [← (put_alen hi' hp).wn, wn_grow hi]
      omega
    · cases h
  · split at h
    · cases h
    · rename_i s0 j0 ho
      obtain ⟨h1, h2, h3⟩ := other_some hk ho
      split at h
      · rename_i ht
        injection h with h
        injection h with e1 e2
        injection e2 with e2 e3
        subst e1 e2 e3
        have hg := h1.grow h3 ht
        have hi' : i < (growB s0 j0 (1 + ownN n)).length := by rw [growB_length]; exact Nat.lt_of_lt_of_le hi h2.1
        have hj' : j0 < (growB s0 j0 (1 + ownN n)).length := by rw [growB_length]; exact h3
        have hai : a < wn (sgS (growB s0 j0 (1 + ownN n)) i) := Nat.lt_of_lt_of_le ha ((h2.trans (grow_grew h3)).wn i)
        have hr := room8 (k := 1) hg.wds (i := i) (a := a) (by omega)
        have hp : 8 * a + (farW (wn (sgS s0 j0)) j0).length ≤ (sgS (growB s0 j0 (1 + ownN n)) i).length := by rw [farW_length]; omega
        have hg2 := hg.put hi' hp
        have hwj : wn (sgS (putS (growB s0 j0 (1 + ownN n)) i a (farW (wn (sgS s0 j0)) j0)) j0) = wn (sgS s0 j0) + (1 + ownN n) := by rw [← (put_alen hi' hp).wn, wn_grow h3]
        have hj2 : j0 < (putS (growB s0 j0 (1 + ownN n)) i a (farW (wn (sgS s0 j0)) j0)).length := by rw [putS_length]; exact hj'
        have hr2 := room8 (k := 1) hg2.wds (i := j0) (a := wn (sgS s0 j0)) (by omega)
        have hp2 : 8 * wn (sgS s0 j0) + (ptrW n 0).length ≤ (sgS (putS (growB s0 j0 (1 + ownN n)) i a (farW (wn (sgS s0 j0)) j0)) j0).length := by rw [ptrW_length]; omega
        refine ⟨hg2.put hj2 hp2, ((h2.trans (grow_grew h3)).trans (put_grew hi' hp)).trans (put_grew hj2 hp2), by rw [putS_length]; exact hj2, ?_⟩
        rw [← (put_alen hj2 hp2).wn, hwj]
        omega
      · cases h
def WrOk (L : Nat) (wr : Wr) (Q : Nd → Prop) : Prop := ∀ p ss i a s1, Q p → SOk L ss → i < ss.length → a < wn (sgS ss i) → wr p ss i a = some s1 → SOk L s1 ∧ Grew ss s1
theorem ptrs_some {L : Nat} {wr : Wr} {Q : Nd → Prop} (hw : WrOk L wr Q) : ∀ (l : List Nd) (ss : Segs) (i a : Nat) (s1 : Segs), (∀ p ∈ l, Q p) → SOk L ss → i < ss.length → a + l.length ≤ wn (sgS ss i) → ptrsP wr l ss i a = some s1 → SOk L s1 ∧ Grew ss s1
  | [], ss, i, a, s1, _, hk, _, _, h => by injection h with h; subst h; exact ⟨hk, Grew.refl _⟩
  | p :: t, ss, i, a, s1, hq, hk, hi, ha, h => by
    simp only [ptrsP, Option.bind_eq_some_iff] at h
    obtain ⟨s2, h1, h2⟩ := h
    simp only [List.length_cons] at ha
    obtain ⟨k2, g2⟩ := hw p ss i a s2 (hq p (List.mem_cons_self ..)) hk hi (by omega) h1
    obtain ⟨k3, g3⟩ := ptrs_some hw t s2 i (a + 1) s1 (fun q hm => hq q (List.mem_cons_of_mem _ hm)) k2 (Nat.lt_of_lt_of_le hi g2.1) (by have := g2.wn i; omega) h2
    exact ⟨k3, g2.trans g3⟩
theorem data_toList (d : ByteArray) : d.data.toList.length = d.size := by simp
theorem body_fits {ss : Segs} {n : Nd} {i a : Nat} (hw : WdS ss) (ha : a + ownB n ≤ wn (sgS ss i)) : 8 * a + n.data.data.toList.length ≤ (sgS ss i).length := by
  rw [data_toList]
  have := wds_len hw i
  unfold ownB at ha
  omega
theorem body_some {L : Nat} {wr : Wr} {Q : Nd → Prop} (hw : WrOk L wr Q) {n : Nd} {ss s1 : Segs} {i a : Nat} (hq : ∀ p ∈ n.ptrs, Q p) (hk : SOk L ss) (hi : i < ss.length) (ha : a + ownB n ≤ wn (sgS ss i)) (h : bodyP wr n ss i a = some s1) : SOk L s1 ∧ Grew ss s1 := by
  unfold bodyP at h
  have hf := body_fits hk.wds ha
  have hp := put_alen hi hf
  obtain ⟨k2, g2⟩ := ptrs_some hw n.ptrs _ i _ s1 hq (hk.put hi hf) (by rw [putS_length]; exact hi) (by rw [← hp.wn]; unfold ownB at ha; omega) h
  exact ⟨k2, hp.grew.trans g2⟩
theorem items_some {L : Nat} {wr : Wr} {Q : Nd → Prop} (hw : WrOk L wr Q) (each : Nat) : ∀ (l : List Nd) (ss : Segs) (i a : Nat) (s1 : Segs), (∀ y ∈ l, ownB y = each ∧ ∀ p ∈ y.ptrs, Q p) → SOk L ss → i < ss.length → a + l.length * each ≤ wn (sgS ss i) → itemsP wr each l ss i a = some s1 → SOk L s1 ∧ Grew ss s1
  | [], ss, i, a, s1, _, hk, _, _, h => by injection h with h; subst h; exact ⟨hk, Grew.refl _⟩
  | y :: t, ss, i, a, s1, hq, hk, hi, ha, h => by
    simp only [itemsP, Option.bind_eq_some_iff] at h
    obtain ⟨s2, h1, h2⟩ := h
    simp only [List.length_cons, Nat.add_mul, Nat.one_mul] at ha
    obtain ⟨hy, hyp⟩ := hq y (List.mem_cons_self ..)
    obtain ⟨k2, g2⟩ := body_some hw hyp hk hi (by rw [hy]; omega) h1
    obtain ⟨k3, g3⟩ := items_some hw each t s2 i (a + each) s1 (fun q hm => hq q (List.mem_cons_of_mem _ hm)) k2 (Nat.lt_of_lt_of_le hi g2.1) (by have := g2.wn i; omega) h2
    exact ⟨k3, g2.trans g3⟩
theorem item_own {n : Nd} (hi : itemsB n.items = true) : ∀ y ∈ n.items, ownB y = itD n + itP n := by
  intro y hy
  obtain ⟨_, h8, _, _, _, hd, hp⟩ := can_item_kind hi y hy
  unfold ownB itD itP
  rw [← hd, ← hp]
  omega
theorem own_items {l : List Nd} {e : Nat} (h : ∀ y ∈ l, ownB y = e) : (l.map ownB).sum = l.length * e := by
  induction l with
  | nil => simp
  | cons y t ih => rw [List.map_cons, List.sum_cons, h y (List.mem_cons_self ..), ih (fun q hq => h q (List.mem_cons_of_mem _ hq)), List.length_cons, Nat.add_mul]; omega
theorem own_many {n : Nd} (hf : formN n = true) (hk : n.kind = 2 ∧ n.size = 7) : itemsB n.items = true ∧ ownN n = 1 + n.items.length * (itD n + itP n) ∧ n.ptrs = [] := by
  rcases form_cases hf with h | h | ⟨h1, h2, h | h | h⟩
  · omega
  · omega
  · omega
  · omega
  · refine ⟨h.2.2.2.2, ?_, List.eq_nil_of_length_eq_zero h.2.2.1⟩
    unfold ownN
    rw [if_pos hk, own_items (item_own h.2.2.2.2)]
    unfold ownB
    omega
theorem own_plain {n : Nd} (hf : formN n = true) (hk : ¬ (n.kind = 2 ∧ n.size = 7)) : ownN n = ownB n ∧ n.items = [] := by
  have hi : n.items = [] := by
    rcases form_cases hf with h | h | ⟨h1, h2, h | h | h⟩
    · exact List.eq_nil_of_length_eq_zero h.2.2.2.2.2
    · exact List.eq_nil_of_length_eq_zero h.2.2.2.2
    · exact List.eq_nil_of_length_eq_zero h.2.2.2.2
    · exact List.eq_nil_of_length_eq_zero h.2.2.2
    · exact absurd ⟨h1, h.1⟩ hk
  refine ⟨?_, hi⟩
  unfold ownN
  rw [if_neg hk, hi]
  simp
theorem fill_some {L : Nat} {wr : Wr} {Q : Nd → Prop} (hw : WrOk L wr Q) {n : Nd} {ss s1 : Segs} {i a : Nat} (hf : formN n = true) (hq : ∀ p ∈ ptrsL n, Q p) (hk : SOk L ss) (hi : i < ss.length) (ha : a + ownN n ≤ wn (sgS ss i)) (h : fillP wr n ss i a = some s1) : SOk L s1 ∧ Grew ss s1 := by
  unfold fillP at h
  split at h
  · rename_i hm
    obtain ⟨h1, h2, h3⟩ := own_many hf hm
    have hr := room8 (k := 1) hk.wds (i := i) (a := a) (by omega)
    have hp : 8 * a + (tagW n).length ≤ (sgS ss i).length := by rw [tagW_length]; omega
    obtain ⟨k2, g2⟩ := items_some hw (itD n + itP n) n.items _ i (a + 1) s1 (fun y hy => ⟨item_own h1 y hy, fun p hp => hq p (List.mem_append_right _ (List.mem_flatMap.2 ⟨y, hy, hp⟩))⟩) (hk.put hi hp) (by rw [putS_length]; exact hi) (by rw [← (put_alen hi hp).wn]; omega) h
    exact ⟨k2, (put_grew hi hp).trans g2⟩
  · rename_i hm
    obtain ⟨h1, h2⟩ := own_plain hf hm
    exact body_some hw (fun p hp => hq p (List.mem_append_left _ hp)) hk hi (by omega) h
theorem ok_formN : ∀ {d : Nat} {n : Nd}, okN d n = true → formN n = true := fun {d n} h => by
  cases hf : formN n with
  | true => rfl
  | false => rw [ok_form hf] at h; cases h
theorem ok_within {d : Nat} {n : Nd} (h : okN (d + 1) n = true) (hk : n.kind ≠ 0) : ∀ p ∈ ptrsL n, okN d p = true := by
  have : (ptrsL n).all (okN d) = true := by
    simp only [okN, Bool.and_eq_true, Bool.or_eq_true, decide_eq_true_eq] at h
    rcases h.2 with h | h
    · exact absurd h hk
    · exact h
  exact List.all_eq_true.1 this
theorem wr_some (L size : Nat) : ∀ d, WrOk L (wrP L size d) (fun n => okN d n = true)
  | 0 => fun p ss i a s1 _ hk _ _ h => by simp only [wrP] at h; injection h with h; subst h; exact ⟨hk, Grew.refl _⟩
  | d + 1 => fun n ss i a s1 hn hk hi ha h => by
    simp only [wrP] at h
    split at h
    · injection h with h; subst h; exact ⟨hk, Grew.refl _⟩
    · rename_i hk0
      split at h
      · injection h with h
        subst h
        have hr := room8 (k := 1) hk.wds (i := i) (a := a) (by omega)
        have hp : 8 * a + (ptrW n (if n.kind = 1 then -1 else 0)).length ≤ (sgS ss i).length := by rw [ptrW_length]; omega
        exact ⟨hk.put hi hp, put_grew hi hp⟩
      · rw [Option.bind_eq_some_iff] at h
        obtain ⟨⟨s2, j, c⟩, h1, h2⟩ := h
        obtain ⟨k2, g2, hj, hc⟩ := room_some hk hi ha h1
        obtain ⟨k3, g3⟩ := fill_some (wr_some L size d) (ok_formN hn) (ok_within hn hk0) k2 hj hc h2
        exact ⟨k3, g2.trans g3⟩
end Go.Proofs.YtbijfkpilncclaaGreat

namespace Go.Proofs.YtbijfkpilncclaaGreat
theorem grew_tot : ∀ {a b : Segs}, Grew a b → totS a ≤ totS b
  | [], b, _ => Nat.zero_le _
  | x :: a, [], h => by have := h.1; simp at this
  | x :: a, y :: b, h => by
    have h1 : wn x ≤ wn y := by have := h.2 0; simp [sgS] at this; exact Nat.div_le_div_right this
    have h2 : totS a ≤ totS b := grew_tot ⟨by have := h.1; simpa using this, fun i => by have := h.2 (i + 1); simpa [sgS] using this⟩
    simp only [totS, List.map_cons, List.sum_cons] at h2 ⊢
    omega
theorem room_tot {L size : Nat} {n : Nd} {ss s1 : Segs} {i a j c : Nat} (hk : SOk L ss) (hi : i < ss.length) (ha : a < wn (sgS ss i)) (h : roomP L size n ss i a = some (s1, j, c)) : totS s1 ≤ totS ss + ownN n + 1 := by
  unfold roomP at h
  split at h
  · split at h
    · rename_i ht
      injection h with h
      injection h with h1 h2
      subst h1
      have hi' : i < (growB ss i (ownN n)).length := by rw [growB_length]; exact hi
      have hg := hk.grow hi ht
      have hr := room8 (k := 1) hg.wds (i := i) (a := a) (by rw [wn_grow hi]; omega)
      rw [put_totS hi' (by rw [ptrW_length]; omega), grow_totS hi]
      omega
    · cases h
  · split at h
    · cases h
    · rename_i s0 j0 ho
      obtain ⟨h1, h2, h3⟩ := other_some hk ho
      have h0 : totS s0 = totS ss := by
        unfold otherP at ho
        split at ho
        · injection ho with ho; injection ho with e; rw [e]
        · split at ho
          · injection ho with ho; injection ho with e; rw [← e, totS_app]; rfl
          · cases ho
      split at h
      · rename_i ht
        injection h with h
        injection h with e1 e2
        subst e1
        have hg := h1.grow h3 ht
        have hi' : i < (growB s0 j0 (1 + ownN n)).length := by rw [growB_length]; exact Nat.lt_of_lt_of_le hi h2.1
        have hai : a < wn (sgS (growB s0 j0 (1 + ownN n)) i) := Nat.lt_of_lt_of_le ha ((h2.trans (grow_grew h3)).wn i)
        have hr := room8 (k := 1) hg.wds (i := i) (a := a) (by omega)
        have hp : 8 * a + (farW (wn (sgS s0 j0)) j0).length ≤ (sgS (growB s0 j0 (1 + ownN n)) i).length := by rw [farW_length]; omega
        have hj2 : j0 < (putS (growB s0 j0 (1 + ownN n)) i a (farW (wn (sgS s0 j0)) j0)).length := by rw [putS_length, growB_length]; exact h3
        have hg2 := hg.put hi' hp
        have hwj : wn (sgS (putS (growB s0 j0 (1 + ownN n)) i a (farW (wn (sgS s0 j0)) j0)) j0) = wn (sgS s0 j0) + (1 + ownN n) := by rw [← (put_alen hi' hp).wn, wn_grow h3]
        have hr2 := room8 (k := 1) hg2.wds (i := j0) (a := wn (sgS s0 j0)) (by omega)
        rw [put_totS hj2 (by rw [ptrW_length]; omega), put_totS hi' hp, grow_totS h3, h0]
        omega
      · cases h
def WrTot (L : Nat) (wr : Wr) (Q : Nd → Prop) (f : Nd → Nat) : Prop := ∀ p ss i a s1, Q p → SOk L ss → i < ss.length → a < wn (sgS ss i) → wr p ss i a = some s1 → totS s1 ≤ totS ss + 2 * f p
theorem ptrs_tot {L : Nat} {wr : Wr} {Q : Nd → Prop} {f : Nd → Nat} (hw : WrOk L wr Q) (ht : WrTot L wr Q f) : ∀ (l : List Nd) (ss : Segs) (i a : Nat) (s1 : Segs), (∀ p ∈ l, Q p) → SOk L ss → i < ss.length → a + l.length ≤ wn (sgS ss i) → ptrsP wr l ss i a = some s1 → totS s1 ≤ totS ss + 2 * (l.map f).sum
  | [], ss, i, a, s1, _, hk, _, _, h => by injection h with h; subst h; exact Nat.le_add_right _ _
  | p :: t, ss, i, a, s1, hq, hk, hi, ha, h => by
    simp only [ptrsP, Option.bind_eq_some_iff] at h
    obtain ⟨s2, h1, h2⟩ := h
    simp only [List.length_cons] at ha
    obtain ⟨k2, g2⟩ := hw p ss i a s2 (hq p (List.mem_cons_self ..)) hk hi (by omega) h1
    have e1 := ht p ss i a s2 (hq p (List.mem_cons_self ..)) hk hi (by omega) h1
    have e2 := ptrs_tot hw ht t s2 i (a + 1) s1 (fun q hm => hq q (List.mem_cons_of_mem _ hm)) k2 (Nat.lt_of_lt_of_le hi g2.1) (by have := g2.wn i; omega) h2
    rw [List.map_cons, List.sum_cons]
    omega
theorem body_tot {L : Nat} {wr : Wr} {Q : Nd → Prop} {f : Nd → Nat} (hw : WrOk L wr Q) (ht : WrTot L wr Q f) {n : Nd} {ss s1 : Segs} {i a : Nat} (hq : ∀ p ∈ n.ptrs, Q p) (hk : SOk L ss) (hi : i < ss.length) (ha : a + ownB n ≤ wn (sgS ss i)) (h : bodyP wr n ss i a = some s1) : totS s1 ≤ totS ss + 2 * (n.ptrs.map f).sum := by
  unfold bodyP at h
  have hf := body_fits hk.wds ha
  have hp := put_alen hi hf
  have := ptrs_tot hw ht n.ptrs _ i _ s1 hq (hk.put hi hf) (by rw [putS_length]; exact hi) (by rw [← hp.wn]; unfold ownB at ha; omega) h
  rw [put_totS hi hf] at this
  exact this
theorem items_tot {L : Nat} {wr : Wr} {Q : Nd → Prop} {f : Nd → Nat} (hw : WrOk L wr Q) (ht : WrTot L wr Q f) (each : Nat) : ∀ (l : List Nd) (ss : Segs) (i a : Nat) (s1 : Segs), (∀ y ∈ l, ownB y = each ∧ ∀ p ∈ y.ptrs, Q p) → SOk L ss → i < ss.length → a + l.length * each ≤ wn (sgS ss i) → itemsP wr each l ss i a = some s1 → totS s1 ≤ totS ss + 2 * (l.map fun y => (y.ptrs.map f).sum).sum
  | [], ss, i, a, s1, _, hk, _, _, h => by injection h with h; subst h; exact Nat.le_add_right _ _
  | y :: t, ss, i, a, s1, hq, hk, hi, ha, h => by
    simp only [itemsP, Option.bind_eq_some_iff] at h
    obtain ⟨s2, h1, h2⟩ := h
    simp only [List.length_cons, Nat.add_mul, Nat.one_mul] at ha
    obtain ⟨hy, hyp⟩ := hq y (List.mem_cons_self ..)
    obtain ⟨k2, g2⟩ := body_some hw hyp hk hi (by rw [hy]; omega) h1
    have e1 := body_tot hw ht hyp hk hi (by rw [hy]; omega) h1
    have e2 := items_tot hw ht each t s2 i (a + each) s1 (fun q hm => hq q (List.mem_cons_of_mem _ hm)) k2 (Nat.lt_of_lt_of_le hi g2.1) (by have := g2.wn i; omega) h2
    rw [List.map_cons, List.sum_cons]
    omega
theorem flat_sum (l : List Nd) (f : Nd → Nat) : ((l.flatMap Nd.ptrs).map f).sum = (l.map fun y => (y.ptrs.map f).sum).sum := by
  induction l with
  | nil => rfl
  | cons y t ih => rw [List.flatMap_cons, List.map_append, List.sum_append, ih, List.map_cons, List.sum_cons]
theorem fill_tot {L : Nat} {wr : Wr} {Q : Nd → Prop} {f : Nd → Nat} (hw : WrOk L wr Q) (ht : WrTot L wr Q f) {n : Nd} {ss s1 : Segs} {i a : Nat} (hf : formN n = true) (hq : ∀ p ∈ ptrsL n, Q p) (hk : SOk L ss) (hi : i < ss.length) (ha : a + ownN n ≤ wn (sgS ss i)) (h : fillP wr n ss i a = some s1) : totS s1 ≤ totS ss + 2 * ((ptrsL n).map f).sum := by
  have hsum : ((ptrsL n).map f).sum = (n.ptrs.map f).sum + (n.items.map fun y => (y.ptrs.map f).sum).sum := by unfold ptrsL; rw [List.map_append, List.sum_append, flat_sum]
  unfold fillP at h
  split at h
  · rename_i hm
    obtain ⟨h1, h2, h3⟩ := own_many hf hm
    have hr := room8 (k := 1) hk.wds (i := i) (a := a) (by omega)
    have hp : 8 * a + (tagW n).length ≤ (sgS ss i).length := by rw [tagW_length]; omega
    have := items_tot hw ht (itD n + itP n) n.items _ i (a + 1) s1 (fun y hy => ⟨item_own h1 y hy, fun p hp => hq p (List.mem_append_right _ (List.mem_flatMap.2 ⟨y, hy, hp⟩))⟩) (hk.put hi hp) (by rw [putS_length]; exact hi) (by rw [← (put_alen hi hp).wn]; omega) h
    rw [put_totS hi hp] at this
    omega
  · rename_i hm
    obtain ⟨h1, h2⟩ := own_plain hf hm
    have := body_tot hw ht (fun p hp => hq p (List.mem_append_left _ hp)) hk hi (by omega) h
    omega
theorem wr_tot (L size : Nat) : ∀ d, WrTot L (wrP L size d) (fun n => okN d n = true) (wordsN d)
  | 0 => fun p ss i a s1 _ hk _ _ h => by simp only [wrP] at h; injection h with h; subst h; exact Nat.le_add_right _ _
  | d + 1 => fun n ss i a s1 hn hk hi ha h => by
    simp only [wrP] at h
    split at h
    · injection h with h; subst h; exact Nat.le_add_right _ _
    · rename_i hk0
      split at h
      · injection h with h
        subst h
        have hr := room8 (k := 1) hk.wds (i := i) (a := a) (by omega)
        rw [put_totS hi (by rw [ptrW_length]; omega)]
        exact Nat.le_add_right _ _
      · rename_i hp
        rw [Option.bind_eq_some_iff] at h
        obtain ⟨⟨s2, j, c⟩, h1, h2⟩ := h
        obtain ⟨k2, g2, hj, hc⟩ := room_some hk hi ha h1
        have e1 := room_tot hk hi ha h1
        have e2 := fill_tot (wr_some L size d) (wr_tot L size d) (ok_formN hn) (ok_within hn hk0) k2 hj hc h2
        have e3 : wordsN (d + 1) n = ownN n + ((ptrsL n).map (wordsN d)).sum := rfl
        omega
def WrUp (wr wr' : Wr) : Prop := ∀ p ss i a s1, wr p ss i a = some s1 → wr' p ss i a = some s1
theorem ptrs_up {wr wr' : Wr} (hu : WrUp wr wr') : ∀ (l : List Nd) (ss : Segs) (i a : Nat) (s1 : Segs), ptrsP wr l ss i a = some s1 → ptrsP wr' l ss i a = some s1
  | [], _, _, _, _, h => h
  | p :: t, ss, i, a, s1, h => by
    simp only [ptrsP, Option.bind_eq_some_iff] at h ⊢
    obtain ⟨s2, h1, h2⟩ := h
    exact ⟨s2, hu _ _ _ _ _ h1, ptrs_up hu t s2 i (a + 1) s1 h2⟩
theorem items_up {wr wr' : Wr} (hu : WrUp wr wr') (each : Nat) : ∀ (l : List Nd) (ss : Segs) (i a : Nat) (s1 : Segs), itemsP wr each l ss i a = some s1 → itemsP wr' each l ss i a = some s1
  | [], _, _, _, _, h => h
  | p :: t, ss, i, a, s1, h => by
    simp only [itemsP, Option.bind_eq_some_iff] at h ⊢
    obtain ⟨s2, h1, h2⟩ := h
    exact ⟨s2, ptrs_up hu _ _ _ _ _ h1, items_up hu each t s2 i (a + each) s1 h2⟩
theorem fill_up {wr wr' : Wr} (hu : WrUp wr wr') {n : Nd} {ss s1 : Segs} {i a : Nat} (h : fillP wr n ss i a = some s1) : fillP wr' n ss i a = some s1 := by
  unfold fillP at h ⊢
  split
  · rename_i hm; rw [if_pos hm] at h; exact items_up hu _ _ _ _ _ _ h
  · rename_i hm; rw [if_neg hm] at h; exact ptrs_up hu _ _ _ _ _ h
theorem room_up {L L' size : Nat} (hL : L ≤ L') {n : Nd} {ss : Segs} {i a : Nat} {r : Segs × Nat × Nat} (h : roomP L size n ss i a = some r) : roomP L' size n ss i a = some r := by
  unfold roomP at h ⊢
  split
  · rename_i hf
    rw [if_pos hf] at h
    split at h
    · rename_i ht; rw [if_pos (by omega)]; exact h
    · cases h
  · rename_i hf
    rw [if_neg hf] at h
    split at h
    · cases h
    · rename_i s0 j0 ho
      split at h
      · rename_i ht; rw [if_pos (by omega)]; exact h
      · cases h
theorem wr_up {L L' : Nat} (size : Nat) (hL : L ≤ L') : ∀ d, WrUp (wrP L size d) (wrP L' size d)
  | 0 => fun p ss i a s1 h => h
  | d + 1 => fun n ss i a s1 h => by
    simp only [wrP] at h ⊢
    split
    · rename_i hk; rw [if_pos hk] at h; exact h
    · rename_i hk
      rw [if_neg hk] at h
      split
      · rename_i hp; rw [if_pos hp] at h; exact h
      · rename_i hp
        rw [if_neg hp, Option.bind_eq_some_iff] at h
        obtain ⟨r, h1, h2⟩ := h
        rw [room_up hL h1, Option.bind_some]
        exact fill_up (wr_up size hL d) h2
def WrDn (L l : Nat) (wr wr' : Wr) (Q : Nd → Prop) : Prop := ∀ p ss i a s1, Q p → SOk L ss → i < ss.length → a < wn (sgS ss i) → wr p ss i a = some s1 → totS s1 ≤ l → wr' p ss i a = some s1
theorem ptrs_dn {L l : Nat} {wr wr' : Wr} {Q : Nd → Prop} (hw : WrOk L wr Q) (hd : WrDn L l wr wr' Q) : ∀ (li : List Nd) (ss : Segs) (i a : Nat) (s1 : Segs), (∀ p ∈ li, Q p) → SOk L ss → i < ss.length → a + li.length ≤ wn (sgS ss i) → ptrsP wr li ss i a = some s1 → totS s1 ≤ l → ptrsP wr' li ss i a = some s1
  | [], _, _, _, _, _, _, _, _, h, _ => h
  | p :: t, ss, i, a, s1, hq, hk, hi, ha, h, hl => by
    simp only [ptrsP, Option.bind_eq_some_iff] at h ⊢
    obtain ⟨s2, h1, h2⟩ := h
    simp only [List.length_cons] at ha
    obtain ⟨k2, g2⟩ := hw p ss i a s2 (hq p (List.mem_cons_self ..)) hk hi (by omega) h1
    have hi2 := Nat.lt_of_lt_of_le hi g2.1
    have ha2 : a + 1 + t.length ≤ wn (sgS s2 i) := by have := g2.wn i; omega
    obtain ⟨k3, g3⟩ := ptrs_some hw t s2 i (a + 1) s1 (fun q hm => hq q (List.mem_cons_of_mem _ hm)) k2 hi2 ha2 h2
    exact ⟨s2, hd _ _ _ _ _ (hq p (List.mem_cons_self ..)) hk hi (by omega) h1 (Nat.le_trans (grew_tot g3) hl), ptrs_dn hw hd t s2 i (a + 1) s1 (fun q hm => hq q (List.mem_cons_of_mem _ hm)) k2 hi2 ha2 h2 hl⟩
theorem body_dn {L l : Nat} {wr wr' : Wr} {Q : Nd → Prop} (hw : WrOk L wr Q) (hd : WrDn L l wr wr' Q) {n : Nd} {ss s1 : Segs} {i a : Nat} (hq : ∀ p ∈ n.ptrs, Q p) (hk : SOk L ss) (hi : i < ss.length) (ha : a + ownB n ≤ wn (sgS ss i)) (h : bodyP wr n ss i a = some s1) (hl : totS s1 ≤ l) : bodyP wr' n ss i a = some s1 := by
  unfold bodyP at h ⊢
  have hf := body_fits hk.wds ha
  have hp := put_alen hi hf
  exact ptrs_dn hw hd n.ptrs _ i _ s1 hq (hk.put hi hf) (by rw [putS_length]; exact hi) (by rw [← hp.wn]; unfold ownB at ha; omega) h hl
theorem items_dn {L l : Nat} {wr wr' : Wr} {Q : Nd → Prop} (hw : WrOk L wr Q) (hd : WrDn L l wr wr' Q) (each : Nat) : ∀ (li : List Nd) (ss : Segs) (i a : Nat) (s1 : Segs), (∀ y ∈ li, ownB y = each ∧ ∀ p ∈ y.ptrs, Q p) → SOk L ss → i < ss.length → a + li.length * each ≤ wn (sgS ss i) → itemsP wr each li ss i a = some s1 → totS s1 ≤ l → itemsP wr' each li ss i a = some s1
  | [], _, _, _, _, _, _, _, _, h, _ => h
  | y :: t, ss, i, a, s1, hq, hk, hi, ha, h, hl => by
    simp only [itemsP, Option.bind_eq_some_iff] at h ⊢
    obtain ⟨s2, h1, h2⟩ := h
    simp only [List.length_cons, Nat.add_mul, Nat.one_mul] at ha
    obtain ⟨hy, hyp⟩ := hq y (List.mem_cons_self ..)
    obtain ⟨k2, g2⟩ := body_some hw hyp hk hi (by rw [hy]; omega) h1
    have hi2 := Nat.lt_of_lt_of_le hi g2.1
    have ha2 : a + each + t.length * each ≤ wn (sgS s2 i) := by have := g2.wn i; omega
    obtain ⟨k3, g3⟩ := items_some hw each t s2 i (a + each) s1 (fun q hm => hq q (List.mem_cons_of_mem _ hm)) k2 hi2 ha2 h2
    exact ⟨s2, body_dn hw hd hyp hk hi (by rw [hy]; omega) h1 (Nat.le_trans (grew_tot g3) hl), items_dn hw hd each t s2 i (a + each) s1 (fun q hm => hq q (List.mem_cons_of_mem _ hm)) k2 hi2 ha2 h2 hl⟩
theorem fill_dn {L l : Nat} {wr wr' : Wr} {Q : Nd → Prop} (hw : WrOk L wr Q) (hd : WrDn L l wr wr' Q) {n : Nd} {ss s1 : Segs} {i a : Nat} (hf : formN n = true) (hq : ∀ p ∈ ptrsL n, Q p) (hk : SOk L ss) (hi : i < ss.length) (ha : a + ownN n ≤ wn (sgS ss i)) (h : fillP wr n ss i a = some s1) (hl : totS s1 ≤ l) : fillP wr' n ss i a = some s1 := by
  unfold fillP at h ⊢
  split
  · rename_i hm
    rw [if_pos hm] at h
    obtain ⟨h1, h2, h3⟩ := own_many hf hm
    have hr := room8 (k := 1) hk.wds (i := i) (a := a) (by omega)
    have hp : 8 * a + (tagW n).length ≤ (sgS ss i).length := by rw [tagW_length]; omega
    exact items_dn hw hd (itD n + itP n) n.items _ i (a + 1) s1 (fun y hy => ⟨item_own h1 y hy, fun p hp => hq p (List.mem_append_right _ (List.mem_flatMap.2 ⟨y, hy, hp⟩))⟩) (hk.put hi hp) (by rw [putS_length]; exact hi) (by rw [← (put_alen hi hp).wn]; omega) h hl
  · rename_i hm
    rw [if_neg hm] at h
    obtain ⟨h1, h2⟩ := own_plain hf hm
    exact body_dn hw hd (fun p hp => hq p (List.mem_append_left _ hp)) hk hi (by omega) h hl
theorem room_dn {L l size : Nat} {n : Nd} {ss s1 : Segs} {i a j c : Nat} (hk : SOk L ss) (hi : i < ss.length) (ha : a < wn (sgS ss i)) (h : roomP L size n ss i a = some (s1, j, c)) (hl : totS s1 ≤ l) : roomP l size n ss i a = some (s1, j, c) := by
  have hx := h
  unfold roomP at h ⊢
  split
  · rename_i hf
    rw [if_pos hf] at h
    split at h
    · rename_i ht
      have e : totS s1 = totS ss + ownN n := by
        injection h with h
        injection h with h1 h2
        subst h1
        have hi' : i < (growB ss i (ownN n)).length := by rw [growB_length]; exact hi
        have hg := hk.grow hi ht
        have hr := room8 (k := 1) hg.wds (i := i) (a := a) (by rw [wn_grow hi]; omega)
        rw [put_totS hi' (by rw [ptrW_length]; omega), grow_totS hi]
      rw [if_pos (by omega)]; exact h
    · cases h
  · rename_i hf
    rw [if_neg hf] at h
    split at h
    · cases h
    · rename_i s0 j0 ho
      split at h
      · rename_i ht
        obtain ⟨h1, h2, h3⟩ := other_some hk ho
        have e : totS s1 = totS s0 + (1 + ownN n) := by
          injection h with h
          injection h with e1 e2
          subst e1
          have hg := h1.grow h3 ht
          have hi' : i < (growB s0 j0 (1 + ownN n)).length := by rw [growB_length]; exact Nat.lt_of_lt_of_le hi h2.1
          have hai : a < wn (sgS (growB s0 j0 (1 + ownN n)) i) := Nat.lt_of_lt_of_le ha ((h2.trans (grow_grew h3)).wn i)
          have hr := room8 (k := 1) hg.wds (i := i) (a := a) (by omega)
          have hp : 8 * a + (farW (wn (sgS s0 j0)) j0).length ≤ (sgS (growB s0 j0 (1 + ownN n)) i).length := by rw [farW_length]; omega
          have hj2 : j0 < (putS (growB s0 j0 (1 + ownN n)) i a (farW (wn (sgS s0 j0)) j0)).length := by rw [putS_length, growB_length]; exact h3
          have hg2 := hg.put hi' hp
          have hwj : wn (sgS (putS (growB s0 j0 (1 + ownN n)) i a (farW (wn (sgS s0 j0)) j0)) j0) = wn (sgS s0 j0) + (1 + ownN n) := by rw [← (put_alen hi' hp).wn, wn_grow h3]
          have hr2 := room8 (k := 1) hg2.wds (i := j0) (a := wn (sgS s0 j0)) (by omega)
          rw [put_totS hj2 (by rw [ptrW_length]; omega), put_totS hi' hp, grow_totS h3]
        rw [if_pos (by omega)]; exact h
      · cases h
theorem wr_dn (L l size : Nat) : ∀ d, WrDn L l (wrP L size d) (wrP l size d) (fun n => okN d n = true)
  | 0 => fun p ss i a s1 _ _ _ _ h _ => h
  | d + 1 => fun n ss i a s1 hn hk hi ha h hl => by
    simp only [wrP] at h ⊢
    split
    · rename_i hk0; rw [if_pos hk0] at h; exact h
    · rename_i hk0
      rw [if_neg hk0] at h
      split
      · rename_i hp; rw [if_pos hp] at h; exact h
      · rename_i hp
        rw [if_neg hp, Option.bind_eq_some_iff] at h
        obtain ⟨⟨s2, j, c⟩, h1, h2⟩ := h
        obtain ⟨k2, g2, hj, hc⟩ := room_some hk hi ha h1
        obtain ⟨k3, g3⟩ := fill_some (wr_some L size d) (ok_formN hn) (ok_within hn hk0) k2 hj hc h2
        rw [room_dn hk hi ha h1 (Nat.le_trans (grew_tot g3) hl), Option.bind_some]
        exact fill_dn (wr_some L size d) (wr_dn L l size d) (ok_formN hn) (ok_within hn hk0) k2 hj hc h2 hl
theorem SOKL (L : Nat) (hL : 1 ≤ L) : SOk L [zer 1] := ⟨fun i => by
  match i with
  | 0 => rfl
  | i + 1 => rfl, by decide, by decide, hL⟩
theorem build_lim {size : Nat} {n : Nd} (hok : okN 8 n = true) (L : Nat) (hL : 200 ≤ L) : buildP 200 size n = (buildP L size n).bind fun ss => if totS ss ≤ 200 then some ss else none := by
  unfold buildP
  cases h : wrP L size 8 n [zer 1] 0 0 with
  | none =>
    cases h2 : wrP 200 size 8 n [zer 1] 0 0 with
    | none => rfl
    | some s => rw [wr_up size hL 8 _ _ _ _ _ h2] at h; cases h
  | some s =>
    rw [Option.bind_some]
    by_cases ht : totS s ≤ 200
    · rw [if_pos ht]
      exact wr_dn L 200 size 8 _ _ _ _ _ hok (SOKL L (by omega)) (by decide) (by decide) h ht
    · rw [if_neg ht]
      cases h2 : wrP 200 size 8 n [zer 1] 0 0 with
      | none => rfl
      | some s' =>
        have h3 := wr_up size hL 8 _ _ _ _ _ h2
        rw [h3] at h
        injection h with h
        subst h
        exact absurd (wr_some 200 size 8 _ _ _ _ _ hok (SOKL 200 (by omega)) (by decide) (by decide) h2).1.totS ht
end Go.Proofs.YtbijfkpilncclaaGreat

namespace Go.Proofs.YtbijfkpilncclaaGreat
open Go.RowKit
theorem bits_rest {d : ByteArray} {b : Int} (_h0 : 0 ≤ b) (hs : (d.size : Int) = (b + 7) / 8) (h8 : b % 8 = 0) : bitsB d b = true := by simp [bitsB, hs, h8]
theorem div_pow (x r : Nat) : ((x : Int) / (2 : Int) ^ r == 0) = decide (x < 2 ^ r) := by
  have h : (2 : Int) ^ r = ((2 ^ r : Nat) : Int) := by simp
  have hp : 0 < 2 ^ r := Nat.two_pow_pos r
  rw [h, Bool.eq_iff_iff]
  generalize 2 ^ r = p at *
  rw [← Int.natCast_ediv]
  simp only [beq_iff_eq, decide_eq_true_eq]
  have := Nat.div_eq_zero_iff (a := x) (b := p)
  omega
set_option maxHeartbeats 4000000 in
set_option maxRecDepth 100000 in
theorem l4Plain_a (k s c : Int) (d : ByteArray) (A B : Option Addr) (lp cp li ci : Nat) (w : World) (h0 : 0 ≤ s) (h5 : s ≤ 5) (c0 : 0 ≤ c) (c1 : c ≤ 12800) (_hdm : d.size ≤ maxLen) :
    Calls Tryz.prog 130 #[.agg #[.int .i64 k, .string d, .slice A lp cp, .int .i64 s, .int .i64 c, .slice B li ci]] w fun e w' => e = .returned (.bool (bitsB d (c * bz s))) ∧ Below w.heap.size w w' := by
  have HBY := Lib.hid (fun W => l4Bytes_a s c W h0 (by omega) c0 c1)
  have HBZ : Hid (byteZ s c = (c * bz s + 7) / 8) := Lib.hid (by unfold byteZ; rw [Int.mul_comm])
  have HR := Lib.hid (heap_alloc_new w (.cells #[.int .i64 k, .string d, .slice A lp cp, .int .i64 s, .int .i64 c, .slice B li ci] nodeT))
  have HBA := Lib.hid ((Below.refl w.heap.size w).alloc (Nat.le_refl _) (.cells #[.int .i64 k, .string d, .slice A lp cp, .int .i64 s, .int .i64 c, .slice B li ci] nodeT))
  have hby : 0 ≤ byteZ s c ∧ byteZ s c ≤ 102401 := by
    have hb := bz_le s
    have h1 := Int.mul_nonneg hb.1 c0
    have h2 := Int.mul_le_mul hb.2 c1 c0 (by omega)
    unfold byteZ; omega
  obtain ⟨by_, hbyd⟩ : ∃ z, z = byteZ s c := ⟨_, rfl⟩
  rw [← hbyd] at HBY HBZ hby
  clear hbyd
  by_cases hne : (d.size : Int) = by_
  · have hneb : ((d.size : Int) != by_) = false := by rw [hne]; simp
    have HSZ : Hid ((d.size : Int) = (c * bz s + 7) / 8) := Lib.hid (by rw [hne, HBZ.out])
    have HNE := Lib.hid hne
    clear hne
    go_enter Tryz.func130, Tryz.ntmps130
    go_wp2_with fail
    generalize w.alloc (.cells #[.int .i64 k, .string d, .slice A lp cp, .int .i64 s, .int .i64 c, .slice B li ci] nodeT) = W at *
    obtain ⟨e0, e1, e2, e3, e4, e5⟩ := cells6 HR.out
    have q1 := cell_regrown e1
    have q3 := cell_regrown e3
    have q4 := cell_regrown e4
    refine wp_region_quiet_below (by kernel_rfl) (by kernel_rfl) ?_
    repeat (first | go_big_quiet_step ((go_at_call 143; with_reducible exact Calls.regrown_of (HBY.out _))) | quiet_step ((go_at_call 143; with_reducible exact Calls.regrown_of (HBY.out _))))
    refine wpQuiet_nil ?_
    intro _ hw'
    obtain ⟨⟨dq, osq⟩, hw''⟩ := hw'
    subst hw''
    have HB2 := Lib.hid (HBA.out.trans ((below_regrown W dq osq).mono HBA.out.size))
    have HR2 := Lib.hid (((below_regrown W dq osq).block _ (row_lt HR.out)).trans HR.out)
    clear q1 q3 q4 e0 e1 e2 e3 e4 e5
    generalize «Sort».grow (redrawn W dq) osq = W2 at *
    obtain ⟨e0, e1, e2, e3, e4, e5⟩ := cells6 HR2.out
    clear HR HBA HBY
    by_cases hs1 : s = 1
    · subst hs1
      have hc1 : c * bz 1 = c := by rw [show bz 1 = 1 from rfl, Int.mul_one]
      rw [hc1] at HSZ
      have HC1 := Lib.hid hc1
      clear hc1
      by_cases h8 : c % 8 = 0
      · have HX := Lib.hid (bits_rest c0 HSZ.out h8)
        go_wp2
        go_ret
        exact ⟨by rw [HC1.out, HX.out]; rfl, HB2.out⟩
      · obtain ⟨j, hj⟩ : ∃ j, d.size = j + 1 := ⟨d.size - 1, by have := HSZ.out; omega⟩
        have hlt : j < d.size := by omega
        have hln : (d.size : Int) - 1 = (j : Int) := by omega
        have hjm : j ≤ 10000000 := by have := HSZ.out; omega
        have HLN := Lib.hid (lastN_eq hj hlt)
        have hx : (d[j]).toNat < 256 := (d[j]).toNat_lt
        have h8b : (c % 8 == 0) = false := by simpa using h8
        have HX : Hid (bitsB d c = decide ((d[j]).toNat < 2 ^ (c % 8).toNat)) := Lib.hid (by
          unfold bitsB
          rw [decide_eq_true HSZ.out, decide_eq_false h8, HLN.out]
          rfl)
        have hw : wrap64 ((d[j]).toNat : Int) = ((d[j]).toNat : Int) := by
          simp only [wrap64]
          omega
        have HW := Lib.hid hw
        have H8 := Lib.hid h8
        clear hj h8 hw
        go_wp2
        go_ret
        refine ⟨?_, HB2.out⟩
        rw [HC1.out, HX.out]
        exact ret_bool (div_pow _ _)
    · have hs1b : (s != 1) = true := by simpa using hs1
      have HX : Hid (bitsB d (c * bz s) = true) := Lib.hid (bits_rest (Int.mul_nonneg c0 (bz_le s).1) HSZ.out (by
        have : s = 0 ∨ s = 2 ∨ s = 3 ∨ s = 4 ∨ s = 5 := by omega
        rcases this with rfl | rfl | rfl | rfl | rfl
        · rw [show bz 0 = 0 from rfl]; omega
        · rw [show bz 2 = 8 from rfl]; omega
        · rw [show bz 3 = 16 from rfl]; omega
        · rw [show bz 4 = 32 from rfl]; omega
        · rw [show bz 5 = 64 from rfl]; omega))
      go_wp2
      go_ret
      exact ⟨by rw [HX.out]; rfl, HB2.out⟩
  · have hneb : ((d.size : Int) != by_) = true := by simpa using hne
    have HX : Hid (bitsB d (c * bz s) = false) := Lib.hid (by unfold bitsB; rw [← HBZ.out, decide_eq_false hne]; rfl)
    clear hne
    go_enter Tryz.func130, Tryz.ntmps130
    go_wp2_with fail
    generalize w.alloc (.cells #[.int .i64 k, .string d, .slice A lp cp, .int .i64 s, .int .i64 c, .slice B li ci] nodeT) = W at *
    obtain ⟨e0, e1, e2, e3, e4, e5⟩ := cells6 HR.out
    have q1 := cell_regrown e1
    have q3 := cell_regrown e3
    have q4 := cell_regrown e4
    refine wp_region_quiet_below (by kernel_rfl) (by kernel_rfl) ?_
    repeat (first | go_big_quiet_step ((go_at_call 143; with_reducible exact Calls.regrown_of (HBY.out _))) | quiet_step ((go_at_call 143; with_reducible exact Calls.regrown_of (HBY.out _))))
    refine wpQuiet_nil ?_
    intro _ hw'
    obtain ⟨⟨dq, osq⟩, hw''⟩ := hw'
    subst hw''
    have HB2 := Lib.hid (HBA.out.trans ((below_regrown W dq osq).mono HBA.out.size))
    clear q1 q3 q4 e0 e1 e2 e3 e4 e5
    generalize «Sort».grow (redrawn W dq) osq = W2 at *
    go_wp2
    go_ret
    exact ⟨by rw [HX.out]; rfl, HB2.out⟩
end Go.Proofs.YtbijfkpilncclaaGreat
