/- How many words a node takes by itself. -/
import Derived.Test.YtfiiopchfmcjdaaNdHas
namespace Go.Proofs.Ytfiiopchfmcjdaa
open Go.RowKit
/-- words of bytes, and pointers. -/
def ownB (n : Nd) : Nat := (n.data.size + 7) / 8 + n.ptrs.length
/-- how many words a node takes, without what is within. -/
def ownN (n : Nd) : Nat := ownB n + (if n.kind = 2 ∧ n.size = 7 then 1 else 0) + (n.items.map ownB).sum
theorem ownB_tot (m : Nat) (n : Nd) (w : World) (S : Nat → Prop) (h : Hd) (hn : NdAt w S m n h) : ownB n ≤ n.data.size + totL m n.ptrs + 1 := by
  have : n.ptrs.length ≤ totL m n.ptrs := by
    cases m with
    | zero => rw [hn.2.1.zero]; simp
    | succ m => exact totL_len m _
  unfold ownB; omega
theorem own_take (l : List Nd) (k : Nat) (h : k < l.length) : ((l.take (k + 1)).map ownB).sum = ((l.take k).map ownB).sum + ownB l[k] := sum_take_succ l ownB k h
set_option maxHeartbeats 1000000 in
set_option maxRecDepth 100000 in
theorem ownWords_leaf (n : Nd) (h : Hd) (w : World) (hk : n.kind = 1) (hi : n.items.length = 0) (h1 : n.data.size ≤ 4000000) (h2 : n.ptrs.length ≤ 2000000) :
    Calls Try.prog 58 #[.agg #[.int .i64 n.kind, .string n.data, .slice h.A n.ptrs.length h.a, .int .i64 n.size, .int .i64 n.count, .slice h.B n.items.length h.b]] w fun e w' => e = .returned (.int .i64 (ownB n : Nat)) ∧ Below w.heap.size w w' := by
  have HE : Hid (((ownB n : Nat) : Int) = ((n.data.size : Int) + 7) / 8 + n.ptrs.length) := Lib.hid (by unfold ownB; omega)
  go_enter Try.func58, Try.ntmps58
  go_wp2
  go_loopw [3, 29] (fun q i wr => q = .int .i64 (((n.data.size : Int) + 8 - 1) / 8 + n.ptrs.length) ∧ i = .int .i64 0 ∧ Hid (Below w.heap.size w wr)) (fun _ _ _ => 0)
  case atStart => exact ⟨rfl, rfl, Lib.hid ((Below.refl _ _).alloc (Nat.le_refl _) _)⟩
  case round =>
    obtain ⟨rfl, rfl, HB⟩ := hrel
    go_wp2
    go_ret
    refine ⟨by rw [HE.out]; exact ret_int (by omega), HB.out⟩
/-- which forms there are. -/
theorem form_cases {n : Nd} (h : formN n = true) :
    (n.kind = 0 ∧ n.data.size = 0 ∧ n.ptrs.length = 0 ∧ n.size = 0 ∧ n.count = 0 ∧ n.items.length = 0) ∨
    (n.kind = 1 ∧ (n.data.size : Int) % 8 = 0 ∧ n.size = 0 ∧ n.count = 0 ∧ n.items.length = 0) ∨
    (n.kind = 2 ∧ (0 ≤ n.count ∧ n.count < 12801) ∧ ((0 ≤ n.size ∧ n.size ≤ 5 ∧ bitsB n.data (n.count * bz n.size) = true ∧ n.ptrs.length = 0 ∧ n.items.length = 0) ∨ (n.size = 6 ∧ n.data.size = 0 ∧ (n.ptrs.length : Int) = n.count ∧ n.items.length = 0) ∨ (n.size = 7 ∧ n.data.size = 0 ∧ n.ptrs.length = 0 ∧ (n.items.length : Int) = n.count ∧ itemsB n.items = true))) := by
  unfold formN noneN strN listN at h
  rw [Bool.or_eq_true, Bool.or_eq_true] at h
  rcases h with h | h | h
  · left; simpa [noneB, and_assoc] using h
  · right; left; simpa [structB] using h
  · right; right
    unfold listB at h
    rw [Bool.and_eq_true, Bool.and_eq_true] at h
    obtain ⟨h1, h2, h3⟩ := h
    refine ⟨by simpa using h1, by simpa [wiB] using h2, ?_⟩
    split at h3
    · rename_i hs
      left
      refine ⟨hs.1, hs.2, ?_⟩
      simpa using h3
    · split at h3
      · rename_i hs
        right; left
        refine ⟨hs, ?_⟩
        simpa using h3
      · split at h3
        · rename_i hs
          right; right
          refine ⟨hs, ?_⟩
          simpa [and_assoc] using h3
        · cases h3
theorem items_str {l : List Nd} (h : itemsB l = true) : ∀ n ∈ l, n.kind = 1 ∧ (n.data.size : Int) % 8 = 0 ∧ n.items.length = 0 := by
  intro n hn
  have := List.all_eq_true.1 h n hn
  unfold itemB at this
  rw [Bool.and_eq_true] at this
  have h1 := this.1
  simp [structB] at h1
  exact ⟨h1.1, h1.2.1, by simpa using h1.2.2.2.2⟩
theorem form_item {n : Nd} (h : formN n = true) : ∀ x ∈ n.items, x.kind = 1 ∧ (x.data.size : Int) % 8 = 0 ∧ x.items.length = 0 := by
  intro x hx
  have hne : n.items.length ≠ 0 := by
    intro h0
    rw [List.eq_nil_of_length_eq_zero h0] at hx
    cases hx
  rcases form_cases h with h | h | ⟨_, _, h | h | h⟩
  · omega
  · omega
  · omega
  · omega
  · exact items_str h.2.2.2.2 x hx
theorem NdsAt.mem {w : World} {S : Nat → Prop} {m : Nat} {A : Option Addr} {l : List Nd} (h : NdsAt w S (m + 1) A l) : ∀ n ∈ l, ∃ h, NdAt w S m n h := by
  obtain ⟨_, q, rfl, _, hr⟩ := h
  intro n hn
  obtain ⟨r, hr1, rfl⟩ := List.mem_map.1 hn
  exact ⟨r.2, hr r hr1⟩
theorem len_tot {w : World} {S : Nat → Prop} {m : Nat} {A : Option Addr} {l : List Nd} (h : NdsAt w S m A l) : l.length ≤ totL m l := by
  cases m with
  | zero => rw [h.zero]; simp
  | succ m => exact totL_len m l
theorem ownB_le {w : World} {S : Nat → Prop} {m : Nat} {n : Nd} {h : Hd} (hn : NdAt w S m n h) : ownB n ≤ totN m n := by
  have := len_tot hn.2.1
  unfold ownB totN
  omega
theorem sum_le (l : List Nd) (f g : Nd → Nat) (h : ∀ n ∈ l, f n ≤ g n) : (l.map f).sum ≤ (l.map g).sum := by
  induction l with
  | nil => simp
  | cons a t ih =>
    have h1 := h a (List.mem_cons_self)
    have h2 := ih (fun n hn => h n (List.mem_cons_of_mem _ hn))
    simp only [List.map_cons, List.sum_cons]
    omega
theorem own_sum {w : World} {S : Nat → Prop} {m : Nat} {A : Option Addr} {l : List Nd} (h : NdsAt w S m A l) : (l.map ownB).sum ≤ totL m l := by
  cases m with
  | zero => rw [h.zero]; simp
  | succ m =>
    rw [totL_succ]
    refine sum_le l _ _ fun n hn => ?_
    obtain ⟨hd, h1⟩ := h.mem n hn
    have := ownB_le h1
    omega
theorem item_small {w : World} {S : Nat → Prop} {m : Nat} {A : Option Addr} {l : List Nd} (h : NdsAt w S m A l) : ∀ n ∈ l, n.data.size ≤ totL m l ∧ n.ptrs.length ≤ totL m l := by
  intro n hn
  cases m with
  | zero => rw [h.zero] at hn; cases hn
  | succ m =>
    obtain ⟨hd, h1⟩ := h.mem n hn
    obtain ⟨k, hk, rfl⟩ := List.mem_iff_getElem.1 hn
    have := totL_at (m := m) hk
    have hl := len_tot h1.2.1
    unfold totN at this
    omega
set_option maxHeartbeats 4000000 in
set_option maxRecDepth 100000 in
theorem ownWords_a (m : Nat) (n : Nd) (h : Hd) (w : World) (S : Nat → Prop) (hn : NdAt w S m n h) (hf : formN n = true) (ht : totN m n ≤ 2000000) :
    Calls Try.prog 58 #[.agg #[.int .i64 n.kind, .string n.data, .slice h.A n.ptrs.length h.a, .int .i64 n.size, .int .i64 n.count, .slice h.B n.items.length h.b]] w fun e w' => e = .returned (.int .i64 (ownN n : Nat)) ∧ Below w.heap.size w w' := by
  obtain ⟨qA, qa, qB, qb⟩ := h
  dsimp only at hn ⊢
  have hds : n.data.size ≤ 2000000 := by unfold totN at ht; omega
  have hpl : n.ptrs.length ≤ 2000000 := totL_len' hn.2.1 (by unfold totN at ht; omega)
  have hil : n.items.length ≤ 2000000 := totL_len' hn.2.2 (by unfold totN at ht; omega)
  obtain ⟨base, hbase⟩ : ∃ b : Nat, b = ownB n + (if n.kind = 2 ∧ n.size = 7 then 1 else 0) := ⟨_, rfl⟩
  have hob : ownB n ≤ 3000000 := by unfold ownB; omega
  have hbl : base ≤ 3000001 := by rw [hbase]; split <;> omega
  have HIT : Hid (∀ k (hk : k < n.items.length), (n.items[k]).kind = 1 ∧ (n.items[k]).items.length = 0 ∧ (n.items[k]).data.size ≤ 2000000 ∧ (n.items[k]).ptrs.length ≤ 2000000) := Lib.hid fun k hk => by
    obtain ⟨h1, h2, h3⟩ := form_item hf _ (List.getElem_mem hk)
    obtain ⟨h4, h5⟩ := item_small hn.2.2 _ (List.getElem_mem hk)
    unfold totN at ht
    exact ⟨h1, h3, by omega, by omega⟩
  have HSUM : Hid (∀ k, ((n.items.take k).map ownB).sum ≤ 2000000) := Lib.hid fun k => by
    have h1 := sum_take_le n.items ownB k
    have h2 := own_sum hn.2.2
    unfold totN at ht
    omega
  have HE : Hid (ownN n = base + (n.items.map ownB).sum) := Lib.hid (by rw [hbase]; rfl)
  have HBE := Lib.hid (show (((ownB n : Nat)) : Int) = ((n.data.size : Int) + 8 - 1) / 8 + n.ptrs.length by unfold ownB; omega)
  have HBASE := Lib.hid hbase
  have HN := Lib.hid (NdsAt.succ _ _ _ hn.2.2)
  have HB0 := Lib.hid ((Below.refl w.heap.size w).alloc (Nat.le_refl _) (.cells #[.int .i64 n.kind, .string n.data, .slice qA n.ptrs.length qa, .int .i64 n.size, .int .i64 n.count, .slice qB n.items.length qb] nodeT))
  clear hn hf ht hbase
  by_cases hk2 : n.kind = 2 ∧ n.size = 7
  all_goals
    go_enter Try.func58, Try.ntmps58
    go_wp2
    all_goals
      go_loopw [3, 29] (fun q i wr => ∃ (k : Nat) (z : Int), q = .int .i64 z ∧ i = .int .i64 k ∧ k ≤ n.items.length ∧ 0 ≤ z ∧ z ≤ 6000000 ∧ Hid (z = ((base + ((n.items.take k).map ownB).sum : Nat) : Int)) ∧ Hid (Below w.heap.size w wr)) (fun _ i _ => n.items.length - (intOf i).toNat)
      case atStart =>
        have hb := HBASE.out
        have hbe := HBE.out
        first | rw [if_pos hk2] at hb | rw [if_neg hk2] at hb
        refine ⟨0, _, rfl, rfl, by omega, by omega, by omega, Lib.hid ?_, Lib.hid ((Below.refl _ _).alloc (Nat.le_refl _) _)⟩
        rw [List.take_zero, List.map_nil, List.sum_nil]
        omega
      case round =>
        obtain ⟨k, z, rfl, rfl, hk, hz0, hz, HZ, HB⟩ := hrel
        by_cases hlt : k < n.items.length
        · obtain ⟨x, hd, rfl, hc, -⟩ := (HN.out.below HB.out).at_ hlt
          obtain ⟨i1, i2, i3, i4⟩ := HIT.out k hlt
          have HS := Lib.hid (own_take n.items k hlt)
          generalize n.items[k] = y at hc i1 i2 i3 i4 HS
          have HO := Lib.hid (fun W => ownWords_leaf y hd W i1 i2 (by omega) i4)
          have hyb : ownB y ≤ 3000000 := by unfold ownB; omega
          have hz2 : z + (ownB y : Int) ≤ 6000000 := by have := HZ.out; have := HS.out; have := HSUM.out (k + 1); omega
          generalize ownB y = v at *
          obtain ⟨d0, d1, d2, d3, d4, d5⟩ := hc
          clear i1 i2 i3 i4
          go_wp2_with fail
          refine (HO.out _).mono ?_
          rintro e w2 ⟨rfl, hb2⟩
          have HB2 := Lib.hid ((HB.out.alloc HB.out.size _).trans (hb2.mono (by have := HB.out.size; simp; omega)))
          clear hb2
          go_wp2
          go_roundw
          case rel => exact ⟨k + 1, _, rfl, by go_num, by omega, by omega, hz2, Lib.hid (by rw [HZ.out, HS.out]; omega), HB2⟩
          case measure => simp [intOf]; omega
        · obtain rfl : k = n.items.length := by omega
          rw [List.take_of_length_le (Nat.le_refl _)] at HZ
          go_wp2
          go_ret
          exact ⟨by rw [HE.out, ← HZ.out]; rfl, HB.out⟩
end Go.Proofs.Ytfiiopchfmcjdaa
