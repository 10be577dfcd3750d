/- Texts of the proof of the law FnExactRecordGet, side by side: part 3. -/
import Derived.Laws.AppendOwn
import Derived.Test.YtehhbbdaeonebaaGreatDoorMExactRecordGet02
set_option maxHeartbeats 8000000
set_option maxRecDepth 100000
namespace Go.Proofs.YtehhbbdaeonebaaGreatDoor
open Go.RowKit
def ownB (n : Nd) : Nat := (n.data.size + 7) / 8 + n.ptrs.length
def ownN (n : Nd) : Nat := ownB n + (if n.kind = 2 ∧ n.size = 7 then 1 else 0) + (n.items.map ownB).sum
theorem own_take (l : List Nd) (k : Nat) (h : k < l.length) : ((l.take (k + 1)).map ownB).sum = ((l.take k).map ownB).sum + ownB l[k] := sum_take_succ l ownB k h
theorem ownWords_leaf (n : Nd) (h : Hd) (w : World) (hk : n.kind = 1) (hi : n.items.length = 0) (h1 : n.data.size ≤ 4000000) (h2 : n.ptrs.length ≤ 2000000) :
 Calls Tryz.prog 102 #[.agg #[.int .i64 n.kind, .string n.data, .slice h.A n.ptrs.length h.a, .int .i64 n.size, .int .i64 n.count, .slice h.B n.items.length h.b]] w fun e w' => e = .returned (.int .i64 (ownB n : Nat)) ∧ Below w.heap.size w w' := by
 have HE : Hid (((ownB n : Nat) : Int) = ((n.data.size : Int) + 7) / 8 + n.ptrs.length) := Lib.hid (by unfold ownB; omega)
 go_enter Tryz.func102, Tryz.ntmps102
 go_wp2
 go_loopw [3, 29] (fun q i wr => q = .int .i64 (((n.data.size : Int) + 8 - 1) / 8 + n.ptrs.length) ∧ i = .int .i64 0 ∧ Hid (Below w.heap.size w wr)) (fun _ _ _ => 0)
 case atStart => exact ⟨rfl, rfl, Lib.hid ((Below.refl _ _).alloc (Nat.le_refl _) _)⟩
 case round =>
  obtain ⟨rfl, rfl, HB⟩ := hrel
  go_wp2
  go_ret
  refine ⟨by rw [HE.out]; exact ret_int (by omega), HB.out⟩
theorem form_cases {n : Nd} (h : formN n = true) :
 (n.kind = 0 ∧ n.data.size = 0 ∧ n.ptrs.length = 0 ∧ n.size = 0 ∧ n.count = 0 ∧ n.items.length = 0) ∨
 (n.kind = 1 ∧ (n.data.size : Int) % 8 = 0 ∧ n.size = 0 ∧ n.count = 0 ∧ n.items.length = 0) ∨
 (n.kind = 2 ∧ (0 ≤ n.count ∧ n.count < 12801) ∧ ((0 ≤ n.size ∧ n.size ≤ 5 ∧ bitsB n.data (n.count * bz n.size) = true ∧ n.ptrs.length = 0 ∧ n.items.length = 0) ∨ (n.size = 6 ∧ n.data.size = 0 ∧ (n.ptrs.length : Int) = n.count ∧ n.items.length = 0) ∨ (n.size = 7 ∧ n.data.size = 0 ∧ n.ptrs.length = 0 ∧ (n.items.length : Int) = n.count ∧ itemsB n.items = true))) := by
 unfold formN noneN strN listN at h
 rw [Bool.or_eq_true, Bool.or_eq_true] at h
 rcases h with h | h | h
 · left; simpa [noneB, and_assoc] using h
 · right; left; simpa [structB] using h
 · right; right
   unfold listB at h
   rw [Bool.and_eq_true, Bool.and_eq_true] at h
   obtain ⟨h1, h2, h3⟩ := h
   refine ⟨by simpa using h1, by simpa [wiB] using h2, ?_⟩
   split at h3
   · rename_i hs
     left
     refine ⟨hs.1, hs.2, ?_⟩
     simpa using h3
   · split at h3
     · rename_i hs
       right; left
       refine ⟨hs, ?_⟩
       simpa using h3
     · split at h3
       · rename_i hs
         right; right
         refine ⟨hs, ?_⟩
         simpa [and_assoc] using h3
       · cases h3
theorem items_str {l : List Nd} (h : itemsB l = true) : ∀ n ∈ l, n.kind = 1 ∧ (n.data.size : Int) % 8 = 0 ∧ n.items.length = 0 := by
 intro n hn
 have := List.all_eq_true.1 h n hn
 unfold itemB at this
 rw [Bool.and_eq_true] at this
 have h1 := this.1
 simp [structB] at h1
 exact ⟨h1.1, h1.2.1, by simpa using h1.2.2.2.2⟩
theorem form_item {n : Nd} (h : formN n = true) : ∀ x ∈ n.items, x.kind = 1 ∧ (x.data.size : Int) % 8 = 0 ∧ x.items.length = 0 := by
 intro x hx
 have hne : n.items.length ≠ 0 := by
  intro h0
  rw [List.eq_nil_of_length_eq_zero h0] at hx
  cases hx
 rcases form_cases h with h | h | ⟨_, _, h | h | h⟩
 · omega
 · omega
 · omega
 · omega
 · exact items_str h.2.2.2.2 x hx
theorem NdsAt.mem {w : World} {S : Nat → Prop} {m : Nat} {A : Option Addr} {l : List Nd} (h : NdsAt w S (m + 1) A l) : ∀ n ∈ l, ∃ h, NdAt w S m n h := by
 obtain ⟨_, q, rfl, _, hr⟩ := h
 intro n hn
 obtain ⟨r, hr1, rfl⟩ := List.mem_map.1 hn
 exact ⟨r.2, hr r hr1⟩
theorem len_tot {w : World} {S : Nat → Prop} {m : Nat} {A : Option Addr} {l : List Nd} (h : NdsAt w S m A l) : l.length ≤ totL m l := by
 cases m with
 | zero => rw [h.zero]; simp
 | succ m => exact totL_len m l
theorem ownB_le {w : World} {S : Nat → Prop} {m : Nat} {n : Nd} {h : Hd} (hn : NdAt w S m n h) : ownB n ≤ totN m n := by
 have := len_tot hn.2.1
 unfold ownB totN
 omega
theorem sum_le (l : List Nd) (f g : Nd → Nat) (h : ∀ n ∈ l, f n ≤ g n) : (l.map f).sum ≤ (l.map g).sum := by
 induction l with
 | nil => simp
 | cons a t ih =>
  have h1 := h a (List.mem_cons_self)
  have h2 := ih (fun n hn => h n (List.mem_cons_of_mem _ hn))
  simp only [List.map_cons, List.sum_cons]
  omega
theorem own_sum {w : World} {S : Nat → Prop} {m : Nat} {A : Option Addr} {l : List Nd} (h : NdsAt w S m A l) : (l.map ownB).sum ≤ totL m l := by
 cases m with
 | zero => rw [h.zero]; simp
 | succ m =>
  rw [totL_succ]
  refine sum_le l _ _ fun n hn => ?_
  obtain ⟨hd, h1⟩ := h.mem n hn
  have := ownB_le h1
  omega
theorem item_small {w : World} {S : Nat → Prop} {m : Nat} {A : Option Addr} {l : List Nd} (h : NdsAt w S m A l) : ∀ n ∈ l, n.data.size ≤ totL m l ∧ n.ptrs.length ≤ totL m l := by
 intro n hn
 cases m with
 | zero => rw [h.zero] at hn; cases hn
 | succ m =>
  obtain ⟨hd, h1⟩ := h.mem n hn
  obtain ⟨k, hk, rfl⟩ := List.mem_iff_getElem.1 hn
  have := totL_at (m := m) hk
  have hl := len_tot h1.2.1
  unfold totN at this
  omega
theorem ownWords_a (m : Nat) (n : Nd) (h : Hd) (w : World) (S : Nat → Prop) (hn : NdAt w S m n h) (hf : formN n = true) (ht : totN m n ≤ 2000000) :
 Calls Tryz.prog 102 #[.agg #[.int .i64 n.kind, .string n.data, .slice h.A n.ptrs.length h.a, .int .i64 n.size, .int .i64 n.count, .slice h.B n.items.length h.b]] w fun e w' => e = .returned (.int .i64 (ownN n : Nat)) ∧ Below w.heap.size w w' := by
 obtain ⟨qA, qa, qB, qb⟩ := h
 dsimp only at hn ⊢
 have hds : n.data.size ≤ 2000000 := by unfold totN at ht; omega
 have hpl : n.ptrs.length ≤ 2000000 := totL_len' hn.2.1 (by unfold totN at ht; omega)
 have hil : n.items.length ≤ 2000000 := totL_len' hn.2.2 (by unfold totN at ht; omega)
 obtain ⟨base, hbase⟩ : ∃ b : Nat, b = ownB n + (if n.kind = 2 ∧ n.size = 7 then 1 else 0) := ⟨_, rfl⟩
 have hob : ownB n ≤ 3000000 := by unfold ownB; omega
 have hbl : base ≤ 3000001 := by rw [hbase]; split <;> omega
 have HIT : Hid (∀ k (hk : k < n.items.length), (n.items[k]).kind = 1 ∧ (n.items[k]).items.length = 0 ∧ (n.items[k]).data.size ≤ 2000000 ∧ (n.items[k]).ptrs.length ≤ 2000000) := Lib.hid fun k hk => by
  obtain ⟨h1, h2, h3⟩ := form_item hf _ (List.getElem_mem hk)
  obtain ⟨h4, h5⟩ := item_small hn.2.2 _ (List.getElem_mem hk)
  unfold totN at ht
  exact ⟨h1, h3, by omega, by omega⟩
 have HSUM : Hid (∀ k, ((n.items.take k).map ownB).sum ≤ 2000000) := Lib.hid fun k => by
  have h1 := sum_take_le n.items ownB k
  have h2 := own_sum hn.2.2
  unfold totN at ht
  omega
 have HE : Hid (ownN n = base + (n.items.map ownB).sum) := Lib.hid (by rw [hbase]; rfl)
 have HBE := Lib.hid (show (((ownB n : Nat)) : Int) = ((n.data.size : Int) + 8 - 1) / 8 + n.ptrs.length by unfold ownB; omega)
 have HBASE := Lib.hid hbase
 have HN := Lib.hid (NdsAt.succ _ _ _ hn.2.2)
 have HB0 := Lib.hid ((Below.refl w.heap.size w).alloc (Nat.le_refl _) (.cells #[.int .i64 n.kind, .string n.data, .slice qA n.ptrs.length qa, .int .i64 n.size, .int .i64 n.count, .slice qB n.items.length qb] nodeT))
 clear hn hf ht hbase
 by_cases hk2 : n.kind = 2 ∧ n.size = 7
 all_goals
  go_enter Tryz.func102, Tryz.ntmps102
  go_wp2
  all_goals
   go_loopw [3, 29] (fun q i wr => ∃ (k : Nat) (z : Int), q = .int .i64 z ∧ i = .int .i64 k ∧ k ≤ n.items.length ∧ 0 ≤ z ∧ z ≤ 6000000 ∧ Hid (z = ((base + ((n.items.take k).map ownB).sum : Nat) : Int)) ∧ Hid (Below w.heap.size w wr)) (fun _ i _ => n.items.length - (intOf i).toNat)
   case atStart =>
    have hb := HBASE.out
    have hbe := HBE.out
    first | rw [if_pos hk2] at hb | rw [if_neg hk2] at hb
    refine ⟨0, _, rfl, rfl, by omega, by omega, by omega, Lib.hid ?_, Lib.hid ((Below.refl _ _).alloc (Nat.le_refl _) _)⟩
    rw [List.take_zero, List.map_nil, List.sum_nil]
    omega
   case round =>
    obtain ⟨k, z, rfl, rfl, hk, hz0, hz, HZ, HB⟩ := hrel
    by_cases hlt : k < n.items.length
    · obtain ⟨x, hd, rfl, hc, -⟩ := (HN.out.below HB.out).at_ hlt
      obtain ⟨i1, i2, i3, i4⟩ := HIT.out k hlt
      have HS := Lib.hid (own_take n.items k hlt)
      generalize n.items[k] = y at hc i1 i2 i3 i4 HS
      have HO := Lib.hid (fun W => ownWords_leaf y hd W i1 i2 (by omega) i4)
      have hyb : ownB y ≤ 3000000 := by unfold ownB; omega
      have hz2 : z + (ownB y : Int) ≤ 6000000 := by have := HZ.out; have := HS.out; have := HSUM.out (k + 1); omega
      generalize ownB y = v at *
      obtain ⟨d0, d1, d2, d3, d4, d5⟩ := hc
      clear i1 i2 i3 i4
      go_wp2_with fail
      refine (HO.out _).mono ?_
      rintro e w2 ⟨rfl, hb2⟩
      have HB2 := Lib.hid ((HB.out.alloc HB.out.size _).trans (hb2.mono (by have := HB.out.size; simp; omega)))
      clear hb2
      go_wp2
      go_roundw
      case rel => exact ⟨k + 1, _, rfl, by go_num, by omega, by omega, hz2, Lib.hid (by rw [HZ.out, HS.out]; omega), HB2⟩
      case measure => simp [intOf]; omega
    · obtain rfl : k = n.items.length := by omega
      rw [List.take_of_length_le (Nat.le_refl _)] at HZ
      go_wp2
      go_ret
      exact ⟨by rw [HE.out, ← HZ.out]; rfl, HB.out⟩
theorem run_append_none (v : Value) (c : Nat) (ty : TypeId) (w : World) (hv : v = .slice none 0 0 ∨ ∃ g n cap, v = .slice (some g) n cap ∧ n ≤ cap) :
 (Builtin.append_ #[nodesT, nodesT] ty #[v, .slice none 0 c]).run Tryz.prog w = .ok v w := by
 obtain ⟨i0, hi, hz0, hz1, hz2⟩ := info_parts infoNd
 rcases hv with rfl | ⟨g, n, cap, rfl, hn⟩
 · simp [Builtin.append_, run_underlying (P := Tryz.prog) Tryz.underlying28, sizeOf, typeInfo, hi, Builtin.lenOf, run_firstCells_none]
 · simp [Builtin.append_, run_underlying (P := Tryz.prog) Tryz.underlying28, sizeOf, typeInfo, hi, Builtin.lenOf, hn, run_firstCells_none, storeCells]
def Src (w : World) (A : Option Addr) (q : List (Nd × Hd)) : Prop := q = [] ∨ ∃ x, A = some x ∧ ∀ j u, (rowOf q)[j]? = some u → w.cell? (x.add j) = some u
theorem run_append_src (base : Nat) (ty : TypeId) (w : World) (v : Value) (n : Nat) (xs : List Value) (hown : w.ownsRow base nodeT 6 v n xs) (A : Option Addr) (c : Nat) (q : List (Nd × Hd)) (hq : Src w A q) (hb : n + q.length ≤ 4000000) (hbase : base ≤ w.heap.size) :
 ∃ v' w', (Builtin.append_ #[nodesT, nodesT] ty #[v, .slice A q.length c]).run Tryz.prog w = .ok v' w' ∧ w'.ownsRow base nodeT 6 v' (n + q.length) (xs ++ rowOf q) ∧ w.grownBy w' v.ownBlock := by
 obtain ⟨i0, hi, hz0, hz1, hz2⟩ := info_parts infoNd
 cases A with
 | none =>
  have h0 : q = [] := by
   rcases hq with h | ⟨x, hx, _⟩
   · exact h
   · cases hx
  subst h0
  refine ⟨v, w, run_append_none v c ty w ?_, by simpa [rowOf] using hown, ⟨rfl, rfl, rfl, Nat.le_refl _, fun _ _ _ => rfl⟩⟩
  rcases hown.2 with ⟨rfl, _⟩ | ⟨g, cap, cur, rfl, _, _, hc, _⟩
  · exact .inl rfl
  · exact .inr ⟨_, _, _, rfl, hc⟩
 | some x =>
  have hnews : ∀ (j : Nat) (u : Value), (rowOf q)[j]? = some u → w.cell? (x.add j) = some u := by
   rcases hq with h | ⟨x', hx, h⟩
   · subst h; intro j u hj; simp [rowOf] at hj
   · obtain rfl := Option.some.inj hx; exact h
  obtain ⟨v', w', h1, h2, h3, _⟩ := run_append_own (P := Tryz.prog) w base nodesT ty nodeT i0 _ 6 88 Tryz.underlying28 hi hz0 hz1 hz2 rfl (by decide) v n xs hown x q.length c (rowOf q) (rowOf_length q) hnews (rowOf_one q) (by unfold maxLen; omega) (by omega) hbase
  exact ⟨v', w', h1, h2, h3⟩
theorem wpList_append_src {ops : Array Oper} {rest : List Oper} {o : Oper} {a : Act} {w : World} {Q : Exit → Act → World → Prop} (hgd : o.guard = none) (s x : Operand)
 (ho : o.op = .call { callee := .builtin .append, args := #[s, x], argTypes := #[nodesT, nodesT] })
 (base : Nat) (v : Value) (n : Nat) (xs : List Value) (hs : a.eval s = v) (hown : w.ownsRow base nodeT 6 v n xs)
 (A : Option Addr) (c k : Nat) (q : List (Nd × Hd)) (hk : k = q.length) (hx : a.eval x = .slice A k c) (hq : Src w A q) (hb : n + q.length ≤ 4000000) (hbase : base ≤ w.heap.size)
 (h : ∀ v' w', w'.ownsRow base nodeT 6 v' (n + q.length) (xs ++ rowOf q) → w.grownBy w' v.ownBlock → wpList Tryz.prog ops Q rest (a.put o.dst v') w') : wpList Tryz.prog ops Q (o :: rest) a w :=
 wpList_plain hgd fun _ hK => by
  subst hk
  obtain ⟨v', w', hr, h2, h3⟩ := run_append_src base o.type w v n xs hown A c q hq hb hbase
  unfold Oper.wp execOp
  simp only [ho, resolve, invoke, builtin, Sem.run_bind, Sem.run_pure, Result.andThen_ok, List.map_toArray, List.map_cons, List.map_nil, hs, hx, hr]
  exact hK _ _ (h v' w' h2 h3)
def ptrsL (n : Nd) : List Nd := n.ptrs ++ n.items.flatMap Nd.ptrs
theorem src_of {w : World} {S : Nat → Prop} {m : Nat} {A : Option Addr} {l : List Nd} (h : NdsAt w S m A l) : ∃ q : List (Nd × Hd), q.map (·.1) = l ∧ Src w A q ∧ ∀ r ∈ q, NdAt w S (m - 1) r.1 r.2 := by
 cases m with
 | zero =>
  obtain rfl := h.zero
  exact ⟨[], rfl, .inl rfl, fun r h => by cases h⟩
 | succ m =>
  obtain ⟨q, h1, h2, h3⟩ := h.pairs
  exact ⟨q, h1, h3, h2⟩
theorem Src.below {w w' : World} {A : Option Addr} {q : List (Nd × Hd)} (h : Src w A q) (hb : Below w.heap.size w w') : Src w' A q := by
 rcases h with h | ⟨x, hx, h⟩
 · exact .inl h
 · refine .inr ⟨x, hx, fun j u hj => ?_⟩
   have := h j u hj
   exact (hb.cell (World.block_lt_of_cell? w _ this)).trans this
theorem ptrsL_sum (l : List Nd) : (l.flatMap Nd.ptrs).length = (l.map fun n => n.ptrs.length).sum := by
 induction l with
 | nil => rfl
 | cons a t ih => simp [ih]
theorem items_ptrs {w : World} {S : Nat → Prop} {m : Nat} {A : Option Addr} {l : List Nd} (h : NdsAt w S m A l) : (l.map fun n => n.ptrs.length).sum ≤ totL m l := by
 cases m with
 | zero => rw [h.zero]; simp
 | succ m =>
  rw [totL_succ]
  refine sum_le l _ _ fun n hn => ?_
  obtain ⟨hd, h1⟩ := h.mem n hn
  have := len_tot h1.2.1
  unfold totN
  omega
theorem own_sliceN {w : World} {B e n z : Nat} {v : Value} {xs : List Value} (h : w.ownsRow B e z v n xs) : ∃ A cap, v = .slice A n cap := by
 rcases h.2 with ⟨rfl, rfl⟩ | ⟨g, cap, _, rfl, _⟩
 · exact ⟨none, 0, rfl⟩
 · exact ⟨_, cap, rfl⟩
theorem ptrsOf_a (m : Nat) (n : Nd) (h : Hd) (w : World) (S : Nat → Prop) (hn : NdAt w S m n h) (ht : totN m n ≤ 2000000) :
 Calls Tryz.prog 103 #[.agg #[.int .i64 n.kind, .string n.data, .slice h.A n.ptrs.length h.a, .int .i64 n.size, .int .i64 n.count, .slice h.B n.items.length h.b]] w fun e w' => ∃ A c, e = .returned (.slice A (ptrsL n).length c) ∧ NdsAt w' Any m A (ptrsL n) ∧ Below w.heap.size w w' := by
 obtain ⟨qA, qa, qB, qb⟩ := h
 dsimp only at hn ⊢
 have hpl : n.ptrs.length ≤ 2000000 := totL_len' hn.2.1 (by unfold totN at ht; omega)
 have hil : n.items.length ≤ 2000000 := totL_len' hn.2.2 (by unfold totN at ht; omega)
 obtain ⟨q1, hq1, hs1, hr1⟩ := src_of hn.2.1
 have hl1 : n.ptrs.length = q1.length := by rw [← hq1, List.length_map]
 have hlen : ∀ k, (n.ptrs ++ (n.items.take k).flatMap Nd.ptrs).length ≤ 2000000 := fun k => by
  rw [List.length_append, ptrsL_sum]
  have h1 := sum_take_le n.items (fun n => n.ptrs.length) k
  have h2 := items_ptrs hn.2.2
  have h3 := len_tot hn.2.1
  unfold totN at ht
  omega
 have HLEN := Lib.hid hlen
 have HN := Lib.hid hn.2.2
 have HP0 : Hid (m = 0 → n.ptrs = []) := Lib.hid (fun h => by subst h; exact hn.2.1.zero)
 have HR1 := Lib.hid (fun r hr => (hr1 r hr).weak (S' := Any) (fun _ _ => trivial))
 have HQ1 := Lib.hid hq1
 have HS1 := Lib.hid hs1
 have HL1 := Lib.hid hl1
 have hl1m : q1.length ≤ 2000000 := by omega
 clear hn hq1 hs1 hr1 hlen hl1 ht
 go_enter Tryz.func103, Tryz.ntmps103
 go_wp2_with (at_builtin; go_must (refine wpList_append_src rfl (.tmp 6) (.tmp 8) rfl w.heap.size (.slice none 0 0) 0 [] rfl (World.ownsRow_nil _ _ _ _) qA qa n.ptrs.length q1 HL1.out rfl (HS1.out.below ((Below.refl _ _).alloc (Nat.le_refl _) _)) (by omega) (by simp) ?_); intro v1 w1 hown1 hgrow1; have hk1 := (hgrow1.block w.heap.size (by simp) (by simp [Value.ownBlock])).trans (heap_alloc_new w _); have HB1 := Lib.hid (((Below.refl w.heap.size w).alloc (Nat.le_refl _) _).grown hgrow1 (by simp) (by intro k hk; simp [Value.ownBlock] at hk)); have HO1 := Lib.hid hown1; obtain ⟨b0, b1, b2, b3, b4, b5⟩ := cells6 hk1; clear hown1 hgrow1 hk1)
 rw [Nat.zero_add, List.nil_append] at HO1
 go_loopw [3, 13] (fun v i wr => ∃ (k : Nat) (q : List (Nd × Hd)), i = .int .i64 k ∧ k ≤ n.items.length ∧ Hid (wr.ownsRow w.heap.size nodeT 6 v q.length (rowOf q)) ∧ Hid (q.map (·.1) = n.ptrs ++ (n.items.take k).flatMap Nd.ptrs) ∧ Hid (∀ r ∈ q, NdAt w Any (m - 1) r.1 r.2) ∧ Hid (Below w.heap.size w wr)) (fun _ i _ => n.items.length - (intOf i).toNat)
 case atStart => exact ⟨0, q1, rfl, by omega, HO1, Lib.hid (by rw [HQ1.out]; simp), HR1, HB1⟩
 case round =>
  obtain ⟨k, q, rfl, hk, HO, HQ, HR, HB⟩ := hrel
  by_cases hlt : k < n.items.length
  · obtain ⟨j, rfl⟩ := HN.out.pred hlt
    obtain ⟨x, hd, rfl, hc0, hy⟩ := HN.out.at_ hlt
    have hc := cell_below HB.out _ _ _ hc0
    have HFL : Hid ((n.items.take (k + 1)).flatMap Nd.ptrs = (n.items.take k).flatMap Nd.ptrs ++ (n.items[k]).ptrs) := Lib.hid (by rw [List.take_succ_eq_append_getElem hlt, List.flatMap_append]; simp)
    generalize n.items[k] = y at hc hy hc0 HFL
    obtain ⟨q2, hq2, hs2, hr2⟩ := src_of hy.2.1
    have HL2 : Hid (y.ptrs.length = q2.length) := Lib.hid (by rw [← hq2, List.length_map])
    have HS2 := Lib.hid (hs2.below HB.out)
    have HR2 : Hid (∀ r ∈ q ++ q2, NdAt w Any (j + 1 - 1) r.1 r.2) := Lib.hid fun r hr => by
     rcases List.mem_append.1 hr with h | h
     · exact HR.out r h
     · exact ((hr2 r h).mono (by omega)).weak (fun _ _ => trivial)
    have HQ2 : Hid ((q ++ q2).map (·.1) = n.ptrs ++ (n.items.take (k + 1)).flatMap Nd.ptrs) := Lib.hid (by rw [List.map_append, HQ.out, hq2, HFL.out, List.append_assoc])
    have hqq : q.length + q2.length ≤ 2000000 := by have := HLEN.out (k + 1); rw [← HQ2.out, List.length_map, List.length_append] at this; exact this
    obtain ⟨d0, d1, d2, d3, d4, d5⟩ := hc
    clear hc0 hy hq2 hs2 hr2
    have hwr := HB.out.size
    go_wp2_with (at_builtin; go_must (refine wpList_append_src rfl (.tmp 17) (.tmp 19) rfl w.heap.size _ q.length (rowOf q) rfl (HO.out.alloc _) hd.A hd.a y.ptrs.length q2 HL2.out rfl (HS2.out.below ((Below.refl _ _).alloc (Nat.le_refl _) _)) (by omega) (by simp; omega) ?_); intro v2 w2 hown2 hgrow2; have HB2 := Lib.hid ((HB.out.alloc HB.out.size _).grown hgrow2 (by simp; omega) (fun k hk => (HO.out.lt k hk).1)); have HO2 := Lib.hid hown2; clear hown2 hgrow2)
    rw [← List.length_append, ← rowOf_app] at HO2
    go_roundw
    case rel => exact ⟨k + 1, q ++ q2, by go_num, by omega, HO2, HQ2, HR2, HB2⟩
    case measure => simp [intOf]; omega
  · obtain rfl : k = n.items.length := by omega
    rw [List.take_of_length_le (Nat.le_refl _)] at HQ
    have hql : q.length = (ptrsL n).length := by have := congrArg List.length HQ.out; rw [List.length_map] at this; exact this
    obtain ⟨A, cap, hv⟩ := own_sliceN HO.out
    rw [hv]
    have HRES : Hid (NdsAt wr Any m A (ptrsL n)) := Lib.hid (by
     cases m with
     | zero =>
      have h0 : q = [] := by
       have h1 : q.length = 0 := by
        have h2 := HN.out.zero
        have h3 := HQ.out
        rw [h2] at h3
        have h4 : n.ptrs = [] := HP0.out rfl
        rw [h4] at h3
        simpa using congrArg List.length h3
       exact List.eq_nil_of_length_eq_zero h1
      have h5 : ptrsL n = [] := by
       rw [h0] at hql
       exact List.eq_nil_of_length_eq_zero hql.symm
      rw [h5]
      exact NdsAt.nil _ _ _ _
     | succ m =>
      obtain ⟨A', cap', hv', hres⟩ := nds_of_own HO.out (S := Any) (fun _ _ => trivial) (by unfold maxLen; have := HLEN.out n.items.length; rw [List.take_of_length_le (Nat.le_refl _), ← HQ.out, List.length_map] at this; omega) (fun r hr => (HR.out r hr).below HB.out)
      rw [hv] at hv'
      injection hv' with e1 e2 e3
      subst e1
      rw [HQ.out] at hres
      exact hres)
    clear hv
    rw [hql]
    go_wp2
    go_ret
    exact ⟨A, cap, rfl, HRES.out, HB.out⟩
abbrev measT : TypeId := 122
def okN : Nat → Nd → Bool
 | 0, n => formN n && decide (n.kind = 0)
 | d + 1, n => formN n && (decide (n.kind = 0) || (ptrsL n).all (okN d))
def wordsN : Nat → Nd → Nat
 | 0, _ => 0
 | d + 1, n => ownN n + ((ptrsL n).map (wordsN d)).sum
theorem ok_form {d : Nat} {n : Nd} (h : formN n = false) : okN d n = false := by
 cases d <;> simp [okN, h]
theorem nil_of_len {α : Type} {l : List α} (h : l.length = 0) : l = [] := List.eq_nil_of_length_eq_zero h
theorem none_words {d : Nat} {n : Nd} (h : formN n = true) (hk : n.kind = 0) : okN d n = true ∧ wordsN d n = 0 := by
 rcases form_cases h with hc | hc | hc
 · obtain ⟨_, h1, h2, _, _, h5⟩ := hc
   have e1 : ptrsL n = [] := by unfold ptrsL; rw [nil_of_len h2, nil_of_len h5]; rfl
   have e2 : ownN n = 0 := by unfold ownN ownB; rw [h1, h2, nil_of_len h5, hk]; rfl
   cases d
   · exact ⟨by simp [okN, h, hk], rfl⟩
   · exact ⟨by simp [okN, h, hk], by simp [wordsN, e1, e2]⟩
 · omega
 · omega
theorem cell_single {w : World} {b : Nat} {v : Value} {T : TypeId} {p : Addr} {n : Nd} {h : Hd} (hb : w.heap[b]? = some (.cells #[v] T (0, 0))) (hc : NdCell w p n h) : p.block ≠ b := by
 intro e
 have h1 := hc.c1
 rw [e, cell_of_row _ _ _ _ _ _ hb] at h1
 simp at h1
theorem NdsAt.keeps {w w' : World} {S : Nat → Prop} {m b : Nat} {A : Option Addr} {l : List Nd} {v : Value} {T : TypeId} (h : NdsAt w S m A l) (hb : w.heap[b]? = some (.cells #[v] T (0, 0))) (hk : Keeps w.heap.size b w w') : NdsAt w' S m A l :=
 NdsAt.map (fun _ h => h) (fun _p _ _ _ hc => hc.block (hk.block _ hc.lt (cell_single hb hc))) _ _ _ h
theorem NdAt.keeps {w w' : World} {S : Nat → Prop} {m b : Nat} {n : Nd} {h : Hd} {v : Value} {T : TypeId} (hn : NdAt w S m n h) (hb : w.heap[b]? = some (.cells #[v] T (0, 0))) (hk : Keeps w.heap.size b w w') : NdAt w' S m n h :=
 ⟨hn.1, hn.2.1.keeps hb hk, hn.2.2.keeps hb hk⟩
theorem totL_eq {w : World} {S : Nat → Prop} : ∀ (m : Nat) (A : Option Addr) (l : List Nd), NdsAt w S m A l → totL (m + 1) l = totL m l
 | 0, A, l, h => by rw [h.zero]; rfl
 | m + 1, A, l, h => by
   rw [totL_succ (m + 1), totL_succ m]
   congr 1
   apply List.map_congr_left
   intro n hn
   obtain ⟨hd, h1⟩ := h.mem n hn
   unfold totN
   rw [totL_eq m _ _ h1.2.1, totL_eq m _ _ h1.2.2]
theorem flat_tot (l : List Nd) (m : Nat) : totL (m + 1) (l.flatMap Nd.ptrs) = (l.map fun y => totL (m + 1) y.ptrs).sum := by
 induction l with
 | nil => rfl
 | cons a t ih => rw [List.flatMap_cons, totL_succ, List.map_append, List.sum_append, ← totL_succ, ← totL_succ, ih]; rfl
theorem tot_ptrs {w : World} {S : Nat → Prop} {m : Nat} {n : Nd} {h : Hd} (hn : NdAt w S m n h) : totL m (ptrsL n) ≤ totN m n := by
 cases m with
 | zero => exact Nat.zero_le _
 | succ m =>
  have h1 : totL (m + 1) (ptrsL n) = totL (m + 1) n.ptrs + (n.items.map fun y => totL (m + 1) y.ptrs).sum := by
   unfold ptrsL
   rw [totL_succ, List.map_append, List.sum_append, ← totL_succ, ← totL_succ, flat_tot]
  have h2 : (n.items.map fun y => totL (m + 1) y.ptrs).sum ≤ totL (m + 1) n.items := by
   rw [totL_succ]
   refine sum_le _ _ _ fun y hy => ?_
   obtain ⟨hd, h3⟩ := hn.2.2.mem y hy
   rw [totL_eq m _ _ h3.2.1]
   unfold totN
   omega
  rw [h1]
  unfold totN
  omega
theorem ptrs_len {w : World} {S : Nat → Prop} {m : Nat} {n : Nd} {h : Hd} (hn : NdAt w S m n h) : (ptrsL n).length ≤ totL m (ptrsL n) := by
 cases m with
 | zero =>
  unfold ptrsL
  rw [hn.2.1.zero, hn.2.2.zero]
  simp
 | succ m => exact totL_len m _
theorem own_bound {w : World} {S : Nat → Prop} {m : Nat} {n : Nd} {h : Hd} (hn : NdAt w S m n h) (ht : totN m n ≤ 2000000) : ownN n ≤ 3000000 := by
 have h1 : ownB n ≤ n.data.size + n.ptrs.length := by unfold ownB; omega
 have h2 := own_sum hn.2.2
 have h3 := len_tot hn.2.1
 unfold ownN
 unfold totN at ht
 split <;> omega
abbrev msr (ws : Int) : Obj := .cells #[.int .i64 ws] measT (0, 0)
def AlP (d : Nat) (n : Nd) (b : Nat) (ws : Int) (w : World) (e : Ending) (w' : World) : Prop :=
 ∃ (r : Bool) (z : Int), e = .returned (.bool r) ∧ Keeps w.heap.size b w w' ∧ w'.heap[b]? = some (msr z) ∧ 0 ≤ z ∧ z ≤ 4000000 ∧ (r = true → okN d n = true ∧ z = ws + (wordsN d n : Nat) ∧ z ≤ 199) ∧ (r = false → okN d n = false ∨ 200 ≤ ws + (wordsN d n : Nat))
def AlD (d : Nat) : Prop := ∀ (m : Nat) (n : Nd) (h : Hd) (w : World) (S : Nat → Prop) (b : Nat) (ws : Int), NdAt w S m n h → totN m n ≤ 2000000 → w.heap[b]? = some (msr ws) → 0 ≤ ws → ws ≤ 199 →
 Calls Tryz.prog 77 #[.pointer (some ⟨b, 0, none⟩), .agg #[.int .i64 n.kind, .string n.data, .slice h.A n.ptrs.length h.a, .int .i64 n.size, .int .i64 n.count, .slice h.B n.items.length h.b], .int .i64 (9 - (d : Int))] w (AlP d n b ws w)
theorem own_le_words {d : Nat} {n : Nd} : ownN n ≤ wordsN (d + 1) n := by simp [wordsN]
theorem meas_cell {w : World} {b : Nat} {z : Int} (h : w.heap[b]? = some (msr z)) : w.cell? ⟨b, 0, none⟩ = some (.int .i64 z) := by rw [cell_of_row _ _ _ _ _ _ h]; rfl
theorem allows_step (d : Nat) (hd : d ≤ 8) (ih : ∀ j, d = j + 1 → AlD j) : AlD d := by
 intro m n h w S b ws hn ht hrow hw0 hw1
 obtain ⟨qA, qa, qB, qb⟩ := h
 dsimp only at hn ⊢
 have hpl : n.ptrs.length ≤ 2000000 := totL_len' hn.2.1 (by unfold totN at ht; omega)
 have hil : n.items.length ≤ 2000000 := totL_len' hn.2.2 (by unfold totN at ht; omega)
 have hblt := row_lt hrow
 have HP := Lib.hid (fun (W : World) (hb : Below w.heap.size w W) => hasParts_a m n ⟨qA, qa, qB, qb⟩ W S (hn.below hb) hil hpl)
 dsimp only at HP
 have HIH := Lib.hid ih
 have HN := Lib.hid hn
 have HT := Lib.hid ht
 have HR := Lib.hid hrow
 have HB0 := Lib.hid ((Below.refl w.heap.size w).alloc (Nat.le_refl _) (.cells #[.int .i64 n.kind, .string n.data, .slice qA n.ptrs.length qa, .int .i64 n.size, .int .i64 n.count, .slice qB n.items.length qb] nodeT))
 have HBX := Lib.hid (heap_alloc_new w (.cells #[.int .i64 n.kind, .string n.data, .slice qA n.ptrs.length qa, .int .i64 n.size, .int .i64 n.count, .slice qB n.items.length qb] nodeT))
 clear ih hn ht hrow
 cases hf : formN n
 · have HX := Lib.hid (ok_form (d := d) hf)
   rw [hf] at HP
   go_enter Tryz.func77, Tryz.ntmps77
   go_wp2_with fail
   refine (HP.out _ HB0.out).mono ?_
   rintro e w1 ⟨rfl, hb1⟩
   have HB1 := Lib.hid (HB0.out.trans (hb1.mono HB0.out.size))
   clear hb1
   go_wp2
   go_ret
   exact ⟨false, ws, rfl, Keeps.of_below HB1.out, (HB1.out.block _ hblt).trans HR.out, hw0, by omega, fun h => (by cases h), fun _ => .inl HX.out⟩
 rw [hf] at HP
 have HF := Lib.hid hf
 clear hf
 by_cases hk : n.kind = 0
 · have HX := Lib.hid (none_words (d := d) HF.out hk)
   have hkb : (n.kind == 0) = true := by rw [hk]; rfl
   clear hk
   go_enter Tryz.func77, Tryz.ntmps77
   go_wp2_with fail
   refine (HP.out _ HB0.out).mono ?_
   rintro e w1 ⟨rfl, hb1⟩
   obtain ⟨a0, a1, a2, a3, a4, a5⟩ := cells6 ((hb1.block w.heap.size (by simp)).trans HBX.out)
   have HB1 := Lib.hid (HB0.out.trans (hb1.mono HB0.out.size))
   clear hb1
   go_wp2
   go_ret
   exact ⟨true, ws, rfl, Keeps.of_below HB1.out, (HB1.out.block _ hblt).trans HR.out, hw0, by omega, fun _ => ⟨HX.out.1, by rw [HX.out.2]; omega, hw1⟩, fun h => (by cases h)⟩
 have hkb : (n.kind == 0) = false := by simpa using hk
 have HK := Lib.hid hk
 have HOW := Lib.hid (fun (W : World) (hb : Below w.heap.size w W) => ownWords_a m n ⟨qA, qa, qB, qb⟩ W S (HN.out.below hb) HF.out HT.out)
 dsimp only at HOW
 have hob : ownN n ≤ 3000000 := own_bound HN.out HT.out
 generalize hon : ownN n = on at HOW hob
 have HON := Lib.hid hon
 clear hk hon
 have hwrap : IntKind.i64.wrap (ws + (on : Int)) = ws + (on : Int) := by
  rw [IntKind.wrap_i64]
  omega
 obtain ⟨D, hD⟩ : ∃ D : Int, D = 9 - (d : Int) := ⟨_, rfl⟩
 have hD8 : 1 ≤ D ∧ D ≤ 9 := by omega
 rw [← hD]
 have HD := Lib.hid hD
 clear hD
 go_enter Tryz.func77, Tryz.ntmps77
 go_wp2_with fail
 refine (HP.out _ HB0.out).mono ?_
 rintro e w1 ⟨rfl, hb1⟩
 have hk1 := (hb1.block w.heap.size (by simp)).trans HBX.out
 have HBX1 := Lib.hid hk1
 have hlt1 := row_lt hk1
 obtain ⟨a0, a1, a2, a3, a4, a5⟩ := cells6 hk1
 have HB1 := Lib.hid (HB0.out.trans (hb1.mono HB0.out.size))
 have HR1 := Lib.hid ((HB1.out.block _ hblt).trans HR.out)
 have hmc := meas_cell HR1.out
 have hmf := row_free HR1.out 0
 clear hb1 hk1
 go_wp2_with fail
 go_region_with (go_at_call 102; refine (HOW.out _ (by exact HB1.out.drew)).mono ?_; rintro e w2 ⟨rfl, hb2⟩; have hmc2 := meas_cell ((hb2.block _ (by have := HB1.out.size; simp; omega)).trans HR1.out); have hmf2 := row_free ((hb2.block _ (by have := HB1.out.size; simp; omega)).trans HR1.out) 0)
 all_goals
  have hrow2 := (hb2.block b (by have := HB1.out.size; simp; omega)).trans HR1.out
  have hbox2 := (hb2.block w.heap.size (by simpa using hlt1)).trans HBX1.out
  have hB2 : Below w.heap.size w w2 := HB1.out.drew.trans (hb2.mono (by simpa using HB1.out.size))
  try rw [hwrap]
  have kp3 : Keeps w.heap.size b w (w2.setCell ⟨b, 0, none⟩ (.int .i64 (ws + (on : Int)))) := (Keeps.of_below hB2).trans ((set_keeps w2.heap.size b w2 0 _).mono hB2.size)
  have row3 : (w2.setCell ⟨b, 0, none⟩ (.int .i64 (ws + (on : Int)))).heap[b]? = some (msr (ws + (on : Int))) := row_setN hrow2 0 _
  have box3 := (Below.heap_setCell w2 ⟨b, 0, none⟩ (.int .i64 (ws + (on : Int))) w.heap.size (by simp; omega)).trans hbox2
  have hlt3 := row_lt box3
  generalize w2.setCell ⟨b, 0, none⟩ (.int .i64 (ws + (on : Int))) = W3 at *
  have KP3 := Lib.hid kp3
  have ROW3 := Lib.hid row3
  have BOX3 := Lib.hid box3
  clear hb2 hB2 hmc hmf hmc2 hmf2 a0 a1 a2 a3 a4 a5 hrow2 hbox2 kp3 row3 box3
  have hmc3 := meas_cell ROW3.out
  by_cases hd0 : d = 0
  · have hD1 : decide (8 < D) = true := decide_eq_true (by have := HD.out; omega)
    have HX : Hid (okN d n = false) := Lib.hid (by subst hd0; simp [okN, HK.out])
    go_wp2
    go_ret
    exact ⟨false, _, rfl, KP3.out, ROW3.out, by omega, by omega, fun h => (by cases h), fun _ => .inl HX.out⟩
  · obtain ⟨j, rfl⟩ : ∃ j, d = j + 1 := ⟨d - 1, by omega⟩
    have HPO : Hid (∀ W : World, Keeps w.heap.size b w W → Calls Tryz.prog 103 #[.agg #[.int .i64 n.kind, .string n.data, .slice qA n.ptrs.length qa, .int .i64 n.size, .int .i64 n.count, .slice qB n.items.length qb]] W fun e w' => ∃ A c, e = .returned (.slice A (ptrsL n).length c) ∧ NdsAt w' Any m A (ptrsL n) ∧ Below W.heap.size W w') := Lib.hid fun W hk => ptrsOf_a m n ⟨qA, qa, qB, qb⟩ W S (HN.out.keeps HR.out hk) HT.out
    have HTT : Hid (totL m (ptrsL n) ≤ 2000000) := Lib.hid (Nat.le_trans (tot_ptrs HN.out) HT.out)
    have HLN : Hid ((ptrsL n).length ≤ 2000000) := Lib.hid (Nat.le_trans (ptrs_len HN.out) HTT.out)
    have HWW : Hid (wordsN (j + 1) n = on + ((ptrsL n).map (wordsN j)).sum) := Lib.hid (by rw [wordsN, HON.out])
    have HBAD : Hid (∀ p ∈ ptrsL n, okN j p = false → okN (j + 1) n = false) := Lib.hid fun p hp h => by
     have : (ptrsL n).all (okN j) = false := by rw [List.all_eq_false]; exact ⟨p, hp, by rw [h]; decide⟩
     simp [okN, HF.out, HK.out, this]
    have HGOOD : Hid ((ptrsL n).all (okN j) = true → okN (j + 1) n = true) := Lib.hid fun h => by simp only [okN, HF.out, h, Bool.or_true, Bool.and_true]
    have hD1 : decide (8 < D) = false := decide_eq_false (by have := HD.out; omega)
    by_cases h200 : 200 ≤ ws + (on : Int)
    · have HX : Hid (200 ≤ ws + (wordsN (j + 1) n : Nat)) := Lib.hid (by have := own_le_words (d := j) (n := n); rw [HON.out] at this; omega)
      have hd2 : decide (200 ≤ ws + (on : Int)) = true := decide_eq_true h200
      go_wp2
      go_ret
      exact ⟨false, _, rfl, KP3.out, ROW3.out, by omega, by omega, fun h => (by cases h), fun _ => .inr HX.out⟩
    · have hd2 : decide (200 ≤ ws + (on : Int)) = false := decide_eq_false h200
      obtain ⟨b0, b1, b2, b3, b4, b5⟩ := cells6 BOX3.out
      go_wp2_with fail
      refine (HPO.out W3 KP3.out).mono ?_
      rintro e w4 ⟨A4, c4, rfl, hn4, hb4⟩
      have KP4 := Lib.hid (KP3.out.trans ((Keeps.of_below hb4).mono KP3.out.size))
      have ROW4 := Lib.hid ((hb4.block b (row_lt ROW3.out)).trans ROW3.out)
      have HN4 := Lib.hid hn4
      have hz0 : 0 ≤ ws + (on : Int) := by omega
      have hz1 : ws + (on : Int) ≤ 199 := by omega
      clear hn4 hb4 b0 b1 b2 b3 b4 b5 hmc3 h200 hd2 hwrap
      have hlen := HLN.out
      have HIHJ := Lib.hid (HIH.out j rfl)
      generalize ptrsL n = pl at *
      go_wp2_with fail
      go_loopw [36] (fun i wr => ∃ k : Nat, i = .int .i64 k ∧ k ≤ pl.length ∧ Hid ((pl.take k).all (okN j) = true) ∧ Hid (∃ z : Int, Keeps w.heap.size b w wr ∧ wr.heap[b]? = some (msr z) ∧ NdsAt wr Any m A4 pl ∧ 0 ≤ z ∧ z ≤ 199 ∧ z = ws + (on : Int) + (((pl.take k).map (wordsN j)).sum : Nat))) (fun i _ => pl.length - (intOf i).toNat)
      case atStart => exact ⟨0, rfl, by omega, Lib.hid rfl, Lib.hid ⟨_, KP4.out, ROW4.out, HN4.out, hz0, hz1, by simp⟩⟩
      case round =>
       obtain ⟨k, rfl, hk, HA, HZ⟩ := hrel
       obtain ⟨z, kpr, rowr, hnr, z0, z1, hz⟩ := HZ.out
       by_cases hlt : k < pl.length
       · obtain ⟨m', rfl⟩ := hnr.pred hlt
         obtain ⟨x, hdp, rfl, hc, hp⟩ := hnr.at_ hlt
         have HST := Lib.hid (sum_take_succ pl (wordsN j) k hlt)
         have HSL := Lib.hid (sum_take_le pl (wordsN j) (k + 1))
         have HTP := Lib.hid (show totN m' pl[k] ≤ 2000000 by have := totL_at (m := m') hlt; have := HTT.out; omega)
         have HMEM := Lib.hid (List.getElem_mem hlt)
         have HTK : Hid (okN j pl[k] = true → (pl.take (k + 1)).all (okN j) = true) := Lib.hid (fun h => by rw [List.take_succ_eq_append_getElem hlt, List.all_append, HA.out]; simpa using h)
         generalize pl[k] = p at hc hp HST HTP HMEM HTK
         have hbx : Below wr.heap.size wr (wr.alloc (.cells #[.int .i64 p.kind, .string p.data, .slice hdp.A p.ptrs.length hdp.a, .int .i64 p.size, .int .i64 p.count, .slice hdp.B p.items.length hdp.b] nodeT)) := (Below.refl _ _).alloc (Nat.le_refl _) _
         have HCALL := Lib.hid (HIHJ.out m' p hdp _ Any b z (hp.below hbx) HTP.out ((hbx.block b (row_lt rowr)).trans rowr) z0 z1)
         unfold AlP at HCALL
         rw [show (9 : Int) - (j : Int) = D + 1 by have := HD.out; omega] at HCALL
         have KPR := Lib.hid kpr
         have HNR := Lib.hid hnr
         have HZE := Lib.hid hz
         have HBXX := Lib.hid hbx
         have ROWR := Lib.hid rowr
         obtain ⟨d0, d1, d2, d3, d4, d5⟩ := hc
         clear kpr hnr hz hbx hp rowr HZ
         go_wp2_with fail
         refine HCALL.out.mono ?_
         rintro e w5 ⟨r, z', rfl, kp5, row5, z0', z1', ht5, hf5⟩
         have KP5 := Lib.hid (KPR.out.trans (((Keeps.of_below HBXX.out).trans (kp5.mono (by simp))).mono KPR.out.size))
         have HN5 := Lib.hid ((HNR.out.keeps ROWR.out (Keeps.of_below HBXX.out)).keeps ((HBXX.out.block b (row_lt ROWR.out)).trans ROWR.out) kp5)
         have ROW5 := Lib.hid row5
         have HF5 := Lib.hid hf5
         have HT5 := Lib.hid ht5
         clear kp5 row5 hf5 ht5
         cases r
         · go_wp2
           go_ret
           refine ⟨false, z', rfl, KP5.out, ROW5.out, z0', z1', fun h => (by cases h), fun _ => ?_⟩
           rcases HF5.out (by first | trivial | rfl) with h | h
           · exact .inl (HBAD.out p HMEM.out h)
           · right
             have := HWW.out
             have := HSL.out
             have := HST.out
             have := HZE.out
             omega
         · obtain ⟨h1, h2, h3⟩ := HT5.out (by first | trivial | rfl)
           have HTR := Lib.hid (HTK.out h1)
           have HZ5 : Hid (∃ z : Int, Keeps w.heap.size b w w5 ∧ w5.heap[b]? = some (msr z) ∧ NdsAt w5 Any (m' + 1) (some x) pl ∧ 0 ≤ z ∧ z ≤ 199 ∧ z = ws + (on : Int) + (((pl.take (k + 1)).map (wordsN j)).sum : Nat)) := Lib.hid ⟨z', KP5.out, ROW5.out, HN5.out, z0', h3, by rw [h2, HZE.out, HST.out]; omega⟩
           clear h1 h2 h3
           go_wp2
           go_roundw
           case rel => exact ⟨k + 1, by go_num, by omega, HTR, HZ5⟩
           case measure => simp [intOf]; omega
       · obtain rfl : k = pl.length := by omega
         rw [List.take_of_length_le (Nat.le_refl _)] at HA hz
         have HALL := Lib.hid (HGOOD.out HA.out)
         have KPR := Lib.hid kpr
         have HZE := Lib.hid hz
         have ROWR := Lib.hid rowr
         clear kpr hnr hz rowr HZ
         go_wp2
         go_ret
         exact ⟨true, z, rfl, KPR.out, ROWR.out, z0, by omega, fun _ => ⟨HALL.out, by rw [HZE.out, HWW.out]; omega, z1⟩, fun h => (by cases h)⟩
theorem allows_any : ∀ d, d ≤ 8 → AlD d
 | 0, h => allows_step 0 h (fun j hj => by omega)
 | d + 1, h => allows_step (d + 1) h (fun j hj => by
   obtain rfl : d = j := by omega
   exact allows_any d (by omega))
def nodeOk (n : Nd) : Bool := okN 8 n && decide (wordsN 8 n ≤ 199)
def nodeWords (n : Nd) : Nat := if nodeOk n then wordsN 8 n else 0
theorem al_ok {n : Nd} {r : Bool} {z : Int} (ht : r = true → okN 8 n = true ∧ z = 0 + (wordsN 8 n : Nat) ∧ z ≤ 199) (hf : r = false → okN 8 n = false ∨ 200 ≤ (0 : Int) + (wordsN 8 n : Nat)) : r = nodeOk n ∧ (r = true → z = (nodeWords n : Nat)) := by
 cases r with
 | true =>
  obtain ⟨h1, h2, h3⟩ := ht rfl
  have h4 : nodeOk n = true := by unfold nodeOk; rw [h1]; simp; omega
  refine ⟨h4.symm, fun _ => ?_⟩
  unfold nodeWords
  rw [h4, if_pos rfl]
  omega
 | false =>
  refine ⟨?_, fun h => by cases h⟩
  unfold nodeOk
  rcases hf rfl with h | h
  · rw [h]; rfl
  · rw [show decide (wordsN 8 n ≤ 199) = false by simp; omega, Bool.and_false]
theorem implNodeOk_a (m : Nat) (n : Nd) (h : Hd) (w : World) (S : Nat → Prop) (hn : NdAt w S m n h) (ht : totN m n ≤ 2000000) :
 Calls Tryz.prog 56 #[.agg #[.int .i64 n.kind, .string n.data, .slice h.A n.ptrs.length h.a, .int .i64 n.size, .int .i64 n.count, .slice h.B n.items.length h.b]] w fun e w' => e = .returned (.bool (nodeOk n)) ∧ Below w.heap.size w w' := by
 have hb0 : Below w.heap.size w ((w.alloc (.cells #[.int .i64 n.kind, .string n.data, .slice h.A n.ptrs.length h.a, .int .i64 n.size, .int .i64 n.count, .slice h.B n.items.length h.b] nodeT)).alloc (.cells #[.int .i64 0] measT)) := ((Below.refl _ w).alloc (Nat.le_refl _) _).alloc (by simp) _
 have hr := heap_alloc_new (w.alloc (.cells #[.int .i64 n.kind, .string n.data, .slice h.A n.ptrs.length h.a, .int .i64 n.size, .int .i64 n.count, .slice h.B n.items.length h.b] nodeT)) (.cells #[.int .i64 0] measT)
 rw [show (w.alloc (.cells #[.int .i64 n.kind, .string n.data, .slice h.A n.ptrs.length h.a, .int .i64 n.size, .int .i64 n.count, .slice h.B n.items.length h.b] nodeT)).heap.size = w.heap.size + 1 by simp] at hr
 have hz : ((w.alloc (.cells #[.int .i64 n.kind, .string n.data, .slice h.A n.ptrs.length h.a, .int .i64 n.size, .int .i64 n.count, .slice h.B n.items.length h.b] nodeT)).alloc (.cells #[.int .i64 0] measT)).heap.size = w.heap.size + 2 := by simp
 have HC := Lib.hid (allows_any 8 (by decide) m n h _ S (w.heap.size + 1) 0 (hn.below hb0) ht hr (by omega) (by omega))
 unfold AlP at HC
 rw [show (9 : Int) - ((8 : Nat) : Int) = 1 by decide, hz] at HC
 have HB0 := Lib.hid hb0
 clear hn ht hb0 hr hz
 go_enter Tryz.func56, Tryz.ntmps56
 go_wp2_with fail
 refine HC.out.mono ?_
 rintro e w2 ⟨r, z, rfl, kp, row, z0, z1, h1, h2⟩
 have HE := Lib.hid (al_ok h1 h2).1
 have HB := Lib.hid (HB0.out.trans (kp.below (B' := w.heap.size) (by omega) (by omega)))
 clear kp row h1 h2
 go_wp2
 go_ret
 exact ⟨by rw [HE.out]; rfl, HB.out⟩
theorem ptrs_own (n : Nd) : (ptrsL n).length ≤ ownN n := by
 have h1 : n.ptrs.length ≤ ownB n := by unfold ownB; omega
 have h2 : (n.items.map fun y => y.ptrs.length).sum ≤ (n.items.map ownB).sum := sum_le _ _ _ (fun y _ => by unfold ownB; omega)
 unfold ptrsL ownN
 rw [List.length_append, ptrsL_sum]
 omega
theorem ok_kids {d : Nat} {n : Nd} (h : okN d n = true) : formN n = true ∧ ∀ p ∈ ptrsL n, okN (d - 1) p = true := by
 cases d with
 | zero =>
  simp only [okN, Bool.and_eq_true, decide_eq_true_eq] at h
  refine ⟨h.1, fun p hp => ?_⟩
  have h1 : ptrsL n = [] := by
   rcases form_cases h.1 with hc | hc | hc
   · unfold ptrsL; rw [nil_of_len hc.2.2.1, nil_of_len hc.2.2.2.2.2]; rfl
   · omega
   · omega
  rw [h1] at hp; cases hp
 | succ d =>
  simp only [okN, Bool.and_eq_true, Bool.or_eq_true, decide_eq_true_eq, List.all_eq_true] at h
  refine ⟨h.1, fun p hp => ?_⟩
  rcases h.2 with hk | hk
  · have h1 : ptrsL n = [] := by
     rcases form_cases h.1 with hc | hc | hc
     · unfold ptrsL; rw [nil_of_len hc.2.2.1, nil_of_len hc.2.2.2.2.2]; rfl
     · omega
     · omega
    rw [h1] at hp; cases hp
  · exact hk p hp
theorem words_kids {d : Nat} {n : Nd} (h : okN d n = true) : wordsN d n = ownN n + ((ptrsL n).map (wordsN (d - 1))).sum := by
 cases d with
 | zero =>
  simp only [okN, Bool.and_eq_true, decide_eq_true_eq] at h
  have := none_words (d := 1) h.1 h.2
  rw [wordsN] at this
  show 0 = ownN n + _
  have h1 : ptrsL n = [] := by
   rcases form_cases h.1 with hc | hc | hc
   · unfold ptrsL; rw [nil_of_len hc.2.2.1, nil_of_len hc.2.2.2.2.2]; rfl
   · omega
   · omega
  rw [h1]; simp; omega
 | succ d => rfl
def noneNd : Nd := .mk 0 ⟨#[]⟩ [] 0 0 []
def wordsB (n : Nat) : Bool := decide (n % 8 = 0 ∧ n ≤ 1600)
theorem isWords_any (s : ByteArray) (w : World) (hs : s.size ≤ maxLen) :
 Calls Tryz.prog 128 #[.string s] w fun e w' => e = .returned (.bool (wordsB s.size)) ∧ w = w' := by
 unfold maxLen at hs
 by_cases h1 : s.size % 8 = 0
 all_goals
  go_enter Tryz.func128, Tryz.ntmps128
  go_wp2
  go_ret
  refine ⟨ret_bool ?_, rfl⟩
  simp [wordsB, h1]
 omega
theorem size46 : (Tryz.prog.info? 167).map (·.size) = some 8 := by kernel_rfl
theorem size5 : (Tryz.prog.info? 5).map (·.size) = some 1 := by kernel_rfl
theorem wordAt_any (s : ByteArray) (i : Int) (w : World) (hs : s.size ≤ maxLen) (h0 : 0 ≤ i) (hi : 8 * i + 8 ≤ s.size) :
 Calls Tryz.prog 130 #[.string s, .int .i64 i] w fun e w' => e = .returned (.agg (wd ((s.data.toList.drop (8 * i.toNat)).take 8))) ∧ Below w.heap.size w w' := by
 obtain ⟨i, rfl⟩ := Int.eq_ofNat_of_zero_le h0
 unfold maxLen at hs
 have ewd : (s.extract (i * 8) s.size).data.toList.take 8 = (s.data.toList.drop (8 * (i : Int).toNat)).take 8 := by
  rw [Lib.extract_data, Nat.mul_comm]
  congr 2
  simp [List.take_of_length_le]
 have hsz : 8 ≤ (s.extract (i * 8) s.size).size := by simp; omega
 have hlen : ((s.extract (i * 8) s.size).data.toList.take 8).length = 8 := by simp; omega
 generalize hl : (s.extract (i * 8) s.size).data.toList.take 8 = l at ewd hlen
 rw [← ewd]
 have HL := Lib.hid hl
 clear ewd hl
 go_enter Tryz.func130, Tryz.ntmps130
 go_wp2
 have e1 : IntKind.i64.wrap ((i : Int) * 8) = (i : Int) * 8 := by rw [IntKind.wrap_i64]; omega
 have e2 : (0 : Int) ≤ (i : Int) * 8 := by omega
 have e3 : (i : Int) * 8 ≤ (s.size : Int) := by omega
 have e4 : ((i : Int) * 8).toNat = i * 8 := by omega
 go_region_law (refine step_copy_string_ge rfl (.tmp 6) (.tmp 10) 123 9 rfl 5 Tryz.underlying123 size5 (w.heap.size + 1) 8 8 (s.extract (i * 8) s.size) _ 167 rfl (by simp [Act.eval, Act.put]) (by simp [Act.eval, Act.put]) (heap_alloc2_new w _ _) hsz ?_; intro w4 hg4 hb4)
 clear e1 e2 e3 e4
 have hA : Hid (w4.heap[w.heap.size]? = some (.cells #[.int .u8 0, .int .u8 0, .int .u8 0, .int .u8 0, .int .u8 0, .int .u8 0, .int .u8 0, .int .u8 0] 167 (0, 0))) :=
  (hb4.out.block w.heap.size (by simp; omega) (by simp)).trans (heap_alloc2_old w _ _)
 have hB : Hid (Below w.heap.size w w4) := ((Below.refl _ _).alloc (Nat.le_refl _) _ |>.alloc (by simp) _ |>.drew).grown hb4.out (by simp; omega) (fun k e => by cases e; simp)
 clear hb4
 have hG : Hid (w4.heap[w.heap.size + 1]? = some (.cells (wd l) 167 (0, 0))) := by rw [← HL.out]; exact hg4.out
 have hlen := Lib.hid hlen
 clear hg4 HL
 go_wp2_with (first | (refine wpList_load_wd rfl 167 (.tmp 5) rfl (w.heap.size + 1) rfl 167 l _ hG.out Tryz.underlying167 rfl (by rw [hlen.out]; exact size46) ?_) | (refine wpList_store_wd rfl 167 (.tmp 4) (.tmp 12) rfl w.heap.size l rfl rfl 167 _ hA.out (by rw [hlen.out]; exact size46) (by rw [hlen.out]; rfl) ?_; intro w5 hg5 hb5))
 refine bodyPost_ret (v := .agg (wd l)) ?_ rfl ⟨rfl, hB.out.grown hb5.out (by have := hB.out.size; omega) (fun k e => by cases e; simp)⟩
 exact results_cell_row rfl _ _ w.heap.size 167 _ (0, 0) _ rfl hg5.out Tryz.underlying167 rfl (by rw [wd_size, hlen.out]; exact size46)
def widthB (size : Int) : Bool := decide (size = 1 ∨ size = 2 ∨ size = 4 ∨ size = 8)
def placeB (at_ size : Int) : Bool := decide (0 ≤ at_ ∧ at_ ≤ 1600 ∧ ((size = 1 ∨ size = 2 ∨ size = 4 ∨ size = 8) ∧ at_ % size = 0))
theorem isWidth_any (size : Int) (w : World) :
 Calls Tryz.prog 146 #[.int .i64 size] w fun e w' => e = .returned (.bool (widthB size)) ∧ w = w' := by
 by_cases hz : size = 1 ∨ size = 2 ∨ size = 4 ∨ size = 8
 · rcases hz with rfl | rfl | rfl | rfl
   all_goals
    go_enter Tryz.func146, Tryz.ntmps146
    go_wp2
    all_goals go_ret
    all_goals exact ⟨ret_bool (by decide), rfl⟩
 · have b1 : (size == 1) = false := by simp; omega
   have b2 : (size == 2) = false := by simp; omega
   have b3 : (size == 4) = false := by simp; omega
   have b4 : (size == 8) = false := by simp; omega
   have hw : widthB size = false := by simp only [widthB, hz, decide_false]
   have HW := Lib.hid hw
   clear hw
   go_enter Tryz.func146, Tryz.ntmps146
   go_wp2
   go_ret
   exact ⟨by rw [HW.out]; rfl, rfl⟩
theorem isPlace_any (at_ size : Int) (w : World) :
 Calls Tryz.prog 134 #[.int .i64 at_, .int .i64 size] w fun e w' => e = .returned (.bool (placeB at_ size)) ∧ w = w' := by
 by_cases hz : size = 1 ∨ size = 2 ∨ size = 4 ∨ size = 8
 · rcases hz with rfl | rfl | rfl | rfl
   all_goals
    by_cases h0 : 0 ≤ at_
    all_goals
     go_enter Tryz.func134, Tryz.ntmps134
     go_wp2_with (go_at_call 146; refine (isWidth_any _ _).mono ?_; rintro e w' ⟨rfl, rfl⟩; rw [show widthB _ = true from by decide])
     all_goals go_ret
     all_goals refine ⟨ret_bool ?_, rfl⟩
     all_goals (rw [Bool.eq_iff_iff]; simp [placeB]; omega)
 · have hw : widthB size = false := by simp only [widthB, hz, decide_false]
   have HW := Lib.hid hw
   clear hw
   go_enter Tryz.func134, Tryz.ntmps134
   go_wp2_with (go_at_call 146; refine (isWidth_any _ _).mono ?_; rintro e w' ⟨rfl, rfl⟩; rw [HW.out])
   go_ret
   refine ⟨ret_bool ?_, rfl⟩
   have : ¬ (size = 1 ∨ size = 2 ∨ size = 4 ∨ size = 8) := hz
   simp only [placeB, this, false_and, and_false, decide_false]
def xorI (n t : Int) : Int := bits .xor .i64 n t
def getI (l : List UInt8) (at_ size : Int) : Int := if wordsB l.length = true ∧ placeB at_ size = true then wrap64 (leN l at_.toNat size.toNat : Nat) else 0
theorem number_any (l : List UInt8) (at_ size : Int) (w : World) (hl : l.length = 8) (h0 : 0 ≤ at_) (h1 : 0 ≤ size) (h2 : at_ + size ≤ 8) :
 Calls Tryz.prog 135 #[.agg (wd l), .int .i64 at_, .int .i64 size] w fun e w' => e = .returned (.int .u64 (leN l at_.toNat size.toNat : Nat)) ∧ Below w.heap.size w w' := by
 obtain ⟨a, rfl⟩ := Int.eq_ofNat_of_zero_le h0
 obtain ⟨z, rfl⟩ := Int.eq_ofNat_of_zero_le h1
 have hc := fun i (h : i < 8) => wd_cell w l 167 i (by omega)
 have HC := Lib.hid hc
 have HL := Lib.hid hl
 clear hc hl
 go_enter Tryz.func135, Tryz.ntmps135
 go_wp2
 go_loop [7, 8] (fun n i => ∃ k : Nat, k ≤ z ∧ i = .int .i64 ((a : Int) + z - 1 - k) ∧ n = .int .u64 (leN l (a + z - k) k : Nat)) (fun _ i => (intOf i + 1 - a).toNat)
 case atStart => exact ⟨0, by omega, by simp, by simp [leN]⟩
 case round =>
  obtain ⟨k, hk, rfl, rfl⟩ := hrel
  by_cases hlt : k < z
  · have hcell := HC.out (a + z - 1 - k) (by omega)
    go_wp2
    go_round
    case rel => exact ⟨k + 1, by omega, by go_num, by rw [number_step l a z k hlt (by omega)]⟩
    case measure => simp [intOf]; omega
  · go_wp2
    go_ret
    refine ⟨ret_int ?_, (Below.refl _ _).alloc (Nat.le_refl _) _⟩
    obtain rfl : k = z := by omega
    simp
theorem leN_out (l : List UInt8) : ∀ (k a : Nat), l.length ≤ a → leN l a k = 0
 | 0, _, _ => rfl
 | k + 1, a, h => by
   rw [leN, List.getElem?_eq_none h, leN_out l k (a + 1) (by omega)]
   rfl
theorem leN_word (l : List UInt8) (q : Nat) : ∀ (k a : Nat), a + k ≤ 8 → leN ((l.drop (8 * q)).take 8) a k = leN l (8 * q + a) k
 | 0, _, _ => rfl
 | k + 1, a, h => by
   rw [leN, leN, leN_word l q k (a + 1) (by omega), List.getElem?_take_of_lt (by omega), List.getElem?_drop]
   rfl
theorem implGet_any (s : ByteArray) (at_ size : Int) (w : World) (hs : s.size ≤ maxLen) :
 Calls Tryz.prog 113 #[.string s, .int .i64 at_, .int .i64 size] w fun e w' => e = .returned (.int .i64 (getI s.data.toList at_ size)) ∧ Below w.heap.size w w' := by
 have hsl : s.data.toList.length = s.size := by simp
 cases hw : wordsB s.size
 · have hG : getI s.data.toList at_ size = 0 := by rw [getI, hsl, hw, if_neg (by simp)]
   rw [hG]
   clear hG hsl
   go_enter Tryz.func113, Tryz.ntmps113
   go_wp2_with (first | (go_at_call 128; refine (isWords_any _ _ hs).mono ?_; rintro e w' ⟨rfl, rfl⟩))
   go_ret
   exact ⟨rfl, Below.refl _ _⟩
 cases hp : placeB at_ size
 · have hG : getI s.data.toList at_ size = 0 := by rw [getI, hp, if_neg (by simp)]
   rw [hG]
   clear hG hsl
   go_enter Tryz.func113, Tryz.ntmps113
   go_wp2_with (first | (go_at_call 128; refine (isWords_any _ _ hs).mono ?_; rintro e w' ⟨rfl, rfl⟩) | (go_at_call 134; refine (isPlace_any _ _ _).mono ?_; rintro e w' ⟨rfl, rfl⟩))
   go_ret
   exact ⟨rfl, Below.refl _ _⟩
 have hp' : 0 ≤ at_ ∧ at_ ≤ 1600 ∧ ((size = 1 ∨ size = 2 ∨ size = 4 ∨ size = 8) ∧ at_ % size = 0) := by simpa [placeB] using hp
 obtain ⟨ha0, ha1, hz, hm⟩ := hp'
 have hw8 : s.size % 8 = 0 ∧ s.size ≤ 1600 := by simpa [wordsB] using hw
 obtain ⟨hw1, hw2⟩ := hw8
 obtain ⟨a, rfl⟩ := Int.eq_ofNat_of_zero_le ha0
 have hG : getI s.data.toList a size = wrap64 (leN s.data.toList a size.toNat : Nat) := by rw [getI, hsl, if_pos ⟨hw, hp⟩]; rfl
 by_cases hin : a < s.size
 · have hlen : ((s.data.toList.drop (8 * (a / 8))).take 8).length = 8 := by simp; omega
   have hsum : (a % 8 : Nat) + size ≤ 8 := by rcases hz with rfl | rfl | rfl | rfl <;> omega
   have hz0 : 0 ≤ size := by omega
   have hN := leN_word s.data.toList (a / 8) size.toNat (a % 8) (by omega)
   rw [show 8 * (a / 8) + a % 8 = a by omega] at hN
   rw [← hN] at hG
   have HG := Lib.hid hG
   have HL := Lib.hid hlen
   have HM := Lib.hid hm
   clear hN hG hlen hsl hm
   go_enter Tryz.func113, Tryz.ntmps113
   go_wp2_with (first | (go_at_call 128; refine (isWords_any _ _ hs).mono ?_; rintro e w' ⟨rfl, rfl⟩) | (go_at_call 134; refine (isPlace_any _ _ _).mono ?_; rintro e w' ⟨rfl, rfl⟩) | (go_at_call 130; go_must (refine (wordAt_any s _ _ hs (by omega) (by omega)).mono ?_); rintro e w1 ⟨rfl, hb1⟩) | (go_at_call 135; go_must (refine (number_any _ _ _ _ (by exact HL.out) (by omega) (by omega) (by omega)).mono ?_); rintro e w2 ⟨rfl, hb2⟩))
   go_ret
   refine ⟨ret_int ?_, hb1.trans (hb2.mono hb1.size)⟩
   rw [HG.out]
 · have hG0 : getI s.data.toList a size = 0 := by rw [hG, leN_out _ _ _ (by omega)]; simp [wrap64]
   rw [hG0]
   clear hG hG0 hsl
   go_enter Tryz.func113, Tryz.ntmps113
   go_wp2_with (first | (go_at_call 128; refine (isWords_any _ _ hs).mono ?_; rintro e w' ⟨rfl, rfl⟩) | (go_at_call 134; refine (isPlace_any _ _ _).mono ?_; rintro e w' ⟨rfl, rfl⟩))
   go_ret
   exact ⟨rfl, Below.refl _ _⟩
end Go.Proofs.YtehhbbdaeonebaaGreatDoor
