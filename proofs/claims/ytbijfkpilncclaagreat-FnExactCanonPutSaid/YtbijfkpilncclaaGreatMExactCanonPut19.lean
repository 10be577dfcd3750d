/- Texts of the proof of the law FnExactCanonPut, side by side: part 19. -/
import Derived.Test.YtbijfkpilncclaaGreatMExactCanonPut00
import Derived.Test.YtbijfkpilncclaaGreatMExactCanonPut01
import Derived.Test.YtbijfkpilncclaaGreatMExactCanonPut02
import Derived.Test.YtbijfkpilncclaaGreatMExactCanonPut03
import Derived.Test.YtbijfkpilncclaaGreatMExactCanonPut04
import Derived.Test.YtbijfkpilncclaaGreatMExactCanonPut05
import Derived.Test.YtbijfkpilncclaaGreatMExactCanonPut06
import Derived.Test.YtbijfkpilncclaaGreatMExactCanonPut07
import Derived.Test.YtbijfkpilncclaaGreatMExactCanonPut08
import Derived.Test.YtbijfkpilncclaaGreatMExactCanonPut09
import Derived.Test.YtbijfkpilncclaaGreatMExactCanonPut10
import Derived.Test.YtbijfkpilncclaaGreatMExactCanonPut11
import Derived.Test.YtbijfkpilncclaaGreatMExactCanonPut12
import Derived.Test.YtbijfkpilncclaaGreatMExactCanonPut13
import Derived.Test.YtbijfkpilncclaaGreatMExactCanonPut14
import Derived.Test.YtbijfkpilncclaaGreatMExactCanonPut15
import Derived.Test.YtbijfkpilncclaaGreatMExactCanonPut16
import Derived.Test.YtbijfkpilncclaaGreatMExactCanonPut17
import Derived.Test.YtbijfkpilncclaaGreatMExactCanonPut18
/- How many words a node takes by itself: the specification's word. -/
namespace Go.Proofs.YtbijfkpilncclaaGreat
open Go.RowKit
theorem below_drewN' {B : Nat} {a w : World} (h : Below B a w) (n : Nat) : Below B a (w.drewN n) := ⟨h.os, h.tape, h.output, h.size, h.block⟩
set_option maxHeartbeats 4000000 in
set_option maxRecDepth 100000 in
theorem l4Own_a (m : Nat) (n : Nd) (h : Hd) (w : World) (S : Nat → Prop) (hn : NdAt w S m n h) (hf : formN n = true) (ht : totN m n ≤ 2000000) :
    Calls Tryz.prog 107 #[.agg #[.int .i64 n.kind, .string n.data, .slice h.A n.ptrs.length h.a, .int .i64 n.size, .int .i64 n.count, .slice h.B n.items.length h.b]] w fun e w' => e = .returned (.int .i64 (ownN n : Nat)) ∧ Below w.heap.size w w' := by
  obtain ⟨qA, qa, qB, qb⟩ := h
  dsimp only at hn ⊢
  have hds : n.data.size ≤ 2000000 := by unfold totN at ht; omega
  have hpl : n.ptrs.length ≤ 2000000 := totL_len' hn.2.1 (by unfold totN at ht; omega)
  have hil : n.items.length ≤ 2000000 := totL_len' hn.2.2 (by unfold totN at ht; omega)
  rcases form_cases hf with hc | hc | hc
  · have HX : Hid (ownN n = 0) := Lib.hid (by unfold ownN ownB; rw [hc.2.1, hc.2.2.1, nil_of_len hc.2.2.2.2.2, hc.1]; rfl)
    have k1 : (n.kind == 1) = false := by rw [hc.1]; rfl
    have k2 : (n.kind != 2) = true := by rw [hc.1]; rfl
    clear hc hn ht hf
    go_enter Tryz.func107, Tryz.ntmps107
    go_wp2
    go_ret
    exact ⟨by rw [HX.out]; rfl, (Below.refl _ _).alloc (Nat.le_refl _) _⟩
  · have HX : Hid (((ownN n : Nat) : Int) = (n.data.size : Int) / 8 + n.ptrs.length) := Lib.hid (by
      have : ownN n = ownB n := by unfold ownN; rw [nil_of_len hc.2.2.2.2, if_neg (by omega)]; simp
      rw [this]; unfold ownB; have := hc.2.1; omega)
    have k1 : (n.kind == 1) = true := by rw [hc.1]; rfl
    clear hc hn ht hf
    go_enter Tryz.func107, Tryz.ntmps107
    go_wp2
    go_ret
    exact ⟨by rw [HX.out]; rfl, (Below.refl _ _).alloc (Nat.le_refl _) _⟩
  · obtain ⟨hk, hcc, hc⟩ := hc
    have k1 : (n.kind == 1) = false := by rw [hk]; rfl
    have k2 : (n.kind != 2) = false := by rw [hk]; rfl
    rcases hc with hc | hc | hc
    · have HX : Hid (((ownN n : Nat) : Int) = ((n.data.size : Int) + 7) / 8) := Lib.hid (by
        have : ownN n = ownB n := by unfold ownN; rw [nil_of_len hc.2.2.2.2, if_neg (by omega)]; simp
        rw [this]; unfold ownB; have := hc.2.2.2.1; omega)
      have z6 : (n.size == 6) = false := by rw [beq_eq_false_iff_ne]; omega
      have z7 : (n.size == 7) = false := by rw [beq_eq_false_iff_ne]; omega
      clear hc hn ht hf hk
      go_enter Tryz.func107, Tryz.ntmps107
      go_wp2
      go_ret
      exact ⟨by rw [HX.out]; rfl, (Below.refl _ _).alloc (Nat.le_refl _) _⟩
    · have HX : Hid (((ownN n : Nat) : Int) = n.count) := Lib.hid (by
        have : ownN n = ownB n := by unfold ownN; rw [nil_of_len hc.2.2.2, if_neg (by omega)]; simp
        rw [this]; unfold ownB; rw [hc.2.1]; have := hc.2.2.1; omega)
      have z6 : (n.size == 6) = true := by rw [hc.1]; rfl
      have z7 : (n.size == 7) = false := by rw [hc.1]; rfl
      clear hc hn ht hf hk
      go_enter Tryz.func107, Tryz.ntmps107
      go_wp2
      go_ret
      exact ⟨by rw [HX.out]; rfl, (Below.refl _ _).alloc (Nat.le_refl _) _⟩
    · have HX : Hid (ownN n = 1 + (n.items.map ownB).sum) := Lib.hid (by unfold ownN; rw [if_pos ⟨hk, hc.1⟩]; unfold ownB; rw [hc.2.1, hc.2.2.1])
      have HIT : Hid (∀ k (hk : k < n.items.length), ((n.items[k]).data.size : Int) % 8 = 0 ∧ (n.items[k]).data.size ≤ 2000000 ∧ (n.items[k]).ptrs.length ≤ 2000000) := Lib.hid fun k hk => by
        obtain ⟨h1, h2, h3⟩ := form_item hf _ (List.getElem_mem hk)
        obtain ⟨h4, h5⟩ := item_small hn.2.2 _ (List.getElem_mem hk)
        unfold totN at ht
        exact ⟨h2, by omega, by omega⟩
      have HSUM : Hid (∀ k, ((n.items.take k).map ownB).sum ≤ 2000000) := Lib.hid fun k => by
        have h1 := sum_take_le n.items ownB k
        have h2 := own_sum hn.2.2
        unfold totN at ht
        omega
      have z7 : (n.size == 7) = true := by rw [hc.1]; rfl
      have hba := (Below.refl w.heap.size w).alloc (Nat.le_refl _) (.cells #[.int .i64 n.kind, .string n.data, .slice qA n.ptrs.length qa, .int .i64 n.size, .int .i64 n.count, .slice qB n.items.length qb] nodeT)
      have HN := Lib.hid (NdsAt.succ _ _ _ (hn.2.2.below hba))
      have HBA := Lib.hid hba
      have HR := Lib.hid (heap_alloc_new w (.cells #[.int .i64 n.kind, .string n.data, .slice qA n.ptrs.length qa, .int .i64 n.size, .int .i64 n.count, .slice qB n.items.length qb] nodeT))
      have hsz : w.heap.size < (w.alloc (.cells #[.int .i64 n.kind, .string n.data, .slice qA n.ptrs.length qa, .int .i64 n.size, .int .i64 n.count, .slice qB n.items.length qb] nodeT)).heap.size := by simp
      clear hc hn ht hf hk hba
      go_enter Tryz.func107, Tryz.ntmps107
      go_wp2
      generalize w.alloc (.cells #[.int .i64 n.kind, .string n.data, .slice qA n.ptrs.length qa, .int .i64 n.size, .int .i64 n.count, .slice qB n.items.length qb] nodeT) = W at *
      go_loopw [3, 4] (fun q i wr => ∃ (k : Nat) (z : Int), q = .int .i64 z ∧ i = .int .i64 k ∧ k ≤ n.items.length ∧ 0 ≤ z ∧ z ≤ 6000000 ∧ Hid (z = ((1 + ((n.items.take k).map ownB).sum : Nat) : Int)) ∧ Hid (Below W.heap.size W wr)) (fun _ i _ => n.items.length - (intOf i).toNat)
      case atStart => exact ⟨0, _, rfl, rfl, by omega, by omega, by omega, Lib.hid (by simp), Lib.hid (Below.refl _ _)⟩
      case round =>
        obtain ⟨k, z, rfl, rfl, hk, hz0, hz, HZ, HB⟩ := hrel
        obtain ⟨a0, a1, a2, a3, a4, a5⟩ := cells6 ((HB.out.block _ hsz).trans HR.out)
        by_cases hlt : k < n.items.length
        · obtain ⟨x, yA, ya, yB, yb, rfl, hc, -, -, -⟩ := (HN.out.below HB.out).at6 hlt
          obtain ⟨i1, i2, i3⟩ := HIT.out k hlt
          have HS := Lib.hid (own_take n.items k hlt)
          generalize n.items[k] = y at hc i1 i2 i3 HS
          have HO : Hid (((ownB y : Nat) : Int) = (y.data.size : Int) / 8 + y.ptrs.length) := Lib.hid (by unfold ownB; omega)
          have hz2 : z + (y.data.size : Int) / 8 + y.ptrs.length ≤ 6000000 := by have := HZ.out; have := HS.out; have := HSUM.out (k + 1); have := HO.out; omega
          obtain ⟨d0, d1, d2, d3, d4, d5⟩ := hc
          dsimp only at d2 d5
          have hk2 : (k : Int) < (n.items.length : Int) := by omega
          clear i1
          go_wp2
          go_big_quiet (fail)
          go_wp2
          go_roundw
          case rel => exact ⟨k + 1, _, rfl, by go_num, by omega, by omega, hz2, Lib.hid (by rw [HZ.out, HS.out]; have := HO.out; omega), Lib.hid (below_drewN' HB.out _)⟩
          case measure => simp [intOf]; omega
        · obtain rfl : k = n.items.length := by omega
          rw [List.take_of_length_le (Nat.le_refl _)] at HZ
          have HBE := Lib.hid (HBA.out.trans (HB.out.mono HBA.out.size))
          go_wp2
          go_ret
          exact ⟨by rw [HX.out, HZ.out]; rfl, HBE.out⟩
end Go.Proofs.YtbijfkpilncclaaGreat

/- How many words a node takes, and what it costs: the specification's word. -/
namespace Go.Proofs.YtbijfkpilncclaaGreat
open Go.RowKit
theorem mem_ptrs {n p : Nd} (h : p ∈ n.ptrs) : p ∈ ptrsL n := List.mem_append_left _ h
theorem mem_items {n y p : Nd} (h : y ∈ n.items) (hp : p ∈ y.ptrs) : p ∈ ptrsL n := List.mem_append_right _ (List.mem_flatMap.2 ⟨y, h, hp⟩)
theorem sum_flat (l : List Nd) (f : Nd → Nat) : ((l.flatMap Nd.ptrs).map f).sum = (l.map fun y => (y.ptrs.map f).sum).sum := by
  induction l with
  | nil => rfl
  | cons a t ih => rw [List.flatMap_cons, List.map_append, List.sum_append, ih]; rfl
theorem sum_ptrs (n : Nd) (f : Nd → Nat) : ((ptrsL n).map f).sum = (n.ptrs.map f).sum + (n.items.map fun y => (y.ptrs.map f).sum).sum := by
  unfold ptrsL
  rw [List.map_append, List.sum_append, sum_flat]
theorem tot_ptrs2 {w : World} {S : Nat → Prop} {m : Nat} {n : Nd} {h : Hd} (hn : NdAt w S m n h) : totL m (ptrsL n) + n.data.size + (n.items.map fun y => y.data.size).sum ≤ totN m n := by
  cases m with
  | zero =>
    rw [hn.2.2.zero]
    unfold totN
    simp only [List.map_nil, List.sum_nil]
    show 0 + _ + 0 ≤ _
    omega
  | succ m =>
    have h1 : totL (m + 1) (ptrsL n) = totL (m + 1) n.ptrs + (n.items.map fun y => totL (m + 1) y.ptrs).sum := by
      unfold ptrsL
      rw [totL_succ, List.map_append, List.sum_append, ← totL_succ, ← totL_succ, flat_tot]
    have h2 : (n.items.map fun y => totL (m + 1) y.ptrs + y.data.size).sum ≤ totL (m + 1) n.items := by
      rw [totL_succ]
      refine sum_le _ _ _ fun y hy => ?_
      obtain ⟨hd, h3⟩ := hn.2.2.mem y hy
      rw [totL_eq m _ _ h3.2.1]
      unfold totN
      omega
    have h4 : ∀ l : List Nd, (l.map fun y => totL (m + 1) y.ptrs + y.data.size).sum = (l.map fun y => totL (m + 1) y.ptrs).sum + (l.map fun y => y.data.size).sum := by
      intro l
      induction l with
      | nil => rfl
      | cons a t ih => simp only [List.map_cons, List.sum_cons, ih]; omega
    rw [h4] at h2
    rw [h1]
    unfold totN
    omega
theorem own_le2 (n : Nd) : ownN n ≤ n.data.size + (n.items.map fun y => y.data.size).sum + (ptrsL n).length + 1 := by
  have h1 : ownB n ≤ n.data.size + n.ptrs.length := by unfold ownB; omega
  have h2 : ∀ l : List Nd, (l.map ownB).sum ≤ (l.map fun y => y.data.size).sum + (l.flatMap Nd.ptrs).length := by
    intro l
    induction l with
    | nil => simp
    | cons a t ih =>
      have : ownB a ≤ a.data.size + a.ptrs.length := by unfold ownB; omega
      simp only [List.map_cons, List.sum_cons, List.flatMap_cons, List.length_append]
      omega
  have h3 := h2 n.items
  unfold ownN ptrsL
  rw [List.length_append]
  split <;> omega
theorem words_bound {w : World} {S : Nat → Prop} : ∀ (d m : Nat) (n : Nd) (h : Hd), NdAt w S m n h → okN d n = true → wordsN d n ≤ 2 * totN m n + 1 := by
  intro d
  induction d with
  | zero => intro m n h hn hok; exact Nat.zero_le _
  | succ d ih =>
    intro m n h hn hok
    obtain ⟨hf, hk⟩ := ok_kids hok
    have h1 := own_le2 n
    have h2 := tot_ptrs2 hn
    have h3 : ((ptrsL n).map (wordsN d)).sum + (ptrsL n).length ≤ 2 * totL m (ptrsL n) := by
      cases m with
      | zero =>
        have : ptrsL n = [] := by unfold ptrsL; rw [hn.2.1.zero, hn.2.2.zero]; rfl
        rw [this]; simp
      | succ m =>
        have hmem : ∀ p ∈ ptrsL n, ∃ hp : Hd, NdAt w S m p hp := by
          intro p hp
          unfold ptrsL at hp
          rcases List.mem_append.1 hp with hp | hp
          · exact hn.2.1.mem p hp
          · obtain ⟨y, hy, hpy⟩ := List.mem_flatMap.1 hp
            obtain ⟨hd, hyn⟩ := hn.2.2.mem y hy
            obtain ⟨j, rfl⟩ : ∃ j, m = j + 1 := by
              cases m with
              | zero => rw [hyn.2.1.zero] at hpy; cases hpy
              | succ j => exact ⟨j, rfl⟩
            obtain ⟨hd2, h4⟩ := hyn.2.1.mem p hpy
            exact ⟨hd2, h4.mono (by omega)⟩
        have h5 : ((ptrsL n).map fun p => wordsN d p + 1).sum ≤ ((ptrsL n).map fun p => 2 * (1 + totN m p)).sum := sum_le _ _ _ fun p hp => by
          obtain ⟨hd2, h6⟩ := hmem p hp
          have := ih m p hd2 h6 (hk p hp)
          omega
        have h7 : ∀ l : List Nd, (l.map fun p => wordsN d p + 1).sum = (l.map (wordsN d)).sum + l.length := by
          intro l
          induction l with
          | nil => rfl
          | cons a t ih => simp only [List.map_cons, List.sum_cons, List.length_cons, ih]; omega
        have h8 : ∀ l : List Nd, (l.map fun p => 2 * (1 + totN m p)).sum = 2 * (l.map fun p => 1 + totN m p).sum := by
          intro l
          induction l with
          | nil => rfl
          | cons a t ih => simp only [List.map_cons, List.sum_cons, ih]; omega
        rw [h7, h8, ← totL_succ] at h5
        exact h5
    show ownN n + _ ≤ _
    omega

def L4W (d : Nat) : Prop := ∀ (m : Nat) (n : Nd) (h : Hd) (w : World) (S : Nat → Prop), NdAt w S m n h → totN m n ≤ 2000000 → okN d n = true →
  Calls Tryz.prog 68 #[.agg #[.int .i64 n.kind, .string n.data, .slice h.A n.ptrs.length h.a, .int .i64 n.size, .int .i64 n.count, .slice h.B n.items.length h.b]] w fun e w' => e = .returned (.int .i64 (wordsN d n : Nat)) ∧ Below w.heap.size w w'
set_option maxHeartbeats 8000000 in
set_option maxRecDepth 100000 in
theorem l4Words_step (d : Nat) (ih : ∀ j, d = j + 1 → L4W j) : L4W d := by
  intro m n h w S hn ht hok
  have hbd := words_bound d m n h hn hok
  obtain ⟨qA, qa, qB, qb⟩ := h
  dsimp only at hn ⊢
  have hpl : n.ptrs.length ≤ 2000000 := totL_len' hn.2.1 (by unfold totN at ht; omega)
  have hil : n.items.length ≤ 2000000 := totL_len' hn.2.2 (by unfold totN at ht; omega)
  have hf := (ok_kids hok).1
  have hob := own_bound hn ht
  have HN := Lib.hid hn
  have HT := Lib.hid ht
  have hba := (Below.refl w.heap.size w).alloc (Nat.le_refl _) (.cells #[.int .i64 n.kind, .string n.data, .slice qA n.ptrs.length qa, .int .i64 n.size, .int .i64 n.count, .slice qB n.items.length qb] nodeT)
  have hr := heap_alloc_new w (.cells #[.int .i64 n.kind, .string n.data, .slice qA n.ptrs.length qa, .int .i64 n.size, .int .i64 n.count, .slice qB n.items.length qb] nodeT)
  have hsz : w.heap.size < (w.alloc (.cells #[.int .i64 n.kind, .string n.data, .slice qA n.ptrs.length qa, .int .i64 n.size, .int .i64 n.count, .slice qB n.items.length qb] nodeT)).heap.size := by simp
  have HOW := Lib.hid (l4Own_a m n ⟨qA, qa, qB, qb⟩ _ S (hn.below hba) hf ht)
  dsimp only at HOW
  have HBA := Lib.hid hba
  have HR := Lib.hid hr
  have HTOT : Hid (wordsN d n = ownN n + (n.ptrs.map (wordsN (d - 1))).sum + (n.items.map fun y => (y.ptrs.map (wordsN (d - 1))).sum).sum) := Lib.hid (by rw [words_kids hok, sum_ptrs]; omega)
  have HKID : Hid (∀ p ∈ ptrsL n, ∀ (m' : Nat) (hp : Hd) (W : World), NdAt W S m' p hp → totN m' p ≤ 2000000 → Calls Tryz.prog 68 #[.agg #[.int .i64 p.kind, .string p.data, .slice hp.A p.ptrs.length hp.a, .int .i64 p.size, .int .i64 p.count, .slice hp.B p.items.length hp.b]] W fun e w' => e = .returned (.int .i64 (wordsN (d - 1) p : Nat)) ∧ Below W.heap.size W w') := Lib.hid fun p hp m' h' W h1 h2 => by
    cases d with
    | zero =>
      have h3 := words_kids hok
      have h4 := ptrs_own n
      have h5 : (ptrsL n).length ≠ 0 := by intro h; rw [nil_of_len h] at hp; cases hp
      simp only [wordsN] at h3
      omega
    | succ j => exact ih j rfl m' p h' W S h1 h2 ((ok_kids hok).2 p hp)
  have htb : wordsN d n ≤ 4000001 := by omega
  clear hn ht hok hf ih hbd hba hr
  generalize wordsN d n = tt at *
  generalize ownN n = s0 at *
  have HS0 : Hid ((s0 : Int) = ((s0 : Nat) : Int)) := Lib.hid rfl
  go_enter Tryz.func68, Tryz.ntmps68
  go_wp2_with fail
  refine HOW.out.mono ?_
  rintro e w1 ⟨rfl, hb1⟩
  have hr1 := (hb1.block w.heap.size hsz).trans HR.out
  have HR1 := Lib.hid hr1
  have HB1 := Lib.hid (HBA.out.trans (hb1.mono HBA.out.size))
  obtain ⟨a0, a1, a2, a3, a4, a5⟩ := cells6 hr1
  clear hr1 hb1
  go_wp2
  go_loopw [3, 4] (fun u i wr => ∃ (k : Nat) (z : Int), u = .int .i64 z ∧ i = .int .i64 k ∧ k ≤ n.ptrs.length ∧ 0 ≤ z ∧ z ≤ 4000001 ∧ Hid (z = ((s0 + ((n.ptrs.take k).map (wordsN (d - 1))).sum : Nat) : Int)) ∧ Hid (Below w.heap.size w wr ∧ wr.heap[w.heap.size]? = some (.cells #[.int .i64 n.kind, .string n.data, .slice qA n.ptrs.length qa, .int .i64 n.size, .int .i64 n.count, .slice qB n.items.length qb] nodeT (0, 0)))) (fun _ i _ => n.ptrs.length - (intOf i).toNat)
  case atStart => exact ⟨0, _, rfl, rfl, by omega, by have := HS0.out; omega, by have := HS0.out; omega, Lib.hid (by rw [List.take_zero, List.map_nil, List.sum_nil]; have := HS0.out; omega), Lib.hid ⟨HB1.out, HR1.out⟩⟩
  case round =>
    obtain ⟨k, z, rfl, rfl, hk, hz0, hz1, HZ, HB⟩ := hrel
    obtain ⟨hbr, hrr⟩ := HB.out
    clear a0 a1 a2 a3 a4 a5
    obtain ⟨a0, a1, a2, a3, a4, a5⟩ := cells6 hrr
    by_cases hlt : k < n.ptrs.length
    · obtain ⟨m', rfl⟩ := HN.out.2.1.pred hlt
      obtain ⟨x, yA, ya, yB, yb, rfl, hc0, hdy, hny, hniy⟩ := HN.out.2.1.at6 hlt
      have hc := cell_below hbr _ _ _ hc0
      have HST := Lib.hid (sum_take_succ n.ptrs (wordsN (d - 1)) k hlt)
      have HSL := Lib.hid (sum_take_le n.ptrs (wordsN (d - 1)) (k + 1))
      have htp : totN m' n.ptrs[k] ≤ 2000000 := by have := totL_at (m := m') hlt; have := HT.out; unfold totN at this; omega
      have HC := Lib.hid (HKID.out _ (mem_ptrs (List.getElem_mem hlt)) m' ⟨yA, ya, yB, yb⟩ wr (NdAt.below ⟨hdy, hny, hniy⟩ hbr) htp)
      dsimp only at HC
      generalize n.ptrs[k] = y at hc HST HC
      have hzv : z + ((wordsN (d - 1)) y : Nat) ≤ 4000001 := by have := HZ.out; have := HST.out; have := HSL.out; have := HTOT.out; omega
      obtain ⟨c0, c1, c2, c3, c4, c5⟩ := hc
      dsimp only at c2 c5
      have HBR := Lib.hid hbr
      have HRR := Lib.hid hrr
      clear hbr hrr hc0 hdy hny hniy htp HB
      generalize (wordsN (d - 1)) y = v at *
      go_wp2_with fail
      refine HC.out.mono ?_
      rintro e w3 ⟨rfl, hb3⟩
      have HB3 := Lib.hid (And.intro (HBR.out.trans (hb3.mono HBR.out.size)) ((hb3.block w.heap.size (row_lt HRR.out)).trans HRR.out))
      clear hb3
      go_wp2
      go_roundw
      case rel => exact ⟨k + 1, _, rfl, by go_num, by omega, by omega, hzv, Lib.hid (by rw [HZ.out, HST.out]; omega), HB3⟩
      case measure => simp [intOf]; omega
    · obtain rfl : k = n.ptrs.length := by omega
      rw [List.take_of_length_le (Nat.le_refl _)] at HZ
      have HBR := Lib.hid hbr
      have HRR := Lib.hid hrr
      have HZP := HZ
      have hzp0 := hz0
      have hzp1 := hz1
      clear hbr hrr HB HZ
      go_wp2
      go_loopw [3, 5] (fun u i wr => ∃ (k : Nat) (z : Int), u = .int .i64 z ∧ i = .int .i64 k ∧ k ≤ n.items.length ∧ 0 ≤ z ∧ z ≤ 4000001 ∧ Hid (z = ((s0 + (n.ptrs.map (wordsN (d - 1))).sum + ((n.items.take k).map fun y => (y.ptrs.map (wordsN (d - 1))).sum).sum : Nat) : Int)) ∧ Hid (Below w.heap.size w wr ∧ wr.heap[w.heap.size]? = some (.cells #[.int .i64 n.kind, .string n.data, .slice qA n.ptrs.length qa, .int .i64 n.size, .int .i64 n.count, .slice qB n.items.length qb] nodeT (0, 0)))) (fun _ i _ => n.items.length - (intOf i).toNat)
      case atStart => exact ⟨0, _, rfl, rfl, by omega, hzp0, hzp1, Lib.hid (by rw [HZP.out]; simp), Lib.hid ⟨HBR.out, HRR.out⟩⟩
      case round =>
        clear hz0 hz1 hzp0 hzp1
        obtain ⟨k, z, rfl, rfl, hk, hz0, hz1, HZ, HB⟩ := hrel
        obtain ⟨hbr, hrr⟩ := HB.out
        clear a0 a1 a2 a3 a4 a5
        obtain ⟨a0, a1, a2, a3, a4, a5⟩ := cells6 hrr
        by_cases hlt : k < n.items.length
        · obtain ⟨m', rfl⟩ := HN.out.2.2.pred hlt
          obtain ⟨x, yA, ya, yB, yb, rfl, hc0, hdy, hny, hniy⟩ := HN.out.2.2.at6 hlt
          have HSTI := Lib.hid (sum_take_succ n.items (fun y => (y.ptrs.map (wordsN (d - 1))).sum) k hlt)
          have HSLI := Lib.hid (sum_take_le n.items (fun y => (y.ptrs.map (wordsN (d - 1))).sum) (k + 1))
          have HTP : Hid (totL m' (n.items[k]).ptrs ≤ 2000000) := Lib.hid (by have := totL_at (m := m') hlt; have := HT.out; unfold totN at *; omega)
          have hypl : (n.items[k]).ptrs.length ≤ 2000000 := totL_len' hny HTP.out
          have HMY := Lib.hid (fun p hp => HKID.out p (mem_items (List.getElem_mem hlt) hp))
          generalize n.items[k] = y at hc0 HSTI hny HTP hypl HMY
          have HC0 := Lib.hid hc0
          have HNY := Lib.hid hny
          have HBR := Lib.hid hbr
          have HRR := Lib.hid hrr
          have hzi0 := hz0
          have hzi1 := hz1
          clear hbr hrr hc0 hdy hny hniy HB
          go_wp2
          clear a0 a1 a2 a3 a4 a5
          go_loopw [3, 6] (fun u i wr => ∃ (q : Nat) (z : Int), u = .int .i64 z ∧ i = .int .i64 q ∧ q ≤ y.ptrs.length ∧ 0 ≤ z ∧ z ≤ 4000001 ∧ Hid (z = ((s0 + (n.ptrs.map (wordsN (d - 1))).sum + ((n.items.take k).map fun y => (y.ptrs.map (wordsN (d - 1))).sum).sum + ((y.ptrs.take q).map (wordsN (d - 1))).sum : Nat) : Int)) ∧ Hid (Below w.heap.size w wr ∧ wr.heap[w.heap.size]? = some (.cells #[.int .i64 n.kind, .string n.data, .slice qA n.ptrs.length qa, .int .i64 n.size, .int .i64 n.count, .slice (some x) n.items.length qb] nodeT (0, 0)))) (fun _ i _ => y.ptrs.length - (intOf i).toNat)
          case atStart => exact ⟨0, _, rfl, rfl, by omega, hzi0, hzi1, Lib.hid (by rw [HZ.out]; simp), Lib.hid ⟨HBR.out, HRR.out⟩⟩
          case round =>
            clear hz0 hz1 hzi0 hzi1
            obtain ⟨q, z, rfl, rfl, hq, hz0, hz1, HZQ, HB⟩ := hrel
            obtain ⟨hbr, hrr⟩ := HB.out
            obtain ⟨a0, a1, a2, a3, a4, a5⟩ := cells6 hrr
            have hc := cell_below hbr _ _ _ HC0.out
            obtain ⟨-, -, d2, -, -, -⟩ := hc
            dsimp only at d2
            by_cases hqt : q < y.ptrs.length
            · obtain ⟨m'', rfl⟩ := HNY.out.pred hqt
              obtain ⟨x2, zA, za, zB, zb, rfl, hc2, hdz, hnz, hniz⟩ := HNY.out.at6 hqt
              have hcz := cell_below hbr _ _ _ hc2
              have HST := Lib.hid (sum_take_succ y.ptrs (wordsN (d - 1)) q hqt)
              have HSL := Lib.hid (sum_take_le y.ptrs (wordsN (d - 1)) (q + 1))
              have htp : totN m'' y.ptrs[q] ≤ 2000000 := by have := totL_at (m := m'') hqt; have := HTP.out; omega
              have HC := Lib.hid (HMY.out _ (List.getElem_mem hqt) m'' ⟨zA, za, zB, zb⟩ wr (NdAt.below ⟨hdz, hnz, hniz⟩ hbr) htp)
              dsimp only at HC
              generalize y.ptrs[q] = t at hcz HST HC
              have hzv : z + ((wordsN (d - 1)) t : Nat) ≤ 4000001 := by have := HZQ.out; have := HST.out; have := HSL.out; have := HTOT.out; have := HSTI.out; have := HSLI.out; omega
              obtain ⟨c0, c1, c2, c3, c4, c5⟩ := hcz
              dsimp only at c2 c5
              have HBR := Lib.hid hbr
              have HRR := Lib.hid hrr
              clear hbr hrr hc2 hdz hnz hniz htp HB
              generalize (wordsN (d - 1)) t = v at *
              go_wp2_with fail
              refine HC.out.mono ?_
              rintro e w3 ⟨rfl, hb3⟩
              have HB3 := Lib.hid (And.intro (HBR.out.trans (hb3.mono HBR.out.size)) ((hb3.block w.heap.size (row_lt HRR.out)).trans HRR.out))
              clear hb3
              go_wp2
              go_roundw
              case rel => exact ⟨q + 1, _, rfl, by go_num, by omega, by omega, hzv, Lib.hid (by rw [HZQ.out, HST.out]; omega), HB3⟩
              case measure => simp [intOf]; omega
            · obtain rfl : q = y.ptrs.length := by omega
              rw [List.take_of_length_le (Nat.le_refl _)] at HZQ
              have HZ2 : Hid (z = ((s0 + (n.ptrs.map (wordsN (d - 1))).sum + ((n.items.take (k + 1)).map fun y => (y.ptrs.map (wordsN (d - 1))).sum).sum : Nat) : Int)) := Lib.hid (by rw [HZQ.out, HSTI.out]; omega)
              have HBB := Lib.hid (And.intro hbr hrr)
              clear hbr hrr HB
              go_wp2
              go_roundw
              case rel => exact ⟨k + 1, _, rfl, by go_num, by omega, hz0, hz1, HZ2, HBB⟩
              case measure => simp [intOf]; omega
        · obtain rfl : k = n.items.length := by omega
          rw [List.take_of_length_le (Nat.le_refl _)] at HZ
          have HBR := Lib.hid hbr
          clear hbr hrr HB
          go_wp2
          go_ret
          exact ⟨by rw [HTOT.out, HZ.out]; rfl, HBR.out⟩
theorem l4Words_any : ∀ d, L4W d
  | 0 => l4Words_step 0 (fun j hj => by omega)
  | d + 1 => l4Words_step (d + 1) (fun j hj => by
    obtain rfl : d = j := by omega
    exact l4Words_any d)
end Go.Proofs.YtbijfkpilncclaaGreat

/- NodeOk, NodeWords, ReadCost: the specification's. -/
namespace Go.Proofs.YtbijfkpilncclaaGreat
open Go.RowKit
set_option maxHeartbeats 2000000 in
set_option maxRecDepth 100000 in
theorem specNodeOk_a (m : Nat) (n : Nd) (h : Hd) (w : World) (S : Nat → Prop) (hn : NdAt w S m n h) (ht : totN m n ≤ 2000000) :
    Calls Tryz.prog 30 #[.agg #[.int .i64 n.kind, .string n.data, .slice h.A n.ptrs.length h.a, .int .i64 n.size, .int .i64 n.count, .slice h.B n.items.length h.b]] w fun e w' => e = .returned (.bool (nodeOk n)) ∧ Below w.heap.size w w' := by
  have hb0 := (Below.refl w.heap.size w).alloc (Nat.le_refl _) (.cells #[.int .i64 n.kind, .string n.data, .slice h.A n.ptrs.length h.a, .int .i64 n.size, .int .i64 n.count, .slice h.B n.items.length h.b] nodeT)
  have HB0 := Lib.hid hb0
  have HBX := Lib.hid (heap_alloc_new w (.cells #[.int .i64 n.kind, .string n.data, .slice h.A n.ptrs.length h.a, .int .i64 n.size, .int .i64 n.count, .slice h.B n.items.length h.b] nodeT))
  have HO := Lib.hid (l4Ok_any 8 (by decide) m n h _ S (hn.below hb0) ht)
  rw [show (((8 : Nat)) : Int) = 8 from rfl] at HO
  have HWO : Hid (okN 8 n = true → ∀ W : World, Below w.heap.size w W → Calls Tryz.prog 68 #[.agg #[.int .i64 n.kind, .string n.data, .slice h.A n.ptrs.length h.a, .int .i64 n.size, .int .i64 n.count, .slice h.B n.items.length h.b]] W fun e w' => e = .returned (.int .i64 (wordsN 8 n : Nat)) ∧ Below W.heap.size W w') := Lib.hid fun hok W hb => l4Words_any 8 m n h W S (hn.below hb) ht hok
  clear hn ht hb0
  cases hok : okN 8 n
  · have HX : Hid (nodeOk n = false) := Lib.hid (by unfold nodeOk; rw [hok]; rfl)
    rw [hok] at HO
    clear hok
    go_enter Tryz.func30, Tryz.ntmps30
    go_wp2_with fail
    refine HO.out.mono ?_
    rintro e w2 ⟨rfl, hb2⟩
    have HB2 := Lib.hid (HB0.out.trans (hb2.mono HB0.out.size))
    clear hb2
    go_wp2
    go_ret
    exact ⟨by rw [HX.out]; rfl, HB2.out⟩
  · have HX : Hid (nodeOk n = decide (((wordsN 8 n : Nat) : Int) < 200)) := Lib.hid (by unfold nodeOk; rw [hok, Bool.true_and, Bool.eq_iff_iff]; simp only [decide_eq_true_eq]; omega)
    have HC := Lib.hid (HWO.out hok)
    rw [hok] at HO
    clear HWO hok
    generalize wordsN 8 n = wd at *
    go_enter Tryz.func30, Tryz.ntmps30
    go_wp2_with fail
    refine HO.out.mono ?_
    rintro e w2 ⟨rfl, hb2⟩
    obtain ⟨a0, a1, a2, a3, a4, a5⟩ := cells6 ((hb2.block w.heap.size (by simp)).trans HBX.out)
    have HB2 := Lib.hid (HB0.out.trans (hb2.mono HB0.out.size))
    clear hb2
    go_wp2_with fail
    refine (HC.out _ HB2.out).mono ?_
    rintro e w3 ⟨rfl, hb3⟩
    have HB3 := Lib.hid (HB2.out.trans (hb3.mono HB2.out.size))
    clear hb3
    go_wp2
    go_ret
    exact ⟨by rw [HX.out]; rfl, HB3.out⟩
end Go.Proofs.YtbijfkpilncclaaGreat

/- The specification's Canon. -/
namespace Go.Proofs.YtbijfkpilncclaaGreat
open Go.RowKit Go.Deep
end Go.Proofs.YtbijfkpilncclaaGreat

/- Plain facts: a number that was put into bytes is got from them, and put back. No Go text. No condition beyond each theorem's own. -/
namespace Go.Proofs.YtbijfkpilncclaaGreat
open Go.RowKit
theorem leN_congr (l m : List UInt8) : ∀ (k a b : Nat), (∀ i, i < k → l[a + i]? = m[b + i]?) → leN l a k = leN m b k
  | 0, _, _, _ => rfl
  | k + 1, a, b, h => by
    have h0 := h 0 (by omega)
    simp only [Nat.add_zero] at h0
    have h1 := leN_congr l m k (a + 1) (b + 1) (fun i hi => by
      have := h (i + 1) (by omega)
      rwa [show a + (i + 1) = a + 1 + i by omega, show b + (i + 1) = b + 1 + i by omega] at this)
    rw [leN, leN, h0, h1]
theorem putL_in (l : List UInt8) (a : Nat) (xs : List UInt8) (h : a + xs.length ≤ l.length) (i : Nat) (hi : i < xs.length) : (putL l a xs)[a + i]? = xs[i]? := by
  have e1 : (l.take a).length = a := by simp; omega
  rw [putL, List.getElem?_append_right (by omega), e1, Nat.add_sub_cancel_left, List.getElem?_append_left hi]
theorem putL_out (l : List UInt8) (a : Nat) (xs : List UInt8) (h : a + xs.length ≤ l.length) (j : Nat) (hj : j < a ∨ a + xs.length ≤ j) : (putL l a xs)[j]? = l[j]? := by
  have e1 : (l.take a).length = a := by simp; omega
  rcases hj with hj | hj
  · rw [putL, List.getElem?_append_left (by omega), List.getElem?_take_of_lt hj]
  · rw [putL, List.getElem?_append_right (by omega), e1, List.getElem?_append_right (by omega), List.getElem?_drop]
    congr 1; omega
theorem putL_back (l : List UInt8) (a : Nat) (xs : List UInt8) (h : a + xs.length ≤ l.length) : putL (putL l a xs) a ((l.drop a).take xs.length) = l := by
  have hlen : ((l.drop a).take xs.length).length = xs.length := by simp; omega
  have hp := putL_length l a xs h
  apply List.ext_getElem?
  intro j
  by_cases hj : j < a ∨ a + xs.length ≤ j
  · rw [putL_out _ a _ (by omega) j (by omega), putL_out l a xs h j hj]
  · obtain ⟨i, rfl⟩ : ∃ i, j = a + i := ⟨j - a, by omega⟩
    rw [putL_in _ a _ (by omega) i (by omega), List.getElem?_take_of_lt (by omega), List.getElem?_drop]
theorem emod_256 (n m : Int) : n % (256 * m) = n % 256 + 256 * (n / 256 % m) := by
  rw [Int.emod_def n (256 * m), Int.emod_def (n / 256) m, ← Int.ediv_ediv_of_nonneg (by decide), Int.mul_assoc]
  omega
theorem leN_leB : ∀ (k : Nat) (n : Int), ((leN (leB n k) 0 k : Nat) : Int) = n % 256 ^ k
  | 0, n => by simp [leN, Int.emod_one]
  | k + 1, n => by
    have ih := leN_leB k (n / 256)
    have e : leN (leB n (k + 1)) 1 k = leN (leB (n / 256) k) 0 k := leN_congr _ _ k 1 0 (fun i _ => by rw [leB, Nat.add_comm, List.getElem?_cons_succ, Nat.zero_add])
    rw [leN, Nat.zero_add, e, leB, List.getElem?_cons_zero]
    simp only [Option.getD_some]
    rw [Int.natCast_add, Int.natCast_mul, ih, ofNat_toNat_u8, Int.pow_succ, Int.mul_comm (256 ^ k) 256, emod_256]
    rfl
theorem leN_putL (l : List UInt8) (a : Nat) (n : Int) (k : Nat) (h : a + k ≤ l.length) : ((leN (putL l a (leB n k)) a k : Nat) : Int) = n % 256 ^ k := by
  rw [← leN_leB k n, leN_congr (putL l a (leB n k)) (leB n k) k a 0 (fun i hi => ?_)]
  rw [putL_in l a _ (by rw [leB_length]; exact h) i (by rw [leB_length]; exact hi), Nat.zero_add]
theorem leN_putL_out (l : List UInt8) (a : Nat) (xs : List UInt8) (b k : Nat) (h : a + xs.length ≤ l.length) (hb : b + k ≤ a ∨ a + xs.length ≤ b) : leN (putL l a xs) b k = leN l b k :=
  leN_congr _ _ k b b (fun i hi => putL_out l a xs h (b + i) (by omega))
theorem leB_leN (l : List UInt8) : ∀ (k a : Nat), a + k ≤ l.length → leB ((leN l a k : Nat) : Int) k = (l.drop a).take k
  | 0, _, _ => by simp [leB]
  | k + 1, a, h => by
    have hb := byte_lt l a
    have e1 : (((l[a]?.getD 0).toNat + 256 * leN l (a + 1) k : Nat) : Int) % 256 = ((l[a]?.getD 0).toNat : Int) := by omega
    have e2 : (((l[a]?.getD 0).toNat + 256 * leN l (a + 1) k : Nat) : Int) / 256 = ((leN l (a + 1) k : Nat) : Int) := by omega
    rw [leN, leB, e1, e2, leB_leN l k (a + 1) (by omega), List.drop_eq_getElem_cons (show a < l.length by omega), List.take_succ_cons, List.getElem?_eq_getElem (by omega)]
    simp
theorem leN_2 (l : List UInt8) (a : Nat) : leN l a 2 = leN l a 1 + 256 * leN l (a + 1) 1 := by simp [leN]
theorem leN_4 (l : List UInt8) (a : Nat) : leN l a 4 = leN l a 2 + 65536 * leN l (a + 2) 2 := by simp [leN, Nat.add_assoc]; omega
end Go.Proofs.YtbijfkpilncclaaGreat

/- The parts of a pointer's word as numbers. -/
namespace Go.Proofs.YtbijfkpilncclaaGreat
open Go.RowKit
theorem nat_low (a n : Nat) : a &&& (2 ^ n - 1) = a % 2 ^ n := Nat.and_two_pow_sub_one_eq_mod a n
theorem nat_four (a : Nat) : a &&& 4 = 4 * (a / 4 % 2) := by
  have h : a &&& 4 = (a % 8) &&& 4 := by
    rw [show a % 8 = a &&& 7 from (nat_low a 3).symm, Nat.and_assoc]
    rfl
  have h8 : ∀ r : Nat, r < 8 → r &&& 4 = 4 * (r / 4 % 2) := by decide
  rw [h, h8 _ (Nat.mod_lt _ (by decide))]
  omega
theorem ofInt_32 (a : Nat) (ha : a < 4294967296) : (BitVec.ofInt 32 (a : Int)).toNat = a := by
  rw [BitVec.toNat_ofInt]
  omega
theorem and_u32 (a b : Nat) (ha : a < 4294967296) (hb : b < 4294967296) : bits .and .u32 (a : Int) (b : Int) = ((a &&& b : Nat) : Int) := by
  have hx : a &&& b < 2 ^ 32 := Nat.and_lt_two_pow _ (by omega)
  show IntKind.u32.wrap ((BitVec.ofInt 32 (a : Int) &&& BitVec.ofInt 32 (b : Int)).toNat : Int) = _
  rw [BitVec.toNat_and, ofInt_32 a ha, ofInt_32 b hb, IntKind.wrap_u32]
  omega
theorem and3_64 (a : Nat) (h : a < 4294967296) : bits .and .i64 (a : Int) 3 = ((a % 4 : Nat) : Int) := by
  rw [show (3 : Int) = ((3 : Nat) : Int) from rfl, and_i64 _ _ (by omega) (by omega), nat_low a 2]
theorem and7_64 (a : Nat) (h : a < 4294967296) : bits .and .i64 (a : Int) 7 = ((a % 8 : Nat) : Int) := by
  rw [show (7 : Int) = ((7 : Nat) : Int) from rfl, and_i64 _ _ (by omega) (by omega), nat_low a 3]
theorem andw_64 (a : Nat) (h : a < 4294967296) : bits .and .i64 (a : Int) 65535 = ((a % 65536 : Nat) : Int) := by
  rw [show (65535 : Int) = ((65535 : Nat) : Int) from rfl, and_i64 _ _ (by omega) (by omega), nat_low a 16]
theorem and4_64 (a : Nat) (h : a < 4294967296) : bits .and .i64 (a : Int) 4 = ((4 * (a / 4 % 2) : Nat) : Int) := by
  rw [show (4 : Int) = ((4 : Nat) : Int) from rfl, and_i64 _ _ (by omega) (by omega), nat_four]
theorem and3_32 (a : Nat) (h : a < 4294967296) : bits .and .u32 (a : Int) 3 = ((a % 4 : Nat) : Int) := by
  rw [show (3 : Int) = ((3 : Nat) : Int) from rfl, and_u32 _ _ (by omega) (by omega), nat_low a 2]
theorem and7_32 (a : Nat) (h : a < 4294967296) : bits .and .u32 (a : Int) 7 = ((a % 8 : Nat) : Int) := by
  rw [show (7 : Int) = ((7 : Nat) : Int) from rfl, and_u32 _ _ (by omega) (by omega), nat_low a 3]
theorem andw_32 (a : Nat) (h : a < 4294967296) : bits .and .u32 (a : Int) 65535 = ((a % 65536 : Nat) : Int) := by
  rw [show (65535 : Int) = ((65535 : Nat) : Int) from rfl, and_u32 _ _ (by omega) (by omega), nat_low a 16]
theorem and4_32 (a : Nat) (h : a < 4294967296) : bits .and .u32 (a : Int) 4 = ((4 * (a / 4 % 2) : Nat) : Int) := by
  rw [show (4 : Int) = ((4 : Nat) : Int) from rfl, and_u32 _ _ (by omega) (by omega), nat_four]
/-- thirty bits as a number that may be below 0. -/
def sgn (lo : Nat) : Int := if lo < 2147483648 then ((lo / 4 : Nat) : Int) else ((lo / 4 : Nat) : Int) - 1073741824
/-- the pointer that two halves of a word say. -/
def getP (lo hi : Nat) : Int × Int × Int × Int × Int × Int × Int × Bool :=
  if lo = 0 ∧ hi = 0 then (0, 0, 0, 0, 0, 0, 0, false) else if lo % 4 = 0 then (1, sgn lo, ((hi % 65536 : Nat) : Int), ((hi / 65536 : Nat) : Int), 0, 0, 0, false)
  else if lo % 4 = 1 then (2, sgn lo, 0, 0, ((hi % 8 : Nat) : Int), ((hi / 8 : Nat) : Int), 0, false) else if lo % 4 = 2 then (3, ((lo / 8 : Nat) : Int), 0, 0, 0, 0, (hi : Int), decide (lo / 4 % 2 = 1)) else (4, 0, 0, 0, 0, 0, 0, false)
theorem four_bytes (l : List UInt8) (a : Nat) : leN l a 4 = 0 ↔ l[a]?.getD 0 = 0 ∧ l[a + 1]?.getD 0 = 0 ∧ l[a + 2]?.getD 0 = 0 ∧ l[a + 3]?.getD 0 = 0 := by
  have h : leN l a 4 = (l[a]?.getD 0).toNat + 256 * ((l[a + 1]?.getD 0).toNat + 256 * ((l[a + 2]?.getD 0).toNat + 256 * ((l[a + 3]?.getD 0).toNat + 256 * 0))) := rfl
  rw [h, ← UInt8.toNat_inj, ← UInt8.toNat_inj, ← UInt8.toNat_inj, ← UInt8.toNat_inj]
  simp only [UInt8.toNat_zero]
  omega
end Go.Proofs.YtbijfkpilncclaaGreat
