/- Texts of the proof of the law FnCanonPut, side by side: part 17. -/
import Derived.Test.YtbijfkpilncclaaGreatMCanonPut00
import Derived.Test.YtbijfkpilncclaaGreatMCanonPut01
import Derived.Test.YtbijfkpilncclaaGreatMCanonPut02
import Derived.Test.YtbijfkpilncclaaGreatMCanonPut03
import Derived.Test.YtbijfkpilncclaaGreatMCanonPut04
import Derived.Test.YtbijfkpilncclaaGreatMCanonPut05
import Derived.Test.YtbijfkpilncclaaGreatMCanonPut06
import Derived.Test.YtbijfkpilncclaaGreatMCanonPut07
import Derived.Test.YtbijfkpilncclaaGreatMCanonPut08
import Derived.Test.YtbijfkpilncclaaGreatMCanonPut09
import Derived.Test.YtbijfkpilncclaaGreatMCanonPut10
import Derived.Test.YtbijfkpilncclaaGreatMCanonPut11
import Derived.Test.YtbijfkpilncclaaGreatMCanonPut12
import Derived.Test.YtbijfkpilncclaaGreatMCanonPut13
import Derived.Test.YtbijfkpilncclaaGreatMCanonPut14
import Derived.Test.YtbijfkpilncclaaGreatMCanonPut15
import Derived.Test.YtbijfkpilncclaaGreatMCanonPut16
namespace Go.Proofs.YtbijfkpilncclaaGreat
open Go.RowKit
theorem mem_ptrs {n p : Nd} (h : p ∈ n.ptrs) : p ∈ ptrsL n := List.mem_append_left _ h
theorem mem_items {n y p : Nd} (h : y ∈ n.items) (hp : p ∈ y.ptrs) : p ∈ ptrsL n := List.mem_append_right _ (List.mem_flatMap.2 ⟨y, h, hp⟩)
theorem sum_flat (l : List Nd) (f : Nd → Nat) : ((l.flatMap Nd.ptrs).map f).sum = (l.map fun y => (y.ptrs.map f).sum).sum := by
  induction l with
  | nil => rfl
  | cons a t ih => rw [List.flatMap_cons, List.map_append, List.sum_append, ih]; rfl
theorem sum_ptrs (n : Nd) (f : Nd → Nat) : ((ptrsL n).map f).sum = (n.ptrs.map f).sum + (n.items.map fun y => (y.ptrs.map f).sum).sum := by
  unfold ptrsL
  rw [List.map_append, List.sum_append, sum_flat]
theorem tot_ptrs2 {w : World} {S : Nat → Prop} {m : Nat} {n : Nd} {h : Hd} (hn : NdAt w S m n h) : totL m (ptrsL n) + n.data.size + (n.items.map fun y => y.data.size).sum ≤ totN m n := by
  cases m with
  | zero =>
    rw [hn.2.2.zero]
    unfold totN
    simp only [List.map_nil, List.sum_nil]
    show 0 + _ + 0 ≤ _
    omega
  | succ m =>
    have h1 : totL (m + 1) (ptrsL n) = totL (m + 1) n.ptrs + (n.items.map fun y => totL (m + 1) y.ptrs).sum := by
      unfold ptrsL
      rw [totL_succ, List.map_append, List.sum_append, ← totL_succ, ← totL_succ, flat_tot]
    have h2 : (n.items.map fun y => totL (m + 1) y.ptrs + y.data.size).sum ≤ totL (m + 1) n.items := by
      rw [totL_succ]
      refine sum_le _ _ _ fun y hy => ?_
      obtain ⟨hd, h3⟩ := hn.2.2.mem y hy
      rw [totL_eq m _ _ h3.2.1]
      unfold totN
      omega
    have h4 : ∀ l : List Nd, (l.map fun y => totL (m + 1) y.ptrs + y.data.size).sum = (l.map fun y => totL (m + 1) y.ptrs).sum + (l.map fun y => y.data.size).sum := by
      intro l
      induction l with
      | nil => rfl
      | cons a t ih => simp only [List.map_cons, List.sum_cons, ih]; omega
    rw [h4] at h2
    rw [h1]
    unfold totN
    omega
theorem own_le2 (n : Nd) : ownN n ≤ n.data.size + (n.items.map fun y => y.data.size).sum + (ptrsL n).length + 1 := by
  have h1 : ownB n ≤ n.data.size + n.ptrs.length := by unfold ownB; omega
  have h2 : ∀ l : List Nd, (l.map ownB).sum ≤ (l.map fun y => y.data.size).sum + (l.flatMap Nd.ptrs).length := by
    intro l
    induction l with
    | nil => simp
    | cons a t ih =>
      have : ownB a ≤ a.data.size + a.ptrs.length := by unfold ownB; omega
      simp only [List.map_cons, List.sum_cons, List.flatMap_cons, List.length_append]
      omega
  have h3 := h2 n.items
  unfold ownN ptrsL
  rw [List.length_append]
  split <;> omega
theorem words_bound {w : World} {S : Nat → Prop} : ∀ (d m : Nat) (n : Nd) (h : Hd), NdAt w S m n h → okN d n = true → wordsN d n ≤ 2 * totN m n + 1 := by
  intro d
  induction d with
  | zero => intro m n h hn hok; exact Nat.zero_le _
  | succ d ih =>
    intro m n h hn hok
    obtain ⟨hf, hk⟩ := ok_kids hok
    have h1 := own_le2 n
    have h2 := tot_ptrs2 hn
    have h3 : ((ptrsL n).map (wordsN d)).sum + (ptrsL n).length ≤ 2 * totL m (ptrsL n) := by
      cases m with
      | zero =>
        have : ptrsL n = [] := by unfold ptrsL; rw [hn.2.1.zero, hn.2.2.zero]; rfl
        rw [this]; simp
      | succ m =>
        have hmem : ∀ p ∈ ptrsL n, ∃ hp : Hd, NdAt w S m p hp := by
          intro p hp
          unfold ptrsL at hp
          rcases List.mem_append.1 hp with hp | hp
          · exact hn.2.1.mem p hp
          · obtain ⟨y, hy, hpy⟩ := List.mem_flatMap.1 hp
            obtain ⟨hd, hyn⟩ := hn.2.2.mem y hy
            obtain ⟨j, rfl⟩ : ∃ j, m = j + 1 := by
              cases m with
              | zero => rw [hyn.2.1.zero] at hpy; cases hpy
              | succ j => exact ⟨j, rfl⟩
            obtain ⟨hd2, h4⟩ := hyn.2.1.mem p hpy
            exact ⟨hd2, h4.mono (by omega)⟩
        have h5 : ((ptrsL n).map fun p => wordsN d p + 1).sum ≤ ((ptrsL n).map fun p => 2 * (1 + totN m p)).sum := sum_le _ _ _ fun p hp => by
          obtain ⟨hd2, h6⟩ := hmem p hp
          have := ih m p hd2 h6 (hk p hp)
          omega
        have h7 : ∀ l : List Nd, (l.map fun p => wordsN d p + 1).sum = (l.map (wordsN d)).sum + l.length := by
          intro l
          induction l with
          | nil => rfl
          | cons a t ih => simp only [List.map_cons, List.sum_cons, List.length_cons, ih]; omega
        have h8 : ∀ l : List Nd, (l.map fun p => 2 * (1 + totN m p)).sum = 2 * (l.map fun p => 1 + totN m p).sum := by
          intro l
          induction l with
          | nil => rfl
          | cons a t ih => simp only [List.map_cons, List.sum_cons, ih]; omega
        rw [h7, h8, ← totL_succ] at h5
        exact h5
    show ownN n + _ ≤ _
    omega

def L4W (d : Nat) : Prop := ∀ (m : Nat) (n : Nd) (h : Hd) (w : World) (S : Nat → Prop), NdAt w S m n h → totN m n ≤ 2000000 → okN d n = true →
  Calls Tryz.prog 68 #[.agg #[.int .i64 n.kind, .string n.data, .slice h.A n.ptrs.length h.a, .int .i64 n.size, .int .i64 n.count, .slice h.B n.items.length h.b]] w fun e w' => e = .returned (.int .i64 (wordsN d n : Nat)) ∧ Below w.heap.size w w'
set_option maxHeartbeats 8000000 in
set_option maxRecDepth 100000 in
theorem l4Words_step (d : Nat) (ih : ∀ j, d = j + 1 → L4W j) : L4W d := by
  intro m n h w S hn ht hok
  have hbd := words_bound d m n h hn hok
  obtain ⟨qA, qa, qB, qb⟩ := h
  dsimp only at hn ⊢
  have hpl : n.ptrs.length ≤ 2000000 := totL_len' hn.2.1 (by unfold totN at ht; omega)
  have hil : n.items.length ≤ 2000000 := totL_len' hn.2.2 (by unfold totN at ht; omega)
  have hf := (ok_kids hok).1
  have hob := own_bound hn ht
  have HN := Lib.hid hn
  have HT := Lib.hid ht
  have hba := (Below.refl w.heap.size w).alloc (Nat.le_refl _) (.cells #[.int .i64 n.kind, .string n.data, .slice qA n.ptrs.length qa, .int .i64 n.size, .int .i64 n.count, .slice qB n.items.length qb] nodeT)
  have hr := heap_alloc_new w (.cells #[.int .i64 n.kind, .string n.data, .slice qA n.ptrs.length qa, .int .i64 n.size, .int .i64 n.count, .slice qB n.items.length qb] nodeT)
  have hsz : w.heap.size < (w.alloc (.cells #[.int .i64 n.kind, .string n.data, .slice qA n.ptrs.length qa, .int .i64 n.size, .int .i64 n.count, .slice qB n.items.length qb] nodeT)).heap.size := by simp
  have HOW := Lib.hid (l4Own_a m n ⟨qA, qa, qB, qb⟩ _ S (hn.below hba) hf ht)
  dsimp only at HOW
  have HBA := Lib.hid hba
  have HR := Lib.hid hr
  have HTOT : Hid (wordsN d n = ownN n + (n.ptrs.map (wordsN (d - 1))).sum + (n.items.map fun y => (y.ptrs.map (wordsN (d - 1))).sum).sum) := Lib.hid (by rw [words_kids hok, sum_ptrs]; omega)
  have HKID : Hid (∀ p ∈ ptrsL n, ∀ (m' : Nat) (hp : Hd) (W : World), NdAt W S m' p hp → totN m' p ≤ 2000000 → Calls Tryz.prog 68 #[.agg #[.int .i64 p.kind, .string p.data, .slice hp.A p.ptrs.length hp.a, .int .i64 p.size, .int .i64 p.count, .slice hp.B p.items.length hp.b]] W fun e w' => e = .returned (.int .i64 (wordsN (d - 1) p : Nat)) ∧ Below W.heap.size W w') := Lib.hid fun p hp m' h' W h1 h2 => by
    cases d with
    | zero =>
      have h3 := words_kids hok
      have h4 := ptrs_own n
      have h5 : (ptrsL n).length ≠ 0 := by intro h; rw [nil_of_len h] at hp; cases hp
      simp only [wordsN] at h3
      omega
    | succ j => exact ih j rfl m' p h' W S h1 h2 ((ok_kids hok).2 p hp)
  have htb : wordsN d n ≤ 4000001 := by omega
  clear hn ht hok hf ih hbd hba hr
  generalize wordsN d n = tt at *
  generalize ownN n = s0 at *
  have HS0 : Hid ((s0 : Int) = ((s0 : Nat) : Int)) := Lib.hid rfl
  go_enter Tryz.func68, Tryz.ntmps68
  go_wp2_with fail
  refine HOW.out.mono ?_
  rintro e w1 ⟨rfl, hb1⟩
  have hr1 := (hb1.block w.heap.size hsz).trans HR.out
  have HR1 := Lib.hid hr1
  have HB1 := Lib.hid (HBA.out.trans (hb1.mono HBA.out.size))
  obtain ⟨a0, a1, a2, a3, a4, a5⟩ := cells6 hr1
  clear hr1 hb1
  go_wp2
  go_loopw [3, 4] (fun u i wr => ∃ (k : Nat) (z : Int), u = .int .i64 z ∧ i = .int .i64 k ∧ k ≤ n.ptrs.length ∧ 0 ≤ z ∧ z ≤ 4000001 ∧ Hid (z = ((s0 + ((n.ptrs.take k).map (wordsN (d - 1))).sum : Nat) : Int)) ∧ Hid (Below w.heap.size w wr ∧ wr.heap[w.heap.size]? = some (.cells #[.int .i64 n.kind, .string n.data, .slice qA n.ptrs.length qa, .int .i64 n.size, .int .i64 n.count, .slice qB n.items.length qb] nodeT (0, 0)))) (fun _ i _ => n.ptrs.length - (intOf i).toNat)
  case atStart => exact ⟨0, _, rfl, rfl, by omega, by have := HS0.out; omega, by have := HS0.out; omega, Lib.hid (by rw [List.take_zero, List.map_nil, List.sum_nil]; have := HS0.out; omega), Lib.hid ⟨HB1.out, HR1.out⟩⟩
  case round =>
    obtain ⟨k, z, rfl, rfl, hk, hz0, hz1, HZ, HB⟩ := hrel
    obtain ⟨hbr, hrr⟩ := HB.out
    clear a0 a1 a2 a3 a4 a5
    obtain ⟨a0, a1, a2, a3, a4, a5⟩ := cells6 hrr
    by_cases hlt : k < n.ptrs.length
    · obtain ⟨m', rfl⟩ := HN.out.2.1.pred hlt
      obtain ⟨x, yA, ya, yB, yb, rfl, hc0, hdy, hny, hniy⟩ := HN.out.2.1.at6 hlt
      have hc := cell_below hbr _ _ _ hc0
      have HST := Lib.hid (sum_take_succ n.ptrs (wordsN (d - 1)) k hlt)
      have HSL := Lib.hid (sum_take_le n.ptrs (wordsN (d - 1)) (k + 1))
      have htp : totN m' n.ptrs[k] ≤ 2000000 := by have := totL_at (m := m') hlt; have := HT.out; unfold totN at this; omega
      have HC := Lib.hid (HKID.out _ (mem_ptrs (List.getElem_mem hlt)) m' ⟨yA, ya, yB, yb⟩ wr (NdAt.below ⟨hdy, hny, hniy⟩ hbr) htp)
      dsimp only at HC
      generalize n.ptrs[k] = y at hc HST HC
      have hzv : z + ((wordsN (d - 1)) y : Nat) ≤ 4000001 := by have := HZ.out; have := HST.out; have := HSL.out; have := HTOT.out; omega
      obtain ⟨c0, c1, c2, c3, c4, c5⟩ := hc
      dsimp only at c2 c5
      have HBR := Lib.hid hbr
      have HRR := Lib.hid hrr
      clear hbr hrr hc0 hdy hny hniy htp HB
      generalize (wordsN (d - 1)) y = v at *
      go_wp2_with fail
      refine HC.out.mono ?_
      rintro e w3 ⟨rfl, hb3⟩
      have HB3 := Lib.hid (And.intro (HBR.out.trans (hb3.mono HBR.out.size)) ((hb3.block w.heap.size (row_lt HRR.out)).trans HRR.out))
      clear hb3
      go_wp2
      go_roundw
      case rel => exact ⟨k + 1, _, rfl, by go_num, by omega, by omega, hzv, Lib.hid (by rw [HZ.out, HST.out]; omega), HB3⟩
      case measure => simp [intOf]; omega
    · obtain rfl : k = n.ptrs.length := by omega
      rw [List.take_of_length_le (Nat.le_refl _)] at HZ
      have HBR := Lib.hid hbr
      have HRR := Lib.hid hrr
      have HZP := HZ
      have hzp0 := hz0
      have hzp1 := hz1
      clear hbr hrr HB HZ
      go_wp2
      go_loopw [3, 5] (fun u i wr => ∃ (k : Nat) (z : Int), u = .int .i64 z ∧ i = .int .i64 k ∧ k ≤ n.items.length ∧ 0 ≤ z ∧ z ≤ 4000001 ∧ Hid (z = ((s0 + (n.ptrs.map (wordsN (d - 1))).sum + ((n.items.take k).map fun y => (y.ptrs.map (wordsN (d - 1))).sum).sum : Nat) : Int)) ∧ Hid (Below w.heap.size w wr ∧ wr.heap[w.heap.size]? = some (.cells #[.int .i64 n.kind, .string n.data, .slice qA n.ptrs.length qa, .int .i64 n.size, .int .i64 n.count, .slice qB n.items.length qb] nodeT (0, 0)))) (fun _ i _ => n.items.length - (intOf i).toNat)
      case atStart => exact ⟨0, _, rfl, rfl, by omega, hzp0, hzp1, Lib.hid (by rw [HZP.out]; simp), Lib.hid ⟨HBR.out, HRR.out⟩⟩
      case round =>
        clear hz0 hz1 hzp0 hzp1
        obtain ⟨k, z, rfl, rfl, hk, hz0, hz1, HZ, HB⟩ := hrel
        obtain ⟨hbr, hrr⟩ := HB.out
        clear a0 a1 a2 a3 a4 a5
        obtain ⟨a0, a1, a2, a3, a4, a5⟩ := cells6 hrr
        by_cases hlt : k < n.items.length
        · obtain ⟨m', rfl⟩ := HN.out.2.2.pred hlt
          obtain ⟨x, yA, ya, yB, yb, rfl, hc0, hdy, hny, hniy⟩ := HN.out.2.2.at6 hlt
          have HSTI := Lib.hid (sum_take_succ n.items (fun y => (y.ptrs.map (wordsN (d - 1))).sum) k hlt)
          have HSLI := Lib.hid (sum_take_le n.items (fun y => (y.ptrs.map (wordsN (d - 1))).sum) (k + 1))
          have HTP : Hid (totL m' (n.items[k]).ptrs ≤ 2000000) := Lib.hid (by have := totL_at (m := m') hlt; have := HT.out; unfold totN at *; omega)
          have hypl : (n.items[k]).ptrs.length ≤ 2000000 := totL_len' hny HTP.out
          have HMY := Lib.hid (fun p hp => HKID.out p (mem_items (List.getElem_mem hlt) hp))
          generalize n.items[k] = y at hc0 HSTI hny HTP hypl HMY
          have HC0 := Lib.hid hc0
          have HNY := Lib.hid hny
          have HBR := Lib.hid hbr
          have HRR := Lib.hid hrr
          have hzi0 := hz0
          have hzi1 := hz1
          clear hbr hrr hc0 hdy hny hniy HB
          go_wp2
          clear a0 a1 a2 a3 a4 a5
          go_loopw [3, 6] (fun u i wr => ∃ (q : Nat) (z : Int), u = .int .i64 z ∧ i = .int .i64 q ∧ q ≤ y.ptrs.length ∧ 0 ≤ z ∧ z ≤ 4000001 ∧ Hid (z = ((s0 + (n.ptrs.map (wordsN (d - 1))).sum + ((n.items.take k).map fun y => (y.ptrs.map (wordsN (d - 1))).sum).sum + ((y.ptrs.take q).map (wordsN (d - 1))).sum : Nat) : Int)) ∧ Hid (Below w.heap.size w wr ∧ wr.heap[w.heap.size]? = some (.cells #[.int .i64 n.kind, .string n.data, .slice qA n.ptrs.length qa, .int .i64 n.size, .int .i64 n.count, .slice (some x) n.items.length qb] nodeT (0, 0)))) (fun _ i _ => y.ptrs.length - (intOf i).toNat)
          case atStart => exact ⟨0, _, rfl, rfl, by omega, hzi0, hzi1, Lib.hid (by rw [HZ.out]; simp), Lib.hid ⟨HBR.out, HRR.out⟩⟩
          case round =>
            clear hz0 hz1 hzi0 hzi1
            obtain ⟨q, z, rfl, rfl, hq, hz0, hz1, HZQ, HB⟩ := hrel
            obtain ⟨hbr, hrr⟩ := HB.out
            obtain ⟨a0, a1, a2, a3, a4, a5⟩ := cells6 hrr
            have hc := cell_below hbr _ _ _ HC0.out
            obtain ⟨-, -, d2, -, -, -⟩ := hc
            dsimp only at d2
            by_cases hqt : q < y.ptrs.length
            · obtain ⟨m'', rfl⟩ := HNY.out.pred hqt
              obtain ⟨x2, zA, za, zB, zb, rfl, hc2, hdz, hnz, hniz⟩ := HNY.out.at6 hqt
              have hcz := cell_below hbr _ _ _ hc2
              have HST := Lib.hid (sum_take_succ y.ptrs (wordsN (d - 1)) q hqt)
              have HSL := Lib.hid (sum_take_le y.ptrs (wordsN (d - 1)) (q + 1))
              have htp : totN m'' y.ptrs[q] ≤ 2000000 := by have := totL_at (m := m'') hqt; have := HTP.out; omega
              have HC := Lib.hid (HMY.out _ (List.getElem_mem hqt) m'' ⟨zA, za, zB, zb⟩ wr (NdAt.below ⟨hdz, hnz, hniz⟩ hbr) htp)
              dsimp only at HC
              generalize y.ptrs[q] = t at hcz HST HC
              have hzv : z + ((wordsN (d - 1)) t : Nat) ≤ 4000001 := by have := HZQ.out; have := HST.out; have := HSL.out; have := HTOT.out; have := HSTI.out; have := HSLI.out; omega
              obtain ⟨c0, c1, c2, c3, c4, c5⟩ := hcz
              dsimp only at c2 c5
              have HBR := Lib.hid hbr
              have HRR := Lib.hid hrr
              clear hbr hrr hc2 hdz hnz hniz htp HB
              generalize (wordsN (d - 1)) t = v at *
              go_wp2_with fail
              refine HC.out.mono ?_
              rintro e w3 ⟨rfl, hb3⟩
              have HB3 := Lib.hid (And.intro (HBR.out.trans (hb3.mono HBR.out.size)) ((hb3.block w.heap.size (row_lt HRR.out)).trans HRR.out))
              clear hb3
              go_wp2
              go_roundw
              case rel => exact ⟨q + 1, _, rfl, by go_num, by omega, by omega, hzv, Lib.hid (by rw [HZQ.out, HST.out]; omega), HB3⟩
              case measure => simp [intOf]; omega
            · obtain rfl : q = y.ptrs.length := by omega
              rw [List.take_of_length_le (Nat.le_refl _)] at HZQ
              have HZ2 : Hid (z = ((s0 + (n.ptrs.map (wordsN (d - 1))).sum + ((n.items.take (k + 1)).map fun y => (y.ptrs.map (wordsN (d - 1))).sum).sum : Nat) : Int)) := Lib.hid (by rw [HZQ.out, HSTI.out]; omega)
              have HBB := Lib.hid (And.intro hbr hrr)
              clear hbr hrr HB
              go_wp2
              go_roundw
              case rel => exact ⟨k + 1, _, rfl, by go_num, by omega, hz0, hz1, HZ2, HBB⟩
              case measure => simp [intOf]; omega
        · obtain rfl : k = n.items.length := by omega
          rw [List.take_of_length_le (Nat.le_refl _)] at HZ
          have HBR := Lib.hid hbr
          clear hbr hrr HB
          go_wp2
          go_ret
          exact ⟨by rw [HTOT.out, HZ.out]; rfl, HBR.out⟩
theorem l4Words_any : ∀ d, L4W d
  | 0 => l4Words_step 0 (fun j hj => by omega)
  | d + 1 => l4Words_step (d + 1) (fun j hj => by
    obtain rfl : d = j := by omega
    exact l4Words_any d)
end Go.Proofs.YtbijfkpilncclaaGreat

namespace Go.Proofs.YtbijfkpilncclaaGreat
open Go.RowKit
set_option maxHeartbeats 2000000 in
set_option maxRecDepth 100000 in
theorem specNodeOk_a (m : Nat) (n : Nd) (h : Hd) (w : World) (S : Nat → Prop) (hn : NdAt w S m n h) (ht : totN m n ≤ 2000000) :
    Calls Tryz.prog 30 #[.agg #[.int .i64 n.kind, .string n.data, .slice h.A n.ptrs.length h.a, .int .i64 n.size, .int .i64 n.count, .slice h.B n.items.length h.b]] w fun e w' => e = .returned (.bool (nodeOk n)) ∧ Below w.heap.size w w' := by
  have hb0 := (Below.refl w.heap.size w).alloc (Nat.le_refl _) (.cells #[.int .i64 n.kind, .string n.data, .slice h.A n.ptrs.length h.a, .int .i64 n.size, .int .i64 n.count, .slice h.B n.items.length h.b] nodeT)
  have HB0 := Lib.hid hb0
  have HBX := Lib.hid (heap_alloc_new w (.cells #[.int .i64 n.kind, .string n.data, .slice h.A n.ptrs.length h.a, .int .i64 n.size, .int .i64 n.count, .slice h.B n.items.length h.b] nodeT))
  have HO := Lib.hid (l4Ok_any 8 (by decide) m n h _ S (hn.below hb0) ht)
  rw [show (((8 : Nat)) : Int) = 8 from rfl] at HO
  have HWO : Hid (okN 8 n = true → ∀ W : World, Below w.heap.size w W → Calls Tryz.prog 68 #[.agg #[.int .i64 n.kind, .string n.data, .slice h.A n.ptrs.length h.a, .int .i64 n.size, .int .i64 n.count, .slice h.B n.items.length h.b]] W fun e w' => e = .returned (.int .i64 (wordsN 8 n : Nat)) ∧ Below W.heap.size W w') := Lib.hid fun hok W hb => l4Words_any 8 m n h W S (hn.below hb) ht hok
  clear hn ht hb0
  cases hok : okN 8 n
  · have HX : Hid (nodeOk n = false) := Lib.hid (by unfold nodeOk; rw [hok]; rfl)
    rw [hok] at HO
    clear hok
    go_enter Tryz.func30, Tryz.ntmps30
    go_wp2_with fail
    refine HO.out.mono ?_
    rintro e w2 ⟨rfl, hb2⟩
    have HB2 := Lib.hid (HB0.out.trans (hb2.mono HB0.out.size))
    clear hb2
    go_wp2
    go_ret
    exact ⟨by rw [HX.out]; rfl, HB2.out⟩
  · have HX : Hid (nodeOk n = decide (((wordsN 8 n : Nat) : Int) < 200)) := Lib.hid (by unfold nodeOk; rw [hok, Bool.true_and, Bool.eq_iff_iff]; simp only [decide_eq_true_eq]; omega)
    have HC := Lib.hid (HWO.out hok)
    rw [hok] at HO
    clear HWO hok
    generalize wordsN 8 n = wd at *
    go_enter Tryz.func30, Tryz.ntmps30
    go_wp2_with fail
    refine HO.out.mono ?_
    rintro e w2 ⟨rfl, hb2⟩
    obtain ⟨a0, a1, a2, a3, a4, a5⟩ := cells6 ((hb2.block w.heap.size (by simp)).trans HBX.out)
    have HB2 := Lib.hid (HB0.out.trans (hb2.mono HB0.out.size))
    clear hb2
    go_wp2_with fail
    refine (HC.out _ HB2.out).mono ?_
    rintro e w3 ⟨rfl, hb3⟩
    have HB3 := Lib.hid (HB2.out.trans (hb3.mono HB2.out.size))
    clear hb3
    go_wp2
    go_ret
    exact ⟨by rw [HX.out]; rfl, HB3.out⟩
end Go.Proofs.YtbijfkpilncclaaGreat

namespace Go.Proofs.YtbijfkpilncclaaGreat
open Go.RowKit Go.Deep
end Go.Proofs.YtbijfkpilncclaaGreat

namespace Go.Proofs.YtbijfkpilncclaaGreat
open Go.RowKit
def LsN (m : Nat) : Prop := ∀ (m' : Nat) (n n' : Nd) (h h' : Hd) (w : World) (S S' : Nat → Prop) (b : Bool), NdAt w S m n h → NdAt w S' m' n' h' → (b = true ↔ n = n') →
  Calls Tryz.prog 56 #[.agg #[.int .i64 n.kind, .string n.data, .slice h.A n.ptrs.length h.a, .int .i64 n.size, .int .i64 n.count, .slice h.B n.items.length h.b], .agg #[.int .i64 n'.kind, .string n'.data, .slice h'.A n'.ptrs.length h'.a, .int .i64 n'.size, .int .i64 n'.count, .slice h'.B n'.items.length h'.b]] w fun e w' => e = .returned (.bool b) ∧ Below w.heap.size w w'
set_option maxHeartbeats 8000000 in
set_option maxRecDepth 100000 in
theorem lsN_of (m : Nat) (hS : ∀ j, m = j + 1 → LsN j) : LsN m := by
  intro m' n n' h h' w S S' b hn hn' hb
  have HS := Lib.hid hS
  have hba : Below w.heap.size w ((w.alloc (.cells #[.int .i64 n.kind, .string n.data, .slice h.A n.ptrs.length h.a, .int .i64 n.size, .int .i64 n.count, .slice h.B n.items.length h.b] nodeT)).alloc (.cells #[.int .i64 n'.kind, .string n'.data, .slice h'.A n'.ptrs.length h'.a, .int .i64 n'.size, .int .i64 n'.count, .slice h'.B n'.items.length h'.b] nodeT)) := ((Below.refl _ _).alloc (Nat.le_refl _) _).alloc (by simp) _
  have k1 : ((w.alloc (.cells #[.int .i64 n.kind, .string n.data, .slice h.A n.ptrs.length h.a, .int .i64 n.size, .int .i64 n.count, .slice h.B n.items.length h.b] nodeT)).alloc (.cells #[.int .i64 n'.kind, .string n'.data, .slice h'.A n'.ptrs.length h'.a, .int .i64 n'.size, .int .i64 n'.count, .slice h'.B n'.items.length h'.b] nodeT)).heap[w.heap.size]? = some (.cells #[.int .i64 n.kind, .string n.data, .slice h.A n.ptrs.length h.a, .int .i64 n.size, .int .i64 n.count, .slice h.B n.items.length h.b] nodeT (0, 0)) := (Below.heap_alloc _ _ _ (by simp)).trans (heap_alloc_new w _)
  have k2 : ((w.alloc (.cells #[.int .i64 n.kind, .string n.data, .slice h.A n.ptrs.length h.a, .int .i64 n.size, .int .i64 n.count, .slice h.B n.items.length h.b] nodeT)).alloc (.cells #[.int .i64 n'.kind, .string n'.data, .slice h'.A n'.ptrs.length h'.a, .int .i64 n'.size, .int .i64 n'.count, .slice h'.B n'.items.length h'.b] nodeT)).heap[w.heap.size + 1]? = some (.cells #[.int .i64 n'.kind, .string n'.data, .slice h'.A n'.ptrs.length h'.a, .int .i64 n'.size, .int .i64 n'.count, .slice h'.B n'.items.length h'.b] nodeT (0, 0)) := by have := heap_alloc_new (w.alloc (.cells #[.int .i64 n.kind, .string n.data, .slice h.A n.ptrs.length h.a, .int .i64 n.size, .int .i64 n.count, .slice h.B n.items.length h.b] nodeT)) (.cells #[.int .i64 n'.kind, .string n'.data, .slice h'.A n'.ptrs.length h'.a, .int .i64 n'.size, .int .i64 n'.count, .slice h'.B n'.items.length h'.b] nodeT); rwa [show (w.alloc (.cells #[.int .i64 n.kind, .string n.data, .slice h.A n.ptrs.length h.a, .int .i64 n.size, .int .i64 n.count, .slice h.B n.items.length h.b] nodeT)).heap.size = w.heap.size + 1 by simp] at this
  have HN := Lib.hid (hn.below hba)
  have HN' := Lib.hid (hn'.below hba)
  have hts : ((w.alloc (.cells #[.int .i64 n.kind, .string n.data, .slice h.A n.ptrs.length h.a, .int .i64 n.size, .int .i64 n.count, .slice h.B n.items.length h.b] nodeT)).alloc (.cells #[.int .i64 n'.kind, .string n'.data, .slice h'.A n'.ptrs.length h'.a, .int .i64 n'.size, .int .i64 n'.count, .slice h'.B n'.items.length h'.b] nodeT)).heap.size = w.heap.size + 2 := by simp
  have HBA := Lib.hid hba
  have HK1 := Lib.hid k1
  have HK2 := Lib.hid k2
  have HTS := Lib.hid hts
  have HQ := Lib.hid (hb.trans (nd_eq n n'))
  have hl1 := hn.2.1.len
  have hl2 := hn.2.2.len
  have hl3 := hn'.2.1.len
  have hl4 := hn'.2.2.len
  unfold maxLen at hl1 hl2 hl3 hl4
  clear hS hn hn' hba k1 k2 hts hb
  by_cases hx : n.kind = n'.kind
  case neg =>
    have hxb : (n.kind != n'.kind) = true := by simpa using hx
    obtain rfl : b = false := bool_no HQ.out (fun e => hx e.1)
    clear hx
    go_enter Tryz.func56, Tryz.ntmps56
    go_wp2
    go_ret
    exact ⟨rfl, HBA.out⟩
  have t0 : (n.kind != n'.kind) = false := by simpa using hx
  have H0 := Lib.hid hx
  clear hx
  clear t0
  simp only [← H0.out] at HBA HK1 HK2 HTS HN HN' ⊢
  by_cases hx : n.data = n'.data
  case neg =>
    have hxb : (!(n.data.toList == n'.data.toList)) = true := by rw [toList_eq, decide_eq_false hx]; rfl
    obtain rfl : b = false := bool_no HQ.out (fun e => hx e.2.1)
    have hxc : (n.data.toList == n'.data.toList) = false := by rw [toList_eq]; exact decide_eq_false hx
    clear hx hxb
    go_enter Tryz.func56, Tryz.ntmps56
    go_wp2
    go_ret
    exact ⟨rfl, HBA.out⟩
  have t1 : (!(n.data.toList == n'.data.toList)) = false := by rw [toList_eq, decide_eq_true hx]; rfl
  have H1 := Lib.hid hx
  have t1b : (n.data.toList == n'.data.toList) = true := by rw [toList_eq]; exact decide_eq_true hx
  clear hx t1
  by_cases hx : n.size = n'.size
  case neg =>
    have hxb : (n.size != n'.size) = true := by simpa using hx
    obtain rfl : b = false := bool_no HQ.out (fun e => hx e.2.2.1)
    clear hx
    go_enter Tryz.func56, Tryz.ntmps56
    go_wp2
    go_ret
    exact ⟨rfl, HBA.out⟩
  have t2 : (n.size != n'.size) = false := by simpa using hx
  have H2 := Lib.hid hx
  clear hx
  clear t2
  simp only [← H2.out] at HBA HK1 HK2 HTS HN HN' ⊢
  by_cases hx : n.count = n'.count
  case neg =>
    have hxb : (n.count != n'.count) = true := by simpa using hx
    obtain rfl : b = false := bool_no HQ.out (fun e => hx e.2.2.2.1)
    clear hx
    go_enter Tryz.func56, Tryz.ntmps56
    go_wp2
    go_ret
    exact ⟨rfl, HBA.out⟩
  have t3 : (n.count != n'.count) = false := by simpa using hx
  have H3 := Lib.hid hx
  clear hx
  clear t3
  simp only [← H3.out] at HBA HK1 HK2 HTS HN HN' ⊢
  by_cases hx : n.ptrs.length = n'.ptrs.length
  case neg =>
    have hxb : ((n.ptrs.length : Int) != (n'.ptrs.length : Int)) = true := by simp; omega
    obtain rfl : b = false := bool_no HQ.out (fun e => hx (by rw [e.2.2.2.2.1]))
    clear hx
    go_enter Tryz.func56, Tryz.ntmps56
    go_wp2
    go_ret
    exact ⟨rfl, HBA.out⟩
  have t4 : ((n.ptrs.length : Int) != (n'.ptrs.length : Int)) = false := by simp; omega
  have H4 := Lib.hid hx
  clear hx
  by_cases hx : n.items.length = n'.items.length
  case neg =>
    have hxb : ((n.items.length : Int) != (n'.items.length : Int)) = true := by simp; omega
    obtain rfl : b = false := bool_no HQ.out (fun e => hx (by rw [e.2.2.2.2.2]))
    clear hx
    go_enter Tryz.func56, Tryz.ntmps56
    go_wp2
    go_ret
    exact ⟨rfl, HBA.out⟩
  have t5 : ((n.items.length : Int) != (n'.items.length : Int)) = false := by simp; omega
  have H5 := Lib.hid hx
  clear hx
  go_enter Tryz.func56, Tryz.ntmps56
  go_wp2_with fail
  generalize ((w.alloc (.cells #[.int .i64 n.kind, .string n.data, .slice h.A n.ptrs.length h.a, .int .i64 n.size, .int .i64 n.count, .slice h.B n.items.length h.b] nodeT)).alloc (.cells #[.int .i64 n.kind, .string n'.data, .slice h'.A n'.ptrs.length h'.a, .int .i64 n.size, .int .i64 n.count, .slice h'.B n'.items.length h'.b] nodeT)) = W at *
  go_loopw [5] (fun i wr => ∃ k : Nat, i = .int .i64 k ∧ k ≤ n.ptrs.length ∧ Hid (Below W.heap.size W wr) ∧ Hid (∀ j, j < k → n.ptrs[j]? = n'.ptrs[j]?)) (fun i _ => n.ptrs.length - (intOf i).toNat)
  case atStart => exact ⟨0, rfl, by omega, Lib.hid (Below.refl _ _), Lib.hid (fun j hj => by omega)⟩
  case round =>
    skip
    obtain ⟨k, rfl, hk, HB, HE⟩ := hrel
    obtain ⟨a0, a1, a2, a3, a4, a5⟩ := cells6 ((HB.out.block _ (by have := HTS.out; omega)).trans HK1.out)
    obtain ⟨b0, b1, b2, b3, b4, b5⟩ := cells6 ((HB.out.block _ (by have := HTS.out; omega)).trans HK2.out)
    rw [← H4.out] at b2
    by_cases hlt : k < n.ptrs.length
    · have hlt' : k < n'.ptrs.length := by have := H4.out; omega
      obtain ⟨jm, hjm⟩ := HN.out.2.1.pred hlt
      subst hjm
      obtain ⟨jm', hjm'⟩ := HN'.out.2.1.pred hlt'
      subst hjm'
      obtain ⟨x, hx, hA, cx, nx⟩ := (HN.out.below HB.out).2.1.at_ hlt
      obtain ⟨y, hy, hA', cy, ny⟩ := (HN'.out.below HB.out).2.1.at_ hlt'
      rw [hA] at a2
      rw [hA'] at b2
      have HEQ : Hid (n.ptrs[k] = n'.ptrs[k] → n.ptrs[k]? = n'.ptrs[k]?) := Lib.hid (fun e => by rw [List.getElem?_eq_getElem hlt, List.getElem?_eq_getElem hlt', e])
      have HNE : Hid (n.ptrs[k] ≠ n'.ptrs[k] → n.ptrs ≠ n'.ptrs) := Lib.hid (fun e hl => e (List.getElem_of_eq hl hlt))
      generalize n.ptrs[k] = p at cx nx HEQ HNE
      generalize n'.ptrs[k] = p' at cy ny HEQ HNE
      have hd1 : Below wr.heap.size wr wr.drew := ⟨rfl, rfl, rfl, Nat.le_refl _, fun _ _ => rfl⟩
      obtain ⟨c0, c1, c2, c3, c4, c5⟩ := cx
      obtain ⟨d0, d1, d2, d3, d4, d5⟩ := cy
      have hk2 : (k : Int) < (n.ptrs.length : Int) := by omega
      have hs := HB.out.size
      clear hA hA' hlt'
      by_cases hnn : p = p'
      · have HP := Lib.hid (HS.out jm rfl jm' p p' hx hy wr.drew S S' true (nx.below hd1) (ny.below hd1) (iff_true_of hnn))
        have HE1 := Lib.hid (HEQ.out hnn)
        clear nx ny hnn HEQ HNE
        go_wp2
        go_region_with (go_at_call 56; refine HP.out.mono ?_; rintro e w2 ⟨rfl, hb2⟩)
        all_goals
          have HB2 := Lib.hid (HB.out.trans ((show Below W.heap.size wr wr.drew from ⟨rfl, rfl, rfl, Nat.le_refl _, fun _ _ => rfl⟩).trans (hb2.mono (by simpa using hs))))
          clear hb2
          go_wp2
          go_roundw
          case rel =>
            refine ⟨k + 1, by go_num, by omega, HB2, Lib.hid fun j hj => ?_⟩
            rcases Nat.lt_or_ge j k with hl | hge
            · exact HE.out j hl
            · obtain rfl : j = k := by omega
              exact HE1.out
          case measure => simp [intOf]; omega
      · have HP := Lib.hid (HS.out jm rfl jm' p p' hx hy wr.drew S S' false (nx.below hd1) (ny.below hd1) (iff_false_of hnn))
        obtain rfl : b = false := bool_no HQ.out (fun e => HNE.out hnn e.2.2.2.2.1)
        clear nx ny hnn HEQ HNE
        go_wp2
        go_region_with (go_at_call 56; refine HP.out.mono ?_; rintro e w2 ⟨rfl, hb2⟩)
        all_goals
          have HB2 := Lib.hid (HBA.out.trans ((HB.out.trans ((show Below W.heap.size wr wr.drew from ⟨rfl, rfl, rfl, Nat.le_refl _, fun _ _ => rfl⟩).trans (hb2.mono (by simpa using hs)))).mono HBA.out.size))
          clear hb2
          go_wp2
          go_ret
          exact ⟨rfl, HB2.out⟩
    · obtain rfl : k = n.ptrs.length := by omega
      have HPP : Hid (n.ptrs = n'.ptrs) := Lib.hid (List.ext_getElem? fun j => by
        rcases Nat.lt_or_ge j n.ptrs.length with hl | hge
        · exact HE.out j hl
        · rw [List.getElem?_eq_none hge, List.getElem?_eq_none (by have := H4.out; omega)])
      clear HE
      go_wp2_with fail
      go_loopw [6] (fun i wr => ∃ k : Nat, i = .int .i64 k ∧ k ≤ n.items.length ∧ Hid (Below W.heap.size W wr) ∧ Hid (∀ j, j < k → n.items[j]? = n'.items[j]?)) (fun i _ => n.items.length - (intOf i).toNat)
      case atStart => exact ⟨0, rfl, by omega, HB, Lib.hid (fun j hj => by omega)⟩
      case round =>
        clear a0 a1 a2 a3 a4 a5 b0 b1 b2 b3 b4 b5
        obtain ⟨k, rfl, hk, HB, HE⟩ := hrel
        obtain ⟨a0, a1, a2, a3, a4, a5⟩ := cells6 ((HB.out.block _ (by have := HTS.out; omega)).trans HK1.out)
        obtain ⟨b0, b1, b2, b3, b4, b5⟩ := cells6 ((HB.out.block _ (by have := HTS.out; omega)).trans HK2.out)
        rw [← H5.out] at b5
        by_cases hlt : k < n.items.length
        · have hlt' : k < n'.items.length := by have := H5.out; omega
          obtain ⟨jm, hjm⟩ := HN.out.2.2.pred hlt
          subst hjm
          obtain ⟨jm', hjm'⟩ := HN'.out.2.2.pred hlt'
          subst hjm'
          obtain ⟨x, hx, hA, cx, nx⟩ := (HN.out.below HB.out).2.2.at_ hlt
          obtain ⟨y, hy, hA', cy, ny⟩ := (HN'.out.below HB.out).2.2.at_ hlt'
          rw [hA] at a5
          rw [hA'] at b5
          have HEQ : Hid (n.items[k] = n'.items[k] → n.items[k]? = n'.items[k]?) := Lib.hid (fun e => by rw [List.getElem?_eq_getElem hlt, List.getElem?_eq_getElem hlt', e])
          have HNE : Hid (n.items[k] ≠ n'.items[k] → n.items ≠ n'.items) := Lib.hid (fun e hl => e (List.getElem_of_eq hl hlt))
          generalize n.items[k] = p at cx nx HEQ HNE
          generalize n'.items[k] = p' at cy ny HEQ HNE
          have hd1 : Below wr.heap.size wr wr.drew := ⟨rfl, rfl, rfl, Nat.le_refl _, fun _ _ => rfl⟩
          obtain ⟨c0, c1, c2, c3, c4, c5⟩ := cx
          obtain ⟨d0, d1, d2, d3, d4, d5⟩ := cy
          have hk2 : (k : Int) < (n.items.length : Int) := by omega
          have hs := HB.out.size
          clear hA hA' hlt'
          by_cases hnn : p = p'
          · have HP := Lib.hid (HS.out jm rfl jm' p p' hx hy wr.drew S S' true (nx.below hd1) (ny.below hd1) (iff_true_of hnn))
            have HE1 := Lib.hid (HEQ.out hnn)
            clear nx ny hnn HEQ HNE
            go_wp2
            go_region_with (go_at_call 56; refine HP.out.mono ?_; rintro e w2 ⟨rfl, hb2⟩)
            all_goals
              have HB2 := Lib.hid (HB.out.trans ((show Below W.heap.size wr wr.drew from ⟨rfl, rfl, rfl, Nat.le_refl _, fun _ _ => rfl⟩).trans (hb2.mono (by simpa using hs))))
              clear hb2
              go_wp2
              go_roundw
              case rel =>
                refine ⟨k + 1, by go_num, by omega, HB2, Lib.hid fun j hj => ?_⟩
                rcases Nat.lt_or_ge j k with hl | hge
                · exact HE.out j hl
                · obtain rfl : j = k := by omega
                  exact HE1.out
              case measure => simp [intOf]; omega
          · have HP := Lib.hid (HS.out jm rfl jm' p p' hx hy wr.drew S S' false (nx.below hd1) (ny.below hd1) (iff_false_of hnn))
            obtain rfl : b = false := bool_no HQ.out (fun e => HNE.out hnn e.2.2.2.2.2)
            clear nx ny hnn HEQ HNE
            go_wp2
            go_region_with (go_at_call 56; refine HP.out.mono ?_; rintro e w2 ⟨rfl, hb2⟩)
            all_goals
              have HB2 := Lib.hid (HBA.out.trans ((HB.out.trans ((show Below W.heap.size wr wr.drew from ⟨rfl, rfl, rfl, Nat.le_refl _, fun _ _ => rfl⟩).trans (hb2.mono (by simpa using hs)))).mono HBA.out.size))
              clear hb2
              go_wp2
              go_ret
              exact ⟨rfl, HB2.out⟩
        · obtain rfl : k = n.items.length := by omega
          obtain rfl : b = true := HQ.out.2 ⟨H0.out, H1.out, H2.out, H3.out, HPP.out, List.ext_getElem? fun j => by
            rcases Nat.lt_or_ge j n.items.length with hl | hge
            · exact HE.out j hl
            · rw [List.getElem?_eq_none hge, List.getElem?_eq_none (by have := H5.out; omega)]⟩
          go_wp2
          go_ret
          exact ⟨rfl, HBA.out.trans (HB.out.mono HBA.out.size)⟩
theorem lsN_any : ∀ m, LsN m
  | 0 => lsN_of 0 (fun j h => by omega)
  | m + 1 => lsN_of (m + 1) (fun j h => by
    obtain rfl : m = j := by omega
    exact lsN_any m)
end Go.Proofs.YtbijfkpilncclaaGreat

namespace Go.Proofs.YtbijfkpilncclaaGreat
open Go.RowKit
end Go.Proofs.YtbijfkpilncclaaGreat
