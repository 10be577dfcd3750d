/- Texts of the proof of the law FnNodeWords, side by side: part 25. -/
import Derived.Deep.RegionLaw
import Derived.Deep.RegionWith
import Derived.Test.YtbhmklbdfmgmlaaMNodeWords00
import Derived.Test.YtbhmklbdfmgmlaaMNodeWords01
import Derived.Test.YtbhmklbdfmgmlaaMNodeWords02
import Derived.Test.YtbhmklbdfmgmlaaMNodeWords03
import Derived.Test.YtbhmklbdfmgmlaaMNodeWords04
import Derived.Test.YtbhmklbdfmgmlaaMNodeWords05
import Derived.Test.YtbhmklbdfmgmlaaMNodeWords06
import Derived.Test.YtbhmklbdfmgmlaaMNodeWords07
import Derived.Test.YtbhmklbdfmgmlaaMNodeWords08
import Derived.Test.YtbhmklbdfmgmlaaMNodeWords09
import Derived.Test.YtbhmklbdfmgmlaaMNodeWords10
import Derived.Test.YtbhmklbdfmgmlaaMNodeWords11
import Derived.Test.YtbhmklbdfmgmlaaMNodeWords12
import Derived.Test.YtbhmklbdfmgmlaaMNodeWords13
import Derived.Test.YtbhmklbdfmgmlaaMNodeWords14
import Derived.Test.YtbhmklbdfmgmlaaMNodeWords15
import Derived.Test.YtbhmklbdfmgmlaaMNodeWords16
import Derived.Test.YtbhmklbdfmgmlaaMNodeWords17
import Derived.Test.YtbhmklbdfmgmlaaMNodeWords18
import Derived.Test.YtbhmklbdfmgmlaaMNodeWords19
import Derived.Test.YtbhmklbdfmgmlaaMNodeWords20
import Derived.Test.YtbhmklbdfmgmlaaMNodeWords21
import Derived.Test.YtbhmklbdfmgmlaaMNodeWords22
import Derived.Test.YtbhmklbdfmgmlaaMNodeWords23
import Derived.Test.YtbhmklbdfmgmlaaMNodeWords24
/- How many words a node takes, and what it costs: the specification's word. -/
namespace Go.Proofs.Ytbhmklbdfmgmlaa
open Go.RowKit
theorem mem_ptrs {n p : Nd} (h : p ∈ n.ptrs) : p ∈ ptrsL n := List.mem_append_left _ h
theorem mem_items {n y p : Nd} (h : y ∈ n.items) (hp : p ∈ y.ptrs) : p ∈ ptrsL n := List.mem_append_right _ (List.mem_flatMap.2 ⟨y, h, hp⟩)
theorem sum_flat (l : List Nd) (f : Nd → Nat) : ((l.flatMap Nd.ptrs).map f).sum = (l.map fun y => (y.ptrs.map f).sum).sum := by
  induction l with
  | nil => rfl
  | cons a t ih => rw [List.flatMap_cons, List.map_append, List.sum_append, ih]; rfl
theorem sum_ptrs (n : Nd) (f : Nd → Nat) : ((ptrsL n).map f).sum = (n.ptrs.map f).sum + (n.items.map fun y => (y.ptrs.map f).sum).sum := by
  unfold ptrsL
  rw [List.map_append, List.sum_append, sum_flat]
theorem tot_ptrs2 {w : World} {S : Nat → Prop} {m : Nat} {n : Nd} {h : Hd} (hn : NdAt w S m n h) : totL m (ptrsL n) + n.data.size + (n.items.map fun y => y.data.size).sum ≤ totN m n := by
  cases m with
  | zero =>
    rw [hn.2.2.zero]
    unfold totN
    simp only [List.map_nil, List.sum_nil]
    show 0 + _ + 0 ≤ _
    omega
  | succ m =>
    have h1 : totL (m + 1) (ptrsL n) = totL (m + 1) n.ptrs + (n.items.map fun y => totL (m + 1) y.ptrs).sum := by
      unfold ptrsL
      rw [totL_succ, List.map_append, List.sum_append, ← totL_succ, ← totL_succ, flat_tot]
    have h2 : (n.items.map fun y => totL (m + 1) y.ptrs + y.data.size).sum ≤ totL (m + 1) n.items := by
      rw [totL_succ]
      refine sum_le _ _ _ fun y hy => ?_
      obtain ⟨hd, h3⟩ := hn.2.2.mem y hy
      rw [totL_eq m _ _ h3.2.1]
      unfold totN
      omega
    have h4 : ∀ l : List Nd, (l.map fun y => totL (m + 1) y.ptrs + y.data.size).sum = (l.map fun y => totL (m + 1) y.ptrs).sum + (l.map fun y => y.data.size).sum := by
      intro l
      induction l with
      | nil => rfl
      | cons a t ih => simp only [List.map_cons, List.sum_cons, ih]; omega
    rw [h4] at h2
    rw [h1]
    unfold totN
    omega
theorem own_le2 (n : Nd) : ownN n ≤ n.data.size + (n.items.map fun y => y.data.size).sum + (ptrsL n).length + 1 := by
  have h1 : ownB n ≤ n.data.size + n.ptrs.length := by unfold ownB; omega
  have h2 : ∀ l : List Nd, (l.map ownB).sum ≤ (l.map fun y => y.data.size).sum + (l.flatMap Nd.ptrs).length := by
    intro l
    induction l with
    | nil => simp
    | cons a t ih =>
      have : ownB a ≤ a.data.size + a.ptrs.length := by unfold ownB; omega
      simp only [List.map_cons, List.sum_cons, List.flatMap_cons, List.length_append]
      omega
  have h3 := h2 n.items
  unfold ownN ptrsL
  rw [List.length_append]
  split <;> omega
theorem words_bound {w : World} {S : Nat → Prop} : ∀ (d m : Nat) (n : Nd) (h : Hd), NdAt w S m n h → okN d n = true → wordsN d n ≤ 2 * totN m n + 1 := by
  intro d
  induction d with
  | zero => intro m n h hn hok; exact Nat.zero_le _
  | succ d ih =>
    intro m n h hn hok
    obtain ⟨hf, hk⟩ := ok_kids hok
    have h1 := own_le2 n
    have h2 := tot_ptrs2 hn
    have h3 : ((ptrsL n).map (wordsN d)).sum + (ptrsL n).length ≤ 2 * totL m (ptrsL n) := by
      cases m with
      | zero =>
        have : ptrsL n = [] := by unfold ptrsL; rw [hn.2.1.zero, hn.2.2.zero]; rfl
        rw [this]; simp
      | succ m =>
        have hmem : ∀ p ∈ ptrsL n, ∃ hp : Hd, NdAt w S m p hp := by
          intro p hp
          unfold ptrsL at hp
          rcases List.mem_append.1 hp with hp | hp
          · exact hn.2.1.mem p hp
          · obtain ⟨y, hy, hpy⟩ := List.mem_flatMap.1 hp
            obtain ⟨hd, hyn⟩ := hn.2.2.mem y hy
            obtain ⟨j, rfl⟩ : ∃ j, m = j + 1 := by
              cases m with
              | zero => rw [hyn.2.1.zero] at hpy; cases hpy
              | succ j => exact ⟨j, rfl⟩
            obtain ⟨hd2, h4⟩ := hyn.2.1.mem p hpy
            exact ⟨hd2, h4.mono (by omega)⟩
        have h5 : ((ptrsL n).map fun p => wordsN d p + 1).sum ≤ ((ptrsL n).map fun p => 2 * (1 + totN m p)).sum := sum_le _ _ _ fun p hp => by
          obtain ⟨hd2, h6⟩ := hmem p hp
          have := ih m p hd2 h6 (hk p hp)
          omega
        have h7 : ∀ l : List Nd, (l.map fun p => wordsN d p + 1).sum = (l.map (wordsN d)).sum + l.length := by
          intro l
          induction l with
          | nil => rfl
          | cons a t ih => simp only [List.map_cons, List.sum_cons, List.length_cons, ih]; omega
        have h8 : ∀ l : List Nd, (l.map fun p => 2 * (1 + totN m p)).sum = 2 * (l.map fun p => 1 + totN m p).sum := by
          intro l
          induction l with
          | nil => rfl
          | cons a t ih => simp only [List.map_cons, List.sum_cons, ih]; omega
        rw [h7, h8, ← totL_succ] at h5
        exact h5
    show ownN n + _ ≤ _
    omega

def L4W (d : Nat) : Prop := ∀ (m : Nat) (n : Nd) (h : Hd) (w : World) (S : Nat → Prop), NdAt w S m n h → totN m n ≤ 2000000 → okN d n = true →
  Calls Try.prog 40 #[.agg #[.int .i64 n.kind, .string n.data, .slice h.A n.ptrs.length h.a, .int .i64 n.size, .int .i64 n.count, .slice h.B n.items.length h.b]] w fun e w' => e = .returned (.int .i64 (wordsN d n : Nat)) ∧ Below w.heap.size w w'
set_option maxHeartbeats 8000000 in
set_option maxRecDepth 100000 in
theorem l4Words_step (d : Nat) (ih : ∀ j, d = j + 1 → L4W j) : L4W d := by
  intro m n h w S hn ht hok
  have hbd := words_bound d m n h hn hok
  obtain ⟨qA, qa, qB, qb⟩ := h
  dsimp only at hn ⊢
  have hpl : n.ptrs.length ≤ 2000000 := totL_len' hn.2.1 (by unfold totN at ht; omega)
  have hil : n.items.length ≤ 2000000 := totL_len' hn.2.2 (by unfold totN at ht; omega)
  have hf := (ok_kids hok).1
  have hob := own_bound hn ht
  have HN := Lib.hid hn
  have HT := Lib.hid ht
  have hba := (Below.refl w.heap.size w).alloc (Nat.le_refl _) (.cells #[.int .i64 n.kind, .string n.data, .slice qA n.ptrs.length qa, .int .i64 n.size, .int .i64 n.count, .slice qB n.items.length qb] nodeT)
  have hr := heap_alloc_new w (.cells #[.int .i64 n.kind, .string n.data, .slice qA n.ptrs.length qa, .int .i64 n.size, .int .i64 n.count, .slice qB n.items.length qb] nodeT)
  have hsz : w.heap.size < (w.alloc (.cells #[.int .i64 n.kind, .string n.data, .slice qA n.ptrs.length qa, .int .i64 n.size, .int .i64 n.count, .slice qB n.items.length qb] nodeT)).heap.size := by simp
  have HOW := Lib.hid (l4Own_a m n ⟨qA, qa, qB, qb⟩ _ S (hn.below hba) hf ht)
  dsimp only at HOW
  have HBA := Lib.hid hba
  have HR := Lib.hid hr
  have HTOT : Hid (wordsN d n = ownN n + (n.ptrs.map (wordsN (d - 1))).sum + (n.items.map fun y => (y.ptrs.map (wordsN (d - 1))).sum).sum) := Lib.hid (by rw [words_kids hok, sum_ptrs]; omega)
  have HKID : Hid (∀ p ∈ ptrsL n, ∀ (m' : Nat) (hp : Hd) (W : World), NdAt W S m' p hp → totN m' p ≤ 2000000 → Calls Try.prog 40 #[.agg #[.int .i64 p.kind, .string p.data, .slice hp.A p.ptrs.length hp.a, .int .i64 p.size, .int .i64 p.count, .slice hp.B p.items.length hp.b]] W fun e w' => e = .returned (.int .i64 (wordsN (d - 1) p : Nat)) ∧ Below W.heap.size W w') := Lib.hid fun p hp m' h' W h1 h2 => by
    cases d with
    | zero =>
      have h3 := words_kids hok
      have h4 := ptrs_own n
      have h5 : (ptrsL n).length ≠ 0 := by intro h; rw [nil_of_len h] at hp; cases hp
      simp only [wordsN] at h3
      omega
    | succ j => exact ih j rfl m' p h' W S h1 h2 ((ok_kids hok).2 p hp)
  have htb : wordsN d n ≤ 4000001 := by omega
  clear hn ht hok hf ih hbd hba hr
  generalize wordsN d n = tt at *
  generalize ownN n = s0 at *
  have HS0 : Hid ((s0 : Int) = ((s0 : Nat) : Int)) := Lib.hid rfl
  go_enter Try.func40, Try.ntmps40
  go_wp2_with fail
  refine HOW.out.mono ?_
  rintro e w1 ⟨rfl, hb1⟩
  have hr1 := (hb1.block w.heap.size hsz).trans HR.out
  have HR1 := Lib.hid hr1
  have HB1 := Lib.hid (HBA.out.trans (hb1.mono HBA.out.size))
  obtain ⟨a0, a1, a2, a3, a4, a5⟩ := cells6 hr1
  clear hr1 hb1
  go_wp2
  go_loopw [3, 4] (fun u i wr => ∃ (k : Nat) (z : Int), u = .int .i64 z ∧ i = .int .i64 k ∧ k ≤ n.ptrs.length ∧ 0 ≤ z ∧ z ≤ 4000001 ∧ Hid (z = ((s0 + ((n.ptrs.take k).map (wordsN (d - 1))).sum : Nat) : Int)) ∧ Hid (Below w.heap.size w wr ∧ wr.heap[w.heap.size]? = some (.cells #[.int .i64 n.kind, .string n.data, .slice qA n.ptrs.length qa, .int .i64 n.size, .int .i64 n.count, .slice qB n.items.length qb] nodeT (0, 0)))) (fun _ i _ => n.ptrs.length - (intOf i).toNat)
  case atStart => exact ⟨0, _, rfl, rfl, by omega, by have := HS0.out; omega, by have := HS0.out; omega, Lib.hid (by rw [List.take_zero, List.map_nil, List.sum_nil]; have := HS0.out; omega), Lib.hid ⟨HB1.out, HR1.out⟩⟩
  case round =>
    obtain ⟨k, z, rfl, rfl, hk, hz0, hz1, HZ, HB⟩ := hrel
    obtain ⟨hbr, hrr⟩ := HB.out
    clear a0 a1 a2 a3 a4 a5
    obtain ⟨a0, a1, a2, a3, a4, a5⟩ := cells6 hrr
    by_cases hlt : k < n.ptrs.length
    · obtain ⟨m', rfl⟩ := HN.out.2.1.pred hlt
      obtain ⟨x, yA, ya, yB, yb, rfl, hc0, hdy, hny, hniy⟩ := HN.out.2.1.at6 hlt
      have hc := cell_below hbr _ _ _ hc0
      have HST := Lib.hid (sum_take_succ n.ptrs (wordsN (d - 1)) k hlt)
      have HSL := Lib.hid (sum_take_le n.ptrs (wordsN (d - 1)) (k + 1))
      have htp : totN m' n.ptrs[k] ≤ 2000000 := by have := totL_at (m := m') hlt; have := HT.out; unfold totN at this; omega
      have HC := Lib.hid (HKID.out _ (mem_ptrs (List.getElem_mem hlt)) m' ⟨yA, ya, yB, yb⟩ wr (NdAt.below ⟨hdy, hny, hniy⟩ hbr) htp)
      dsimp only at HC
      generalize n.ptrs[k] = y at hc HST HC
      have hzv : z + ((wordsN (d - 1)) y : Nat) ≤ 4000001 := by have := HZ.out; have := HST.out; have := HSL.out; have := HTOT.out; omega
      obtain ⟨c0, c1, c2, c3, c4, c5⟩ := hc
      dsimp only at c2 c5
      have HBR := Lib.hid hbr
      have HRR := Lib.hid hrr
      clear hbr hrr hc0 hdy hny hniy htp HB
      generalize (wordsN (d - 1)) y = v at *
      go_wp2_with fail
      refine HC.out.mono ?_
      rintro e w3 ⟨rfl, hb3⟩
      have HB3 := Lib.hid (And.intro (HBR.out.trans (hb3.mono HBR.out.size)) ((hb3.block w.heap.size (row_lt HRR.out)).trans HRR.out))
      clear hb3
      go_wp2
      go_roundw
      case rel => exact ⟨k + 1, _, rfl, by go_num, by omega, by omega, hzv, Lib.hid (by rw [HZ.out, HST.out]; omega), HB3⟩
      case measure => simp [intOf]; omega
    · obtain rfl : k = n.ptrs.length := by omega
      rw [List.take_of_length_le (Nat.le_refl _)] at HZ
      have HBR := Lib.hid hbr
      have HRR := Lib.hid hrr
      have HZP := HZ
      have hzp0 := hz0
      have hzp1 := hz1
      clear hbr hrr HB HZ
      go_wp2
      go_loopw [3, 5] (fun u i wr => ∃ (k : Nat) (z : Int), u = .int .i64 z ∧ i = .int .i64 k ∧ k ≤ n.items.length ∧ 0 ≤ z ∧ z ≤ 4000001 ∧ Hid (z = ((s0 + (n.ptrs.map (wordsN (d - 1))).sum + ((n.items.take k).map fun y => (y.ptrs.map (wordsN (d - 1))).sum).sum : Nat) : Int)) ∧ Hid (Below w.heap.size w wr ∧ wr.heap[w.heap.size]? = some (.cells #[.int .i64 n.kind, .string n.data, .slice qA n.ptrs.length qa, .int .i64 n.size, .int .i64 n.count, .slice qB n.items.length qb] nodeT (0, 0)))) (fun _ i _ => n.items.length - (intOf i).toNat)
      case atStart => exact ⟨0, _, rfl, rfl, by omega, hzp0, hzp1, Lib.hid (by rw [HZP.out]; simp), Lib.hid ⟨HBR.out, HRR.out⟩⟩
      case round =>
        clear hz0 hz1 hzp0 hzp1
        obtain ⟨k, z, rfl, rfl, hk, hz0, hz1, HZ, HB⟩ := hrel
        obtain ⟨hbr, hrr⟩ := HB.out
        clear a0 a1 a2 a3 a4 a5
        obtain ⟨a0, a1, a2, a3, a4, a5⟩ := cells6 hrr
        by_cases hlt : k < n.items.length
        · obtain ⟨m', rfl⟩ := HN.out.2.2.pred hlt
          obtain ⟨x, yA, ya, yB, yb, rfl, hc0, hdy, hny, hniy⟩ := HN.out.2.2.at6 hlt
          have HSTI := Lib.hid (sum_take_succ n.items (fun y => (y.ptrs.map (wordsN (d - 1))).sum) k hlt)
          have HSLI := Lib.hid (sum_take_le n.items (fun y => (y.ptrs.map (wordsN (d - 1))).sum) (k + 1))
          have HTP : Hid (totL m' (n.items[k]).ptrs ≤ 2000000) := Lib.hid (by have := totL_at (m := m') hlt; have := HT.out; unfold totN at *; omega)
          have hypl : (n.items[k]).ptrs.length ≤ 2000000 := totL_len' hny HTP.out
          have HMY := Lib.hid (fun p hp => HKID.out p (mem_items (List.getElem_mem hlt) hp))
          generalize n.items[k] = y at hc0 HSTI hny HTP hypl HMY
          have HC0 := Lib.hid hc0
          have HNY := Lib.hid hny
          have HBR := Lib.hid hbr
          have HRR := Lib.hid hrr
          have hzi0 := hz0
          have hzi1 := hz1
          clear hbr hrr hc0 hdy hny hniy HB
          go_wp2
          clear a0 a1 a2 a3 a4 a5
          go_loopw [3, 6] (fun u i wr => ∃ (q : Nat) (z : Int), u = .int .i64 z ∧ i = .int .i64 q ∧ q ≤ y.ptrs.length ∧ 0 ≤ z ∧ z ≤ 4000001 ∧ Hid (z = ((s0 + (n.ptrs.map (wordsN (d - 1))).sum + ((n.items.take k).map fun y => (y.ptrs.map (wordsN (d - 1))).sum).sum + ((y.ptrs.take q).map (wordsN (d - 1))).sum : Nat) : Int)) ∧ Hid (Below w.heap.size w wr ∧ wr.heap[w.heap.size]? = some (.cells #[.int .i64 n.kind, .string n.data, .slice qA n.ptrs.length qa, .int .i64 n.size, .int .i64 n.count, .slice (some x) n.items.length qb] nodeT (0, 0)))) (fun _ i _ => y.ptrs.length - (intOf i).toNat)
          case atStart => exact ⟨0, _, rfl, rfl, by omega, hzi0, hzi1, Lib.hid (by rw [HZ.out]; simp), Lib.hid ⟨HBR.out, HRR.out⟩⟩
          case round =>
            clear hz0 hz1 hzi0 hzi1
            obtain ⟨q, z, rfl, rfl, hq, hz0, hz1, HZQ, HB⟩ := hrel
            obtain ⟨hbr, hrr⟩ := HB.out
            obtain ⟨a0, a1, a2, a3, a4, a5⟩ := cells6 hrr
            have hc := cell_below hbr _ _ _ HC0.out
            obtain ⟨-, -, d2, -, -, -⟩ := hc
            dsimp only at d2
            by_cases hqt : q < y.ptrs.length
            · obtain ⟨m'', rfl⟩ := HNY.out.pred hqt
              obtain ⟨x2, zA, za, zB, zb, rfl, hc2, hdz, hnz, hniz⟩ := HNY.out.at6 hqt
              have hcz := cell_below hbr _ _ _ hc2
              have HST := Lib.hid (sum_take_succ y.ptrs (wordsN (d - 1)) q hqt)
              have HSL := Lib.hid (sum_take_le y.ptrs (wordsN (d - 1)) (q + 1))
              have htp : totN m'' y.ptrs[q] ≤ 2000000 := by have := totL_at (m := m'') hqt; have := HTP.out; omega
              have HC := Lib.hid (HMY.out _ (List.getElem_mem hqt) m'' ⟨zA, za, zB, zb⟩ wr (NdAt.below ⟨hdz, hnz, hniz⟩ hbr) htp)
              dsimp only at HC
              generalize y.ptrs[q] = t at hcz HST HC
              have hzv : z + ((wordsN (d - 1)) t : Nat) ≤ 4000001 := by have := HZQ.out; have := HST.out; have := HSL.out; have := HTOT.out; have := HSTI.out; have := HSLI.out; omega
              obtain ⟨c0, c1, c2, c3, c4, c5⟩ := hcz
              dsimp only at c2 c5
              have HBR := Lib.hid hbr
              have HRR := Lib.hid hrr
              clear hbr hrr hc2 hdz hnz hniz htp HB
              generalize (wordsN (d - 1)) t = v at *
              go_wp2_with fail
              refine HC.out.mono ?_
              rintro e w3 ⟨rfl, hb3⟩
              have HB3 := Lib.hid (And.intro (HBR.out.trans (hb3.mono HBR.out.size)) ((hb3.block w.heap.size (row_lt HRR.out)).trans HRR.out))
              clear hb3
              go_wp2
              go_roundw
              case rel => exact ⟨q + 1, _, rfl, by go_num, by omega, by omega, hzv, Lib.hid (by rw [HZQ.out, HST.out]; omega), HB3⟩
              case measure => simp [intOf]; omega
            · obtain rfl : q = y.ptrs.length := by omega
              rw [List.take_of_length_le (Nat.le_refl _)] at HZQ
              have HZ2 : Hid (z = ((s0 + (n.ptrs.map (wordsN (d - 1))).sum + ((n.items.take (k + 1)).map fun y => (y.ptrs.map (wordsN (d - 1))).sum).sum : Nat) : Int)) := Lib.hid (by rw [HZQ.out, HSTI.out]; omega)
              have HBB := Lib.hid (And.intro hbr hrr)
              clear hbr hrr HB
              go_wp2
              go_roundw
              case rel => exact ⟨k + 1, _, rfl, by go_num, by omega, hz0, hz1, HZ2, HBB⟩
              case measure => simp [intOf]; omega
        · obtain rfl : k = n.items.length := by omega
          rw [List.take_of_length_le (Nat.le_refl _)] at HZ
          have HBR := Lib.hid hbr
          clear hbr hrr HB
          go_wp2
          go_ret
          exact ⟨by rw [HTOT.out, HZ.out]; rfl, HBR.out⟩
theorem l4Words_any : ∀ d, L4W d
  | 0 => l4Words_step 0 (fun j hj => by omega)
  | d + 1 => l4Words_step (d + 1) (fun j hj => by
    obtain rfl : d = j := by omega
    exact l4Words_any d)
end Go.Proofs.Ytbhmklbdfmgmlaa

/- NodeOk, NodeWords, ReadCost: the specification's. -/
namespace Go.Proofs.Ytbhmklbdfmgmlaa
open Go.RowKit
set_option maxHeartbeats 2000000 in
set_option maxRecDepth 100000 in
theorem specNodeOk_a (m : Nat) (n : Nd) (h : Hd) (w : World) (S : Nat → Prop) (hn : NdAt w S m n h) (ht : totN m n ≤ 2000000) :
    Calls Try.prog 21 #[.agg #[.int .i64 n.kind, .string n.data, .slice h.A n.ptrs.length h.a, .int .i64 n.size, .int .i64 n.count, .slice h.B n.items.length h.b]] w fun e w' => e = .returned (.bool (nodeOk n)) ∧ Below w.heap.size w w' := by
  have hb0 := (Below.refl w.heap.size w).alloc (Nat.le_refl _) (.cells #[.int .i64 n.kind, .string n.data, .slice h.A n.ptrs.length h.a, .int .i64 n.size, .int .i64 n.count, .slice h.B n.items.length h.b] nodeT)
  have HB0 := Lib.hid hb0
  have HBX := Lib.hid (heap_alloc_new w (.cells #[.int .i64 n.kind, .string n.data, .slice h.A n.ptrs.length h.a, .int .i64 n.size, .int .i64 n.count, .slice h.B n.items.length h.b] nodeT))
  have HO := Lib.hid (l4Ok_any 8 (by decide) m n h _ S (hn.below hb0) ht)
  rw [show (((8 : Nat)) : Int) = 8 from rfl] at HO
  have HWO : Hid (okN 8 n = true → ∀ W : World, Below w.heap.size w W → Calls Try.prog 40 #[.agg #[.int .i64 n.kind, .string n.data, .slice h.A n.ptrs.length h.a, .int .i64 n.size, .int .i64 n.count, .slice h.B n.items.length h.b]] W fun e w' => e = .returned (.int .i64 (wordsN 8 n : Nat)) ∧ Below W.heap.size W w') := Lib.hid fun hok W hb => l4Words_any 8 m n h W S (hn.below hb) ht hok
  clear hn ht hb0
  cases hok : okN 8 n
  · have HX : Hid (nodeOk n = false) := Lib.hid (by unfold nodeOk; rw [hok]; rfl)
    rw [hok] at HO
    clear hok
    go_enter Try.func21, Try.ntmps21
    go_wp2_with fail
    refine HO.out.mono ?_
    rintro e w2 ⟨rfl, hb2⟩
    have HB2 := Lib.hid (HB0.out.trans (hb2.mono HB0.out.size))
    clear hb2
    go_wp2
    go_ret
    exact ⟨by rw [HX.out]; rfl, HB2.out⟩
  · have HX : Hid (nodeOk n = decide (((wordsN 8 n : Nat) : Int) < 200)) := Lib.hid (by unfold nodeOk; rw [hok, Bool.true_and, Bool.eq_iff_iff]; simp only [decide_eq_true_eq]; omega)
    have HC := Lib.hid (HWO.out hok)
    rw [hok] at HO
    clear HWO hok
    generalize wordsN 8 n = wd at *
    go_enter Try.func21, Try.ntmps21
    go_wp2_with fail
    refine HO.out.mono ?_
    rintro e w2 ⟨rfl, hb2⟩
    obtain ⟨a0, a1, a2, a3, a4, a5⟩ := cells6 ((hb2.block w.heap.size (by simp)).trans HBX.out)
    have HB2 := Lib.hid (HB0.out.trans (hb2.mono HB0.out.size))
    clear hb2
    go_wp2_with fail
    refine (HC.out _ HB2.out).mono ?_
    rintro e w3 ⟨rfl, hb3⟩
    have HB3 := Lib.hid (HB2.out.trans (hb3.mono HB2.out.size))
    clear hb3
    go_wp2
    go_ret
    exact ⟨by rw [HX.out]; rfl, HB3.out⟩
set_option maxHeartbeats 2000000 in
set_option maxRecDepth 100000 in
theorem specNodeWords_a (m : Nat) (n : Nd) (h : Hd) (w : World) (S : Nat → Prop) (hn : NdAt w S m n h) (ht : totN m n ≤ 2000000) :
    Calls Try.prog 20 #[.agg #[.int .i64 n.kind, .string n.data, .slice h.A n.ptrs.length h.a, .int .i64 n.size, .int .i64 n.count, .slice h.B n.items.length h.b]] w fun e w' => e = .returned (.int .i64 (nodeWords n : Nat)) ∧ Below w.heap.size w w' := by
  have hb0 := (Below.refl w.heap.size w).alloc (Nat.le_refl _) (.cells #[.int .i64 n.kind, .string n.data, .slice h.A n.ptrs.length h.a, .int .i64 n.size, .int .i64 n.count, .slice h.B n.items.length h.b] nodeT)
  have HB0 := Lib.hid hb0
  have HBX := Lib.hid (heap_alloc_new w (.cells #[.int .i64 n.kind, .string n.data, .slice h.A n.ptrs.length h.a, .int .i64 n.size, .int .i64 n.count, .slice h.B n.items.length h.b] nodeT))
  have HO := Lib.hid (specNodeOk_a m n h _ S (hn.below hb0) ht)
  have HWO : Hid (nodeOk n = true → ∀ W : World, Below w.heap.size w W → Calls Try.prog 40 #[.agg #[.int .i64 n.kind, .string n.data, .slice h.A n.ptrs.length h.a, .int .i64 n.size, .int .i64 n.count, .slice h.B n.items.length h.b]] W fun e w' => e = .returned (.int .i64 (wordsN 8 n : Nat)) ∧ Below W.heap.size W w') := Lib.hid fun hok W hb => by
    unfold nodeOk at hok
    simp only [Bool.and_eq_true, decide_eq_true_eq] at hok
    exact l4Words_any 8 m n h W S (hn.below hb) ht hok.1
  clear hn ht hb0
  cases hok : nodeOk n
  · have HX : Hid (nodeWords n = 0) := Lib.hid (by unfold nodeWords; rw [hok]; rfl)
    rw [hok] at HO
    clear hok
    go_enter Try.func20, Try.ntmps20
    go_wp2_with fail
    refine HO.out.mono ?_
    rintro e w2 ⟨rfl, hb2⟩
    have HB2 := Lib.hid (HB0.out.trans (hb2.mono HB0.out.size))
    clear hb2
    go_wp2
    go_ret
    exact ⟨by rw [HX.out]; rfl, HB2.out⟩
  · have HX : Hid (nodeWords n = wordsN 8 n) := Lib.hid (by unfold nodeWords; rw [hok]; rfl)
    have HC := Lib.hid (HWO.out hok)
    rw [hok] at HO
    clear HWO hok
    generalize wordsN 8 n = wd at *
    go_enter Try.func20, Try.ntmps20
    go_wp2_with fail
    refine HO.out.mono ?_
    rintro e w2 ⟨rfl, hb2⟩
    obtain ⟨a0, a1, a2, a3, a4, a5⟩ := cells6 ((hb2.block w.heap.size (by simp)).trans HBX.out)
    have HB2 := Lib.hid (HB0.out.trans (hb2.mono HB0.out.size))
    clear hb2
    go_wp2_with fail
    refine (HC.out _ HB2.out).mono ?_
    rintro e w3 ⟨rfl, hb3⟩
    have HB3 := Lib.hid (HB2.out.trans (hb3.mono HB2.out.size))
    clear hb3
    go_wp2
    go_ret
    exact ⟨by rw [HX.out]; rfl, HB3.out⟩
end Go.Proofs.Ytbhmklbdfmgmlaa

/- The specification's drawer of nodes: structs. -/
namespace Go.Proofs.Ytbhmklbdfmgmlaa
open Go.RowKit Go.Deep
/-- how many draws a node of such a depth takes at most; how great it is; how many levels it has. -/
def dK : Nat → Nat
  | 0 => 0
  | d + 1 => 50 + 6 * dK d
def dT : Nat → Nat
  | 0 => 0
  | d + 1 => 1001 + 6 * dT d
def DrN (d : Nat) : Prop := ∀ (R n : Nat) (w : World), Rd w R n → n + dK d ≤ 500000 → Calls Try.prog 54 #[.pointer (some ⟨R, 0, none⟩), .int .i64 (d : Int)] w (NdP (2 * d) (dT d) R (n + dK d) w)
theorem picked_growN {w w1 w2 : World} {R n base m z : Nat} {e : TypeId} {v : Value} {xs : List Value} (hp : Picked w R n w1) (hR : R < base) (hwb : w.heap.size ≤ base) (hown : w1.ownsRow base e z v m xs) (hbs : base ≤ w1.heap.size) (hg : w1.grownBy w2 v.ownBlock) : Picked w R n w2 := by
  have hbel : Below base w1 w2 := (Below.refl base w1).grown hg hbs (fun k hk => (hown.lt k hk).1)
  obtain ⟨⟨a, l, c, p, hpn, hr, hc⟩, hk⟩ := hp
  refine ⟨⟨a, l, c, p, hpn, (hbel.block R hR).trans hr, hc.keeps (R := base) (Keeps.of_below hbel) (Nat.le_of_lt hR) (Nat.le_of_lt hR)⟩, ?_⟩
  exact ⟨hbel.os.trans hk.os, hbel.tape.trans hk.tape, hbel.output.trans hk.output, Nat.le_trans hk.size hbel.size, fun k hk1 hk2 => (hbel.block k (Nat.lt_of_lt_of_le hk1 hwb)).trans (hk.block k hk1 hk2)⟩
theorem NdAt.picked {w w' : World} {R n B m : Nat} {x : Nd} {h : Hd} (hn : NdAt w (FromC w B) m x h) (hp : Picked w R n w') (hR : R < B) : NdAt w' (FromC w' B) m x h :=
  hn.map' (fun k hk hs => ⟨hs.1, clean_of hs.2 (hp.2.block k hk (by have := hs.1; omega))⟩) (fun p _ _ hs hc => hc.block (hp.2.block _ hc.lt (by have := hs.1; omega)))
/-- the struct as it is drawn: its bytes so far. -/
def StD (g : Nat) (k : Nat) (w : World) : Prop := ∃ dd : ByteArray, dd.size = 8 * k ∧ w.heap[g]? = some (.cells #[.int .i64 1, .string dd, .slice none 0 0, .int .i64 0, .int .i64 0, .slice none 0 0] nodeT (0, 0))
set_option maxHeartbeats 8000000 in
set_option maxRecDepth 100000 in
theorem l13Struct_any (d : Nat) (hN : DrN d) (R n : Nat) (data ptrs : Nat) (w : World) (h : Rd w R n) (hn : n + 3 * data + ptrs * dK d ≤ 500000) (hd : data ≤ 3) (hp : ptrs ≤ 3) (hdd : d ≤ 8) (_hkd : dK d ≤ 20000) (_htd : dT d ≤ 300000) :
    Calls Try.prog 74 #[.pointer (some ⟨R, 0, none⟩), .int .i64 data, .int .i64 ptrs, .int .i64 ((d : Int) + 1)] w (NdP (2 * d + 1) (8 * data + ptrs * (1 + dT d)) R (n + 3 * data + ptrs * dK d) w) := by
  have hRw := h.lt
  obtain ⟨i0, hi, hz0, hz1, hz2⟩ := info_parts infoNd
  have hq0 := h.self.below (((Below.refl w.heap.size w).alloc (Nat.le_refl _) (.cells #[.int .i64 0, .string { data := #[] }, .slice none 0 0, .int .i64 0, .int .i64 0, .slice none 0 0] nodeT)).alloc (by simp) (.cells #[.int .i64 1, .string { data := #[] }, .slice none 0 0, .int .i64 0, .int .i64 0, .slice none 0 0] nodeT))
  have hr0 : ((w.alloc (.cells #[.int .i64 0, .string { data := #[] }, .slice none 0 0, .int .i64 0, .int .i64 0, .slice none 0 0] nodeT)).alloc (.cells #[.int .i64 1, .string { data := #[] }, .slice none 0 0, .int .i64 0, .int .i64 0, .slice none 0 0] nodeT)).heap[w.heap.size]? = some (.cells #[.int .i64 0, .string { data := #[] }, .slice none 0 0, .int .i64 0, .int .i64 0, .slice none 0 0] nodeT (0, 0)) := (Below.heap_alloc _ _ _ (by simp)).trans (heap_alloc_new w _)
  have hx0 : ((w.alloc (.cells #[.int .i64 0, .string { data := #[] }, .slice none 0 0, .int .i64 0, .int .i64 0, .slice none 0 0] nodeT)).alloc (.cells #[.int .i64 1, .string { data := #[] }, .slice none 0 0, .int .i64 0, .int .i64 0, .slice none 0 0] nodeT)).heap[w.heap.size + 1]? = some (.cells #[.int .i64 1, .string { data := #[] }, .slice none 0 0, .int .i64 0, .int .i64 0, .slice none 0 0] nodeT (0, 0)) := by have := heap_alloc_new (w.alloc (.cells #[.int .i64 0, .string { data := #[] }, .slice none 0 0, .int .i64 0, .int .i64 0, .slice none 0 0] nodeT)) (.cells #[.int .i64 1, .string { data := #[] }, .slice none 0 0, .int .i64 0, .int .i64 0, .slice none 0 0] nodeT); rwa [show (w.alloc (.cells #[.int .i64 0, .string { data := #[] }, .slice none 0 0, .int .i64 0, .int .i64 0, .slice none 0 0] nodeT)).heap.size = w.heap.size + 1 by simp] at this
  have hs0 : ((w.alloc (.cells #[.int .i64 0, .string { data := #[] }, .slice none 0 0, .int .i64 0, .int .i64 0, .slice none 0 0] nodeT)).alloc (.cells #[.int .i64 1, .string { data := #[] }, .slice none 0 0, .int .i64 0, .int .i64 0, .slice none 0 0] nodeT)).heap.size = w.heap.size + 2 := by simp
  have HQ0 := Lib.hid hq0
  have HR0 := Lib.hid hr0
  have HX0 := Lib.hid hx0
  have HNN := Lib.hid hN
  clear h hq0 hr0 hx0 hN
  go_enter Try.func74, Try.ntmps74
  go_wp2_with fail
  generalize (w.alloc (.cells #[.int .i64 0, .string { data := #[] }, .slice none 0 0, .int .i64 0, .int .i64 0, .slice none 0 0] nodeT)).alloc (.cells #[.int .i64 1, .string { data := #[] }, .slice none 0 0, .int .i64 0, .int .i64 0, .slice none 0 0] nodeT) = W0 at *
  go_loopw [10] (fun i wr => ∃ k : Nat, i = .int .i64 k ∧ k ≤ data ∧ Hid (StD (w.heap.size + 1) k wr) ∧ Hid (wr.heap[w.heap.size]? = some (.cells #[.int .i64 0, .string { data := #[] }, .slice none 0 0, .int .i64 0, .int .i64 0, .slice none 0 0] nodeT (0, 0))) ∧ Hid (Picked w R (n + 3 * k) wr ∧ w.heap.size + 2 ≤ wr.heap.size)) (fun i _ => data - (intOf i).toNat)
  case atStart => exact ⟨0, rfl, by omega, Lib.hid ⟨_, rfl, HX0.out⟩, HR0, Lib.hid ⟨HQ0.out, by omega⟩⟩
  case round =>
    obtain ⟨k, rfl, hk, HS, HZ, HP⟩ := hrel
    obtain ⟨dd, hds, hrow⟩ := HS.out
    obtain ⟨hpk, hsz⟩ := HP.out
    have hdb : dd.size ≤ 24 := by omega
    by_cases hlt : k < data
    · have hc := cells6 hrow
      obtain ⟨c0, c1, c2, c3, c4, c5⟩ := hc
      have hfr := row_free hrow 1
      have HPK := Lib.hid hpk
      have HROW := Lib.hid hrow
      have HDS := Lib.hid hds
      have hdr : (wr.drew).heap.size = wr.heap.size := rfl
      clear hpk hrow hds HS HP
      go_wp2_with fail
      go_region_with (go_at_call 86; go_must (refine (l13Word_any R (n + 3 * k) _ (by exact HPK.out.1.below ⟨rfl, rfl, rfl, Nat.le_refl _, fun _ _ => rfl⟩) (by omega)).mono ?_); rintro e w2 ⟨u, hu, rfl, hp2⟩; have hx2 := pick_rowN (w := wr.drew) HROW.out hp2 (by omega); obtain ⟨q0, q1, q2, q3, q4, q5⟩ := cells6 hx2; have qf := row_free hx2 1; have f1 : ¬ 9223372036854775807 < dd.size + u.size := by omega)
      all_goals
        have hp3 : Picked wr R (n + 3 * k + 3) w2 := ⟨hp2.1, ⟨hp2.2.os, hp2.2.tape, hp2.2.output, hp2.2.size, hp2.2.block⟩⟩
        have HP3 := Lib.hid (picked_storeN (HPK.out.then hp3) hRw (b := w.heap.size + 1) (by omega) 1 (.string (dd ++ u)))
        have HS3 : Hid (StD (w.heap.size + 1) (k + 1) (w2.setCell ⟨w.heap.size + 1, 1, none⟩ (.string (dd ++ u)))) := Lib.hid ⟨dd ++ u, by rw [getD_size, HDS.out, hu]; omega, row_setN hx2 1 _⟩
        have HZ3 := Lib.hid ((Below.heap_setCell w2 ⟨w.heap.size + 1, 1, none⟩ (.string (dd ++ u)) w.heap.size (by simp)).trans (pick_rowN (w := wr) HZ.out hp3 (by omega)))
        have hsz3 : w.heap.size + 2 ≤ (w2.setCell ⟨w.heap.size + 1, 1, none⟩ (.string (dd ++ u))).heap.size := by have := hp3.2.size; simp [World.setCell]; omega
        have HPP := Lib.hid (And.intro (HP3.out.mono (show n + 3 * k + 3 ≤ n + 3 * (k + 1) by omega)) hsz3)
        clear hp2 hp3 hx2 q0 q1 q2 q3 q4 q5 qf hsz3 hu
        go_wp2
        go_roundw
        case rel => exact ⟨k + 1, by go_num, by omega, HS3, HZ3, HPP⟩
        case measure => simp [intOf]; omega
    · obtain rfl : k = data := by omega
      have HROW := Lib.hid hrow
      have HPK := Lib.hid hpk
      have HZ1 := Lib.hid HZ.out
      have HDS := Lib.hid hds
      clear hrow hpk hds HS HP hlt
      go_wp2_with fail
      go_loopw [11] (fun i wr => ∃ j : Nat, i = .int .i64 j ∧ j ≤ ptrs ∧ Hid (∃ (v : Value) (q : List (Nd × Hd)), wr.heap[w.heap.size + 1]? = some (.cells #[.int .i64 1, .string dd, v, .int .i64 0, .int .i64 0, .slice none 0 0] nodeT (0, 0)) ∧ q.length = j ∧ NRowC wr (w.heap.size + 2) v q (2 * d) (dT d)) ∧ Hid (wr.heap[w.heap.size]? = some (.cells #[.int .i64 0, .string { data := #[] }, .slice none 0 0, .int .i64 0, .int .i64 0, .slice none 0 0] nodeT (0, 0))) ∧ Hid (Picked w R (n + 3 * k + j * dK d) wr ∧ w.heap.size + 2 ≤ wr.heap.size)) (fun i _ => ptrs - (intOf i).toNat)
      case atStart => exact ⟨0, rfl, by omega, Lib.hid ⟨_, [], HROW.out, rfl, NRowC.nil _ _ _ _⟩, HZ1, Lib.hid ⟨by have := HPK.out; simpa using this, hsz⟩⟩
      case round =>
        clear hsz
        obtain ⟨j, rfl, hj, HS, HZ, HP⟩ := hrel
        obtain ⟨v, q, hrow, hql, hnr⟩ := HS.out
        obtain ⟨hpk, hsz⟩ := HP.out
        have HQL := Lib.hid hql
        by_cases hlt : j < ptrs
        · obtain ⟨c0, c1, c2, c3, c4, c5⟩ := cells6 hrow
          have hq1000 : q.length ≤ 1000 := by omega
          have HPK2 := Lib.hid hpk
          have HROW2 := Lib.hid hrow
          have HNR := Lib.hid hnr
          have hdr : (wr.drew).heap.size = wr.heap.size := rfl
          have hjk : j * dK d + dK d ≤ ptrs * dK d := by have := Nat.mul_le_mul_right (dK d) (show j + 1 ≤ ptrs by omega); rw [Nat.add_mul] at this; omega
          have hwr : IntKind.i64.wrap (d : Int) = (d : Int) := by rw [IntKind.wrap_i64]; omega
          have HC := Lib.hid (HNN.out R (n + 3 * k + j * dK d) wr.drew (by exact HPK2.out.1.below ⟨rfl, rfl, rfl, Nat.le_refl _, fun _ _ => rfl⟩) (by omega))
          unfold NdP at HC
          clear hpk hrow hnr HS HP hql
          go_wp2_with fail
          go_region_law (first | (refine step_append_nd rfl (.tmp 30) (.tmp 35) rfl (w.heap.size + 2) v q.length (rowOf q) (by simp [Act.eval]) (HO2.out.1.alloc _) ⟨w2.heap.size, 0, none⟩ 1 (y, hy) (by simp [Act.eval]) (cells_six_new w2 (y, hy) _) hq1000 (by simp; omega) ?_; intro A4 c4 w4 hown4 hgrow4 hat4; have hx4 := (hgrow4.out.block (w.heap.size + 1) (by simp; omega) (fun e => by have := (HO2.out.1.lt _ e.symm).1; omega)).trans ((Below.heap_alloc w2 _ (w.heap.size + 1) (by omega)).trans HX2.out); have qf4 := row_free hx4 2; obtain ⟨r0, r1, r2, r3, r4, r5⟩ := cells6 hx4) | (go_simp; go_at_call 54; (with_reducible refine HC.out.mono ?_); rintro e w2 ⟨y, hy, rfl, hny, hty, hp2⟩; have hx2 := pick_rowN (w := wr.drew) HROW2.out hp2 (by omega); have HX2 := Lib.hid hx2; have HO2 := Lib.hid (NRowC.picked (w := wr.drew) HNR.out.drew hp2 (by omega)); have hsz2 : wr.heap.size ≤ w2.heap.size := hp2.2.size; obtain ⟨q0, q1, q2, q3, q4, q5⟩ := cells6 hx2; have hlt2 := row_lt hx2; have qa : ∀ o, (w2.alloc o).cell? ⟨w.heap.size + 1, 2, none⟩ = some v := fun o => (((Below.refl w2.heap.size w2).alloc (Nat.le_refl _) o).cell hlt2).trans q2))
          all_goals
            have hp3 : Picked wr R (n + 3 * k + j * dK d + dK d) w2 := ⟨hp2.1, ⟨hp2.2.os, hp2.2.tape, hp2.2.output, hp2.2.size, hp2.2.block⟩⟩
            have hbel : Below w.heap.size w2 w4 := ((Below.refl w.heap.size w2).alloc (by omega) _).grown hgrow4.out (by simp; omega) (fun k hk => by have := (HO2.out.1.lt k hk).1; omega)
            have hp4 : Picked w R (n + 3 * k + j * dK d + dK d) w4 := by
              obtain ⟨⟨a, l, c, p, hpn, hr, hc⟩, hk⟩ := HPK2.out.then hp3
              exact ⟨⟨a, l, c, p, hpn, (hbel.block R hRw).trans hr, hc.keeps (R := w.heap.size) (Keeps.of_below hbel) (Nat.le_of_lt hRw) (Nat.le_of_lt hRw)⟩, ⟨hbel.os.trans hk.os, hbel.tape.trans hk.tape, hbel.output.trans hk.output, Nat.le_trans hk.size hbel.size, fun k hk1 hk2 => (hbel.block k hk1).trans (hk.block k hk1 hk2)⟩⟩
            have hnx := (HO2.out.alloc _).next (hny.belowC ((Below.refl w2.heap.size w2).alloc (Nat.le_refl _) _)) hty.1 (show w.heap.size + 2 ≤ (wr.drew).heap.size from hsz) (fun k hk => (HNR.out.1.lt k hk).2) hown4.out hgrow4.out hat4.out
            have HS5 : Hid (∃ (v' : Value) (q' : List (Nd × Hd)), (w4.setCell ⟨w.heap.size + 1, 2, none⟩ (.slice A4 (q.length + 1) c4)).heap[w.heap.size + 1]? = some (.cells #[.int .i64 1, .string dd, v', .int .i64 0, .int .i64 0, .slice none 0 0] nodeT (0, 0)) ∧ q'.length = j + 1 ∧ NRowC (w4.setCell ⟨w.heap.size + 1, 2, none⟩ (.slice A4 (q.length + 1) c4)) (w.heap.size + 2) v' q' (2 * d) (dT d)) := Lib.hid ⟨_, _, row_setN hx4 2 _, by have := HQL.out; simp; omega, hnx.store (by omega)⟩
            have HZ5 := Lib.hid ((Below.heap_setCell w4 ⟨w.heap.size + 1, 2, none⟩ (.slice A4 (q.length + 1) c4) w.heap.size (by simp)).trans ((hgrow4.out.block w.heap.size (by simp; omega) (fun e => by have := (HO2.out.1.lt _ e.symm).1; omega)).trans ((Below.heap_alloc w2 _ w.heap.size (by omega)).trans (pick_rowN (w := wr) HZ.out hp3 (by omega)))))
            have HP5 : Hid (Picked w R (n + 3 * k + (j + 1) * dK d) (w4.setCell ⟨w.heap.size + 1, 2, none⟩ (.slice A4 (q.length + 1) c4)) ∧ w.heap.size + 2 ≤ (w4.setCell ⟨w.heap.size + 1, 2, none⟩ (.slice A4 (q.length + 1) c4)).heap.size) := Lib.hid ⟨(picked_storeN hp4 hRw (b := w.heap.size + 1) (by omega) 2 _).mono (by rw [Nat.add_mul]; omega), by have := hbel.size; simp [World.setCell]; omega⟩
            clear hp2 hp3 hp4 hbel hnx hx4 hx2 hown4 hgrow4 hat4 q0 q1 q2 q3 q4 q5 r0 r1 r2 r3 r4 r5 qf4 qa hlt2 hny hty
            go_wp2
            go_roundw
            case rel => exact ⟨j + 1, by go_num, by omega, HS5, HZ5, HP5⟩
            case measure => simp [intOf]; omega
        · obtain rfl : j = ptrs := by omega
          obtain ⟨A, cap, hv, hnds, htot⟩ := hnr.nds (by omega)
          subst hv
          have HND := Lib.hid hnds
          have HTOT := Lib.hid htot
          have HROW3 := Lib.hid hrow
          have HPK3 := Lib.hid hpk
          obtain ⟨c0, c1, c2, c3, c4, c5⟩ := cells6 hrow
          have hz0 : ∀ k, wr.cell? ⟨w.heap.size, k, none⟩ = (#[.int .i64 0, .string { data := #[] }, .slice none 0 0, .int .i64 0, .int .i64 0, .slice none 0 0] : Array Value)[k]? := fun k => cell_of_row _ _ _ _ _ _ HZ.out
          have hzf := row_free HZ.out
          clear hnr hnds htot hrow hpk HS HP hql hlt hi
          go_wp2_with fail
          obtain ⟨wf, hwf, hrw, hpw, huw⟩ := store6 (w1 := wr) (b := w.heap.size) HZ.out HPK3.out hRw (Nat.le_refl _) (.int .i64 1) (.string dd) (.slice A q.length cap) (.int .i64 0) (.int .i64 0) (.slice none 0 0)
          rw [hwf]
          obtain ⟨e0, e1, e2, e3, e4, e5⟩ := cells6 hrw
          exact bodyPost_ret (v := .agg #[.int .i64 1, .string dd, .slice A q.length cap, .int .i64 0, .int .i64 0, .slice none 0 0])
            (by simp [results, Try.results74, go_sem, e0, e1, e2, e3, e4, e5]) rfl
            ⟨.mk 1 dd (q.map (·.1)) 0 0 [], ⟨A, cap, none, 0⟩, by show _ = Ending.returned (.agg #[.int .i64 1, .string dd, .slice A (q.map (·.1)).length cap, .int .i64 0, .int .i64 0, .slice none 0 0]); rw [List.length_map], ⟨by show dd.size ≤ maxLen; unfold maxLen; omega, ((HND.out.fromC (by omega)).uponC huw).fromC (by omega), NdsAt.nil _ _ _ _⟩, ⟨by
              have h1 := HTOT.out
              rw [HQL.out] at h1
              show dd.size + totL (2 * d + 1) (q.map (·.1)) + totL (2 * d + 1) [] ≤ _
              have h2 : totL (2 * d + 1) [] = 0 := rfl
              have h3 := HDS.out
              omega, SB.small (by show dd.size ≤ 1100; have h3 := HDS.out; omega) (show (0 : Nat) ≤ 1000 by decide)⟩, hpw.mono (by omega)⟩
end Go.Proofs.Ytbhmklbdfmgmlaa
