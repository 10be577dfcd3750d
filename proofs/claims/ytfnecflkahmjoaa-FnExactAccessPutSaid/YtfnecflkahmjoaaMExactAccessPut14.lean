/- Texts of the proof of the law FnExactAccessPut, side by side: part 14. -/
import Derived.Test.YtfnecflkahmjoaaMExactAccessPut13
set_option maxHeartbeats 8000000
set_option maxRecDepth 100000
namespace Go.Proofs.Ytfnecflkahmjoaa
open Go.RowKit
theorem mem_ptrs {n p : Nd} (h : p ∈ n.ptrs) : p ∈ ptrsL n := List.mem_append_left _ h
theorem mem_items {n y p : Nd} (h : y ∈ n.items) (hp : p ∈ y.ptrs) : p ∈ ptrsL n := List.mem_append_right _ (List.mem_flatMap.2 ⟨y, h, hp⟩)
theorem sum_flat (l : List Nd) (f : Nd → Nat) : ((l.flatMap Nd.ptrs).map f).sum = (l.map fun y => (y.ptrs.map f).sum).sum := by
 induction l with
 | nil => rfl
 | cons a t ih => rw [List.flatMap_cons, List.map_append, List.sum_append, ih]; rfl
theorem sum_ptrs (n : Nd) (f : Nd → Nat) : ((ptrsL n).map f).sum = (n.ptrs.map f).sum + (n.items.map fun y => (y.ptrs.map f).sum).sum := by
 unfold ptrsL
 rw [List.map_append, List.sum_append, sum_flat]
theorem tot_ptrs2 {w : World} {S : Nat → Prop} {m : Nat} {n : Nd} {h : Hd} (hn : NdAt w S m n h) : totL m (ptrsL n) + n.data.size + (n.items.map fun y => y.data.size).sum ≤ totN m n := by
 cases m with
 | zero =>
  rw [hn.2.2.zero]
  unfold totN
  simp only [List.map_nil, List.sum_nil]
  show 0 + _ + 0 ≤ _
  omega
 | succ m =>
  have h1 : totL (m + 1) (ptrsL n) = totL (m + 1) n.ptrs + (n.items.map fun y => totL (m + 1) y.ptrs).sum := by
   unfold ptrsL
   rw [totL_succ, List.map_append, List.sum_append, ← totL_succ, ← totL_succ, flat_tot]
  have h2 : (n.items.map fun y => totL (m + 1) y.ptrs + y.data.size).sum ≤ totL (m + 1) n.items := by
   rw [totL_succ]
   refine sum_le _ _ _ fun y hy => ?_
   obtain ⟨hd, h3⟩ := hn.2.2.mem y hy
   rw [totL_eq m _ _ h3.2.1]
   unfold totN
   omega
  have h4 : ∀ l : List Nd, (l.map fun y => totL (m + 1) y.ptrs + y.data.size).sum = (l.map fun y => totL (m + 1) y.ptrs).sum + (l.map fun y => y.data.size).sum := by
   intro l
   induction l with
   | nil => rfl
   | cons a t ih => simp only [List.map_cons, List.sum_cons, ih]; omega
  rw [h4] at h2
  rw [h1]
  unfold totN
  omega
theorem own_le2 (n : Nd) : ownN n ≤ n.data.size + (n.items.map fun y => y.data.size).sum + (ptrsL n).length + 1 := by
 have h1 : ownB n ≤ n.data.size + n.ptrs.length := by unfold ownB; omega
 have h2 : ∀ l : List Nd, (l.map ownB).sum ≤ (l.map fun y => y.data.size).sum + (l.flatMap Nd.ptrs).length := by
  intro l
  induction l with
  | nil => simp
  | cons a t ih =>
   have : ownB a ≤ a.data.size + a.ptrs.length := by unfold ownB; omega
   simp only [List.map_cons, List.sum_cons, List.flatMap_cons, List.length_append]
   omega
 have h3 := h2 n.items
 unfold ownN ptrsL
 rw [List.length_append]
 split <;> omega
theorem words_bound {w : World} {S : Nat → Prop} : ∀ (d m : Nat) (n : Nd) (h : Hd), NdAt w S m n h → okN d n = true → wordsN d n ≤ 2 * totN m n + 1 := by
 intro d
 induction d with
 | zero => intro m n h hn hok; exact Nat.zero_le _
 | succ d ih =>
  intro m n h hn hok
  obtain ⟨hf, hk⟩ := ok_kids hok
  have h1 := own_le2 n
  have h2 := tot_ptrs2 hn
  have h3 : ((ptrsL n).map (wordsN d)).sum + (ptrsL n).length ≤ 2 * totL m (ptrsL n) := by
   cases m with
   | zero =>
    have : ptrsL n = [] := by unfold ptrsL; rw [hn.2.1.zero, hn.2.2.zero]; rfl
    rw [this]; simp
   | succ m =>
    have hmem : ∀ p ∈ ptrsL n, ∃ hp : Hd, NdAt w S m p hp := by
     intro p hp
     unfold ptrsL at hp
     rcases List.mem_append.1 hp with hp | hp
     · exact hn.2.1.mem p hp
     · obtain ⟨y, hy, hpy⟩ := List.mem_flatMap.1 hp
       obtain ⟨hd, hyn⟩ := hn.2.2.mem y hy
       obtain ⟨j, rfl⟩ : ∃ j, m = j + 1 := by
        cases m with
        | zero => rw [hyn.2.1.zero] at hpy; cases hpy
        | succ j => exact ⟨j, rfl⟩
       obtain ⟨hd2, h4⟩ := hyn.2.1.mem p hpy
       exact ⟨hd2, h4.mono (by omega)⟩
    have h5 : ((ptrsL n).map fun p => wordsN d p + 1).sum ≤ ((ptrsL n).map fun p => 2 * (1 + totN m p)).sum := sum_le _ _ _ fun p hp => by
     obtain ⟨hd2, h6⟩ := hmem p hp
     have := ih m p hd2 h6 (hk p hp)
     omega
    have h7 : ∀ l : List Nd, (l.map fun p => wordsN d p + 1).sum = (l.map (wordsN d)).sum + l.length := by
     intro l
     induction l with
     | nil => rfl
     | cons a t ih => simp only [List.map_cons, List.sum_cons, List.length_cons, ih]; omega
    have h8 : ∀ l : List Nd, (l.map fun p => 2 * (1 + totN m p)).sum = 2 * (l.map fun p => 1 + totN m p).sum := by
     intro l
     induction l with
     | nil => rfl
     | cons a t ih => simp only [List.map_cons, List.sum_cons, ih]; omega
    rw [h7, h8, ← totL_succ] at h5
    exact h5
  show ownN n + _ ≤ _
  omega
def L4W (d : Nat) : Prop := ∀ (m : Nat) (n : Nd) (h : Hd) (w : World) (S : Nat → Prop), NdAt w S m n h → totN m n ≤ 2000000 → okN d n = true →
 Calls Try.prog 43 #[.agg #[.int .i64 n.kind, .string n.data, .slice h.A n.ptrs.length h.a, .int .i64 n.size, .int .i64 n.count, .slice h.B n.items.length h.b]] w fun e w' => e = .returned (.int .i64 (wordsN d n : Nat)) ∧ Below w.heap.size w w'
theorem l4Words_step (d : Nat) (ih : ∀ j, d = j + 1 → L4W j) : L4W d := by
 intro m n h w S hn ht hok
 have hbd := words_bound d m n h hn hok
 obtain ⟨qA, qa, qB, qb⟩ := h
 dsimp only at hn ⊢
 have hpl : n.ptrs.length ≤ 2000000 := totL_len' hn.2.1 (by unfold totN at ht; omega)
 have hil : n.items.length ≤ 2000000 := totL_len' hn.2.2 (by unfold totN at ht; omega)
 have hf := (ok_kids hok).1
 have hob := own_bound hn ht
 have HN := Lib.hid hn
 have HT := Lib.hid ht
 have hba := (Below.refl w.heap.size w).alloc (Nat.le_refl _) (.cells #[.int .i64 n.kind, .string n.data, .slice qA n.ptrs.length qa, .int .i64 n.size, .int .i64 n.count, .slice qB n.items.length qb] nodeT)
 have hr := heap_alloc_new w (.cells #[.int .i64 n.kind, .string n.data, .slice qA n.ptrs.length qa, .int .i64 n.size, .int .i64 n.count, .slice qB n.items.length qb] nodeT)
 have hsz : w.heap.size < (w.alloc (.cells #[.int .i64 n.kind, .string n.data, .slice qA n.ptrs.length qa, .int .i64 n.size, .int .i64 n.count, .slice qB n.items.length qb] nodeT)).heap.size := by simp
 have HOW := Lib.hid (l4Own_a m n ⟨qA, qa, qB, qb⟩ _ S (hn.below hba) hf ht)
 dsimp only at HOW
 have HBA := Lib.hid hba
 have HR := Lib.hid hr
 have HTOT : Hid (wordsN d n = ownN n + (n.ptrs.map (wordsN (d - 1))).sum + (n.items.map fun y => (y.ptrs.map (wordsN (d - 1))).sum).sum) := Lib.hid (by rw [words_kids hok, sum_ptrs]; omega)
 have HKID : Hid (∀ p ∈ ptrsL n, ∀ (m' : Nat) (hp : Hd) (W : World), NdAt W S m' p hp → totN m' p ≤ 2000000 → Calls Try.prog 43 #[.agg #[.int .i64 p.kind, .string p.data, .slice hp.A p.ptrs.length hp.a, .int .i64 p.size, .int .i64 p.count, .slice hp.B p.items.length hp.b]] W fun e w' => e = .returned (.int .i64 (wordsN (d - 1) p : Nat)) ∧ Below W.heap.size W w') := Lib.hid fun p hp m' h' W h1 h2 => by
  cases d with
  | zero =>
   have h3 := words_kids hok
   have h4 := ptrs_own n
   have h5 : (ptrsL n).length ≠ 0 := by intro h; rw [nil_of_len h] at hp; cases hp
   simp only [wordsN] at h3
   omega
  | succ j => exact ih j rfl m' p h' W S h1 h2 ((ok_kids hok).2 p hp)
 have htb : wordsN d n ≤ 4000001 := by omega
 clear hn ht hok hf ih hbd hba hr
 generalize wordsN d n = tt at *
 generalize ownN n = s0 at *
 have HS0 : Hid ((s0 : Int) = ((s0 : Nat) : Int)) := Lib.hid rfl
 go_enter Try.func43, Try.ntmps43
 go_wp2_with fail
 refine HOW.out.mono ?_
 rintro e w1 ⟨rfl, hb1⟩
 have hr1 := (hb1.block w.heap.size hsz).trans HR.out
 have HR1 := Lib.hid hr1
 have HB1 := Lib.hid (HBA.out.trans (hb1.mono HBA.out.size))
 obtain ⟨a0, a1, a2, a3, a4, a5⟩ := cells6 hr1
 clear hr1 hb1
 go_wp2
 go_loopw [3, 4] (fun u i wr => ∃ (k : Nat) (z : Int), u = .int .i64 z ∧ i = .int .i64 k ∧ k ≤ n.ptrs.length ∧ 0 ≤ z ∧ z ≤ 4000001 ∧ Hid (z = ((s0 + ((n.ptrs.take k).map (wordsN (d - 1))).sum : Nat) : Int)) ∧ Hid (Below w.heap.size w wr ∧ wr.heap[w.heap.size]? = some (.cells #[.int .i64 n.kind, .string n.data, .slice qA n.ptrs.length qa, .int .i64 n.size, .int .i64 n.count, .slice qB n.items.length qb] nodeT (0, 0)))) (fun _ i _ => n.ptrs.length - (intOf i).toNat)
 case atStart => exact ⟨0, _, rfl, rfl, by omega, by have := HS0.out; omega, by have := HS0.out; omega, Lib.hid (by rw [List.take_zero, List.map_nil, List.sum_nil]; have := HS0.out; omega), Lib.hid ⟨HB1.out, HR1.out⟩⟩
 case round =>
  obtain ⟨k, z, rfl, rfl, hk, hz0, hz1, HZ, HB⟩ := hrel
  obtain ⟨hbr, hrr⟩ := HB.out
  clear a0 a1 a2 a3 a4 a5
  obtain ⟨a0, a1, a2, a3, a4, a5⟩ := cells6 hrr
  by_cases hlt : k < n.ptrs.length
  · obtain ⟨m', rfl⟩ := HN.out.2.1.pred hlt
    obtain ⟨x, yA, ya, yB, yb, rfl, hc0, hdy, hny, hniy⟩ := HN.out.2.1.at6 hlt
    have hc := cell_below hbr _ _ _ hc0
    have HST := Lib.hid (sum_take_succ n.ptrs (wordsN (d - 1)) k hlt)
    have HSL := Lib.hid (sum_take_le n.ptrs (wordsN (d - 1)) (k + 1))
    have htp : totN m' n.ptrs[k] ≤ 2000000 := by have := totL_at (m := m') hlt; have := HT.out; unfold totN at this; omega
    have HC := Lib.hid (HKID.out _ (mem_ptrs (List.getElem_mem hlt)) m' ⟨yA, ya, yB, yb⟩ wr (NdAt.below ⟨hdy, hny, hniy⟩ hbr) htp)
    dsimp only at HC
    generalize n.ptrs[k] = y at hc HST HC
    have hzv : z + ((wordsN (d - 1)) y : Nat) ≤ 4000001 := by have := HZ.out; have := HST.out; have := HSL.out; have := HTOT.out; omega
    obtain ⟨c0, c1, c2, c3, c4, c5⟩ := hc
    dsimp only at c2 c5
    have HBR := Lib.hid hbr
    have HRR := Lib.hid hrr
    clear hbr hrr hc0 hdy hny hniy htp HB
    generalize (wordsN (d - 1)) y = v at *
    go_wp2_with fail
    refine HC.out.mono ?_
    rintro e w3 ⟨rfl, hb3⟩
    have HB3 := Lib.hid (And.intro (HBR.out.trans (hb3.mono HBR.out.size)) ((hb3.block w.heap.size (row_lt HRR.out)).trans HRR.out))
    clear hb3
    go_wp2
    go_roundw
    case rel => exact ⟨k + 1, _, rfl, by go_num, by omega, by omega, hzv, Lib.hid (by rw [HZ.out, HST.out]; omega), HB3⟩
    case measure => simp [intOf]; omega
  · obtain rfl : k = n.ptrs.length := by omega
    rw [List.take_of_length_le (Nat.le_refl _)] at HZ
    have HBR := Lib.hid hbr
    have HRR := Lib.hid hrr
    have HZP := HZ
    have hzp0 := hz0
    have hzp1 := hz1
    clear hbr hrr HB HZ
    go_wp2
    go_loopw [3, 5] (fun u i wr => ∃ (k : Nat) (z : Int), u = .int .i64 z ∧ i = .int .i64 k ∧ k ≤ n.items.length ∧ 0 ≤ z ∧ z ≤ 4000001 ∧ Hid (z = ((s0 + (n.ptrs.map (wordsN (d - 1))).sum + ((n.items.take k).map fun y => (y.ptrs.map (wordsN (d - 1))).sum).sum : Nat) : Int)) ∧ Hid (Below w.heap.size w wr ∧ wr.heap[w.heap.size]? = some (.cells #[.int .i64 n.kind, .string n.data, .slice qA n.ptrs.length qa, .int .i64 n.size, .int .i64 n.count, .slice qB n.items.length qb] nodeT (0, 0)))) (fun _ i _ => n.items.length - (intOf i).toNat)
    case atStart => exact ⟨0, _, rfl, rfl, by omega, hzp0, hzp1, Lib.hid (by rw [HZP.out]; simp), Lib.hid ⟨HBR.out, HRR.out⟩⟩
    case round =>
     clear hz0 hz1 hzp0 hzp1
     obtain ⟨k, z, rfl, rfl, hk, hz0, hz1, HZ, HB⟩ := hrel
     obtain ⟨hbr, hrr⟩ := HB.out
     clear a0 a1 a2 a3 a4 a5
     obtain ⟨a0, a1, a2, a3, a4, a5⟩ := cells6 hrr
     by_cases hlt : k < n.items.length
     · obtain ⟨m', rfl⟩ := HN.out.2.2.pred hlt
       obtain ⟨x, yA, ya, yB, yb, rfl, hc0, hdy, hny, hniy⟩ := HN.out.2.2.at6 hlt
       have HSTI := Lib.hid (sum_take_succ n.items (fun y => (y.ptrs.map (wordsN (d - 1))).sum) k hlt)
       have HSLI := Lib.hid (sum_take_le n.items (fun y => (y.ptrs.map (wordsN (d - 1))).sum) (k + 1))
       have HTP : Hid (totL m' (n.items[k]).ptrs ≤ 2000000) := Lib.hid (by have := totL_at (m := m') hlt; have := HT.out; unfold totN at *; omega)
       have hypl : (n.items[k]).ptrs.length ≤ 2000000 := totL_len' hny HTP.out
       have HMY := Lib.hid (fun p hp => HKID.out p (mem_items (List.getElem_mem hlt) hp))
       generalize n.items[k] = y at hc0 HSTI hny HTP hypl HMY
       have HC0 := Lib.hid hc0
       have HNY := Lib.hid hny
       have HBR := Lib.hid hbr
       have HRR := Lib.hid hrr
       have hzi0 := hz0
       have hzi1 := hz1
       clear hbr hrr hc0 hdy hny hniy HB
       go_wp2
       clear a0 a1 a2 a3 a4 a5
       go_loopw [3, 6] (fun u i wr => ∃ (q : Nat) (z : Int), u = .int .i64 z ∧ i = .int .i64 q ∧ q ≤ y.ptrs.length ∧ 0 ≤ z ∧ z ≤ 4000001 ∧ Hid (z = ((s0 + (n.ptrs.map (wordsN (d - 1))).sum + ((n.items.take k).map fun y => (y.ptrs.map (wordsN (d - 1))).sum).sum + ((y.ptrs.take q).map (wordsN (d - 1))).sum : Nat) : Int)) ∧ Hid (Below w.heap.size w wr ∧ wr.heap[w.heap.size]? = some (.cells #[.int .i64 n.kind, .string n.data, .slice qA n.ptrs.length qa, .int .i64 n.size, .int .i64 n.count, .slice (some x) n.items.length qb] nodeT (0, 0)))) (fun _ i _ => y.ptrs.length - (intOf i).toNat)
       case atStart => exact ⟨0, _, rfl, rfl, by omega, hzi0, hzi1, Lib.hid (by rw [HZ.out]; simp), Lib.hid ⟨HBR.out, HRR.out⟩⟩
       case round =>
        clear hz0 hz1 hzi0 hzi1
        obtain ⟨q, z, rfl, rfl, hq, hz0, hz1, HZQ, HB⟩ := hrel
        obtain ⟨hbr, hrr⟩ := HB.out
        obtain ⟨a0, a1, a2, a3, a4, a5⟩ := cells6 hrr
        have hc := cell_below hbr _ _ _ HC0.out
        obtain ⟨-, -, d2, -, -, -⟩ := hc
        dsimp only at d2
        by_cases hqt : q < y.ptrs.length
        · obtain ⟨m'', rfl⟩ := HNY.out.pred hqt
          obtain ⟨x2, zA, za, zB, zb, rfl, hc2, hdz, hnz, hniz⟩ := HNY.out.at6 hqt
          have hcz := cell_below hbr _ _ _ hc2
          have HST := Lib.hid (sum_take_succ y.ptrs (wordsN (d - 1)) q hqt)
          have HSL := Lib.hid (sum_take_le y.ptrs (wordsN (d - 1)) (q + 1))
          have htp : totN m'' y.ptrs[q] ≤ 2000000 := by have := totL_at (m := m'') hqt; have := HTP.out; omega
          have HC := Lib.hid (HMY.out _ (List.getElem_mem hqt) m'' ⟨zA, za, zB, zb⟩ wr (NdAt.below ⟨hdz, hnz, hniz⟩ hbr) htp)
          dsimp only at HC
          generalize y.ptrs[q] = t at hcz HST HC
          have hzv : z + ((wordsN (d - 1)) t : Nat) ≤ 4000001 := by have := HZQ.out; have := HST.out; have := HSL.out; have := HTOT.out; have := HSTI.out; have := HSLI.out; omega
          obtain ⟨c0, c1, c2, c3, c4, c5⟩ := hcz
          dsimp only at c2 c5
          have HBR := Lib.hid hbr
          have HRR := Lib.hid hrr
          clear hbr hrr hc2 hdz hnz hniz htp HB
          generalize (wordsN (d - 1)) t = v at *
          go_wp2_with fail
          refine HC.out.mono ?_
          rintro e w3 ⟨rfl, hb3⟩
          have HB3 := Lib.hid (And.intro (HBR.out.trans (hb3.mono HBR.out.size)) ((hb3.block w.heap.size (row_lt HRR.out)).trans HRR.out))
          clear hb3
          go_wp2
          go_roundw
          case rel => exact ⟨q + 1, _, rfl, by go_num, by omega, by omega, hzv, Lib.hid (by rw [HZQ.out, HST.out]; omega), HB3⟩
          case measure => simp [intOf]; omega
        · obtain rfl : q = y.ptrs.length := by omega
          rw [List.take_of_length_le (Nat.le_refl _)] at HZQ
          have HZ2 : Hid (z = ((s0 + (n.ptrs.map (wordsN (d - 1))).sum + ((n.items.take (k + 1)).map fun y => (y.ptrs.map (wordsN (d - 1))).sum).sum : Nat) : Int)) := Lib.hid (by rw [HZQ.out, HSTI.out]; omega)
          have HBB := Lib.hid (And.intro hbr hrr)
          clear hbr hrr HB
          go_wp2
          go_roundw
          case rel => exact ⟨k + 1, _, rfl, by go_num, by omega, hz0, hz1, HZ2, HBB⟩
          case measure => simp [intOf]; omega
     · obtain rfl : k = n.items.length := by omega
       rw [List.take_of_length_le (Nat.le_refl _)] at HZ
       have HBR := Lib.hid hbr
       clear hbr hrr HB
       go_wp2
       go_ret
       exact ⟨by rw [HTOT.out, HZ.out]; rfl, HBR.out⟩
theorem l4Words_any : ∀ d, L4W d
 | 0 => l4Words_step 0 (fun j hj => by omega)
 | d + 1 => l4Words_step (d + 1) (fun j hj => by
   obtain rfl : d = j := by omega
   exact l4Words_any d)
theorem specNodeOk_a (m : Nat) (n : Nd) (h : Hd) (w : World) (S : Nat → Prop) (hn : NdAt w S m n h) (ht : totN m n ≤ 2000000) :
 Calls Try.prog 21 #[.agg #[.int .i64 n.kind, .string n.data, .slice h.A n.ptrs.length h.a, .int .i64 n.size, .int .i64 n.count, .slice h.B n.items.length h.b]] w fun e w' => e = .returned (.bool (nodeOk n)) ∧ Below w.heap.size w w' := by
 have hb0 := (Below.refl w.heap.size w).alloc (Nat.le_refl _) (.cells #[.int .i64 n.kind, .string n.data, .slice h.A n.ptrs.length h.a, .int .i64 n.size, .int .i64 n.count, .slice h.B n.items.length h.b] nodeT)
 have HB0 := Lib.hid hb0
 have HBX := Lib.hid (heap_alloc_new w (.cells #[.int .i64 n.kind, .string n.data, .slice h.A n.ptrs.length h.a, .int .i64 n.size, .int .i64 n.count, .slice h.B n.items.length h.b] nodeT))
 have HO := Lib.hid (l4Ok_any 8 (by decide) m n h _ S (hn.below hb0) ht)
 rw [show (((8 : Nat)) : Int) = 8 from rfl] at HO
 have HWO : Hid (okN 8 n = true → ∀ W : World, Below w.heap.size w W → Calls Try.prog 43 #[.agg #[.int .i64 n.kind, .string n.data, .slice h.A n.ptrs.length h.a, .int .i64 n.size, .int .i64 n.count, .slice h.B n.items.length h.b]] W fun e w' => e = .returned (.int .i64 (wordsN 8 n : Nat)) ∧ Below W.heap.size W w') := Lib.hid fun hok W hb => l4Words_any 8 m n h W S (hn.below hb) ht hok
 clear hn ht hb0
 cases hok : okN 8 n
 · have HX : Hid (nodeOk n = false) := Lib.hid (by unfold nodeOk; rw [hok]; rfl)
   rw [hok] at HO
   clear hok
   go_enter Try.func21, Try.ntmps21
   go_wp2_with fail
   refine HO.out.mono ?_
   rintro e w2 ⟨rfl, hb2⟩
   have HB2 := Lib.hid (HB0.out.trans (hb2.mono HB0.out.size))
   clear hb2
   go_wp2
   go_ret
   exact ⟨by rw [HX.out]; rfl, HB2.out⟩
 · have HX : Hid (nodeOk n = decide (((wordsN 8 n : Nat) : Int) < 200)) := Lib.hid (by unfold nodeOk; rw [hok, Bool.true_and, Bool.eq_iff_iff]; simp only [decide_eq_true_eq]; omega)
   have HC := Lib.hid (HWO.out hok)
   rw [hok] at HO
   clear HWO hok
   generalize wordsN 8 n = wd at *
   go_enter Try.func21, Try.ntmps21
   go_wp2_with fail
   refine HO.out.mono ?_
   rintro e w2 ⟨rfl, hb2⟩
   obtain ⟨a0, a1, a2, a3, a4, a5⟩ := cells6 ((hb2.block w.heap.size (by simp)).trans HBX.out)
   have HB2 := Lib.hid (HB0.out.trans (hb2.mono HB0.out.size))
   clear hb2
   go_wp2_with fail
   refine (HC.out _ HB2.out).mono ?_
   rintro e w3 ⟨rfl, hb3⟩
   have HB3 := Lib.hid (HB2.out.trans (hb3.mono HB2.out.size))
   clear hb3
   go_wp2
   go_ret
   exact ⟨by rw [HX.out]; rfl, HB3.out⟩
theorem l1Bytes_str (n : Int) (k : Nat) (hk : k ≤ 8) (w : World) :
 Calls Try.prog 56 #[.int .i64 n, .int .i64 k] w fun e w' => e = .returned (.string ⟨(leB n k).toArray⟩) ∧ Below w.heap.size w w' :=
 l1Bytes_any n k w (by omega) (by omega)
theorem specPut_yes (s : ByteArray) (a z : Nat) (n : Int) (w : World) (hs : s.size ≤ maxLen) (hw : wordsB s.size = true) (hz : z = 1 ∨ z = 2 ∨ z = 4 ∨ z = 8) (hf : fitsB n z = true) (hm : (a : Int) % z = 0) (hin : a + z ≤ s.size) :
 Calls Try.prog 32 #[.string s, .int .i64 a, .int .i64 z, .int .i64 n] w fun e w' =>
  e = .returned (.tuple #[.string ⟨(putL s.data.toList a (leB n z)).toArray⟩, .bool true]) ∧ Below w.heap.size w w' := by
 have hfin := put_string s a (leB n z) z (leB_length n z) hin
 rw [← hfin]
 clear hfin
 have hs' := hs
 unfold maxLen at hs'
 have hz8 : z ≤ 8 := by omega
 have hsb : sizeB z = true := by simp [sizeB]; omega
 have hgt : (a : Int) ≤ (s.size : Int) - z := by omega
 have hm0 : ((a : Int) % z != 0) = false := by rw [hm]; rfl
 have hz1 : 1 ≤ z := by omega
 have HM := Lib.hid hm
 have hzz : (z : Int) = 1 ∨ (z : Int) = 2 ∨ (z : Int) = 4 ∨ (z : Int) = 8 := by omega
 have HZ := Lib.hid hzz
 have e1 : IntKind.i64.wrap ((a : Int) + z) = (a : Int) + z := by rw [IntKind.wrap_i64]; omega
 have e2 : (0 : Int) ≤ (a : Int) := by omega
 have e3 : (a : Int) ≤ (s.size : Int) := by omega
 have e6 : (0 : Int) ≤ (a : Int) + z := by omega
 have e7 : (a : Int) + z ≤ (s.size : Int) := by omega
 have e8 : ((a : Int) + z).toNat = a + z := by omega
 have em : min a s.size = a := by omega
 have hbl := leB_length n z
 have f1 : ¬ 9223372036854775807 < a + z := by omega
 have f3 : ¬ 9223372036854775807 < s.size := by omega
 have f2 : ¬ 9223372036854775807 < a + z + (s.size - (a + z)) := by omega
 clear hzz hz hm
 go_enter Try.func32, Try.ntmps32
 go_wp2_with (first | (go_at_call 44; refine (l1Ok_any _ _ hs).mono ?_; rintro e w' ⟨rfl, rfl⟩) | (go_at_call 40; refine (l1Size_any _ _).mono ?_; rintro e w' ⟨rfl, rfl⟩) | (go_at_call 35; refine (l1Fits_any _ _ _ HZ.out).mono ?_; rintro e w' ⟨rfl, rfl⟩))
 go_region_law (first | (go_simp; go_at_call 56; refine (l1Bytes_str n z hz8 _).mono ?_; rintro e w5 ⟨rfl, hb5⟩))
 all_goals
  clear e1 e2 e3 e6 e7 e8 em f1 f2 f3 hm0
  have hB : Hid (Below w.heap.size w w5) := ((Below.refl w.heap.size w).drew).trans (hb5.mono (by simp))
  clear hb5
  go_wp2
  go_ret2
  exact ⟨rfl, hB.out⟩
theorem specPut_any (s : ByteArray) (at_ size n : Int) (w : World) (hs : s.size ≤ maxLen) (hr : -9223372036854775808 ≤ size ∧ size ≤ 9223372036854775807) :
 Calls Try.prog 32 #[.string s, .int .i64 at_, .int .i64 size, .int .i64 n] w fun e w' =>
  e = .returned (.tuple #[.string ⟨(putT s.data.toList at_ size n).toArray⟩, .bool (putB s.data.toList at_ size n)]) ∧ Below w.heap.size w w' := by
 have hsl : s.data.toList.length = s.size := by simp
 have hs' := hs
 unfold maxLen at hs'
 cases hw : wordsB s.size
 · have hT : putT s.data.toList at_ size n = [] := by rw [putT, hsl, hw, if_neg (by simp)]
   have hB : putB s.data.toList at_ size n = false := by rw [putB, hsl, hw, Bool.false_and]
   rw [hT, hB]
   clear hT hB hsl
   go_enter Try.func32, Try.ntmps32
   go_wp2_with (first | (go_at_call 44; refine (l1Ok_any _ _ hs).mono ?_; rintro e w' ⟨rfl, rfl⟩))
   go_ret2
   exact ⟨rfl, Below.refl _ _⟩
 have hw8 : s.size % 8 = 0 ∧ s.size ≤ 1600 := by simpa [wordsB] using hw
 obtain ⟨hw1, hw2⟩ := hw8
 have hp := placeB_eq at_ size
 by_cases hok : putOk s.data.toList at_ size n = true
 · have hT : putT s.data.toList at_ size n = putL s.data.toList at_.toNat (leB n size.toNat) := by rw [putT, hsl, hw, hok, if_pos rfl, if_pos rfl]
   have hB : putB s.data.toList at_ size n = true := by rw [putB, hsl, hw, hok]; rfl
   have hk : placeB at_ size = true ∧ at_ < s.size ∧ fitsB n size = true := by simpa [putOk] using hok
   obtain ⟨k1, k2, k3⟩ := hk
   have hp' : 0 ≤ at_ ∧ at_ ≤ 1600 ∧ ((size = 1 ∨ size = 2 ∨ size = 4 ∨ size = 8) ∧ at_ % size = 0) := by simpa [placeB] using k1
   obtain ⟨ha0, ha1, hz, hm⟩ := hp'
   obtain ⟨a, rfl⟩ := Int.eq_ofNat_of_zero_le ha0
   obtain ⟨z, rfl⟩ := Int.eq_ofNat_of_zero_le (show 0 ≤ size by omega)
   rw [hT, hB]
   exact specPut_yes s a z n w hs hw (by omega) k3 hm (by rcases hz with h | h | h | h <;> rw [h] at hm <;> omega)
 have hT : putT s.data.toList at_ size n = s.data.toList := by rw [putT, hsl, hw, if_pos rfl, if_neg hok]
 have hB : putB s.data.toList at_ size n = false := by rw [putB, Bool.eq_false_iff.2 hok, Bool.and_false]
 rw [hT, hB, ba_eta]
 clear hT hB
 have hok' : ¬ (placeB at_ size = true ∧ at_ < s.size ∧ fitsB n size = true) := by simpa [putOk] using hok
 clear hok
 cases hz : sizeB size
 · clear hp hok' hsl
   go_enter Try.func32, Try.ntmps32
   go_wp2_with (first | (go_at_call 44; refine (l1Ok_any _ _ hs).mono ?_; rintro e w' ⟨rfl, rfl⟩) | (go_at_call 40; refine (l1Size_any _ _).mono ?_; rintro e w' ⟨rfl, rfl⟩))
   go_ret2
   exact ⟨rfl, Below.refl _ _⟩
 have hz' : size = 1 ∨ size = 2 ∨ size = 4 ∨ size = 8 := by simpa [sizeB] using hz
 have h1 : 1 ≤ size := by omega
 have h8 : size ≤ 8 := by omega
 by_cases ha0 : at_ < 0
 · clear hp hok' hsl hz'
   go_enter Try.func32, Try.ntmps32
   go_wp2_with (first | (go_at_call 44; refine (l1Ok_any _ _ hs).mono ?_; rintro e w' ⟨rfl, rfl⟩) | (go_at_call 40; refine (l1Size_any _ _).mono ?_; rintro e w' ⟨rfl, rfl⟩))
   go_ret2
   exact ⟨rfl, Below.refl _ _⟩
 have ha0 : 0 ≤ at_ := by omega
 by_cases ha1 : (s.size : Int) - size < at_
 · clear hp hok' hsl hz'
   go_enter Try.func32, Try.ntmps32
   go_wp2_with (first | (go_at_call 44; refine (l1Ok_any _ _ hs).mono ?_; rintro e w' ⟨rfl, rfl⟩) | (go_at_call 40; refine (l1Size_any _ _).mono ?_; rintro e w' ⟨rfl, rfl⟩))
   go_ret2
   exact ⟨rfl, Below.refl _ _⟩
 have ha1 : at_ ≤ (s.size : Int) - size := by omega
 by_cases hm : at_ % size = 0
 · have hf : fitsB n size = false := by
    rw [Bool.eq_false_iff]
    intro hf
    refine hok' ⟨?_, by omega, hf⟩
    rw [hp, hz]
    simp [inB, hm]
    omega
   have HZ := Lib.hid hz'
   have hm0 : (at_ % size != 0) = false := by rw [hm]; rfl
   clear hp hok' hsl hz' hm
   go_enter Try.func32, Try.ntmps32
   go_wp2_with (first | (go_at_call 44; refine (l1Ok_any _ _ hs).mono ?_; rintro e w' ⟨rfl, rfl⟩) | (go_at_call 40; refine (l1Size_any _ _).mono ?_; rintro e w' ⟨rfl, rfl⟩) | (go_at_call 35; refine (l1Fits_any _ _ _ HZ.out).mono ?_; rintro e w' ⟨rfl, rfl⟩))
   go_ret2
   exact ⟨rfl, Below.refl _ _⟩
 · have hm0 : (at_ % size != 0) = true := by simpa using hm
   clear hp hok' hsl hz' hm
   go_enter Try.func32, Try.ntmps32
   go_wp2_with (first | (go_at_call 44; refine (l1Ok_any _ _ hs).mono ?_; rintro e w' ⟨rfl, rfl⟩) | (go_at_call 40; refine (l1Size_any _ _).mono ?_; rintro e w' ⟨rfl, rfl⟩))
   go_ret2
   exact ⟨rfl, Below.refl _ _⟩
open Go.RowKit Go.Deep
theorem spPut_A (nm : ByteArray) (k at_ sz tu tg pl num : Int) (m : Nat) (n : Nd) (h : Hd) (w : World) (S : Nat → Prop) (hs : nm.size ≤ maxLen) (hn : NdAt w S m n h) (htn : totN m n ≤ 2000000) (M : Nat) (hA : accB nm k at_ sz tu tg pl = false) :
 Calls Try.prog 16 #[accV nm k at_ sz tu tg pl, .agg #[.int .i64 n.kind, .string n.data, .slice h.A n.ptrs.length h.a, .int .i64 n.size, .int .i64 n.count, .slice h.B n.items.length h.b], .int .i64 num] w (NewNP M noneNd false w) := by
 have HOK := Lib.hid (fun W : World => specAccessOk_any nm k at_ sz tu tg pl W hs)
 have HNO := Lib.hid (fun (W : World) (hW : Below w.heap.size w W) => specNodeOk_a m n h W S (hn.below hW) htn)
 rw [hA] at HOK
 unfold accV at HOK ⊢
 have q0 := al_first w (.cells #[.string nm, .int .i64 k, .int .i64 at_, .int .i64 sz, .int .i64 tu, .int .i64 tg, .int .i64 pl] accT)
 have q1 := al_next q0 (.cells #[.int .i64 n.kind, .string n.data, .slice h.A n.ptrs.length h.a, .int .i64 n.size, .int .i64 n.count, .slice h.B n.items.length h.b] nodeT)
 have q2 := al_next q1 (.cells #[.int .i64 0, .string { data := #[] }, .slice none 0 0, .int .i64 0, .int .i64 0, .slice none 0 0] nodeT)
 have r0 := heap_alloc_keep (heap_alloc_keep (heap_alloc_new w (.cells #[.string nm, .int .i64 k, .int .i64 at_, .int .i64 sz, .int .i64 tu, .int .i64 tg, .int .i64 pl] accT)) (.cells #[.int .i64 n.kind, .string n.data, .slice h.A n.ptrs.length h.a, .int .i64 n.size, .int .i64 n.count, .slice h.B n.items.length h.b] nodeT)) (.cells #[.int .i64 0, .string { data := #[] }, .slice none 0 0, .int .i64 0, .int .i64 0, .slice none 0 0] nodeT)
 have r1 := heap_alloc_keep (al_row q0 #[.int .i64 n.kind, .string n.data, .slice h.A n.ptrs.length h.a, .int .i64 n.size, .int .i64 n.count, .slice h.B n.items.length h.b] nodeT) (.cells #[.int .i64 0, .string { data := #[] }, .slice none 0 0, .int .i64 0, .int .i64 0, .slice none 0 0] nodeT)
 have r2 := al_row q1 #[.int .i64 0, .string { data := #[] }, .slice none 0 0, .int .i64 0, .int .i64 0, .slice none 0 0] nodeT
 rw [show w.heap.size + (1 + 1) = w.heap.size + 1 + 1 from rfl] at r2
 have HB0 := Lib.hid q2.2
 have R0 := Lib.hid r0
 have R1 := Lib.hid r1
 have R2 := Lib.hid r2
 obtain ⟨a0, a1, a2, a3, a4, a5, a6⟩ := cellsV r0
 clear q2 q1 q0 r0 r1 r2 hn htn hA hs
 go_enter Try.func16, Try.ntmps16
 go_wp2_with fail
 generalize ((w.alloc (.cells #[.string nm, .int .i64 k, .int .i64 at_, .int .i64 sz, .int .i64 tu, .int .i64 tg, .int .i64 pl] accT)).alloc (.cells #[.int .i64 n.kind, .string n.data, .slice h.A n.ptrs.length h.a, .int .i64 n.size, .int .i64 n.count, .slice h.B n.items.length h.b] nodeT)).alloc (.cells #[.int .i64 0, .string { data := #[] }, .slice none 0 0, .int .i64 0, .int .i64 0, .slice none 0 0] nodeT) = W at *
 clear a0 a1 a2 a3 a4 a5 a6
 refine (HOK.out W).mono ?_
 rintro e w1 ⟨rfl, hb1⟩
 have HB1 := Lib.hid (HB0.out.trans (hb1.mono HB0.out.size))
 have X0 := Lib.hid ((hb1.block _ (row_lt R0.out)).trans R0.out)
 have X1 := Lib.hid ((hb1.block _ (row_lt R1.out)).trans R1.out)
 have X2 := Lib.hid ((hb1.block _ (row_lt R2.out)).trans R2.out)
 clear hb1
 obtain ⟨n0, n1, n2, n3, n4, n5⟩ := cells6 X1.out
 obtain ⟨z0, z1, z2, z3, z4, z5⟩ := cells6 X2.out
 have zf := row_free X2.out
 go_wp2_with fail
 obtain ⟨wf, hwf, hrw, hbf, -⟩ := finN (w := w) (R := w.heap.size) (.int .i64 0) (.string ⟨#[]⟩) (.slice none 0 0) (.int .i64 0) (.int .i64 0) (.slice none 0 0) X2.out HB1.out (by omega)
 rw [hwf]
 obtain ⟨e0, e1, e2, e3, e4, e5⟩ := cells6 hrw
 exact bodyPost_ret (v := .tuple #[.agg #[.int .i64 0, .string { data := #[] }, .slice none 0 0, .int .i64 0, .int .i64 0, .slice none 0 0], .bool false]) (by simp [results, Try.results16, go_sem, e0, e1, e2, e3, e4, e5]) rfl (NewNP.none hbf)
theorem spPut_N (nm : ByteArray) (k at_ sz tu tg pl num : Int) (m : Nat) (n : Nd) (h : Hd) (w : World) (S : Nat → Prop) (hs : nm.size ≤ maxLen) (hn : NdAt w S m n h) (htn : totN m n ≤ 2000000) (M : Nat) (hA : accB nm k at_ sz tu tg pl = true) (hO : nodeOk n = false) :
 Calls Try.prog 16 #[accV nm k at_ sz tu tg pl, .agg #[.int .i64 n.kind, .string n.data, .slice h.A n.ptrs.length h.a, .int .i64 n.size, .int .i64 n.count, .slice h.B n.items.length h.b], .int .i64 num] w (NewNP M noneNd false w) := by
 have HOK := Lib.hid (fun W : World => specAccessOk_any nm k at_ sz tu tg pl W hs)
 have HNO := Lib.hid (fun (W : World) (hW : Below w.heap.size w W) => specNodeOk_a m n h W S (hn.below hW) htn)
 rw [hA] at HOK
 rw [hO] at HNO
 unfold accV at HOK ⊢
 have q0 := al_first w (.cells #[.string nm, .int .i64 k, .int .i64 at_, .int .i64 sz, .int .i64 tu, .int .i64 tg, .int .i64 pl] accT)
 have q1 := al_next q0 (.cells #[.int .i64 n.kind, .string n.data, .slice h.A n.ptrs.length h.a, .int .i64 n.size, .int .i64 n.count, .slice h.B n.items.length h.b] nodeT)
 have q2 := al_next q1 (.cells #[.int .i64 0, .string { data := #[] }, .slice none 0 0, .int .i64 0, .int .i64 0, .slice none 0 0] nodeT)
 have r0 := heap_alloc_keep (heap_alloc_keep (heap_alloc_new w (.cells #[.string nm, .int .i64 k, .int .i64 at_, .int .i64 sz, .int .i64 tu, .int .i64 tg, .int .i64 pl] accT)) (.cells #[.int .i64 n.kind, .string n.data, .slice h.A n.ptrs.length h.a, .int .i64 n.size, .int .i64 n.count, .slice h.B n.items.length h.b] nodeT)) (.cells #[.int .i64 0, .string { data := #[] }, .slice none 0 0, .int .i64 0, .int .i64 0, .slice none 0 0] nodeT)
 have r1 := heap_alloc_keep (al_row q0 #[.int .i64 n.kind, .string n.data, .slice h.A n.ptrs.length h.a, .int .i64 n.size, .int .i64 n.count, .slice h.B n.items.length h.b] nodeT) (.cells #[.int .i64 0, .string { data := #[] }, .slice none 0 0, .int .i64 0, .int .i64 0, .slice none 0 0] nodeT)
 have r2 := al_row q1 #[.int .i64 0, .string { data := #[] }, .slice none 0 0, .int .i64 0, .int .i64 0, .slice none 0 0] nodeT
 rw [show w.heap.size + (1 + 1) = w.heap.size + 1 + 1 from rfl] at r2
 have HB0 := Lib.hid q2.2
 have R0 := Lib.hid r0
 have R1 := Lib.hid r1
 have R2 := Lib.hid r2
 obtain ⟨a0, a1, a2, a3, a4, a5, a6⟩ := cellsV r0
 clear q2 q1 q0 r0 r1 r2 hn htn hA hs
 go_enter Try.func16, Try.ntmps16
 go_wp2_with fail
 generalize ((w.alloc (.cells #[.string nm, .int .i64 k, .int .i64 at_, .int .i64 sz, .int .i64 tu, .int .i64 tg, .int .i64 pl] accT)).alloc (.cells #[.int .i64 n.kind, .string n.data, .slice h.A n.ptrs.length h.a, .int .i64 n.size, .int .i64 n.count, .slice h.B n.items.length h.b] nodeT)).alloc (.cells #[.int .i64 0, .string { data := #[] }, .slice none 0 0, .int .i64 0, .int .i64 0, .slice none 0 0] nodeT) = W at *
 clear a0 a1 a2 a3 a4 a5 a6
 refine (HOK.out W).mono ?_
 rintro e w1 ⟨rfl, hb1⟩
 have HB1 := Lib.hid (HB0.out.trans (hb1.mono HB0.out.size))
 have X0 := Lib.hid ((hb1.block _ (row_lt R0.out)).trans R0.out)
 have X1 := Lib.hid ((hb1.block _ (row_lt R1.out)).trans R1.out)
 have X2 := Lib.hid ((hb1.block _ (row_lt R2.out)).trans R2.out)
 clear hb1
 obtain ⟨n0, n1, n2, n3, n4, n5⟩ := cells6 X1.out
 obtain ⟨z0, z1, z2, z3, z4, z5⟩ := cells6 X2.out
 have zf := row_free X2.out
 go_wp2_with fail
 clear n0 n1 n2 n3 n4 n5 z0 z1 z2 z3 z4 z5 zf
 refine (HNO.out w1 HB1.out).mono ?_
 rintro e w2 ⟨rfl, hb2⟩
 have HB2 := Lib.hid (HB1.out.trans (hb2.mono HB1.out.size))
 have Y0 := Lib.hid ((hb2.block _ (row_lt X0.out)).trans X0.out)
 have Y1 := Lib.hid ((hb2.block _ (row_lt X1.out)).trans X1.out)
 have Y2 := Lib.hid ((hb2.block _ (row_lt X2.out)).trans X2.out)
 clear hb2
 obtain ⟨n0, n1, n2, n3, n4, n5⟩ := cells6 Y1.out
 obtain ⟨z0, z1, z2, z3, z4, z5⟩ := cells6 Y2.out
 have zf := row_free Y2.out
 go_wp2_with fail
 obtain ⟨wf, hwf, hrw, hbf, -⟩ := finN (w := w) (R := w.heap.size) (.int .i64 0) (.string ⟨#[]⟩) (.slice none 0 0) (.int .i64 0) (.int .i64 0) (.slice none 0 0) Y2.out HB2.out (by omega)
 rw [hwf]
 obtain ⟨e0, e1, e2, e3, e4, e5⟩ := cells6 hrw
 exact bodyPost_ret (v := .tuple #[.agg #[.int .i64 0, .string { data := #[] }, .slice none 0 0, .int .i64 0, .int .i64 0, .slice none 0 0], .bool false]) (by simp [results, Try.results16, go_sem, e0, e1, e2, e3, e4, e5]) rfl (NewNP.none hbf)
theorem spPut_K (nm : ByteArray) (k at_ sz tu tg pl num : Int) (m : Nat) (n : Nd) (h : Hd) (w : World) (S : Nat → Prop) (hs : nm.size ≤ maxLen) (hn : NdAt w S m n h) (htn : totN m n ≤ 2000000) (M : Nat) (hA : accB nm k at_ sz tu tg pl = true) (hO : nodeOk n = true) (hk : n.kind ≠ 1) :
 Calls Try.prog 16 #[accV nm k at_ sz tu tg pl, .agg #[.int .i64 n.kind, .string n.data, .slice h.A n.ptrs.length h.a, .int .i64 n.size, .int .i64 n.count, .slice h.B n.items.length h.b], .int .i64 num] w (NewNP M noneNd false w) := by
 have hk1 : (n.kind != 1) = true := by simp [hk]
 clear hk
 have HOK := Lib.hid (fun W : World => specAccessOk_any nm k at_ sz tu tg pl W hs)
 have HNO := Lib.hid (fun (W : World) (hW : Below w.heap.size w W) => specNodeOk_a m n h W S (hn.below hW) htn)
 rw [hA] at HOK
 rw [hO] at HNO
 unfold accV at HOK ⊢
 have q0 := al_first w (.cells #[.string nm, .int .i64 k, .int .i64 at_, .int .i64 sz, .int .i64 tu, .int .i64 tg, .int .i64 pl] accT)
 have q1 := al_next q0 (.cells #[.int .i64 n.kind, .string n.data, .slice h.A n.ptrs.length h.a, .int .i64 n.size, .int .i64 n.count, .slice h.B n.items.length h.b] nodeT)
 have q2 := al_next q1 (.cells #[.int .i64 0, .string { data := #[] }, .slice none 0 0, .int .i64 0, .int .i64 0, .slice none 0 0] nodeT)
 have r0 := heap_alloc_keep (heap_alloc_keep (heap_alloc_new w (.cells #[.string nm, .int .i64 k, .int .i64 at_, .int .i64 sz, .int .i64 tu, .int .i64 tg, .int .i64 pl] accT)) (.cells #[.int .i64 n.kind, .string n.data, .slice h.A n.ptrs.length h.a, .int .i64 n.size, .int .i64 n.count, .slice h.B n.items.length h.b] nodeT)) (.cells #[.int .i64 0, .string { data := #[] }, .slice none 0 0, .int .i64 0, .int .i64 0, .slice none 0 0] nodeT)
 have r1 := heap_alloc_keep (al_row q0 #[.int .i64 n.kind, .string n.data, .slice h.A n.ptrs.length h.a, .int .i64 n.size, .int .i64 n.count, .slice h.B n.items.length h.b] nodeT) (.cells #[.int .i64 0, .string { data := #[] }, .slice none 0 0, .int .i64 0, .int .i64 0, .slice none 0 0] nodeT)
 have r2 := al_row q1 #[.int .i64 0, .string { data := #[] }, .slice none 0 0, .int .i64 0, .int .i64 0, .slice none 0 0] nodeT
 rw [show w.heap.size + (1 + 1) = w.heap.size + 1 + 1 from rfl] at r2
 have HB0 := Lib.hid q2.2
 have R0 := Lib.hid r0
 have R1 := Lib.hid r1
 have R2 := Lib.hid r2
 obtain ⟨a0, a1, a2, a3, a4, a5, a6⟩ := cellsV r0
 clear q2 q1 q0 r0 r1 r2 hn htn hA hs
 go_enter Try.func16, Try.ntmps16
 go_wp2_with fail
 generalize ((w.alloc (.cells #[.string nm, .int .i64 k, .int .i64 at_, .int .i64 sz, .int .i64 tu, .int .i64 tg, .int .i64 pl] accT)).alloc (.cells #[.int .i64 n.kind, .string n.data, .slice h.A n.ptrs.length h.a, .int .i64 n.size, .int .i64 n.count, .slice h.B n.items.length h.b] nodeT)).alloc (.cells #[.int .i64 0, .string { data := #[] }, .slice none 0 0, .int .i64 0, .int .i64 0, .slice none 0 0] nodeT) = W at *
 clear a0 a1 a2 a3 a4 a5 a6
 refine (HOK.out W).mono ?_
 rintro e w1 ⟨rfl, hb1⟩
 have HB1 := Lib.hid (HB0.out.trans (hb1.mono HB0.out.size))
 have X0 := Lib.hid ((hb1.block _ (row_lt R0.out)).trans R0.out)
 have X1 := Lib.hid ((hb1.block _ (row_lt R1.out)).trans R1.out)
 have X2 := Lib.hid ((hb1.block _ (row_lt R2.out)).trans R2.out)
 clear hb1
 obtain ⟨n0, n1, n2, n3, n4, n5⟩ := cells6 X1.out
 obtain ⟨z0, z1, z2, z3, z4, z5⟩ := cells6 X2.out
 have zf := row_free X2.out
 go_wp2_with fail
 clear n0 n1 n2 n3 n4 n5 z0 z1 z2 z3 z4 z5 zf
 refine (HNO.out w1 HB1.out).mono ?_
 rintro e w2 ⟨rfl, hb2⟩
 have HB2 := Lib.hid (HB1.out.trans (hb2.mono HB1.out.size))
 have Y0 := Lib.hid ((hb2.block _ (row_lt X0.out)).trans X0.out)
 have Y1 := Lib.hid ((hb2.block _ (row_lt X1.out)).trans X1.out)
 have Y2 := Lib.hid ((hb2.block _ (row_lt X2.out)).trans X2.out)
 clear hb2
 obtain ⟨n0, n1, n2, n3, n4, n5⟩ := cells6 Y1.out
 obtain ⟨z0, z1, z2, z3, z4, z5⟩ := cells6 Y2.out
 have zf := row_free Y2.out
 go_wp2_with fail
 obtain ⟨wf, hwf, hrw, hbf, -⟩ := finN (w := w) (R := w.heap.size) (.int .i64 0) (.string ⟨#[]⟩) (.slice none 0 0) (.int .i64 0) (.int .i64 0) (.slice none 0 0) Y2.out HB2.out (by omega)
 rw [hwf]
 obtain ⟨e0, e1, e2, e3, e4, e5⟩ := cells6 hrw
 exact bodyPost_ret (v := .tuple #[.agg #[.int .i64 0, .string { data := #[] }, .slice none 0 0, .int .i64 0, .int .i64 0, .slice none 0 0], .bool false]) (by simp [results, Try.results16, go_sem, e0, e1, e2, e3, e4, e5]) rfl (NewNP.none hbf)
end Go.Proofs.Ytfnecflkahmjoaa
