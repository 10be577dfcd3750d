/- Texts of the proof of the law FnSend, side by side: part 29. -/
import Derived.Test.YtlbfffokkhccaaaGreatDoorMSend28
set_option maxHeartbeats 8000000
set_option maxRecDepth 100000
namespace Go.Proofs.YtlbfffokkhccaaaGreatDoor
open Go.RowKit
theorem mem_ptrs {n p : Nd} (h : p ∈ n.ptrs) : p ∈ ptrsL n := List.mem_append_left _ h
theorem mem_items {n y p : Nd} (h : y ∈ n.items) (hp : p ∈ y.ptrs) : p ∈ ptrsL n := List.mem_append_right _ (List.mem_flatMap.2 ⟨y, h, hp⟩)
theorem sum_flat (l : List Nd) (f : Nd → Nat) : ((l.flatMap Nd.ptrs).map f).sum = (l.map fun y => (y.ptrs.map f).sum).sum := by
 induction l with
 | nil => rfl
 | cons a t ih => rw [List.flatMap_cons, List.map_append, List.sum_append, ih]; rfl
theorem sum_ptrs (n : Nd) (f : Nd → Nat) : ((ptrsL n).map f).sum = (n.ptrs.map f).sum + (n.items.map fun y => (y.ptrs.map f).sum).sum := by
 unfold ptrsL
 rw [List.map_append, List.sum_append, sum_flat]
theorem tot_ptrs2 {w : World} {S : Nat → Prop} {m : Nat} {n : Nd} {h : Hd} (hn : NdAt w S m n h) : totL m (ptrsL n) + n.data.size + (n.items.map fun y => y.data.size).sum ≤ totN m n := by
 cases m with
 | zero =>
  rw [hn.2.2.zero]
  unfold totN
  simp only [List.map_nil, List.sum_nil]
  show 0 + _ + 0 ≤ _
  omega
 | succ m =>
  have h1 : totL (m + 1) (ptrsL n) = totL (m + 1) n.ptrs + (n.items.map fun y => totL (m + 1) y.ptrs).sum := by
   unfold ptrsL
   rw [totL_succ, List.map_append, List.sum_append, ← totL_succ, ← totL_succ, flat_tot]
  have h2 : (n.items.map fun y => totL (m + 1) y.ptrs + y.data.size).sum ≤ totL (m + 1) n.items := by
   rw [totL_succ]
   refine sum_le _ _ _ fun y hy => ?_
   obtain ⟨hd, h3⟩ := hn.2.2.mem y hy
   rw [totL_eq m _ _ h3.2.1]
   unfold totN
   omega
  have h4 : ∀ l : List Nd, (l.map fun y => totL (m + 1) y.ptrs + y.data.size).sum = (l.map fun y => totL (m + 1) y.ptrs).sum + (l.map fun y => y.data.size).sum := by
   intro l
   induction l with
   | nil => rfl
   | cons a t ih => simp only [List.map_cons, List.sum_cons, ih]; omega
  rw [h4] at h2
  rw [h1]
  unfold totN
  omega
theorem own_le2 (n : Nd) : ownN n ≤ n.data.size + (n.items.map fun y => y.data.size).sum + (ptrsL n).length + 1 := by
 have h1 : ownB n ≤ n.data.size + n.ptrs.length := by unfold ownB; omega
 have h2 : ∀ l : List Nd, (l.map ownB).sum ≤ (l.map fun y => y.data.size).sum + (l.flatMap Nd.ptrs).length := by
  intro l
  induction l with
  | nil => simp
  | cons a t ih =>
   have : ownB a ≤ a.data.size + a.ptrs.length := by unfold ownB; omega
   simp only [List.map_cons, List.sum_cons, List.flatMap_cons, List.length_append]
   omega
 have h3 := h2 n.items
 unfold ownN ptrsL
 rw [List.length_append]
 split <;> omega
theorem words_bound {w : World} {S : Nat → Prop} : ∀ (d m : Nat) (n : Nd) (h : Hd), NdAt w S m n h → okN d n = true → wordsN d n ≤ 2 * totN m n + 1 := by
 intro d
 induction d with
 | zero => intro m n h hn hok; exact Nat.zero_le _
 | succ d ih =>
  intro m n h hn hok
  obtain ⟨hf, hk⟩ := ok_kids hok
  have h1 := own_le2 n
  have h2 := tot_ptrs2 hn
  have h3 : ((ptrsL n).map (wordsN d)).sum + (ptrsL n).length ≤ 2 * totL m (ptrsL n) := by
   cases m with
   | zero =>
    have : ptrsL n = [] := by unfold ptrsL; rw [hn.2.1.zero, hn.2.2.zero]; rfl
    rw [this]; simp
   | succ m =>
    have hmem : ∀ p ∈ ptrsL n, ∃ hp : Hd, NdAt w S m p hp := by
     intro p hp
     unfold ptrsL at hp
     rcases List.mem_append.1 hp with hp | hp
     · exact hn.2.1.mem p hp
     · obtain ⟨y, hy, hpy⟩ := List.mem_flatMap.1 hp
       obtain ⟨hd, hyn⟩ := hn.2.2.mem y hy
       obtain ⟨j, rfl⟩ : ∃ j, m = j + 1 := by
        cases m with
        | zero => rw [hyn.2.1.zero] at hpy; cases hpy
        | succ j => exact ⟨j, rfl⟩
       obtain ⟨hd2, h4⟩ := hyn.2.1.mem p hpy
       exact ⟨hd2, h4.mono (by omega)⟩
    have h5 : ((ptrsL n).map fun p => wordsN d p + 1).sum ≤ ((ptrsL n).map fun p => 2 * (1 + totN m p)).sum := sum_le _ _ _ fun p hp => by
     obtain ⟨hd2, h6⟩ := hmem p hp
     have := ih m p hd2 h6 (hk p hp)
     omega
    have h7 : ∀ l : List Nd, (l.map fun p => wordsN d p + 1).sum = (l.map (wordsN d)).sum + l.length := by
     intro l
     induction l with
     | nil => rfl
     | cons a t ih => simp only [List.map_cons, List.sum_cons, List.length_cons, ih]; omega
    have h8 : ∀ l : List Nd, (l.map fun p => 2 * (1 + totN m p)).sum = 2 * (l.map fun p => 1 + totN m p).sum := by
     intro l
     induction l with
     | nil => rfl
     | cons a t ih => simp only [List.map_cons, List.sum_cons, ih]; omega
    rw [h7, h8, ← totL_succ] at h5
    exact h5
  show ownN n + _ ≤ _
  omega
def L4W (d : Nat) : Prop := ∀ (m : Nat) (n : Nd) (h : Hd) (w : World) (S : Nat → Prop), NdAt w S m n h → totN m n ≤ 2000000 → okN d n = true →
 Calls Tryz.prog 78 #[.agg #[.int .i64 n.kind, .string n.data, .slice h.A n.ptrs.length h.a, .int .i64 n.size, .int .i64 n.count, .slice h.B n.items.length h.b]] w fun e w' => e = .returned (.int .i64 (wordsN d n : Nat)) ∧ Below w.heap.size w w'
theorem l4Words_step (d : Nat) (ih : ∀ j, d = j + 1 → L4W j) : L4W d := by
 intro m n h w S hn ht hok
 have hbd := words_bound d m n h hn hok
 obtain ⟨qA, qa, qB, qb⟩ := h
 dsimp only at hn ⊢
 have hpl : n.ptrs.length ≤ 2000000 := totL_len' hn.2.1 (by unfold totN at ht; omega)
 have hil : n.items.length ≤ 2000000 := totL_len' hn.2.2 (by unfold totN at ht; omega)
 have hf := (ok_kids hok).1
 have hob := own_bound hn ht
 have HN := Lib.hid hn
 have HT := Lib.hid ht
 have hba := (Below.refl w.heap.size w).alloc (Nat.le_refl _) (.cells #[.int .i64 n.kind, .string n.data, .slice qA n.ptrs.length qa, .int .i64 n.size, .int .i64 n.count, .slice qB n.items.length qb] nodeT)
 have hr := heap_alloc_new w (.cells #[.int .i64 n.kind, .string n.data, .slice qA n.ptrs.length qa, .int .i64 n.size, .int .i64 n.count, .slice qB n.items.length qb] nodeT)
 have hsz : w.heap.size < (w.alloc (.cells #[.int .i64 n.kind, .string n.data, .slice qA n.ptrs.length qa, .int .i64 n.size, .int .i64 n.count, .slice qB n.items.length qb] nodeT)).heap.size := by simp
 have HOW := Lib.hid (l4Own_a m n ⟨qA, qa, qB, qb⟩ _ S (hn.below hba) hf ht)
 dsimp only at HOW
 have HBA := Lib.hid hba
 have HR := Lib.hid hr
 have HTOT : Hid (wordsN d n = ownN n + (n.ptrs.map (wordsN (d - 1))).sum + (n.items.map fun y => (y.ptrs.map (wordsN (d - 1))).sum).sum) := Lib.hid (by rw [words_kids hok, sum_ptrs]; omega)
 have HKID : Hid (∀ p ∈ ptrsL n, ∀ (m' : Nat) (hp : Hd) (W : World), NdAt W S m' p hp → totN m' p ≤ 2000000 → Calls Tryz.prog 78 #[.agg #[.int .i64 p.kind, .string p.data, .slice hp.A p.ptrs.length hp.a, .int .i64 p.size, .int .i64 p.count, .slice hp.B p.items.length hp.b]] W fun e w' => e = .returned (.int .i64 (wordsN (d - 1) p : Nat)) ∧ Below W.heap.size W w') := Lib.hid fun p hp m' h' W h1 h2 => by
  cases d with
  | zero =>
   have h3 := words_kids hok
   have h4 := ptrs_own n
   have h5 : (ptrsL n).length ≠ 0 := by intro h; rw [nil_of_len h] at hp; cases hp
   simp only [wordsN] at h3
   omega
  | succ j => exact ih j rfl m' p h' W S h1 h2 ((ok_kids hok).2 p hp)
 have htb : wordsN d n ≤ 4000001 := by omega
 clear hn ht hok hf ih hbd hba hr
 generalize wordsN d n = tt at *
 generalize ownN n = s0 at *
 have HS0 : Hid ((s0 : Int) = ((s0 : Nat) : Int)) := Lib.hid rfl
 go_enter Tryz.func78, Tryz.ntmps78
 go_wp2_with fail
 refine HOW.out.mono ?_
 rintro e w1 ⟨rfl, hb1⟩
 have hr1 := (hb1.block w.heap.size hsz).trans HR.out
 have HR1 := Lib.hid hr1
 have HB1 := Lib.hid (HBA.out.trans (hb1.mono HBA.out.size))
 obtain ⟨a0, a1, a2, a3, a4, a5⟩ := cells6 hr1
 clear hr1 hb1
 go_wp2
 go_loopw [3, 4] (fun u i wr => ∃ (k : Nat) (z : Int), u = .int .i64 z ∧ i = .int .i64 k ∧ k ≤ n.ptrs.length ∧ 0 ≤ z ∧ z ≤ 4000001 ∧ Hid (z = ((s0 + ((n.ptrs.take k).map (wordsN (d - 1))).sum : Nat) : Int)) ∧ Hid (Below w.heap.size w wr ∧ wr.heap[w.heap.size]? = some (.cells #[.int .i64 n.kind, .string n.data, .slice qA n.ptrs.length qa, .int .i64 n.size, .int .i64 n.count, .slice qB n.items.length qb] nodeT (0, 0)))) (fun _ i _ => n.ptrs.length - (intOf i).toNat)
 case atStart => exact ⟨0, _, rfl, rfl, by omega, by have := HS0.out; omega, by have := HS0.out; omega, Lib.hid (by rw [List.take_zero, List.map_nil, List.sum_nil]; have := HS0.out; omega), Lib.hid ⟨HB1.out, HR1.out⟩⟩
 case round =>
  obtain ⟨k, z, rfl, rfl, hk, hz0, hz1, HZ, HB⟩ := hrel
  obtain ⟨hbr, hrr⟩ := HB.out
  clear a0 a1 a2 a3 a4 a5
  obtain ⟨a0, a1, a2, a3, a4, a5⟩ := cells6 hrr
  by_cases hlt : k < n.ptrs.length
  · obtain ⟨m', rfl⟩ := HN.out.2.1.pred hlt
    obtain ⟨x, yA, ya, yB, yb, rfl, hc0, hdy, hny, hniy⟩ := HN.out.2.1.at6 hlt
    have hc := cell_below hbr _ _ _ hc0
    have HST := Lib.hid (sum_take_succ n.ptrs (wordsN (d - 1)) k hlt)
    have HSL := Lib.hid (sum_take_le n.ptrs (wordsN (d - 1)) (k + 1))
    have htp : totN m' n.ptrs[k] ≤ 2000000 := by have := totL_at (m := m') hlt; have := HT.out; unfold totN at this; omega
    have HC := Lib.hid (HKID.out _ (mem_ptrs (List.getElem_mem hlt)) m' ⟨yA, ya, yB, yb⟩ wr (NdAt.below ⟨hdy, hny, hniy⟩ hbr) htp)
    dsimp only at HC
    generalize n.ptrs[k] = y at hc HST HC
    have hzv : z + ((wordsN (d - 1)) y : Nat) ≤ 4000001 := by have := HZ.out; have := HST.out; have := HSL.out; have := HTOT.out; omega
    obtain ⟨c0, c1, c2, c3, c4, c5⟩ := hc
    dsimp only at c2 c5
    have HBR := Lib.hid hbr
    have HRR := Lib.hid hrr
    clear hbr hrr hc0 hdy hny hniy htp HB
    generalize (wordsN (d - 1)) y = v at *
    go_wp2_with fail
    refine HC.out.mono ?_
    rintro e w3 ⟨rfl, hb3⟩
    have HB3 := Lib.hid (And.intro (HBR.out.trans (hb3.mono HBR.out.size)) ((hb3.block w.heap.size (row_lt HRR.out)).trans HRR.out))
    clear hb3
    go_wp2
    go_roundw
    case rel => exact ⟨k + 1, _, rfl, by go_num, by omega, by omega, hzv, Lib.hid (by rw [HZ.out, HST.out]; omega), HB3⟩
    case measure => simp [intOf]; omega
  · obtain rfl : k = n.ptrs.length := by omega
    rw [List.take_of_length_le (Nat.le_refl _)] at HZ
    have HBR := Lib.hid hbr
    have HRR := Lib.hid hrr
    have HZP := HZ
    have hzp0 := hz0
    have hzp1 := hz1
    clear hbr hrr HB HZ
    go_wp2
    go_loopw [3, 5] (fun u i wr => ∃ (k : Nat) (z : Int), u = .int .i64 z ∧ i = .int .i64 k ∧ k ≤ n.items.length ∧ 0 ≤ z ∧ z ≤ 4000001 ∧ Hid (z = ((s0 + (n.ptrs.map (wordsN (d - 1))).sum + ((n.items.take k).map fun y => (y.ptrs.map (wordsN (d - 1))).sum).sum : Nat) : Int)) ∧ Hid (Below w.heap.size w wr ∧ wr.heap[w.heap.size]? = some (.cells #[.int .i64 n.kind, .string n.data, .slice qA n.ptrs.length qa, .int .i64 n.size, .int .i64 n.count, .slice qB n.items.length qb] nodeT (0, 0)))) (fun _ i _ => n.items.length - (intOf i).toNat)
    case atStart => exact ⟨0, _, rfl, rfl, by omega, hzp0, hzp1, Lib.hid (by rw [HZP.out]; simp), Lib.hid ⟨HBR.out, HRR.out⟩⟩
    case round =>
     clear hz0 hz1 hzp0 hzp1
     obtain ⟨k, z, rfl, rfl, hk, hz0, hz1, HZ, HB⟩ := hrel
     obtain ⟨hbr, hrr⟩ := HB.out
     clear a0 a1 a2 a3 a4 a5
     obtain ⟨a0, a1, a2, a3, a4, a5⟩ := cells6 hrr
     by_cases hlt : k < n.items.length
     · obtain ⟨m', rfl⟩ := HN.out.2.2.pred hlt
       obtain ⟨x, yA, ya, yB, yb, rfl, hc0, hdy, hny, hniy⟩ := HN.out.2.2.at6 hlt
       have HSTI := Lib.hid (sum_take_succ n.items (fun y => (y.ptrs.map (wordsN (d - 1))).sum) k hlt)
       have HSLI := Lib.hid (sum_take_le n.items (fun y => (y.ptrs.map (wordsN (d - 1))).sum) (k + 1))
       have HTP : Hid (totL m' (n.items[k]).ptrs ≤ 2000000) := Lib.hid (by have := totL_at (m := m') hlt; have := HT.out; unfold totN at *; omega)
       have hypl : (n.items[k]).ptrs.length ≤ 2000000 := totL_len' hny HTP.out
       have HMY := Lib.hid (fun p hp => HKID.out p (mem_items (List.getElem_mem hlt) hp))
       generalize n.items[k] = y at hc0 HSTI hny HTP hypl HMY
       have HC0 := Lib.hid hc0
       have HNY := Lib.hid hny
       have HBR := Lib.hid hbr
       have HRR := Lib.hid hrr
       have hzi0 := hz0
       have hzi1 := hz1
       clear hbr hrr hc0 hdy hny hniy HB
       go_wp2
       clear a0 a1 a2 a3 a4 a5
       go_loopw [3, 6] (fun u i wr => ∃ (q : Nat) (z : Int), u = .int .i64 z ∧ i = .int .i64 q ∧ q ≤ y.ptrs.length ∧ 0 ≤ z ∧ z ≤ 4000001 ∧ Hid (z = ((s0 + (n.ptrs.map (wordsN (d - 1))).sum + ((n.items.take k).map fun y => (y.ptrs.map (wordsN (d - 1))).sum).sum + ((y.ptrs.take q).map (wordsN (d - 1))).sum : Nat) : Int)) ∧ Hid (Below w.heap.size w wr ∧ wr.heap[w.heap.size]? = some (.cells #[.int .i64 n.kind, .string n.data, .slice qA n.ptrs.length qa, .int .i64 n.size, .int .i64 n.count, .slice (some x) n.items.length qb] nodeT (0, 0)))) (fun _ i _ => y.ptrs.length - (intOf i).toNat)
       case atStart => exact ⟨0, _, rfl, rfl, by omega, hzi0, hzi1, Lib.hid (by rw [HZ.out]; simp), Lib.hid ⟨HBR.out, HRR.out⟩⟩
       case round =>
        clear hz0 hz1 hzi0 hzi1
        obtain ⟨q, z, rfl, rfl, hq, hz0, hz1, HZQ, HB⟩ := hrel
        obtain ⟨hbr, hrr⟩ := HB.out
        obtain ⟨a0, a1, a2, a3, a4, a5⟩ := cells6 hrr
        have hc := cell_below hbr _ _ _ HC0.out
        obtain ⟨-, -, d2, -, -, -⟩ := hc
        dsimp only at d2
        by_cases hqt : q < y.ptrs.length
        · obtain ⟨m'', rfl⟩ := HNY.out.pred hqt
          obtain ⟨x2, zA, za, zB, zb, rfl, hc2, hdz, hnz, hniz⟩ := HNY.out.at6 hqt
          have hcz := cell_below hbr _ _ _ hc2
          have HST := Lib.hid (sum_take_succ y.ptrs (wordsN (d - 1)) q hqt)
          have HSL := Lib.hid (sum_take_le y.ptrs (wordsN (d - 1)) (q + 1))
          have htp : totN m'' y.ptrs[q] ≤ 2000000 := by have := totL_at (m := m'') hqt; have := HTP.out; omega
          have HC := Lib.hid (HMY.out _ (List.getElem_mem hqt) m'' ⟨zA, za, zB, zb⟩ wr (NdAt.below ⟨hdz, hnz, hniz⟩ hbr) htp)
          dsimp only at HC
          generalize y.ptrs[q] = t at hcz HST HC
          have hzv : z + ((wordsN (d - 1)) t : Nat) ≤ 4000001 := by have := HZQ.out; have := HST.out; have := HSL.out; have := HTOT.out; have := HSTI.out; have := HSLI.out; omega
          obtain ⟨c0, c1, c2, c3, c4, c5⟩ := hcz
          dsimp only at c2 c5
          have HBR := Lib.hid hbr
          have HRR := Lib.hid hrr
          clear hbr hrr hc2 hdz hnz hniz htp HB
          generalize (wordsN (d - 1)) t = v at *
          go_wp2_with fail
          refine HC.out.mono ?_
          rintro e w3 ⟨rfl, hb3⟩
          have HB3 := Lib.hid (And.intro (HBR.out.trans (hb3.mono HBR.out.size)) ((hb3.block w.heap.size (row_lt HRR.out)).trans HRR.out))
          clear hb3
          go_wp2
          go_roundw
          case rel => exact ⟨q + 1, _, rfl, by go_num, by omega, by omega, hzv, Lib.hid (by rw [HZQ.out, HST.out]; omega), HB3⟩
          case measure => simp [intOf]; omega
        · obtain rfl : q = y.ptrs.length := by omega
          rw [List.take_of_length_le (Nat.le_refl _)] at HZQ
          have HZ2 : Hid (z = ((s0 + (n.ptrs.map (wordsN (d - 1))).sum + ((n.items.take (k + 1)).map fun y => (y.ptrs.map (wordsN (d - 1))).sum).sum : Nat) : Int)) := Lib.hid (by rw [HZQ.out, HSTI.out]; omega)
          have HBB := Lib.hid (And.intro hbr hrr)
          clear hbr hrr HB
          go_wp2
          go_roundw
          case rel => exact ⟨k + 1, _, rfl, by go_num, by omega, hz0, hz1, HZ2, HBB⟩
          case measure => simp [intOf]; omega
     · obtain rfl : k = n.items.length := by omega
       rw [List.take_of_length_le (Nat.le_refl _)] at HZ
       have HBR := Lib.hid hbr
       clear hbr hrr HB
       go_wp2
       go_ret
       exact ⟨by rw [HTOT.out, HZ.out]; rfl, HBR.out⟩
theorem l4Words_any : ∀ d, L4W d
 | 0 => l4Words_step 0 (fun j hj => by omega)
 | d + 1 => l4Words_step (d + 1) (fun j hj => by
   obtain rfl : d = j := by omega
   exact l4Words_any d)
theorem specNodeOk_a (m : Nat) (n : Nd) (h : Hd) (w : World) (S : Nat → Prop) (hn : NdAt w S m n h) (ht : totN m n ≤ 2000000) :
 Calls Tryz.prog 38 #[.agg #[.int .i64 n.kind, .string n.data, .slice h.A n.ptrs.length h.a, .int .i64 n.size, .int .i64 n.count, .slice h.B n.items.length h.b]] w fun e w' => e = .returned (.bool (nodeOk n)) ∧ Below w.heap.size w w' := by
 have hb0 := (Below.refl w.heap.size w).alloc (Nat.le_refl _) (.cells #[.int .i64 n.kind, .string n.data, .slice h.A n.ptrs.length h.a, .int .i64 n.size, .int .i64 n.count, .slice h.B n.items.length h.b] nodeT)
 have HB0 := Lib.hid hb0
 have HBX := Lib.hid (heap_alloc_new w (.cells #[.int .i64 n.kind, .string n.data, .slice h.A n.ptrs.length h.a, .int .i64 n.size, .int .i64 n.count, .slice h.B n.items.length h.b] nodeT))
 have HO := Lib.hid (l4Ok_any 8 (by decide) m n h _ S (hn.below hb0) ht)
 rw [show (((8 : Nat)) : Int) = 8 from rfl] at HO
 have HWO : Hid (okN 8 n = true → ∀ W : World, Below w.heap.size w W → Calls Tryz.prog 78 #[.agg #[.int .i64 n.kind, .string n.data, .slice h.A n.ptrs.length h.a, .int .i64 n.size, .int .i64 n.count, .slice h.B n.items.length h.b]] W fun e w' => e = .returned (.int .i64 (wordsN 8 n : Nat)) ∧ Below W.heap.size W w') := Lib.hid fun hok W hb => l4Words_any 8 m n h W S (hn.below hb) ht hok
 clear hn ht hb0
 cases hok : okN 8 n
 · have HX : Hid (nodeOk n = false) := Lib.hid (by unfold nodeOk; rw [hok]; rfl)
   rw [hok] at HO
   clear hok
   go_enter Tryz.func38, Tryz.ntmps38
   go_wp2_with fail
   refine HO.out.mono ?_
   rintro e w2 ⟨rfl, hb2⟩
   have HB2 := Lib.hid (HB0.out.trans (hb2.mono HB0.out.size))
   clear hb2
   go_wp2
   go_ret
   exact ⟨by rw [HX.out]; rfl, HB2.out⟩
 · have HX : Hid (nodeOk n = decide (((wordsN 8 n : Nat) : Int) < 200)) := Lib.hid (by unfold nodeOk; rw [hok, Bool.true_and, Bool.eq_iff_iff]; simp only [decide_eq_true_eq]; omega)
   have HC := Lib.hid (HWO.out hok)
   rw [hok] at HO
   clear HWO hok
   generalize wordsN 8 n = wd at *
   go_enter Tryz.func38, Tryz.ntmps38
   go_wp2_with fail
   refine HO.out.mono ?_
   rintro e w2 ⟨rfl, hb2⟩
   obtain ⟨a0, a1, a2, a3, a4, a5⟩ := cells6 ((hb2.block w.heap.size (by simp)).trans HBX.out)
   have HB2 := Lib.hid (HB0.out.trans (hb2.mono HB0.out.size))
   clear hb2
   go_wp2_with fail
   refine (HC.out _ HB2.out).mono ?_
   rintro e w3 ⟨rfl, hb3⟩
   have HB3 := Lib.hid (HB2.out.trans (hb3.mono HB2.out.size))
   clear hb3
   go_wp2
   go_ret
   exact ⟨by rw [HX.out]; rfl, HB3.out⟩
open Go.RowKit Go.Deep
def OthQ (base b size : Nat) (P : Nat → Prop) (w : World) (r : Option (Segs × Nat)) (e : Ending) (w' : World) : Prop :=
 (r = none ∧ Too P w e w') ∨ ∃ s1 j, r = some (s1, j) ∧ e = .returned (.int .i64 (j : Int)) ∧ KP P w w' ∧ Bun w' base b size s1 (fun k => P k ∨ w.heap.size ≤ k)
theorem other_any (base b size : Nat) (ss : Segs) (P : Nat → Prop) (w : World) (h : Bun w base b size ss P) (k : Nat) (h1 : 1 ≤ ss.length) (h6 : ss.length ≤ 6) (hz : size ≤ 100000) (hk : k ≤ 100000) (ht : totS ss ≤ 100000) :
 Calls Tryz.prog 120 #[.pointer (some ⟨b, 0, none⟩), .int .i64 (k : Int)] w (OthQ base b size P w (otherP size ss k)) := by
 have HH := Lib.hid h
 obtain ⟨row, g, v, hB, hP⟩ := h
 obtain ⟨A, cap, rfl⟩ := own_sliceW hB.hr
 obtain ⟨c0, c1, c2⟩ := cells3 hB.hb
 have e1 : (ss.length : Int) - 1 = ((ss.length - 1 : Nat) : Int) := by omega
 have HF := Lib.hid (fits_any base b size ss P w HH.out (ss.length - 1) k (by omega) hz hk ht)
 rw [← e1] at HF
 have HE : Hid (otherP size ss k = if fitS size ss (ss.length - 1) k = true then some (ss, ss.length - 1) else if ss.length < 6 then some (ss ++ [[]], ss.length) else none) := Lib.hid (by unfold otherP fitS; simp)
 cases hf : fitS size ss (ss.length - 1) k
 · rw [hf] at HF HE
   by_cases hl : ss.length < 6
   · have HE2 : Hid (otherP size ss k = some (ss ++ [[]], ss.length)) := Lib.hid (by rw [HE.out, if_neg (by decide), if_pos hl])
     clear hB hP hf e1 HE
     go_enter Tryz.func120, Tryz.ntmps120
     go_wp2_with fail
     refine HF.out.mono ?_
     rintro e w1 ⟨rfl, hb1⟩
     have HB1 := Lib.hid hb1
     clear hb1
     go_wp2_with fail
     refine (open_more base b size ss P w1 (HH.out.low HB1.out) hl).mono ?_
     rintro e w2 ⟨rfl, hk2, hB2⟩
     have HK2 := Lib.hid hk2
     have HB2 := Lib.hid hB2
     clear hk2 hB2
     go_wp2
     go_ret
     exact .inr ⟨_, _, HE2.out, rfl, (KP.of_below HB1.out).trans HK2.out (fun _ _ h => h), HB2.out.weak (fun k hk => hk.imp id (fun h => Nat.le_trans HB1.out.size h))⟩
   · have HE2 : Hid (otherP size ss k = none) := Lib.hid (by rw [HE.out, if_neg (by decide), if_neg hl])
     have hl6 : ss.length = 6 := by omega
     have HL6 := Lib.hid hl6
     clear hB hP hf e1 HE hl6
     go_enter Tryz.func120, Tryz.ntmps120
     go_wp2_with fail
     refine HF.out.mono ?_
     rintro e w1 ⟨rfl, hb1⟩
     have HB1 := Lib.hid hb1
     clear hb1
     go_wp2_with fail
     refine (open_full base b size ss P w1 (HH.out.low HB1.out) HL6.out).mono ?_
     rintro e w2 ⟨rfl, hk2⟩
     have HK2 := Lib.hid hk2
     clear hk2
     go_wp2
     exact ⟨rfl, .inl ⟨HE2.out, rfl, (KP.of_below HB1.out).trans HK2.out (fun _ _ h => h)⟩⟩
 · rw [hf] at HF HE
   have HE2 : Hid (otherP size ss k = some (ss, ss.length - 1)) := Lib.hid (by rw [HE.out, if_pos rfl])
   have HE1 := Lib.hid e1
   clear hB hP hf e1 HE
   go_enter Tryz.func120, Tryz.ntmps120
   go_wp2_with fail
   refine HF.out.mono ?_
   rintro e w1 ⟨rfl, hb1⟩
   have HB1 := Lib.hid hb1
   clear hb1
   go_wp2
   go_ret
   exact .inr ⟨_, _, HE2.out, ret_int HE1.out, KP.of_below HB1.out, (HH.out.low HB1.out).weak (fun _ h => .inl h)⟩
def RoomQ (base b size : Nat) (P : Nat → Prop) (w : World) (r : Option (Segs × Nat × Nat)) (e : Ending) (w' : World) : Prop :=
 (r = none ∧ Too P w e w') ∨ ∃ s1 j c, r = some (s1, j, c) ∧ e = .returned (.agg #[.int .i64 (j : Int), .int .i64 (c : Int)]) ∧ KP P w w' ∧ Bun w' base b size s1 (fun k => P k ∨ w.heap.size ≤ k)
theorem KP.row {P : Nat → Prop} {w w' : World} (h : KP P w w') {k : Nat} {o : Obj} (hk : w.heap[k]? = some o) (hn : ¬ P k) : w'.heap[k]? = some o := (h.block k (row_lt hk) hn).trans hk
theorem nd_base {w w' : World} {base m : Nat} {n : Nd} {h : Hd} (hn : NdAt w (fun k => k < base) m n h) (hb : Below base w w') : NdAt w' (fun k => k < base) m n h := hn.map (fun _ h => h) (fun _ _ _ hs hc => hc.block (hb.block _ hs))
theorem kp_cell {P : Nat → Prop} {w w' : World} {q : Addr} {u : Value} (h : KP P w w') (hq : w.cell? q = some u) (hn : ¬ P q.block) : w'.cell? q = some u := (World.cell?_of_block (h.block q.block (World.block_lt_of_cell? w q hq) hn)).trans hq
theorem room_here (base b size : Nat) (ss : Segs) (P : Nat → Prop) (w : World) (h : Bun w base b size ss P) (hP0 : ∀ k, P k → base ≤ k ∧ k < w.heap.size) (hw8 : WdS ss) (i a : Nat) (hi : i < ss.length) (ha : a < wn (sgS ss i)) (ht : totS ss ≤ 200) (hz : size ≤ 200)
 (m : Nat) (n : Nd) (h1 : Hd) (hn : NdAt w (fun k => k < base) m n h1) (hf : formN n = true) (hm : totN m n ≤ 2000000) (ho : ownN n ≤ 300) (hk : n.kind ≠ 0) (hfit : wn (sgS ss i) + ownN n ≤ size) :
 Calls Tryz.prog 72 #[.pointer (some ⟨b, 0, none⟩), .agg #[.int .i64 n.kind, .string n.data, .slice h1.A n.ptrs.length h1.a, .int .i64 n.size, .int .i64 n.count, .slice h1.B n.items.length h1.b], .agg #[.int .i64 (i : Int), .int .i64 (a : Int)]] w (RoomQ base b size P w (roomP 200 size n ss i a)) := by
 obtain ⟨qA, qa, qB, qb⟩ := h1
 dsimp only at hn ⊢
 have hwi := wn_le_totS ss i
 have hF : fitS size ss i (ownN n) = true := by unfold fitS; exact decide_eq_true hfit
 have HE : Hid (roomP 200 size n ss i a = if totS ss + ownN n ≤ 200 then some (putS (growB ss i (ownN n)) i a (ptrW n ((wn (sgS ss i) : Int) - a - 1)), i, wn (sgS ss i)) else none) := Lib.hid (by unfold roomP; rw [if_pos hfit])
 have hb0 : Below w.heap.size w (((w.alloc (.cells #[.int .i64 n.kind, .string n.data, .slice qA n.ptrs.length qa, .int .i64 n.size, .int .i64 n.count, .slice qB n.items.length qb] nodeT)).alloc (.cells #[.int .i64 (i : Int), .int .i64 (a : Int)] plT)).alloc (.cells #[.int .i64 0, .int .i64 0] plT)) := (((Below.refl _ w).alloc (Nat.le_refl _) _).alloc (by simp) _).alloc (by simp; omega) _
 have r0 : (((w.alloc (.cells #[.int .i64 n.kind, .string n.data, .slice qA n.ptrs.length qa, .int .i64 n.size, .int .i64 n.count, .slice qB n.items.length qb] nodeT)).alloc (.cells #[.int .i64 (i : Int), .int .i64 (a : Int)] plT)).alloc (.cells #[.int .i64 0, .int .i64 0] plT)).heap[w.heap.size]? = some (.cells #[.int .i64 n.kind, .string n.data, .slice qA n.ptrs.length qa, .int .i64 n.size, .int .i64 n.count, .slice qB n.items.length qb] nodeT (0, 0)) := heap_alloc_keep (heap_alloc_keep (heap_alloc_new w _) _) _
 have r1 : (((w.alloc (.cells #[.int .i64 n.kind, .string n.data, .slice qA n.ptrs.length qa, .int .i64 n.size, .int .i64 n.count, .slice qB n.items.length qb] nodeT)).alloc (.cells #[.int .i64 (i : Int), .int .i64 (a : Int)] plT)).alloc (.cells #[.int .i64 0, .int .i64 0] plT)).heap[w.heap.size + 1]? = some (.cells #[.int .i64 (i : Int), .int .i64 (a : Int)] plT (0, 0)) := by
  have := heap_alloc_keep (heap_alloc_new (w.alloc (.cells #[.int .i64 n.kind, .string n.data, .slice qA n.ptrs.length qa, .int .i64 n.size, .int .i64 n.count, .slice qB n.items.length qb] nodeT)) (.cells #[.int .i64 (i : Int), .int .i64 (a : Int)] plT)) (.cells #[.int .i64 0, .int .i64 0] plT)
  simpa using this
 have r2 : (((w.alloc (.cells #[.int .i64 n.kind, .string n.data, .slice qA n.ptrs.length qa, .int .i64 n.size, .int .i64 n.count, .slice qB n.items.length qb] nodeT)).alloc (.cells #[.int .i64 (i : Int), .int .i64 (a : Int)] plT)).alloc (.cells #[.int .i64 0, .int .i64 0] plT)).heap[w.heap.size + 2]? = some (.cells #[.int .i64 0, .int .i64 0] plT (0, 0)) := by
  have := heap_alloc_new ((w.alloc (.cells #[.int .i64 n.kind, .string n.data, .slice qA n.ptrs.length qa, .int .i64 n.size, .int .i64 n.count, .slice qB n.items.length qb] nodeT)).alloc (.cells #[.int .i64 (i : Int), .int .i64 (a : Int)] plT)) (.cells #[.int .i64 0, .int .i64 0] plT)
  simpa using this
 have hs0 : (((w.alloc (.cells #[.int .i64 n.kind, .string n.data, .slice qA n.ptrs.length qa, .int .i64 n.size, .int .i64 n.count, .slice qB n.items.length qb] nodeT)).alloc (.cells #[.int .i64 (i : Int), .int .i64 (a : Int)] plT)).alloc (.cells #[.int .i64 0, .int .i64 0] plT)).heap.size = w.heap.size + 3 := by simp
 have HN := Lib.hid hn
 have HH := Lib.hid h
 have HB0 := Lib.hid hb0
 have R0 := Lib.hid r0
 have R1 := Lib.hid r1
 have R2 := Lib.hid r2
 have HP0 := Lib.hid hP0
 have HS0 := Lib.hid hs0
 clear hn h hb0 r0 r1 r2 hP0 hs0 hfit
 go_enter Tryz.func72, Tryz.ntmps72
 go_wp2_with fail
 generalize ((w.alloc (.cells #[.int .i64 n.kind, .string n.data, .slice qA n.ptrs.length qa, .int .i64 n.size, .int .i64 n.count, .slice qB n.items.length qb] nodeT)).alloc (.cells #[.int .i64 (i : Int), .int .i64 (a : Int)] plT)).alloc (.cells #[.int .i64 0, .int .i64 0] plT) = W0 at *
 refine (ownWords_a m n ⟨qA, qa, qB, qb⟩ W0 _ (HN.out.below HB0.out) hf hm).mono ?_
 rintro e w1 ⟨rfl, hb1⟩
 have HB1 := Lib.hid hb1
 have HC0 := Lib.hid ((hb1.block _ (by have := HS0.out; omega)).trans R0.out)
 have HC1 := Lib.hid ((hb1.block _ (by have := HS0.out; omega)).trans R1.out)
 have HC2 := Lib.hid ((hb1.block _ (by have := HS0.out; omega)).trans R2.out)
 obtain ⟨d0, d1⟩ := cell_pair HC1.out
 clear hb1
 go_wp2_with fail
 refine (fits_any base b size ss P w1 (HH.out.low (HB0.out.trans (HB1.out.mono HB0.out.size))) i (ownN n) hi (by omega) (by omega) (by omega)).mono ?_
 rw [hF]
 rintro e w2 ⟨rfl, hb2⟩
 have HB2 := Lib.hid ((HB0.out.trans (HB1.out.mono HB0.out.size)).trans (hb2.mono (Nat.le_trans HB0.out.size HB1.out.size)))
 have hs2 : w.heap.size + 3 ≤ w2.heap.size := by have := HS0.out; have := HB1.out.size; have := hb2.size; omega
 have HC0' := Lib.hid ((hb2.block _ (row_lt HC0.out)).trans HC0.out)
 have HC1' := Lib.hid ((hb2.block _ (row_lt HC1.out)).trans HC1.out)
 have HC2' := Lib.hid ((hb2.block _ (row_lt HC2.out)).trans HC2.out)
 clear hb2 d0 d1 HC0 HC1 HC2 R0 R1 R2 hF
 obtain ⟨d0, d1⟩ := cell_pair HC1'.out
 have HB := Lib.hid (HH.out.low HB2.out)
 by_cases ht2 : totS ss + ownN n ≤ 200
 · have HE2 : Hid (roomP 200 size n ss i a = some (putS (growB ss i (ownN n)) i a (ptrW n ((wn (sgS ss i) : Int) - a - 1)), i, wn (sgS ss i))) := Lib.hid (by rw [HE.out, if_pos ht2])
   go_wp2_with fail
   refine (grow_more base b size ss P w2 HB.out hw8 i (ownN n) hi ht2).mono ?_
   rintro e w3 ⟨rfl, hk3, hB3⟩
   have hs3 := hk3.size
   have HK3 := Lib.hid hk3
   have HT3 := Lib.hid hB3.tight
   have HD0 := Lib.hid (hk3.row HC0'.out (fun hp => by have := HP0.out _ hp; omega))
   have HD1 := Lib.hid (hk3.row HC1'.out (fun hp => by have := HP0.out _ hp; omega))
   have HD2 := Lib.hid (hk3.row HC2'.out (fun hp => by have := HP0.out _ hp; omega))
   have hb4 : Below w3.heap.size w3 (w3.alloc (.cells #[.int .i64 (i : Int), .int .i64 (wn (sgS ss i) : Int)] plT)).drew := ((Below.refl _ _).alloc (Nat.le_refl _) _).drew
   obtain ⟨n0, n1, n2, n3, n4, n5⟩ := cells6 ((hb4.block _ (row_lt HD0.out)).trans HD0.out)
   obtain ⟨t0, t1⟩ := cell_pair ((hb4.block _ (row_lt HD1.out)).trans HD1.out)
   obtain ⟨u0, u1⟩ := cell_pair (heap_alloc_new w3 (.cells #[.int .i64 (i : Int), .int .i64 (wn (sgS ss i) : Int)] plT))
   replace u0 : (w3.alloc (.cells #[.int .i64 (i : Int), .int .i64 (wn (sgS ss i) : Int)] plT)).drew.cell? ⟨w3.heap.size, 0, none⟩ = some (.int .i64 (i : Int)) := u0
   replace u1 : (w3.alloc (.cells #[.int .i64 (i : Int), .int .i64 (wn (sgS ss i) : Int)] plT)).drew.cell? ⟨w3.heap.size, 1, none⟩ = some (.int .i64 (wn (sgS ss i) : Int)) := u1
   have HB4 := Lib.hid hb4
   have hbb : base ≤ w.heap.size := by obtain ⟨_, _, _, hX, _⟩ := HH.out; have := (hX.lt b (.inl rfl)); omega
   have HN4 : Hid (NdAt (w3.alloc (.cells #[.int .i64 (i : Int), .int .i64 (wn (sgS ss i) : Int)] plT)).drew (fun k => k < base) m n ⟨qA, qa, qB, qb⟩) := Lib.hid (nd_base HN.out (((HB2.out.mono hbb).trans (HK3.out.below (by omega) (fun k hp => (HP0.out k hp).1))).trans (HB4.out.mono (by omega))))
   have HNP : Hid (∀ x, (w.heap.size ≤ x ∧ x < w.heap.size + 3) ∨ x = w3.heap.size → ¬ ((P x ∨ w2.heap.size ≤ x) ∧ base ≤ x ∧ x < w3.heap.size)) := Lib.hid (fun x hx hp => by
    rcases hx with hx | hx
    · rcases hp.1 with h | h
      · have := HP0.out x h; omega
      · omega
    · omega)
   have hw1 : IntKind.i64.wrap ((wn (sgS ss i) : Int) - (a : Int)) = (wn (sgS ss i) : Int) - (a : Int) := by rw [IntKind.wrap_i64]; omega
   have hw2 : IntKind.i64.wrap ((wn (sgS ss i) : Int) - (a : Int) - 1) = (wn (sgS ss i) : Int) - (a : Int) - 1 := by rw [IntKind.wrap_i64]; omega
   clear hk3 hB3 hb4 d0 d1 HC0' HC1' HC2'
   go_wp2_with fail
   go_region_held3 (fun V => (V.cell? ⟨w.heap.size, 0, none⟩ = some (.int .i64 n.kind) ∧ V.cell? ⟨w.heap.size, 1, none⟩ = some (.string n.data) ∧ V.cell? ⟨w.heap.size, 2, none⟩ = some (.slice qA n.ptrs.length qa) ∧ V.cell? ⟨w.heap.size, 3, none⟩ = some (.int .i64 n.size) ∧ V.cell? ⟨w.heap.size, 4, none⟩ = some (.int .i64 n.count) ∧ V.cell? ⟨w.heap.size, 5, none⟩ = some (.slice qB n.items.length qb)) ∧ (V.cell? ⟨w.heap.size + 1, 0, none⟩ = some (.int .i64 (i : Int)) ∧ V.cell? ⟨w.heap.size + 1, 1, none⟩ = some (.int .i64 (a : Int)) ∧ V.cell? ⟨w3.heap.size, 0, none⟩ = some (.int .i64 (i : Int)) ∧ V.cell? ⟨w3.heap.size, 1, none⟩ = some (.int .i64 (wn (sgS ss i) : Int)))) (((first | exact ⟨⟨n0, n1, n2, n3, n4, n5⟩, ⟨t0, t1, u0, u1⟩⟩ | exact ⟨⟨kcw hb5 n0, kcw hb5 n1, kcw hb5 n2, kcw hb5 n3, kcw hb5 n4, kcw hb5 n5⟩, ⟨kcw hb5 t0, kcw hb5 t1, kcw hb5 u0, kcw hb5 u1⟩⟩ | exact ⟨⟨hk6c (kcw hb5 n0) (by simp), hk6c (kcw hb5 n1) (by simp), hk6c (kcw hb5 n2) (by simp), hk6c (kcw hb5 n3) (by simp), hk6c (kcw hb5 n4) (by simp), hk6c (kcw hb5 n5) (by simp)⟩, ⟨hk6c (kcw hb5 t0) (by simp), hk6c (kcw hb5 t1) (by simp), hk6c (kcw hb5 u0) (by simp), hk6c (kcw hb5 u1) (by simp)⟩⟩))) (first | (go_at_call 74; (with_reducible refine (pointerTo_any m n ⟨qA, qa, qB, qb⟩ _ _ _ HN4.out hf hm ho hk).mono ?_); rintro e w5 ⟨rfl, hb5⟩) | (go_at_call 73; (with_reducible refine (set_node base b size (growB ss i (ownN n)) _ w5 ((HT3.out.low HB4.out).low hb5) (grow_wds hi hw8) i a (by rw [growB_length]; exact hi) (by rw [wn_grow hi]; omega) (by rw [grow_totS hi]; omega) n hf ho hk _ (by omega) (by omega)).mono ?_); rintro e w6 ⟨rfl, hk6, hB6⟩; have hk6c := fun {q : Addr} {u : Value} (hq : w5.cell? q = some u) (hp : (w.heap.size ≤ q.block ∧ q.block < w.heap.size + 3) ∨ q.block = w3.heap.size) => kp_cell hk6 hq (HNP.out _ hp)))
   have hd2 := (hk6.block _ (by have := hb5.size; have := HB4.out.size; omega) (HNP.out (w.heap.size + 2) (.inl (by omega)))).trans ((hb5.block _ (by have := HB4.out.size; omega)).trans ((HB4.out.block _ (row_lt HD2.out)).trans HD2.out))
   have hkw : KP P w w6 := ((KP.of_below HB2.out).trans HK3.out (fun _ _ h => h)).trans ((KP.of_below (HB4.out.trans (hb5.mono HB4.out.size)) : KP (fun k => (P k ∨ w2.heap.size ≤ k) ∧ base ≤ k ∧ k < w3.heap.size) w3 w5).trans hk6 (fun _ _ h => h)) (fun k hk h => by
    rcases h.1 with h | h
    · exact h
    · omega)
   have hBw := hB6.weak (Q := fun k => P k ∨ w.heap.size ≤ k) (fun k h => h.1.imp id (fun h => by omega))
   have HD2' := Lib.hid hd2
   have HKW := Lib.hid hkw
   have HBW := Lib.hid hBw
   obtain ⟨x0, x1⟩ := cell_pair hd2
   have xf0 := row_free hd2 0
   have xf1 := row_free hd2 1
   have y0 := hk6c (kcw hb5 u0) (.inr rfl)
   have y1 := hk6c (kcw hb5 u1) (.inr rfl)
   clear hk6 hB6 hb5 hk6c hw1 hw2 n0 n1 n2 n3 n4 n5 t0 t1 u0 u1 hd2 hkw hBw
   go_wp2_with fail
   have hrow := row_setN (row_setN HD2'.out 0 (.int .i64 (i : Int))) 1 (.int .i64 (wn (sgS ss i) : Int))
   obtain ⟨e0, e1⟩ := cell_pair hrow
   refine bodyPost_ret (v := .agg #[.int .i64 (i : Int), .int .i64 (wn (sgS ss i) : Int)]) (by simp [results, Tryz.results72, go_sem, e0, e1]) rfl (.inr ⟨_, _, _, HE2.out, rfl, ?_, ?_⟩)
   · exact HKW.out.trans (Q := fun k => w.heap.size ≤ k) ((KP.set (by show w.heap.size ≤ w.heap.size + 2; omega) _ 0 _).trans (KP.set (by show w.heap.size ≤ w.heap.size + 2; omega) _ 1 _) (fun _ _ h => h)) (fun k h1 h2 => by omega)
   · exact (HBW.out.other HD2'.out (by decide) 0 _).other (row_setN HD2'.out 0 _) (by decide) 1 _
 · have HE2 : Hid (roomP 200 size n ss i a = none) := Lib.hid (by rw [HE.out, if_neg ht2])
   go_wp2_with fail
   refine (grow_much base b size ss P w2 HB.out i (ownN n) ht (by omega) (by omega)).mono ?_
   rintro e w3 ⟨rfl, hk3⟩
   have HK3 := Lib.hid hk3
   clear hk3
   go_wp2
   exact ⟨rfl, .inl ⟨HE2.out, rfl, (KP.of_below HB2.out).trans HK3.out (fun _ _ h => h)⟩⟩
end Go.Proofs.YtlbfffokkhccaaaGreatDoor
