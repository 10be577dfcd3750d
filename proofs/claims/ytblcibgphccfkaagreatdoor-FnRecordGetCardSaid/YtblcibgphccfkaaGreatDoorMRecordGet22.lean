/- Texts of the proof of the law FnRecordGet, side by side: part 22. -/
import Derived.Test.YtblcibgphccfkaaGreatDoorMRecordGet21
set_option maxHeartbeats 8000000
set_option maxRecDepth 100000
namespace Go.Proofs.YtblcibgphccfkaaGreatDoor
open Go.RowKit
theorem mem_ptrs {n p : Nd} (h : p ∈ n.ptrs) : p ∈ ptrsL n := List.mem_append_left _ h
theorem mem_items {n y p : Nd} (h : y ∈ n.items) (hp : p ∈ y.ptrs) : p ∈ ptrsL n := List.mem_append_right _ (List.mem_flatMap.2 ⟨y, h, hp⟩)
theorem sum_flat (l : List Nd) (f : Nd → Nat) : ((l.flatMap Nd.ptrs).map f).sum = (l.map fun y => (y.ptrs.map f).sum).sum := by
 induction l with
 | nil => rfl
 | cons a t ih => rw [List.flatMap_cons, List.map_append, List.sum_append, ih]; rfl
theorem sum_ptrs (n : Nd) (f : Nd → Nat) : ((ptrsL n).map f).sum = (n.ptrs.map f).sum + (n.items.map fun y => (y.ptrs.map f).sum).sum := by
 unfold ptrsL
 rw [List.map_append, List.sum_append, sum_flat]
theorem tot_ptrs2 {w : World} {S : Nat → Prop} {m : Nat} {n : Nd} {h : Hd} (hn : NdAt w S m n h) : totL m (ptrsL n) + n.data.size + (n.items.map fun y => y.data.size).sum ≤ totN m n := by
 cases m with
 | zero =>
  rw [hn.2.2.zero]
  unfold totN
  simp only [List.map_nil, List.sum_nil]
  show 0 + _ + 0 ≤ _
  omega
 | succ m =>
  have h1 : totL (m + 1) (ptrsL n) = totL (m + 1) n.ptrs + (n.items.map fun y => totL (m + 1) y.ptrs).sum := by
   unfold ptrsL
   rw [totL_succ, List.map_append, List.sum_append, ← totL_succ, ← totL_succ, flat_tot]
  have h2 : (n.items.map fun y => totL (m + 1) y.ptrs + y.data.size).sum ≤ totL (m + 1) n.items := by
   rw [totL_succ]
   refine sum_le _ _ _ fun y hy => ?_
   obtain ⟨hd, h3⟩ := hn.2.2.mem y hy
   rw [totL_eq m _ _ h3.2.1]
   unfold totN
   omega
  have h4 : ∀ l : List Nd, (l.map fun y => totL (m + 1) y.ptrs + y.data.size).sum = (l.map fun y => totL (m + 1) y.ptrs).sum + (l.map fun y => y.data.size).sum := by
   intro l
   induction l with
   | nil => rfl
   | cons a t ih => simp only [List.map_cons, List.sum_cons, ih]; omega
  rw [h4] at h2
  rw [h1]
  unfold totN
  omega
theorem own_le2 (n : Nd) : ownN n ≤ n.data.size + (n.items.map fun y => y.data.size).sum + (ptrsL n).length + 1 := by
 have h1 : ownB n ≤ n.data.size + n.ptrs.length := by unfold ownB; omega
 have h2 : ∀ l : List Nd, (l.map ownB).sum ≤ (l.map fun y => y.data.size).sum + (l.flatMap Nd.ptrs).length := by
  intro l
  induction l with
  | nil => simp
  | cons a t ih =>
   have : ownB a ≤ a.data.size + a.ptrs.length := by unfold ownB; omega
   simp only [List.map_cons, List.sum_cons, List.flatMap_cons, List.length_append]
   omega
 have h3 := h2 n.items
 unfold ownN ptrsL
 rw [List.length_append]
 split <;> omega
theorem words_bound {w : World} {S : Nat → Prop} : ∀ (d m : Nat) (n : Nd) (h : Hd), NdAt w S m n h → okN d n = true → wordsN d n ≤ 2 * totN m n + 1 := by
 intro d
 induction d with
 | zero => intro m n h hn hok; exact Nat.zero_le _
 | succ d ih =>
  intro m n h hn hok
  obtain ⟨hf, hk⟩ := ok_kids hok
  have h1 := own_le2 n
  have h2 := tot_ptrs2 hn
  have h3 : ((ptrsL n).map (wordsN d)).sum + (ptrsL n).length ≤ 2 * totL m (ptrsL n) := by
   cases m with
   | zero =>
    have : ptrsL n = [] := by unfold ptrsL; rw [hn.2.1.zero, hn.2.2.zero]; rfl
    rw [this]; simp
   | succ m =>
    have hmem : ∀ p ∈ ptrsL n, ∃ hp : Hd, NdAt w S m p hp := by
     intro p hp
     unfold ptrsL at hp
     rcases List.mem_append.1 hp with hp | hp
     · exact hn.2.1.mem p hp
     · obtain ⟨y, hy, hpy⟩ := List.mem_flatMap.1 hp
       obtain ⟨hd, hyn⟩ := hn.2.2.mem y hy
       obtain ⟨j, rfl⟩ : ∃ j, m = j + 1 := by
        cases m with
        | zero => rw [hyn.2.1.zero] at hpy; cases hpy
        | succ j => exact ⟨j, rfl⟩
       obtain ⟨hd2, h4⟩ := hyn.2.1.mem p hpy
       exact ⟨hd2, h4.mono (by omega)⟩
    have h5 : ((ptrsL n).map fun p => wordsN d p + 1).sum ≤ ((ptrsL n).map fun p => 2 * (1 + totN m p)).sum := sum_le _ _ _ fun p hp => by
     obtain ⟨hd2, h6⟩ := hmem p hp
     have := ih m p hd2 h6 (hk p hp)
     omega
    have h7 : ∀ l : List Nd, (l.map fun p => wordsN d p + 1).sum = (l.map (wordsN d)).sum + l.length := by
     intro l
     induction l with
     | nil => rfl
     | cons a t ih => simp only [List.map_cons, List.sum_cons, List.length_cons, ih]; omega
    have h8 : ∀ l : List Nd, (l.map fun p => 2 * (1 + totN m p)).sum = 2 * (l.map fun p => 1 + totN m p).sum := by
     intro l
     induction l with
     | nil => rfl
     | cons a t ih => simp only [List.map_cons, List.sum_cons, ih]; omega
    rw [h7, h8, ← totL_succ] at h5
    exact h5
  show ownN n + _ ≤ _
  omega
def L4W (d : Nat) : Prop := ∀ (m : Nat) (n : Nd) (h : Hd) (w : World) (S : Nat → Prop), NdAt w S m n h → totN m n ≤ 2000000 → okN d n = true →
 Calls Tryz.prog 82 #[.agg #[.int .i64 n.kind, .string n.data, .slice h.A n.ptrs.length h.a, .int .i64 n.size, .int .i64 n.count, .slice h.B n.items.length h.b]] w fun e w' => e = .returned (.int .i64 (wordsN d n : Nat)) ∧ Below w.heap.size w w'
theorem l4Words_step (d : Nat) (ih : ∀ j, d = j + 1 → L4W j) : L4W d := by
 intro m n h w S hn ht hok
 have hbd := words_bound d m n h hn hok
 obtain ⟨qA, qa, qB, qb⟩ := h
 dsimp only at hn ⊢
 have hpl : n.ptrs.length ≤ 2000000 := totL_len' hn.2.1 (by unfold totN at ht; omega)
 have hil : n.items.length ≤ 2000000 := totL_len' hn.2.2 (by unfold totN at ht; omega)
 have hf := (ok_kids hok).1
 have hob := own_bound hn ht
 have HN := Lib.hid hn
 have HT := Lib.hid ht
 have hba := (Below.refl w.heap.size w).alloc (Nat.le_refl _) (.cells #[.int .i64 n.kind, .string n.data, .slice qA n.ptrs.length qa, .int .i64 n.size, .int .i64 n.count, .slice qB n.items.length qb] nodeT)
 have hr := heap_alloc_new w (.cells #[.int .i64 n.kind, .string n.data, .slice qA n.ptrs.length qa, .int .i64 n.size, .int .i64 n.count, .slice qB n.items.length qb] nodeT)
 have hsz : w.heap.size < (w.alloc (.cells #[.int .i64 n.kind, .string n.data, .slice qA n.ptrs.length qa, .int .i64 n.size, .int .i64 n.count, .slice qB n.items.length qb] nodeT)).heap.size := by simp
 have HOW := Lib.hid (l4Own_a m n ⟨qA, qa, qB, qb⟩ _ S (hn.below hba) hf ht)
 dsimp only at HOW
 have HBA := Lib.hid hba
 have HR := Lib.hid hr
 have HTOT : Hid (wordsN d n = ownN n + (n.ptrs.map (wordsN (d - 1))).sum + (n.items.map fun y => (y.ptrs.map (wordsN (d - 1))).sum).sum) := Lib.hid (by rw [words_kids hok, sum_ptrs]; omega)
 have HKID : Hid (∀ p ∈ ptrsL n, ∀ (m' : Nat) (hp : Hd) (W : World), NdAt W S m' p hp → totN m' p ≤ 2000000 → Calls Tryz.prog 82 #[.agg #[.int .i64 p.kind, .string p.data, .slice hp.A p.ptrs.length hp.a, .int .i64 p.size, .int .i64 p.count, .slice hp.B p.items.length hp.b]] W fun e w' => e = .returned (.int .i64 (wordsN (d - 1) p : Nat)) ∧ Below W.heap.size W w') := Lib.hid fun p hp m' h' W h1 h2 => by
  cases d with
  | zero =>
   have h3 := words_kids hok
   have h4 := ptrs_own n
   have h5 : (ptrsL n).length ≠ 0 := by intro h; rw [nil_of_len h] at hp; cases hp
   simp only [wordsN] at h3
   omega
  | succ j => exact ih j rfl m' p h' W S h1 h2 ((ok_kids hok).2 p hp)
 have htb : wordsN d n ≤ 4000001 := by omega
 clear hn ht hok hf ih hbd hba hr
 generalize wordsN d n = tt at *
 generalize ownN n = s0 at *
 have HS0 : Hid ((s0 : Int) = ((s0 : Nat) : Int)) := Lib.hid rfl
 go_enter Tryz.func82, Tryz.ntmps82
 go_wp2_with fail
 refine HOW.out.mono ?_
 rintro e w1 ⟨rfl, hb1⟩
 have hr1 := (hb1.block w.heap.size hsz).trans HR.out
 have HR1 := Lib.hid hr1
 have HB1 := Lib.hid (HBA.out.trans (hb1.mono HBA.out.size))
 obtain ⟨a0, a1, a2, a3, a4, a5⟩ := cells6 hr1
 clear hr1 hb1
 go_wp2
 go_loopw [3, 4] (fun u i wr => ∃ (k : Nat) (z : Int), u = .int .i64 z ∧ i = .int .i64 k ∧ k ≤ n.ptrs.length ∧ 0 ≤ z ∧ z ≤ 4000001 ∧ Hid (z = ((s0 + ((n.ptrs.take k).map (wordsN (d - 1))).sum : Nat) : Int)) ∧ Hid (Below w.heap.size w wr ∧ wr.heap[w.heap.size]? = some (.cells #[.int .i64 n.kind, .string n.data, .slice qA n.ptrs.length qa, .int .i64 n.size, .int .i64 n.count, .slice qB n.items.length qb] nodeT (0, 0)))) (fun _ i _ => n.ptrs.length - (intOf i).toNat)
 case atStart => exact ⟨0, _, rfl, rfl, by omega, by have := HS0.out; omega, by have := HS0.out; omega, Lib.hid (by rw [List.take_zero, List.map_nil, List.sum_nil]; have := HS0.out; omega), Lib.hid ⟨HB1.out, HR1.out⟩⟩
 case round =>
  obtain ⟨k, z, rfl, rfl, hk, hz0, hz1, HZ, HB⟩ := hrel
  obtain ⟨hbr, hrr⟩ := HB.out
  clear a0 a1 a2 a3 a4 a5
  obtain ⟨a0, a1, a2, a3, a4, a5⟩ := cells6 hrr
  by_cases hlt : k < n.ptrs.length
  · obtain ⟨m', rfl⟩ := HN.out.2.1.pred hlt
    obtain ⟨x, yA, ya, yB, yb, rfl, hc0, hdy, hny, hniy⟩ := HN.out.2.1.at6 hlt
    have hc := cell_below hbr _ _ _ hc0
    have HST := Lib.hid (sum_take_succ n.ptrs (wordsN (d - 1)) k hlt)
    have HSL := Lib.hid (sum_take_le n.ptrs (wordsN (d - 1)) (k + 1))
    have htp : totN m' n.ptrs[k] ≤ 2000000 := by have := totL_at (m := m') hlt; have := HT.out; unfold totN at this; omega
    have HC := Lib.hid (HKID.out _ (mem_ptrs (List.getElem_mem hlt)) m' ⟨yA, ya, yB, yb⟩ wr (NdAt.below ⟨hdy, hny, hniy⟩ hbr) htp)
    dsimp only at HC
    generalize n.ptrs[k] = y at hc HST HC
    have hzv : z + ((wordsN (d - 1)) y : Nat) ≤ 4000001 := by have := HZ.out; have := HST.out; have := HSL.out; have := HTOT.out; omega
    obtain ⟨c0, c1, c2, c3, c4, c5⟩ := hc
    dsimp only at c2 c5
    have HBR := Lib.hid hbr
    have HRR := Lib.hid hrr
    clear hbr hrr hc0 hdy hny hniy htp HB
    generalize (wordsN (d - 1)) y = v at *
    go_wp2_with fail
    refine HC.out.mono ?_
    rintro e w3 ⟨rfl, hb3⟩
    have HB3 := Lib.hid (And.intro (HBR.out.trans (hb3.mono HBR.out.size)) ((hb3.block w.heap.size (row_lt HRR.out)).trans HRR.out))
    clear hb3
    go_wp2
    go_roundw
    case rel => exact ⟨k + 1, _, rfl, by go_num, by omega, by omega, hzv, Lib.hid (by rw [HZ.out, HST.out]; omega), HB3⟩
    case measure => simp [intOf]; omega
  · obtain rfl : k = n.ptrs.length := by omega
    rw [List.take_of_length_le (Nat.le_refl _)] at HZ
    have HBR := Lib.hid hbr
    have HRR := Lib.hid hrr
    have HZP := HZ
    have hzp0 := hz0
    have hzp1 := hz1
    clear hbr hrr HB HZ
    go_wp2
    go_loopw [3, 5] (fun u i wr => ∃ (k : Nat) (z : Int), u = .int .i64 z ∧ i = .int .i64 k ∧ k ≤ n.items.length ∧ 0 ≤ z ∧ z ≤ 4000001 ∧ Hid (z = ((s0 + (n.ptrs.map (wordsN (d - 1))).sum + ((n.items.take k).map fun y => (y.ptrs.map (wordsN (d - 1))).sum).sum : Nat) : Int)) ∧ Hid (Below w.heap.size w wr ∧ wr.heap[w.heap.size]? = some (.cells #[.int .i64 n.kind, .string n.data, .slice qA n.ptrs.length qa, .int .i64 n.size, .int .i64 n.count, .slice qB n.items.length qb] nodeT (0, 0)))) (fun _ i _ => n.items.length - (intOf i).toNat)
    case atStart => exact ⟨0, _, rfl, rfl, by omega, hzp0, hzp1, Lib.hid (by rw [HZP.out]; simp), Lib.hid ⟨HBR.out, HRR.out⟩⟩
    case round =>
     clear hz0 hz1 hzp0 hzp1
     obtain ⟨k, z, rfl, rfl, hk, hz0, hz1, HZ, HB⟩ := hrel
     obtain ⟨hbr, hrr⟩ := HB.out
     clear a0 a1 a2 a3 a4 a5
     obtain ⟨a0, a1, a2, a3, a4, a5⟩ := cells6 hrr
     by_cases hlt : k < n.items.length
     · obtain ⟨m', rfl⟩ := HN.out.2.2.pred hlt
       obtain ⟨x, yA, ya, yB, yb, rfl, hc0, hdy, hny, hniy⟩ := HN.out.2.2.at6 hlt
       have HSTI := Lib.hid (sum_take_succ n.items (fun y => (y.ptrs.map (wordsN (d - 1))).sum) k hlt)
       have HSLI := Lib.hid (sum_take_le n.items (fun y => (y.ptrs.map (wordsN (d - 1))).sum) (k + 1))
       have HTP : Hid (totL m' (n.items[k]).ptrs ≤ 2000000) := Lib.hid (by have := totL_at (m := m') hlt; have := HT.out; unfold totN at *; omega)
       have hypl : (n.items[k]).ptrs.length ≤ 2000000 := totL_len' hny HTP.out
       have HMY := Lib.hid (fun p hp => HKID.out p (mem_items (List.getElem_mem hlt) hp))
       generalize n.items[k] = y at hc0 HSTI hny HTP hypl HMY
       have HC0 := Lib.hid hc0
       have HNY := Lib.hid hny
       have HBR := Lib.hid hbr
       have HRR := Lib.hid hrr
       have hzi0 := hz0
       have hzi1 := hz1
       clear hbr hrr hc0 hdy hny hniy HB
       go_wp2
       clear a0 a1 a2 a3 a4 a5
       go_loopw [3, 6] (fun u i wr => ∃ (q : Nat) (z : Int), u = .int .i64 z ∧ i = .int .i64 q ∧ q ≤ y.ptrs.length ∧ 0 ≤ z ∧ z ≤ 4000001 ∧ Hid (z = ((s0 + (n.ptrs.map (wordsN (d - 1))).sum + ((n.items.take k).map fun y => (y.ptrs.map (wordsN (d - 1))).sum).sum + ((y.ptrs.take q).map (wordsN (d - 1))).sum : Nat) : Int)) ∧ Hid (Below w.heap.size w wr ∧ wr.heap[w.heap.size]? = some (.cells #[.int .i64 n.kind, .string n.data, .slice qA n.ptrs.length qa, .int .i64 n.size, .int .i64 n.count, .slice (some x) n.items.length qb] nodeT (0, 0)))) (fun _ i _ => y.ptrs.length - (intOf i).toNat)
       case atStart => exact ⟨0, _, rfl, rfl, by omega, hzi0, hzi1, Lib.hid (by rw [HZ.out]; simp), Lib.hid ⟨HBR.out, HRR.out⟩⟩
       case round =>
        clear hz0 hz1 hzi0 hzi1
        obtain ⟨q, z, rfl, rfl, hq, hz0, hz1, HZQ, HB⟩ := hrel
        obtain ⟨hbr, hrr⟩ := HB.out
        obtain ⟨a0, a1, a2, a3, a4, a5⟩ := cells6 hrr
        have hc := cell_below hbr _ _ _ HC0.out
        obtain ⟨-, -, d2, -, -, -⟩ := hc
        dsimp only at d2
        by_cases hqt : q < y.ptrs.length
        · obtain ⟨m'', rfl⟩ := HNY.out.pred hqt
          obtain ⟨x2, zA, za, zB, zb, rfl, hc2, hdz, hnz, hniz⟩ := HNY.out.at6 hqt
          have hcz := cell_below hbr _ _ _ hc2
          have HST := Lib.hid (sum_take_succ y.ptrs (wordsN (d - 1)) q hqt)
          have HSL := Lib.hid (sum_take_le y.ptrs (wordsN (d - 1)) (q + 1))
          have htp : totN m'' y.ptrs[q] ≤ 2000000 := by have := totL_at (m := m'') hqt; have := HTP.out; omega
          have HC := Lib.hid (HMY.out _ (List.getElem_mem hqt) m'' ⟨zA, za, zB, zb⟩ wr (NdAt.below ⟨hdz, hnz, hniz⟩ hbr) htp)
          dsimp only at HC
          generalize y.ptrs[q] = t at hcz HST HC
          have hzv : z + ((wordsN (d - 1)) t : Nat) ≤ 4000001 := by have := HZQ.out; have := HST.out; have := HSL.out; have := HTOT.out; have := HSTI.out; have := HSLI.out; omega
          obtain ⟨c0, c1, c2, c3, c4, c5⟩ := hcz
          dsimp only at c2 c5
          have HBR := Lib.hid hbr
          have HRR := Lib.hid hrr
          clear hbr hrr hc2 hdz hnz hniz htp HB
          generalize (wordsN (d - 1)) t = v at *
          go_wp2_with fail
          refine HC.out.mono ?_
          rintro e w3 ⟨rfl, hb3⟩
          have HB3 := Lib.hid (And.intro (HBR.out.trans (hb3.mono HBR.out.size)) ((hb3.block w.heap.size (row_lt HRR.out)).trans HRR.out))
          clear hb3
          go_wp2
          go_roundw
          case rel => exact ⟨q + 1, _, rfl, by go_num, by omega, by omega, hzv, Lib.hid (by rw [HZQ.out, HST.out]; omega), HB3⟩
          case measure => simp [intOf]; omega
        · obtain rfl : q = y.ptrs.length := by omega
          rw [List.take_of_length_le (Nat.le_refl _)] at HZQ
          have HZ2 : Hid (z = ((s0 + (n.ptrs.map (wordsN (d - 1))).sum + ((n.items.take (k + 1)).map fun y => (y.ptrs.map (wordsN (d - 1))).sum).sum : Nat) : Int)) := Lib.hid (by rw [HZQ.out, HSTI.out]; omega)
          have HBB := Lib.hid (And.intro hbr hrr)
          clear hbr hrr HB
          go_wp2
          go_roundw
          case rel => exact ⟨k + 1, _, rfl, by go_num, by omega, hz0, hz1, HZ2, HBB⟩
          case measure => simp [intOf]; omega
     · obtain rfl : k = n.items.length := by omega
       rw [List.take_of_length_le (Nat.le_refl _)] at HZ
       have HBR := Lib.hid hbr
       clear hbr hrr HB
       go_wp2
       go_ret
       exact ⟨by rw [HTOT.out, HZ.out]; rfl, HBR.out⟩
theorem l4Words_any : ∀ d, L4W d
 | 0 => l4Words_step 0 (fun j hj => by omega)
 | d + 1 => l4Words_step (d + 1) (fun j hj => by
   obtain rfl : d = j := by omega
   exact l4Words_any d)
theorem specNodeOk_a (m : Nat) (n : Nd) (h : Hd) (w : World) (S : Nat → Prop) (hn : NdAt w S m n h) (ht : totN m n ≤ 2000000) :
 Calls Tryz.prog 53 #[.agg #[.int .i64 n.kind, .string n.data, .slice h.A n.ptrs.length h.a, .int .i64 n.size, .int .i64 n.count, .slice h.B n.items.length h.b]] w fun e w' => e = .returned (.bool (nodeOk n)) ∧ Below w.heap.size w w' := by
 have hb0 := (Below.refl w.heap.size w).alloc (Nat.le_refl _) (.cells #[.int .i64 n.kind, .string n.data, .slice h.A n.ptrs.length h.a, .int .i64 n.size, .int .i64 n.count, .slice h.B n.items.length h.b] nodeT)
 have HB0 := Lib.hid hb0
 have HBX := Lib.hid (heap_alloc_new w (.cells #[.int .i64 n.kind, .string n.data, .slice h.A n.ptrs.length h.a, .int .i64 n.size, .int .i64 n.count, .slice h.B n.items.length h.b] nodeT))
 have HO := Lib.hid (l4Ok_any 8 (by decide) m n h _ S (hn.below hb0) ht)
 rw [show (((8 : Nat)) : Int) = 8 from rfl] at HO
 have HWO : Hid (okN 8 n = true → ∀ W : World, Below w.heap.size w W → Calls Tryz.prog 82 #[.agg #[.int .i64 n.kind, .string n.data, .slice h.A n.ptrs.length h.a, .int .i64 n.size, .int .i64 n.count, .slice h.B n.items.length h.b]] W fun e w' => e = .returned (.int .i64 (wordsN 8 n : Nat)) ∧ Below W.heap.size W w') := Lib.hid fun hok W hb => l4Words_any 8 m n h W S (hn.below hb) ht hok
 clear hn ht hb0
 cases hok : okN 8 n
 · have HX : Hid (nodeOk n = false) := Lib.hid (by unfold nodeOk; rw [hok]; rfl)
   rw [hok] at HO
   clear hok
   go_enter Tryz.func53, Tryz.ntmps53
   go_wp2_with fail
   refine HO.out.mono ?_
   rintro e w2 ⟨rfl, hb2⟩
   have HB2 := Lib.hid (HB0.out.trans (hb2.mono HB0.out.size))
   clear hb2
   go_wp2
   go_ret
   exact ⟨by rw [HX.out]; rfl, HB2.out⟩
 · have HX : Hid (nodeOk n = decide (((wordsN 8 n : Nat) : Int) < 200)) := Lib.hid (by unfold nodeOk; rw [hok, Bool.true_and, Bool.eq_iff_iff]; simp only [decide_eq_true_eq]; omega)
   have HC := Lib.hid (HWO.out hok)
   rw [hok] at HO
   clear HWO hok
   generalize wordsN 8 n = wd at *
   go_enter Tryz.func53, Tryz.ntmps53
   go_wp2_with fail
   refine HO.out.mono ?_
   rintro e w2 ⟨rfl, hb2⟩
   obtain ⟨a0, a1, a2, a3, a4, a5⟩ := cells6 ((hb2.block w.heap.size (by simp)).trans HBX.out)
   have HB2 := Lib.hid (HB0.out.trans (hb2.mono HB0.out.size))
   clear hb2
   go_wp2_with fail
   refine (HC.out _ HB2.out).mono ?_
   rintro e w3 ⟨rfl, hb3⟩
   have HB3 := Lib.hid (HB2.out.trans (hb3.mono HB2.out.size))
   clear hb3
   go_wp2
   go_ret
   exact ⟨by rw [HX.out]; rfl, HB3.out⟩
theorem ne2 (k : Int) : (k != 2) = decide (k ≠ 2) := by by_cases h : k = 2 <;> simp [h]
theorem l8Is_a (A : Option Addr) (c : Nat) (l : List Fld) (m : Nat) (n : Nd) (h : Hd) (w : World) (S : Nat → Prop) (hl : Flds w A l) (hll : l.length ≤ 10000000) (hn : NdAt w S m n h) (htn : totN m n ≤ 2000000) :
 Calls Tryz.prog 33 #[.slice A l.length c, .agg #[.int .i64 n.kind, .string n.data, .slice h.A n.ptrs.length h.a, .int .i64 n.size, .int .i64 n.count, .slice h.B n.items.length h.b]] w fun e w' => e = .returned (.bool (recB l n)) ∧ Below w.heap.size w w' := by
 have hbx := (Below.refl w.heap.size w).alloc (Nat.le_refl _) (.cells #[.int .i64 n.kind, .string n.data, .slice h.A n.ptrs.length h.a, .int .i64 n.size, .int .i64 n.count, .slice h.B n.items.length h.b] nodeT)
 have HR0 := Lib.hid (heap_alloc_new w (.cells #[.int .i64 n.kind, .string n.data, .slice h.A n.ptrs.length h.a, .int .i64 n.size, .int .i64 n.count, .slice h.B n.items.length h.b] nodeT))
 have HF := Lib.hid (specFieldsOk_any A c l _ (hl.below hbx) hll)
 have HNO : Hid (∀ W : World, Below w.heap.size w W → Calls Tryz.prog 53 #[.agg #[.int .i64 n.kind, .string n.data, .slice h.A n.ptrs.length h.a, .int .i64 n.size, .int .i64 n.count, .slice h.B n.items.length h.b]] W fun e w' => e = .returned (.bool (nodeOk n)) ∧ Below W.heap.size W w') := Lib.hid fun W hW => specNodeOk_a m n h W S (hn.below hW) htn
 have HBX := Lib.hid hbx
 clear hn hl hbx
 cases hok : fldsOk l
 · have HX : Hid (recB l n = false) := Lib.hid (by unfold recB; rw [hok]; rfl)
   rw [hok] at HF
   clear hok
   go_enter Tryz.func33, Tryz.ntmps33
   go_wp2_with fail
   refine HF.out.mono ?_
   rintro e w1 ⟨rfl, hb1⟩
   have HB1 := Lib.hid (HBX.out.trans (hb1.mono HBX.out.size))
   clear hb1
   go_wp2
   go_ret
   exact ⟨by rw [HX.out]; rfl, HB1.out⟩
 · have HX : Hid (recB l n = (nodeOk n && (n.kind != 2))) := Lib.hid (by unfold recB isRec; rw [hok, Bool.true_and, Bool.and_comm, ne2])
   rw [hok] at HF
   clear hok
   go_enter Tryz.func33, Tryz.ntmps33
   go_wp2_with fail
   refine HF.out.mono ?_
   rintro e w1 ⟨rfl, hb1⟩
   have hr1 := (hb1.block _ (row_lt HR0.out)).trans HR0.out
   have HR1 := Lib.hid hr1
   obtain ⟨a0, a1, a2, a3, a4, a5⟩ := cells6 hr1
   have HB1 := Lib.hid (HBX.out.trans (hb1.mono HBX.out.size))
   clear hb1 hr1
   go_wp2_with fail
   refine (HNO.out _ HB1.out).mono ?_
   rintro e w2 ⟨rfl, hb2⟩
   clear a0 a1 a2 a3 a4 a5
   obtain ⟨a0, a1, a2, a3, a4, a5⟩ := cells6 ((hb2.block _ (row_lt HR1.out)).trans HR1.out)
   have HB2 := Lib.hid (HB1.out.trans (hb2.mono HB1.out.size))
   clear hb2
   cases hno : nodeOk n
   · rw [hno] at HX
     clear hno HNO
     go_wp2
     go_ret
     exact ⟨by rw [HX.out]; rfl, HB2.out⟩
   · rw [hno] at HX
     clear hno HNO
     go_wp2
     go_ret
     exact ⟨by rw [HX.out]; rfl, HB2.out⟩
def layV4 (l : List Fld) (v1 : Value) : Value := .agg #[.int .i64 ((layF l ps0).2.ls.words : Int), .int .i64 ((layF l ps0).2.ptrs : Int), v1, .int .i64 (tagL l)]
theorem l8Chosen_a (A1 : Option Addr) (ln cp1 : Nat) (l : List Fld) (n : Nd) (h : Hd) (w : World) (hd : n.data.size ≤ maxLen) (hok : recB l n = true) :
 Calls Tryz.prog 36 #[layV4 l (.slice A1 ln cp1), .agg #[.int .i64 n.kind, .string n.data, .slice h.A n.ptrs.length h.a, .int .i64 n.size, .int .i64 n.count, .slice h.B n.items.length h.b]] w fun e w' => e = .returned (.int .i64 (choN l n)) ∧ Below w.heap.size w w' := by
 have hb := tagL_bd (rec_data hok).2.2
 have HX : Hid (choN l n = if tagL l < 0 then -1 else wrap64 (leN n.data.data.toList (2 * tagL l).toNat 2 : Nat)) := Lib.hid (by unfold choN; rw [if_pos hok])
 unfold layV4
 generalize tagL l = tg at *
 have hbx : Below w.heap.size w ((w.alloc (.cells #[.int .i64 ((layF l ps0).2.ls.words : Int), .int .i64 ((layF l ps0).2.ptrs : Int), .slice A1 ln cp1, .int .i64 tg] 37)).alloc (.cells #[.int .i64 n.kind, .string n.data, .slice h.A n.ptrs.length h.a, .int .i64 n.size, .int .i64 n.count, .slice h.B n.items.length h.b] nodeT)) := ((Below.refl _ _).alloc (Nat.le_refl _) _).alloc (by simp) _
 have hg0 : ((w.alloc (.cells #[.int .i64 ((layF l ps0).2.ls.words : Int), .int .i64 ((layF l ps0).2.ptrs : Int), .slice A1 ln cp1, .int .i64 tg] 37)).alloc (.cells #[.int .i64 n.kind, .string n.data, .slice h.A n.ptrs.length h.a, .int .i64 n.size, .int .i64 n.count, .slice h.B n.items.length h.b] nodeT)).heap[w.heap.size]? = some (.cells #[.int .i64 ((layF l ps0).2.ls.words : Int), .int .i64 ((layF l ps0).2.ptrs : Int), .slice A1 ln cp1, .int .i64 tg] 37 (0, 0)) := heap_alloc_keep (heap_alloc_new w _) _
 obtain ⟨c0, c1, c2, c3⟩ := cells4 hg0
 have HBX := Lib.hid hbx
 clear hbx hg0
 by_cases hneg : tg < 0
 · rw [if_pos hneg] at HX
   go_enter Tryz.func36, Tryz.ntmps36
   go_wp2_with fail
   go_ret
   exact ⟨by rw [HX.out]; rfl, HBX.out⟩
 · rw [if_neg hneg] at HX
   have hw : wrap64 (2 * tg) = 2 * tg := by unfold wrap64; omega
   have HW := Lib.hid hw
   clear hw
   have HL := Lib.hid (fun W => l1Get_any n.data (2 * tg) 2 W hd (by omega) (by omega) (by decide) (by decide))
   rw [show (2 : Int).toNat = 2 from rfl] at HL
   generalize wrap64 (leN n.data.data.toList (2 * tg).toNat 2 : Nat) = r at *
   go_enter Tryz.func36, Tryz.ntmps36
   go_wp2_with fail
   refine (HL.out _).mono ?_
   rintro e w2 ⟨rfl, rfl⟩
   go_wp2
   go_ret
   exact ⟨by rw [HX.out]; rfl, HBX.out⟩
open Go.RowKit Go.Deep
theorem bitsAll_wd {z : Int} (hz : z = 2 ∨ z = 3 ∨ z = 4 ∨ z = 5) : bitsAll z = 8 * wdF z := by
 rcases hz with rfl | rfl | rfl | rfl <;> rfl
theorem l8Number_bit (fc : Bool) (el : Int) (d : ByteArray) (s : Int) (w : World) (hd : d.size ≤ maxLen) :
 Calls Tryz.prog 39 #[.agg #[.int .i64 1, .bool fc, .int .i64 el], .string d, .int .i64 s] w fun e w' => e = .returned (.int .i64 (xorI (bitI d.data.toList s) el)) ∧ Below w.heap.size w w' := by
 have HB0 := Lib.hid ((Below.refl w.heap.size w).alloc (Nat.le_refl _) (.cells #[.int .i64 1, .bool fc, .int .i64 el] 41))
 have HX : Hid (xorI (bitI d.data.toList s) el = bits .xor .i64 (bitI d.data.toList s) el) := Lib.hid rfl
 have HS := Lib.hid (fun W => specBitGet_any d s W hd)
 have hq : ∀ V : World, (V.alloc (.cells #[.int .i64 1, .bool fc, .int .i64 el] 41)).drew.cell? ⟨V.heap.size, 2, none⟩ = some (.int .i64 el) := fun V => by
  show (V.alloc _).cell? _ = _
  rw [cell_of_row _ _ _ _ _ _ (heap_alloc_new V _)]; rfl
 generalize bitI d.data.toList s = gv at *
 go_enter Tryz.func39, Tryz.ntmps39
 go_wp2
 go_region_with (go_at_call 66; refine (HS.out _).mono ?_; rintro e w2 ⟨rfl, rfl⟩)
 all_goals
  go_wp2
  go_ret
  exact ⟨by rw [HX.out]; rfl, HB0.out.drew⟩
theorem l8Number_num (z : Int) (hz : z = 2 ∨ z = 3 ∨ z = 4 ∨ z = 5) (fc : Bool) (el : Int) (d : ByteArray) (s : Nat) (hs : s ≤ 2000) (w : World) (hd : d.size ≤ maxLen) (hw : d.data.toList.length % 8 = 0 ∧ d.data.toList.length ≤ 1600) :
 Calls Tryz.prog 39 #[.agg #[.int .i64 z, .bool fc, .int .i64 el], .string d, .int .i64 (s : Int)] w fun e w' => e = .returned (.int .i64 (xorI (getI d.data.toList ((s : Int) * wdF z) (wdF z)) el)) ∧ Below w.heap.size w w' := by
 have hbd := wdF_bd z
 have hor := wdF_or z
 have hmul : 0 ≤ (s : Int) * wdF z ∧ (s : Int) * wdF z ≤ 16000 := by
  refine ⟨Int.mul_nonneg (by omega) hbd.1, ?_⟩
  have := Int.mul_le_mul (show (s : Int) ≤ 2000 by omega) hbd.2 hbd.1 (by decide)
  omega
 have HS : Hid (∀ W : World, Calls Tryz.prog 65 #[.string d, .int .i64 ((s : Int) * wdF z), .int .i64 (wdF z)] W fun e w' => e = .returned (.int .i64 (getI d.data.toList ((s : Int) * wdF z) (wdF z))) ∧ W = w') := Lib.hid fun W => by
  have := l1Get_any d ((s : Int) * wdF z) (wdF z) W hd hmul.1 (by omega) hbd.1 hbd.2
  rwa [← getI_lg (l := d.data.toList) hw hor hmul.1 (by rw [Int.mul_emod_left])] at this
 have HL := Lib.hid (fun W => l2Bits_any z W (by omega) (by omega))
 rw [bitsAll_wd hz] at HL
 have hdiv : (8 * wdF z).tdiv 8 = wdF z := by rw [Int.tdiv_eq_ediv_of_nonneg (by omega)]; omega
 have HB0 := Lib.hid ((Below.refl w.heap.size w).alloc (Nat.le_refl _) (.cells #[.int .i64 z, .bool fc, .int .i64 el] 41))
 have HR0 := Lib.hid (heap_alloc_new w (.cells #[.int .i64 z, .bool fc, .int .i64 el] 41))
 have HX : Hid (xorI (getI d.data.toList ((s : Int) * wdF z) (wdF z)) el = bits .xor .i64 (getI d.data.toList ((s : Int) * wdF z) (wdF z)) el) := Lib.hid rfl
 have hz1 : (z == 1) = false := by simp; omega
 have hwm : IntKind.i64.wrap ((s : Int) * wdF z) = (s : Int) * wdF z := by rw [IntKind.wrap_i64]; omega
 have hwq : IntKind.i64.wrap (wdF z) = wdF z := by rw [IntKind.wrap_i64]; omega
 generalize getI d.data.toList ((s : Int) * wdF z) (wdF z) = gv at *
 generalize wdF z = q at *
 have HWM := Lib.hid hwm
 have HWQ := Lib.hid hwq
 have HDV := Lib.hid hdiv
 generalize hm : (s : Int) * q = mm at *
 have HMM := Lib.hid hm
 clear hwm hwq hdiv hmul hbd hor hz hw hd hs hm
 go_enter Tryz.func39, Tryz.ntmps39
 go_wp2_with fail
 refine (HL.out _).mono ?_
 rintro e w2 ⟨rfl, hb2⟩
 have HB2 := Lib.hid (HB0.out.trans (hb2.mono HB0.out.size))
 have hr2 := (hb2.block _ (row_lt HR0.out)).trans HR0.out
 have q0 : w2.drew.cell? ⟨w.heap.size, 0, none⟩ = some (.int .i64 z) := by show w2.cell? _ = _; rw [cell_of_row _ _ _ _ _ _ hr2]; rfl
 have q2 : w2.drew.cell? ⟨w.heap.size, 2, none⟩ = some (.int .i64 el) := by show w2.cell? _ = _; rw [cell_of_row _ _ _ _ _ _ hr2]; rfl
 clear hb2 hr2
 have hdv := HDV.out
 have hwq := HWQ.out
 go_wp2_with fail
 clear hdv hwq
 have hmm := HMM.out
 have hwm := HWM.out
 go_region_with (go_at_call 65; refine (HS.out _).mono ?_; rintro e w3 ⟨rfl, rfl⟩)
 all_goals
  clear hmm hwm
  go_wp2
  go_ret
  exact ⟨by rw [HX.out]; rfl, HB2.out.drew⟩
end Go.Proofs.YtblcibgphccfkaaGreatDoor
