/- Texts of the proof of the law FnRecordOf, side by side: part 23. -/
import Derived.Lib.ConvBytes
import Derived.Test.YtblcibgphccfkaaGreatDoorMRecordOf22
set_option maxHeartbeats 8000000
set_option maxRecDepth 100000
namespace Go.Proofs.YtblcibgphccfkaaGreatDoor
open Go.RowKit
theorem mem_ptrs {n p : Nd} (h : p ∈ n.ptrs) : p ∈ ptrsL n := List.mem_append_left _ h
theorem mem_items {n y p : Nd} (h : y ∈ n.items) (hp : p ∈ y.ptrs) : p ∈ ptrsL n := List.mem_append_right _ (List.mem_flatMap.2 ⟨y, h, hp⟩)
theorem sum_flat (l : List Nd) (f : Nd → Nat) : ((l.flatMap Nd.ptrs).map f).sum = (l.map fun y => (y.ptrs.map f).sum).sum := by
 induction l with
 | nil => rfl
 | cons a t ih => rw [List.flatMap_cons, List.map_append, List.sum_append, ih]; rfl
theorem sum_ptrs (n : Nd) (f : Nd → Nat) : ((ptrsL n).map f).sum = (n.ptrs.map f).sum + (n.items.map fun y => (y.ptrs.map f).sum).sum := by
 unfold ptrsL
 rw [List.map_append, List.sum_append, sum_flat]
theorem tot_ptrs2 {w : World} {S : Nat → Prop} {m : Nat} {n : Nd} {h : Hd} (hn : NdAt w S m n h) : totL m (ptrsL n) + n.data.size + (n.items.map fun y => y.data.size).sum ≤ totN m n := by
 cases m with
 | zero =>
  rw [hn.2.2.zero]
  unfold totN
  simp only [List.map_nil, List.sum_nil]
  show 0 + _ + 0 ≤ _
  omega
 | succ m =>
  have h1 : totL (m + 1) (ptrsL n) = totL (m + 1) n.ptrs + (n.items.map fun y => totL (m + 1) y.ptrs).sum := by
   unfold ptrsL
   rw [totL_succ, List.map_append, List.sum_append, ← totL_succ, ← totL_succ, flat_tot]
  have h2 : (n.items.map fun y => totL (m + 1) y.ptrs + y.data.size).sum ≤ totL (m + 1) n.items := by
   rw [totL_succ]
   refine sum_le _ _ _ fun y hy => ?_
   obtain ⟨hd, h3⟩ := hn.2.2.mem y hy
   rw [totL_eq m _ _ h3.2.1]
   unfold totN
   omega
  have h4 : ∀ l : List Nd, (l.map fun y => totL (m + 1) y.ptrs + y.data.size).sum = (l.map fun y => totL (m + 1) y.ptrs).sum + (l.map fun y => y.data.size).sum := by
   intro l
   induction l with
   | nil => rfl
   | cons a t ih => simp only [List.map_cons, List.sum_cons, ih]; omega
  rw [h4] at h2
  rw [h1]
  unfold totN
  omega
theorem own_le2 (n : Nd) : ownN n ≤ n.data.size + (n.items.map fun y => y.data.size).sum + (ptrsL n).length + 1 := by
 have h1 : ownB n ≤ n.data.size + n.ptrs.length := by unfold ownB; omega
 have h2 : ∀ l : List Nd, (l.map ownB).sum ≤ (l.map fun y => y.data.size).sum + (l.flatMap Nd.ptrs).length := by
  intro l
  induction l with
  | nil => simp
  | cons a t ih =>
   have : ownB a ≤ a.data.size + a.ptrs.length := by unfold ownB; omega
   simp only [List.map_cons, List.sum_cons, List.flatMap_cons, List.length_append]
   omega
 have h3 := h2 n.items
 unfold ownN ptrsL
 rw [List.length_append]
 split <;> omega
theorem words_bound {w : World} {S : Nat → Prop} : ∀ (d m : Nat) (n : Nd) (h : Hd), NdAt w S m n h → okN d n = true → wordsN d n ≤ 2 * totN m n + 1 := by
 intro d
 induction d with
 | zero => intro m n h hn hok; exact Nat.zero_le _
 | succ d ih =>
  intro m n h hn hok
  obtain ⟨hf, hk⟩ := ok_kids hok
  have h1 := own_le2 n
  have h2 := tot_ptrs2 hn
  have h3 : ((ptrsL n).map (wordsN d)).sum + (ptrsL n).length ≤ 2 * totL m (ptrsL n) := by
   cases m with
   | zero =>
    have : ptrsL n = [] := by unfold ptrsL; rw [hn.2.1.zero, hn.2.2.zero]; rfl
    rw [this]; simp
   | succ m =>
    have hmem : ∀ p ∈ ptrsL n, ∃ hp : Hd, NdAt w S m p hp := by
     intro p hp
     unfold ptrsL at hp
     rcases List.mem_append.1 hp with hp | hp
     · exact hn.2.1.mem p hp
     · obtain ⟨y, hy, hpy⟩ := List.mem_flatMap.1 hp
       obtain ⟨hd, hyn⟩ := hn.2.2.mem y hy
       obtain ⟨j, rfl⟩ : ∃ j, m = j + 1 := by
        cases m with
        | zero => rw [hyn.2.1.zero] at hpy; cases hpy
        | succ j => exact ⟨j, rfl⟩
       obtain ⟨hd2, h4⟩ := hyn.2.1.mem p hpy
       exact ⟨hd2, h4.mono (by omega)⟩
    have h5 : ((ptrsL n).map fun p => wordsN d p + 1).sum ≤ ((ptrsL n).map fun p => 2 * (1 + totN m p)).sum := sum_le _ _ _ fun p hp => by
     obtain ⟨hd2, h6⟩ := hmem p hp
     have := ih m p hd2 h6 (hk p hp)
     omega
    have h7 : ∀ l : List Nd, (l.map fun p => wordsN d p + 1).sum = (l.map (wordsN d)).sum + l.length := by
     intro l
     induction l with
     | nil => rfl
     | cons a t ih => simp only [List.map_cons, List.sum_cons, List.length_cons, ih]; omega
    have h8 : ∀ l : List Nd, (l.map fun p => 2 * (1 + totN m p)).sum = 2 * (l.map fun p => 1 + totN m p).sum := by
     intro l
     induction l with
     | nil => rfl
     | cons a t ih => simp only [List.map_cons, List.sum_cons, ih]; omega
    rw [h7, h8, ← totL_succ] at h5
    exact h5
  show ownN n + _ ≤ _
  omega
def L4W (d : Nat) : Prop := ∀ (m : Nat) (n : Nd) (h : Hd) (w : World) (S : Nat → Prop), NdAt w S m n h → totN m n ≤ 2000000 → okN d n = true →
 Calls Tryz.prog 82 #[.agg #[.int .i64 n.kind, .string n.data, .slice h.A n.ptrs.length h.a, .int .i64 n.size, .int .i64 n.count, .slice h.B n.items.length h.b]] w fun e w' => e = .returned (.int .i64 (wordsN d n : Nat)) ∧ Below w.heap.size w w'
theorem l4Words_step (d : Nat) (ih : ∀ j, d = j + 1 → L4W j) : L4W d := by
 intro m n h w S hn ht hok
 have hbd := words_bound d m n h hn hok
 obtain ⟨qA, qa, qB, qb⟩ := h
 dsimp only at hn ⊢
 have hpl : n.ptrs.length ≤ 2000000 := totL_len' hn.2.1 (by unfold totN at ht; omega)
 have hil : n.items.length ≤ 2000000 := totL_len' hn.2.2 (by unfold totN at ht; omega)
 have hf := (ok_kids hok).1
 have hob := own_bound hn ht
 have HN := Lib.hid hn
 have HT := Lib.hid ht
 have hba := (Below.refl w.heap.size w).alloc (Nat.le_refl _) (.cells #[.int .i64 n.kind, .string n.data, .slice qA n.ptrs.length qa, .int .i64 n.size, .int .i64 n.count, .slice qB n.items.length qb] nodeT)
 have hr := heap_alloc_new w (.cells #[.int .i64 n.kind, .string n.data, .slice qA n.ptrs.length qa, .int .i64 n.size, .int .i64 n.count, .slice qB n.items.length qb] nodeT)
 have hsz : w.heap.size < (w.alloc (.cells #[.int .i64 n.kind, .string n.data, .slice qA n.ptrs.length qa, .int .i64 n.size, .int .i64 n.count, .slice qB n.items.length qb] nodeT)).heap.size := by simp
 have HOW := Lib.hid (l4Own_a m n ⟨qA, qa, qB, qb⟩ _ S (hn.below hba) hf ht)
 dsimp only at HOW
 have HBA := Lib.hid hba
 have HR := Lib.hid hr
 have HTOT : Hid (wordsN d n = ownN n + (n.ptrs.map (wordsN (d - 1))).sum + (n.items.map fun y => (y.ptrs.map (wordsN (d - 1))).sum).sum) := Lib.hid (by rw [words_kids hok, sum_ptrs]; omega)
 have HKID : Hid (∀ p ∈ ptrsL n, ∀ (m' : Nat) (hp : Hd) (W : World), NdAt W S m' p hp → totN m' p ≤ 2000000 → Calls Tryz.prog 82 #[.agg #[.int .i64 p.kind, .string p.data, .slice hp.A p.ptrs.length hp.a, .int .i64 p.size, .int .i64 p.count, .slice hp.B p.items.length hp.b]] W fun e w' => e = .returned (.int .i64 (wordsN (d - 1) p : Nat)) ∧ Below W.heap.size W w') := Lib.hid fun p hp m' h' W h1 h2 => by
  cases d with
  | zero =>
   have h3 := words_kids hok
   have h4 := ptrs_own n
   have h5 : (ptrsL n).length ≠ 0 := by intro h; rw [nil_of_len h] at hp; cases hp
   simp only [wordsN] at h3
   omega
  | succ j => exact ih j rfl m' p h' W S h1 h2 ((ok_kids hok).2 p hp)
 have htb : wordsN d n ≤ 4000001 := by omega
 clear hn ht hok hf ih hbd hba hr
 generalize wordsN d n = tt at *
 generalize ownN n = s0 at *
 have HS0 : Hid ((s0 : Int) = ((s0 : Nat) : Int)) := Lib.hid rfl
 go_enter Tryz.func82, Tryz.ntmps82
 go_wp2_with fail
 refine HOW.out.mono ?_
 rintro e w1 ⟨rfl, hb1⟩
 have hr1 := (hb1.block w.heap.size hsz).trans HR.out
 have HR1 := Lib.hid hr1
 have HB1 := Lib.hid (HBA.out.trans (hb1.mono HBA.out.size))
 obtain ⟨a0, a1, a2, a3, a4, a5⟩ := cells6 hr1
 clear hr1 hb1
 go_wp2
 go_loopw [3, 4] (fun u i wr => ∃ (k : Nat) (z : Int), u = .int .i64 z ∧ i = .int .i64 k ∧ k ≤ n.ptrs.length ∧ 0 ≤ z ∧ z ≤ 4000001 ∧ Hid (z = ((s0 + ((n.ptrs.take k).map (wordsN (d - 1))).sum : Nat) : Int)) ∧ Hid (Below w.heap.size w wr ∧ wr.heap[w.heap.size]? = some (.cells #[.int .i64 n.kind, .string n.data, .slice qA n.ptrs.length qa, .int .i64 n.size, .int .i64 n.count, .slice qB n.items.length qb] nodeT (0, 0)))) (fun _ i _ => n.ptrs.length - (intOf i).toNat)
 case atStart => exact ⟨0, _, rfl, rfl, by omega, by have := HS0.out; omega, by have := HS0.out; omega, Lib.hid (by rw [List.take_zero, List.map_nil, List.sum_nil]; have := HS0.out; omega), Lib.hid ⟨HB1.out, HR1.out⟩⟩
 case round =>
  obtain ⟨k, z, rfl, rfl, hk, hz0, hz1, HZ, HB⟩ := hrel
  obtain ⟨hbr, hrr⟩ := HB.out
  clear a0 a1 a2 a3 a4 a5
  obtain ⟨a0, a1, a2, a3, a4, a5⟩ := cells6 hrr
  by_cases hlt : k < n.ptrs.length
  · obtain ⟨m', rfl⟩ := HN.out.2.1.pred hlt
    obtain ⟨x, yA, ya, yB, yb, rfl, hc0, hdy, hny, hniy⟩ := HN.out.2.1.at6 hlt
    have hc := cell_below hbr _ _ _ hc0
    have HST := Lib.hid (sum_take_succ n.ptrs (wordsN (d - 1)) k hlt)
    have HSL := Lib.hid (sum_take_le n.ptrs (wordsN (d - 1)) (k + 1))
    have htp : totN m' n.ptrs[k] ≤ 2000000 := by have := totL_at (m := m') hlt; have := HT.out; unfold totN at this; omega
    have HC := Lib.hid (HKID.out _ (mem_ptrs (List.getElem_mem hlt)) m' ⟨yA, ya, yB, yb⟩ wr (NdAt.below ⟨hdy, hny, hniy⟩ hbr) htp)
    dsimp only at HC
    generalize n.ptrs[k] = y at hc HST HC
    have hzv : z + ((wordsN (d - 1)) y : Nat) ≤ 4000001 := by have := HZ.out; have := HST.out; have := HSL.out; have := HTOT.out; omega
    obtain ⟨c0, c1, c2, c3, c4, c5⟩ := hc
    dsimp only at c2 c5
    have HBR := Lib.hid hbr
    have HRR := Lib.hid hrr
    clear hbr hrr hc0 hdy hny hniy htp HB
    generalize (wordsN (d - 1)) y = v at *
    go_wp2_with fail
    refine HC.out.mono ?_
    rintro e w3 ⟨rfl, hb3⟩
    have HB3 := Lib.hid (And.intro (HBR.out.trans (hb3.mono HBR.out.size)) ((hb3.block w.heap.size (row_lt HRR.out)).trans HRR.out))
    clear hb3
    go_wp2
    go_roundw
    case rel => exact ⟨k + 1, _, rfl, by go_num, by omega, by omega, hzv, Lib.hid (by rw [HZ.out, HST.out]; omega), HB3⟩
    case measure => simp [intOf]; omega
  · obtain rfl : k = n.ptrs.length := by omega
    rw [List.take_of_length_le (Nat.le_refl _)] at HZ
    have HBR := Lib.hid hbr
    have HRR := Lib.hid hrr
    have HZP := HZ
    have hzp0 := hz0
    have hzp1 := hz1
    clear hbr hrr HB HZ
    go_wp2
    go_loopw [3, 5] (fun u i wr => ∃ (k : Nat) (z : Int), u = .int .i64 z ∧ i = .int .i64 k ∧ k ≤ n.items.length ∧ 0 ≤ z ∧ z ≤ 4000001 ∧ Hid (z = ((s0 + (n.ptrs.map (wordsN (d - 1))).sum + ((n.items.take k).map fun y => (y.ptrs.map (wordsN (d - 1))).sum).sum : Nat) : Int)) ∧ Hid (Below w.heap.size w wr ∧ wr.heap[w.heap.size]? = some (.cells #[.int .i64 n.kind, .string n.data, .slice qA n.ptrs.length qa, .int .i64 n.size, .int .i64 n.count, .slice qB n.items.length qb] nodeT (0, 0)))) (fun _ i _ => n.items.length - (intOf i).toNat)
    case atStart => exact ⟨0, _, rfl, rfl, by omega, hzp0, hzp1, Lib.hid (by rw [HZP.out]; simp), Lib.hid ⟨HBR.out, HRR.out⟩⟩
    case round =>
     clear hz0 hz1 hzp0 hzp1
     obtain ⟨k, z, rfl, rfl, hk, hz0, hz1, HZ, HB⟩ := hrel
     obtain ⟨hbr, hrr⟩ := HB.out
     clear a0 a1 a2 a3 a4 a5
     obtain ⟨a0, a1, a2, a3, a4, a5⟩ := cells6 hrr
     by_cases hlt : k < n.items.length
     · obtain ⟨m', rfl⟩ := HN.out.2.2.pred hlt
       obtain ⟨x, yA, ya, yB, yb, rfl, hc0, hdy, hny, hniy⟩ := HN.out.2.2.at6 hlt
       have HSTI := Lib.hid (sum_take_succ n.items (fun y => (y.ptrs.map (wordsN (d - 1))).sum) k hlt)
       have HSLI := Lib.hid (sum_take_le n.items (fun y => (y.ptrs.map (wordsN (d - 1))).sum) (k + 1))
       have HTP : Hid (totL m' (n.items[k]).ptrs ≤ 2000000) := Lib.hid (by have := totL_at (m := m') hlt; have := HT.out; unfold totN at *; omega)
       have hypl : (n.items[k]).ptrs.length ≤ 2000000 := totL_len' hny HTP.out
       have HMY := Lib.hid (fun p hp => HKID.out p (mem_items (List.getElem_mem hlt) hp))
       generalize n.items[k] = y at hc0 HSTI hny HTP hypl HMY
       have HC0 := Lib.hid hc0
       have HNY := Lib.hid hny
       have HBR := Lib.hid hbr
       have HRR := Lib.hid hrr
       have hzi0 := hz0
       have hzi1 := hz1
       clear hbr hrr hc0 hdy hny hniy HB
       go_wp2
       clear a0 a1 a2 a3 a4 a5
       go_loopw [3, 6] (fun u i wr => ∃ (q : Nat) (z : Int), u = .int .i64 z ∧ i = .int .i64 q ∧ q ≤ y.ptrs.length ∧ 0 ≤ z ∧ z ≤ 4000001 ∧ Hid (z = ((s0 + (n.ptrs.map (wordsN (d - 1))).sum + ((n.items.take k).map fun y => (y.ptrs.map (wordsN (d - 1))).sum).sum + ((y.ptrs.take q).map (wordsN (d - 1))).sum : Nat) : Int)) ∧ Hid (Below w.heap.size w wr ∧ wr.heap[w.heap.size]? = some (.cells #[.int .i64 n.kind, .string n.data, .slice qA n.ptrs.length qa, .int .i64 n.size, .int .i64 n.count, .slice (some x) n.items.length qb] nodeT (0, 0)))) (fun _ i _ => y.ptrs.length - (intOf i).toNat)
       case atStart => exact ⟨0, _, rfl, rfl, by omega, hzi0, hzi1, Lib.hid (by rw [HZ.out]; simp), Lib.hid ⟨HBR.out, HRR.out⟩⟩
       case round =>
        clear hz0 hz1 hzi0 hzi1
        obtain ⟨q, z, rfl, rfl, hq, hz0, hz1, HZQ, HB⟩ := hrel
        obtain ⟨hbr, hrr⟩ := HB.out
        obtain ⟨a0, a1, a2, a3, a4, a5⟩ := cells6 hrr
        have hc := cell_below hbr _ _ _ HC0.out
        obtain ⟨-, -, d2, -, -, -⟩ := hc
        dsimp only at d2
        by_cases hqt : q < y.ptrs.length
        · obtain ⟨m'', rfl⟩ := HNY.out.pred hqt
          obtain ⟨x2, zA, za, zB, zb, rfl, hc2, hdz, hnz, hniz⟩ := HNY.out.at6 hqt
          have hcz := cell_below hbr _ _ _ hc2
          have HST := Lib.hid (sum_take_succ y.ptrs (wordsN (d - 1)) q hqt)
          have HSL := Lib.hid (sum_take_le y.ptrs (wordsN (d - 1)) (q + 1))
          have htp : totN m'' y.ptrs[q] ≤ 2000000 := by have := totL_at (m := m'') hqt; have := HTP.out; omega
          have HC := Lib.hid (HMY.out _ (List.getElem_mem hqt) m'' ⟨zA, za, zB, zb⟩ wr (NdAt.below ⟨hdz, hnz, hniz⟩ hbr) htp)
          dsimp only at HC
          generalize y.ptrs[q] = t at hcz HST HC
          have hzv : z + ((wordsN (d - 1)) t : Nat) ≤ 4000001 := by have := HZQ.out; have := HST.out; have := HSL.out; have := HTOT.out; have := HSTI.out; have := HSLI.out; omega
          obtain ⟨c0, c1, c2, c3, c4, c5⟩ := hcz
          dsimp only at c2 c5
          have HBR := Lib.hid hbr
          have HRR := Lib.hid hrr
          clear hbr hrr hc2 hdz hnz hniz htp HB
          generalize (wordsN (d - 1)) t = v at *
          go_wp2_with fail
          refine HC.out.mono ?_
          rintro e w3 ⟨rfl, hb3⟩
          have HB3 := Lib.hid (And.intro (HBR.out.trans (hb3.mono HBR.out.size)) ((hb3.block w.heap.size (row_lt HRR.out)).trans HRR.out))
          clear hb3
          go_wp2
          go_roundw
          case rel => exact ⟨q + 1, _, rfl, by go_num, by omega, by omega, hzv, Lib.hid (by rw [HZQ.out, HST.out]; omega), HB3⟩
          case measure => simp [intOf]; omega
        · obtain rfl : q = y.ptrs.length := by omega
          rw [List.take_of_length_le (Nat.le_refl _)] at HZQ
          have HZ2 : Hid (z = ((s0 + (n.ptrs.map (wordsN (d - 1))).sum + ((n.items.take (k + 1)).map fun y => (y.ptrs.map (wordsN (d - 1))).sum).sum : Nat) : Int)) := Lib.hid (by rw [HZQ.out, HSTI.out]; omega)
          have HBB := Lib.hid (And.intro hbr hrr)
          clear hbr hrr HB
          go_wp2
          go_roundw
          case rel => exact ⟨k + 1, _, rfl, by go_num, by omega, hz0, hz1, HZ2, HBB⟩
          case measure => simp [intOf]; omega
     · obtain rfl : k = n.items.length := by omega
       rw [List.take_of_length_le (Nat.le_refl _)] at HZ
       have HBR := Lib.hid hbr
       clear hbr hrr HB
       go_wp2
       go_ret
       exact ⟨by rw [HTOT.out, HZ.out]; rfl, HBR.out⟩
theorem l4Words_any : ∀ d, L4W d
 | 0 => l4Words_step 0 (fun j hj => by omega)
 | d + 1 => l4Words_step (d + 1) (fun j hj => by
   obtain rfl : d = j := by omega
   exact l4Words_any d)
theorem specNodeOk_a (m : Nat) (n : Nd) (h : Hd) (w : World) (S : Nat → Prop) (hn : NdAt w S m n h) (ht : totN m n ≤ 2000000) :
 Calls Tryz.prog 53 #[.agg #[.int .i64 n.kind, .string n.data, .slice h.A n.ptrs.length h.a, .int .i64 n.size, .int .i64 n.count, .slice h.B n.items.length h.b]] w fun e w' => e = .returned (.bool (nodeOk n)) ∧ Below w.heap.size w w' := by
 have hb0 := (Below.refl w.heap.size w).alloc (Nat.le_refl _) (.cells #[.int .i64 n.kind, .string n.data, .slice h.A n.ptrs.length h.a, .int .i64 n.size, .int .i64 n.count, .slice h.B n.items.length h.b] nodeT)
 have HB0 := Lib.hid hb0
 have HBX := Lib.hid (heap_alloc_new w (.cells #[.int .i64 n.kind, .string n.data, .slice h.A n.ptrs.length h.a, .int .i64 n.size, .int .i64 n.count, .slice h.B n.items.length h.b] nodeT))
 have HO := Lib.hid (l4Ok_any 8 (by decide) m n h _ S (hn.below hb0) ht)
 rw [show (((8 : Nat)) : Int) = 8 from rfl] at HO
 have HWO : Hid (okN 8 n = true → ∀ W : World, Below w.heap.size w W → Calls Tryz.prog 82 #[.agg #[.int .i64 n.kind, .string n.data, .slice h.A n.ptrs.length h.a, .int .i64 n.size, .int .i64 n.count, .slice h.B n.items.length h.b]] W fun e w' => e = .returned (.int .i64 (wordsN 8 n : Nat)) ∧ Below W.heap.size W w') := Lib.hid fun hok W hb => l4Words_any 8 m n h W S (hn.below hb) ht hok
 clear hn ht hb0
 cases hok : okN 8 n
 · have HX : Hid (nodeOk n = false) := Lib.hid (by unfold nodeOk; rw [hok]; rfl)
   rw [hok] at HO
   clear hok
   go_enter Tryz.func53, Tryz.ntmps53
   go_wp2_with fail
   refine HO.out.mono ?_
   rintro e w2 ⟨rfl, hb2⟩
   have HB2 := Lib.hid (HB0.out.trans (hb2.mono HB0.out.size))
   clear hb2
   go_wp2
   go_ret
   exact ⟨by rw [HX.out]; rfl, HB2.out⟩
 · have HX : Hid (nodeOk n = decide (((wordsN 8 n : Nat) : Int) < 200)) := Lib.hid (by unfold nodeOk; rw [hok, Bool.true_and, Bool.eq_iff_iff]; simp only [decide_eq_true_eq]; omega)
   have HC := Lib.hid (HWO.out hok)
   rw [hok] at HO
   clear HWO hok
   generalize wordsN 8 n = wd at *
   go_enter Tryz.func53, Tryz.ntmps53
   go_wp2_with fail
   refine HO.out.mono ?_
   rintro e w2 ⟨rfl, hb2⟩
   obtain ⟨a0, a1, a2, a3, a4, a5⟩ := cells6 ((hb2.block w.heap.size (by simp)).trans HBX.out)
   have HB2 := Lib.hid (HB0.out.trans (hb2.mono HB0.out.size))
   clear hb2
   go_wp2_with fail
   refine (HC.out _ HB2.out).mono ?_
   rintro e w3 ⟨rfl, hb3⟩
   have HB3 := Lib.hid (HB2.out.trans (hb3.mono HB2.out.size))
   clear hb3
   go_wp2
   go_ret
   exact ⟨by rw [HX.out]; rfl, HB3.out⟩
open Go.RowKit Go.Deep
theorem bitsAll_wd {z : Int} (hz : z = 2 ∨ z = 3 ∨ z = 4 ∨ z = 5) : bitsAll z = 8 * wdF z := by
 rcases hz with rfl | rfl | rfl | rfl <;> rfl
theorem cells3R {w : World} {g : Nat} {v0 v1 v2 : Value} {T : TypeId} (h : w.heap[g]? = some (.cells #[v0, v1, v2] T (0, 0))) : w.cell? ⟨g, 0, none⟩ = some v0 ∧ w.cell? ⟨g, 1, none⟩ = some v1 ∧ w.cell? ⟨g, 2, none⟩ = some v2 := by
 refine ⟨?_, ?_, ?_⟩ <;> (rw [cell_of_row _ _ _ _ _ _ h]; rfl)
end Go.Proofs.YtblcibgphccfkaaGreatDoor
namespace Go.Proofs.YtblcibgphccfkaaGreatDoor
open Go.RowKit
def SRow (w : World) (g : Nat) (e : TypeId) (cs : Array Value) : Prop := w.heap[g]? = some (.cells cs e (cs.size, cs.size + 1))
theorem SRow.cell {w : World} {g : Nat} {e : TypeId} {cs : Array Value} (h : SRow w g e cs) (i : Nat) : w.cell? ⟨g, i, none⟩ = cs[i]? := cell_of_row w g i cs e _ h
theorem SRow.frozen {w : World} {g : Nat} {e : TypeId} {cs : Array Value} (h : SRow w g e cs) (i : Nat) (hi : i < cs.size) : w.frozen? ⟨g, i, none⟩ = false := by
 unfold SRow at h
 simp [World.frozen?, h]
 omega
theorem SRow.set {w : World} {g : Nat} {e : TypeId} {cs : Array Value} (h : SRow w g e cs) (i : Nat) (u : Value) : SRow (w.setCell ⟨g, i, none⟩ u) g e (cs.setIfInBounds i u) := by
 unfold SRow at h ⊢
 simp [World.setCell, Array.getElem?_modify, h]
theorem bytesCells_take (w : World) (e : TypeId) (s : ByteArray) : (Lib.bytesCells w e s).toList.take s.size = Lib.byteCells s.data.toList := by
 have hs : s.data.size = s.size := rfl
 rw [Lib.bytesCells, Array.toList_append, List.take_append_of_le_length (by simp [hs]), List.take_of_length_le (by simp [hs])]
 simp [Lib.byteCells]
theorem below_bytesWorld (w : World) (e : TypeId) (s : ByteArray) : Below w.heap.size w (Lib.bytesWorld w e s) :=
 ⟨rfl, rfl, rfl, by rw [Lib.bytesWorld_size]; omega, fun k hk => Lib.bytesWorld_at_old w e s k hk⟩
theorem take_set (l : List Value) (n i : Nat) (v : Value) (h : i < n) : (l.set i v).take n = (l.take n).set i v := by
 apply List.ext_getElem?
 intro j
 by_cases hj : j < n
 · rw [List.getElem?_take_of_lt hj, List.getElem?_set, List.getElem?_set, List.getElem?_take_of_lt hj, List.length_take]
   by_cases hij : i = j
   · subst hij
     by_cases hl : i < l.length
     · simp [hl, show i < min n l.length by omega]
     · simp [hl, show ¬ i < min n l.length by omega]
   · simp [hij]
 · rw [List.getElem?_eq_none (by simp; omega), List.getElem?_eq_none (by simp; omega)]
theorem byteCells_set (l : List UInt8) (i : Nat) (b : UInt8) : (Lib.byteCells l).set i (.int .u8 (b.toNat : Int)) = Lib.byteCells (l.set i b) := by simp [Lib.byteCells, List.map_set]
theorem srow_size {w : World} {g i : Nat} {e : TypeId} {cs : Array Value} {s : ByteArray} (_h : SRow w g e cs) (ht : cs.toList.take s.size = Lib.byteCells s.data.toList) (hi : i < s.size) : i < cs.size := by
 have h := congrArg List.length ht
 rw [List.length_take, Lib.byteCells_length] at h
 simp at h
 omega
theorem srow_cell {w : World} {g i : Nat} {e : TypeId} {cs : Array Value} {s : ByteArray} (h : SRow w g e cs) (ht : cs.toList.take s.size = Lib.byteCells s.data.toList) (hi : i < s.size) : w.cell? ⟨g, i, none⟩ = some (.int .u8 ((s.data.toList[i]?.getD 0).toNat : Int)) := by
 rw [h.cell]
 have h := congrArg (fun x : List Value => x[i]?) ht
 simp only [List.getElem?_take_of_lt hi, Array.getElem?_toList] at h
 rw [h]
 simp [Lib.byteCells, hi]
theorem wpList_convert_bytes {P : Program} {w : World} {ops : Array Oper} {rest : List Oper} {o : Oper} {a : Act} {Q : Exit → Act → World → Prop} (hgd : o.guard = none) (src dst e : TypeId) (x : Operand) (ho : o.op = .convert src dst x) (s : ByteArray)
 (hx : a.eval x = .string s) {u : TypeDesc} (hs : P.underlying src = some u) (hd : P.underlying dst = some (.slice e)) (he : P.underlying e = some (.int .u8))
 (h : ∀ c w' cs, Hid (SRow w' w.heap.size e cs) → Hid (cs.toList.take s.size = Lib.byteCells s.data.toList) → Hid (Below w.heap.size w w') → Hid (w'.heap.size = w.heap.size + 1) → wpList P ops Q rest (a.put o.dst (.slice (some ⟨w.heap.size, 0, none⟩) s.size c)) w') :
 wpList P ops Q (o :: rest) a w := by
 refine wpList_plain hgd fun _ hK => ?_
 have hr := Lib.run_convert_string_bytes (P := P) w src dst e s hs hd he
 unfold Oper.wp execOp
 simp only [ho, hx, Sem.run_bind, hr, Result.andThen_ok, Sem.run_pure]
 exact hK _ _ (h _ _ _ (Lib.bytesWorld_at_new w e s) (bytesCells_take w e s) (below_bytesWorld w e s) (Lib.bytesWorld_size w e s))
def newB (b : UInt8) (r bit : Nat) : UInt8 := UInt8.ofNat ((b.toNat &&& (255 - 2 ^ r)) ||| (bit * 2 ^ r))
def setBit (l : List UInt8) (i bit : Nat) : List UInt8 := l.set (i / 8) (newB (l[i / 8]?.getD 0) (i % 8) bit)
theorem sub_lt256 (r : Nat) : 255 - 2 ^ r < 256 := Nat.lt_of_le_of_lt (Nat.sub_le _ _) (by decide)
theorem pow_lt256 (r : Nat) (hr : r < 8) : 2 ^ r ≤ 128 := Nat.pow_le_pow_right (by decide) (show r ≤ 7 by omega)
theorem newB_toNat (b : UInt8) (r bit : Nat) (hr : r < 8) (hb : bit ≤ 1) : (newB b r bit).toNat = ((b.toNat &&& (255 - 2 ^ r)) ||| (bit * 2 ^ r)) := by
 have h := pow_lt256 r hr
 have h1 : b.toNat &&& (255 - 2 ^ r) < 2 ^ 8 := Nat.and_lt_two_pow _ (sub_lt256 r)
 have h2 : bit * 2 ^ r < 2 ^ 8 := by
  have : bit = 0 ∨ bit = 1 := by omega
  rcases this with rfl | rfl
  · simp
  · rw [Nat.one_mul]; exact Nat.lt_of_le_of_lt h (by decide)
 have h3 := Nat.or_lt_two_pow h1 h2
 rw [newB, UInt8.toNat_ofNat', Nat.mod_eq_of_lt h3]
theorem pow_mod (r : Nat) (hr : r < 8) : (2 : Int) ^ r % 256 = ((2 ^ r : Nat) : Int) := by
 have h := pow_lt256 r hr
 rw [show (2 : Int) ^ r = ((2 ^ r : Nat) : Int) by rw [Int.natCast_pow]; rfl]
 generalize 2 ^ r = m at h ⊢
 omega
theorem newB_0 (b : UInt8) (r : Nat) (hr : r < 8) : bits .or .u8 (bits .andNot .u8 (b.toNat : Int) ((2 : Int) ^ r % 256)) 0 = ((newB b r 0).toNat : Int) := by
 have h := pow_lt256 r hr
 have h1 : b.toNat &&& (255 - 2 ^ r) < 2 ^ 8 := Nat.and_lt_two_pow _ (sub_lt256 r)
 rw [pow_mod r hr, u8_andNot_nat _ _ b.toNat_lt (Nat.lt_of_le_of_lt h (by decide)), show (0 : Int) = ((0 : Nat) : Int) from rfl, u8_or_nat _ _ h1 (by decide), newB_toNat b r 0 hr (by omega)]
 simp
theorem newB_1 (b : UInt8) (r : Nat) (hr : r < 8) : bits .or .u8 (bits .andNot .u8 (b.toNat : Int) ((2 : Int) ^ r % 256)) ((2 : Int) ^ r % 256) = ((newB b r 1).toNat : Int) := by
 have h := pow_lt256 r hr
 have h1 : b.toNat &&& (255 - 2 ^ r) < 2 ^ 8 := Nat.and_lt_two_pow _ (sub_lt256 r)
 rw [pow_mod r hr, u8_andNot_nat _ _ b.toNat_lt (Nat.lt_of_le_of_lt h (by decide)), u8_or_nat _ _ h1 (Nat.lt_of_le_of_lt h (by decide)), newB_toNat b r 1 hr (by omega)]
 simp
theorem wrap_pow (r : Nat) (hr : r < 8) : wrap64 ((2 : Int) ^ r) = (2 : Int) ^ r := by
 have h := pow_lt256 r hr
 rw [show (2 : Int) ^ r = ((2 ^ r : Nat) : Int) by rw [Int.natCast_pow]; rfl]
 generalize 2 ^ r = m at h ⊢
 exact wrap64_small m (by omega)
end Go.Proofs.YtblcibgphccfkaaGreatDoor
