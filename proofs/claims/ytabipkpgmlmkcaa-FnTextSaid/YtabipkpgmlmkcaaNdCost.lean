/- What reading a node costs: the program's word. -/
import Derived.Test.YtabipkpgmlmkcaaNdOk
namespace Go.Proofs.Ytabipkpgmlmkcaa
open Go.RowKit
def lcZ (s c : Int) (v : Int) : Int := if s = 0 then c else if s = 7 ∧ v = 1 then 1 + c else v
set_option maxHeartbeats 1000000 in
theorem listCost_a (s c v : Int) (w : World) (h0 : 0 ≤ c) (h1 : c ≤ 12800) :
    Calls Try.prog 63 #[.int .i64 s, .int .i64 c, .int .i64 v] w fun e w' => e = .returned (.int .i64 (lcZ s c v)) ∧ w = w' := by
  have HX : Hid (lcZ s c v = if s = 0 then c else if s = 7 ∧ v = 1 then 1 + c else v) := Lib.hid rfl
  go_enter Try.func63, Try.ntmps63
  go_wp2
  all_goals go_ret
  all_goals (refine ⟨ret_int ?_, rfl⟩; rw [HX.out]; simp_all)
/-- what a node costs by itself. -/
def lcN (n : Nd) : Nat := if n.kind = 2 then (lcZ n.size n.count (ownN n : Nat)).toNat else ownN n
def costN : Nat → Nd → Nat
  | 0, _ => 0
  | d + 1, n => lcN n + ((ptrsL n).map (costN d)).sum
theorem form_count {n : Nd} (h : formN n = true) : 0 ≤ n.count ∧ n.count ≤ 12800 := by
  rcases form_cases h with hc | hc | hc <;> omega
theorem lcZ_bd {s c v : Int} (h0 : 0 ≤ c) (h1 : c ≤ 12800) (h2 : 0 ≤ v) : 0 ≤ lcZ s c v ∧ lcZ s c v ≤ v + 12801 := by
  unfold lcZ
  split
  · omega
  · split <;> omega
theorem lcN_eq {n : Nd} (h : formN n = true) : ((lcN n : Nat) : Int) = if n.kind = 2 then lcZ n.size n.count (ownN n : Nat) else (ownN n : Nat) := by
  obtain ⟨h1, h2⟩ := form_count h
  have := lcZ_bd (s := n.size) h1 h2 (show (0 : Int) ≤ (ownN n : Nat) by omega)
  unfold lcN
  split <;> omega
theorem lcN_le {n : Nd} (h : formN n = true) : lcN n ≤ ownN n + 12801 := by
  have h0 := lcN_eq h
  obtain ⟨h1, h2⟩ := form_count h
  have := lcZ_bd (s := n.size) h1 h2 (show (0 : Int) ≤ (ownN n : Nat) by omega)
  split at h0 <;> omega
theorem sum_leL (l : List Nd) (f g : Nd → Nat) (h : ∀ n ∈ l, f n ≤ g n) : (l.map f).sum ≤ (l.map g).sum := sum_le l f g h
theorem sum_mem {l : List Nd} {f : Nd → Nat} {n : Nd} (h : n ∈ l) : f n ≤ (l.map f).sum := by
  induction l with
  | nil => cases h
  | cons a t ih =>
    simp only [List.map_cons, List.sum_cons]
    rcases List.mem_cons.1 h with rfl | h
    · omega
    · have := ih h; omega
theorem ptrs_own (n : Nd) : (ptrsL n).length ≤ ownN n := by
  have h1 : n.ptrs.length ≤ ownB n := by unfold ownB; omega
  have h2 : (n.items.map fun y => y.ptrs.length).sum ≤ (n.items.map ownB).sum := sum_le _ _ _ (fun y _ => by unfold ownB; omega)
  unfold ptrsL ownN
  rw [List.length_append, ptrsL_sum]
  omega
theorem ok_kids {d : Nat} {n : Nd} (h : okN d n = true) : formN n = true ∧ ∀ p ∈ ptrsL n, okN (d - 1) p = true := by
  cases d with
  | zero =>
    simp only [okN, Bool.and_eq_true, decide_eq_true_eq] at h
    refine ⟨h.1, fun p hp => ?_⟩
    have h1 : ptrsL n = [] := by
      rcases form_cases h.1 with hc | hc | hc
      · unfold ptrsL; rw [nil_of_len hc.2.2.1, nil_of_len hc.2.2.2.2.2]; rfl
      · omega
      · omega
    rw [h1] at hp; cases hp
  | succ d =>
    simp only [okN, Bool.and_eq_true, Bool.or_eq_true, decide_eq_true_eq, List.all_eq_true] at h
    refine ⟨h.1, fun p hp => ?_⟩
    rcases h.2 with hk | hk
    · have h1 : ptrsL n = [] := by
        rcases form_cases h.1 with hc | hc | hc
        · unfold ptrsL; rw [nil_of_len hc.2.2.1, nil_of_len hc.2.2.2.2.2]; rfl
        · omega
        · omega
      rw [h1] at hp; cases hp
    · exact hk p hp
theorem words_kids {d : Nat} {n : Nd} (h : okN d n = true) : wordsN d n = ownN n + ((ptrsL n).map (wordsN (d - 1))).sum := by
  cases d with
  | zero =>
    simp only [okN, Bool.and_eq_true, decide_eq_true_eq] at h
    have := none_words (d := 1) h.1 h.2
    rw [wordsN] at this
    show 0 = ownN n + _
    have h1 : ptrsL n = [] := by
      rcases form_cases h.1 with hc | hc | hc
      · unfold ptrsL; rw [nil_of_len hc.2.2.1, nil_of_len hc.2.2.2.2.2]; rfl
      · omega
      · omega
    rw [h1]; simp; omega
  | succ d => rfl
theorem cost_kids {d : Nat} {n : Nd} (h : okN d n = true) : costN d n = lcN n + ((ptrsL n).map (costN (d - 1))).sum := by
  cases d with
  | zero =>
    have hw := words_kids h
    simp only [okN, Bool.and_eq_true, decide_eq_true_eq] at h
    have h1 : ptrsL n = [] := by
      rcases form_cases h.1 with hc | hc | hc
      · unfold ptrsL; rw [nil_of_len hc.2.2.1, nil_of_len hc.2.2.2.2.2]; rfl
      · omega
      · omega
    have h2 : lcN n = 0 := by
      unfold lcN
      rw [if_neg (by omega)]
      simp only [wordsN] at hw
      omega
    rw [h1, h2]; rfl
  | succ d => rfl
/-- a cost is not much more than the words. -/
theorem cost_le : ∀ (d : Nat) (n : Nd), okN d n = true → costN d n ≤ 13000 + 13001 * wordsN d n := by
  intro d
  induction d with
  | zero => intro n h; exact Nat.zero_le _
  | succ d ih =>
    intro n h
    obtain ⟨hf, hk⟩ := ok_kids h
    have h1 := lcN_le hf
    have h2 : ((ptrsL n).map (costN d)).sum ≤ ((ptrsL n).map fun p => 13000 + 13001 * wordsN d p).sum := sum_le _ _ _ (fun p hp => ih p (hk p hp))
    have h3 : ∀ l : List Nd, (l.map fun p => 13000 + 13001 * wordsN d p).sum = 13000 * l.length + 13001 * (l.map (wordsN d)).sum := by
      intro l
      induction l with
      | nil => rfl
      | cons a t ih => simp only [List.map_cons, List.sum_cons, List.length_cons, ih]; omega
    rw [h3] at h2
    have h4 := ptrs_own n
    show lcN n + _ ≤ 13000 + 13001 * (ownN n + _)
    omega
theorem words_mem {d : Nat} {n p : Nd} (h : okN d n = true) (hp : p ∈ ptrsL n) : wordsN (d - 1) p ≤ wordsN d n := by
  rw [words_kids h]
  have := sum_mem (f := wordsN (d - 1)) hp
  omega
def CoD (d : Nat) : Prop := ∀ (m : Nat) (n : Nd) (h : Hd) (w : World) (S : Nat → Prop), NdAt w S m n h → totN m n ≤ 2000000 → okN d n = true → wordsN d n ≤ 199 →
  Calls Try.prog 36 #[.agg #[.int .i64 n.kind, .string n.data, .slice h.A n.ptrs.length h.a, .int .i64 n.size, .int .i64 n.count, .slice h.B n.items.length h.b]] w fun e w' => e = .returned (.int .i64 (costN d n : Nat)) ∧ Below w.heap.size w w'
set_option maxHeartbeats 4000000 in
set_option maxRecDepth 100000 in
theorem cost_step (d : Nat) (ih : ∀ j, d = j + 1 → CoD j) : CoD d := by
  intro m n h w S hn ht hok hwd
  obtain ⟨qA, qa, qB, qb⟩ := h
  dsimp only at hn ⊢
  obtain ⟨hf, hkids⟩ := ok_kids hok
  have HCE := Lib.hid (cost_kids hok)
  have hcl := cost_le d n hok
  have hct : costN d n ≤ 2700000 := by omega
  have HCT := Lib.hid hct
  have hob := own_bound hn ht
  have HLC := Lib.hid (lcN_eq hf)
  obtain ⟨hc0, hc1⟩ := form_count hf
  have HKID : Hid (∀ p ∈ ptrsL n, ∃ j, d = j + 1 ∧ okN j p = true ∧ wordsN j p ≤ 199 ∧ costN (d - 1) p = costN j p) := Lib.hid fun p hp => by
    cases d with
    | zero =>
      have := hkids p hp
      have hl := words_kids hok
      have h3 := ptrs_own n
      have h4 : (ptrsL n).length ≠ 0 := by intro h; rw [nil_of_len h] at hp; cases hp
      simp only [wordsN] at hl
      omega
    | succ j => exact ⟨j, rfl, hkids p hp, by have := words_mem hok hp; simp only [Nat.add_sub_cancel] at this; omega, rfl⟩
  have HOW := Lib.hid (fun (W : World) (hb : Below w.heap.size w W) => ownWords_a m n ⟨qA, qa, qB, qb⟩ W S (hn.below hb) hf ht)
  have HPO := Lib.hid (fun (W : World) (hb : Below w.heap.size w W) => ptrsOf_a m n ⟨qA, qa, qB, qb⟩ W S (hn.below hb) ht)
  have HTT := Lib.hid (Nat.le_trans (tot_ptrs hn) ht)
  have hln := Nat.le_trans (ptrs_len hn) HTT.out
  have HIH := Lib.hid ih
  dsimp only at HOW HPO
  have HB0 := Lib.hid ((Below.refl w.heap.size w).alloc (Nat.le_refl _) (.cells #[.int .i64 n.kind, .string n.data, .slice qA n.ptrs.length qa, .int .i64 n.size, .int .i64 n.count, .slice qB n.items.length qb] nodeT))
  have HBX := Lib.hid (heap_alloc_new w (.cells #[.int .i64 n.kind, .string n.data, .slice qA n.ptrs.length qa, .int .i64 n.size, .int .i64 n.count, .slice qB n.items.length qb] nodeT))
  clear ih hn ht hok hwd hf hkids hcl
  generalize ownN n = on at *
  generalize ptrsL n = pl at *
  generalize costN d n = cst at *
  by_cases hk : n.kind = 2
  all_goals
    first | (rw [if_pos hk] at HLC; have hkb : (n.kind == 2) = true := by rw [hk]; rfl) | (rw [if_neg hk] at HLC; have hkb : (n.kind == 2) = false := by simpa using hk)
    clear hk
    go_enter Try.func36, Try.ntmps36
    go_wp2_with fail
    refine (HOW.out _ HB0.out).mono ?_
    rintro e w1 ⟨rfl, hb1⟩
    have hk1 := (hb1.block w.heap.size (by simp)).trans HBX.out
    obtain ⟨a0, a1, a2, a3, a4, a5⟩ := cells6 hk1
    have HB1 := Lib.hid (HB0.out.trans (hb1.mono HB0.out.size))
    clear hb1 hk1
    go_wp2_with (go_at_call 63; go_must (refine (listCost_a _ _ _ _ hc0 hc1).mono ?_); rintro e w2 ⟨rfl, rfl⟩; rw [← HLC.out])
    try rw [← HLC.out]
    refine (HPO.out _ HB1.out).mono ?_
    rintro e w3 ⟨A3, c3, rfl, hn3, hb3⟩
    have HB3 := Lib.hid (HB1.out.trans (hb3.mono HB1.out.size))
    have HN3 := Lib.hid hn3
    have hlcb : lcN n ≤ 2700000 := by have := HCE.out; omega
    clear hb3 hn3 a0 a1 a2 a3 a4 a5 HLC
    generalize lcN n = lc at *
    go_wp2_with fail
    go_loopw [3, 20] (fun q i wr => ∃ (k : Nat) (z : Int), q = .int .i64 z ∧ i = .int .i64 k ∧ k ≤ pl.length ∧ 0 ≤ z ∧ z ≤ 2700000 ∧ Hid (z = ((lc + ((pl.take k).map (costN (d - 1))).sum : Nat) : Int)) ∧ Hid (Below w.heap.size w wr ∧ NdsAt wr Any m A3 pl)) (fun _ i _ => pl.length - (intOf i).toNat)
    case atStart => exact ⟨0, _, rfl, rfl, by omega, by omega, by omega, Lib.hid (by simp), Lib.hid ⟨HB3.out, HN3.out⟩⟩
    case round =>
      obtain ⟨k, z, rfl, rfl, hk, hz0, hz1, HZ, HB⟩ := hrel
      obtain ⟨hbr, hnr⟩ := HB.out
      by_cases hlt : k < pl.length
      · obtain ⟨m', rfl⟩ := hnr.pred hlt
        obtain ⟨x, hdp, rfl, hc, hp⟩ := hnr.at_ hlt
        have HST := Lib.hid (sum_take_succ pl (costN (d - 1)) k hlt)
        have HSL := Lib.hid (sum_take_le pl (costN (d - 1)) (k + 1))
        have htp : totN m' pl[k] ≤ 2000000 := by have := totL_at (m := m') hlt; have := HTT.out; omega
        obtain ⟨j, rfl, hoj, hwj, hcj⟩ := HKID.out _ (List.getElem_mem hlt)
        simp only [Nat.add_sub_cancel] at HST HSL HZ HCE
        generalize pl[k] = p at hc hp HST htp hoj hwj
        have hbx : Below wr.heap.size wr (wr.alloc (.cells #[.int .i64 p.kind, .string p.data, .slice hdp.A p.ptrs.length hdp.a, .int .i64 p.size, .int .i64 p.count, .slice hdp.B p.items.length hdp.b] nodeT)) := (Below.refl _ _).alloc (Nat.le_refl _) _
        have HCALL := Lib.hid (HIH.out j rfl m' p hdp _ Any (hp.below hbx) htp hoj hwj)
        have hpc : z + (costN j p : Int) ≤ 2700000 := by have := HZ.out; have := HST.out; have := HSL.out; have := HCE.out; have := HCT.out; omega
        have HBR := Lib.hid hbr
        have HNR := Lib.hid hnr
        have HBXX := Lib.hid hbx
        have HNX := Lib.hid (hnr.below hbx)
        obtain ⟨d0, d1, d2, d3, d4, d5⟩ := hc
        clear hbr hnr hbx hp htp hoj hwj hcj HB
        generalize costN j p = cp at *
        go_wp2_with fail
        refine HCALL.out.mono ?_
        rintro e w5 ⟨rfl, hb5⟩
        have HB5 := Lib.hid (And.intro (HBR.out.trans ((HBXX.out.trans (hb5.mono (by simp))).mono HBR.out.size)) (HNX.out.below hb5))
        clear hb5
        go_wp2
        go_roundw
        case rel => exact ⟨k + 1, _, rfl, by go_num, by omega, by omega, hpc, Lib.hid (by rw [HZ.out]; simp only [Nat.add_sub_cancel]; rw [HST.out]; omega), HB5⟩
        case measure => simp [intOf]; omega
      · obtain rfl : k = pl.length := by omega
        rw [List.take_of_length_le (Nat.le_refl _)] at HZ
        have HBR := Lib.hid hbr
        clear hbr hnr HB
        go_wp2
        go_ret
        exact ⟨by rw [HCE.out, HZ.out]; rfl, HBR.out⟩
theorem cost_any : ∀ d, CoD d
  | 0 => cost_step 0 (fun j hj => by omega)
  | d + 1 => cost_step (d + 1) (fun j hj => by
    obtain rfl : d = j := by omega
    exact cost_any d)
def nodeCost (n : Nd) : Nat := if nodeOk n then costN 8 n else 0
set_option maxHeartbeats 2000000 in
set_option maxRecDepth 100000 in
theorem implReadCost_a (m : Nat) (n : Nd) (h : Hd) (w : World) (S : Nat → Prop) (hn : NdAt w S m n h) (ht : totN m n ≤ 2000000) :
    Calls Try.prog 14 #[.agg #[.int .i64 n.kind, .string n.data, .slice h.A n.ptrs.length h.a, .int .i64 n.size, .int .i64 n.count, .slice h.B n.items.length h.b]] w fun e w' => e = .returned (.int .i64 (nodeCost n : Nat)) ∧ Below w.heap.size w w' := by
  have hb0 := (Below.refl w.heap.size w).alloc (Nat.le_refl _) (.cells #[.int .i64 n.kind, .string n.data, .slice h.A n.ptrs.length h.a, .int .i64 n.size, .int .i64 n.count, .slice h.B n.items.length h.b] nodeT)
  have HB0 := Lib.hid hb0
  have HBX := Lib.hid (heap_alloc_new w (.cells #[.int .i64 n.kind, .string n.data, .slice h.A n.ptrs.length h.a, .int .i64 n.size, .int .i64 n.count, .slice h.B n.items.length h.b] nodeT))
  have HN := Lib.hid hn
  have HO := Lib.hid (implNodeOk_a m n h _ S (hn.below hb0) ht)
  have HCO : Hid (nodeOk n = true → ∀ W : World, Below w.heap.size w W → Calls Try.prog 36 #[.agg #[.int .i64 n.kind, .string n.data, .slice h.A n.ptrs.length h.a, .int .i64 n.size, .int .i64 n.count, .slice h.B n.items.length h.b]] W fun e w' => e = .returned (.int .i64 (costN 8 n : Nat)) ∧ Below W.heap.size W w') := Lib.hid fun hok W hb => by
    unfold nodeOk at hok
    simp only [Bool.and_eq_true, decide_eq_true_eq] at hok
    exact cost_any 8 m n h W S (hn.below hb) ht hok.1 hok.2
  clear hn ht hb0
  cases hok : nodeOk n
  · have HX : Hid (nodeCost n = 0) := Lib.hid (by unfold nodeCost; rw [hok]; rfl)
    rw [hok] at HO
    go_enter Try.func14, Try.ntmps14
    go_wp2_with fail
    refine HO.out.mono ?_
    rintro e w2 ⟨rfl, hb2⟩
    have HB2 := Lib.hid (HB0.out.trans (hb2.mono HB0.out.size))
    clear hb2
    go_wp2
    go_ret
    exact ⟨by rw [HX.out]; rfl, HB2.out⟩
  · have HX : Hid (nodeCost n = costN 8 n) := Lib.hid (by unfold nodeCost; rw [hok]; rfl)
    have HC := Lib.hid (HCO.out hok)
    rw [hok] at HO
    clear HCO hok
    generalize costN 8 n = cst at *
    go_enter Try.func14, Try.ntmps14
    go_wp2_with fail
    refine HO.out.mono ?_
    rintro e w2 ⟨rfl, hb2⟩
    obtain ⟨a0, a1, a2, a3, a4, a5⟩ := cells6 ((hb2.block w.heap.size (by simp)).trans HBX.out)
    have HB2 := Lib.hid (HB0.out.trans (hb2.mono HB0.out.size))
    clear hb2
    go_wp2_with fail
    refine (HC.out _ HB2.out).mono ?_
    rintro e w3 ⟨rfl, hb3⟩
    have HB3 := Lib.hid (HB2.out.trans (hb3.mono HB2.out.size))
    clear hb3
    go_wp2
    go_ret
    exact ⟨by rw [HX.out]; rfl, HB3.out⟩
end Go.Proofs.Ytabipkpgmlmkcaa
