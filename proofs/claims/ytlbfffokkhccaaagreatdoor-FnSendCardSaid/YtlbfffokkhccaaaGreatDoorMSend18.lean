/- Texts of the proof of the law FnSend, side by side: part 18. -/
import Derived.Lib.Builder
import Derived.Lib.Strings
import Derived.Lib.UnsafeStr
import Derived.Lib.AppendStr
import Derived.Laws.Externs
import Derived.Test.YtlbfffokkhccaaaGreatDoorMSend17
set_option maxHeartbeats 8000000
set_option maxRecDepth 100000
namespace Go.Proofs.YtlbfffokkhccaaaGreatDoor
open Go.RowKit
def frOk (ss : List ByteArray) : Bool := decide (1 ≤ ss.length ∧ ss.length ≤ 6) && (ss.all (fun s => decide (s.size % 8 = 0)) && decide (tot ss ≤ 1600))
def wds (ss : List ByteArray) : Nat := (ss.map (·.size / 8)).sum
theorem wds_take (ss : List ByteArray) (k : Nat) (h : k < ss.length) : wds (ss.take (k + 1)) = wds (ss.take k) + (ss[k]).size / 8 := by
 rw [List.take_succ_eq_append_getElem h, wds, wds, List.map_append, List.sum_append]
 simp
theorem wds_tot : ∀ (ss : List ByteArray), ss.all (fun s => decide (s.size % 8 = 0)) = true → 8 * wds ss = tot ss
 | [], _ => rfl
 | s :: r, h => by
   simp only [List.all_cons, Bool.and_eq_true, decide_eq_true_eq] at h
   have := wds_tot r h.2
   simp only [wds, tot, List.map_cons, List.sum_cons] at this ⊢
   omega
theorem wds_le (ss : List ByteArray) : wds ss ≤ tot ss := by
 induction ss with
 | nil => exact Nat.le_refl _
 | cons s r ih => simp only [wds, tot, List.map_cons, List.sum_cons] at ih ⊢; omega
theorem all_falseF {ss : List ByteArray} {k : Nat} (h : k < ss.length) (hn : ¬ (ss[k]).size % 8 = 0) : ss.all (fun s => decide (s.size % 8 = 0)) = false := by
 rw [List.all_eq_false]
 exact ⟨ss[k], List.getElem_mem h, by simpa using hn⟩
theorem all_upto {ss : List ByteArray} {k : Nat} (hk : k < ss.length) (h : (ss.take k).all (fun s => decide (s.size % 8 = 0)) = true) (hm : (ss[k]).size % 8 = 0) : (ss.take (k + 1)).all (fun s => decide (s.size % 8 = 0)) = true := by
 rw [List.take_succ_eq_append_getElem hk, List.all_append, h]
 simpa using hm
theorem specFrameOk_any (A : Option Addr) (cap : Nat) (ss : List ByteArray) (w : World) (h : Strs w A ss) (hn : ss.length ≤ 1048576) (ht : tot ss ≤ 1099511627776) :
 Calls Tryz.prog 80 #[.slice A ss.length cap] w fun e w' => e = .returned (.bool (frOk ss)) ∧ w = w' := by
 have H := Lib.hid h
 clear h
 go_enter Tryz.func80, Tryz.ntmps80
 go_wp2
 go_loop [3, 4] (fun m i => ∃ k : Nat, k ≤ ss.length ∧ i = .int .i64 k ∧ m = .int .i64 (wds (ss.take k) : Nat) ∧ Hid ((ss.take k).all (fun s => decide (s.size % 8 = 0)) = true)) (fun _ i => ss.length - (intOf i).toNat)
 case atStart => exact ⟨0, by omega, rfl, by simp [wds], by simp [Hid]⟩
 case round =>
  obtain ⟨k, hk, rfl, rfl, HA⟩ := hrel
  have hw1 : wds (ss.take k) ≤ 1099511627776 := Nat.le_trans (wds_le _) (Nat.le_trans (tot_take_le ss k) ht)
  by_cases hk1 : k < ss.length
  · obtain ⟨a, rfl, _, hc⟩ := H.out.2.resolve_left (by intro h; rw [h] at hk1; simp at hk1)
    have hck := hc k hk1
    have hsz := H.out.1 ss[k] (List.getElem_mem hk1)
    unfold maxLen at hsz
    have hsz2 : (ss[k]).size ≤ 1099511627776 := by
     have h1 := tot_take ss k hk1
     have h2 := tot_take_le ss (k + 1)
     omega
    clear hc
    by_cases hm : (ss[k]).size % 8 = 0
    · have hA' := all_upto hk1 HA.out hm
      have HA' := Lib.hid hA'
      have hwt := wds_take ss k hk1
      have HW := Lib.hid hwt
      have hm0 : (((ss[k]).size : Int) % 8 != 0) = false := by simp; omega
      clear hA' hwt hm
      go_wp2
      go_round
      case rel => exact ⟨k + 1, by omega, by go_num, by rw [HW.out]; go_num, HA'.out⟩
      case measure => simp [intOf]; omega
    · have hm0 : (((ss[k]).size : Int) % 8 != 0) = true := by simp; omega
      have hf := all_falseF hk1 hm
      have HF := Lib.hid hf
      clear hf hm
      go_wp2
      go_ret
      exact ⟨ret_bool (by rw [frOk, HF.out]; simp), rfl⟩
  · obtain rfl : k = ss.length := by omega
    have hall : ss.all (fun s => decide (s.size % 8 = 0)) = true := by have := HA.out; rwa [List.take_of_length_le (Nat.le_refl _)] at this
    have hwt := wds_tot ss hall
    rw [List.take_of_length_le (Nat.le_refl _)] at hw1
    have hfin : frOk ss = (inB ss.length 1 6 && decide ((wds ss : Int) ≤ 200)) := by
     rw [frOk, hall, Bool.true_and, inB, Bool.eq_iff_iff]
     simp
     omega
    have HF := Lib.hid hfin
    clear hall hwt hfin
    cases hin : inB ss.length 1 6
    all_goals
     go_wp2_with (go_at_call 39; refine (l1In_any _ _ _ _).mono ?_; rintro e w' ⟨rfl, rfl⟩)
     all_goals go_ret
     all_goals refine ⟨ret_bool ?_, rfl⟩
     all_goals (rw [HF.out, hin]; simp; try assumption)
theorem implFrameOk_any (A : Option Addr) (cap : Nat) (ss : List ByteArray) (w : World) (h : Strs w A ss) (hn : ss.length ≤ 1048576) :
 Calls Tryz.prog 17 #[.slice A ss.length cap] w fun e w' => e = .returned (.bool (frOk ss)) ∧ w = w' := by
 have H := Lib.hid h
 clear h
 by_cases h1 : ss.length < 1
 · have hf : frOk ss = false := by rw [frOk, decide_eq_false (by omega), Bool.false_and]
   rw [hf]
   clear hf
   go_enter Tryz.func17, Tryz.ntmps17
   go_wp2
   go_ret
   exact ⟨rfl, rfl⟩
 have h1 : 1 ≤ ss.length := by omega
 by_cases h6 : 6 < ss.length
 · have hf : frOk ss = false := by rw [frOk, decide_eq_false (by omega), Bool.false_and]
   rw [hf]
   clear hf
   go_enter Tryz.func17, Tryz.ntmps17
   go_wp2
   go_ret
   exact ⟨rfl, rfl⟩
 have h6 : ss.length ≤ 6 := by omega
 go_enter Tryz.func17, Tryz.ntmps17
 go_wp2
 go_loop [3, 5, 16] (fun m _ i => ∃ k : Nat, k ≤ ss.length ∧ i = .int .i64 k ∧ m = .int .i64 (tot (ss.take k) : Nat) ∧ tot (ss.take k) ≤ 1600 * k ∧ Hid ((ss.take k).all (fun s => decide (s.size % 8 = 0)) = true)) (fun _ _ i => ss.length - (intOf i).toNat)
 case atStart => exact ⟨0, by omega, rfl, by simp [tot], by simp [tot], by simp [Hid]⟩
 case round =>
  obtain ⟨k, hk, rfl, rfl, hT, HA⟩ := hrel
  by_cases hk1 : k < ss.length
  · obtain ⟨a, rfl, _, hc⟩ := H.out.2.resolve_left (by intro h; rw [h] at hk1; simp at hk1)
    have hck := hc k hk1
    have hsz := H.out.1 ss[k] (List.getElem_mem hk1)
    clear hc
    cases hw : wordsB (ss[k]).size
    · have hf : frOk ss = false := by
       rw [Bool.eq_false_iff]
       intro hok
       simp only [frOk, Bool.and_eq_true, decide_eq_true_eq] at hok
       obtain ⟨_, ha, ht⟩ := hok
       have hm : (ss[k]).size % 8 = 0 := by simpa using List.all_eq_true.1 ha ss[k] (List.getElem_mem hk1)
       have h1 := tot_take ss k hk1
       have h2 := tot_take_le ss (k + 1)
       have : wordsB (ss[k]).size = true := by rw [wordsB, decide_eq_true]; omega
       rw [this] at hw
       cases hw
      have HF := Lib.hid hf
      clear hf
      go_wp2_with (go_at_call 48; refine (isWords_any _ _ hsz).mono ?_; rintro e w' ⟨rfl, rfl⟩)
      go_ret
      exact ⟨ret_bool HF.out.symm, rfl⟩
    · have hw8 : (ss[k]).size % 8 = 0 ∧ (ss[k]).size ≤ 1600 := by simpa [wordsB] using hw
      obtain ⟨hm, hle⟩ := hw8
      have hA' := all_upto hk1 HA.out hm
      have HA' := Lib.hid hA'
      have htt := tot_take ss k hk1
      have hT' : tot (ss.take (k + 1)) ≤ 1600 * (k + 1) := by omega
      have HT' := Lib.hid hT'
      have HTT := Lib.hid htt
      clear hA' htt hm hT'
      go_wp2_with (go_at_call 48; refine (isWords_any _ _ hsz).mono ?_; rintro e w' ⟨rfl, rfl⟩)
      go_round
      case rel => exact ⟨k + 1, by omega, by go_num, by rw [HTT.out]; go_num, HT'.out, HA'.out⟩
      case measure => simp [intOf]; omega
  · obtain rfl : k = ss.length := by omega
    have hall : ss.all (fun s => decide (s.size % 8 = 0)) = true := by have := HA.out; rwa [List.take_of_length_le (Nat.le_refl _)] at this
    have hfin : frOk ss = decide ((tot ss : Int) ≤ 1600) := by
     rw [frOk, hall, Bool.true_and, decide_eq_true (show 1 ≤ ss.length ∧ ss.length ≤ 6 by omega), Bool.true_and, Bool.eq_iff_iff]
     simp
     omega
    have HF := Lib.hid hfin
    clear hall hfin
    go_wp2
    go_ret
    refine ⟨ret_bool ?_, rfl⟩
    rw [HF.out]
open Go.RowKit Go.Deep
theorem as_nil (T : TypeId) (x : Value) (w : World) : Calls Tryz.prog 46 #[.nilIface, .iface T x] w fun e w' => e = .returned (.bool false) ∧ Below w.heap.size w w' := by
 go_enter Tryz.func46, Tryz.ntmps46
 go_wp2
 go_ret
 exact ⟨rfl, by repeat (first | exact Below.refl _ _ | refine Below.alloc ?_ (by simp) _)⟩
theorem tot_mem : ∀ (zs : List ByteArray) (s : ByteArray), s ∈ zs → s.size ≤ tot zs
 | [], _, h => by cases h
 | z :: t, s, h => by
   have e : tot (z :: t) = z.size + tot t := by unfold tot; rw [List.map_cons, List.sum_cons]
   rcases List.mem_cons.1 h with rfl | h
   · omega
   · have := tot_mem t s h; omega
def ReadQ (n : Nd) (w : World) (e : Ending) (w' : World) : Prop := ∃ h : Hd, e = .returned (.tuple #[.agg #[.int .i64 n.kind, .string n.data, .slice h.A n.ptrs.length h.a, .int .i64 n.size, .int .i64 n.count, .slice h.B n.items.length h.b], .int .i64 0]) ∧ NdAt w' (From w.heap.size) 16 n h ∧ Below w.heap.size w w'
theorem implRead_a (A : Option Addr) (cap : Nat) (zs : List ByteArray) (limit : Int) (w : World) (n : Nd) (h : Strs w A zs) (hok : frOk zs = true) (hl0 : 0 ≤ limit) (hl1 : limit ≤ 1000) (hn : okN 8 n = true) (hwn : wordsN 8 n ≤ 199) (hrep : RepN (sgz zs) 8 n 0 0) (hc : (costN 8 n : Int) ≤ limit) :
 Calls Tryz.prog 15 #[.slice A zs.length cap, .int .i64 limit] w (ReadQ n w) := by
 have hfo := hok
 unfold frOk at hfo
 rw [Bool.and_eq_true, Bool.and_eq_true, decide_eq_true_eq, List.all_eq_true, decide_eq_true_eq] at hfo
 obtain ⟨f1, f2, f3⟩ := hfo
 have hsm : ∀ s ∈ zs, s.size ≤ 1600 ∧ s.size % 8 = 0 := fun s hs => ⟨Nat.le_trans (tot_mem zs s hs) f3, by have := f2 s hs; simpa using this⟩
 have h0 : 0 < zs.length := by omega
 have hle := hrep.le
 rw [sgz_get h0, data_toList] at hle
 have HFO : Hid (∀ W : World, Below w.heap.size w W → Calls Tryz.prog 17 #[.slice A zs.length cap] W fun e w' => e = .returned (.bool true) ∧ W = w') := Lib.hid fun W hW => by
  have := implFrameOk_any A cap zs W (h.below hW) (by omega)
  rwa [hok] at this
 have HWI : Hid (∀ W : World, Calls Tryz.prog 43 #[.int .i64 limit, .int .i64 1001] W fun e w' => e = .returned (.bool true) ∧ W = w') := Lib.hid fun W => by
  have := within_a limit 1001 W
  rwa [show wiB limit 1001 = true by simp [wiB]; omega] at this
 have hb0 := ((Below.refl w.heap.size w).alloc (Nat.le_refl _) (.cells #[.int .i64 0, .string { data := #[] }, .slice none 0 0, .int .i64 0, .int .i64 0, .slice none 0 0] nodeT)).alloc (by simp) (.cells #[.slice A zs.length cap, .int .i64 limit] rdrT)
 have hr1 : ((w.alloc (.cells #[.int .i64 0, .string { data := #[] }, .slice none 0 0, .int .i64 0, .int .i64 0, .slice none 0 0] nodeT)).alloc (.cells #[.slice A zs.length cap, .int .i64 limit] rdrT)).heap[w.heap.size + 1]? = some (.cells #[.slice A zs.length cap, .int .i64 limit] rdrT (0, 0)) := heap_alloc2_new w _ _
 have hr0 : ((w.alloc (.cells #[.int .i64 0, .string { data := #[] }, .slice none 0 0, .int .i64 0, .int .i64 0, .slice none 0 0] nodeT)).alloc (.cells #[.slice A zs.length cap, .int .i64 limit] rdrT)).heap[w.heap.size]? = some (.cells #[.int .i64 0, .string { data := #[] }, .slice none 0 0, .int .i64 0, .int .i64 0, .slice none 0 0] nodeT (0, 0)) := heap_alloc2_old w _ _
 have hrdr : Rdr ((w.alloc (.cells #[.int .i64 0, .string { data := #[] }, .slice none 0 0, .int .i64 0, .int .i64 0, .slice none 0 0] nodeT)).alloc (.cells #[.slice A zs.length cap, .int .i64 limit] rdrT)) (w.heap.size + 1) A cap zs limit := ⟨hr1, h.below hb0, fun a ha => by
  rcases h.2 with e | ⟨a', ha', hlt, _⟩
  · rw [e] at h0; cases h0
  · rw [ha] at ha'; injection ha' with ha'; subst ha'; omega, f1.2, hsm⟩
 have HRD := Lib.hid hrdr
 have HB0 := Lib.hid hb0
 have R0 := Lib.hid hr0
 have HHA : Hid (∀ W : World, Rdr W (w.heap.size + 1) A cap zs limit → Calls Tryz.prog 44 #[.pointer (some ⟨w.heap.size + 1, 0, none⟩), plV 0 0, .int .i64 1] W fun e w' => e = .returned (.bool true) ∧ Below W.heap.size W w') := Lib.hid fun W h1 => has_a h1 0 0 1 h0 (by omega)
 have HPD := Lib.hid (pointed_a (w.heap.size + 1) 1)
 have HCL : Hid (∀ (W : World) (x y : Nat), Rdr W (w.heap.size + 1) A cap zs limit → W.heap[x]? = some (.cells #[.pointer (some ⟨w.heap.size + 1, 0, none⟩)] 64 (0, 0)) → W.heap[y]? = some (.cells #[.int .i64 1] 3 (0, 0)) → Calls Tryz.prog 84 #[plV 0 0, .pointer (some ⟨x, 0, none⟩), .pointer (some ⟨y, 0, none⟩)] W (NdQ 16 (w.heap.size + 1) A cap zs (limit - (costN 8 n : Nat)) n W)) := Lib.hid fun W x y h1 h2 h3 => inC_all 8 (by decide) n 0 0 limit W x y hn hwn hrep hc hl1 h1 ⟨h2, h3⟩
 have HAS := Lib.hid as_nil
 clear h hok hl0 hl1 hn hwn hrep hc f1 f2 f3 hsm h0 hle hb0 hr1 hr0 hrdr
 generalize limit - (costN 8 n : Nat) = L2 at *
 have hba1 := (Below.refl w.heap.size w).alloc (Nat.le_refl _) (.cells #[.int .i64 0, .string { data := #[] }, .slice none 0 0, .int .i64 0, .int .i64 0, .slice none 0 0] nodeT)
 go_enter Tryz.func15, Tryz.ntmps15
 go_wp2_with (first | (go_at_call 17; (with_reducible refine (HFO.out _ hba1).mono ?_); rintro e w1 ⟨rfl, rfl⟩) | (go_at_call 43; (with_reducible refine (HWI.out _).mono ?_); rintro e w1 ⟨rfl, rfl⟩) | fail)
 generalize ((w.alloc (.cells #[.int .i64 0, .string { data := #[] }, .slice none 0 0, .int .i64 0, .int .i64 0, .slice none 0 0] nodeT)).alloc (.cells #[.slice A zs.length cap, .int .i64 limit] rdrT)) = W at *
 refine (HHA.out _ HRD.out).mono ?_
 rintro e w2 ⟨rfl, hb2⟩
 have HR2 := Lib.hid (HRD.out.below hb2)
 have HB2 := Lib.hid (HB0.out.trans (hb2.mono HB0.out.size))
 have q0 := (hb2.block _ (row_lt R0.out)).trans R0.out
 have Q0 := Lib.hid q0
 clear q0 hb2 hba1 HRD HB0 R0
 go_wp2_with fail
 refine (HPD.out _).mono ?_
 rintro e w3 ⟨rfl, hb3, hv1, hv2⟩
 have HC3 := Lib.hid (HCL.out w3 _ _ (HR2.out.below hb3) hv1 hv2)
 have HB3 := Lib.hid (HB2.out.trans (hb3.mono HB2.out.size))
 have q0 := (hb3.block _ (row_lt Q0.out)).trans Q0.out
 have Q3 := Lib.hid q0
 have HS3 : Hid (w.heap.size + 1 < w3.heap.size) := Lib.hid (Nat.lt_of_lt_of_le HR2.out.lt hb3.size)
 clear q0 hb3 hv1 hv2 HR2 HB2 Q0
 unfold NdQ at HC3
 go_wp2_with fail
 refine HC3.out.mono ?_
 rintro e w4 ⟨hy, rfl, hny, hrd4, hk4⟩
 have hba := ((Below.refl w4.heap.size w4).alloc (Nat.le_refl _) (.cells #[.int .i64 n.kind, .string n.data, .slice hy.A n.ptrs.length hy.a, .int .i64 n.size, .int .i64 n.count, .slice hy.B n.items.length hy.b] nodeT)).alloc (by simp) (.cells #[.int .i64 0] 75)
 have y0 := heap_alloc2_old w4 (.cells #[.int .i64 n.kind, .string n.data, .slice hy.A n.ptrs.length hy.a, .int .i64 n.size, .int .i64 n.count, .slice hy.B n.items.length hy.b] nodeT) (.cells #[.int .i64 0] 75)
 have Y0 := Lib.hid y0
 have q4 := (hba.block _ (by have := hk4.size; have := row_lt Q3.out; omega)).trans ((hk4.block _ (row_lt Q3.out) (by omega)).trans Q3.out)
 have Q4 := Lib.hid q4
 have HN4 := Lib.hid (hny.below hba)
 have HB4 : Hid (Below w.heap.size w4 ((w4.alloc (.cells #[.int .i64 n.kind, .string n.data, .slice hy.A n.ptrs.length hy.a, .int .i64 n.size, .int .i64 n.count, .slice hy.B n.items.length hy.b] nodeT)).alloc (.cells #[.int .i64 0] 75))) := Lib.hid (hba.mono (by have := hk4.size; have := HS3.out; omega))
 have HK4 : Hid (Below w.heap.size w3 w4) := Lib.hid (hk4.below (by have := HS3.out; omega) (by omega))
 clear hny hrd4 hk4 hba y0 q4 HC3
 go_wp2_with fail
 generalize (w4.alloc (.cells #[.int .i64 n.kind, .string n.data, .slice hy.A n.ptrs.length hy.a, .int .i64 n.size, .int .i64 n.count, .slice hy.B n.items.length hy.b] nodeT)).alloc (.cells #[.int .i64 0] 75) = W5 at *
 refine (HAS.out _ _ _).mono ?_
 rintro e w6 ⟨rfl, hb6⟩
 have y6 := (hb6.block _ (row_lt Y0.out)).trans Y0.out
 have q6 := (hb6.block _ (row_lt Q4.out)).trans Q4.out
 have Q6 := Lib.hid q6
 have HN6 := Lib.hid (HN4.out.below hb6)
 have hs5 : w.heap.size ≤ W5.heap.size := by have := row_lt Q4.out; omega
 have HB6 := Lib.hid (((HB3.out.trans HK4.out).trans HB4.out).trans (hb6.mono hs5))
 obtain ⟨m0, m1, m2, m3, m4, m5⟩ := cells6 y6
 obtain ⟨c0, c1, c2, c3, c4, c5⟩ := cells6 q6
 have hfz := row_free q6
 clear y6 q6 hb6 hs5
 go_wp2
 obtain ⟨wf, hwf, hrw, hkf⟩ := store6K Q6.out (.int .i64 n.kind) (.string n.data) (.slice hy.A n.ptrs.length hy.a) (.int .i64 n.size) (.int .i64 n.count) (.slice hy.B n.items.length hy.b)
 rw [hwf]
 obtain ⟨e0, e1, e2, e3, e4, e5⟩ := cells6 hrw
 have hbf : Below w.heap.size w6 wf := hkf.below (by have := HB6.out.size; omega) (by omega)
 exact bodyPost_ret (v := .tuple #[.agg #[.int .i64 n.kind, .string n.data, .slice hy.A n.ptrs.length hy.a, .int .i64 n.size, .int .i64 n.count, .slice hy.B n.items.length hy.b], .int .i64 0]) (by simp [results, Tryz.results15, go_sem, e0, e1, e2, e3, e4, e5]) rfl ⟨hy, rfl, (HN6.out.keepsR hkf (fun k (hk : w3.heap.size ≤ k) => by have := HS3.out; omega)).weak (fun k (hk : w3.heap.size ≤ k) => by have := HS3.out; show w.heap.size ≤ k; omega), HB6.out.trans hbf⟩
end Go.Proofs.YtlbfffokkhccaaaGreatDoor
namespace Go.Proofs.YtlbfffokkhccaaaGreatDoor
open Go.RowKit
theorem fbsize : (Tryz.prog.info? 119).map (·.size) = some 2 := by kernel_rfl
theorem fbinfo5 : (Tryz.prog.info? 5).map (fun i => (i.zero, i.size, i.bytes)) = some (some (.int .u8 0), 1, 1) := by kernel_rfl
theorem fbcells5 : Tryz.prog.cellsOf 5 = 1 := by kernel_rfl
def LiesB (T : TypeId) (m : Nat) : Prop := T ≠ 5 ∧ liesAt Tryz.prog Tryz.prog.depth T ((m + 2) / Tryz.prog.cellsOf T) 0 119 1 = true
def fcs (p v : Value) (rest : List Value) : Array Value := (p :: v :: rest).toArray
theorem fcs_0 {w : World} {b : Nat} {p v : Value} {rest : List Value} {T : TypeId} (h : w.heap[b]? = some (.cells (fcs p v rest) T (0, 0))) : w.cell? ⟨b, 0, none⟩ = some p := by
 rw [cell_of_row _ _ _ _ _ _ h]; rfl
theorem fcs_1 {w : World} {b : Nat} {p v : Value} {rest : List Value} {T : TypeId} (h : w.heap[b]? = some (.cells (fcs p v rest) T (0, 0))) : w.cell? ⟨b, 1, none⟩ = some v := by
 rw [cell_of_row _ _ _ _ _ _ h]; rfl
theorem fcs_2 {w : World} {b i : Nat} {p v : Value} {rest : List Value} {T : TypeId} (h : w.heap[b]? = some (.cells (fcs p v rest) T (0, 0))) : w.cell? ⟨b, i + 2, none⟩ = rest[i]? := by
 rw [cell_of_row _ _ _ _ _ _ h]; simp [fcs]
theorem fset_0 {w : World} {b : Nat} {p v q : Value} {rest : List Value} {T : TypeId} (h : w.heap[b]? = some (.cells (fcs p v rest) T (0, 0))) : (w.setCell ⟨b, 0, none⟩ q).heap[b]? = some (.cells (fcs q v rest) T (0, 0)) := by
 simp [World.setCell, Array.getElem?_modify, h, fcs]
theorem fset_1 {w : World} {b : Nat} {p v q : Value} {rest : List Value} {T : TypeId} (h : w.heap[b]? = some (.cells (fcs p v rest) T (0, 0))) : (w.setCell ⟨b, 1, none⟩ q).heap[b]? = some (.cells (fcs p q rest) T (0, 0)) := by
 simp [World.setCell, Array.getElem?_modify, h, fcs]
theorem fset_2 {w : World} {b i : Nat} {p v q : Value} {rest : List Value} {T : TypeId} (h : w.heap[b]? = some (.cells (fcs p v rest) T (0, 0))) : (w.setCell ⟨b, i + 2, none⟩ q).heap[b]? = some (.cells (fcs p v (rest.set i q)) T (0, 0)) := by
 simp [World.setCell, Array.getElem?_modify, h, fcs]
theorem fset_grown (w : World) (b i : Nat) (u : Value) : w.grownBy (w.setCell ⟨b, i, none⟩ u) (some b) :=
 ⟨rfl, rfl, rfl, by simp [World.setCell], fun k _ hk => Below.heap_setCell w ⟨b, i, none⟩ u k (fun e => hk (by rw [e]))⟩
def BF (T : TypeId) (B b : Nat) (bs : List Value) (rest : List Value) (w : World) : Prop :=
 ∃ p v, (p = .pointer none ∨ p = .pointer (some ⟨b, 0, none⟩)) ∧ w.heap[b]? = some (.cells (fcs p v rest) T (0, 0)) ∧ w.ownsRow B 5 1 v bs.length bs
theorem BF.fresh {w : World} {T : TypeId} {b : Nat} {rest : List Value} (B : Nat) (h : w.heap[b]? = some (.cells (fcs (.pointer none) (.slice none 0 0) rest) T (0, 0))) : BF T B b [] rest w :=
 ⟨_, _, .inl rfl, h, World.ownsRow_nil _ _ _ _⟩
theorem BF.below {T : TypeId} {B b : Nat} {bs rest : List Value} {w w' : World} (h : BF T B b bs rest w) (hb : Below w.heap.size w w') : BF T B b bs rest w' := by
 obtain ⟨p, v, hp, hr, hown⟩ := h
 exact ⟨p, v, hp, (hb.block b (row_lt hr)).trans hr, hown.kept (row := none) ⟨hb.os, hb.tape, hb.output, hb.size, fun k hk _ => hb.block k hk⟩ (Classical.em _)⟩
theorem BF.lt {T : TypeId} {B b : Nat} {bs rest : List Value} {w : World} (h : BF T B b bs rest w) : b < w.heap.size := by
 obtain ⟨p, v, hp, hr, hown⟩ := h
 exact row_lt hr
theorem BF.cell {T : TypeId} {B b : Nat} {bs rest : List Value} {w : World} (h : BF T B b bs rest w) (i : Nat) : w.cell? ⟨b, i + 2, none⟩ = rest[i]? := by
 obtain ⟨p, v, hp, hr, hown⟩ := h
 exact fcs_2 hr
theorem BF.frozen {T : TypeId} {B b : Nat} {bs rest : List Value} {w : World} (h : BF T B b bs rest w) (i : Nat) : w.frozen? ⟨b, i, none⟩ = false := by
 obtain ⟨p, v, hp, hr, hown⟩ := h
 exact row_free hr i
theorem BF.set {T : TypeId} {B b : Nat} {bs rest : List Value} {w : World} (hT : T ≠ 5) (h : BF T B b bs rest w) (i : Nat) (q : Value) : BF T B b bs (rest.set i q) (w.setCell ⟨b, i + 2, none⟩ q) := by
 obtain ⟨p, v, hp, hr, hown⟩ := h
 exact ⟨p, v, hp, fset_2 hr, hown.kept (fset_grown w b (i + 2) q) (.inr (Lib.ownBlock_ne hown hr hT))⟩
theorem fcopyCheck_used (b : Nat) (w : World) (h0 : w.cell? ⟨b, 0, none⟩ = some (.pointer (some ⟨b, 0, none⟩))) :
 Calls Tryz.prog 121 #[.pointer (some ⟨b, 0, none⟩)] w fun e w' => e = .returned (.tuple #[]) ∧ w' = w := by
 obtain ⟨j, hj, _⟩ := Option.map_eq_some_iff.1 fbsize
 have hne := Lib.run_neq_ptr_same (P := Tryz.prog) w (tp := 117) (te := 119) ⟨b, 0, none⟩ Tryz.underlying117 hj
 go_enter Tryz.func121, Tryz.ntmps121
 go_wp2
 go_end0
 exact ⟨rfl, rfl⟩
theorem fcopyCheck_fresh (T : TypeId) (m b : Nat) (w : World) (hT : LiesB T m) (h0 : w.cell? ⟨b, 0, none⟩ = some (.pointer none)) (hsh : w.shape? b = some (T, m + 2)) (hfz : w.frozen? ⟨b, 0, none⟩ = false) :
 Calls Tryz.prog 121 #[.pointer (some ⟨b, 0, none⟩)] w fun e w' => e = .returned (.tuple #[]) ∧ w' = w.setCell ⟨b, 0, none⟩ (.pointer (some ⟨b, 0, none⟩)) := by
 obtain ⟨j, hj, hjs⟩ := Option.map_eq_some_iff.1 fbsize
 have hto := Lib.run_to_unsafe (P := Tryz.prog) w (src := 117) (dst := 134) (t := 119) ⟨b, 0, none⟩ Tryz.underlying117 Tryz.underlying134 hj (by rw [hjs]; decide) hsh (Nat.zero_lt_succ _)
 have hfrom := Lib.run_from_unsafe (P := Tryz.prog) w (src := 134) (dst := 117) (u := 119) ⟨b, 0, none⟩ Tryz.underlying134 Tryz.underlying117 hj hsh hT.2
 have hesc : (callFunc 161 #[.pointer (some ⟨b, 0, none⟩)]).run Tryz.prog w = .ok (.value (.pointer (some ⟨b, 0, none⟩))) w := by
  rw [run_callFunc_extern Tryz.func161 (by kernel_rfl) (by kernel_rfl) (by kernel_rfl) (e := Extern.AbiNoEscape.same) (by kernel_rfl), Lib.run_noEscape]
  rfl
 clear hT
 go_enter Tryz.func121, Tryz.ntmps121
 go_wp2
 go_end0
 exact ⟨rfl, rfl⟩
def Oth (b : Nat) (w w' : World) : Prop := ∀ c cs T fr, c ≠ b → T ≠ 5 → w.heap[c]? = some (.cells cs T fr) → w'.heap[c]? = some (.cells cs T fr)
def BSelf (T : TypeId) (B b : Nat) (v : Value) (bs rest : List Value) (w0 w : World) : Prop :=
 w.heap[b]? = some (.cells (fcs (.pointer (some ⟨b, 0, none⟩)) v rest) T (0, 0)) ∧ w.ownsRow B 5 1 v bs.length bs ∧ Keeps B b w0 w ∧ w.heap.size = w0.heap.size ∧ ∀ c, c ≠ b → w.heap[c]? = w0.heap[c]?
theorem fcopyCheck_any (T : TypeId) (B b : Nat) (bs rest : List Value) (w : World) (hT : LiesB T rest.length) (h : BF T B b bs rest w) :
 ∃ v, Calls Tryz.prog 121 #[.pointer (some ⟨b, 0, none⟩)] w fun e w' => e = .returned (.tuple #[]) ∧ BSelf T B b v bs rest w w' := by
 obtain ⟨p, v, hp, hb, hown⟩ := h
 have hne := Lib.ownBlock_ne hown hb hT.1
 have c0 := fcs_0 hb
 rcases hp with rfl | rfl
 · refine ⟨v, (fcopyCheck_fresh T rest.length b w hT c0 (by simp [World.shape?, hb, fcs]) (row_free hb 0)).mono ?_⟩
   rintro e w' ⟨rfl, rfl⟩
   exact ⟨rfl, fset_0 hb, hown.kept (fset_grown w b 0 _) (.inr hne), set_keeps B b w 0 _, by simp [World.setCell], fun c hc => Below.heap_setCell w ⟨b, 0, none⟩ _ c hc⟩
 · refine ⟨v, (fcopyCheck_used b w c0).mono ?_⟩
   rintro e w' ⟨rfl, rfl⟩
   exact ⟨rfl, hb, hown, Keeps.refl _ _ _, rfl, fun _ _ => rfl⟩
theorem BSelf.put {T : TypeId} {B b : Nat} {bs rest new : List Value} {v v' : Value} {w0 w1 w2 : World} (hT : T ≠ 5) (h : BSelf T B b v bs rest w0 w1) {wx : World} (hx : Keeps w1.heap.size w1.heap.size w1 wx) (hg : wx.grownBy w2 v.ownBlock) (hown : w2.ownsRow B 5 1 v' (bs ++ new).length (bs ++ new)) :
 w2.heap[b]? = some (.cells (fcs (.pointer (some ⟨b, 0, none⟩)) v rest) T (0, 0)) ∧ BF T B b (bs ++ new) rest (w2.setCell ⟨b, 1, none⟩ v') ∧ (B ≤ w1.heap.size → Keeps B b w0 (w2.setCell ⟨b, 1, none⟩ v')) ∧ Oth b w0 (w2.setCell ⟨b, 1, none⟩ v') := by
 obtain ⟨hb, ho, hk, _, hoth⟩ := h
 have hne := Lib.ownBlock_ne ho hb hT
 have hlt : b < w1.heap.size := row_lt hb
 have h2 : w2.heap[b]? = some (.cells (fcs (.pointer (some ⟨b, 0, none⟩)) v rest) T (0, 0)) :=
  (hg.block b (Nat.lt_of_lt_of_le hlt hx.size) (Ne.symm hne)).trans ((hx.block b hlt (by omega)).trans hb)
 have hne2 := Lib.ownBlock_ne hown h2 hT
 refine ⟨h2, ⟨_, _, .inr rfl, fset_1 h2, hown.kept (fset_grown w2 b 1 _) (.inr hne2)⟩, fun hB => hk.trans ?_, fun c cs T' fr hc hT' hh => ?_⟩
 rotate_left
 · have h1 : w1.heap[c]? = some (.cells cs T' fr) := (hoth c hc).trans hh
   have hl1 := row_lt h1
   have hne3 := Lib.ownBlock_ne ho h1 hT'
   rw [Below.heap_setCell w2 ⟨b, 1, none⟩ _ c hc]
   exact (hg.block c (Nat.lt_of_lt_of_le hl1 hx.size) (Ne.symm hne3)).trans ((hx.block c hl1 (by omega)).trans h1)
 refine Keeps.trans (c := w2) ⟨hg.os.trans hx.os, hg.tape.trans hx.tape, hg.output.trans hx.output, Nat.le_trans hx.size hg.size, fun k hk' hn => ?_⟩ (set_keeps B b w2 1 _)
 refine (hg.block k (Nat.lt_of_lt_of_le (Nat.lt_of_lt_of_le hk' hB) hx.size) (fun e => ?_)).trans (hx.block k (by omega) (by omega))
 have := (ho.lt k e.symm).1
 omega
theorem falloc_keeps (w : World) (x : Obj) : Keeps w.heap.size w.heap.size w (w.alloc x) := Keeps.of_below ((Below.refl _ w).alloc (Nat.le_refl _) x)
theorem fown_form {w : World} {B e n : Nat} {v : Value} {xs : List Value} (h : w.ownsRow B e 1 v (n + 1) xs) : ∃ g cap, v = .slice (some ⟨g, 0, none⟩) (n + 1) cap :=
 h.2.elim (fun h0 => absurd h0.2 (by omega)) (fun ⟨g, cap, _, hv, _⟩ => ⟨g, cap, hv⟩)
theorem fown_any {w : World} {B e n : Nat} {v : Value} {xs : List Value} (h : w.ownsRow B e 1 v n xs) : ∃ A cap, v = .slice A n cap := by
 rcases h.2 with ⟨rfl, rfl⟩ | ⟨g, cap, _, rfl, _⟩
 · exact ⟨none, 0, rfl⟩
 · exact ⟨_, cap, rfl⟩
theorem fwriteByteO_any (T : TypeId) (B b : Nat) (bs rest : List Value) (c : Int) (w : World) (hT : LiesB T rest.length) (h : BF T B b bs rest w) (hlen : bs.length ≤ 1099511627776) (hBw : B ≤ w.heap.size) :
 Calls Tryz.prog 140 #[.pointer (some ⟨b, 0, none⟩), .int .u8 c] w fun e w' => e = .returned .nilIface ∧ (BF T B b (bs ++ [.int .u8 c]) rest w' ∧ Keeps B b w w' ∧ Oth b w w') := by
 obtain ⟨i0, hi, hz0, hz1, hz2⟩ := info_parts fbinfo5
 obtain ⟨v, hcc⟩ := fcopyCheck_any T B b bs rest w hT h
 have HC := Lib.hid hcc
 have HT := Lib.hid hT.1
 clear hcc h hT
 go_enter Tryz.func140, Tryz.ntmps140
 go_wp2_with (first | (go_at_call 121; refine HC.out.mono ?_; rintro e w1 ⟨rfl, hS⟩; have hT := Lib.hid hS; have hsz := Nat.le_trans hBw (Nat.le_of_eq hS.2.2.2.1.symm); have c1 := fcs_1 hS.1; clear hS) | (at_builtin; refine wpList_append_own _ rfl _ _ 22 rfl B 5 i0 (.int .u8 0) 1 1 Tryz.underlying22 hi hz0 hz1 hz2 rfl (by decide) v _ _ rfl (hT.out.2.1.alloc _) ⟨w1.heap.size, 0, none⟩ 1 1 [.int .u8 c] rfl rfl (cell_one_new _ _ _) (by simp [Value.oneCell']) (by unfold maxLen; omega) (by omega) (by simp; omega) ?_; intro v' w2 hown' hgrow _; obtain ⟨h2, hU, hKp, hOt⟩ := hT.out.put HT.out (new := [.int .u8 c]) (falloc_keeps w1 _) hgrow (by rw [List.length_append]; exact hown'); have d1 := fcs_1 h2; have f1 := row_free h2 1; obtain ⟨g, cap, rfl⟩ := fown_form hown'; clear h2 hgrow))
 go_ret
 exact ⟨rfl, hU, hKp hsz, hOt⟩
theorem fwriteByte_any (T : TypeId) (B b : Nat) (bs rest : List Value) (c : Int) (w : World) (hT : LiesB T rest.length) (h : BF T B b bs rest w) (hlen : bs.length ≤ 1099511627776) (hBw : B ≤ w.heap.size) :
 Calls Tryz.prog 140 #[.pointer (some ⟨b, 0, none⟩), .int .u8 c] w fun e w' => e = .returned .nilIface ∧ (BF T B b (bs ++ [.int .u8 c]) rest w' ∧ Keeps B b w w') :=
 (fwriteByteO_any T B b bs rest c w hT h hlen hBw).mono fun _ _ ⟨h1, h2, h3, _⟩ => ⟨h1, h2, h3⟩
theorem fwriteString_any (T : TypeId) (B b : Nat) (bs rest : List Value) (s : ByteArray) (w : World) (hTT : LiesB T rest.length) (h : BF T B b bs rest w) (hlen : bs.length ≤ 1099511627776) (hs : s.size ≤ 1099511627776) (hBw : B ≤ w.heap.size) :
 Calls Tryz.prog 75 #[.pointer (some ⟨b, 0, none⟩), .string s] w fun e w' => e = .returned (.tuple #[.int .i64 s.size, .nilIface]) ∧ (BF T B b (bs ++ Lib.strCells s) rest w' ∧ Keeps B b w w') := by
 obtain ⟨i0, hi, hz0, hz1, hz2⟩ := info_parts fbinfo5
 obtain ⟨v, hcc⟩ := fcopyCheck_any T B b bs rest w hTT h
 have HC := Lib.hid hcc
 have HT := Lib.hid hTT.1
 clear hcc h hTT
 have hsl := Lib.strCells_length s
 have HSL := Lib.hid hsl
 clear hsl
 go_enter Tryz.func75, Tryz.ntmps75
 go_wp2_with (first | (go_at_call 121; refine HC.out.mono ?_; rintro e w1 ⟨rfl, hS⟩; have hT := Lib.hid hS; have hsz := Nat.le_trans hBw (Nat.le_of_eq hS.2.2.2.1.symm); have c1 := fcs_1 hS.1; clear hS) | (at_builtin; go_must (refine Lib.wpList_append_own_string _ rfl (.tmp 12) (.tmp 13) 22 9 rfl B 5 i0 Tryz.underlying22 Tryz.underlying9 hi hz0 hz1 hz2 v _ _ rfl hT.out.2.1 s rfl (by unfold maxLen; omega) (by omega) hsz ?_); intro v' w2 hown' hgrow _; obtain ⟨h2, hU, hKp, _⟩ := hT.out.put HT.out (new := Lib.strCells s) (Keeps.refl _ _ _) hgrow (by rw [List.length_append, HSL.out]; exact hown'); have d1 := fcs_1 h2; have f1 := row_free h2 1; obtain ⟨g, cap, rfl⟩ := fown_any hown'; clear h2 hgrow))
 go_ret2
 exact ⟨rfl, hU, hKp hsz⟩
theorem flen_any (T : TypeId) (B b : Nat) (bs rest : List Value) (w : World) (h : BF T B b bs rest w) :
 Calls Tryz.prog 93 #[.pointer (some ⟨b, 0, none⟩)] w fun e w' => e = .returned (.int .i64 bs.length) ∧ w = w' := by
 obtain ⟨p, v, hp, hb, hown⟩ := h
 obtain ⟨g, cap, rfl⟩ := fown_any hown
 have c1 := fcs_1 hb
 clear hb hown hp
 go_enter Tryz.func93, Tryz.ntmps93
 go_wp2
 go_ret
 exact ⟨rfl, rfl⟩
theorem fstring_any (T : TypeId) (B b : Nat) (l : List UInt8) (rest : List Value) (w : World) (h : BF T B b (Lib.byteCells l) rest w) (hBw : B ≤ w.heap.size) :
 Calls Tryz.prog 76 #[.pointer (some ⟨b, 0, none⟩)] w fun e w' => e = .returned (.string ⟨l.toArray⟩) ∧ Below B w w' := by
 obtain ⟨p, v, hp, hbk, hown⟩ := h
 have c1 : w.drew.cell? ⟨b, 1, none⟩ = some v := fcs_1 (w := w.drew) hbk
 have hlt := row_lt hbk
 rw [Lib.byteCells_length] at hown
 clear hp
 by_cases h0 : l = []
 · subst h0
   have hUS := fun (W : World) (q : Option Addr) => Lib.run_unsafeString_none (P := Tryz.prog) W 188 3 9 q
   rcases hown.2 with ⟨rfl, _⟩ | ⟨g, cap, cur, rfl, hbg, hg, hnc, hcm, hcs, htake⟩
   · have hSD : (Builtin.unsafeSliceData_ #[22] 188 #[.slice none 0 0]).run Tryz.prog w.drew = .ok (.pointer none) w.drew := rfl
     clear hbk hown
     go_enter Tryz.func76, Tryz.ntmps76
     go_wp2
     go_region
     all_goals (go_wp2; go_ret; exact ⟨rfl, Below.drew (Below.refl B w)⟩)
   · by_cases hc0 : cap = 0
     · subst hc0
       have hSD : (Builtin.unsafeSliceData_ #[22] 188 #[.slice (some ⟨g, 0, none⟩) 0 0]).run Tryz.prog w.drew = .ok (.pointer (some ⟨w.drew.heap.size, 0, none⟩)) (w.drew.alloc (.view ⟨g, 0, none⟩ 5)) :=
        Lib.run_unsafeSliceData_zero w.drew _ _ 5 Tryz.underlying188 ⟨g, 0, none⟩ 0 (5, cur.size) (by have hg' : w.drew.heap[g]? = some (.cells cur 5 (0, 0)) := hg; simp [World.shape?, hg'])
       have c2 : (w.drew.alloc (.view ⟨g, 0, none⟩ 5)).cell? ⟨b, 1, none⟩ = some (.slice (some ⟨g, 0, none⟩) 0 0) := fcs_1 (w := w.drew.alloc (.view ⟨g, 0, none⟩ 5)) ((Lib.alloc_old w.drew _ b hlt).trans hbk)
       have c3 : (w.alloc (.view ⟨g, 0, none⟩ 5)).drew.cell? ⟨b, 1, none⟩ = some (.slice (some ⟨g, 0, none⟩) 0 0) := c2
       have c0 : w.cell? ⟨b, 1, none⟩ = some (.slice (some ⟨g, 0, none⟩) 0 0) := c1
       clear hbk hown
       go_enter Tryz.func76, Tryz.ntmps76
       go_wp2
       go_region
       all_goals (go_wp2; go_ret; exact ⟨rfl, (Below.drew (Below.refl B w)).alloc hBw _⟩)
     · have hSD : (Builtin.unsafeSliceData_ #[22] 188 #[.slice (some ⟨g, 0, none⟩) 0 cap]).run Tryz.prog w.drew = .ok (.pointer (some ⟨g, 0, none⟩)) w.drew :=
        Lib.run_unsafeSliceData_row _ _ _ _ _ _ hc0
       clear hc0 hbk hown hnc hcm hcs
       go_enter Tryz.func76, Tryz.ntmps76
       go_wp2
       go_region
       all_goals (go_wp2; go_ret; exact ⟨rfl, Below.drew (Below.refl B w)⟩)
 · have hl0 : l.length ≠ 0 := by simpa using h0
   obtain ⟨g, cap, cur, rfl, hbg, hg, hnc, hcm, hcs, htake⟩ : ∃ g cap cur, v = .slice (some ⟨g, 0, none⟩) l.length cap ∧ B ≤ g ∧ w.heap[g]? = some (.cells cur 5 (0, 0)) ∧ l.length ≤ cap ∧ cap ≤ maxLen ∧ cur.size = cap * 1 ∧ cur.toList.take (l.length * 1) = Lib.byteCells l := by
    rcases hown.2 with ⟨_, hz⟩ | ⟨g, cap, cur, hv, r⟩
    · exact absurd hz hl0
    · exact ⟨g, cap, cur, hv, r⟩
   have hSD : (Builtin.unsafeSliceData_ #[22] 188 #[.slice (some ⟨g, 0, none⟩) l.length cap]).run Tryz.prog w.drew = .ok (.pointer (some ⟨g, 0, none⟩)) w.drew :=
    Lib.run_unsafeSliceData_row _ _ _ _ _ _ (by omega)
   have hUS : (Builtin.unsafeString_ #[188, 3] 9 #[.pointer (some ⟨g, 0, none⟩), .int .i64 l.length]).run Tryz.prog w.drew = .ok (.string ⟨l.toArray⟩) (w.drew.freeze ⟨g, 0, none⟩ l.length) := by
    refine Lib.run_unsafeString_row w.drew 188 3 9 5 Tryz.underlying188 fbcells5 g cur.size (by have hg' : w.drew.heap[g]? = some (.cells cur 5 (0, 0)) := hg; simp [World.shape?, hg']) l h0 (by omega) (by unfold maxLen at hcm; omega) ?_
    intro j x hx
    have := hown.cells (g := g) rfl j (.int .u8 x.toNat) (by simp [Lib.byteCells, hx])
    exact this
   go_enter Tryz.func76, Tryz.ntmps76
   go_wp2
   go_region
   all_goals (go_wp2; go_ret; exact ⟨rfl, Lib.below_freeze (Below.drew (Below.refl B w)) (p := ⟨g, 0, none⟩) hbg _⟩)
end Go.Proofs.YtlbfffokkhccaaaGreatDoor
