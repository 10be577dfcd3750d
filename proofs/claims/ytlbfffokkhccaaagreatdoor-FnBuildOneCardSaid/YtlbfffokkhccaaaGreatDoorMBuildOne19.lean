/- Texts of the proof of the law FnBuildOne, side by side: part 19. -/
import Derived.RegionTactic
import Derived.BigRegion
import Derived.StillTailTactics
import Derived.Test.YtlbfffokkhccaaaGreatDoorMBuildOne00
import Derived.Test.YtlbfffokkhccaaaGreatDoorMBuildOne01
import Derived.Test.YtlbfffokkhccaaaGreatDoorMBuildOne02
import Derived.Test.YtlbfffokkhccaaaGreatDoorMBuildOne03
import Derived.Test.YtlbfffokkhccaaaGreatDoorMBuildOne04
import Derived.Test.YtlbfffokkhccaaaGreatDoorMBuildOne05
import Derived.Test.YtlbfffokkhccaaaGreatDoorMBuildOne06
import Derived.Test.YtlbfffokkhccaaaGreatDoorMBuildOne07
import Derived.Test.YtlbfffokkhccaaaGreatDoorMBuildOne08
import Derived.Test.YtlbfffokkhccaaaGreatDoorMBuildOne09
import Derived.Test.YtlbfffokkhccaaaGreatDoorMBuildOne10
import Derived.Test.YtlbfffokkhccaaaGreatDoorMBuildOne11
import Derived.Test.YtlbfffokkhccaaaGreatDoorMBuildOne12
import Derived.Test.YtlbfffokkhccaaaGreatDoorMBuildOne13
import Derived.Test.YtlbfffokkhccaaaGreatDoorMBuildOne14
import Derived.Test.YtlbfffokkhccaaaGreatDoorMBuildOne15
import Derived.Test.YtlbfffokkhccaaaGreatDoorMBuildOne16
import Derived.Test.YtlbfffokkhccaaaGreatDoorMBuildOne17
import Derived.Test.YtlbfffokkhccaaaGreatDoorMBuildOne18
namespace Go.Proofs.YtlbfffokkhccaaaGreatDoor
open Go.RowKit

def frOk (ss : List ByteArray) : Bool := decide (1 ≤ ss.length ∧ ss.length ≤ 6) && (ss.all (fun s => decide (s.size % 8 = 0)) && decide (tot ss ≤ 1600))
def wds (ss : List ByteArray) : Nat := (ss.map (·.size / 8)).sum
theorem wds_take (ss : List ByteArray) (k : Nat) (h : k < ss.length) : wds (ss.take (k + 1)) = wds (ss.take k) + (ss[k]).size / 8 := by
  rw [List.take_succ_eq_append_getElem h, wds, wds, List.map_append, List.sum_append]
  simp
theorem wds_tot : ∀ (ss : List ByteArray), ss.all (fun s => decide (s.size % 8 = 0)) = true → 8 * wds ss = tot ss
  | [], _ => rfl
  | s :: r, h => by
    simp only [List.all_cons, Bool.and_eq_true, decide_eq_true_eq] at h
    have := wds_tot r h.2
    simp only [wds, tot, List.map_cons, List.sum_cons] at this ⊢
    omega
theorem wds_le (ss : List ByteArray) : wds ss ≤ tot ss := by
  induction ss with
  | nil => exact Nat.le_refl _
  | cons s r ih => simp only [wds, tot, List.map_cons, List.sum_cons] at ih ⊢; omega
theorem all_falseF {ss : List ByteArray} {k : Nat} (h : k < ss.length) (hn : ¬ (ss[k]).size % 8 = 0) : ss.all (fun s => decide (s.size % 8 = 0)) = false := by
  rw [List.all_eq_false]
  exact ⟨ss[k], List.getElem_mem h, by simpa using hn⟩
theorem all_upto {ss : List ByteArray} {k : Nat} (hk : k < ss.length) (h : (ss.take k).all (fun s => decide (s.size % 8 = 0)) = true) (hm : (ss[k]).size % 8 = 0) : (ss.take (k + 1)).all (fun s => decide (s.size % 8 = 0)) = true := by
  rw [List.take_succ_eq_append_getElem hk, List.all_append, h]
  simpa using hm

set_option maxHeartbeats 400000 in
theorem specFrameOk_any (A : Option Addr) (cap : Nat) (ss : List ByteArray) (w : World) (h : Strs w A ss) (hn : ss.length ≤ 1048576) (ht : tot ss ≤ 1099511627776) :
    Calls Tryz.prog 80 #[.slice A ss.length cap] w fun e w' => e = .returned (.bool (frOk ss)) ∧ w = w' := by
  have H := Lib.hid h
  clear h
  go_enter Tryz.func80, Tryz.ntmps80
  go_wp2
  go_loop [3, 4] (fun m i => ∃ k : Nat, k ≤ ss.length ∧ i = .int .i64 k ∧ m = .int .i64 (wds (ss.take k) : Nat) ∧ Hid ((ss.take k).all (fun s => decide (s.size % 8 = 0)) = true)) (fun _ i => ss.length - (intOf i).toNat)
  case atStart => exact ⟨0, by omega, rfl, by simp [wds], by simp [Hid]⟩
  case round =>
    obtain ⟨k, hk, rfl, rfl, HA⟩ := hrel
    have hw1 : wds (ss.take k) ≤ 1099511627776 := Nat.le_trans (wds_le _) (Nat.le_trans (tot_take_le ss k) ht)
    by_cases hk1 : k < ss.length
    · obtain ⟨a, rfl, _, hc⟩ := H.out.2.resolve_left (by intro h; rw [h] at hk1; simp at hk1)
      have hck := hc k hk1
      have hsz := H.out.1 ss[k] (List.getElem_mem hk1)
      unfold maxLen at hsz
      have hsz2 : (ss[k]).size ≤ 1099511627776 := by
        have h1 := tot_take ss k hk1
        have h2 := tot_take_le ss (k + 1)
        omega
      clear hc
      by_cases hm : (ss[k]).size % 8 = 0
      · have hA' := all_upto hk1 HA.out hm
        have HA' := Lib.hid hA'
        have hwt := wds_take ss k hk1
        have HW := Lib.hid hwt
        have hm0 : (((ss[k]).size : Int) % 8 != 0) = false := by simp; omega
        clear hA' hwt hm
        go_wp2
        go_round
        case rel => exact ⟨k + 1, by omega, by go_num, by rw [HW.out]; go_num, HA'.out⟩
        case measure => simp [intOf]; omega
      · have hm0 : (((ss[k]).size : Int) % 8 != 0) = true := by simp; omega
        have hf := all_falseF hk1 hm
        have HF := Lib.hid hf
        clear hf hm
        go_wp2
        go_ret
        exact ⟨ret_bool (by rw [frOk, HF.out]; simp), rfl⟩
    · obtain rfl : k = ss.length := by omega
      have hall : ss.all (fun s => decide (s.size % 8 = 0)) = true := by have := HA.out; rwa [List.take_of_length_le (Nat.le_refl _)] at this
      have hwt := wds_tot ss hall
      rw [List.take_of_length_le (Nat.le_refl _)] at hw1
      have hfin : frOk ss = (inB ss.length 1 6 && decide ((wds ss : Int) ≤ 200)) := by
        rw [frOk, hall, Bool.true_and, inB, Bool.eq_iff_iff]
        simp
        omega
      have HF := Lib.hid hfin
      clear hall hwt hfin
      cases hin : inB ss.length 1 6
      all_goals
        go_wp2_with (go_at_call 39; refine (l1In_any _ _ _ _).mono ?_; rintro e w' ⟨rfl, rfl⟩)
        all_goals go_ret
        all_goals refine ⟨ret_bool ?_, rfl⟩
        all_goals (rw [HF.out, hin]; simp; try assumption)

set_option maxHeartbeats 400000 in
theorem implFrameOk_any (A : Option Addr) (cap : Nat) (ss : List ByteArray) (w : World) (h : Strs w A ss) (hn : ss.length ≤ 1048576) :
    Calls Tryz.prog 17 #[.slice A ss.length cap] w fun e w' => e = .returned (.bool (frOk ss)) ∧ w = w' := by
  have H := Lib.hid h
  clear h
  by_cases h1 : ss.length < 1
  · have hf : frOk ss = false := by rw [frOk, decide_eq_false (by omega), Bool.false_and]
    rw [hf]
    clear hf
    go_enter Tryz.func17, Tryz.ntmps17
    go_wp2
    go_ret
    exact ⟨rfl, rfl⟩
  have h1 : 1 ≤ ss.length := by omega
  by_cases h6 : 6 < ss.length
  · have hf : frOk ss = false := by rw [frOk, decide_eq_false (by omega), Bool.false_and]
    rw [hf]
    clear hf
    go_enter Tryz.func17, Tryz.ntmps17
    go_wp2
    go_ret
    exact ⟨rfl, rfl⟩
  have h6 : ss.length ≤ 6 := by omega
  go_enter Tryz.func17, Tryz.ntmps17
  go_wp2
  go_loop [3, 5, 16] (fun m _ i => ∃ k : Nat, k ≤ ss.length ∧ i = .int .i64 k ∧ m = .int .i64 (tot (ss.take k) : Nat) ∧ tot (ss.take k) ≤ 1600 * k ∧ Hid ((ss.take k).all (fun s => decide (s.size % 8 = 0)) = true)) (fun _ _ i => ss.length - (intOf i).toNat)
  case atStart => exact ⟨0, by omega, rfl, by simp [tot], by simp [tot], by simp [Hid]⟩
  case round =>
    obtain ⟨k, hk, rfl, rfl, hT, HA⟩ := hrel
    by_cases hk1 : k < ss.length
    · obtain ⟨a, rfl, _, hc⟩ := H.out.2.resolve_left (by intro h; rw [h] at hk1; simp at hk1)
      have hck := hc k hk1
      have hsz := H.out.1 ss[k] (List.getElem_mem hk1)
      clear hc
      cases hw : wordsB (ss[k]).size
      · have hf : frOk ss = false := by
          rw [Bool.eq_false_iff]
          intro hok
          simp only [frOk, Bool.and_eq_true, decide_eq_true_eq] at hok
          obtain ⟨_, ha, ht⟩ := hok
          have hm : (ss[k]).size % 8 = 0 := by simpa using List.all_eq_true.1 ha ss[k] (List.getElem_mem hk1)
          have h1 := tot_take ss k hk1
          have h2 := tot_take_le ss (k + 1)
          have : wordsB (ss[k]).size = true := by rw [wordsB, decide_eq_true]; omega
          rw [this] at hw
          cases hw
        have HF := Lib.hid hf
        clear hf
        go_wp2_with (go_at_call 48; refine (isWords_any _ _ hsz).mono ?_; rintro e w' ⟨rfl, rfl⟩)
        go_ret
        exact ⟨ret_bool HF.out.symm, rfl⟩
      · have hw8 : (ss[k]).size % 8 = 0 ∧ (ss[k]).size ≤ 1600 := by simpa [wordsB] using hw
        obtain ⟨hm, hle⟩ := hw8
        have hA' := all_upto hk1 HA.out hm
        have HA' := Lib.hid hA'
        have htt := tot_take ss k hk1
        have hT' : tot (ss.take (k + 1)) ≤ 1600 * (k + 1) := by omega
        have HT' := Lib.hid hT'
        have HTT := Lib.hid htt
        clear hA' htt hm hT'
        go_wp2_with (go_at_call 48; refine (isWords_any _ _ hsz).mono ?_; rintro e w' ⟨rfl, rfl⟩)
        go_round
        case rel => exact ⟨k + 1, by omega, by go_num, by rw [HTT.out]; go_num, HT'.out, HA'.out⟩
        case measure => simp [intOf]; omega
    · obtain rfl : k = ss.length := by omega
      have hall : ss.all (fun s => decide (s.size % 8 = 0)) = true := by have := HA.out; rwa [List.take_of_length_le (Nat.le_refl _)] at this
      have hfin : frOk ss = decide ((tot ss : Int) ≤ 1600) := by
        rw [frOk, hall, Bool.true_and, decide_eq_true (show 1 ≤ ss.length ∧ ss.length ≤ 6 by omega), Bool.true_and, Bool.eq_iff_iff]
        simp
        omega
      have HF := Lib.hid hfin
      clear hall hfin
      go_wp2
      go_ret
      refine ⟨ret_bool ?_, rfl⟩
      rw [HF.out]

end Go.Proofs.YtlbfffokkhccaaaGreatDoor

namespace Go.Proofs.YtlbfffokkhccaaaGreatDoor
open Go.RowKit Go.Deep
set_option maxHeartbeats 1000000 in
set_option maxRecDepth 10000 in
theorem as_nil (T : TypeId) (x : Value) (w : World) : Calls Tryz.prog 46 #[.nilIface, .iface T x] w fun e w' => e = .returned (.bool false) ∧ Below w.heap.size w w' := by
  go_enter Tryz.func46, Tryz.ntmps46
  go_wp2
  go_ret
  exact ⟨rfl, by repeat (first | exact Below.refl _ _ | refine Below.alloc ?_ (by simp) _)⟩
theorem tot_mem : ∀ (zs : List ByteArray) (s : ByteArray), s ∈ zs → s.size ≤ tot zs
  | [], _, h => by cases h
  | z :: t, s, h => by
    have e : tot (z :: t) = z.size + tot t := by unfold tot; rw [List.map_cons, List.sum_cons]
    rcases List.mem_cons.1 h with rfl | h
    · omega
    · have := tot_mem t s h; omega
def ReadQ (n : Nd) (w : World) (e : Ending) (w' : World) : Prop := ∃ h : Hd, e = .returned (.tuple #[.agg #[.int .i64 n.kind, .string n.data, .slice h.A n.ptrs.length h.a, .int .i64 n.size, .int .i64 n.count, .slice h.B n.items.length h.b], .int .i64 0]) ∧ NdAt w' (From w.heap.size) 16 n h ∧ Below w.heap.size w w'
set_option maxHeartbeats 4000000 in
set_option maxRecDepth 100000 in
theorem implRead_a (A : Option Addr) (cap : Nat) (zs : List ByteArray) (limit : Int) (w : World) (n : Nd) (h : Strs w A zs) (hok : frOk zs = true) (hl0 : 0 ≤ limit) (hl1 : limit ≤ 1000) (hn : okN 8 n = true) (hwn : wordsN 8 n ≤ 199) (hrep : RepN (sgz zs) 8 n 0 0) (hc : (costN 8 n : Int) ≤ limit) :
    Calls Tryz.prog 15 #[.slice A zs.length cap, .int .i64 limit] w (ReadQ n w) := by
  have hfo := hok
  unfold frOk at hfo
  rw [Bool.and_eq_true, Bool.and_eq_true, decide_eq_true_eq, List.all_eq_true, decide_eq_true_eq] at hfo
  obtain ⟨f1, f2, f3⟩ := hfo
  have hsm : ∀ s ∈ zs, s.size ≤ 1600 ∧ s.size % 8 = 0 := fun s hs => ⟨Nat.le_trans (tot_mem zs s hs) f3, by have := f2 s hs; simpa using this⟩
  have h0 : 0 < zs.length := by omega
  have hle := hrep.le
  rw [sgz_get h0, data_toList] at hle
  have HFO : Hid (∀ W : World, Below w.heap.size w W → Calls Tryz.prog 17 #[.slice A zs.length cap] W fun e w' => e = .returned (.bool true) ∧ W = w') := Lib.hid fun W hW => by
    have := implFrameOk_any A cap zs W (h.below hW) (by omega)
    rwa [hok] at this
  have HWI : Hid (∀ W : World, Calls Tryz.prog 43 #[.int .i64 limit, .int .i64 1001] W fun e w' => e = .returned (.bool true) ∧ W = w') := Lib.hid fun W => by
    have := within_a limit 1001 W
    rwa [show wiB limit 1001 = true by simp [wiB]; omega] at this
  have hb0 := ((Below.refl w.heap.size w).alloc (Nat.le_refl _) (.cells #[.int .i64 0, .string { data := #[] }, .slice none 0 0, .int .i64 0, .int .i64 0, .slice none 0 0] nodeT)).alloc (by simp) (.cells #[.slice A zs.length cap, .int .i64 limit] rdrT)
  have hr1 : ((w.alloc (.cells #[.int .i64 0, .string { data := #[] }, .slice none 0 0, .int .i64 0, .int .i64 0, .slice none 0 0] nodeT)).alloc (.cells #[.slice A zs.length cap, .int .i64 limit] rdrT)).heap[w.heap.size + 1]? = some (.cells #[.slice A zs.length cap, .int .i64 limit] rdrT (0, 0)) := heap_alloc2_new w _ _
  have hr0 : ((w.alloc (.cells #[.int .i64 0, .string { data := #[] }, .slice none 0 0, .int .i64 0, .int .i64 0, .slice none 0 0] nodeT)).alloc (.cells #[.slice A zs.length cap, .int .i64 limit] rdrT)).heap[w.heap.size]? = some (.cells #[.int .i64 0, .string { data := #[] }, .slice none 0 0, .int .i64 0, .int .i64 0, .slice none 0 0] nodeT (0, 0)) := heap_alloc2_old w _ _
  have hrdr : Rdr ((w.alloc (.cells #[.int .i64 0, .string { data := #[] }, .slice none 0 0, .int .i64 0, .int .i64 0, .slice none 0 0] nodeT)).alloc (.cells #[.slice A zs.length cap, .int .i64 limit] rdrT)) (w.heap.size + 1) A cap zs limit := ⟨hr1, h.below hb0, fun a ha => by
    rcases h.2 with e | ⟨a', ha', hlt, _⟩
    · rw [e] at h0; cases h0
    · rw [ha] at ha'; injection ha' with ha'; subst ha'; omega, f1.2, hsm⟩
  have HRD := Lib.hid hrdr
  have HB0 := Lib.hid hb0
  have R0 := Lib.hid hr0
  have HHA : Hid (∀ W : World, Rdr W (w.heap.size + 1) A cap zs limit → Calls Tryz.prog 44 #[.pointer (some ⟨w.heap.size + 1, 0, none⟩), plV 0 0, .int .i64 1] W fun e w' => e = .returned (.bool true) ∧ Below W.heap.size W w') := Lib.hid fun W h1 => has_a h1 0 0 1 h0 (by omega)
  have HPD := Lib.hid (pointed_a (w.heap.size + 1) 1)
  have HCL : Hid (∀ (W : World) (x y : Nat), Rdr W (w.heap.size + 1) A cap zs limit → W.heap[x]? = some (.cells #[.pointer (some ⟨w.heap.size + 1, 0, none⟩)] 64 (0, 0)) → W.heap[y]? = some (.cells #[.int .i64 1] 3 (0, 0)) → Calls Tryz.prog 84 #[plV 0 0, .pointer (some ⟨x, 0, none⟩), .pointer (some ⟨y, 0, none⟩)] W (NdQ 16 (w.heap.size + 1) A cap zs (limit - (costN 8 n : Nat)) n W)) := Lib.hid fun W x y h1 h2 h3 => inC_all 8 (by decide) n 0 0 limit W x y hn hwn hrep hc hl1 h1 ⟨h2, h3⟩
  have HAS := Lib.hid as_nil
  clear h hok hl0 hl1 hn hwn hrep hc f1 f2 f3 hsm h0 hle hb0 hr1 hr0 hrdr
  generalize limit - (costN 8 n : Nat) = L2 at *
  have hba1 := (Below.refl w.heap.size w).alloc (Nat.le_refl _) (.cells #[.int .i64 0, .string { data := #[] }, .slice none 0 0, .int .i64 0, .int .i64 0, .slice none 0 0] nodeT)
  go_enter Tryz.func15, Tryz.ntmps15
  go_wp2_with (first | (go_at_call 17; (with_reducible refine (HFO.out _ hba1).mono ?_); rintro e w1 ⟨rfl, rfl⟩) | (go_at_call 43; (with_reducible refine (HWI.out _).mono ?_); rintro e w1 ⟨rfl, rfl⟩) | fail)
  generalize ((w.alloc (.cells #[.int .i64 0, .string { data := #[] }, .slice none 0 0, .int .i64 0, .int .i64 0, .slice none 0 0] nodeT)).alloc (.cells #[.slice A zs.length cap, .int .i64 limit] rdrT)) = W at *
  refine (HHA.out _ HRD.out).mono ?_
  rintro e w2 ⟨rfl, hb2⟩
  have HR2 := Lib.hid (HRD.out.below hb2)
  have HB2 := Lib.hid (HB0.out.trans (hb2.mono HB0.out.size))
  have q0 := (hb2.block _ (row_lt R0.out)).trans R0.out
  have Q0 := Lib.hid q0
  clear q0 hb2 hba1 HRD HB0 R0
  go_wp2_with fail
  refine (HPD.out _).mono ?_
  rintro e w3 ⟨rfl, hb3, hv1, hv2⟩
  have HC3 := Lib.hid (HCL.out w3 _ _ (HR2.out.below hb3) hv1 hv2)
  have HB3 := Lib.hid (HB2.out.trans (hb3.mono HB2.out.size))
  have q0 := (hb3.block _ (row_lt Q0.out)).trans Q0.out
  have Q3 := Lib.hid q0
  have HS3 : Hid (w.heap.size + 1 < w3.heap.size) := Lib.hid (Nat.lt_of_lt_of_le HR2.out.lt hb3.size)
  clear q0 hb3 hv1 hv2 HR2 HB2 Q0
  unfold NdQ at HC3
  go_wp2_with fail
  refine HC3.out.mono ?_
  rintro e w4 ⟨hy, rfl, hny, hrd4, hk4⟩
  have hba := ((Below.refl w4.heap.size w4).alloc (Nat.le_refl _) (.cells #[.int .i64 n.kind, .string n.data, .slice hy.A n.ptrs.length hy.a, .int .i64 n.size, .int .i64 n.count, .slice hy.B n.items.length hy.b] nodeT)).alloc (by simp) (.cells #[.int .i64 0] 75)
  have y0 := heap_alloc2_old w4 (.cells #[.int .i64 n.kind, .string n.data, .slice hy.A n.ptrs.length hy.a, .int .i64 n.size, .int .i64 n.count, .slice hy.B n.items.length hy.b] nodeT) (.cells #[.int .i64 0] 75)
  have Y0 := Lib.hid y0
  have q4 := (hba.block _ (by have := hk4.size; have := row_lt Q3.out; omega)).trans ((hk4.block _ (row_lt Q3.out) (by omega)).trans Q3.out)
  have Q4 := Lib.hid q4
  have HN4 := Lib.hid (hny.below hba)
  have HB4 : Hid (Below w.heap.size w4 ((w4.alloc (.cells #[.int .i64 n.kind, .string n.data, .slice hy.A n.ptrs.length hy.a, .int .i64 n.size, .int .i64 n.count, .slice hy.B n.items.length hy.b] nodeT)).alloc (.cells #[.int .i64 0] 75))) := Lib.hid (hba.mono (by have := hk4.size; have := HS3.out; omega))
  have HK4 : Hid (Below w.heap.size w3 w4) := Lib.hid (hk4.below (by have := HS3.out; omega) (by omega))
  clear hny hrd4 hk4 hba y0 q4 HC3
  go_wp2_with fail
  generalize (w4.alloc (.cells #[.int .i64 n.kind, .string n.data, .slice hy.A n.ptrs.length hy.a, .int .i64 n.size, .int .i64 n.count, .slice hy.B n.items.length hy.b] nodeT)).alloc (.cells #[.int .i64 0] 75) = W5 at *
  refine (HAS.out _ _ _).mono ?_
  rintro e w6 ⟨rfl, hb6⟩
  have y6 := (hb6.block _ (row_lt Y0.out)).trans Y0.out
  have q6 := (hb6.block _ (row_lt Q4.out)).trans Q4.out
  have Q6 := Lib.hid q6
  have HN6 := Lib.hid (HN4.out.below hb6)
  have hs5 : w.heap.size ≤ W5.heap.size := by have := row_lt Q4.out; omega
  have HB6 := Lib.hid (((HB3.out.trans HK4.out).trans HB4.out).trans (hb6.mono hs5))
  obtain ⟨m0, m1, m2, m3, m4, m5⟩ := cells6 y6
  obtain ⟨c0, c1, c2, c3, c4, c5⟩ := cells6 q6
  have hfz := row_free q6
  clear y6 q6 hb6 hs5
  go_wp2
  obtain ⟨wf, hwf, hrw, hkf⟩ := store6K Q6.out (.int .i64 n.kind) (.string n.data) (.slice hy.A n.ptrs.length hy.a) (.int .i64 n.size) (.int .i64 n.count) (.slice hy.B n.items.length hy.b)
  rw [hwf]
  obtain ⟨e0, e1, e2, e3, e4, e5⟩ := cells6 hrw
  have hbf : Below w.heap.size w6 wf := hkf.below (by have := HB6.out.size; omega) (by omega)
  exact bodyPost_ret (v := .tuple #[.agg #[.int .i64 n.kind, .string n.data, .slice hy.A n.ptrs.length hy.a, .int .i64 n.size, .int .i64 n.count, .slice hy.B n.items.length hy.b], .int .i64 0]) (by simp [results, Tryz.results15, go_sem, e0, e1, e2, e3, e4, e5]) rfl ⟨hy, rfl, (HN6.out.keepsR hkf (fun k (hk : w3.heap.size ≤ k) => by have := HS3.out; omega)).weak (fun k (hk : w3.heap.size ≤ k) => by have := HS3.out; show w.heap.size ≤ k; omega), HB6.out.trans hbf⟩
end Go.Proofs.YtlbfffokkhccaaaGreatDoor

namespace Go.Proofs.YtlbfffokkhccaaaGreatDoor
open Go.RowKit
abbrev wrT : TypeId := 124
abbrev stT : TypeId := 9
abbrev strS (s : List UInt8) : Value := .string ⟨s.toArray⟩
def Sb (w : World) (base b size : Nat) (ss : Segs) (bad : Bool) (P : Nat → Prop) : Prop :=
  ∃ v, w.heap[b]? = some (.cells #[v, .int .i64 size, .bool bad] wrT (0, 0)) ∧ w.ownsRow base stT 1 v ss.length (ss.map strS) ∧ base ≤ b ∧ P b ∧ ∀ k, v.ownBlock = some k → P k
theorem Sb.low {w w' : World} {base b size : Nat} {ss : Segs} {bad : Bool} {P : Nat → Prop} (h : Sb w base b size ss bad P) (hb : Below w.heap.size w w') : Sb w' base b size ss bad P := by
  obtain ⟨v, h1, h2, h3, h4⟩ := h
  exact ⟨v, (hb.block _ (row_lt h1)).trans h1, own_keepB h2 (fun k hk => hb.block k (h2.lt k hk).2), h3, h4⟩
theorem Sb.weak {w : World} {base b size : Nat} {ss : Segs} {bad : Bool} {P Q : Nat → Prop} (h : Sb w base b size ss bad P) (hQ : ∀ k, P k → Q k) : Sb w base b size ss bad Q := by
  obtain ⟨v, h1, h2, h3, h4, h5⟩ := h
  exact ⟨v, h1, h2, h3, hQ _ h4, fun k hk => hQ _ (h5 k hk)⟩
theorem Sb.tight {w : World} {base b size : Nat} {ss : Segs} {bad : Bool} {P : Nat → Prop} (h : Sb w base b size ss bad P) : Sb w base b size ss bad (fun k => P k ∧ base ≤ k ∧ k < w.heap.size) := by
  obtain ⟨v, h1, h2, h3, h4, h5⟩ := h
  exact ⟨v, h1, h2, h3, ⟨h4, h3, row_lt h1⟩, fun k hk => ⟨h5 k hk, h2.lt k hk⟩⟩
theorem Sb.base {w : World} {base b size : Nat} {ss : Segs} {bad : Bool} {P : Nat → Prop} (h : Sb w base b size ss bad P) : base ≤ b ∧ b < w.heap.size := by
  obtain ⟨v, h1, h2, h3, h4, h5⟩ := h
  exact ⟨h3, row_lt h1⟩
theorem KP.drew {P : Nat → Prop} {w w' : World} (h : KP P w w') : KP P w w'.drew := ⟨h.os, h.tape, h.output, h.size, h.block⟩
theorem Sb.drew {w : World} {base b size : Nat} {ss : Segs} {bad : Bool} {P : Nat → Prop} (h : Sb w base b size ss bad P) : Sb w.drew base b size ss bad P := h.low (Below.refl _ _).drew
theorem sgq_eq {ss : Segs} {i : Nat} (hi : i < ss.length) : sgS ss i = ss[i] := by unfold sgS; rw [List.getElem?_eq_getElem hi]; rfl
theorem Sb.open_ {w : World} {base b size : Nat} {ss : Segs} {bad : Bool} {P : Nat → Prop} (h : Sb w base b size ss bad P) (h1 : 1 ≤ ss.length) : ∃ r cap, w.heap[b]? = some (.cells #[.slice (some ⟨r, 0, none⟩) ss.length cap, .int .i64 size, .bool bad] wrT (0, 0)) ∧ (P r ∧ r < w.heap.size ∧ r ≠ b) ∧
    (∀ i, i < ss.length → w.cell? ⟨r, i, none⟩ = some (strS (sgS ss i)) ∧ w.frozen? ⟨r, i, none⟩ = false) ∧
    ∀ i s, i < ss.length → Sb (w.setCell ⟨r, i, none⟩ (strS s)) base b size (ss.set i s) bad P := by
  obtain ⟨v, hb, ho, hl, hP, hv⟩ := h
  obtain ⟨r, cap, cur, rfl, e2, e3, e4, e5, e6, e7⟩ := own_cases ho h1
  have hne : r ≠ b := ne_T e3 hb (by decide)
  refine ⟨r, cap, hb, ⟨hv r rfl, row_lt e3, hne⟩, fun i hi => ⟨?_, row_free e3 i⟩, fun i s hi => ?_⟩
  · have := ho.cells (g := r) rfl i (strS (sgS ss i)) (by rw [List.getElem?_map, List.getElem?_eq_getElem hi, sgq_eq hi]; rfl)
    rwa [add_zero0] at this
  · refine ⟨_, (Below.heap_setCell w ⟨r, i, none⟩ _ b (fun e => hne e.symm)).trans hb, ?_, hl, hP, hv⟩
    have := ho.stored (g := r) (cap := cap) i (strS s)
    rw [List.length_set, List.map_set]
    exact this.1
theorem Sb.bad_ {w : World} {base b size : Nat} {ss : Segs} {bad : Bool} {P : Nat → Prop} (h : Sb w base b size ss bad P) : Sb (w.setCell ⟨b, 2, none⟩ (.bool true)) base b size ss true P := by
  obtain ⟨v, hb, ho, hl, hP, hv⟩ := h
  refine ⟨v, row_setN hb 2 _, own_keepB ho (fun k hk => Below.heap_setCell w ⟨b, 2, none⟩ _ k ?_), hl, hP, hv⟩
  obtain ⟨c, hc⟩ := own_T ho hk
  exact ne_T hc hb (by decide)
end Go.Proofs.YtlbfffokkhccaaaGreatDoor

namespace Go.Proofs.YtlbfffokkhccaaaGreatDoor
open Go.RowKit Go.Deep
def PutQ (base b size : Nat) (ss : Segs) (i a : Nat) (t : List UInt8) (P : Nat → Prop) (w : World) (e : Ending) (w' : World) : Prop :=
  e = .returned (.tuple #[]) ∧ KP P w w' ∧ Sb w' base b size (putS ss i a t) false P
theorem spl_ba (s t : List UInt8) (p : Nat) (h : p + t.length ≤ s.length) : ((⟨s.toArray⟩ : ByteArray).extract 0 p ++ (⟨t.toArray⟩ : ByteArray)) ++ (⟨s.toArray⟩ : ByteArray).extract (p + t.length) s.length = ⟨(spl s p t).toArray⟩ := by
  apply ext_ba
  rw [ByteArray.data_append, ByteArray.data_append, Array.toList_append, Array.toList_append, Lib.extract_data, Lib.extract_data]
  unfold spl
  simp
  rw [List.take_of_length_le (by rw [List.length_drop]; exact Nat.le_refl _)]
set_option maxHeartbeats 2000000 in
set_option maxRecDepth 100000 in
theorem sput_any (base b size : Nat) (ss : Segs) (P : Nat → Prop) (w : World) (h : Sb w base b size ss false P) (i a : Nat) (t : List UInt8) (hi : i < ss.length) (ha : 8 * a + t.length ≤ (sgS ss i).length) (hl : (sgS ss i).length ≤ 100000) :
    Calls Tryz.prog 124 #[.pointer (some ⟨b, 0, none⟩), .int .i64 (i : Int), .int .i64 (a : Int), .string ⟨t.toArray⟩] w (PutQ base b size ss i a t P w) := by
  obtain ⟨r, cap, hb, ⟨hPr, hrl, hrb⟩, hc, hst⟩ := h.open_ (by omega)
  obtain ⟨c0, c1, c2⟩ := cells3 hb
  obtain ⟨hci, hfi⟩ := hc i hi
  have hfin := hst i (spl (sgS ss i) (8 * a) t) hi
  have hba := spl_ba (sgS ss i) t (8 * a) ha
  have hts : (⟨t.toArray⟩ : ByteArray).size = t.length := by simp [ByteArray.size]
  have hss : (⟨(sgS ss i).toArray⟩ : ByteArray).size = (sgS ss i).length := by simp [ByteArray.size]
  have hlt : (i : Int) < (ss.length : Int) := by omega
  have HF := Lib.hid hfin
  have HPR := Lib.hid hPr
  obtain ⟨s, hs⟩ : ∃ s, sgS ss i = s := ⟨_, rfl⟩
  rw [hs] at hci hfin hba hss ha hl HF
  have HS := Lib.hid hs
  obtain ⟨S, hS⟩ : ∃ S : ByteArray, S = ⟨s.toArray⟩ := ⟨_, rfl⟩
  obtain ⟨T, hT⟩ : ∃ T : ByteArray, T = ⟨t.toArray⟩ := ⟨_, rfl⟩
  unfold strS at hci
  rw [← hS] at hci hss hba
  rw [← hT] at hts hba ⊢
  have hx1 : (0 : Int) ≤ 8 * (a : Int) := by omega
  have hx2 : 8 * (a : Int) ≤ (S.size : Int) := by rw [hss]; omega
  have hx3 : (0 : Int) ≤ 8 * (a : Int) + (T.size : Int) := by omega
  have hx4 : 8 * (a : Int) + (T.size : Int) ≤ (S.size : Int) := by rw [hss, hts]; omega
  have hN1 : (8 * (a : Int)).toNat = 8 * a := by omega
  have hN2 : (8 * (a : Int) + (T.size : Int)).toNat = 8 * a + T.size := by omega
  have hT5 : T.size ≤ 100000 := by omega
  have hS5 : S.size ≤ 100000 := by omega
  have hsz1 : (S.extract 0 (8 * a)).size ≤ 100000 := by rw [ByteArray.size_extract]; omega
  have HFIN : Hid (∀ W : World, W = w.setCell ⟨r, i, none⟩ (.string ((S.extract 0 (8 * a) ++ T) ++ S.extract (8 * a + T.size) S.size)) → KP P w W ∧ Sb W base b size (putS ss i a t) false P) := Lib.hid (fun W hW => by
    subst hW
    rw [hts, hss, hba]
    refine ⟨KP.set HPR.out _ _ _, ?_⟩
    have := HF.out
    unfold putS
    rw [HS.out]
    exact this)
  have HSS := Lib.hid hss
  have HTS := Lib.hid hts
  clear hfin hba hs hS hT hss hts hc hst ha
  go_enter Tryz.func124, Tryz.ntmps124
  go_wp2_with fail
  go_region
  obtain ⟨k1, k2⟩ := HFIN.out _ rfl
  go_end0
  exact ⟨rfl, k1.drew, k2.drew⟩
def RoomSQ (base b size : Nat) (ss : Segs) (i k : Nat) (P : Nat → Prop) (w : World) (e : Ending) (w' : World) : Prop :=
  e = .returned (.int .i64 (wn (sgS ss i) : Nat)) ∧ KP P w w' ∧ Sb w' base b size (growB ss i k) false P
set_option maxHeartbeats 2000000 in
set_option maxRecDepth 100000 in
theorem sroom_any (base b size : Nat) (ss : Segs) (P : Nat → Prop) (w : World) (h : Sb w base b size ss false P) (i k : Nat) (hi : i < ss.length) (hk : k ≤ 10000) (hl : (sgS ss i).length ≤ 100000) :
    Calls Tryz.prog 127 #[.pointer (some ⟨b, 0, none⟩), .int .i64 (i : Int), .int .i64 (k : Int)] w (RoomSQ base b size ss i k P w) := by
  obtain ⟨r, cap, hb, ⟨hPr, hrl, hrb⟩, hc, hst⟩ := h.open_ (by omega)
  obtain ⟨c0, c1, c2⟩ := cells3 hb
  obtain ⟨hci, hfi⟩ := hc i hi
  have hss : (⟨(sgS ss i).toArray⟩ : ByteArray).size = (sgS ss i).length := by simp [ByteArray.size]
  have hlt : (i : Int) < (ss.length : Int) := by omega
  have HH := Lib.hid h
  have HB := Lib.hid hb
  have HC := Lib.hid hci
  have HPR := Lib.hid hPr
  obtain ⟨s, hs⟩ : ∃ s, sgS ss i = s := ⟨_, rfl⟩
  rw [hs] at hci hss hl HC
  have HS := Lib.hid hs
  obtain ⟨S, hS⟩ : ∃ S : ByteArray, S = ⟨s.toArray⟩ := ⟨_, rfl⟩
  unfold strS at hci HC
  rw [← hS] at hci hss HC
  have HSV := Lib.hid hS
  have hn8 : (8 * (k : Int)).toNat = 8 * k := by omega
  have HM := Lib.hid (fun W => l1Many_any ⟨#[0]⟩ (8 * (k : Int)) W (by omega) (by omega) (by decide) (by show 1 * _ ≤ _; omega))
  obtain ⟨Z, hZ⟩ : ∃ Z : ByteArray, Z = ⟨(zer k).toArray⟩ := ⟨_, rfl⟩
  have hzz : (⟨(repL (⟨#[0]⟩ : ByteArray).data.toList (8 * (k : Int)).toNat).toArray⟩ : ByteArray) = Z := by
    rw [hZ, hn8]
    congr 2
    unfold zer
    generalize 8 * k = q
    induction q with
    | zero => rfl
    | succ q ih => rw [List.replicate_succ, ← ih]; rfl
  have hzs : Z.size = 8 * k := by rw [hZ]; simp [ByteArray.size, zer_length]
  have HZV := Lib.hid hZ
  have hS5 : S.size ≤ 100000 := by omega
  have hZ5 : Z.size ≤ 100000 := by omega
  have hcc : ¬ 9223372036854775807 < S.size + Z.size := by omega
  have HE : Hid (((S.size : Int) / 8) = ((wn (sgS ss i) : Nat) : Int)) := Lib.hid (by rw [HS.out]; unfold wn; rw [hss]; omega)
  have hHM : ∀ W, Calls Tryz.prog 68 #[.string ⟨#[0]⟩, .int .i64 (8 * (k : Int))] W fun e w' => e = .returned (.string Z) ∧ W = w' := fun W => by
    have := HM.out W
    rw [hzz] at this
    exact this
  have HHM := Lib.hid hHM
  have HFIN : Hid (∀ W : World, W = w.setCell ⟨r, i, none⟩ (.string (S ++ Z)) → KP P w W.drew ∧ Sb W.drew base b size (growB ss i k) false P) := Lib.hid (fun W hW => by
    subst hW
    have h1 := hst i (s ++ zer k) hi
    have e : (⟨(s ++ zer k).toArray⟩ : ByteArray) = S ++ Z := by
      rw [hS, hZ]; apply ext_ba; rw [ByteArray.data_append]; simp
    unfold strS at h1
    rw [e] at h1
    refine ⟨(KP.set HPR.out _ _ _).drew, ?_⟩
    unfold growB
    rw [HS.out]
    exact h1.drew)
  have hw8k : IntKind.i64.wrap (8 * (k : Int)) = 8 * (k : Int) := by rw [IntKind.wrap_i64]; omega
  clear hHM hzz hzs hS hZ hn8 hs h hb hc hst HM hss
  go_enter Tryz.func127, Tryz.ntmps127
  go_wp2_with fail
  refine wp_region_still_tail 17 (by kernel_rfl) (by kernel_rfl) ?_
  simp only [List.take_succ_cons, List.take_zero, List.drop_succ_cons, List.drop_zero]
  repeat still_step
  refine wpStill_step (fun K hK => ?_)
  go_simp
  refine ⟨_, (HHM.out _).mono (fun e w' h => ⟨h.1, h.2.symm⟩), hK _ ?_⟩
  clear hK K
  repeat still_step
  refine wpStill_nil ?_
  change wpList _ _ _ _ _ w.drew
  have q0 : w.drew.cell? ⟨b, 0, none⟩ = some (.slice (some ⟨r, 0, none⟩) ss.length cap) := c0
  have q1 : w.drew.cell? ⟨r, i, none⟩ = some (.string S) := hci
  have q2 : w.drew.frozen? ⟨r, i, none⟩ = false := hfi
  have HFIN2 : Hid (∀ W : World, W = w.drew.setCell ⟨r, i, none⟩ (.string (S ++ Z)) → KP P w W ∧ Sb W base b size (growB ss i k) false P) := Lib.hid (fun W hW => by subst hW; exact HFIN.out _ rfl)
  clear c0 c1 c2 hci hfi HFIN
  generalize w.drew = w2 at *
  go_wp2
  obtain ⟨k1, k2⟩ := HFIN2.out _ rfl
  go_ret
  exact ⟨ret_int HE.out, k1, k2⟩
end Go.Proofs.YtlbfffokkhccaaaGreatDoor
