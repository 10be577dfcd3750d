/- Texts of the proof of the law FnReadTwo, side by side: part 20. -/
import Derived.RegionTactic
import Derived.BigRegion
import Derived.StillTailTactics
import Derived.Test.YtlbfffokkhccaaaGreatDoorMReadTwo19
namespace Go.Proofs.YtlbfffokkhccaaaGreatDoor
open Go.RowKit
def frOk (ss : List ByteArray) : Bool := decide (1 ≤ ss.length ∧ ss.length ≤ 6) && (ss.all (fun s => decide (s.size % 8 = 0)) && decide (tot ss ≤ 1600))
def wds (ss : List ByteArray) : Nat := (ss.map (·.size / 8)).sum
theorem wds_take (ss : List ByteArray) (k : Nat) (h : k < ss.length) : wds (ss.take (k + 1)) = wds (ss.take k) + (ss[k]).size / 8 := by
 rw [List.take_succ_eq_append_getElem h, wds, wds, List.map_append, List.sum_append]
 simp
theorem wds_tot : ∀ (ss : List ByteArray), ss.all (fun s => decide (s.size % 8 = 0)) = true → 8 * wds ss = tot ss
 | [], _ => rfl
 | s :: r, h => by
   simp only [List.all_cons, Bool.and_eq_true, decide_eq_true_eq] at h
   have := wds_tot r h.2
   simp only [wds, tot, List.map_cons, List.sum_cons] at this ⊢
   omega
theorem wds_le (ss : List ByteArray) : wds ss ≤ tot ss := by
 induction ss with
 | nil => exact Nat.le_refl _
 | cons s r ih => simp only [wds, tot, List.map_cons, List.sum_cons] at ih ⊢; omega
theorem all_falseF {ss : List ByteArray} {k : Nat} (h : k < ss.length) (hn : ¬ (ss[k]).size % 8 = 0) : ss.all (fun s => decide (s.size % 8 = 0)) = false := by
 rw [List.all_eq_false]
 exact ⟨ss[k], List.getElem_mem h, by simpa using hn⟩
theorem all_upto {ss : List ByteArray} {k : Nat} (hk : k < ss.length) (h : (ss.take k).all (fun s => decide (s.size % 8 = 0)) = true) (hm : (ss[k]).size % 8 = 0) : (ss.take (k + 1)).all (fun s => decide (s.size % 8 = 0)) = true := by
 rw [List.take_succ_eq_append_getElem hk, List.all_append, h]
 simpa using hm
set_option maxHeartbeats 400000 in
theorem specFrameOk_any (A : Option Addr) (cap : Nat) (ss : List ByteArray) (w : World) (h : Strs w A ss) (hn : ss.length ≤ 1048576) (ht : tot ss ≤ 1099511627776) :
 Calls Tryz.prog 80 #[.slice A ss.length cap] w fun e w' => e = .returned (.bool (frOk ss)) ∧ w = w' := by
 have H := Lib.hid h
 clear h
 go_enter Tryz.func80, Tryz.ntmps80
 go_wp2
 go_loop [3, 4] (fun m i => ∃ k : Nat, k ≤ ss.length ∧ i = .int .i64 k ∧ m = .int .i64 (wds (ss.take k) : Nat) ∧ Hid ((ss.take k).all (fun s => decide (s.size % 8 = 0)) = true)) (fun _ i => ss.length - (intOf i).toNat)
 case atStart => exact ⟨0, by omega, rfl, by simp [wds], by simp [Hid]⟩
 case round =>
  obtain ⟨k, hk, rfl, rfl, HA⟩ := hrel
  have hw1 : wds (ss.take k) ≤ 1099511627776 := Nat.le_trans (wds_le _) (Nat.le_trans (tot_take_le ss k) ht)
  by_cases hk1 : k < ss.length
  · obtain ⟨a, rfl, _, hc⟩ := H.out.2.resolve_left (by intro h; rw [h] at hk1; simp at hk1)
    have hck := hc k hk1
    have hsz := H.out.1 ss[k] (List.getElem_mem hk1)
    unfold maxLen at hsz
    have hsz2 : (ss[k]).size ≤ 1099511627776 := by
     have h1 := tot_take ss k hk1
     have h2 := tot_take_le ss (k + 1)
     omega
    clear hc
    by_cases hm : (ss[k]).size % 8 = 0
    · have hA' := all_upto hk1 HA.out hm
      have HA' := Lib.hid hA'
      have hwt := wds_take ss k hk1
      have HW := Lib.hid hwt
      have hm0 : (((ss[k]).size : Int) % 8 != 0) = false := by simp; omega
      clear hA' hwt hm
      go_wp2
      go_round
      case rel => exact ⟨k + 1, by omega, by go_num, by rw [HW.out]; go_num, HA'.out⟩
      case measure => simp [intOf]; omega
    · have hm0 : (((ss[k]).size : Int) % 8 != 0) = true := by simp; omega
      have hf := all_falseF hk1 hm
      have HF := Lib.hid hf
      clear hf hm
      go_wp2
      go_ret
      exact ⟨ret_bool (by rw [frOk, HF.out]; simp), rfl⟩
  · obtain rfl : k = ss.length := by omega
    have hall : ss.all (fun s => decide (s.size % 8 = 0)) = true := by have := HA.out; rwa [List.take_of_length_le (Nat.le_refl _)] at this
    have hwt := wds_tot ss hall
    rw [List.take_of_length_le (Nat.le_refl _)] at hw1
    have hfin : frOk ss = (inB ss.length 1 6 && decide ((wds ss : Int) ≤ 200)) := by
     rw [frOk, hall, Bool.true_and, inB, Bool.eq_iff_iff]
     simp
     omega
    have HF := Lib.hid hfin
    clear hall hwt hfin
    cases hin : inB ss.length 1 6
    all_goals
     go_wp2_with (go_at_call 39; refine (l1In_any _ _ _ _).mono ?_; rintro e w' ⟨rfl, rfl⟩)
     all_goals go_ret
     all_goals refine ⟨ret_bool ?_, rfl⟩
     all_goals (rw [HF.out, hin]; simp; try assumption)
set_option maxHeartbeats 400000 in
theorem implFrameOk_any (A : Option Addr) (cap : Nat) (ss : List ByteArray) (w : World) (h : Strs w A ss) (hn : ss.length ≤ 1048576) :
 Calls Tryz.prog 17 #[.slice A ss.length cap] w fun e w' => e = .returned (.bool (frOk ss)) ∧ w = w' := by
 have H := Lib.hid h
 clear h
 by_cases h1 : ss.length < 1
 · have hf : frOk ss = false := by rw [frOk, decide_eq_false (by omega), Bool.false_and]
   rw [hf]
   clear hf
   go_enter Tryz.func17, Tryz.ntmps17
   go_wp2
   go_ret
   exact ⟨rfl, rfl⟩
 have h1 : 1 ≤ ss.length := by omega
 by_cases h6 : 6 < ss.length
 · have hf : frOk ss = false := by rw [frOk, decide_eq_false (by omega), Bool.false_and]
   rw [hf]
   clear hf
   go_enter Tryz.func17, Tryz.ntmps17
   go_wp2
   go_ret
   exact ⟨rfl, rfl⟩
 have h6 : ss.length ≤ 6 := by omega
 go_enter Tryz.func17, Tryz.ntmps17
 go_wp2
 go_loop [3, 5, 16] (fun m _ i => ∃ k : Nat, k ≤ ss.length ∧ i = .int .i64 k ∧ m = .int .i64 (tot (ss.take k) : Nat) ∧ tot (ss.take k) ≤ 1600 * k ∧ Hid ((ss.take k).all (fun s => decide (s.size % 8 = 0)) = true)) (fun _ _ i => ss.length - (intOf i).toNat)
 case atStart => exact ⟨0, by omega, rfl, by simp [tot], by simp [tot], by simp [Hid]⟩
 case round =>
  obtain ⟨k, hk, rfl, rfl, hT, HA⟩ := hrel
  by_cases hk1 : k < ss.length
  · obtain ⟨a, rfl, _, hc⟩ := H.out.2.resolve_left (by intro h; rw [h] at hk1; simp at hk1)
    have hck := hc k hk1
    have hsz := H.out.1 ss[k] (List.getElem_mem hk1)
    clear hc
    cases hw : wordsB (ss[k]).size
    · have hf : frOk ss = false := by
       rw [Bool.eq_false_iff]
       intro hok
       simp only [frOk, Bool.and_eq_true, decide_eq_true_eq] at hok
       obtain ⟨_, ha, ht⟩ := hok
       have hm : (ss[k]).size % 8 = 0 := by simpa using List.all_eq_true.1 ha ss[k] (List.getElem_mem hk1)
       have h1 := tot_take ss k hk1
       have h2 := tot_take_le ss (k + 1)
       have : wordsB (ss[k]).size = true := by rw [wordsB, decide_eq_true]; omega
       rw [this] at hw
       cases hw
      have HF := Lib.hid hf
      clear hf
      go_wp2_with (go_at_call 48; refine (isWords_any _ _ hsz).mono ?_; rintro e w' ⟨rfl, rfl⟩)
      go_ret
      exact ⟨ret_bool HF.out.symm, rfl⟩
    · have hw8 : (ss[k]).size % 8 = 0 ∧ (ss[k]).size ≤ 1600 := by simpa [wordsB] using hw
      obtain ⟨hm, hle⟩ := hw8
      have hA' := all_upto hk1 HA.out hm
      have HA' := Lib.hid hA'
      have htt := tot_take ss k hk1
      have hT' : tot (ss.take (k + 1)) ≤ 1600 * (k + 1) := by omega
      have HT' := Lib.hid hT'
      have HTT := Lib.hid htt
      clear hA' htt hm hT'
      go_wp2_with (go_at_call 48; refine (isWords_any _ _ hsz).mono ?_; rintro e w' ⟨rfl, rfl⟩)
      go_round
      case rel => exact ⟨k + 1, by omega, by go_num, by rw [HTT.out]; go_num, HT'.out, HA'.out⟩
      case measure => simp [intOf]; omega
  · obtain rfl : k = ss.length := by omega
    have hall : ss.all (fun s => decide (s.size % 8 = 0)) = true := by have := HA.out; rwa [List.take_of_length_le (Nat.le_refl _)] at this
    have hfin : frOk ss = decide ((tot ss : Int) ≤ 1600) := by
     rw [frOk, hall, Bool.true_and, decide_eq_true (show 1 ≤ ss.length ∧ ss.length ≤ 6 by omega), Bool.true_and, Bool.eq_iff_iff]
     simp
     omega
    have HF := Lib.hid hfin
    clear hall hfin
    go_wp2
    go_ret
    refine ⟨ret_bool ?_, rfl⟩
    rw [HF.out]
end Go.Proofs.YtlbfffokkhccaaaGreatDoor
namespace Go.Proofs.YtlbfffokkhccaaaGreatDoor
open Go.RowKit Go.Deep
set_option maxHeartbeats 1000000 in
set_option maxRecDepth 10000 in
theorem as_nil (T : TypeId) (x : Value) (w : World) : Calls Tryz.prog 46 #[.nilIface, .iface T x] w fun e w' => e = .returned (.bool false) ∧ Below w.heap.size w w' := by
 go_enter Tryz.func46, Tryz.ntmps46
 go_wp2
 go_ret
 exact ⟨rfl, by repeat (first | exact Below.refl _ _ | refine Below.alloc ?_ (by simp) _)⟩
theorem tot_mem : ∀ (zs : List ByteArray) (s : ByteArray), s ∈ zs → s.size ≤ tot zs
 | [], _, h => by cases h
 | z :: t, s, h => by
   have e : tot (z :: t) = z.size + tot t := by unfold tot; rw [List.map_cons, List.sum_cons]
   rcases List.mem_cons.1 h with rfl | h
   · omega
   · have := tot_mem t s h; omega
def ReadQ (n : Nd) (w : World) (e : Ending) (w' : World) : Prop := ∃ h : Hd, e = .returned (.tuple #[.agg #[.int .i64 n.kind, .string n.data, .slice h.A n.ptrs.length h.a, .int .i64 n.size, .int .i64 n.count, .slice h.B n.items.length h.b], .int .i64 0]) ∧ NdAt w' (From w.heap.size) 16 n h ∧ Below w.heap.size w w'
end Go.Proofs.YtlbfffokkhccaaaGreatDoor
namespace Go.Proofs.YtlbfffokkhccaaaGreatDoor
open Go.RowKit
abbrev wrT : TypeId := 124
abbrev stT : TypeId := 9
abbrev strS (s : List UInt8) : Value := .string ⟨s.toArray⟩
def Sb (w : World) (base b size : Nat) (ss : Segs) (bad : Bool) (P : Nat → Prop) : Prop :=
 ∃ v, w.heap[b]? = some (.cells #[v, .int .i64 size, .bool bad] wrT (0, 0)) ∧ w.ownsRow base stT 1 v ss.length (ss.map strS) ∧ base ≤ b ∧ P b ∧ ∀ k, v.ownBlock = some k → P k
theorem Sb.low {w w' : World} {base b size : Nat} {ss : Segs} {bad : Bool} {P : Nat → Prop} (h : Sb w base b size ss bad P) (hb : Below w.heap.size w w') : Sb w' base b size ss bad P := by
 obtain ⟨v, h1, h2, h3, h4⟩ := h
 exact ⟨v, (hb.block _ (row_lt h1)).trans h1, own_keepB h2 (fun k hk => hb.block k (h2.lt k hk).2), h3, h4⟩
theorem Sb.weak {w : World} {base b size : Nat} {ss : Segs} {bad : Bool} {P Q : Nat → Prop} (h : Sb w base b size ss bad P) (hQ : ∀ k, P k → Q k) : Sb w base b size ss bad Q := by
 obtain ⟨v, h1, h2, h3, h4, h5⟩ := h
 exact ⟨v, h1, h2, h3, hQ _ h4, fun k hk => hQ _ (h5 k hk)⟩
theorem Sb.tight {w : World} {base b size : Nat} {ss : Segs} {bad : Bool} {P : Nat → Prop} (h : Sb w base b size ss bad P) : Sb w base b size ss bad (fun k => P k ∧ base ≤ k ∧ k < w.heap.size) := by
 obtain ⟨v, h1, h2, h3, h4, h5⟩ := h
 exact ⟨v, h1, h2, h3, ⟨h4, h3, row_lt h1⟩, fun k hk => ⟨h5 k hk, h2.lt k hk⟩⟩
theorem Sb.base {w : World} {base b size : Nat} {ss : Segs} {bad : Bool} {P : Nat → Prop} (h : Sb w base b size ss bad P) : base ≤ b ∧ b < w.heap.size := by
 obtain ⟨v, h1, h2, h3, h4, h5⟩ := h
 exact ⟨h3, row_lt h1⟩
theorem KP.drew {P : Nat → Prop} {w w' : World} (h : KP P w w') : KP P w w'.drew := ⟨h.os, h.tape, h.output, h.size, h.block⟩
theorem Sb.drew {w : World} {base b size : Nat} {ss : Segs} {bad : Bool} {P : Nat → Prop} (h : Sb w base b size ss bad P) : Sb w.drew base b size ss bad P := h.low (Below.refl _ _).drew
theorem sgq_eq {ss : Segs} {i : Nat} (hi : i < ss.length) : sgS ss i = ss[i] := by unfold sgS; rw [List.getElem?_eq_getElem hi]; rfl
theorem Sb.open_ {w : World} {base b size : Nat} {ss : Segs} {bad : Bool} {P : Nat → Prop} (h : Sb w base b size ss bad P) (h1 : 1 ≤ ss.length) : ∃ r cap, w.heap[b]? = some (.cells #[.slice (some ⟨r, 0, none⟩) ss.length cap, .int .i64 size, .bool bad] wrT (0, 0)) ∧ (P r ∧ r < w.heap.size ∧ r ≠ b) ∧
 (∀ i, i < ss.length → w.cell? ⟨r, i, none⟩ = some (strS (sgS ss i)) ∧ w.frozen? ⟨r, i, none⟩ = false) ∧
 ∀ i s, i < ss.length → Sb (w.setCell ⟨r, i, none⟩ (strS s)) base b size (ss.set i s) bad P := by
 obtain ⟨v, hb, ho, hl, hP, hv⟩ := h
 obtain ⟨r, cap, cur, rfl, e2, e3, e4, e5, e6, e7⟩ := own_cases ho h1
 have hne : r ≠ b := ne_T e3 hb (by decide)
 refine ⟨r, cap, hb, ⟨hv r rfl, row_lt e3, hne⟩, fun i hi => ⟨?_, row_free e3 i⟩, fun i s hi => ?_⟩
 · have := ho.cells (g := r) rfl i (strS (sgS ss i)) (by rw [List.getElem?_map, List.getElem?_eq_getElem hi, sgq_eq hi]; rfl)
   rwa [add_zero0] at this
 · refine ⟨_, (Below.heap_setCell w ⟨r, i, none⟩ _ b (fun e => hne e.symm)).trans hb, ?_, hl, hP, hv⟩
   have := ho.stored (g := r) (cap := cap) i (strS s)
   rw [List.length_set, List.map_set]
   exact this.1
theorem Sb.bad_ {w : World} {base b size : Nat} {ss : Segs} {bad : Bool} {P : Nat → Prop} (h : Sb w base b size ss bad P) : Sb (w.setCell ⟨b, 2, none⟩ (.bool true)) base b size ss true P := by
 obtain ⟨v, hb, ho, hl, hP, hv⟩ := h
 refine ⟨v, row_setN hb 2 _, own_keepB ho (fun k hk => Below.heap_setCell w ⟨b, 2, none⟩ _ k ?_), hl, hP, hv⟩
 obtain ⟨c, hc⟩ := own_T ho hk
 exact ne_T hc hb (by decide)
end Go.Proofs.YtlbfffokkhccaaaGreatDoor
namespace Go.Proofs.YtlbfffokkhccaaaGreatDoor
open Go.RowKit Go.Deep
def PutQ (base b size : Nat) (ss : Segs) (i a : Nat) (t : List UInt8) (P : Nat → Prop) (w : World) (e : Ending) (w' : World) : Prop :=
 e = .returned (.tuple #[]) ∧ KP P w w' ∧ Sb w' base b size (putS ss i a t) false P
theorem spl_ba (s t : List UInt8) (p : Nat) (h : p + t.length ≤ s.length) : ((⟨s.toArray⟩ : ByteArray).extract 0 p ++ (⟨t.toArray⟩ : ByteArray)) ++ (⟨s.toArray⟩ : ByteArray).extract (p + t.length) s.length = ⟨(spl s p t).toArray⟩ := by
 apply ext_ba
 rw [ByteArray.data_append, ByteArray.data_append, Array.toList_append, Array.toList_append, Lib.extract_data, Lib.extract_data]
 unfold spl
 simp
 rw [List.take_of_length_le (by rw [List.length_drop]; exact Nat.le_refl _)]
set_option maxHeartbeats 2000000 in
set_option maxRecDepth 100000 in
theorem sput_any (base b size : Nat) (ss : Segs) (P : Nat → Prop) (w : World) (h : Sb w base b size ss false P) (i a : Nat) (t : List UInt8) (hi : i < ss.length) (ha : 8 * a + t.length ≤ (sgS ss i).length) (hl : (sgS ss i).length ≤ 100000) :
 Calls Tryz.prog 124 #[.pointer (some ⟨b, 0, none⟩), .int .i64 (i : Int), .int .i64 (a : Int), .string ⟨t.toArray⟩] w (PutQ base b size ss i a t P w) := by
 obtain ⟨r, cap, hb, ⟨hPr, hrl, hrb⟩, hc, hst⟩ := h.open_ (by omega)
 obtain ⟨c0, c1, c2⟩ := cells3 hb
 obtain ⟨hci, hfi⟩ := hc i hi
 have hfin := hst i (spl (sgS ss i) (8 * a) t) hi
 have hba := spl_ba (sgS ss i) t (8 * a) ha
 have hts : (⟨t.toArray⟩ : ByteArray).size = t.length := by simp [ByteArray.size]
 have hss : (⟨(sgS ss i).toArray⟩ : ByteArray).size = (sgS ss i).length := by simp [ByteArray.size]
 have hlt : (i : Int) < (ss.length : Int) := by omega
 have HF := Lib.hid hfin
 have HPR := Lib.hid hPr
 obtain ⟨s, hs⟩ : ∃ s, sgS ss i = s := ⟨_, rfl⟩
 rw [hs] at hci hfin hba hss ha hl HF
 have HS := Lib.hid hs
 obtain ⟨S, hS⟩ : ∃ S : ByteArray, S = ⟨s.toArray⟩ := ⟨_, rfl⟩
 obtain ⟨T, hT⟩ : ∃ T : ByteArray, T = ⟨t.toArray⟩ := ⟨_, rfl⟩
 unfold strS at hci
 rw [← hS] at hci hss hba
 rw [← hT] at hts hba ⊢
 have hx1 : (0 : Int) ≤ 8 * (a : Int) := by omega
 have hx2 : 8 * (a : Int) ≤ (S.size : Int) := by rw [hss]; omega
 have hx3 : (0 : Int) ≤ 8 * (a : Int) + (T.size : Int) := by omega
 have hx4 : 8 * (a : Int) + (T.size : Int) ≤ (S.size : Int) := by rw [hss, hts]; omega
 have hN1 : (8 * (a : Int)).toNat = 8 * a := by omega
 have hN2 : (8 * (a : Int) + (T.size : Int)).toNat = 8 * a + T.size := by omega
 have hT5 : T.size ≤ 100000 := by omega
 have hS5 : S.size ≤ 100000 := by omega
 have hsz1 : (S.extract 0 (8 * a)).size ≤ 100000 := by rw [ByteArray.size_extract]; omega
 have HFIN : Hid (∀ W : World, W = w.setCell ⟨r, i, none⟩ (.string ((S.extract 0 (8 * a) ++ T) ++ S.extract (8 * a + T.size) S.size)) → KP P w W ∧ Sb W base b size (putS ss i a t) false P) := Lib.hid (fun W hW => by
  subst hW
  rw [hts, hss, hba]
  refine ⟨KP.set HPR.out _ _ _, ?_⟩
  have := HF.out
  unfold putS
  rw [HS.out]
  exact this)
 have HSS := Lib.hid hss
 have HTS := Lib.hid hts
 clear hfin hba hs hS hT hss hts hc hst ha
 go_enter Tryz.func124, Tryz.ntmps124
 go_wp2_with fail
 go_region
 obtain ⟨k1, k2⟩ := HFIN.out _ rfl
 go_end0
 exact ⟨rfl, k1.drew, k2.drew⟩
def RoomSQ (base b size : Nat) (ss : Segs) (i k : Nat) (P : Nat → Prop) (w : World) (e : Ending) (w' : World) : Prop :=
 e = .returned (.int .i64 (wn (sgS ss i) : Nat)) ∧ KP P w w' ∧ Sb w' base b size (growB ss i k) false P
set_option maxHeartbeats 2000000 in
set_option maxRecDepth 100000 in
theorem sroom_any (base b size : Nat) (ss : Segs) (P : Nat → Prop) (w : World) (h : Sb w base b size ss false P) (i k : Nat) (hi : i < ss.length) (hk : k ≤ 10000) (hl : (sgS ss i).length ≤ 100000) :
 Calls Tryz.prog 127 #[.pointer (some ⟨b, 0, none⟩), .int .i64 (i : Int), .int .i64 (k : Int)] w (RoomSQ base b size ss i k P w) := by
 obtain ⟨r, cap, hb, ⟨hPr, hrl, hrb⟩, hc, hst⟩ := h.open_ (by omega)
 obtain ⟨c0, c1, c2⟩ := cells3 hb
 obtain ⟨hci, hfi⟩ := hc i hi
 have hss : (⟨(sgS ss i).toArray⟩ : ByteArray).size = (sgS ss i).length := by simp [ByteArray.size]
 have hlt : (i : Int) < (ss.length : Int) := by omega
 have HH := Lib.hid h
 have HB := Lib.hid hb
 have HC := Lib.hid hci
 have HPR := Lib.hid hPr
 obtain ⟨s, hs⟩ : ∃ s, sgS ss i = s := ⟨_, rfl⟩
 rw [hs] at hci hss hl HC
 have HS := Lib.hid hs
 obtain ⟨S, hS⟩ : ∃ S : ByteArray, S = ⟨s.toArray⟩ := ⟨_, rfl⟩
 unfold strS at hci HC
 rw [← hS] at hci hss HC
 have HSV := Lib.hid hS
 have hn8 : (8 * (k : Int)).toNat = 8 * k := by omega
 have HM := Lib.hid (fun W => l1Many_any ⟨#[0]⟩ (8 * (k : Int)) W (by omega) (by omega) (by decide) (by show 1 * _ ≤ _; omega))
 obtain ⟨Z, hZ⟩ : ∃ Z : ByteArray, Z = ⟨(zer k).toArray⟩ := ⟨_, rfl⟩
 have hzz : (⟨(repL (⟨#[0]⟩ : ByteArray).data.toList (8 * (k : Int)).toNat).toArray⟩ : ByteArray) = Z := by
  rw [hZ, hn8]
  congr 2
  unfold zer
  generalize 8 * k = q
  induction q with
  | zero => rfl
  | succ q ih => rw [List.replicate_succ, ← ih]; rfl
 have hzs : Z.size = 8 * k := by rw [hZ]; simp [ByteArray.size, zer_length]
 have HZV := Lib.hid hZ
 have hS5 : S.size ≤ 100000 := by omega
 have hZ5 : Z.size ≤ 100000 := by omega
 have hcc : ¬ 9223372036854775807 < S.size + Z.size := by omega
 have HE : Hid (((S.size : Int) / 8) = ((wn (sgS ss i) : Nat) : Int)) := Lib.hid (by rw [HS.out]; unfold wn; rw [hss]; omega)
 have hHM : ∀ W, Calls Tryz.prog 68 #[.string ⟨#[0]⟩, .int .i64 (8 * (k : Int))] W fun e w' => e = .returned (.string Z) ∧ W = w' := fun W => by
  have := HM.out W
  rw [hzz] at this
  exact this
 have HHM := Lib.hid hHM
 have HFIN : Hid (∀ W : World, W = w.setCell ⟨r, i, none⟩ (.string (S ++ Z)) → KP P w W.drew ∧ Sb W.drew base b size (growB ss i k) false P) := Lib.hid (fun W hW => by
  subst hW
  have h1 := hst i (s ++ zer k) hi
  have e : (⟨(s ++ zer k).toArray⟩ : ByteArray) = S ++ Z := by
   rw [hS, hZ]; apply ext_ba; rw [ByteArray.data_append]; simp
  unfold strS at h1
  rw [e] at h1
  refine ⟨(KP.set HPR.out _ _ _).drew, ?_⟩
  unfold growB
  rw [HS.out]
  exact h1.drew)
 have hw8k : IntKind.i64.wrap (8 * (k : Int)) = 8 * (k : Int) := by rw [IntKind.wrap_i64]; omega
 clear hHM hzz hzs hS hZ hn8 hs h hb hc hst HM hss
 go_enter Tryz.func127, Tryz.ntmps127
 go_wp2_with fail
 refine wp_region_still_tail 17 (by kernel_rfl) (by kernel_rfl) ?_
 simp only [List.take_succ_cons, List.take_zero, List.drop_succ_cons, List.drop_zero]
 repeat still_step
 refine wpStill_step (fun K hK => ?_)
 go_simp
 refine ⟨_, (HHM.out _).mono (fun e w' h => ⟨h.1, h.2.symm⟩), hK _ ?_⟩
 clear hK K
 repeat still_step
 refine wpStill_nil ?_
 change wpList _ _ _ _ _ w.drew
 have q0 : w.drew.cell? ⟨b, 0, none⟩ = some (.slice (some ⟨r, 0, none⟩) ss.length cap) := c0
 have q1 : w.drew.cell? ⟨r, i, none⟩ = some (.string S) := hci
 have q2 : w.drew.frozen? ⟨r, i, none⟩ = false := hfi
 have HFIN2 : Hid (∀ W : World, W = w.drew.setCell ⟨r, i, none⟩ (.string (S ++ Z)) → KP P w W ∧ Sb W base b size (growB ss i k) false P) := Lib.hid (fun W hW => by subst hW; exact HFIN.out _ rfl)
 clear c0 c1 c2 hci hfi HFIN
 generalize w.drew = w2 at *
 go_wp2
 obtain ⟨k1, k2⟩ := HFIN2.out _ rfl
 go_ret
 exact ⟨ret_int HE.out, k1, k2⟩
end Go.Proofs.YtlbfffokkhccaaaGreatDoor
namespace Go.Proofs.YtlbfffokkhccaaaGreatDoor
open Go.RowKit
theorem in_wi (c : Int) : inB c 0 12800 = wiB c 12801 := by unfold inB wiB; rw [Bool.eq_iff_iff]; simp; omega
set_option maxHeartbeats 4000000 in
set_option maxRecDepth 100000 in
theorem l4List_0 (m : Nat) (s c : Int) (d : ByteArray) (A B : Option Addr) (lp cp ci : Nat) (is : List Nd) (w : World) (S : Nat → Prop) (_hn : NdsAt w S m B is) (hdm : d.size ≤ maxLen) (_hlm : is.length ≤ 2000000) (_hpm : lp ≤ 2000000) (hs0 : 0 ≤ s) (hs5 : s ≤ 5) (hw : wiB c 12801 = true) :
 Calls Tryz.prog 123 #[.agg #[.int .i64 2, .string d, .slice A lp cp, .int .i64 s, .int .i64 c, .slice B is.length ci]] w fun e w' => e = .returned (.bool (listB 2 s c d lp is.length (itemsB is))) ∧ Below w.heap.size w w' := by
 obtain ⟨hc0, hc1⟩ := wi_out hw
 have HLN : Hid (listB 2 s c d lp is.length (itemsB is) = (bitsB d (c * bz s) && (decide (lp = 0) && decide (is.length = 0)))) := Lib.hid (by unfold listB; rw [hw, if_pos ⟨hs0, hs5⟩]; simp)
 have HS7 : Hid (inB s 0 7 = true) := Lib.hid (by simp [inB]; omega)
 have HW : Hid (inB c 0 12800 = true) := Lib.hid (by rw [in_wi]; exact hw)
 have HPL := Lib.hid (fun W => l4Plain_a 2 s c d A B lp cp is.length ci W hs0 hs5 hc0 (by omega) hdm)
 have z6 : (s == 6) = false := by simp; omega
 have z7 : (s == 7) = false := by simp; omega
 clear _hn hw hdm _hlm _hpm hs0 hs5 hc0 hc1
 generalize bitsB d (c * bz s) = bb at *
 by_cases hp : lp = 0
 · have hpb : ((lp : Int) == 0) = true := by rw [hp]; rfl
   by_cases hi : is.length = 0
   · have hib : ((is.length : Int) == 0) = true := by rw [hi]; rfl
     have HX : Hid (listB 2 s c d lp is.length (itemsB is) = bb) := Lib.hid (by rw [HLN.out, hp, hi]; simp)
     clear hp hi
     go_enter Tryz.func123, Tryz.ntmps123
     go_wp2_with (first | (go_at_call 39; go_must (refine (l1In_any _ _ _ _).mono ?_); rintro e w1 ⟨rfl, rfl⟩; first | rw [HS7.out] | rw [HW.out]) | (go_at_call 162; go_must (with_reducible refine (HPL.out _).mono ?_); rintro e w2 ⟨rfl, hb2⟩))
     go_ret
     exact ⟨by rw [HX.out]; rfl, ((Below.refl _ _).alloc (Nat.le_refl _) _).trans (hb2.mono (by simp))⟩
   · have hib : ((is.length : Int) == 0) = false := by rw [beq_eq_false_iff_ne]; omega
     have HX : Hid (listB 2 s c d lp is.length (itemsB is) = false) := Lib.hid (by rw [HLN.out]; simp [hi])
     clear hp hi
     go_enter Tryz.func123, Tryz.ntmps123
     go_wp2_with (go_at_call 39; go_must (refine (l1In_any _ _ _ _).mono ?_); rintro e w1 ⟨rfl, rfl⟩; first | rw [HS7.out] | rw [HW.out])
     go_ret
     exact ⟨by rw [HX.out]; rfl, (Below.refl _ _).alloc (Nat.le_refl _) _⟩
 · have hpb : ((lp : Int) == 0) = false := by rw [beq_eq_false_iff_ne]; omega
   have HX : Hid (listB 2 s c d lp is.length (itemsB is) = false) := Lib.hid (by rw [HLN.out]; simp [hp])
   clear hp
   go_enter Tryz.func123, Tryz.ntmps123
   go_wp2_with (go_at_call 39; go_must (refine (l1In_any _ _ _ _).mono ?_); rintro e w1 ⟨rfl, rfl⟩; first | rw [HS7.out] | rw [HW.out])
   go_ret
   exact ⟨by rw [HX.out]; rfl, (Below.refl _ _).alloc (Nat.le_refl _) _⟩
set_option maxHeartbeats 4000000 in
set_option maxRecDepth 100000 in
theorem l4List_6 (m : Nat) (c : Int) (d : ByteArray) (A B : Option Addr) (lp cp ci : Nat) (is : List Nd) (w : World) (S : Nat → Prop) (_hn : NdsAt w S m B is) (_hdm : d.size ≤ maxLen) (_hlm : is.length ≤ 2000000) (_hpm : lp ≤ 2000000) (hw : wiB c 12801 = true) :
 Calls Tryz.prog 123 #[.agg #[.int .i64 2, .string d, .slice A lp cp, .int .i64 6, .int .i64 c, .slice B is.length ci]] w fun e w' => e = .returned (.bool (listB 2 6 c d lp is.length (itemsB is))) ∧ Below w.heap.size w w' := by
 have HLN : Hid (listB 2 6 c d lp is.length (itemsB is) = decide (d.size = 0 ∧ (lp : Int) = c ∧ is.length = 0)) := Lib.hid (by unfold listB; rw [hw, Bool.eq_iff_iff]; simp)
 have hse := toList_isEmpty d
 have HS7 : Hid (inB 6 0 7 = true) := Lib.hid (by decide)
 have HW : Hid (inB c 0 12800 = true) := Lib.hid (by rw [in_wi]; exact hw)
 clear hw _hn
 go_enter Tryz.func123, Tryz.ntmps123
 go_wp2_with (go_at_call 39; go_must (refine (l1In_any _ _ _ _).mono ?_); rintro e w1 ⟨rfl, rfl⟩; first | rw [HS7.out] | rw [HW.out])
 all_goals go_ret
 all_goals refine ⟨ret_bool ?_, (Below.refl _ _).alloc (Nat.le_refl _) _⟩
 all_goals (rw [HLN.out, Bool.eq_iff_iff]; simp_all)
set_option maxHeartbeats 4000000 in
set_option maxRecDepth 100000 in
theorem l4List_7 (m : Nat) (c : Int) (d : ByteArray) (A B : Option Addr) (lp cp ci : Nat) (is : List Nd) (w : World) (S : Nat → Prop) (hn : NdsAt w S m B is) (_hdm : d.size ≤ maxLen) (hlm : is.length ≤ 2000000) (_hpm : lp ≤ 2000000) (hw : wiB c 12801 = true) :
 Calls Tryz.prog 123 #[.agg #[.int .i64 2, .string d, .slice A lp cp, .int .i64 7, .int .i64 c, .slice B is.length ci]] w fun e w' => e = .returned (.bool (listB 2 7 c d lp is.length (itemsB is))) ∧ Below w.heap.size w w' := by
 have HLN : Hid (listB 2 7 c d lp is.length (itemsB is) = (decide (d.size = 0 ∧ lp = 0 ∧ (is.length : Int) = c) && itemsB is)) := Lib.hid (by unfold listB; rw [hw, Bool.eq_iff_iff]; simp [and_assoc])
 have HFALSE : Hid (itemsB is = false → listB 2 7 c d lp is.length (itemsB is) = false) := Lib.hid (fun h => by rw [HLN.out, h, Bool.and_false])
 have hse := toList_isEmpty d
 have HS7 : Hid (inB 7 0 7 = true) := Lib.hid (by decide)
 have HW : Hid (inB c 0 12800 = true) := Lib.hid (by rw [in_wi]; exact hw)
 have hba := (Below.refl w.heap.size w).alloc (Nat.le_refl _) (.cells #[.int .i64 2, .string d, .slice A lp cp, .int .i64 7, .int .i64 c, .slice B is.length ci] nodeT)
 have HF := Lib.hid (NdsAt.succ _ _ _ (hn.below hba))
 have HBW := Lib.hid hba
 have HR := Lib.hid (heap_alloc_new w (.cells #[.int .i64 2, .string d, .slice A lp cp, .int .i64 7, .int .i64 c, .slice B is.length ci] nodeT))
 have hsz : w.heap.size < (w.alloc (.cells #[.int .i64 2, .string d, .slice A lp cp, .int .i64 7, .int .i64 c, .slice B is.length ci] nodeT)).heap.size := by simp
 clear hw hn hba
 go_enter Tryz.func123, Tryz.ntmps123
 go_wp2_with (go_at_call 39; go_must (refine (l1In_any _ _ _ _).mono ?_); rintro e w1 ⟨rfl, rfl⟩; first | rw [HS7.out] | rw [HW.out])
 generalize w.alloc (.cells #[.int .i64 2, .string d, .slice A lp cp, .int .i64 7, .int .i64 c, .slice B is.length ci] nodeT) = W at *
 go_loopw [3] (fun i wr => ∃ k : Nat, i = .int .i64 k ∧ k ≤ is.length ∧ Hid ((is.take k).all (fun n => itemB n (is.headD default)) = true) ∧ Hid (Below W.heap.size W wr)) (fun i _ => is.length - (intOf i).toNat)
 case atStart => exact ⟨0, rfl, by omega, Lib.hid rfl, Lib.hid (Below.refl _ _)⟩
 case round =>
  obtain ⟨k, rfl, hk, HA, HB⟩ := hrel
  have hrw := (HB.out.block _ hsz).trans HR.out
  obtain ⟨e0, e1, e2, e3, e4, e5⟩ := cells6 hrw
  by_cases hlt : k < is.length
  · clear e0 e1 e2 e3 e4
    obtain ⟨x, hd, rfl, hc, hn⟩ := (HF.out.below HB.out).at_ hlt
    obtain ⟨x', hd0, hxx, hc0, hn0⟩ := (HF.out.below HB.out).at_ (k := 0) (by omega)
    obtain rfl : x = x' := Option.some.inj hxx
    rw [addr_zero] at hc0
    have HFL := Lib.hid (fun h => itemsB_false hlt h)
    have HTR := Lib.hid (fun h => itemsB_take hlt HA.out h)
    have h0l : 0 < is.length := by omega
    rw [head_at h0l] at hc0
    generalize is.headD default = hdn at hc0 HFL HTR
    generalize is[k] = n at hc HFL HTR
    obtain ⟨c0, c1, c2, c3, c4, c5⟩ := hc
    obtain ⟨-, d1, d2, -, -, -⟩ := hc0
    have HI := Lib.hid (fun W => l4Struct_any n.kind n.size n.count n.data hd.A hd.B n.ptrs.length hd.a n.items.length hd.b W)
    clear hn hn0 hrw
    go_wp2_with fail
    have q0 := cell_regrown c0
    have q1 := cell_regrown c1
    have q2 := cell_regrown c2
    have q3 := cell_regrown c3
    have q4 := cell_regrown c4
    have q5 := cell_regrown c5
    have e5' := cell_regrown e5
    have p1 := cell_regrown d1
    have p2 := cell_regrown d2
    cases hst : structB n.kind n.data n.size n.count n.items.length
    · have HX := Lib.hid (HFALSE.out (HFL.out (by simp [itemB, hst])))
      rw [hst] at HI
      refine wp_region_quiet_below (by kernel_rfl) (by kernel_rfl) ?_
      repeat (first | go_big_quiet_step ((go_at_call 122; with_reducible exact Calls.regrown_of (HI.out _))) | quiet_step ((go_at_call 122; with_reducible exact Calls.regrown_of (HI.out _))))
      refine wpQuiet_nil ?_
      intro _ hw'
      obtain ⟨⟨dq, osq⟩, hw''⟩ := hw'
      subst hw''
      have HB2 := Lib.hid (HB.out.trans ((below_regrown wr dq osq).mono HB.out.size))
      clear q0 q1 q2 q3 q4 q5 e5 e5' p1 p2 d1 d2 c0 c1 c2 c3 c4 c5
      generalize «Sort».grow (redrawn wr dq) osq = W2 at *
      go_wp2
      go_ret
      exact ⟨by rw [HX.out]; rfl, HBW.out.trans (HB2.out.mono HBW.out.size)⟩
    · rw [hst] at HI
      by_cases hz : n.data.size = hdn.data.size
      · have HZ := Lib.hid hz
        have hzb : ((n.data.size : Int) == (hdn.data.size : Int)) = true := by rw [hz]; simp
        have hzn : ((n.data.size : Int) != (hdn.data.size : Int)) = false := by rw [hz]; simp
        clear hz
        by_cases hp : n.ptrs.length = hdn.ptrs.length
        · have HX := Lib.hid (HTR.out (by simp [itemB, hst, HZ.out, hp]))
          have hpn : ((n.ptrs.length : Int) != (hdn.ptrs.length : Int)) = false := by rw [hp]; simp
          clear hp
          refine wp_region_quiet_below (by kernel_rfl) (by kernel_rfl) ?_
          repeat (first | go_big_quiet_step ((go_at_call 122; with_reducible exact Calls.regrown_of (HI.out _))) | quiet_step ((go_at_call 122; with_reducible exact Calls.regrown_of (HI.out _))))
          refine wpQuiet_nil ?_
          intro _ hw'
          obtain ⟨⟨dq, osq⟩, hw''⟩ := hw'
          subst hw''
          have HB2 := Lib.hid (HB.out.trans ((below_regrown wr dq osq).mono HB.out.size))
          clear q0 q1 q2 q3 q4 q5 e5 e5' p1 p2 d1 d2 c0 c1 c2 c3 c4 c5
          generalize «Sort».grow (redrawn wr dq) osq = W2 at *
          go_wp2
          go_roundw
          case rel => exact ⟨k + 1, by go_num, by omega, HX, HB2⟩
          case measure => simp [intOf]; omega
        · have HX := Lib.hid (HFALSE.out (HFL.out (by simp [itemB, hst, HZ.out, hp])))
          have hpn : ((n.ptrs.length : Int) != (hdn.ptrs.length : Int)) = true := by simp; omega
          clear hp
          refine wp_region_quiet_below (by kernel_rfl) (by kernel_rfl) ?_
          repeat (first | go_big_quiet_step ((go_at_call 122; with_reducible exact Calls.regrown_of (HI.out _))) | quiet_step ((go_at_call 122; with_reducible exact Calls.regrown_of (HI.out _))))
          refine wpQuiet_nil ?_
          intro _ hw'
          obtain ⟨⟨dq, osq⟩, hw''⟩ := hw'
          subst hw''
          have HB2 := Lib.hid (HB.out.trans ((below_regrown wr dq osq).mono HB.out.size))
          clear q0 q1 q2 q3 q4 q5 e5 e5' p1 p2 d1 d2 c0 c1 c2 c3 c4 c5
          generalize «Sort».grow (redrawn wr dq) osq = W2 at *
          go_wp2
          go_ret
          exact ⟨by rw [HX.out]; rfl, HBW.out.trans (HB2.out.mono HBW.out.size)⟩
      · have HX := Lib.hid (HFALSE.out (HFL.out (by simp [itemB, hst, hz])))
        have hzb : ((n.data.size : Int) == (hdn.data.size : Int)) = false := by simp; omega
        have hzn : ((n.data.size : Int) != (hdn.data.size : Int)) = true := by simp; omega
        refine wp_region_quiet_below (by kernel_rfl) (by kernel_rfl) ?_
        repeat (first | go_big_quiet_step ((go_at_call 122; with_reducible exact Calls.regrown_of (HI.out _))) | quiet_step ((go_at_call 122; with_reducible exact Calls.regrown_of (HI.out _))))
        refine wpQuiet_nil ?_
        intro _ hw'
        obtain ⟨⟨dq, osq⟩, hw''⟩ := hw'
        subst hw''
        have HB2 := Lib.hid (HB.out.trans ((below_regrown wr dq osq).mono HB.out.size))
        clear q0 q1 q2 q3 q4 q5 e5 e5' p1 p2 d1 d2 c0 c1 c2 c3 c4 c5
        generalize «Sort».grow (redrawn wr dq) osq = W2 at *
        go_wp2
        go_ret
        exact ⟨by rw [HX.out]; rfl, HBW.out.trans (HB2.out.mono HBW.out.size)⟩
  · obtain rfl : k = is.length := by omega
    rw [List.take_of_length_le (Nat.le_refl _)] at HA
    have HIB : Hid (itemsB is = true) := Lib.hid HA.out
    have HX : Hid (listB 2 7 c d lp is.length (itemsB is) = decide (d.size = 0 ∧ lp = 0 ∧ (is.length : Int) = c)) := Lib.hid (by rw [HLN.out, HIB.out, Bool.and_true])
    have HBE := Lib.hid (HBW.out.trans (HB.out.mono HBW.out.size))
    go_wp2
    all_goals go_ret
    all_goals refine ⟨?_, HBE.out⟩
    all_goals rw [HX.out]
    all_goals exact ret_bool (by rw [Bool.eq_iff_iff]; simp_all)
set_option maxHeartbeats 4000000 in
set_option maxRecDepth 100000 in
theorem l4List_a (m : Nat) (k s c : Int) (d : ByteArray) (A B : Option Addr) (lp cp ci : Nat) (is : List Nd) (w : World) (S : Nat → Prop) (hn : NdsAt w S m B is) (hdm : d.size ≤ maxLen) (hlm : is.length ≤ 2000000) (hpm : lp ≤ 2000000) :
 Calls Tryz.prog 123 #[.agg #[.int .i64 k, .string d, .slice A lp cp, .int .i64 s, .int .i64 c, .slice B is.length ci]] w fun e w' => e = .returned (.bool (listB k s c d lp is.length (itemsB is))) ∧ Below w.heap.size w w' := by
 by_cases hk : k = 2
 · subst hk
   by_cases hs : 0 ≤ s ∧ s ≤ 7
   · cases hw : wiB c 12801
     · have HX : Hid (listB 2 s c d lp is.length (itemsB is) = false) := Lib.hid (by unfold listB; rw [hw]; simp)
       have HS7 : Hid (inB s 0 7 = true) := Lib.hid (by simp [inB]; omega)
       have HW : Hid (inB c 0 12800 = false) := Lib.hid (by rw [in_wi]; exact hw)
       clear hw hn hs
       go_enter Tryz.func123, Tryz.ntmps123
       go_wp2_with (go_at_call 39; go_must (refine (l1In_any _ _ _ _).mono ?_); rintro e w1 ⟨rfl, rfl⟩; first | rw [HS7.out] | rw [HW.out])
       go_ret
       exact ⟨by rw [HX.out]; rfl, (Below.refl _ _).alloc (Nat.le_refl _) _⟩
     · by_cases h5 : s ≤ 5
       · exact l4List_0 m s c d A B lp cp ci is w S hn hdm hlm hpm hs.1 h5 hw
       · have h67 : s = 6 ∨ s = 7 := by omega
         rcases h67 with rfl | rfl
         · exact l4List_6 m c d A B lp cp ci is w S hn hdm hlm hpm hw
         · exact l4List_7 m c d A B lp cp ci is w S hn hdm hlm hpm hw
   · have HX : Hid (listB 2 s c d lp is.length (itemsB is) = false) := Lib.hid (by unfold listB; rw [if_neg (by omega), if_neg (by omega), if_neg (by omega)]; simp)
     have HS7 : Hid (inB s 0 7 = false) := Lib.hid (by simp [inB]; omega)
     have HW := HS7
     clear hn hs
     go_enter Tryz.func123, Tryz.ntmps123
     go_wp2_with (go_at_call 39; go_must (refine (l1In_any _ _ _ _).mono ?_); rintro e w1 ⟨rfl, rfl⟩; first | rw [HS7.out] | rw [HW.out])
     go_ret
     exact ⟨by rw [HX.out]; rfl, (Below.refl _ _).alloc (Nat.le_refl _) _⟩
 · have HX : Hid (listB k s c d lp is.length (itemsB is) = false) := Lib.hid (by unfold listB; simp [hk])
   clear hn
   go_enter Tryz.func123, Tryz.ntmps123
   go_wp2
   go_ret
   exact ⟨by rw [HX.out]; rfl, (Below.refl _ _).alloc (Nat.le_refl _) _⟩
end Go.Proofs.YtlbfffokkhccaaaGreatDoor