/- Texts of the proof of the law FnPipe, side by side: part 7. -/
import Derived.OpenShut
import Derived.Maps.AppendAt
import Derived.Test.YtfiiopchfmcjdabDoorMPipe00
import Derived.Test.YtfiiopchfmcjdabDoorMPipe01
import Derived.Test.YtfiiopchfmcjdabDoorMPipe02
import Derived.Test.YtfiiopchfmcjdabDoorMPipe03
import Derived.Test.YtfiiopchfmcjdabDoorMPipe04
import Derived.Test.YtfiiopchfmcjdabDoorMPipe05
import Derived.Test.YtfiiopchfmcjdabDoorMPipe06
/- An argument of bytes. -/
namespace Go.Proofs.YtfiiopchfmcjdabDoor
open Go.RowKit
/-- an argument of bytes. -/
def Arg (w : World) (a : Option Addr) (len cap : Nat) : Prop := Code w w.heap.size a len ∧ len ≤ cap ∧ (a = none → len = 0)
theorem Arg.below {w w' : World} {a : Option Addr} {len cap : Nat} (h : Arg w a len cap) (hb : Below w.heap.size w w') : Arg w' a len cap :=
  ⟨(h.1.keeps (R := w.heap.size) (Keeps.of_below hb) (Nat.le_refl _) (Nat.le_refl _)).mono hb.size, h.2⟩
theorem opened_below {w w1 w2 : World} {R n : Nat} (hR : w.heap.size ≤ R) (hb : Below w.heap.size w w1) (hp : Picked w1 R n w2) : Below w.heap.size w w2 :=
  hb.trans (hp.2.below hb.size hR)
theorem arg_nil (w : World) : Arg w none 0 0 := ⟨⟨by decide, .inl rfl⟩, Nat.le_refl _, fun _ => rfl⟩
theorem wf_u8 {n : Int} (h : (Lit.int .u8 n).wf = true) : ∃ b : UInt8, n = (b.toNat : Int) := by
  simp [Lit.wf, IntKind.min, IntKind.max, IntKind.bits, IntKind.signed] at h
  refine ⟨UInt8.ofNat n.toNat, ?_⟩
  rw [UInt8.toNat_ofNat']
  omega
theorem arg_row {w : World} {x : Addr} {l c : Nat} {zs : List Int} (hl : l ≤ c) (hm : c ≤ maxLen) (hz : zs.length = c) (hcell : ∀ i, i < zs.length → w.cell? (x.add i) = some (.int .u8 (zs.getD i 0))) (hwz : ∀ n ∈ zs, (Lit.int .u8 n).wf = true) :
    Arg w (some x) l c := by
  refine ⟨⟨Nat.le_trans hl hm, ?_⟩, hl, fun h => by cases h⟩
  by_cases h0 : l = 0
  · exact .inl h0
  · refine .inr ⟨x, rfl, ?_, fun i hi => ?_⟩
    · have h := World.block_lt_of_cell? w _ (hcell 0 (by omega))
      rwa [addr_block] at h
    · have hi' : i < zs.length := by omega
      obtain ⟨b, hb⟩ := wf_u8 (hwz zs[i] (List.getElem_mem hi'))
      refine ⟨b, ?_⟩
      rw [hcell i hi', List.getD, List.getElem?_eq_getElem hi', ← hb]
      rfl
end Go.Proofs.YtfiiopchfmcjdabDoor

/- the specification's l1Many: a text n times. -/
namespace Go.Proofs.YtfiiopchfmcjdabDoor
open Go.RowKit
def repL (l : List UInt8) : Nat → List UInt8
  | 0 => []
  | k + 1 => l ++ repL l k
theorem repL_length (l : List UInt8) : ∀ k, (repL l k).length = l.length * k
  | 0 => rfl
  | k + 1 => by rw [repL, List.length_append, repL_length l k, Nat.mul_succ]; omega
theorem repL_two (l : List UInt8) : ∀ k, repL (l ++ l) k = repL l (2 * k)
  | 0 => rfl
  | k + 1 => by rw [repL, repL_two l k, show 2 * (k + 1) = 2 * k + 1 + 1 by omega, repL, repL, List.append_assoc]
theorem repL_even (v u s : List UInt8) (m N : Nat) (h : v ++ repL u m = repL s N) (he : m % 2 = 0) : v ++ repL (u ++ u) (m / 2) = repL s N := by
  rw [repL_two, show 2 * (m / 2) = m by omega, h]
theorem repL_odd (v u s : List UInt8) (m N : Nat) (h : v ++ repL u m = repL s N) (he : ¬ m % 2 = 0) : (v ++ u) ++ repL (u ++ u) (m / 2) = repL s N := by
  rw [repL_two, List.append_assoc, ← h]
  have e : repL u m = repL u (2 * (m / 2) + 1) := by rw [show 2 * (m / 2) + 1 = m by omega]
  rw [e, repL]
theorem rep_size (v u s : ByteArray) (m N : Nat) (h : v.data.toList ++ repL u.data.toList m = repL s.data.toList N) (hm : 1 ≤ m) : v.size + u.size ≤ s.size * N := by
  have h1 := congrArg List.length h
  rw [List.length_append, repL_length, repL_length] at h1
  simp only [Array.length_toList, ByteArray.size_data] at h1
  have h2 : u.size * 1 ≤ u.size * m := Nat.mul_le_mul_left _ hm
  omega
theorem ba_size (s : ByteArray) : s.data.toList.length = s.size := by simp
theorem mk_size (l : List UInt8) : (⟨l.toArray⟩ : ByteArray).size = l.length := by simp [ByteArray.size]
theorem app_ba (a b : ByteArray) : (a ++ b).data.toList = a.data.toList ++ b.data.toList := by simp
theorem ret_s {a b : ByteArray} (h : a.data.toList = b.data.toList) : Ending.returned (.string a) = .returned (.string b) := by rw [ext_ba h]
set_option maxHeartbeats 1000000 in
theorem l1Many_any (s : ByteArray) (n : Int) (w : World) (h0 : 0 ≤ n) (hn : n ≤ 10000000) (hs : s.size ≤ 10000000) (hsn : s.size * n.toNat ≤ 10000000) :
    Calls Tryd.prog 108 #[.string s, .int .i64 n] w fun e w' => e = .returned (.string ⟨(repL s.data.toList n.toNat).toArray⟩) ∧ w = w' := by
  obtain ⟨N, rfl⟩ := Int.eq_ofNat_of_zero_le h0
  rw [Int.toNat_natCast] at hsn ⊢
  go_enter Tryd.func108, Tryd.ntmps108
  go_wp2
  go_loop [0, 1, 5] (fun t k o => ∃ (m : Nat) (u v : ByteArray), t = .string u ∧ k = .int .i64 m ∧ o = .string v ∧ m ≤ N ∧ u.size ≤ 20000000 ∧ Hid (v.data.toList ++ repL u.data.toList m = repL s.data.toList N)) (fun _ k _ => (intOf k).toNat)
  case atStart => exact ⟨N, s, ByteArray.empty, rfl, rfl, rfl, by omega, by omega, by exact List.nil_append _⟩
  case round =>
    obtain ⟨m, u, v, rfl, rfl, rfl, hm, hu, HE⟩ := hrel
    by_cases hm0 : m = 0
    · subst hm0
      go_wp2
      go_ret
      refine ⟨ret_s ?_, rfl⟩
      rw [← HE.out, repL, List.append_nil]
    · have hm1 : 1 ≤ m := by omega
      have hsz := rep_size v u s m N HE.out hm1
      have f1 : ¬ 9223372036854775807 < v.size + u.size := by omega
      have f2 : ¬ 9223372036854775807 < u.size + u.size := by omega
      have hu2 : (u ++ u).size ≤ 20000000 := by simp; omega
      by_cases ho : m % 2 = 0
      · have hb : ((m : Int) % 2 == 1) = false := by simp; omega
        have hE2 : v.data.toList ++ repL (u ++ u).data.toList (m / 2) = repL s.data.toList N := by rw [app_ba]; exact repL_even _ _ _ _ _ HE.out ho
        have HE2 := Lib.hid hE2
        clear hE2 ho
        go_wp2
        go_round
        case rel => exact ⟨m / 2, _, _, rfl, by go_num, rfl, by omega, hu2, HE2⟩
        case measure => simp [intOf]; omega
      · have hb : ((m : Int) % 2 == 1) = true := by simp; omega
        have hE2 : (v ++ u).data.toList ++ repL (u ++ u).data.toList (m / 2) = repL s.data.toList N := by rw [app_ba, app_ba]; exact repL_odd _ _ _ _ _ HE.out ho
        have HE2 := Lib.hid hE2
        clear hE2 ho
        go_wp2
        go_round
        case rel => exact ⟨m / 2, _, _, rfl, by go_num, rfl, by omega, hu2, HE2⟩
        case measure => simp [intOf]; omega
end Go.Proofs.YtfiiopchfmcjdabDoor

/- The specification's drawer of words: l13Word, l13Words. -/
namespace Go.Proofs.YtfiiopchfmcjdabDoor
open Go.RowKit
theorem str8 (n : Int) : (⟨(leB n 8).toArray⟩ : ByteArray).size = 8 := by simp [ByteArray.size, leB_length]
theorem rep8 (l : List UInt8) (k : Nat) : (⟨(repL l k).toArray⟩ : ByteArray).size = l.length * k := by simp [ByteArray.size, repL_length]
set_option maxHeartbeats 2000000 in
theorem l13Word_any (R n : Nat) (w : World) (h : Rd w R n) (hn : n ≤ 999000) :
    Calls Tryd.prog 84 #[.pointer (some ⟨R, 0, none⟩)] w (StrP (fun u => u.size = 8) R (n + 3) w) := by
  go_enter Tryd.func84, Tryd.ntmps84
  go_wp2_with (go_at_call 108; go_must (refine (l1Many_any _ _ _ (by decide) (by decide) (by decide) (by decide)).mono ?_); rintro e w' ⟨rfl, rfl⟩)
  refine (pick_any R n _ _ h (by omega)).mono ?_
  rintro e w1 ⟨v, ⟨hv0, hv1⟩, rfl, hp1⟩
  have hv : v ≤ 255 := by omega
  clear hv1
  go_wp2_with fail
  refine (pick_any R (n + 1) _ _ hp1.1 (by omega)).mono ?_
  rintro e w2 ⟨u, ⟨hu0, hu1⟩, rfl, hp2⟩
  have hu : u ≤ 255 := by omega
  clear hu1
  go_wp2_with fail
  refine (l1Bytes_any _ 8 _ (by decide) (by decide)).mono ?_
  rintro e w3 ⟨rfl, hb3⟩
  go_wp2_with fail
  have hp3 : Picked w R (n + 2) w3 := (hp1.then hp2).below hb3
  have hR := hp3.1.lt
  refine (of_any R (n + 2) w3.heap.size 8 8 (fun u => u.size = 8) _ _ (by exact hp3.1.below ((Below.refl _ _).alloc (Nat.le_refl _) _)) (by omega) (by exact Lits.new _ _ _ _) (by
    intro v hv
    simp at hv
    rcases hv with rfl | rfl | rfl | rfl | rfl | rfl | rfl
    all_goals exact ⟨_, rfl, by simp [ByteArray.size, repL_length, leB_length]⟩) (by omega) (by simp) (by omega) (by omega)).mono ?_
  rintro e w4 ⟨x, hx, rfl, hp4⟩
  go_wp2
  go_ret
  exact ⟨x, hx, rfl, (hp3.below ((Below.refl _ _).alloc (Nat.le_refl _) _)).then hp4⟩

set_option maxHeartbeats 2000000 in
theorem l13Words_any (R n : Nat) (most : Nat) (w : World) (h : Rd w R n) (hn : n ≤ 900000) (hm : most ≤ 10000) :
    Calls Tryd.prog 58 #[.pointer (some ⟨R, 0, none⟩), .int .i64 most] w (StrP (fun u => ∃ j, j ≤ most ∧ u.size = 8 * j) R (n + 1 + 3 * most) w) := by
  go_enter Tryd.func58, Tryd.ntmps58
  go_wp2_with fail
  refine (pick_any R n _ _ h (by omega)).mono ?_
  rintro e w1 ⟨v, ⟨hv0, hv1⟩, rfl, hp1⟩
  obtain ⟨q, rfl⟩ := Int.eq_ofNat_of_zero_le hv0
  have hq : q ≤ most := by omega
  clear hv1
  go_wp2_with fail
  go_loopw [5, 6] (fun o i wr => ∃ (j m : Nat) (u : ByteArray), o = .string u ∧ i = .int .i64 m ∧ j + m = q ∧ Hid (u.size = 8 * j) ∧ Hid (Picked w R (n + 1 + 3 * j) wr)) (fun _ i _ => (intOf i).toNat)
  case atStart => exact ⟨0, q, ByteArray.empty, rfl, rfl, by omega, rfl, hp1⟩
  case round =>
    obtain ⟨j, m, u, rfl, rfl, hjm, HU, HP⟩ := hrel
    have hu := HU.out
    have HJ := Lib.hid hjm
    have hjq : j + m ≤ q := by omega
    have hul : u.size ≤ 80000 := by omega
    clear hu hjm
    by_cases h0 : m = 0
    · subst h0
      go_wp2
      go_ret
      exact ⟨u, ⟨j, by omega, HU.out⟩, rfl, HP.out.mono (by omega)⟩
    · have h1 : 1 ≤ m := by omega
      go_wp2_with fail
      refine (l13Word_any R (n + 1 + 3 * j) _ HP.out.1 (by omega)).mono ?_
      rintro e w2 ⟨x, hx, rfl, hp2⟩
      have f1 : ¬ 9223372036854775807 < u.size + x.size := by omega
      have hs : (u ++ x).size = 8 * (j + 1) := by have := HU.out; simp; omega
      have hp : Picked w R (n + 1 + 3 * (j + 1)) w2 := HP.out.then (hp2.mono (by omega))
      have HX := Lib.hid hx
      have HS := Lib.hid hs
      clear hx hs
      go_wp2
      go_roundw
      case rel => exact ⟨j + 1, m - 1, _, rfl, by go_num, by have := HJ.out; omega, HS, hp⟩
      case measure => simp [intOf]; omega

end Go.Proofs.YtfiiopchfmcjdabDoor

/- The specification's drawer of segments: l13Segs, l13AnySegs, DrawFramePut: some segments. -/
namespace Go.Proofs.YtfiiopchfmcjdabDoor
open Go.RowKit
theorem grown_of_keeps {R : Nat} {w w' : World} (h : Keeps w.heap.size R w w') : w.grownBy w' (some R) := ⟨h.os, h.tape, h.output, h.size, fun k hk hne => h.block k hk (fun e => hne (by rw [e]))⟩
theorem own_picked {w w' : World} {R n base m : Nat} {e : TypeId} {v : Value} {xs : List Value} (h : w.ownsRow base e 1 v m xs) (hp : Picked w R n w') (hR : R < base) : w'.ownsRow base e 1 v m xs := by
  refine h.kept (grown_of_keeps hp.2) ?_
  by_cases hv : v.ownBlock = none
  · exact .inl hv
  · refine .inr (fun e => ?_)
    have := (h.lt R (by rw [e])).1
    omega
theorem picked_grow {w w1 w2 : World} {R n base m : Nat} {e : TypeId} {v : Value} {xs : List Value} {o : Obj} (hp : Picked w R n w1) (hR : R < base) (hb : base ≤ w1.heap.size) (hwb : w.heap.size ≤ base) (hown : w1.ownsRow base e 1 v m xs) (hg : (w1.alloc o).grownBy w2 v.ownBlock) : Picked w R n w2 := by
  have hbel : Below base w1 w2 := ((Below.refl base w1).alloc hb o).grown hg (by simp <;> omega) (fun k hk => (hown.lt k hk).1)
  obtain ⟨⟨a, l, c, p, hpn, hr, hc⟩, hk⟩ := hp
  refine ⟨⟨a, l, c, p, hpn, (hbel.block R hR).trans hr, hc.keeps (R := base) (Keeps.of_below hbel) (Nat.le_of_lt hR) (Nat.le_of_lt hR)⟩, ?_⟩
  exact ⟨hbel.os.trans hk.os, hbel.tape.trans hk.tape, hbel.output.trans hk.output, Nat.le_trans hk.size hbel.size, fun k hk1 hk2 => (hbel.block k (Nat.lt_of_lt_of_le hk1 hwb)).trans (hk.block k hk1 hk2)⟩
theorem strs_of_own {w : World} {base : Nat} {e : TypeId} {v : Value} {ss : List ByteArray} (h : w.ownsRow base e 1 v ss.length (ss.map Value.string)) (hs : ∀ s ∈ ss, s.size ≤ maxLen) : ∃ A cap, v = .slice A ss.length cap ∧ Strs w A ss := by
  rcases h.2 with ⟨rfl, h0⟩ | ⟨g, cap, cur, rfl, _, hg, _⟩
  · have : ss = [] := by
      cases ss with
      | nil => rfl
      | cons a r => simp at h0
    subst this
    exact ⟨none, 0, rfl, Strs.nil _ _⟩
  · refine ⟨_, cap, rfl, hs, .inr ⟨⟨g, 0, none⟩, rfl, row_lt hg, fun i hi => ?_⟩⟩
    exact h.cells (g := g) rfl i _ (by simp [List.getElem?_eq_getElem hi])
theorem own_lit (w : World) (base : Nat) (x : Value) (e : TypeId) (hb : base ≤ w.heap.size) : (w.alloc (.cells #[x] e)).ownsRow base e 1 (.slice (some ⟨w.heap.size, 0, none⟩) 1 1) 1 [x] :=
  ⟨by simp, .inr ⟨w.heap.size, 1, #[x], rfl, hb, heap_alloc_new w _, Nat.le_refl _, by decide, by simp, by simp⟩⟩
theorem own_slice {w : World} {B e n : Nat} {v : Value} {xs : List Value} (h : w.ownsRow B e 1 v n xs) : ∃ A cap, v = .slice A n cap := by
  rcases h.2 with ⟨rfl, rfl⟩ | ⟨g, cap, _, rfl, _⟩
  · exact ⟨none, 0, rfl⟩
  · exact ⟨_, cap, rfl⟩
def lenOfV : Value → Nat
  | .slice _ n _ => n
  | _ => 0
/-- some segments, in memory of the call's own. -/
def SegP (R n : Nat) (w : World) (e : Ending) (w' : World) : Prop := ∃ (v : Value) (ss : List ByteArray), e = .returned v ∧ ss.length ≤ 8 ∧ (∀ s ∈ ss, s.size ≤ 1700) ∧ w'.ownsRow w.heap.size 9 1 v ss.length (ss.map Value.string) ∧ Picked w R n w'
set_option maxHeartbeats 4000000 in
set_option maxRecDepth 100000 in
theorem l13Segs_any (R n : Nat) (w : World) (h : Rd w R n) (hn : n ≤ 800000) :
    Calls Tryd.prog 30 #[.pointer (some ⟨R, 0, none⟩)] w (fun e w' => ∃ (v : Value) (ss : List ByteArray), e = .returned v ∧ ss.length ≤ 4 ∧ (∀ s ∈ ss, s.size ≤ 1700) ∧ w'.ownsRow w.heap.size 9 1 v ss.length (ss.map Value.string) ∧ Picked w R (n + 60) w') := by
  have hRw := h.lt
  obtain ⟨i0, hi, hz0, hz1, hz2⟩ := info_parts infoStr
  go_enter Tryd.func30, Tryd.ntmps30
  go_wp2_with fail
  refine (l13Words_any R n 4 _ h (by omega) (by omega)).mono ?_
  rintro e w1 ⟨s, ⟨j, hj, hs⟩, rfl, hp1⟩
  have hs1 : s.size ≤ 1700 := by omega
  clear hs
  have hq1 := hp1.below ((Below.refl w1.heap.size w1).alloc (Nat.le_refl _) (.cells #[.string s] 9))
  have hown1 := own_lit w1 w.heap.size (.string s) 9 hp1.2.size
  have HO1 := Lib.hid hown1
  clear hown1
  go_wp2_with fail
  refine (pick_any R (n + 1 + 3 * 4) _ _ hq1.1 (by omega)).mono ?_
  rintro e w2 ⟨q, ⟨hq0, hq4⟩, rfl, hp2⟩
  obtain ⟨q, rfl⟩ := Int.eq_ofNat_of_zero_le hq0
  have hq3 : q ≤ 3 := by omega
  clear hq4
  have HO2 := Lib.hid (own_picked HO1.out hp2 hRw)
  have hq2 := hq1.then hp2
  go_wp2_with fail
  go_loopw [3, 4] (fun v i wr => ∃ (m : Nat) (ss : List ByteArray), i = .int .i64 m ∧ ss.length + m = q + 1 ∧ 1 ≤ ss.length ∧ (∀ s ∈ ss, s.size ≤ 1700) ∧ Hid (wr.ownsRow w.heap.size 9 1 v ss.length (ss.map Value.string)) ∧ Hid (Picked w R (n + 14 + 11 * ss.length) wr)) (fun _ i _ => (intOf i).toNat)
  case atStart => exact ⟨q, [s], rfl, by simp <;> omega, by simp, by simpa using hs1, HO2.out, hq2.mono (by simp <;> omega)⟩
  case round =>
    obtain ⟨m, ss, rfl, hsm, hs1', hall, HO, HP⟩ := hrel
    have HALL := Lib.hid hall
    have HSM := Lib.hid hsm
    have hsl : ss.length ≤ 4 := by omega
    have hml : m ≤ 3 := by omega
    clear hall hsm
    by_cases h0 : m = 0
    · subst h0
      go_wp2
      go_ret
      exact ⟨_, ss, rfl, hsl, HALL.out, HO.out, HP.out.mono (by omega)⟩
    · have h1 : 1 ≤ m := by omega
      go_wp2_with fail
      refine (l13Words_any R (n + 14 + 11 * ss.length) 3 _ HP.out.1 (by omega) (by omega)).mono ?_
      rintro e w3 ⟨x, ⟨j3, hj3, hx⟩, rfl, hp3⟩
      have hx1 : x.size ≤ 1700 := by omega
      clear hx
      have HO3 := Lib.hid (own_picked HO.out hp3 hRw)
      have HP3 := Lib.hid (HP.out.then hp3)
      have hsz3 := HP3.out.2.size
      clear hp3
      go_wp2_with (at_builtin; go_must (refine wpList_append_own _ rfl (.tmp 14) (.tmp 17) 33 rfl w.heap.size 9 i0 (.string ByteArray.empty) 1 16 Tryd.underlying33 hi hz0 hz1 hz2 rfl (by decide) _ _ _ rfl (HO3.out.alloc _) ⟨w3.heap.size, 0, none⟩ 1 1 [.string x] rfl rfl (cell_one_new _ _ _) (by simp [Value.oneCell']) (by unfold maxLen; omega) (by omega) (by simp <;> omega) ?_); intro v' wn hown' hgrow _)
      have hpn := picked_grow HP3.out hRw hsz3 (Nat.le_refl _) HO3.out hgrow
      have hon : wn.ownsRow w.heap.size 9 1 v' (ss ++ [x]).length ((ss ++ [x]).map Value.string) := by
        rw [List.length_append, List.map_append]; exact hown'
      have HPN := Lib.hid hpn
      have HON := Lib.hid hon
      clear hpn hon hgrow hown'
      go_wp2
      go_roundw
      case rel =>
        refine ⟨m - 1, ss ++ [x], by go_num, by have := HSM.out; simp; omega, by simp, ?_, HON, HPN.out.mono (by simp <;> omega)⟩
        intro s hs
        rcases List.mem_append.1 hs with hs | hs
        · exact HALL.out s hs
        · obtain rfl : s = x := by simpa using hs
          exact hx1
      case measure => simp [intOf]; omega
def DrawSegs (w : World) (e : Ending) (w' : World) : Prop := ∃ (A : Option Addr) (cap : Nat) (ss : List ByteArray), e = .returned (.slice A ss.length cap) ∧ ss.length ≤ 8 ∧ (∀ s ∈ ss, s.size ≤ 1700) ∧ Strs w' A ss ∧ Below w.heap.size w w'
end Go.Proofs.YtfiiopchfmcjdabDoor

/- spec.FramePut at every argument, and the law FnExactFramePut walked. -/
namespace Go.Proofs.YtfiiopchfmcjdabDoor
open Go.RowKit
theorem str_cat (a b : List UInt8) : (⟨a.toArray⟩ : ByteArray) ++ ⟨b.toArray⟩ = ⟨(a ++ b).toArray⟩ := by
  apply ext_ba; rw [ByteArray.data_append]; simp
theorem cat_str (a : List UInt8) (s : ByteArray) : (⟨a.toArray⟩ : ByteArray) ++ s = ⟨(a ++ s.data.toList).toArray⟩ := by
  apply ext_ba; rw [ByteArray.data_append]; simp
set_option maxHeartbeats 1000000 in
theorem specFramePut_no (A : Option Addr) (cap : Nat) (ss : List ByteArray) (w : World) (h : Strs w A ss) (hn : ss.length ≤ 1048576) (ht : tot ss ≤ 1099511627776) (hok : frOk ss = false) :
    Calls Tryd.prog 29 #[.slice A ss.length cap] w fun e w' => e = .returned (.string ⟨(frameL ss).toArray⟩) ∧ Below w.heap.size w w' := by
  have hF := specFrameOk_any A cap ss w h hn ht
  rw [hok] at hF
  have HFO := Lib.hid hF
  have hfin : frameL ss = [] := by rw [frameL, if_neg (by rw [hok]; simp)]
  rw [hfin]
  clear hF hok hfin h hn
  go_enter Tryd.func29, Tryd.ntmps29
  go_wp2_with fail
  refine HFO.out.mono ?_
  rintro e w' ⟨rfl, rfl⟩
  go_wp2
  go_ret
  exact ⟨rfl, Below.refl _ _⟩
set_option maxHeartbeats 4000000 in
theorem specFramePut_yes (A : Option Addr) (cap : Nat) (ss : List ByteArray) (w : World) (h : Strs w A ss) (hok : frOk ss = true) :
    Calls Tryd.prog 29 #[.slice A ss.length cap] w fun e w' => e = .returned (.string ⟨(frameL ss).toArray⟩) ∧ Below w.heap.size w w' := by
  obtain ⟨⟨hn1, hn6⟩, htot⟩ := frOk_parts hok
  have HFO : Hid (∀ w : World, Strs w A ss → Calls Tryd.prog 56 #[.slice A ss.length cap] w fun e w' => e = .returned (.bool true) ∧ w = w') := Lib.hid (fun w h => by
    have := specFrameOk_any A cap ss w h (by omega) (by omega)
    rw [hok] at this; exact this)
  have hfin : frameL ss = leB ((ss.length : Int) - 1) 4 ++ numsL ss ++ fillL ss.length ++ bodyL ss := by rw [frameL, if_pos hok]
  have HF := Lib.hid hfin
  obtain ⟨a, rfl, hlt, hcells⟩ := h.2.resolve_left (by intro h0; rw [h0] at hn1; simp at hn1)
  have HCells := Lib.hid hcells
  have H := Lib.hid h
  clear hfin hok h hcells
  go_enter Tryd.func29, Tryd.ntmps29
  go_wp2_with fail
  refine (HFO.out _ H.out).mono ?_
  rintro e w' ⟨rfl, rfl⟩
  go_wp2_with fail
  refine (l1Bytes_any _ 4 _ (by decide) (by decide)).mono ?_
  rintro e w1 ⟨rfl, hb1⟩
  have HB := Lib.hid hb1
  clear hb1
  go_wp2_with fail
  go_loopw [3, 4] (fun o i wr => ∃ k : Nat, k ≤ ss.length ∧ i = .int .i64 k ∧ o = .string ⟨(leB ((ss.length : Int) - 1) 4 ++ numsL (ss.take k)).toArray⟩ ∧ Hid (Below w.heap.size w wr)) (fun _ i _ => ss.length - (intOf i).toNat)
  case atStart => exact ⟨0, by omega, rfl, by simp [numsL], HB.out⟩
  case round =>
    obtain ⟨k, hk, rfl, rfl, HR⟩ := hrel
    have hul : (⟨(leB ((ss.length : Int) - 1) 4 ++ numsL (ss.take k)).toArray⟩ : ByteArray).size = 4 + 4 * k := by
      rw [mk_size, List.length_append, leB_length, numsL_length, List.length_take, Nat.min_eq_left hk]
    by_cases hk1 : k < ss.length
    · have hc := (HR.out.cell (p := a.add k) (by rw [add_block]; exact hlt)).trans (HCells.out k hk1)
      have hsz := tot_get ss k hk1
      have hnt := numsL_take ss k hk1
      have HNT := Lib.hid hnt
      obtain ⟨s, hs⟩ : ∃ s, ss[k] = s := ⟨_, rfl⟩
      rw [hs] at hc hsz
      have HS := Lib.hid hs
      clear hnt hs
      have hcat := str_cat (leB ((ss.length : Int) - 1) 4 ++ numsL (ss.take k)) (leB ((s.size / 8 : Nat) : Int) 4)
      have HCat := Lib.hid hcat
      clear hcat
      generalize (⟨(leB ((ss.length : Int) - 1) 4 ++ numsL (ss.take k)).toArray⟩ : ByteArray) = u at hul HCat ⊢
      have hu1 : u.size ≤ 10000 := by omega
      clear hul
      go_wp2_with fail
      refine (l1Bytes_any _ 4 _ (by decide) (by decide)).mono ?_
      rintro e w3 ⟨rfl, hb3⟩
      have HB3 := Lib.hid (HR.out.trans (hb3.mono HR.out.size))
      clear hb3
      have e4 : ((s.size : Int) / 8) = ((s.size / 8 : Nat) : Int) := by omega
      rw [e4]
      have hz4 := sz4 ((s.size / 8 : Nat) : Int)
      have HV := HCat.out
      rw [show (4 : Int).toNat = 4 from rfl]
      generalize (⟨(leB ((s.size / 8 : Nat) : Int) 4).toArray⟩ : ByteArray) = v at hz4 HV ⊢
      have f1 : ¬ 9223372036854775807 < u.size + v.size := by omega
      have HVV := Lib.hid HV
      clear HV e4 HCat hz4
      go_wp2
      go_roundw
      case rel => exact ⟨k + 1, by omega, by go_num, by rw [HVV.out, HNT.out, HS.out, List.append_assoc], HB3.out⟩
      case measure => simp [intOf]; omega
    · obtain rfl : k = ss.length := by omega
      clear hk1 hk HB
      have hcat := str_cat (leB ((ss.length : Int) - 1) 4 ++ numsL ss) (leB 0 4)
      have HCat := Lib.hid hcat
      rw [List.take_length] at hul ⊢
      clear hcat
      generalize hue : (⟨(leB ((ss.length : Int) - 1) 4 ++ numsL ss).toArray⟩ : ByteArray) = u at hul HCat ⊢
      have HUE := Lib.hid hue.symm
      clear hue
      have hu1 : u.size ≤ 10000 := by omega
      by_cases hp : ss.length % 2 = 0
      · have hb : ((u.size : Int) % 8 != 0) = true := by rw [hul]; simp; omega
        clear hul
        go_wp2_with fail
        refine (l1Bytes_any _ 4 _ (by decide) (by decide)).mono ?_
        rintro e w3 ⟨rfl, hb3⟩
        have HW := Lib.hid (HR.out.trans (hb3.mono HR.out.size))
        clear hb3
        have hz4 := sz4 0
        have HV := HCat.out
        rw [show (4 : Int).toNat = 4 from rfl]
        generalize (⟨(leB 0 4).toArray⟩ : ByteArray) = v at hz4 HV ⊢
        have f1 : ¬ 9223372036854775807 < u.size + v.size := by omega
        have HM : Hid (u ++ v = ⟨(leB ((ss.length : Int) - 1) 4 ++ numsL ss ++ fillL ss.length).toArray⟩) := Lib.hid (by rw [HV, fillL, if_pos hp])
        clear HV hz4 HCat hb
        go_wp2_with fail
        go_loopw [3, 5] (fun o i wr => ∃ k : Nat, k ≤ ss.length ∧ i = .int .i64 k ∧ o = .string ⟨(leB ((ss.length : Int) - 1) 4 ++ numsL ss ++ fillL ss.length ++ bodyL (ss.take k)).toArray⟩ ∧ Hid (Below w.heap.size w wr)) (fun _ i _ => ss.length - (intOf i).toNat)
        case atStart => exact ⟨0, by omega, rfl, by rw [HM.out]; simp [bodyL], HW.out⟩
        case round =>
          obtain ⟨k, hk, rfl, rfl, HR2⟩ := hrel
          by_cases hk1 : k < ss.length
          · have hul2 : (⟨(leB ((ss.length : Int) - 1) 4 ++ numsL ss ++ fillL ss.length ++ bodyL (ss.take k)).toArray⟩ : ByteArray).size ≤ 10000 := by
              have h1 := bodyL_length (ss.take k)
              have h2 := tot_take_le ss k
              have h3 := fillL_length ss.length
              have h4 := numsL_length ss
              rw [mk_size, List.length_append, List.length_append, List.length_append, leB_length]
              omega
            have hc := (HR2.out.cell (p := a.add k) (by rw [add_block]; exact hlt)).trans (HCells.out k hk1)
            have hsz := tot_get ss k hk1
            have hbt := bodyL_take ss k hk1
            have HBT := Lib.hid hbt
            obtain ⟨s, hs⟩ : ∃ s, ss[k] = s := ⟨_, rfl⟩
            rw [hs] at hc hsz
            have HS := Lib.hid hs
            clear hbt hs
            have hcat := cat_str (leB ((ss.length : Int) - 1) 4 ++ numsL ss ++ fillL ss.length ++ bodyL (ss.take k)) s
            have HCat := Lib.hid hcat
            clear hcat
            generalize (⟨(leB ((ss.length : Int) - 1) 4 ++ numsL ss ++ fillL ss.length ++ bodyL (ss.take k)).toArray⟩ : ByteArray) = x at hul2 HCat ⊢
            have f1 : ¬ 9223372036854775807 < x.size + s.size := by omega
            go_wp2
            go_roundw
            case rel => exact ⟨k + 1, by omega, by go_num, by rw [HCat.out, HBT.out, HS.out, List.append_assoc], HR2.out⟩
            case measure => simp [intOf]; omega
          · obtain rfl : k = ss.length := by omega
            have hfin : (⟨(leB ((ss.length : Int) - 1) 4 ++ numsL ss ++ fillL ss.length ++ bodyL (ss.take ss.length)).toArray⟩ : ByteArray) = ⟨(frameL ss).toArray⟩ := by rw [HF.out, List.take_length]
            rw [hfin]
            clear hfin
            go_wp2
            go_ret
            exact ⟨rfl, HR2.out⟩
      · have hb : ((u.size : Int) % 8 != 0) = false := by rw [hul]; simp; omega
        have HW := HR
        have HM : Hid (u = ⟨(leB ((ss.length : Int) - 1) 4 ++ numsL ss ++ fillL ss.length).toArray⟩) := Lib.hid (by rw [fillL, if_neg hp, List.append_nil]; exact HUE.out)
        clear hul HCat
        go_wp2_with fail
        go_loopw [3, 5] (fun o i wr => ∃ k : Nat, k ≤ ss.length ∧ i = .int .i64 k ∧ o = .string ⟨(leB ((ss.length : Int) - 1) 4 ++ numsL ss ++ fillL ss.length ++ bodyL (ss.take k)).toArray⟩ ∧ Hid (Below w.heap.size w wr)) (fun _ i _ => ss.length - (intOf i).toNat)
        case atStart => exact ⟨0, by omega, rfl, by rw [HM.out]; simp [bodyL], HW.out⟩
        case round =>
          obtain ⟨k, hk, rfl, rfl, HR2⟩ := hrel
          by_cases hk1 : k < ss.length
          · have hul2 : (⟨(leB ((ss.length : Int) - 1) 4 ++ numsL ss ++ fillL ss.length ++ bodyL (ss.take k)).toArray⟩ : ByteArray).size ≤ 10000 := by
              have h1 := bodyL_length (ss.take k)
              have h2 := tot_take_le ss k
              have h3 := fillL_length ss.length
              have h4 := numsL_length ss
              rw [mk_size, List.length_append, List.length_append, List.length_append, leB_length]
              omega
            have hc := (HR2.out.cell (p := a.add k) (by rw [add_block]; exact hlt)).trans (HCells.out k hk1)
            have hsz := tot_get ss k hk1
            have hbt := bodyL_take ss k hk1
            have HBT := Lib.hid hbt
            obtain ⟨s, hs⟩ : ∃ s, ss[k] = s := ⟨_, rfl⟩
            rw [hs] at hc hsz
            have HS := Lib.hid hs
            clear hbt hs
            have hcat := cat_str (leB ((ss.length : Int) - 1) 4 ++ numsL ss ++ fillL ss.length ++ bodyL (ss.take k)) s
            have HCat := Lib.hid hcat
            clear hcat
            generalize (⟨(leB ((ss.length : Int) - 1) 4 ++ numsL ss ++ fillL ss.length ++ bodyL (ss.take k)).toArray⟩ : ByteArray) = x at hul2 HCat ⊢
            have f1 : ¬ 9223372036854775807 < x.size + s.size := by omega
            go_wp2
            go_roundw
            case rel => exact ⟨k + 1, by omega, by go_num, by rw [HCat.out, HBT.out, HS.out, List.append_assoc], HR2.out⟩
            case measure => simp [intOf]; omega
          · obtain rfl : k = ss.length := by omega
            have hfin : (⟨(leB ((ss.length : Int) - 1) 4 ++ numsL ss ++ fillL ss.length ++ bodyL (ss.take ss.length)).toArray⟩ : ByteArray) = ⟨(frameL ss).toArray⟩ := by rw [HF.out, List.take_length]
            rw [hfin]
            clear hfin
            go_wp2
            go_ret
            exact ⟨rfl, HR2.out⟩
theorem specFramePut_any (A : Option Addr) (cap : Nat) (ss : List ByteArray) (w : World) (h : Strs w A ss) (hn : ss.length ≤ 1048576) (ht : tot ss ≤ 1099511627776) :
    Calls Tryd.prog 29 #[.slice A ss.length cap] w fun e w' => e = .returned (.string ⟨(frameL ss).toArray⟩) ∧ Below w.heap.size w w' := by
  cases hok : frOk ss
  · exact specFramePut_no A cap ss w h hn ht hok
  · exact specFramePut_yes A cap ss w h hok
end Go.Proofs.YtfiiopchfmcjdabDoor

/- The specification's draw of a frame to be read. -/
namespace Go.Proofs.YtfiiopchfmcjdabDoor
open Go.RowKit
end Go.Proofs.YtfiiopchfmcjdabDoor
