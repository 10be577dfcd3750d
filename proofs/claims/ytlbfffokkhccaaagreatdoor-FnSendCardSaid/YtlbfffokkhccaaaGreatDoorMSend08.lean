/- Texts of the proof of the law FnSend, side by side: part 8. -/
import Derived.Maps.AppendAt
import Derived.Test.YtlbfffokkhccaaaGreatDoorMSend07
set_option maxHeartbeats 8000000
set_option maxRecDepth 100000
namespace Go.Proofs.YtlbfffokkhccaaaGreatDoor
open Go.RowKit
theorem Picked.then {w w1 w2 : World} {R n m : Nat} (h : Picked w R n w1) (k : Picked w1 R m w2) : Picked w R m w2 := ⟨k.1, h.2.then h.2.size k.2⟩
theorem Picked.mono {w w1 : World} {R n m : Nat} (h : Picked w R n w1) (k : n ≤ m) : Picked w R m w1 := ⟨h.1.mono k, h.2⟩
theorem Picked.from {w0 w w1 : World} {R n : Nat} (hb : Below w0.heap.size w0 w) (h : Picked w R n w1) : Picked w0 R n w1 := ⟨h.1, (Keeps.of_below hb).then hb.size h.2⟩
theorem Picked.below {w w1 w2 : World} {R n : Nat} (h : Picked w R n w1) (hb : Below w1.heap.size w1 w2) : Picked w R n w2 := ⟨h.1.below hb, h.2.then h.2.size (Keeps.of_below hb)⟩
theorem Rd.self {w : World} {R n : Nat} (h : Rd w R n) : Picked w R n w := ⟨h, Keeps.refl _ _ _⟩
def Lits (w : World) (g : Nat) (vs : List Value) : Prop := g < w.heap.size ∧ ∀ i v, vs[i]? = some v → w.cell? ⟨g, i, none⟩ = some v
theorem Lits.keeps {w w' : World} {g R : Nat} {vs : List Value} (h : Lits w g vs) (hk : Keeps w.heap.size R w w') (hg : g ≠ R) : Lits w' g vs :=
 ⟨Nat.lt_of_lt_of_le h.1 hk.size, fun i v hi => (keeps_cell hk ⟨g, i, none⟩ h.1 hg).trans (h.2 i v hi)⟩
theorem Lits.new (w : World) (vs : Array Value) (t : TypeId) (fr : Nat × Nat) : Lits (w.alloc (.cells vs t fr)) w.heap.size vs.toList := by
 refine ⟨by simp, fun i v hi => ?_⟩
 rw [cell_of_row _ _ _ vs t fr (heap_alloc_new w _)]
 simpa using hi
def StrP (S : ByteArray → Prop) (R n : Nat) (w : World) (e : Ending) (w' : World) : Prop := ∃ u, S u ∧ e = .returned (.string u) ∧ Picked w R n w'
def IntP (S : Int → Prop) (R n : Nat) (w : World) (e : Ending) (w' : World) : Prop := ∃ v, S v ∧ e = .returned (.int .i64 v) ∧ Picked w R n w'
def Opened (w : World) (e : Ending) (w' : World) : Prop := ∃ R, e = .returned (.pointer (some ⟨R, 0, none⟩)) ∧ w.heap.size ≤ R ∧ Rd w' R 0 ∧ Below w.heap.size w w'
theorem opened_new (w : World) (a : Option Addr) (len cap : Nat) (h : Code w w.heap.size a len) : Rd (w.alloc (.cells #[.slice a len cap, .int .i64 0] 100)) w.heap.size 0 :=
 ⟨a, len, cap, 0, Nat.le_refl _, heap_alloc_new w _, h.keeps (R := w.heap.size) (Keeps.of_below ((Below.refl _ w).alloc (Nat.le_refl _) _)) (Nat.le_refl _) (Nat.le_refl _)⟩
theorem l1Open_any (a : Option Addr) (len cap : Nat) (w : World) (h : Code w w.heap.size a len) (hcap : len ≤ cap) (hnil : a = none → len = 0) :
 Calls Tryz.prog 29 #[.slice a len cap] w (Opened w) := by
 have hlen := h.1
 unfold maxLen at hlen
 have hb : ∀ x, Below w.heap.size w (w.alloc x) := fun x => (Below.refl _ w).alloc (Nat.le_refl _) x
 by_cases h1 : 2000 < len
 · have hn2 := opened_new w a 2000 cap ⟨by decide, h.2.elim (fun e => absurd e (by omega)) (fun ⟨x, e, hx, hc⟩ => .inr ⟨x, e, hx, fun i hi => hc i (by omega)⟩)⟩
   have HN := Lib.hid hn2
   have HB := Lib.hid hb
   clear hn2 hb
   obtain ⟨x, rfl⟩ : ∃ x, a = some x := by
    cases a with
    | none => exact absurd (hnil rfl) (by omega)
    | some x => exact ⟨x, rfl⟩
   clear hnil
   go_enter Tryz.func29, Tryz.ntmps29
   go_wp2
   go_ret
   exact ⟨w.heap.size, rfl, Nat.le_refl _, HN.out, HB.out _⟩
 · have hn2 := opened_new w a len cap h
   have HN := Lib.hid hn2
   have HB := Lib.hid hb
   have HI := Lib.hid hnil
   clear hn2 hb hnil
   go_enter Tryz.func29, Tryz.ntmps29
   go_wp2
   go_ret
   exact ⟨w.heap.size, rfl, Nat.le_refl _, HN.out, HB.out _⟩
theorem of_any (R n g len cap : Nat) (S : ByteArray → Prop) (vs : List Value) (w : World) (h : Rd w R n) (hn : n ≤ 1000000) (hl : Lits w g vs) (hS : ∀ v ∈ vs, ∃ x, v = .string x ∧ S x) (hg : g ≠ R) (hlen : vs.length = len) (hp : 0 < len) (h1 : len ≤ 1000) :
 Calls Tryz.prog 67 #[.pointer (some ⟨R, 0, none⟩), .slice (some ⟨g, 0, none⟩) len cap] w (StrP S R (n + 1) w) := by
 have HL := Lib.hid hlen
 have HS := Lib.hid hS
 clear hlen hS
 go_enter Tryz.func67, Tryz.ntmps67
 go_wp2_with fail
 refine (pick_any R n _ _ h hn).mono ?_
 rintro e w1 ⟨v, ⟨hv0, hv1⟩, rfl, hpk⟩
 have hv : v < len := by omega
 obtain ⟨k, rfl⟩ := Int.eq_ofNat_of_zero_le hv0
 have hk : k < vs.length := by rw [HL.out]; omega
 obtain ⟨x, hx, hm⟩ := HS.out vs[k] (List.getElem_mem hk)
 have hc : w1.cell? ⟨g, k, none⟩ = some (.string x) := (hl.keeps hpk.2 hg).2 k _ (by rw [List.getElem?_eq_getElem hk, hx])
 clear hk hv1 hx
 go_wp2
 go_ret
 exact ⟨x, hm, rfl, hpk⟩
def repL (l : List UInt8) : Nat → List UInt8
 | 0 => []
 | k + 1 => l ++ repL l k
theorem repL_length (l : List UInt8) : ∀ k, (repL l k).length = l.length * k
 | 0 => rfl
 | k + 1 => by rw [repL, List.length_append, repL_length l k, Nat.mul_succ]; omega
theorem repL_two (l : List UInt8) : ∀ k, repL (l ++ l) k = repL l (2 * k)
 | 0 => rfl
 | k + 1 => by rw [repL, repL_two l k, show 2 * (k + 1) = 2 * k + 1 + 1 by omega, repL, repL, List.append_assoc]
theorem repL_even (v u s : List UInt8) (m N : Nat) (h : v ++ repL u m = repL s N) (he : m % 2 = 0) : v ++ repL (u ++ u) (m / 2) = repL s N := by
 rw [repL_two, show 2 * (m / 2) = m by omega, h]
theorem repL_odd (v u s : List UInt8) (m N : Nat) (h : v ++ repL u m = repL s N) (he : ¬ m % 2 = 0) : (v ++ u) ++ repL (u ++ u) (m / 2) = repL s N := by
 rw [repL_two, List.append_assoc, ← h]
 have e : repL u m = repL u (2 * (m / 2) + 1) := by rw [show 2 * (m / 2) + 1 = m by omega]
 rw [e, repL]
theorem rep_size (v u s : ByteArray) (m N : Nat) (h : v.data.toList ++ repL u.data.toList m = repL s.data.toList N) (hm : 1 ≤ m) : v.size + u.size ≤ s.size * N := by
 have h1 := congrArg List.length h
 rw [List.length_append, repL_length, repL_length] at h1
 simp only [Array.length_toList, ByteArray.size_data] at h1
 have h2 : u.size * 1 ≤ u.size * m := Nat.mul_le_mul_left _ hm
 omega
theorem app_ba (a b : ByteArray) : (a ++ b).data.toList = a.data.toList ++ b.data.toList := by simp
theorem ret_s {a b : ByteArray} (h : a.data.toList = b.data.toList) : Ending.returned (.string a) = .returned (.string b) := by rw [ext_ba h]
theorem l1Many_any (s : ByteArray) (n : Int) (w : World) (h0 : 0 ≤ n) (hn : n ≤ 10000000) (hs : s.size ≤ 10000000) (hsn : s.size * n.toNat ≤ 10000000) :
 Calls Tryz.prog 68 #[.string s, .int .i64 n] w fun e w' => e = .returned (.string ⟨(repL s.data.toList n.toNat).toArray⟩) ∧ w = w' := by
 obtain ⟨N, rfl⟩ := Int.eq_ofNat_of_zero_le h0
 rw [Int.toNat_natCast] at hsn ⊢
 go_enter Tryz.func68, Tryz.ntmps68
 go_wp2
 go_loop [0, 1, 5] (fun t k o => ∃ (m : Nat) (u v : ByteArray), t = .string u ∧ k = .int .i64 m ∧ o = .string v ∧ m ≤ N ∧ u.size ≤ 20000000 ∧ Hid (v.data.toList ++ repL u.data.toList m = repL s.data.toList N)) (fun _ k _ => (intOf k).toNat)
 case atStart => exact ⟨N, s, ByteArray.empty, rfl, rfl, rfl, by omega, by omega, by exact List.nil_append _⟩
 case round =>
  obtain ⟨m, u, v, rfl, rfl, rfl, hm, hu, HE⟩ := hrel
  by_cases hm0 : m = 0
  · subst hm0
    go_wp2
    go_ret
    refine ⟨ret_s ?_, rfl⟩
    rw [← HE.out, repL, List.append_nil]
  · have hm1 : 1 ≤ m := by omega
    have hsz := rep_size v u s m N HE.out hm1
    have f1 : ¬ 9223372036854775807 < v.size + u.size := by omega
    have f2 : ¬ 9223372036854775807 < u.size + u.size := by omega
    have hu2 : (u ++ u).size ≤ 20000000 := by simp; omega
    by_cases ho : m % 2 = 0
    · have hb : ((m : Int) % 2 == 1) = false := by simp; omega
      have hE2 : v.data.toList ++ repL (u ++ u).data.toList (m / 2) = repL s.data.toList N := by rw [app_ba]; exact repL_even _ _ _ _ _ HE.out ho
      have HE2 := Lib.hid hE2
      clear hE2 ho
      go_wp2
      go_round
      case rel => exact ⟨m / 2, _, _, rfl, by go_num, rfl, by omega, hu2, HE2⟩
      case measure => simp [intOf]; omega
    · have hb : ((m : Int) % 2 == 1) = true := by simp; omega
      have hE2 : (v ++ u).data.toList ++ repL (u ++ u).data.toList (m / 2) = repL s.data.toList N := by rw [app_ba, app_ba]; exact repL_odd _ _ _ _ _ HE.out ho
      have HE2 := Lib.hid hE2
      clear hE2 ho
      go_wp2
      go_round
      case rel => exact ⟨m / 2, _, _, rfl, by go_num, rfl, by omega, hu2, HE2⟩
      case measure => simp [intOf]; omega
theorem size46 : (Tryz.prog.info? 87).map (·.size) = some 8 := by kernel_rfl
theorem size5 : (Tryz.prog.info? 5).map (·.size) = some 1 := by kernel_rfl
theorem info5 : (Tryz.prog.info? 5).map (fun i => (i.zero, i.size, i.bytes)) = some (some (.int .u8 0), 1, 1) := by kernel_rfl
theorem l1Bytes_any (n size : Int) (w : World) (h0 : 0 ≤ size) (h1 : size ≤ 1000000) :
 Calls Tryz.prog 99 #[.int .i64 n, .int .i64 size] w fun e w' => e = .returned (.string ⟨(leB n size.toNat).toArray⟩) ∧ Below w.heap.size w w' := by
 obtain ⟨z, rfl⟩ := Int.eq_ofNat_of_zero_le h0
 obtain ⟨i0, hi, hz0, hz1, hz2⟩ := info_parts info5
 go_enter Tryz.func99, Tryz.ntmps99
 go_wp2
 go_loopw [0, 5, 6] (fun m v i wr => ∃ k : Nat, k ≤ z ∧ i = .int .i64 k ∧ m = .int .i64 (shr8 n k) ∧ Hid (wr.ownsRow w.heap.size 5 1 v k (Lib.byteCells (leB n k))) ∧ Hid (Below w.heap.size w wr)) (fun _ _ i _ => (z - intOf i).toNat)
 case atStart => exact ⟨0, by omega, rfl, rfl, World.ownsRow_made w #[] 0 (Nat.le_refl _) (by decide) rfl, (Below.refl _ _).alloc (Nat.le_refl _) _⟩
 case round =>
  obtain ⟨k, hk, rfl, rfl, hown, HB⟩ := hrel
  by_cases hlt : k < z
  · have hb : Hid (∀ b : Int, b = ((UInt8.ofNat (shr8 n k % 256).toNat).toNat : Int) → Lib.byteCells (leB n k) ++ [.int .u8 b] = Lib.byteCells (leB n (k + 1))) := fun b hb => by rw [hb, byteCells_snoc', ← leB_snoc]
    go_wp2_with (at_builtin; go_must (refine wpList_append_own _ rfl (.tmp 13) (.tmp 16) 22 rfl w.heap.size 5 i0 (.int .u8 0) 1 1 Tryz.underlying22 hi hz0 hz1 hz2 rfl (by decide) u5 _ _ rfl (hown.out.alloc _) ⟨wr.heap.size, 0, none⟩ 1 1 [_] rfl rfl (cell_one_new _ _ _) (by simp [Value.oneCell']) (by unfold maxLen; omega) (by omega) (by have := HB.out.size; simp; omega) ?_); intro v' w1 hown' hgrow _)
    have hrel' : w1.ownsRow w.heap.size 5 1 v' (k + 1) (Lib.byteCells (leB n (k + 1))) := by rw [← hb.out _ (ofNat_toNat_u8 _).symm]; exact hown'
    have hB' : Below w.heap.size w w1 := below_append HB.out HB.out.size hown.out hgrow
    go_roundw
    case rel => exact ⟨k + 1, by omega, by go_num, rfl, hrel', hB'⟩
    case measure => simp [intOf]; omega
  · obtain rfl : k = z := by omega
    have hcv := convert_own (P := Tryz.prog) wr 22 9 5 w.heap.size k (leB n k) u5 (leB_length n k) Tryz.underlying22 Tryz.underlying5 Tryz.underlying9 hown.out
    go_wp2
    go_ret
    exact ⟨by simp, HB.out⟩
theorem rep8 (l : List UInt8) (k : Nat) : (⟨(repL l k).toArray⟩ : ByteArray).size = l.length * k := by simp [ByteArray.size, repL_length]
theorem l13Word_any (R n : Nat) (w : World) (h : Rd w R n) (hn : n ≤ 999000) :
 Calls Tryz.prog 156 #[.pointer (some ⟨R, 0, none⟩)] w (StrP (fun u => u.size = 8) R (n + 3) w) := by
 go_enter Tryz.func156, Tryz.ntmps156
 go_wp2_with (go_at_call 68; go_must (refine (l1Many_any _ _ _ (by decide) (by decide) (by decide) (by decide)).mono ?_); rintro e w' ⟨rfl, rfl⟩)
 refine (pick_any R n _ _ h (by omega)).mono ?_
 rintro e w1 ⟨v, ⟨hv0, hv1⟩, rfl, hp1⟩
 have hv : v ≤ 255 := by omega
 clear hv1
 go_wp2_with fail
 refine (pick_any R (n + 1) _ _ hp1.1 (by omega)).mono ?_
 rintro e w2 ⟨u, ⟨hu0, hu1⟩, rfl, hp2⟩
 have hu : u ≤ 255 := by omega
 clear hu1
 go_wp2_with fail
 refine (l1Bytes_any _ 8 _ (by decide) (by decide)).mono ?_
 rintro e w3 ⟨rfl, hb3⟩
 go_wp2_with fail
 have hp3 : Picked w R (n + 2) w3 := (hp1.then hp2).below hb3
 have hR := hp3.1.lt
 refine (of_any R (n + 2) w3.heap.size 8 8 (fun u => u.size = 8) _ _ (by exact hp3.1.below ((Below.refl _ _).alloc (Nat.le_refl _) _)) (by omega) (by exact Lits.new _ _ _ _) (by
  intro v hv
  simp at hv
  rcases hv with rfl | rfl | rfl | rfl | rfl | rfl | rfl
  all_goals exact ⟨_, rfl, by simp [ByteArray.size, repL_length, leB_length]⟩) (by omega) (by simp) (by omega) (by omega)).mono ?_
 rintro e w4 ⟨x, hx, rfl, hp4⟩
 go_wp2
 go_ret
 exact ⟨x, hx, rfl, (hp3.below ((Below.refl _ _).alloc (Nat.le_refl _) _)).then hp4⟩
theorem l13Words_any (R n : Nat) (most : Nat) (w : World) (h : Rd w R n) (hn : n ≤ 900000) (hm : most ≤ 10000) :
 Calls Tryz.prog 154 #[.pointer (some ⟨R, 0, none⟩), .int .i64 most] w (StrP (fun u => ∃ j, j ≤ most ∧ u.size = 8 * j) R (n + 1 + 3 * most) w) := by
 go_enter Tryz.func154, Tryz.ntmps154
 go_wp2_with fail
 refine (pick_any R n _ _ h (by omega)).mono ?_
 rintro e w1 ⟨v, ⟨hv0, hv1⟩, rfl, hp1⟩
 obtain ⟨q, rfl⟩ := Int.eq_ofNat_of_zero_le hv0
 have hq : q ≤ most := by omega
 clear hv1
 go_wp2_with fail
 go_loopw [5, 6] (fun o i wr => ∃ (j m : Nat) (u : ByteArray), o = .string u ∧ i = .int .i64 m ∧ j + m = q ∧ Hid (u.size = 8 * j) ∧ Hid (Picked w R (n + 1 + 3 * j) wr)) (fun _ i _ => (intOf i).toNat)
 case atStart => exact ⟨0, q, ByteArray.empty, rfl, rfl, by omega, rfl, hp1⟩
 case round =>
  obtain ⟨j, m, u, rfl, rfl, hjm, HU, HP⟩ := hrel
  have hu := HU.out
  have HJ := Lib.hid hjm
  have hjq : j + m ≤ q := by omega
  have hul : u.size ≤ 80000 := by omega
  clear hu hjm
  by_cases h0 : m = 0
  · subst h0
    go_wp2
    go_ret
    exact ⟨u, ⟨j, by omega, HU.out⟩, rfl, HP.out.mono (by omega)⟩
  · have h1 : 1 ≤ m := by omega
    go_wp2_with fail
    refine (l13Word_any R (n + 1 + 3 * j) _ HP.out.1 (by omega)).mono ?_
    rintro e w2 ⟨x, hx, rfl, hp2⟩
    have f1 : ¬ 9223372036854775807 < u.size + x.size := by omega
    have hs : (u ++ x).size = 8 * (j + 1) := by have := HU.out; simp; omega
    have hp : Picked w R (n + 1 + 3 * (j + 1)) w2 := HP.out.then (hp2.mono (by omega))
    have HX := Lib.hid hx
    have HS := Lib.hid hs
    clear hx hs
    go_wp2
    go_roundw
    case rel => exact ⟨j + 1, m - 1, _, rfl, by go_num, by have := HJ.out; omega, HS, hp⟩
    case measure => simp [intOf]; omega
theorem one_any (R n g len cap : Nat) (S : Int → Prop) (vs : List Value) (w : World) (h : Rd w R n) (hn : n ≤ 1000000) (hl : Lits w g vs) (hS : ∀ v ∈ vs, ∃ x, v = .int .i64 x ∧ S x) (hg : g ≠ R) (hlen : vs.length = len) (hp : 0 < len) (h1 : len ≤ 1000) :
 Calls Tryz.prog 31 #[.pointer (some ⟨R, 0, none⟩), .slice (some ⟨g, 0, none⟩) len cap] w (IntP S R (n + 1) w) := by
 have HL := Lib.hid hlen
 have HS := Lib.hid hS
 clear hlen hS
 go_enter Tryz.func31, Tryz.ntmps31
 go_wp2_with fail
 refine (pick_any R n _ _ h hn).mono ?_
 rintro e w1 ⟨v, ⟨hv0, hv1⟩, rfl, hpk⟩
 have hv : v < len := by omega
 obtain ⟨k, rfl⟩ := Int.eq_ofNat_of_zero_le hv0
 have hk : k < vs.length := by rw [HL.out]; omega
 obtain ⟨x, hx, hm⟩ := HS.out vs[k] (List.getElem_mem hk)
 have hc : w1.cell? ⟨g, k, none⟩ = some (.int .i64 x) := (hl.keeps hpk.2 hg).2 k _ (by rw [List.getElem?_eq_getElem hk, hx])
 clear hk hv1 hx
 go_wp2
 go_ret
 exact ⟨x, hm, rfl, hpk⟩
theorem picked_storeN {w w1 : World} {R n b : Nat} (h : Picked w R n w1) (hR : R < w.heap.size) (hb : w.heap.size ≤ b) (i : Nat) (v : Value) : Picked w R n (w1.setCell ⟨b, i, none⟩ v) := by
 obtain ⟨⟨a, l, c, p, hp, hr, hc⟩, hk⟩ := h
 have hs := set_keeps w1.heap.size b w1 i v
 refine ⟨⟨a, l, c, p, hp, (hs.block R (row_lt hr) (by omega)).trans hr, hc.keeps hs (Nat.le_of_lt (row_lt hr)) (by omega)⟩, ?_⟩
 exact ⟨hs.os.trans hk.os, hs.tape.trans hk.tape, hs.output.trans hk.output, Nat.le_trans hk.size hs.size, fun k hk1 hk2 => (hs.block k (Nat.lt_of_lt_of_le hk1 hk.size) (by omega)).trans (hk.block k hk1 hk2)⟩
theorem store6 {w w1 : World} {R n b : Nat} {T : TypeId} {a0 a1 a2 a3 a4 a5 : Value} (h : w1.heap[b]? = some (.cells #[a0, a1, a2, a3, a4, a5] T (0, 0))) (hp : Picked w R n w1) (hR : R < w.heap.size) (hb : w.heap.size ≤ b) (v0 v1 v2 v3 v4 v5 : Value) :
 ∃ wf, ((((((w1.setCell ⟨b, 0, none⟩ v0).setCell ⟨b, 1, none⟩ v1).setCell ⟨b, 2, none⟩ v2).setCell ⟨b, 3, none⟩ v3).setCell ⟨b, 4, none⟩ v4).setCell ⟨b, 5, none⟩ v5) = wf ∧ wf.heap[b]? = some (.cells #[v0, v1, v2, v3, v4, v5] T (0, 0)) ∧ Picked w R n wf ∧ Upon (b + 1) w1 wf :=
 ⟨_, rfl, row_setN (row_setN (row_setN (row_setN (row_setN (row_setN h 0 v0) 1 v1) 2 v2) 3 v3) 4 v4) 5 v5, picked_storeN (picked_storeN (picked_storeN (picked_storeN (picked_storeN (picked_storeN hp hR hb 0 v0) hR hb 1 v1) hR hb 2 v2) hR hb 3 v3) hR hb 4 v4) hR hb 5 v5,
  ((((((Upon.refl (b + 1) w1).setCell (p := ⟨b, 0, none⟩) (by simp) v0).setCell (p := ⟨b, 1, none⟩) (by simp) v1).setCell (p := ⟨b, 2, none⟩) (by simp) v2).setCell (p := ⟨b, 3, none⟩) (by simp) v3).setCell (p := ⟨b, 4, none⟩) (by simp) v4).setCell (p := ⟨b, 5, none⟩) (by simp) v5⟩
theorem pick_rowN {w w1 : World} {R n b : Nat} {o : Obj} (h : w.heap[b]? = some o) (hp : Picked w R n w1) (hne : b ≠ R) : w1.heap[b]? = some o := (hp.2.block b (row_lt h) hne).trans h
def SB (T : Nat) (n : Nd) : Prop := (T ≤ 259259 → n.data.size ≤ 1100) ∧ (n.kind = 2 → n.data.size ≤ 1592) ∧ n.items.length ≤ 1000
def TB (M : Nat) (n : Nd) (T : Nat) : Prop := totN M n ≤ T ∧ SB T n
theorem SB.mono {T T' : Nat} {n : Nd} (h : SB T n) (hT : T ≤ T') : SB T' n := ⟨fun h' => h.1 (Nat.le_trans hT h'), h.2⟩
theorem SB.small {T : Nat} {n : Nd} (h : n.data.size ≤ 1100) (hi : n.items.length ≤ 1000) : SB T n := ⟨fun _ => h, fun _ => Nat.le_trans h (by decide), hi⟩
def NdP (M T : Nat) (R k : Nat) (w : World) (e : Ending) (w' : World) : Prop := ∃ (n : Nd) (h : Hd), e = .returned (.agg #[.int .i64 n.kind, .string n.data, .slice h.A n.ptrs.length h.a, .int .i64 n.size, .int .i64 n.count, .slice h.B n.items.length h.b]) ∧ NdAt w' (FromC w' w.heap.size) M n h ∧ TB M n T ∧ Picked w R k w'
theorem l13List_any (R n : Nat) (w : World) (h : Rd w R n) (hn : n ≤ 800000) :
 Calls Tryz.prog 114 #[.pointer (some ⟨R, 0, none⟩)] w (NdP 0 1001 R (n + 40) w) := by
 have hRw := h.lt
 have hq0 := h.self.below ((Below.refl w.heap.size w).alloc (Nat.le_refl _) (.cells #[.int .i64 0, .string { data := #[] }, .slice none 0 0, .int .i64 0, .int .i64 0, .slice none 0 0] nodeT))
 have hr0 := heap_alloc_new w (.cells #[.int .i64 0, .string { data := #[] }, .slice none 0 0, .int .i64 0, .int .i64 0, .slice none 0 0] nodeT)
 have HQ0 := Lib.hid hq0
 have HR0 := Lib.hid hr0
 clear h hq0 hr0
 go_enter Tryz.func114, Tryz.ntmps114
 go_wp2_with fail
 refine (pick_any R n _ _ HQ0.out.1 (by omega)).mono ?_
 rintro e w1 ⟨s, ⟨hs0, hs1⟩, rfl, hp1⟩
 have HQ1 := Lib.hid (HQ0.out.then hp1)
 have HR1 := Lib.hid (pick_rowN HR0.out hp1 (by omega))
 have hs5 : s ≤ 5 := by omega
 clear hp1 hs1
 go_wp2_with fail
 refine (pick_any R (n + 1) _ _ HQ1.out.1 (by omega)).mono ?_
 rintro e w2 ⟨c, ⟨hc0, hc1⟩, rfl, hp2⟩
 have HQ2 := Lib.hid (HQ1.out.then hp2)
 have HR2 := Lib.hid (pick_rowN HR1.out hp2 (by omega))
 have hc11 : c ≤ 11 := by omega
 clear hp2 hc1
 have hq3 := HQ2.out.below ((Below.refl w2.heap.size w2).alloc (Nat.le_refl _) (.cells #[.int .i64 2, .string { data := #[] }, .slice none 0 0, .int .i64 s, .int .i64 c, .slice none 0 0] nodeT))
 have HQ3 := Lib.hid hq3
 have HB3 := Lib.hid (heap_alloc_new w2 (.cells #[.int .i64 2, .string { data := #[] }, .slice none 0 0, .int .i64 s, .int .i64 c, .slice none 0 0] nodeT))
 have hlt2 := row_lt HR2.out
 have hwl2 := HQ2.out.2.size
 have hRl := HQ2.out.1.lt
 have HR3 := Lib.hid ((Below.heap_alloc w2 (.cells #[.int .i64 2, .string { data := #[] }, .slice none 0 0, .int .i64 s, .int .i64 c, .slice none 0 0] nodeT) _ hlt2).trans HR2.out)
 clear hq3
 go_wp2_with fail
 refine (l13Words_any R (n + 2) 12 _ HQ3.out.1 (by omega) (by decide)).mono ?_
 rintro e w4 ⟨u, ⟨j, hj, hju⟩, rfl, hp4⟩
 have HQ4 := Lib.hid (HQ3.out.then hp4)
 have hr4 := pick_rowN HR3.out hp4 (by omega)
 have hb4 := pick_rowN HB3.out hp4 (by omega)
 have HR4 := Lib.hid hr4
 have HB4 := Lib.hid hb4
 have HJ := Lib.hid hju
 obtain ⟨c0, c1, c2, c3, c4, c5⟩ := cells6 hb4
 clear hp4 hju hr4 hb4
 go_wp2_with fail
 refine (l1Many_any ⟨#[5]⟩ 96 _ (by decide) (by decide) (by decide) (by decide)).mono ?_
 rintro e w5 ⟨rfl, rfl⟩
 have hrs : (⟨(repL (⟨#[5]⟩ : ByteArray).data.toList (Int.toNat 96)).toArray⟩ : ByteArray).size = 96 := by rw [rep8]; rfl
 generalize (⟨(repL (⟨#[5]⟩ : ByteArray).data.toList (Int.toNat 96)).toArray⟩ : ByteArray) = rp at *
 have hts : (u ++ rp).size = 8 * j + 96 := by rw [getD_size, HJ.out, hrs]
 have f1 : ¬ 9223372036854775807 < u.size + rp.size := by have := HJ.out; omega
 have HTX := Lib.hid hts
 clear hrs hts
 go_wp2_with fail
 have hts := HTX.out
 generalize u ++ rp = tx at *
 refine (l4Cut_a tx s c _ hs0 hs5 hc0 hc11 (by omega) (by omega)).mono ?_
 rintro e w6 ⟨dd, hdd, rfl, hb6⟩
 have HQ6 := Lib.hid (HQ4.out.below hb6)
 have hr6 := (hb6.block _ (row_lt HR4.out)).trans HR4.out
 have hx6 := (hb6.block _ (row_lt HB4.out)).trans HB4.out
 have HX6 := Lib.hid hx6
 have HR6 := Lib.hid hr6
 have HDD := Lib.hid hdd
 clear c0 c1 c2 c3 c4 c5 hts f1 hb6 hdd
 obtain ⟨c0, c1, c2, c3, c4, c5⟩ := cells6 hx6
 have cf := row_free hx6
 have hz0 : ∀ v k, (w6.setCell ⟨w2.heap.size, 1, none⟩ v).cell? ⟨w.heap.size, k, none⟩ = (#[.int .i64 0, .string { data := #[] }, .slice none 0 0, .int .i64 0, .int .i64 0, .slice none 0 0] : Array Value)[k]? := fun v k => cell_of_row _ _ _ _ _ _ ((Below.heap_setCell w6 ⟨w2.heap.size, 1, none⟩ v w.heap.size (by simp; omega)).trans hr6)
 have hzf : ∀ v k, (w6.setCell ⟨w2.heap.size, 1, none⟩ v).frozen? ⟨w.heap.size, k, none⟩ = false := fun v k => row_free ((Below.heap_setCell w6 ⟨w2.heap.size, 1, none⟩ v w.heap.size (by simp; omega)).trans hr6) k
 clear hx6 hr6
 go_wp2_with fail
 obtain ⟨wf, hwf, hrw, hpw, huw⟩ := store6 (w1 := w6.setCell ⟨w2.heap.size, 1, none⟩ (.string dd)) (b := w.heap.size) ((Below.heap_setCell w6 ⟨w2.heap.size, 1, none⟩ (.string dd) w.heap.size (by simp; omega)).trans HR6.out) (picked_storeN HQ6.out hRw (by omega) 1 (.string dd)) hRw (Nat.le_refl _) (.int .i64 2) (.string dd) (.slice none 0 0) (.int .i64 s) (.int .i64 c) (.slice none 0 0)
 rw [hwf]
 obtain ⟨e0, e1, e2, e3, e4, e5⟩ := cells6 hrw
 exact bodyPost_ret (v := .agg #[.int .i64 2, .string dd, .slice none 0 0, .int .i64 s, .int .i64 c, .slice none 0 0])
  (by simp [results, Tryz.results114, go_sem, e0, e1, e2, e3, e4, e5]) rfl
  ⟨.mk 2 dd [] s c [], ⟨none, 0, none, 0⟩, rfl, ⟨by show dd.size ≤ maxLen; have := HDD.out; unfold maxLen; omega, rfl, rfl⟩, ⟨by show dd.size + 0 + 0 ≤ 1001; exact HDD.out, SB.small (by show dd.size ≤ 1100; have := HDD.out; omega) (show (0 : Nat) ≤ 1000 by decide)⟩, hpw.mono (by omega)⟩
theorem NdsAt.map' {w w' : World} {S S' : Nat → Prop} (hS : ∀ k, k < w.heap.size → S k → S' k) (hf : ∀ p n h, S p.block → NdCell w p n h → NdCell w' p n h) : ∀ m A l, NdsAt w S m A l → NdsAt w' S' m A l
 | 0, _, _, h => h
 | m + 1, A, l, ⟨hl, q, hq, hc, hr⟩ => by
   refine ⟨hl, q, hq, ?_, fun r h => ⟨(hr r h).1, NdsAt.map' hS hf m _ _ (hr r h).2.1, NdsAt.map' hS hf m _ _ (hr r h).2.2⟩⟩
   rcases hc with hc | ⟨x, hx, hs, hk⟩
   · exact .inl hc
   · cases q with
     | nil => exact .inl rfl
     | cons r t =>
      have hlt := (hk 0 r rfl).lt
      rw [addr_block] at hlt
      exact .inr ⟨x, hx, hS _ hlt hs, fun k r' h => hf _ _ _ (by rw [addr_block]; exact hs) (hk k r' h)⟩
theorem NdAt.map' {w w' : World} {S S' : Nat → Prop} {m : Nat} {n : Nd} {h : Hd} (hS : ∀ k, k < w.heap.size → S k → S' k) (hf : ∀ p n h, S p.block → NdCell w p n h → NdCell w' p n h) (hn : NdAt w S m n h) : NdAt w' S' m n h := ⟨hn.1, NdsAt.map' hS hf _ _ _ hn.2.1, NdsAt.map' hS hf _ _ _ hn.2.2⟩
theorem own_pickedN {w w' : World} {R n base m z : Nat} {e : TypeId} {v : Value} {xs : List Value} (h : w.ownsRow base e z v m xs) (hp : Picked w R n w') (hR : R < base) : w'.ownsRow base e z v m xs := by
 refine h.kept (row := some R) ⟨hp.2.os, hp.2.tape, hp.2.output, hp.2.size, fun k hk hne => hp.2.block k hk (fun e => hne (by rw [e]))⟩ ?_
 by_cases hv : v.ownBlock = none
 · exact .inl hv
 · refine .inr (fun e => ?_)
   have := (h.lt R (by rw [e])).1
   omega
theorem step_append_nd {ops : Array Oper} {o : Oper} {a : Act} {w : World} {K : Act → World → Prop} {Q : Exit → Act → World → Prop} {E : Prop} (hgd : o.guard = none) (s x : Operand)
 (ho : o.op = .call { callee := .builtin .append, args := #[s, x], argTypes := #[nodesT, nodesT] })
 (base : Nat) (v : Value) (n : Nat) (xs : List Value) (hs : a.eval s = v) (hown : w.ownsRow base nodeT 6 v n xs)
 (ad : Addr) (c : Nat) (r : Nd × Hd) (hx : a.eval x = .slice (some ad) 1 c) (hnews : ∀ j u, (rowOf [r])[j]? = some u → w.cell? (ad.add j) = some u) (hn : n ≤ 1000) (hbase : base ≤ w.heap.size)
 (h : ∀ A' c' w', Hid (w'.ownsRow base nodeT 6 (.slice A' (n + 1) c') (n + 1) (xs ++ rowOf [r])) → Hid (w.grownBy w' v.ownBlock) → Hid ((Value.slice A' (n + 1) c').ownBlock = v.ownBlock ∨ (Value.slice A' (n + 1) c').ownBlock = some w.heap.size) → K (a.put o.dst (.slice A' (n + 1) c')) w') :
 if Region.wanted o (yielded ops a.tmps) = true then Oper.wp Tryz.prog o a w K Q else E := by
 have hw : Region.wanted o (yielded ops a.tmps) = true := by simp [Region.wanted, hgd]
 rw [if_pos hw]
 obtain ⟨i0, hi, hz0, hz1, hz2⟩ := info_parts infoNd
 obtain ⟨v', w', hr, h2, h3, _, h5⟩ := run_append_own_at (P := Tryz.prog) w base nodesT o.type nodeT i0 _ 6 88 Tryz.underlying23 hi hz0 hz1 hz2 rfl (by decide) v n xs hown ad 1 c (rowOf [r]) rfl hnews (rowOf_one _) (by unfold maxLen; omega) (by omega) hbase
 obtain ⟨A', c', rfl⟩ := own_sliceN h2
 unfold Oper.wp execOp
 simp only [ho, resolve, invoke, builtin, Sem.run_bind, Sem.run_pure, Result.andThen_ok, List.map_toArray, List.map_cons, List.map_nil, hs, hx, hr]
 exact h A' c' w' h2 h3 h5
theorem cells_six_new (w : World) (r : Nd × Hd) (t : TypeId) : ∀ j u, (rowOf [r])[j]? = some u → (w.alloc (.cells #[.int .i64 r.1.kind, .string r.1.data, .slice r.2.A r.1.ptrs.length r.2.a, .int .i64 r.1.size, .int .i64 r.1.count, .slice r.2.B r.1.items.length r.2.b] t)).cell? ((⟨w.heap.size, 0, none⟩ : Addr).add j) = some u := by
 intro j u hj
 rw [add_zero0, cell_of_row _ _ _ _ _ (0, 0) (heap_alloc_new w _)]
 simp only [rowOf] at hj
 match j, hj with
 | 0, hj => simpa using hj
 | 1, hj => simpa using hj
 | 2, hj => simpa using hj
 | 3, hj => simpa using hj
 | 4, hj => simpa using hj
 | 5, hj => simpa using hj
open Go.RowKit Go.Deep
def NRowC (w : World) (B : Nat) (v : Value) (q : List (Nd × Hd)) (M T : Nat) : Prop :=
 w.ownsRow B nodeT 6 v q.length (rowOf q) ∧ ∀ r ∈ q, NdAt w (fun k => FromC w B k ∧ some k ≠ v.ownBlock) M r.1 r.2 ∧ totN M r.1 ≤ T
theorem NRowC.nil (w : World) (B M T : Nat) : NRowC w B (.slice none 0 0) [] M T := ⟨World.ownsRow_nil _ _ _ _, fun r h => by cases h⟩
theorem NRowC.picked {w w' : World} {B M T R n : Nat} {v : Value} {q : List (Nd × Hd)} (h : NRowC w B v q M T) (hp : Picked w R n w') (hR : R < B) : NRowC w' B v q M T :=
 ⟨own_pickedN h.1 hp hR, fun r hr => ⟨(h.2 r hr).1.map' (fun k hk hs => ⟨⟨hs.1.1, clean_of hs.1.2 (hp.2.block k hk (by have := hs.1.1; omega))⟩, hs.2⟩) (fun p _ _ hs hc => hc.block (hp.2.block _ hc.lt (by have := hs.1.1; omega))), (h.2 r hr).2⟩⟩
theorem NRowC.store {w : World} {B M T g i : Nat} {u v : Value} {q : List (Nd × Hd)} (h : NRowC w B v q M T) (hg : g < B) : NRowC (w.setCell ⟨g, i, none⟩ u) B v q M T :=
 ⟨ownsRow_setCell_below h.1 hg u, fun r hr => ⟨(h.2 r hr).1.map' (fun k hk hs => ⟨⟨hs.1.1, clean_set hs.1.2 _ _⟩, hs.2⟩) (fun p _ _ hs hc => hc.block (Below.heap_setCell w ⟨g, i, none⟩ u _ (by have := hs.1.1; show p.block ≠ g; omega))), (h.2 r hr).2⟩⟩
theorem NRowC.drew {w : World} {B M T : Nat} {v : Value} {q : List (Nd × Hd)} (h : NRowC w B v q M T) : NRowC w.drew B v q M T :=
 ⟨h.1.drew, fun r hr => ⟨(h.2 r hr).1.below ⟨rfl, rfl, rfl, Nat.le_refl _, fun _ _ => rfl⟩, (h.2 r hr).2⟩⟩
theorem NRowC.low {w w' : World} {B M T : Nat} {v : Value} {q : List (Nd × Hd)} (h : NRowC w B v q M T) (hb : Below w.heap.size w w') : NRowC w' B v q M T :=
 ⟨h.1.kept (row := none) ⟨hb.os, hb.tape, hb.output, hb.size, fun k hk _ => hb.block k hk⟩ (by
  by_cases hv : v.ownBlock = none
  · exact .inl hv
  · exact .inr (fun e => hv e)), fun r hr => ⟨((h.2 r hr).1.below hb).weak (fun k hs => ⟨⟨hs.1.1, clean_low hs.1.2 hb⟩, hs.2⟩), (h.2 r hr).2⟩⟩
theorem NRowC.alloc {w : World} {B M T : Nat} {v : Value} {q : List (Nd × Hd)} (h : NRowC w B v q M T) (o : Obj) : NRowC (w.alloc o) B v q M T := h.low ((Below.refl _ _).alloc (Nat.le_refl _) o)
theorem NRowC.next {w3 w4 : World} {B H M T : Nat} {v v' : Value} {q : List (Nd × Hd)} {y : Nd} {hy : Hd} (h : NRowC w3 B v q M T) (hny : NdAt w3 (FromC w3 H) M y hy) (hty : totN M y ≤ T) (hBH : B ≤ H) (hvH : ∀ k, v.ownBlock = some k → k < H)
 (hown : w4.ownsRow B nodeT 6 v' (q.length + 1) (rowOf q ++ rowOf [(y, hy)])) (hgrow : w3.grownBy w4 v.ownBlock) (hat : v'.ownBlock = v.ownBlock ∨ v'.ownBlock = some w3.heap.size) : NRowC w4 B v' (q ++ [(y, hy)]) M T := by
 have hS : ∀ k, k < w3.heap.size → (FromC w3 B k ∧ some k ≠ v.ownBlock) → (FromC w4 B k ∧ some k ≠ v'.ownBlock) := fun k hk ⟨h1, h2⟩ => ⟨⟨h1.1, clean_of h1.2 (hgrow.block k hk h2)⟩, by
  rcases hat with h | h
  · rw [h]; exact h2
  · rw [h]; intro e; injection e with e; omega⟩
 refine ⟨by rw [List.length_append, rowOf_app]; exact hown, fun r hr => ?_⟩
 rcases List.mem_append.1 hr with hr | hr
 · exact ⟨(h.2 r hr).1.map' hS (fun p _ _ hs hc => hc.block (hgrow.block _ hc.lt hs.2)), (h.2 r hr).2⟩
 · obtain rfl := List.mem_singleton.1 hr
   have h1 : NdAt w3 (fun k => FromC w3 B k ∧ some k ≠ v.ownBlock) M y hy := hny.weak (fun k hk => ⟨⟨Nat.le_trans hBH hk.1, hk.2⟩, fun e => by have := hvH k e.symm; have := hk.1; omega⟩)
   exact ⟨h1.map' hS (fun p _ _ hs hc => hc.block (hgrow.block _ hc.lt hs.2)), hty⟩
theorem NRowC.nds {w : World} {B M T : Nat} {v : Value} {q : List (Nd × Hd)} (h : NRowC w B v q M T) (hq : q.length ≤ 1000000) : ∃ A cap, v = .slice A q.length cap ∧ NdsAt w (FromC w B) (M + 1) A (q.map (·.1)) ∧ totL (M + 1) (q.map (·.1)) ≤ q.length * (1 + T) := by
 obtain ⟨A, cap, hv, hn⟩ := nds_of_ownC h.1 (by unfold maxLen; omega) (fun r hr => (h.2 r hr).1.weak (fun _ h => h.1))
 refine ⟨A, cap, hv, hn, ?_⟩
 rw [totL_succ]
 have : ∀ q : List (Nd × Hd), (∀ r ∈ q, totN M r.1 ≤ T) → ((q.map (·.1)).map fun n => 1 + totN M n).sum ≤ q.length * (1 + T) := by
  intro q
  induction q with
  | nil => intro _; simp
  | cons a t ih =>
   intro hq
   have h1 := hq a List.mem_cons_self
   have h2 := ih (fun r hr => hq r (List.mem_cons_of_mem _ hr))
   simp only [List.map_cons, List.sum_cons, List.length_cons, Nat.add_mul]
   omega
 exact this q (fun r hr => (h.2 r hr).2)
end Go.Proofs.YtlbfffokkhccaaaGreatDoor
namespace Go.Proofs.YtlbfffokkhccaaaGreatDoor
open Go.RowKit
structure OnlyIn (bs : List Nat) (w w' : World) : Prop where
 os : w'.os = w.os
 tape : w'.tape = w.tape
 output : w'.output = w.output
 size : w.heap.size ≤ w'.heap.size
 block : ∀ k, k < w.heap.size → k ∉ bs → w'.heap[k]? = w.heap[k]?
end Go.Proofs.YtlbfffokkhccaaaGreatDoor
