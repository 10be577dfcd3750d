/- Texts of the proof of the law FnExactCanonPut, side by side: part 7. -/
import Derived.WalkKit
import Derived.WalkSpells
import Derived.WalkLawsBesides
import Derived.Deep.QuietTactic
import Derived.BigQuiet
import Derived.Lib.Hide
import Derived.Deep.RegionLaw
import Derived.Maps.AppendAt
import Derived.Test.YtbijfkpilncclaaGreatMExactCanonPut00
import Derived.Test.YtbijfkpilncclaaGreatMExactCanonPut01
import Derived.Test.YtbijfkpilncclaaGreatMExactCanonPut02
import Derived.Test.YtbijfkpilncclaaGreatMExactCanonPut03
import Derived.Test.YtbijfkpilncclaaGreatMExactCanonPut04
import Derived.Test.YtbijfkpilncclaaGreatMExactCanonPut05
import Derived.Test.YtbijfkpilncclaaGreatMExactCanonPut06
/- The specification's drawer: l1Open. -/
namespace Go.Proofs.YtbijfkpilncclaaGreat
open Go.RowKit
theorem Picked.then {w w1 w2 : World} {R n m : Nat} (h : Picked w R n w1) (k : Picked w1 R m w2) : Picked w R m w2 := ⟨k.1, h.2.then h.2.size k.2⟩
theorem Picked.mono {w w1 : World} {R n m : Nat} (h : Picked w R n w1) (k : n ≤ m) : Picked w R m w1 := ⟨h.1.mono k, h.2⟩
theorem Picked.from {w0 w w1 : World} {R n : Nat} (hb : Below w0.heap.size w0 w) (h : Picked w R n w1) : Picked w0 R n w1 := ⟨h.1, (Keeps.of_below hb).then hb.size h.2⟩
theorem Picked.below {w w1 w2 : World} {R n : Nat} (h : Picked w R n w1) (hb : Below w1.heap.size w1 w2) : Picked w R n w2 := ⟨h.1.below hb, h.2.then h.2.size (Keeps.of_below hb)⟩
theorem Rd.self {w : World} {R n : Nat} (h : Rd w R n) : Picked w R n w := ⟨h, Keeps.refl _ _ _⟩
/-- a row that holds these. -/
def Lits (w : World) (g : Nat) (vs : List Value) : Prop := g < w.heap.size ∧ ∀ i v, vs[i]? = some v → w.cell? ⟨g, i, none⟩ = some v
theorem Lits.keeps {w w' : World} {g R : Nat} {vs : List Value} (h : Lits w g vs) (hk : Keeps w.heap.size R w w') (hg : g ≠ R) : Lits w' g vs :=
  ⟨Nat.lt_of_lt_of_le h.1 hk.size, fun i v hi => (keeps_cell hk ⟨g, i, none⟩ h.1 hg).trans (h.2 i v hi)⟩
theorem Lits.new (w : World) (vs : Array Value) (t : TypeId) (fr : Nat × Nat) : Lits (w.alloc (.cells vs t fr)) w.heap.size vs.toList := by
  refine ⟨by simp, fun i v hi => ?_⟩
  rw [cell_of_row _ _ _ vs t fr (heap_alloc_new w _)]
  simpa using hi
/-- some text of such, the drawer gone on. -/
def StrP (S : ByteArray → Prop) (R n : Nat) (w : World) (e : Ending) (w' : World) : Prop := ∃ u, S u ∧ e = .returned (.string u) ∧ Picked w R n w'
def IntP (S : Int → Prop) (R n : Nat) (w : World) (e : Ending) (w' : World) : Prop := ∃ v, S v ∧ e = .returned (.int .i64 v) ∧ Picked w R n w'

/-- the drawer opened. -/
def Opened (w : World) (e : Ending) (w' : World) : Prop := ∃ R, e = .returned (.pointer (some ⟨R, 0, none⟩)) ∧ w.heap.size ≤ R ∧ Rd w' R 0 ∧ Below w.heap.size w w'
theorem opened_new (w : World) (a : Option Addr) (len cap : Nat) (h : Code w w.heap.size a len) : Rd (w.alloc (.cells #[.slice a len cap, .int .i64 0] 125)) w.heap.size 0 :=
  ⟨a, len, cap, 0, Nat.le_refl _, heap_alloc_new w _, h.keeps (R := w.heap.size) (Keeps.of_below ((Below.refl _ w).alloc (Nat.le_refl _) _)) (Nat.le_refl _) (Nat.le_refl _)⟩
set_option maxHeartbeats 1000000 in
theorem l1Open_any (a : Option Addr) (len cap : Nat) (w : World) (h : Code w w.heap.size a len) (hcap : len ≤ cap) (hnil : a = none → len = 0) :
    Calls Tryz.prog 50 #[.slice a len cap] w (Opened w) := by
  have hlen := h.1
  unfold maxLen at hlen
  have hb : ∀ x, Below w.heap.size w (w.alloc x) := fun x => (Below.refl _ w).alloc (Nat.le_refl _) x
  by_cases h1 : 2000 < len
  · have hn2 := opened_new w a 2000 cap ⟨by decide, h.2.elim (fun e => absurd e (by omega)) (fun ⟨x, e, hx, hc⟩ => .inr ⟨x, e, hx, fun i hi => hc i (by omega)⟩)⟩
    have HN := Lib.hid hn2
    have HB := Lib.hid hb
    clear hn2 hb
    obtain ⟨x, rfl⟩ : ∃ x, a = some x := by
      cases a with
      | none => exact absurd (hnil rfl) (by omega)
      | some x => exact ⟨x, rfl⟩
    clear hnil
    go_enter Tryz.func50, Tryz.ntmps50
    go_wp2
    go_ret
    exact ⟨w.heap.size, rfl, Nat.le_refl _, HN.out, HB.out _⟩
  · have hn2 := opened_new w a len cap h
    have HN := Lib.hid hn2
    have HB := Lib.hid hb
    have HI := Lib.hid hnil
    clear hn2 hb hnil
    go_enter Tryz.func50, Tryz.ntmps50
    go_wp2
    go_ret
    exact ⟨w.heap.size, rfl, Nat.le_refl _, HN.out, HB.out _⟩
end Go.Proofs.YtbijfkpilncclaaGreat

/- The specification's drawer: of. -/
namespace Go.Proofs.YtbijfkpilncclaaGreat
open Go.RowKit
set_option maxHeartbeats 1000000 in
theorem of_any (R n g len cap : Nat) (S : ByteArray → Prop) (vs : List Value) (w : World) (h : Rd w R n) (hn : n ≤ 1000000) (hl : Lits w g vs) (hS : ∀ v ∈ vs, ∃ x, v = .string x ∧ S x) (hg : g ≠ R) (hlen : vs.length = len) (hp : 0 < len) (h1 : len ≤ 1000) :
    Calls Tryz.prog 92 #[.pointer (some ⟨R, 0, none⟩), .slice (some ⟨g, 0, none⟩) len cap] w (StrP S R (n + 1) w) := by
  have HL := Lib.hid hlen
  have HS := Lib.hid hS
  clear hlen hS
  go_enter Tryz.func92, Tryz.ntmps92
  go_wp2_with fail
  refine (pick_any R n _ _ h hn).mono ?_
  rintro e w1 ⟨v, ⟨hv0, hv1⟩, rfl, hpk⟩
  have hv : v < len := by omega
  obtain ⟨k, rfl⟩ := Int.eq_ofNat_of_zero_le hv0
  have hk : k < vs.length := by rw [HL.out]; omega
  obtain ⟨x, hx, hm⟩ := HS.out vs[k] (List.getElem_mem hk)
  have hc : w1.cell? ⟨g, k, none⟩ = some (.string x) := (hl.keeps hpk.2 hg).2 k _ (by rw [List.getElem?_eq_getElem hk, hx])
  clear hk hv1 hx
  go_wp2
  go_ret
  exact ⟨x, hm, rfl, hpk⟩
end Go.Proofs.YtbijfkpilncclaaGreat

/- the specification's l1Many: a text n times. -/
namespace Go.Proofs.YtbijfkpilncclaaGreat
open Go.RowKit
def repL (l : List UInt8) : Nat → List UInt8
  | 0 => []
  | k + 1 => l ++ repL l k
theorem repL_length (l : List UInt8) : ∀ k, (repL l k).length = l.length * k
  | 0 => rfl
  | k + 1 => by rw [repL, List.length_append, repL_length l k, Nat.mul_succ]; omega
theorem repL_two (l : List UInt8) : ∀ k, repL (l ++ l) k = repL l (2 * k)
  | 0 => rfl
  | k + 1 => by rw [repL, repL_two l k, show 2 * (k + 1) = 2 * k + 1 + 1 by omega, repL, repL, List.append_assoc]
theorem repL_even (v u s : List UInt8) (m N : Nat) (h : v ++ repL u m = repL s N) (he : m % 2 = 0) : v ++ repL (u ++ u) (m / 2) = repL s N := by
  rw [repL_two, show 2 * (m / 2) = m by omega, h]
theorem repL_odd (v u s : List UInt8) (m N : Nat) (h : v ++ repL u m = repL s N) (he : ¬ m % 2 = 0) : (v ++ u) ++ repL (u ++ u) (m / 2) = repL s N := by
  rw [repL_two, List.append_assoc, ← h]
  have e : repL u m = repL u (2 * (m / 2) + 1) := by rw [show 2 * (m / 2) + 1 = m by omega]
  rw [e, repL]
theorem rep_size (v u s : ByteArray) (m N : Nat) (h : v.data.toList ++ repL u.data.toList m = repL s.data.toList N) (hm : 1 ≤ m) : v.size + u.size ≤ s.size * N := by
  have h1 := congrArg List.length h
  rw [List.length_append, repL_length, repL_length] at h1
  simp only [Array.length_toList, ByteArray.size_data] at h1
  have h2 : u.size * 1 ≤ u.size * m := Nat.mul_le_mul_left _ hm
  omega
theorem ba_size (s : ByteArray) : s.data.toList.length = s.size := by simp
theorem mk_size (l : List UInt8) : (⟨l.toArray⟩ : ByteArray).size = l.length := by simp [ByteArray.size]
theorem app_ba (a b : ByteArray) : (a ++ b).data.toList = a.data.toList ++ b.data.toList := by simp
theorem ret_s {a b : ByteArray} (h : a.data.toList = b.data.toList) : Ending.returned (.string a) = .returned (.string b) := by rw [ext_ba h]
set_option maxHeartbeats 1000000 in
theorem l1Many_any (s : ByteArray) (n : Int) (w : World) (h0 : 0 ≤ n) (hn : n ≤ 10000000) (hs : s.size ≤ 10000000) (hsn : s.size * n.toNat ≤ 10000000) :
    Calls Tryz.prog 54 #[.string s, .int .i64 n] w fun e w' => e = .returned (.string ⟨(repL s.data.toList n.toNat).toArray⟩) ∧ w = w' := by
  obtain ⟨N, rfl⟩ := Int.eq_ofNat_of_zero_le h0
  rw [Int.toNat_natCast] at hsn ⊢
  go_enter Tryz.func54, Tryz.ntmps54
  go_wp2
  go_loop [0, 1, 5] (fun t k o => ∃ (m : Nat) (u v : ByteArray), t = .string u ∧ k = .int .i64 m ∧ o = .string v ∧ m ≤ N ∧ u.size ≤ 20000000 ∧ Hid (v.data.toList ++ repL u.data.toList m = repL s.data.toList N)) (fun _ k _ => (intOf k).toNat)
  case atStart => exact ⟨N, s, ByteArray.empty, rfl, rfl, rfl, by omega, by omega, by exact List.nil_append _⟩
  case round =>
    obtain ⟨m, u, v, rfl, rfl, rfl, hm, hu, HE⟩ := hrel
    by_cases hm0 : m = 0
    · subst hm0
      go_wp2
      go_ret
      refine ⟨ret_s ?_, rfl⟩
      rw [← HE.out, repL, List.append_nil]
    · have hm1 : 1 ≤ m := by omega
      have hsz := rep_size v u s m N HE.out hm1
      have f1 : ¬ 9223372036854775807 < v.size + u.size := by omega
      have f2 : ¬ 9223372036854775807 < u.size + u.size := by omega
      have hu2 : (u ++ u).size ≤ 20000000 := by simp; omega
      by_cases ho : m % 2 = 0
      · have hb : ((m : Int) % 2 == 1) = false := by simp; omega
        have hE2 : v.data.toList ++ repL (u ++ u).data.toList (m / 2) = repL s.data.toList N := by rw [app_ba]; exact repL_even _ _ _ _ _ HE.out ho
        have HE2 := Lib.hid hE2
        clear hE2 ho
        go_wp2
        go_round
        case rel => exact ⟨m / 2, _, _, rfl, by go_num, rfl, by omega, hu2, HE2⟩
        case measure => simp [intOf]; omega
      · have hb : ((m : Int) % 2 == 1) = true := by simp; omega
        have hE2 : (v ++ u).data.toList ++ repL (u ++ u).data.toList (m / 2) = repL s.data.toList N := by rw [app_ba, app_ba]; exact repL_odd _ _ _ _ _ HE.out ho
        have HE2 := Lib.hid hE2
        clear hE2 ho
        go_wp2
        go_round
        case rel => exact ⟨m / 2, _, _, rfl, by go_num, rfl, by omega, hu2, HE2⟩
        case measure => simp [intOf]; omega
end Go.Proofs.YtbijfkpilncclaaGreat

/- impl's word: its sizes. -/
namespace Go.Proofs.YtbijfkpilncclaaGreat
open Go.RowKit
theorem size46 : (Tryz.prog.info? 91).map (·.size) = some 8 := by kernel_rfl
theorem size5 : (Tryz.prog.info? 5).map (·.size) = some 1 := by kernel_rfl
end Go.Proofs.YtbijfkpilncclaaGreat

/- The specification's l1Bytes: a number as so many bytes, the lowest first. -/
namespace Go.Proofs.YtbijfkpilncclaaGreat
open Go.RowKit

theorem info5 : (Tryz.prog.info? 5).map (fun i => (i.zero, i.size, i.bytes)) = some (some (.int .u8 0), 1, 1) := by kernel_rfl
set_option maxHeartbeats 400000 in
theorem l1Bytes_any (n size : Int) (w : World) (h0 : 0 ≤ size) (h1 : size ≤ 1000000) :
    Calls Tryz.prog 60 #[.int .i64 n, .int .i64 size] w fun e w' => e = .returned (.string ⟨(leB n size.toNat).toArray⟩) ∧ Below w.heap.size w w' := by
  obtain ⟨z, rfl⟩ := Int.eq_ofNat_of_zero_le h0
  obtain ⟨i0, hi, hz0, hz1, hz2⟩ := info_parts info5
  go_enter Tryz.func60, Tryz.ntmps60
  go_wp2
  go_loopw [0, 5, 6] (fun m v i wr => ∃ k : Nat, k ≤ z ∧ i = .int .i64 k ∧ m = .int .i64 (shr8 n k) ∧ Hid (wr.ownsRow w.heap.size 5 1 v k (Lib.byteCells (leB n k))) ∧ Hid (Below w.heap.size w wr)) (fun _ _ i _ => (z - intOf i).toNat)
  case atStart => exact ⟨0, by omega, rfl, rfl, World.ownsRow_made w #[] 0 (Nat.le_refl _) (by decide) rfl, (Below.refl _ _).alloc (Nat.le_refl _) _⟩
  case round =>
    obtain ⟨k, hk, rfl, rfl, hown, HB⟩ := hrel
    by_cases hlt : k < z
    · have hb : Hid (∀ b : Int, b = ((UInt8.ofNat (shr8 n k % 256).toNat).toNat : Int) → Lib.byteCells (leB n k) ++ [.int .u8 b] = Lib.byteCells (leB n (k + 1))) := fun b hb => by rw [hb, byteCells_snoc', ← leB_snoc]
      go_wp2_with (at_builtin; go_must (refine wpList_append_own _ rfl (.tmp 13) (.tmp 16) 36 rfl w.heap.size 5 i0 (.int .u8 0) 1 1 Tryz.underlying36 hi hz0 hz1 hz2 rfl (by decide) u5 _ _ rfl (hown.out.alloc _) ⟨wr.heap.size, 0, none⟩ 1 1 [_] rfl rfl (cell_one_new _ _ _) (by simp [Value.oneCell']) (by unfold maxLen; omega) (by omega) (by have := HB.out.size; simp; omega) ?_); intro v' w1 hown' hgrow _)
      have hrel' : w1.ownsRow w.heap.size 5 1 v' (k + 1) (Lib.byteCells (leB n (k + 1))) := by rw [← hb.out _ (ofNat_toNat_u8 _).symm]; exact hown'
      have hB' : Below w.heap.size w w1 := below_append HB.out HB.out.size hown.out hgrow
      go_roundw
      case rel => exact ⟨k + 1, by omega, by go_num, rfl, hrel', hB'⟩
      case measure => simp [intOf]; omega
    · obtain rfl : k = z := by omega
      have hcv := convert_own (P := Tryz.prog) wr 36 9 5 w.heap.size k (leB n k) u5 (leB_length n k) Tryz.underlying36 Tryz.underlying5 Tryz.underlying9 hown.out
      go_wp2
      go_ret
      exact ⟨by simp, HB.out⟩

end Go.Proofs.YtbijfkpilncclaaGreat

/- The specification's drawer of words: l13Word, l13Words. -/
namespace Go.Proofs.YtbijfkpilncclaaGreat
open Go.RowKit
theorem str8 (n : Int) : (⟨(leB n 8).toArray⟩ : ByteArray).size = 8 := by simp [ByteArray.size, leB_length]
theorem rep8 (l : List UInt8) (k : Nat) : (⟨(repL l k).toArray⟩ : ByteArray).size = l.length * k := by simp [ByteArray.size, repL_length]
set_option maxHeartbeats 2000000 in
theorem l13Word_any (R n : Nat) (w : World) (h : Rd w R n) (hn : n ≤ 999000) :
    Calls Tryz.prog 141 #[.pointer (some ⟨R, 0, none⟩)] w (StrP (fun u => u.size = 8) R (n + 3) w) := by
  go_enter Tryz.func141, Tryz.ntmps141
  go_wp2_with (go_at_call 54; go_must (refine (l1Many_any _ _ _ (by decide) (by decide) (by decide) (by decide)).mono ?_); rintro e w' ⟨rfl, rfl⟩)
  refine (pick_any R n _ _ h (by omega)).mono ?_
  rintro e w1 ⟨v, ⟨hv0, hv1⟩, rfl, hp1⟩
  have hv : v ≤ 255 := by omega
  clear hv1
  go_wp2_with fail
  refine (pick_any R (n + 1) _ _ hp1.1 (by omega)).mono ?_
  rintro e w2 ⟨u, ⟨hu0, hu1⟩, rfl, hp2⟩
  have hu : u ≤ 255 := by omega
  clear hu1
  go_wp2_with fail
  refine (l1Bytes_any _ 8 _ (by decide) (by decide)).mono ?_
  rintro e w3 ⟨rfl, hb3⟩
  go_wp2_with fail
  have hp3 : Picked w R (n + 2) w3 := (hp1.then hp2).below hb3
  have hR := hp3.1.lt
  refine (of_any R (n + 2) w3.heap.size 8 8 (fun u => u.size = 8) _ _ (by exact hp3.1.below ((Below.refl _ _).alloc (Nat.le_refl _) _)) (by omega) (by exact Lits.new _ _ _ _) (by
    intro v hv
    simp at hv
    rcases hv with rfl | rfl | rfl | rfl | rfl | rfl | rfl
    all_goals exact ⟨_, rfl, by simp [ByteArray.size, repL_length, leB_length]⟩) (by omega) (by simp) (by omega) (by omega)).mono ?_
  rintro e w4 ⟨x, hx, rfl, hp4⟩
  go_wp2
  go_ret
  exact ⟨x, hx, rfl, (hp3.below ((Below.refl _ _).alloc (Nat.le_refl _) _)).then hp4⟩

set_option maxHeartbeats 2000000 in
theorem l13Words_any (R n : Nat) (most : Nat) (w : World) (h : Rd w R n) (hn : n ≤ 900000) (hm : most ≤ 10000) :
    Calls Tryz.prog 139 #[.pointer (some ⟨R, 0, none⟩), .int .i64 most] w (StrP (fun u => ∃ j, j ≤ most ∧ u.size = 8 * j) R (n + 1 + 3 * most) w) := by
  go_enter Tryz.func139, Tryz.ntmps139
  go_wp2_with fail
  refine (pick_any R n _ _ h (by omega)).mono ?_
  rintro e w1 ⟨v, ⟨hv0, hv1⟩, rfl, hp1⟩
  obtain ⟨q, rfl⟩ := Int.eq_ofNat_of_zero_le hv0
  have hq : q ≤ most := by omega
  clear hv1
  go_wp2_with fail
  go_loopw [5, 6] (fun o i wr => ∃ (j m : Nat) (u : ByteArray), o = .string u ∧ i = .int .i64 m ∧ j + m = q ∧ Hid (u.size = 8 * j) ∧ Hid (Picked w R (n + 1 + 3 * j) wr)) (fun _ i _ => (intOf i).toNat)
  case atStart => exact ⟨0, q, ByteArray.empty, rfl, rfl, by omega, rfl, hp1⟩
  case round =>
    obtain ⟨j, m, u, rfl, rfl, hjm, HU, HP⟩ := hrel
    have hu := HU.out
    have HJ := Lib.hid hjm
    have hjq : j + m ≤ q := by omega
    have hul : u.size ≤ 80000 := by omega
    clear hu hjm
    by_cases h0 : m = 0
    · subst h0
      go_wp2
      go_ret
      exact ⟨u, ⟨j, by omega, HU.out⟩, rfl, HP.out.mono (by omega)⟩
    · have h1 : 1 ≤ m := by omega
      go_wp2_with fail
      refine (l13Word_any R (n + 1 + 3 * j) _ HP.out.1 (by omega)).mono ?_
      rintro e w2 ⟨x, hx, rfl, hp2⟩
      have f1 : ¬ 9223372036854775807 < u.size + x.size := by omega
      have hs : (u ++ x).size = 8 * (j + 1) := by have := HU.out; simp; omega
      have hp : Picked w R (n + 1 + 3 * (j + 1)) w2 := HP.out.then (hp2.mono (by omega))
      have HX := Lib.hid hx
      have HS := Lib.hid hs
      clear hx hs
      go_wp2
      go_roundw
      case rel => exact ⟨j + 1, m - 1, _, rfl, by go_num, by have := HJ.out; omega, HS, hp⟩
      case measure => simp [intOf]; omega

end Go.Proofs.YtbijfkpilncclaaGreat

/- The specification's drawer: one, of a few numbers. -/
namespace Go.Proofs.YtbijfkpilncclaaGreat
open Go.RowKit
set_option maxHeartbeats 1000000 in
theorem one_any (R n g len cap : Nat) (S : Int → Prop) (vs : List Value) (w : World) (h : Rd w R n) (hn : n ≤ 1000000) (hl : Lits w g vs) (hS : ∀ v ∈ vs, ∃ x, v = .int .i64 x ∧ S x) (hg : g ≠ R) (hlen : vs.length = len) (hp : 0 < len) (h1 : len ≤ 1000) :
    Calls Tryz.prog 75 #[.pointer (some ⟨R, 0, none⟩), .slice (some ⟨g, 0, none⟩) len cap] w (IntP S R (n + 1) w) := by
  have HL := Lib.hid hlen
  have HS := Lib.hid hS
  clear hlen hS
  go_enter Tryz.func75, Tryz.ntmps75
  go_wp2_with fail
  refine (pick_any R n _ _ h hn).mono ?_
  rintro e w1 ⟨v, ⟨hv0, hv1⟩, rfl, hpk⟩
  have hv : v < len := by omega
  obtain ⟨k, rfl⟩ := Int.eq_ofNat_of_zero_le hv0
  have hk : k < vs.length := by rw [HL.out]; omega
  obtain ⟨x, hx, hm⟩ := HS.out vs[k] (List.getElem_mem hk)
  have hc : w1.cell? ⟨g, k, none⟩ = some (.int .i64 x) := (hl.keeps hpk.2 hg).2 k _ (by rw [List.getElem?_eq_getElem hk, hx])
  clear hk hv1 hx
  go_wp2
  go_ret
  exact ⟨x, hm, rfl, hpk⟩
end Go.Proofs.YtbijfkpilncclaaGreat

/- The specification's drawer of nodes: lists of bits and bytes. -/
namespace Go.Proofs.YtbijfkpilncclaaGreat
open Go.RowKit
theorem picked_storeN {w w1 : World} {R n b : Nat} (h : Picked w R n w1) (hR : R < w.heap.size) (hb : w.heap.size ≤ b) (i : Nat) (v : Value) : Picked w R n (w1.setCell ⟨b, i, none⟩ v) := by
  obtain ⟨⟨a, l, c, p, hp, hr, hc⟩, hk⟩ := h
  have hs := set_keeps w1.heap.size b w1 i v
  refine ⟨⟨a, l, c, p, hp, (hs.block R (row_lt hr) (by omega)).trans hr, hc.keeps hs (Nat.le_of_lt (row_lt hr)) (by omega)⟩, ?_⟩
  exact ⟨hs.os.trans hk.os, hs.tape.trans hk.tape, hs.output.trans hk.output, Nat.le_trans hk.size hs.size, fun k hk1 hk2 => (hs.block k (Nat.lt_of_lt_of_le hk1 hk.size) (by omega)).trans (hk.block k hk1 hk2)⟩
theorem store6 {w w1 : World} {R n b : Nat} {T : TypeId} {a0 a1 a2 a3 a4 a5 : Value} (h : w1.heap[b]? = some (.cells #[a0, a1, a2, a3, a4, a5] T (0, 0))) (hp : Picked w R n w1) (hR : R < w.heap.size) (hb : w.heap.size ≤ b) (v0 v1 v2 v3 v4 v5 : Value) :
    ∃ wf, ((((((w1.setCell ⟨b, 0, none⟩ v0).setCell ⟨b, 1, none⟩ v1).setCell ⟨b, 2, none⟩ v2).setCell ⟨b, 3, none⟩ v3).setCell ⟨b, 4, none⟩ v4).setCell ⟨b, 5, none⟩ v5) = wf ∧ wf.heap[b]? = some (.cells #[v0, v1, v2, v3, v4, v5] T (0, 0)) ∧ Picked w R n wf ∧ Upon (b + 1) w1 wf :=
  ⟨_, rfl, row_setN (row_setN (row_setN (row_setN (row_setN (row_setN h 0 v0) 1 v1) 2 v2) 3 v3) 4 v4) 5 v5, picked_storeN (picked_storeN (picked_storeN (picked_storeN (picked_storeN (picked_storeN hp hR hb 0 v0) hR hb 1 v1) hR hb 2 v2) hR hb 3 v3) hR hb 4 v4) hR hb 5 v5,
    ((((((Upon.refl (b + 1) w1).setCell (p := ⟨b, 0, none⟩) (by simp) v0).setCell (p := ⟨b, 1, none⟩) (by simp) v1).setCell (p := ⟨b, 2, none⟩) (by simp) v2).setCell (p := ⟨b, 3, none⟩) (by simp) v3).setCell (p := ⟨b, 4, none⟩) (by simp) v4).setCell (p := ⟨b, 5, none⟩) (by simp) v5⟩
theorem pick_rowN {w w1 : World} {R n b : Nat} {o : Obj} (h : w.heap[b]? = some o) (hp : Picked w R n w1) (hne : b ≠ R) : w1.heap[b]? = some o := (hp.2.block b (row_lt h) hne).trans h
/-- how great a drawn node is, and its own bytes. -/
def SB (T : Nat) (n : Nd) : Prop := (T ≤ 259259 → n.data.size ≤ 1100) ∧ (n.kind = 2 → n.data.size ≤ 1592) ∧ n.items.length ≤ 1000
def TB (M : Nat) (n : Nd) (T : Nat) : Prop := totN M n ≤ T ∧ SB T n
theorem SB.mono {T T' : Nat} {n : Nd} (h : SB T n) (hT : T ≤ T') : SB T' n := ⟨fun h' => h.1 (Nat.le_trans hT h'), h.2⟩
theorem SB.small {T : Nat} {n : Nd} (h : n.data.size ≤ 1100) (hi : n.items.length ≤ 1000) : SB T n := ⟨fun _ => h, fun _ => Nat.le_trans h (by decide), hi⟩
/-- some node, of so many levels, so great at most, the drawer gone on. -/
def NdP (M T : Nat) (R k : Nat) (w : World) (e : Ending) (w' : World) : Prop := ∃ (n : Nd) (h : Hd), e = .returned (.agg #[.int .i64 n.kind, .string n.data, .slice h.A n.ptrs.length h.a, .int .i64 n.size, .int .i64 n.count, .slice h.B n.items.length h.b]) ∧ NdAt w' (FromC w' w.heap.size) M n h ∧ TB M n T ∧ Picked w R k w'
set_option maxHeartbeats 4000000 in
set_option maxRecDepth 100000 in
theorem l13List_any (R n : Nat) (w : World) (h : Rd w R n) (hn : n ≤ 800000) :
    Calls Tryz.prog 120 #[.pointer (some ⟨R, 0, none⟩)] w (NdP 0 1001 R (n + 40) w) := by
  have hRw := h.lt
  have hq0 := h.self.below ((Below.refl w.heap.size w).alloc (Nat.le_refl _) (.cells #[.int .i64 0, .string { data := #[] }, .slice none 0 0, .int .i64 0, .int .i64 0, .slice none 0 0] nodeT))
  have hr0 := heap_alloc_new w (.cells #[.int .i64 0, .string { data := #[] }, .slice none 0 0, .int .i64 0, .int .i64 0, .slice none 0 0] nodeT)
  have HQ0 := Lib.hid hq0
  have HR0 := Lib.hid hr0
  clear h hq0 hr0
  go_enter Tryz.func120, Tryz.ntmps120
  go_wp2_with fail
  refine (pick_any R n _ _ HQ0.out.1 (by omega)).mono ?_
  rintro e w1 ⟨s, ⟨hs0, hs1⟩, rfl, hp1⟩
  have HQ1 := Lib.hid (HQ0.out.then hp1)
  have HR1 := Lib.hid (pick_rowN HR0.out hp1 (by omega))
  have hs5 : s ≤ 5 := by omega
  clear hp1 hs1
  go_wp2_with fail
  refine (pick_any R (n + 1) _ _ HQ1.out.1 (by omega)).mono ?_
  rintro e w2 ⟨c, ⟨hc0, hc1⟩, rfl, hp2⟩
  have HQ2 := Lib.hid (HQ1.out.then hp2)
  have HR2 := Lib.hid (pick_rowN HR1.out hp2 (by omega))
  have hc11 : c ≤ 11 := by omega
  clear hp2 hc1
  have hq3 := HQ2.out.below ((Below.refl w2.heap.size w2).alloc (Nat.le_refl _) (.cells #[.int .i64 2, .string { data := #[] }, .slice none 0 0, .int .i64 s, .int .i64 c, .slice none 0 0] nodeT))
  have HQ3 := Lib.hid hq3
  have HB3 := Lib.hid (heap_alloc_new w2 (.cells #[.int .i64 2, .string { data := #[] }, .slice none 0 0, .int .i64 s, .int .i64 c, .slice none 0 0] nodeT))
  have hlt2 := row_lt HR2.out
  have hwl2 := HQ2.out.2.size
  have hRl := HQ2.out.1.lt
  have HR3 := Lib.hid ((Below.heap_alloc w2 (.cells #[.int .i64 2, .string { data := #[] }, .slice none 0 0, .int .i64 s, .int .i64 c, .slice none 0 0] nodeT) _ hlt2).trans HR2.out)
  clear hq3
  go_wp2_with fail
  refine (l13Words_any R (n + 2) 12 _ HQ3.out.1 (by omega) (by decide)).mono ?_
  rintro e w4 ⟨u, ⟨j, hj, hju⟩, rfl, hp4⟩
  have HQ4 := Lib.hid (HQ3.out.then hp4)
  have hr4 := pick_rowN HR3.out hp4 (by omega)
  have hb4 := pick_rowN HB3.out hp4 (by omega)
  have HR4 := Lib.hid hr4
  have HB4 := Lib.hid hb4
  have HJ := Lib.hid hju
  obtain ⟨c0, c1, c2, c3, c4, c5⟩ := cells6 hb4
  clear hp4 hju hr4 hb4
  go_wp2_with fail
  refine (l1Many_any ⟨#[5]⟩ 96 _ (by decide) (by decide) (by decide) (by decide)).mono ?_
  rintro e w5 ⟨rfl, rfl⟩
  have hrs : (⟨(repL (⟨#[5]⟩ : ByteArray).data.toList (Int.toNat 96)).toArray⟩ : ByteArray).size = 96 := by rw [rep8]; rfl
  generalize (⟨(repL (⟨#[5]⟩ : ByteArray).data.toList (Int.toNat 96)).toArray⟩ : ByteArray) = rp at *
  have hts : (u ++ rp).size = 8 * j + 96 := by rw [getD_size, HJ.out, hrs]
  have f1 : ¬ 9223372036854775807 < u.size + rp.size := by have := HJ.out; omega
  have HTX := Lib.hid hts
  clear hrs hts
  go_wp2_with fail
  have hts := HTX.out
  generalize u ++ rp = tx at *
  refine (l4Cut_a tx s c _ hs0 hs5 hc0 hc11 (by omega) (by omega)).mono ?_
  rintro e w6 ⟨dd, hdd, rfl, hb6⟩
  have HQ6 := Lib.hid (HQ4.out.below hb6)
  have hr6 := (hb6.block _ (row_lt HR4.out)).trans HR4.out
  have hx6 := (hb6.block _ (row_lt HB4.out)).trans HB4.out
  have HX6 := Lib.hid hx6
  have HR6 := Lib.hid hr6
  have HDD := Lib.hid hdd
  clear c0 c1 c2 c3 c4 c5 hts f1 hb6 hdd
  obtain ⟨c0, c1, c2, c3, c4, c5⟩ := cells6 hx6
  have cf := row_free hx6
  have hz0 : ∀ v k, (w6.setCell ⟨w2.heap.size, 1, none⟩ v).cell? ⟨w.heap.size, k, none⟩ = (#[.int .i64 0, .string { data := #[] }, .slice none 0 0, .int .i64 0, .int .i64 0, .slice none 0 0] : Array Value)[k]? := fun v k => cell_of_row _ _ _ _ _ _ ((Below.heap_setCell w6 ⟨w2.heap.size, 1, none⟩ v w.heap.size (by simp; omega)).trans hr6)
  have hzf : ∀ v k, (w6.setCell ⟨w2.heap.size, 1, none⟩ v).frozen? ⟨w.heap.size, k, none⟩ = false := fun v k => row_free ((Below.heap_setCell w6 ⟨w2.heap.size, 1, none⟩ v w.heap.size (by simp; omega)).trans hr6) k
  clear hx6 hr6
  go_wp2_with fail
  obtain ⟨wf, hwf, hrw, hpw, huw⟩ := store6 (w1 := w6.setCell ⟨w2.heap.size, 1, none⟩ (.string dd)) (b := w.heap.size) ((Below.heap_setCell w6 ⟨w2.heap.size, 1, none⟩ (.string dd) w.heap.size (by simp; omega)).trans HR6.out) (picked_storeN HQ6.out hRw (by omega) 1 (.string dd)) hRw (Nat.le_refl _) (.int .i64 2) (.string dd) (.slice none 0 0) (.int .i64 s) (.int .i64 c) (.slice none 0 0)
  rw [hwf]
  obtain ⟨e0, e1, e2, e3, e4, e5⟩ := cells6 hrw
  exact bodyPost_ret (v := .agg #[.int .i64 2, .string dd, .slice none 0 0, .int .i64 s, .int .i64 c, .slice none 0 0])
    (by simp [results, Tryz.results120, go_sem, e0, e1, e2, e3, e4, e5]) rfl
    ⟨.mk 2 dd [] s c [], ⟨none, 0, none, 0⟩, rfl, ⟨by show dd.size ≤ maxLen; have := HDD.out; unfold maxLen; omega, rfl, rfl⟩, ⟨by show dd.size + 0 + 0 ≤ 1001; exact HDD.out, SB.small (by show dd.size ≤ 1100; have := HDD.out; omega) (show (0 : Nat) ≤ 1000 by decide)⟩, hpw.mono (by omega)⟩
end Go.Proofs.YtbijfkpilncclaaGreat

/- Which parts a node has; how many words it takes by itself. -/
namespace Go.Proofs.YtbijfkpilncclaaGreat
open Go.RowKit
def noneN (n : Nd) : Bool := noneB n.data n.ptrs.length n.size n.count n.items.length
def strN (n : Nd) : Bool := structB n.kind n.data n.size n.count n.items.length
/-- a node has the parts of its kind. -/
def formN (n : Nd) : Bool := decide (n.kind = 0) && noneN n || (strN n || listN n)
abbrev boxN (n : Nd) (h : Hd) : Obj := .cells #[.int .i64 n.kind, .string n.data, .slice h.A n.ptrs.length h.a, .int .i64 n.size, .int .i64 n.count, .slice h.B n.items.length h.b] nodeT (0, 0)
set_option maxHeartbeats 4000000 in
set_option maxRecDepth 100000 in
theorem hasParts_a (m : Nat) (n : Nd) (h : Hd) (w : World) (S : Nat → Prop) (hn : NdAt w S m n h) (hlm : n.items.length ≤ 2000000) (hpm : n.ptrs.length ≤ 2000000) :
    Calls Tryz.prog 108 #[.agg #[.int .i64 n.kind, .string n.data, .slice h.A n.ptrs.length h.a, .int .i64 n.size, .int .i64 n.count, .slice h.B n.items.length h.b]] w fun e w' => e = .returned (.bool (formN n)) ∧ Below w.heap.size w w' := by
  have hba := (Below.refl w.heap.size w).alloc (Nat.le_refl _) (.cells #[.int .i64 n.kind, .string n.data, .slice h.A n.ptrs.length h.a, .int .i64 n.size, .int .i64 n.count, .slice h.B n.items.length h.b] nodeT)
  have hr := heap_alloc_new w (.cells #[.int .i64 n.kind, .string n.data, .slice h.A n.ptrs.length h.a, .int .i64 n.size, .int .i64 n.count, .slice h.B n.items.length h.b] nodeT)
  have hsz : w.heap.size < (w.alloc (.cells #[.int .i64 n.kind, .string n.data, .slice h.A n.ptrs.length h.a, .int .i64 n.size, .int .i64 n.count, .slice h.B n.items.length h.b] nodeT)).heap.size := by simp
  have HN := Lib.hid hn
  have HNO : Hid (∀ W : World, Calls Tryz.prog 131 #[.agg #[.int .i64 n.kind, .string n.data, .slice h.A n.ptrs.length h.a, .int .i64 n.size, .int .i64 n.count, .slice h.B n.items.length h.b]] W fun e w' => e = .returned (.bool (noneN n)) ∧ Below W.heap.size W w') := Lib.hid fun W => isNothing_any _ _ _ _ _ _ _ _ _ _ W
  have HST : Hid (∀ W : World, Calls Tryz.prog 132 #[.agg #[.int .i64 n.kind, .string n.data, .slice h.A n.ptrs.length h.a, .int .i64 n.size, .int .i64 n.count, .slice h.B n.items.length h.b]] W fun e w' => e = .returned (.bool (strN n)) ∧ Below W.heap.size W w') := Lib.hid fun W => isStruct_any _ _ _ _ _ _ _ _ _ _ W
  have HLI : Hid (∀ W : World, Below w.heap.size w W → Calls Tryz.prog 133 #[.agg #[.int .i64 n.kind, .string n.data, .slice h.A n.ptrs.length h.a, .int .i64 n.size, .int .i64 n.count, .slice h.B n.items.length h.b]] W fun e w' => e = .returned (.bool (listN n)) ∧ Below W.heap.size W w') := Lib.hid fun W hb => isList_a m _ _ _ _ _ _ _ _ _ _ W S (hn.2.2.below hb) hn.1 hlm hpm
  have HF : Hid (formN n = (decide (n.kind = 0) && noneN n || (strN n || listN n))) := Lib.hid rfl
  generalize noneN n = bn at *
  generalize strN n = bs at *
  generalize listN n = bl at *
  generalize formN n = bf at *
  have HBA := Lib.hid hba
  have HR := Lib.hid hr
  clear hn hba hr
  by_cases hk : n.kind = 0
  · have hkb : (n.kind == 0) = true := by rw [hk]; rfl
    have hkd : decide (n.kind = 0) = true := by simpa using hk
    rw [hkd] at HF
    clear hkd hk
    go_enter Tryz.func108, Tryz.ntmps108
    go_wp2_with fail
    refine (HNO.out _).mono ?_
    rintro e w1 ⟨rfl, hb1⟩
    have HB1 := Lib.hid (HBA.out.trans (hb1.mono HBA.out.size))
    have hr1 := (hb1.block w.heap.size hsz).trans HR.out
    have hlt1 := row_lt hr1
    have HR1 := Lib.hid hr1
    obtain ⟨a0, a1, a2, a3, a4, a5⟩ := cells6 hr1
    clear hr1 hb1
    cases bn
    · go_wp2_with fail
      clear a0 a1 a2 a3 a4 a5
      refine (HST.out _).mono ?_
      rintro e w2 ⟨rfl, hb2⟩
      have HB2 := Lib.hid (HB1.out.trans (hb2.mono (by have := (HB1.out).size; omega)))
      have hr2 := (hb2.block w.heap.size hlt1).trans HR1.out
      have hlt2 := row_lt hr2
      have HR2 := Lib.hid hr2
      obtain ⟨c0, c1, c2, c3, c4, c5⟩ := cells6 hr2
      clear hr2 hb2
      cases bs
      · go_wp2_with fail
        refine (HLI.out _ HB2.out).mono ?_
        rintro e w3 ⟨rfl, hb3⟩
        have HB3 := Lib.hid (HB2.out.trans (hb3.mono HB2.out.size))
        clear hb3
        go_wp2
        go_ret
        exact ⟨by rw [HF.out]; exact ret_bool (by simp), HB3.out⟩
      · go_wp2
        go_ret
        exact ⟨by rw [HF.out]; exact ret_bool (by simp), HB2.out⟩
    · go_wp2
      go_ret
      exact ⟨by rw [HF.out]; exact ret_bool (by simp), HB1.out⟩
  · have hkb : (n.kind == 0) = false := by simpa using hk
    have hkd : decide (n.kind = 0) = false := by simpa using hk
    rw [hkd] at HF
    clear hkd hk
    go_enter Tryz.func108, Tryz.ntmps108
    go_wp2_with fail
    refine (HST.out _).mono ?_
    rintro e w2 ⟨rfl, hb2⟩
    have HB2 := Lib.hid (HBA.out.trans (hb2.mono (by have := (HBA.out).size; omega)))
    have hr2 := (hb2.block w.heap.size hsz).trans HR.out
    have hlt2 := row_lt hr2
    have HR2 := Lib.hid hr2
    obtain ⟨c0, c1, c2, c3, c4, c5⟩ := cells6 hr2
    clear hr2 hb2
    cases bs
    · go_wp2_with fail
      refine (HLI.out _ HB2.out).mono ?_
      rintro e w3 ⟨rfl, hb3⟩
      have HB3 := Lib.hid (HB2.out.trans (hb3.mono HB2.out.size))
      clear hb3
      go_wp2
      go_ret
      exact ⟨by rw [HF.out]; exact ret_bool (by simp), HB3.out⟩
    · go_wp2
      go_ret
      exact ⟨by rw [HF.out]; exact ret_bool (by simp), HB2.out⟩
end Go.Proofs.YtbijfkpilncclaaGreat
