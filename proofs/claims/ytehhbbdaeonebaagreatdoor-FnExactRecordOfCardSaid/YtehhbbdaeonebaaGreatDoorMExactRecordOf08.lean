/- Texts of the proof of the law FnExactRecordOf, side by side: part 8. -/
import Derived.Maps.OwnSet
import Derived.Test.YtehhbbdaeonebaaGreatDoorMExactRecordOf07
set_option maxHeartbeats 8000000
set_option maxRecDepth 100000
namespace Go.Proofs.YtehhbbdaeonebaaGreatDoor
open Go.RowKit
structure FldAt (w : World) (p : Addr) (f : Fld) : Prop where
 c0 : w.cell? p = some (.int .i64 f.size)
 c1 : w.cell? ⟨p.block, p.off + 1, none⟩ = some (.bool f.choice)
 c2 : w.cell? ⟨p.block, p.off + 2, none⟩ = some (.int .i64 f.els)
def Flds (w : World) (A : Option Addr) (l : List Fld) : Prop :=
 l = [] ∨ ∃ x, A = some x ∧ x.block < w.heap.size ∧ ∀ k f, l[k]? = some f → FldAt w (x.add (k * 3)) f
theorem FldAt.below {B : Nat} {w w' : World} {p : Addr} {f : Fld} (h : FldAt w p f) (hb : Below B w w') (hp : p.block < B) : FldAt w' p f :=
 ⟨(hb.cell (p := p) hp).trans h.c0, (hb.cell (p := ⟨p.block, p.off + 1, none⟩) hp).trans h.c1, (hb.cell (p := ⟨p.block, p.off + 2, none⟩) hp).trans h.c2⟩
theorem Flds.below {w w' : World} {A : Option Addr} {l : List Fld} (h : Flds w A l) (hb : Below w.heap.size w w') : Flds w' A l := by
 rcases h with h | ⟨x, rfl, hx, hc⟩
 · exact .inl h
 · exact .inr ⟨x, rfl, Nat.lt_of_lt_of_le hx hb.size, fun k f hk => (hc k f hk).below hb (by rw [addr_block]; exact hx)⟩
theorem Flds.at_ {w : World} {A : Option Addr} {l : List Fld} (h : Flds w A l) {k : Nat} (hk : k < l.length) : ∃ x, A = some x ∧ FldAt w (x.add (k * 3)) l[k] := by
 rcases h with h | ⟨x, rfl, hx, hc⟩
 · rw [h] at hk; exact absurd hk (Nat.not_lt_zero _)
 · exact ⟨x, rfl, hc k _ (List.getElem?_eq_getElem hk)⟩
def fitB (size n : Int) : Bool := if size = 6 then n == 0 else if size = 5 then true else decide (0 ≤ n ∧ n ≤ 2 ^ (bitsOf size).toNat - 1)
def fldOk (f : Fld) : Bool := inB f.size 1 6 && fitB f.size f.els
def fldsOk (l : List Fld) : Bool := l.all fldOk && decide (l.length ≤ 12)
def withB (n b : Int) : Bool := decide (0 ≤ n ∧ n < b)
theorem within_any (n b : Int) (w : World) :
 Calls Tryz.prog 36 #[.int .i64 n, .int .i64 b] w fun e w' => e = .returned (.bool (withB n b)) ∧ w = w' := by
 by_cases h1 : 0 ≤ n
 all_goals
  go_enter Tryz.func36, Tryz.ntmps36
  go_wp2
  all_goals go_ret
  all_goals refine ⟨ret_bool ?_, rfl⟩
  all_goals (simp [withB]; try omega)
def bitsAll (n : Int) : Int := if n = 6 then 64 else bitsOf n
theorem sizeBits_any (n : Int) (w : World) (h0 : 0 ≤ n) (h1 : n ≤ 6) :
 Calls Tryz.prog 117 #[.int .i64 n] w fun e w' => e = .returned (.int .i64 (bitsAll n)) ∧ w = w' := by
 have h : n = 0 ∨ n = 1 ∨ n = 2 ∨ n = 3 ∨ n = 4 ∨ n = 5 ∨ n = 6 := by omega
 rcases h with rfl | rfl | rfl | rfl | rfl | rfl | rfl
 all_goals
  go_enter Tryz.func117, Tryz.ntmps117
  go_wp2
  go_ret
  exact ⟨ret_int (by decide), rfl⟩
theorem l2Bits_any (n : Int) (w : World) (h0 : 0 ≤ n) (h1 : n ≤ 6) :
 Calls Tryz.prog 62 #[.int .i64 n] w fun e w' => e = .returned (.int .i64 (bitsAll n)) ∧ Below w.heap.size w w' := by
 have h : n = 0 ∨ n = 1 ∨ n = 2 ∨ n = 3 ∨ n = 4 ∨ n = 5 ∨ n = 6 := by omega
 rcases h with rfl | rfl | rfl | rfl | rfl | rfl | rfl
 all_goals
  go_enter Tryz.func62, Tryz.ntmps62
  go_wp2
  go_ret
  exact ⟨ret_int (by decide), (Below.refl _ _).alloc (Nat.le_refl _) _⟩
theorem fit_in (a n b : Int) (h : b = 2 ^ (bitsOf a).toNat - 1) (h6 : a ≠ 6) (h5 : a ≠ 5) : inB n 0 b = fitB a n := by
 unfold inB fitB
 rw [if_neg h6, if_neg h5, h]
theorem fit_with (a n b : Int) (h : b = 2 ^ (bitsOf a).toNat) (h6 : a ≠ 6) (h5 : a ≠ 5) : withB n b = fitB a n := by
 unfold withB fitB
 rw [if_neg h6, if_neg h5, h, Bool.eq_iff_iff]
 simp only [decide_eq_true_eq]
 omega
theorem l7Fits_any (a n : Int) (w : World) (h0 : 1 ≤ a) (h1 : a ≤ 6) :
 Calls Tryz.prog 68 #[.int .i64 a, .int .i64 n] w fun e w' => e = .returned (.bool (fitB a n)) ∧ Below w.heap.size w w' := by
 have h : a = 6 ∨ a = 5 ∨ a = 1 ∨ a = 2 ∨ a = 3 ∨ a = 4 := by omega
 rcases h with rfl | rfl | h
 · go_enter Tryz.func68, Tryz.ntmps68
   go_wp2
   go_ret
   exact ⟨ret_bool rfl, Below.refl _ _⟩
 · go_enter Tryz.func68, Tryz.ntmps68
   go_wp2
   go_ret
   exact ⟨ret_bool rfl, Below.refl _ _⟩
 · rcases h with rfl | rfl | rfl | rfl
   all_goals
    go_enter Tryz.func68, Tryz.ntmps68
    go_wp2_with (first | (go_at_call 62; go_must (refine (l2Bits_any _ _ (by decide) (by decide)).mono ?_); rintro e w1 ⟨rfl, hb1⟩; simp only [show bitsAll 1 = 1 from rfl, show bitsAll 2 = 8 from rfl, show bitsAll 3 = 16 from rfl, show bitsAll 4 = 32 from rfl]) | (go_at_call 27; go_must (refine (l1In_any _ _ _ _).mono ?_); rintro e w2 ⟨rfl, rfl⟩))
    go_ret
    exact ⟨ret_bool (fit_in _ _ _ (by decide) (by decide) (by decide)), hb1⟩
theorem fitsSize_any (a n : Int) (w : World) (h0 : 1 ≤ a) (h1 : a ≤ 6) :
 Calls Tryz.prog 93 #[.int .i64 n, .int .i64 a] w fun e w' => e = .returned (.bool (fitB a n)) ∧ w = w' := by
 have h : a = 6 ∨ a = 5 ∨ a = 1 ∨ a = 2 ∨ a = 3 ∨ a = 4 := by omega
 rcases h with rfl | rfl | h
 · go_enter Tryz.func93, Tryz.ntmps93
   go_wp2
   go_ret
   exact ⟨ret_bool rfl, rfl⟩
 · go_enter Tryz.func93, Tryz.ntmps93
   go_wp2
   go_ret
   exact ⟨ret_bool rfl, rfl⟩
 · rcases h with rfl | rfl | rfl | rfl
   all_goals
    go_enter Tryz.func93, Tryz.ntmps93
    go_wp2_with (first | (go_at_call 117; go_must (refine (sizeBits_any _ _ (by decide) (by decide)).mono ?_); rintro e w1 ⟨rfl, rfl⟩; simp only [show bitsAll 1 = 1 from rfl, show bitsAll 2 = 8 from rfl, show bitsAll 3 = 16 from rfl, show bitsAll 4 = 32 from rfl]) | (go_at_call 36; go_must (refine (within_any _ _ _).mono ?_); rintro e w2 ⟨rfl, rfl⟩))
    go_ret
    exact ⟨ret_bool (fit_with _ _ _ (by decide) (by decide) (by decide)), rfl⟩
theorem all_take_succ (l : List Fld) (k : Nat) (h : k < l.length) : (l.take (k + 1)).all fldOk = ((l.take k).all fldOk && fldOk l[k]) := by
 rw [List.take_succ_eq_append_getElem h, List.all_append]; simp
theorem all_false_of (l : List Fld) (k : Nat) (h : k < l.length) (hf : fldOk l[k] = false) : l.all fldOk = false := by
 rw [List.all_eq_false]
 exact ⟨l[k], List.getElem_mem h, by simp [hf]⟩
theorem fld_false1 {f : Fld} (h : inB f.size 1 6 = false) : fldOk f = false := by simp [fldOk, h]
theorem fld_false2 {f : Fld} (h : fitB f.size f.els = false) : fldOk f = false := by simp [fldOk, h]
theorem fld_true {f : Fld} (h : inB f.size 1 6 = true) (h2 : fitB f.size f.els = true) : fldOk f = true := by simp [fldOk, h, h2]
theorem flds_false {l : List Fld} (h : l.all fldOk = false) : fldsOk l = false := by simp [fldsOk, h]
theorem inB_out {n a b : Int} (h : inB n a b = true) : a ≤ n ∧ n ≤ b := by simpa [inB] using h
theorem specFieldsOk_any (A : Option Addr) (c : Nat) (l : List Fld) (w : World) (h : Flds w A l) (hl : l.length ≤ 10000000) :
 Calls Tryz.prog 46 #[.slice A l.length c] w fun e w' => e = .returned (.bool (fldsOk l)) ∧ Below w.heap.size w w' := by
 have HF := Lib.hid h
 clear h
 go_enter Tryz.func46, Tryz.ntmps46
 go_wp2
 go_loopw [3] (fun i wr => ∃ k : Nat, i = .int .i64 k ∧ k ≤ l.length ∧ Hid ((l.take k).all fldOk = true) ∧ Hid (Below w.heap.size w wr)) (fun i _ => l.length - (intOf i).toNat)
 case atStart => exact ⟨0, rfl, by omega, by exact Lib.hid rfl, by exact Lib.hid (Below.refl _ _)⟩
 case round =>
  obtain ⟨k, rfl, hk, HA, HB⟩ := hrel
  by_cases hlt : k < l.length
  · obtain ⟨x, rfl, hx⟩ := (HF.out.below HB.out).at_ hlt
    have HS := Lib.hid (all_take_succ l k hlt)
    have HFF := Lib.hid (all_false_of l k hlt)
    generalize l[k] = f at hx HS HFF
    obtain ⟨fs, fc, fe⟩ := f
    obtain ⟨c0, c1, c2⟩ := hx
    cases hs : inB fs 1 6 with
    | false =>
     have HX := Lib.hid (HFF.out (fld_false1 hs))
     go_wp2_with (go_at_call 27; go_must (refine (l1In_any _ _ _ _).mono ?_); rintro e w2 ⟨rfl, rfl⟩)
     go_ret
     exact ⟨ret_bool (flds_false HX.out).symm, HB.out.alloc HB.out.size _⟩
    | true =>
     have hs2 := inB_out hs
     cases hf : fitB fs fe with
     | false =>
      have HX := Lib.hid (HFF.out (fld_false2 hf))
      go_wp2_with (first | (go_at_call 27; go_must (refine (l1In_any _ _ _ _).mono ?_); rintro e w2 ⟨rfl, rfl⟩) | (go_at_call 68; go_must (refine (l7Fits_any _ _ _ hs2.1 hs2.2).mono ?_); rintro e w3 ⟨rfl, hb3⟩))
      go_ret
      exact ⟨ret_bool (flds_false HX.out).symm, (HB.out.alloc HB.out.size _).trans (hb3.mono (by have := HB.out.size; simp; omega))⟩
     | true =>
      have HX : Hid ((l.take (k + 1)).all fldOk = true) := by
       refine Lib.hid ?_
       rw [HS.out, HA.out, fld_true (f := ⟨fs, fc, fe⟩) hs hf]; rfl
      go_wp2_with (first | (go_at_call 27; go_must (refine (l1In_any _ _ _ _).mono ?_); rintro e w2 ⟨rfl, rfl⟩) | (go_at_call 68; go_must (refine (l7Fits_any _ _ _ hs2.1 hs2.2).mono ?_); rintro e w3 ⟨rfl, hb3⟩))
      go_roundw
      case rel => exact ⟨k + 1, by go_num, by omega, HX, Lib.hid ((HB.out.alloc HB.out.size _).trans (hb3.mono (by have := HB.out.size; simp; omega)))⟩
      case measure => simp [intOf]; omega
  · obtain rfl : k = l.length := by omega
    have HT : Hid (l.all fldOk = true) := by refine Lib.hid ?_; rw [← HA.out, List.take_of_length_le (Nat.le_refl _)]
    have HE : Hid (fldsOk l = decide ((l.length : Int) ≤ 12)) := by
     refine Lib.hid ?_
     unfold fldsOk
     rw [HT.out, Bool.true_and, Bool.eq_iff_iff]
     simp only [decide_eq_true_eq]
     omega
    go_wp2
    go_ret
    exact ⟨ret_bool HE.out.symm, HB.out⟩
theorem implFieldsOk_any (A : Option Addr) (c : Nat) (l : List Fld) (w : World) (h : Flds w A l) (hl : l.length ≤ 10000000) :
 Calls Tryz.prog 82 #[.slice A l.length c] w fun e w' => e = .returned (.bool (fldsOk l)) ∧ Below w.heap.size w w' := by
 have HF := Lib.hid h
 clear h
 by_cases h12 : 12 < l.length
 · have HX : Hid (fldsOk l = false) := by refine Lib.hid ?_; unfold fldsOk; rw [show decide (l.length ≤ 12) = false by simp; omega, Bool.and_false]
   go_enter Tryz.func82, Tryz.ntmps82
   go_wp2
   go_ret
   exact ⟨ret_bool HX.out.symm, Below.refl _ _⟩
 have hl12 : l.length ≤ 12 := by omega
 go_enter Tryz.func82, Tryz.ntmps82
 go_wp2
 go_loopw [10] (fun i wr => ∃ k : Nat, i = .int .i64 k ∧ k ≤ l.length ∧ Hid ((l.take k).all fldOk = true) ∧ Hid (Below w.heap.size w wr)) (fun i _ => l.length - (intOf i).toNat)
 case atStart => exact ⟨0, rfl, by omega, by exact Lib.hid rfl, by exact Lib.hid (Below.refl _ _)⟩
 case round =>
  obtain ⟨k, rfl, hk, HA, HB⟩ := hrel
  by_cases hlt : k < l.length
  · obtain ⟨x, rfl, hx⟩ := (HF.out.below HB.out).at_ hlt
    have HS := Lib.hid (all_take_succ l k hlt)
    have HFF := Lib.hid (all_false_of l k hlt)
    generalize l[k] = f at hx HS HFF
    obtain ⟨fs, fc, fe⟩ := f
    obtain ⟨c0, c1, c2⟩ := hx
    by_cases hs1 : fs < 1
    · have HX := Lib.hid (HFF.out (fld_false1 (by simp [inB]; omega)))
      go_wp2
      go_ret
      exact ⟨ret_bool (flds_false HX.out).symm, HB.out.alloc HB.out.size _⟩
    have hs1' : 1 ≤ fs := by omega
    by_cases hs6 : 6 < fs
    · have HX := Lib.hid (HFF.out (fld_false1 (by simp [inB]; omega)))
      go_wp2
      go_ret
      exact ⟨ret_bool (flds_false HX.out).symm, HB.out.alloc HB.out.size _⟩
    have hs6' : fs ≤ 6 := by omega
    clear hs1 hs6
    cases hf : fitB fs fe with
    | false =>
     have HX := Lib.hid (HFF.out (fld_false2 hf))
     go_wp2_with (go_at_call 93; go_must (refine (fitsSize_any _ _ _ hs1' hs6').mono ?_); rintro e w3 ⟨rfl, rfl⟩)
     go_ret
     exact ⟨ret_bool (flds_false HX.out).symm, HB.out.alloc HB.out.size _⟩
    | true =>
     have HX : Hid ((l.take (k + 1)).all fldOk = true) := by
      refine Lib.hid ?_
      rw [HS.out, HA.out, fld_true (f := ⟨fs, fc, fe⟩) (by simp [inB]; omega) hf]; rfl
     go_wp2_with (go_at_call 93; go_must (refine (fitsSize_any _ _ _ hs1' hs6').mono ?_); rintro e w3 ⟨rfl, rfl⟩)
     go_roundw
     case rel => exact ⟨k + 1, by go_num, by omega, HX, Lib.hid (HB.out.alloc HB.out.size _)⟩
     case measure => simp [intOf]; omega
  · obtain rfl : k = l.length := by omega
    have HE : Hid (fldsOk l = true) := by
     refine Lib.hid ?_
     unfold fldsOk
     rw [List.take_of_length_le (Nat.le_refl _)] at HA
     rw [HA.out, Bool.true_and]
     simpa using hl12
    go_wp2
    go_ret
    exact ⟨ret_bool HE.out.symm, HB.out⟩
open Go.Maps (IsMap has)
theorem scaleLaw : Maps.Keyed Tryz.prog 148 := Maps.int_keyed Tryz.underlying148
theorem zeroInt (w : World) : (zeroValue 3).run Tryz.prog w = .ok (.int .i64 0) w := by kernel_rfl
theorem wf_mk {n : Int} (h0 : -9223372036854775808 ≤ n) (h1 : n ≤ 9223372036854775807) : (Lit.int .i64 n).wf = true := by
 simp [Lit.wf, IntKind.min, IntKind.max, IntKind.bits, IntKind.signed]; omega
theorem scaleKey {n : Int} (h0 : 0 ≤ n) (h1 : n ≤ 100) : keyOf Tryz.prog 148 (.int .i64 n) = some (.int .i64 n) := Maps.keyOf_int_mk Tryz.underlying148 (wf_mk (by omega) (by omega))
def keyI (i : Nat) : Lit := .int .i64 (6 - (i : Int))
theorem keyI_ne {i j : Nat} (h : i ≠ j) : keyI i ≠ keyI j := by
 intro e
 unfold keyI at e
 injection e with e1 e2
 omega
theorem keyI_lit (i : Nat) : WideAt.IsKeyLit (keyI i) := by unfold keyI; trivial
def HoleD (D : DataW Unit) (h : Nat → Nat) : Prop :=
 IsMap D ∧ ∀ i, 1 ≤ i → i ≤ 6 → (h i = 0 → has D (keyI i) = false) ∧ (h i ≠ 0 → has D (keyI i) = true ∧ ∀ z, D.atKey (keyI i) z = .lit (.int .i64 (h i)))
theorem holeD_empty : HoleD (.map []) (fun _ => 0) := ⟨Maps.isMap_empty, fun i _ _ => ⟨fun _ => rfl, fun h => absurd rfl h⟩⟩
theorem HoleD.put {D : DataW Unit} {h : Nat → Nat} (hd : HoleD D h) (k v : Nat) (hv : v ≠ 0) : HoleD (D.put (keyI k) (.lit (.int .i64 v))) (upd h k v) := by
 refine ⟨hd.1.put _ _, fun i hi hi6 => ?_⟩
 by_cases hik : i = k
 · subst hik
   rw [upd_same]
   exact ⟨fun e => absurd e hv, fun _ => ⟨Maps.has_put_same hd.1 (keyI_lit i) _, fun z => Maps.atKey_put_same hd.1 (keyI_lit i) _ z⟩⟩
 · rw [upd_other _ _ _ _ hik, Maps.has_put_other (keyI_ne hik)]
   exact ⟨(hd.2 i hi hi6).1, fun e => ⟨((hd.2 i hi hi6).2 e).1, fun z => by rw [Maps.atKey_put_other (keyI_ne hik)]; exact ((hd.2 i hi hi6).2 e).2 z⟩⟩
theorem HoleD.del {D : DataW Unit} {h : Nat → Nat} (hd : HoleD D h) (k : Nat) : HoleD (D.del (keyI k)) (upd h k 0) := by
 refine ⟨hd.1.del _, fun i hi hi6 => ?_⟩
 by_cases hik : i = k
 · subst hik
   rw [upd_same]
   exact ⟨fun _ => Maps.has_del_same, fun e => absurd rfl e⟩
 · rw [upd_other _ _ _ _ hik, Maps.has_del_other (keyI_ne hik)]
   exact ⟨(hd.2 i hi hi6).1, fun e => ⟨((hd.2 i hi hi6).2 e).1, fun z => by rw [Maps.atKey_del_other (keyI_ne hik)]; exact ((hd.2 i hi hi6).2 e).2 z⟩⟩
def slotCells (l : List Nat) : List Value := l.map fun a : Nat => Value.int .i64 (a : Int)
def roomCells : List (Nat × Nat) → List Value
 | [] => []
 | r :: t => .int .i64 (6 - (r.1 : Int)) :: .int .i64 (r.2 : Int) :: roomCells t
theorem roomCells_app : ∀ (l m : List (Nat × Nat)), roomCells (l ++ m) = roomCells l ++ roomCells m
 | [], _ => rfl
 | r :: t, m => by rw [List.cons_append, roomCells, roomCells_app t m]; rfl
abbrev planT : TypeId := 131
abbrev slotT : TypeId := 65
abbrev roomT : TypeId := 164
def planCells (s : PS) (v1 v2 : Value) (bm : Nat) : Array Value := #[.int .i64 (s.ls.words : Int), .int .i64 (s.ptrs : Int), v1, .int .i64 s.tag, .map (some bm), .int .i64 (s.many : Int), v2, .int .i64 s.point]
structure Pl (w : World) (R g bm : Nat) (v1 v2 : Value) (s : PS) (slots : List Nat) (N : Nat) : Prop where
 row : w.heap[g]? = some (.cells (planCells s v1 v2 bm) planT (0, 0))
 rg : R ≤ g
 rb : R ≤ bm
 slots : w.ownsRow R slotT 1 v1 slots.length (slotCells slots)
 shared : w.ownsRow R roomT 2 v2 s.shared.length (roomCells s.shared)
 holes : ∃ n D, n ≤ N ∧ w.ownsMap (H := Unit) Tryz.prog 148 (plainElem Tryz.prog 3) bm n D ∧ HoleD D s.ls.hole
theorem own_ne_blk {w : World} {base g n size : Nat} {e t : TypeId} {v : Value} {xs : List Value} {cs : Array Value} (h : w.ownsRow base e size v n xs) (hb : w.heap[g]? = some (.cells cs t (0, 0))) (hne : e ≠ t) : v.ownBlock ≠ some g := by
 rcases h.2 with ⟨rfl, _⟩ | ⟨g', cap, cur, rfl, _, hg, _⟩
 · simp [Value.ownBlock]
 · intro he
   have : g' = g := by simpa [Value.ownBlock] using he
   subst this
   rw [hb] at hg
   injection hg with hg
   injection hg with _ ht
   exact hne ht.symm
theorem own_ne_map {w : World} {base g n size : Nat} {e : TypeId} {v : Value} {xs : List Value} {es : Array MapEntry} {c : Nat} (h : w.ownsRow base e size v n xs) (hb : w.heap[g]? = some (.map es c)) : v.ownBlock ≠ some g := by
 rcases h.2 with ⟨rfl, _⟩ | ⟨g', cap, cur, rfl, _, hg, _⟩
 · simp [Value.ownBlock]
 · intro he
   have : g' = g := by simpa [Value.ownBlock] using he
   subst this
   rw [hb] at hg
   injection hg with hg
   cases hg
theorem Pl.gm {w : World} {R g bm : Nat} {v1 v2 : Value} {s : PS} {sl : List Nat} {N : Nat} (h : Pl w R g bm v1 v2 s sl N) : g ≠ bm := by
 rintro rfl
 obtain ⟨n, D, _, ⟨es, c, hb, _⟩, _⟩ := h.holes
 rw [h.row] at hb
 injection hb with hb
 cases hb
theorem Pl.lt {w : World} {R g bm : Nat} {v1 v2 : Value} {s : PS} {sl : List Nat} {N : Nat} (h : Pl w R g bm v1 v2 s sl N) : g < w.heap.size := row_lt h.row
theorem Pl.mono {w : World} {R g bm : Nat} {v1 v2 : Value} {s : PS} {sl : List Nat} {N M : Nat} (h : Pl w R g bm v1 v2 s sl N) (hm : N ≤ M) : Pl w R g bm v1 v2 s sl M := by
 obtain ⟨n, D, hn, r⟩ := h.holes
 exact ⟨h.row, h.rg, h.rb, h.slots, h.shared, n, D, Nat.le_trans hn hm, r⟩
theorem Pl.below {w w' : World} {R g bm : Nat} {v1 v2 : Value} {s : PS} {sl : List Nat} {N : Nat} (h : Pl w R g bm v1 v2 s sl N) (hb : Below w.heap.size w w') : Pl w' R g bm v1 v2 s sl N := by
 have hg : w.grownBy w' none := ⟨hb.os, hb.tape, hb.output, hb.size, fun k hk _ => hb.block k hk⟩
 obtain ⟨n, D, hn, hm, hd⟩ := h.holes
 exact ⟨(hb.block g h.lt).trans h.row, h.rg, h.rb, h.slots.kept hg (by cases hv : v1.ownBlock <;> simp), h.shared.kept hg (by cases hv : v2.ownBlock <;> simp), n, D, hn, hm.kept hg (by simp), hd⟩
theorem Pl.turn {w w' : World} {R g bm : Nat} {v1 v2 : Value} {s : PS} {sl : List Nat} {N M n : Nat} {D : DataW Unit} {h' : Nat → Nat} (h : Pl w R g bm v1 v2 s sl N) (hg : w.grownBy w' (some bm)) (hm : w'.ownsMap (H := Unit) Tryz.prog 148 (plainElem Tryz.prog 3) bm n D) (hn : n ≤ M) (hd : HoleD D h') :
 Pl w' R g bm v1 v2 { s with ls := ⟨s.ls.words, h'⟩ } sl M := by
 obtain ⟨n0, D0, _, ⟨es, c, hb, _⟩, _⟩ := h.holes
 exact ⟨(hg.block g h.lt (fun e => h.gm (by injection e))).trans h.row, h.rg, h.rb, h.slots.kept hg (.inr (own_ne_map h.slots hb)), h.shared.kept hg (.inr (own_ne_map h.shared hb)), n, D, hn, hm, hd⟩
theorem grown_set (w : World) (g i : Nat) (u : Value) : w.grownBy (w.setCell ⟨g, i, none⟩ u) (some g) :=
 ⟨rfl, rfl, rfl, by simp [World.setCell], fun k _ hk => Below.heap_setCell w ⟨g, i, none⟩ u k (fun e => hk (by rw [e]))⟩
theorem row_set {w : World} {g : Nat} {cs : Array Value} {T : TypeId} (h : w.heap[g]? = some (.cells cs T (0, 0))) (i : Nat) (u : Value) : (w.setCell ⟨g, i, none⟩ u).heap[g]? = some (.cells (cs.setIfInBounds i u) T (0, 0)) := by
 simp [World.setCell, Array.getElem?_modify, h]
theorem Pl.set_ {w : World} {R g bm : Nat} {v1 v2 : Value} {s : PS} {sl : List Nat} {N : Nat} (h : Pl w R g bm v1 v2 s sl N) (i : Nat) (u : Value) (s' : PS) (hs : (planCells s v1 v2 bm).setIfInBounds i u = planCells s' v1 v2 bm) (hl : s'.ls.hole = s.ls.hole) (hsh : s'.shared = s.shared) :
 Pl (w.setCell ⟨g, i, none⟩ u) R g bm v1 v2 s' sl N := by
 have hg := grown_set w g i u
 obtain ⟨n, D, hn, hm, hd⟩ := h.holes
 refine ⟨?_, h.rg, h.rb, h.slots.kept hg (.inr (own_ne_blk h.slots h.row (by decide))), ?_, n, D, hn, hm.kept hg (fun e => h.gm (by injection e with e; exact e.symm)), by rw [hl]; exact hd⟩
 · rw [row_set h.row, hs]
 · rw [hsh]; exact h.shared.kept hg (.inr (own_ne_blk h.shared h.row (by decide)))
theorem Pl.cells {w : World} {R g bm : Nat} {v1 v2 : Value} {s : PS} {sl : List Nat} {N : Nat} (h : Pl w R g bm v1 v2 s sl N) :
 w.cell? ⟨g, 0, none⟩ = some (.int .i64 (s.ls.words : Int)) ∧ w.cell? ⟨g, 1, none⟩ = some (.int .i64 (s.ptrs : Int)) ∧ w.cell? ⟨g, 2, none⟩ = some v1 ∧ w.cell? ⟨g, 3, none⟩ = some (.int .i64 s.tag) ∧ w.cell? ⟨g, 4, none⟩ = some (.map (some bm)) ∧ w.cell? ⟨g, 5, none⟩ = some (.int .i64 (s.many : Int)) ∧ w.cell? ⟨g, 6, none⟩ = some v2 ∧ w.cell? ⟨g, 7, none⟩ = some (.int .i64 s.point) := by
 refine ⟨?_, ?_, ?_, ?_, ?_, ?_, ?_, ?_⟩ <;> (rw [cell_of_row _ _ _ _ _ _ h.row]; rfl)
theorem Pl.set_below {w w0 : World} {R g bm : Nat} {v1 v2 : Value} {s : PS} {sl : List Nat} {N : Nat} (h : Pl w R g bm v1 v2 s sl N) (hb : Below R w0 w) (i : Nat) (u : Value) : Below R w0 (w.setCell ⟨g, i, none⟩ u) := hb.setCell (p := ⟨g, i, none⟩) h.rg u
theorem turn_below {w w' : World} {R bm : Nat} (hg : w.grownBy w' (some bm)) (h : R ≤ bm) (hR : R ≤ w.heap.size) : Below R w w' :=
 ⟨hg.os, hg.tape, hg.output, hg.size, fun k hk => hg.block k (by omega) (fun e => by injection e with e; omega)⟩
theorem Pl.rs {w : World} {R g bm : Nat} {v1 v2 : Value} {s : PS} {sl : List Nat} {N : Nat} (h : Pl w R g bm v1 v2 s sl N) : R ≤ w.heap.size := Nat.le_of_lt (Nat.lt_of_le_of_lt h.rg h.lt)
def TakeP (bm n : Nat) (D : DataW Unit) (kl : Lit) (c : Int) (b : Bool) (w : World) (e : Ending) (w' : World) : Prop :=
 e = .returned (.tuple #[.int .i64 c, .bool b]) ∧ w'.ownsMap (H := Unit) Tryz.prog 148 (plainElem Tryz.prog 3) bm n (D.del kl) ∧ w.grownBy w' (some bm)
theorem take_any (bm n : Nat) (D : DataW Unit) (k c : Int) (b : Bool) (w : World) (hown : w.ownsMap (H := Unit) Tryz.prog 148 (plainElem Tryz.prog 3) bm n D) (h0 : 0 ≤ k) (h1 : k ≤ 100)
 (hb : has D (.int .i64 k) = b) (hc : D.atKey (.int .i64 k) (.lit (.int .i64 0)) = .lit (.int .i64 c)) :
 Calls Tryz.prog 125 #[.map (some bm), .int .i64 k] w (TakeP bm n D (.int .i64 k) c b w) := by
 have HB := Lib.hid hb
 have HC := Lib.hid hc
 have HK := Lib.hid (scaleKey h0 h1)
 clear hb hc
 go_enter Tryz.func125, Tryz.ntmps125
 go_wp2_with (first
  | (at_lookup; refine wpList_lookup_own_ok_int _ rfl _ _ 128 rfl 148 3 .i64 scaleLaw Tryz.underlying128 Tryz.underlying3 (zeroInt _) bm n D rfl hown _ _ rfl HK.out ?_; intro c' hat hwc; obtain rfl : c' = c := (by have := hat.symm.trans HC.out; injection this with this; injection this); clear hat; rw [HB.out])
  | (at_delete; refine wpList_delete_own _ rfl _ _ 128 148 rfl 3 scaleLaw Tryz.underlying128 _ bm n D rfl hown _ _ rfl HK.out ?_; intro w1 hown1 hturn1))
 go_ret2
 exact ⟨rfl, hown1, hturn1.grown⟩
def Fr (g bm : Nat) (w w' : World) : Prop := w.heap.size ≤ w'.heap.size ∧ ∀ b, b < w.heap.size → b ≠ g → b ≠ bm → w'.heap[b]? = w.heap[b]?
theorem Fr.trans {g bm : Nat} {a b c : World} (h : Fr g bm a b) (k : Fr g bm b c) : Fr g bm a c := ⟨Nat.le_trans h.1 k.1, fun x hx h1 h2 => (k.2 x (Nat.lt_of_lt_of_le hx h.1) h1 h2).trans (h.2 x hx h1 h2)⟩
theorem Fr.set (g bm i : Nat) (w : World) (u : Value) : Fr g bm w (w.setCell ⟨g, i, none⟩ u) := ⟨by simp [World.setCell], fun b _ h1 _ => Below.heap_setCell w ⟨g, i, none⟩ u b h1⟩
theorem Fr.turn {g bm : Nat} {w w' : World} (h : w.grownBy w' (some bm)) : Fr g bm w w' := ⟨h.size, fun b hb _ h2 => h.block b hb (fun e => h2 (by injection e))⟩
def RoomP (R g bm : Nat) (v1 v2 : Value) (s : PS) (sl : List Nat) (N k : Nat) (w : World) (e : Ending) (w' : World) : Prop :=
 e = .returned (.int .i64 ((roomF k s.ls).1 : Int)) ∧ Pl w' R g bm v1 v2 { s with ls := (roomF k s.ls).2 } sl (N + k) ∧ Below R w w' ∧ Fr g bm w w'
theorem keyI_of {c : Int} {k : Nat} (h : c + k = 6) : keyI k = .int .i64 c := by unfold keyI; congr 1; omega
theorem room_any (R g bm : Nat) (v1 v2 : Value) (s : PS) (sl : List Nat) (N : Nat) (hN : N ≤ 1000) (hbd : LBd 40 s.ls) : ∀ (k : Nat) (c : Int) (w : World), c + k = 6 → k ≤ 6 → Pl w R g bm v1 v2 s sl N →
 Calls Tryz.prog 105 #[.pointer (some ⟨g, 0, none⟩), .int .i64 c] w (RoomP R g bm v1 v2 s sl N k w)
 | 0, c, w, hc, _, h => by
   obtain rfl : c = 6 := by omega
   have h1 := h.set_ 0 (.int .i64 ((s.ls.words : Int) + 1)) { s with ls := ⟨s.ls.words + 1, s.ls.hole⟩ } (by simp [planCells]) rfl rfl
   have H1 := Lib.hid h1
   have hwd : s.ls.words ≤ 40 := hbd.1
   obtain ⟨c0, c1, c2, c3, c4, c5, c6, c7⟩ := h.cells
   have hfz := row_free h.row 0
   have HB : Hid (Below R w (w.setCell ⟨g, 0, none⟩ (.int .i64 ((s.ls.words : Int) + 1)))) := Lib.hid (h.set_below (Below.refl _ _) 0 _)
   clear h h1 c1 c2 c3 c5 c6 c7
   go_enter Tryz.func105, Tryz.ntmps105
   go_wp2
   go_ret
   exact ⟨ret_int rfl, H1.out, HB.out, Fr.set g bm 0 w _⟩
 | k + 1, c, w, hc, hk, h => by
   obtain ⟨n, D, hn, hm, hd⟩ := h.holes
   have hkey := keyI_of hc
   have h61 : (c == 6) = false := by simp; omega
   have hr := h.rs
   obtain ⟨c0, c1, c2, c3, c4, c5, c6, c7⟩ := h.cells
   have hc0 : 0 ≤ c := by omega
   have hc5 : c ≤ 5 := by omega
   clear c0 c1 c2 c3 c5 c6 c7
   by_cases h0 : s.ls.hole (k + 1) = 0
   · obtain ⟨hh, _⟩ := hd.2 (k + 1) (by omega) hk
     have hhas := hh h0
     have hat := Maps.atKey_of_not_has hhas (.lit (.int .i64 0))
     have hdel : D.del (keyI (k + 1)) = D := Maps.del_of_not_has hhas
     rw [hkey] at hhas hat hdel
     have HM := Lib.hid (room_miss k s.ls h0)
     have HT := Lib.hid (take_any bm n D c 0 false w hm (by omega) (by omega) hhas hat)
     have HH := Lib.hid h
     have HD := Lib.hid hd
     have HL := Lib.hid hdel
     have HK := Lib.hid hkey
     have HN := Lib.hid hn
     have HC := Lib.hid hc
     have HBD := Lib.hid hbd
     clear hh hhas hat hdel hd h0 hm h hkey hn hc hbd
     go_enter Tryz.func105, Tryz.ntmps105
     go_wp2_with fail
     refine HT.out.mono ?_
     rintro e w1 ⟨rfl, hown1, hg1⟩
     rw [HL.out] at hown1
     have hp1 := HH.out.turn hg1 hown1 (Nat.le_refl n) HD.out
     have hp1' : Pl w1 R g bm v1 v2 s sl N := hp1.mono HN.out
     have HP1 := Lib.hid hp1'
     have HB1 := Lib.hid (turn_below hg1 HH.out.rb hr)
     have HFR1 : Hid (Fr g bm w w1) := Lib.hid (Fr.turn hg1)
     clear hown1 hg1 hp1 hp1'
     have hbm : c + 1 + (k : Int) = 6 := by have := HC.out; omega
     have IH := room_any R g bm v1 v2 s sl N hN HBD.out k (c + 1) w1 hbm (by omega) HP1.out
     have IHH := Lib.hid IH
     have hbr := (room_bd7 HBD.out (k := k) (by omega))
     clear IH hbm
     go_wp2_with fail
     refine IHH.out.mono ?_
     rintro e w2 ⟨rfl, hp2, hb2, hfr2⟩
     have HFR2 := Lib.hid hfr2
     clear hfr2
     obtain ⟨n2, D2, hn2, hm2, hd2⟩ := hp2.holes
     obtain ⟨d0, d1, d2, d3, d4, d5, d6, d7⟩ := hp2.cells
     have HP2 := Lib.hid hp2
     have HB2 := Lib.hid hb2
     have HM2 := Lib.hid hm2
     have HD2 := Lib.hid hd2
     have hnn : n2 ≤ 1010 := by omega
     have HN2 := Lib.hid hn2
     have hr2 := hp2.rs
     clear d0 d1 d2 d3 d5 d6 d7 hp2 hb2 hm2 hd2 hn2
     obtain ⟨q, hq⟩ : ∃ q, q = (roomF k s.ls).1 := ⟨_, rfl⟩
     rw [← hq] at hbr ⊢
     have HQ := Lib.hid hq
     clear hq
     go_wp2_with (at_mapUpdate; refine wpList_mapUpdate_own _ rfl _ _ _ 128 rfl 148 3 scaleLaw Tryz.underlying128 _ bm n2 D2 rfl HM2.out (by unfold maxLen; omega) _ _ (.int .i64 c) rfl rfl (scaleKey hc0 (by omega)) (.lit (.int .i64 (2 * (q : Int) + 1))) [] (plainElem_int Tryz.underlying3 (wf_mk (by omega) (by omega))) ?_; intro w3 hown3 hg3)
     go_ret
     refine ⟨ret_int ?_, ?_, (HB1.out.trans HB2.out).trans (turn_below hg3 HH.out.rb hr2), (HFR1.out.trans HFR2.out).trans (Fr.turn hg3)⟩
     · rw [HM.out]
       show 2 * (q : Int) = ((2 * (roomF k s.ls).1 : Nat) : Int)
       rw [← HQ.out]; omega
     · have hpq := HP2.out.turn hg3 hown3 (M := N + (k + 1)) (by have := HN2.out; omega) (h' := upd (roomF k s.ls).2.hole (k + 1) (2 * q + 1)) (by
        have := HD2.out.put (k + 1) (2 * q + 1) (by omega)
        rw [HK.out] at this
        exact this)
       rw [HM.out, ← HQ.out]
       exact hpq
   · obtain ⟨_, hh⟩ := hd.2 (k + 1) (by omega) hk
     obtain ⟨hhas, hat⟩ := hh h0
     have hat0 := hat (.lit (.int .i64 0))
     rw [hkey] at hhas hat0
     have HM := Lib.hid (room_hit k s.ls h0)
     have HT := Lib.hid (take_any bm n D c _ true w hm (by omega) (by omega) hhas hat0)
     have HH := Lib.hid h
     have HD := Lib.hid (hd.del (k + 1))
     have HK := Lib.hid hkey
     have HN := Lib.hid hn
     clear hh hhas hat hat0 hd h0 hm h hkey hn hc
     go_enter Tryz.func105, Tryz.ntmps105
     go_wp2_with fail
     refine HT.out.mono ?_
     rintro e w1 ⟨rfl, hown1, hg1⟩
     rw [← HK.out] at hown1
     have HP1 := Lib.hid (HH.out.turn hg1 hown1 (Nat.le_refl n) HD.out)
     have HB1 := Lib.hid (turn_below hg1 HH.out.rb hr)
     have HFR1 : Hid (Fr g bm w w1) := Lib.hid (Fr.turn hg1)
     clear hown1 hg1
     go_wp2
     go_ret
     rw [RoomP, HM.out]
     exact ⟨rfl, HP1.out.mono (by have := HN.out; omega), HB1.out, HFR1.out⟩
end Go.Proofs.YtehhbbdaeonebaaGreatDoor
namespace Go.Proofs.YtehhbbdaeonebaaGreatDoor
open Go.RowKit
structure Tab (w : World) : Prop where
 t0 : w.cell? ⟨2, 0, none⟩ = some (.int .u8 0)
 t3 : w.cell? ⟨2, 7, none⟩ = some (.int .u8 3)
 t4 : w.cell? ⟨2, 15, none⟩ = some (.int .u8 4)
 t5 : w.cell? ⟨2, 31, none⟩ = some (.int .u8 5)
 t6 : w.cell? ⟨2, 63, none⟩ = some (.int .u8 6)
theorem Tab.below {R : Nat} {w w' : World} (h : Tab w) (hb : Below R w w') (hR : 2 < R) : Tab w' :=
 ⟨(hb.cell (p := ⟨2, 0, none⟩) hR).trans h.t0, (hb.cell (p := ⟨2, 7, none⟩) hR).trans h.t3, (hb.cell (p := ⟨2, 15, none⟩) hR).trans h.t4, (hb.cell (p := ⟨2, 31, none⟩) hR).trans h.t5, (hb.cell (p := ⟨2, 63, none⟩) hR).trans h.t6⟩
theorem tz_any (a s : Int) (w : World) (h : Tab w) (ha : (a = 1 ∧ s = 0) ∨ (a = 8 ∧ s = 3) ∨ (a = 16 ∧ s = 4) ∨ (a = 32 ∧ s = 5) ∨ (a = 64 ∧ s = 6)) :
 Calls Tryz.prog 144 #[.int .u64 a] w fun e w' => e = .returned (.int .i64 s) ∧ w = w' := by
 obtain ⟨t0, t3, t4, t5, t6⟩ := h
 rcases ha with ⟨rfl, rfl⟩ | ⟨rfl, rfl⟩ | ⟨rfl, rfl⟩ | ⟨rfl, rfl⟩ | ⟨rfl, rfl⟩
 · have e1 : IntKind.u64.wrap (-1) = 18446744073709551615 := by decide
   have e2 : bits .and .u64 1 18446744073709551615 = 1 := by decide
   have e3 : IntKind.u64.wrap 285870213051353865 = 285870213051353865 := by decide
   have e4 : (285870213051353865 : Int) / 288230376151711744 = 0 := by decide
   go_enter Tryz.func144, Tryz.ntmps144
   go_wp2
   go_ret
   exact ⟨rfl, rfl⟩
 · have e1 : IntKind.u64.wrap (-8) = 18446744073709551608 := by decide
   have e2 : bits .and .u64 8 18446744073709551608 = 8 := by decide
   have e3 : IntKind.u64.wrap 2286961704410830920 = 2286961704410830920 := by decide
   have e4 : (2286961704410830920 : Int) / 288230376151711744 = 7 := by decide
   go_enter Tryz.func144, Tryz.ntmps144
   go_wp2
   go_ret
   exact ⟨rfl, rfl⟩
 · have e1 : IntKind.u64.wrap (-16) = 18446744073709551600 := by decide
   have e2 : bits .and .u64 16 18446744073709551600 = 16 := by decide
   have e3 : IntKind.u64.wrap 4573923408821661840 = 4573923408821661840 := by decide
   have e4 : (4573923408821661840 : Int) / 288230376151711744 = 15 := by decide
   go_enter Tryz.func144, Tryz.ntmps144
   go_wp2
   go_ret
   exact ⟨rfl, rfl⟩
 · have e1 : IntKind.u64.wrap (-32) = 18446744073709551584 := by decide
   have e2 : bits .and .u64 32 18446744073709551584 = 32 := by decide
   have e3 : IntKind.u64.wrap 9147846817643323680 = 9147846817643323680 := by decide
   have e4 : (9147846817643323680 : Int) / 288230376151711744 = 31 := by decide
   go_enter Tryz.func144, Tryz.ntmps144
   go_wp2
   go_ret
   exact ⟨rfl, rfl⟩
 · have e1 : IntKind.u64.wrap (-64) = 18446744073709551552 := by decide
   have e2 : bits .and .u64 64 18446744073709551552 = 64 := by decide
   have e3 : IntKind.u64.wrap 18295693635286647360 = 18295693635286647360 := by decide
   have e4 : (18295693635286647360 : Int) / 288230376151711744 = 63 := by decide
   go_enter Tryz.func144, Tryz.ntmps144
   go_wp2
   go_ret
   exact ⟨rfl, rfl⟩
theorem tzu_any (a s : Int) (w : World) (h : Tab w) (ha : (a = 1 ∧ s = 0) ∨ (a = 8 ∧ s = 3) ∨ (a = 16 ∧ s = 4) ∨ (a = 32 ∧ s = 5) ∨ (a = 64 ∧ s = 6)) :
 Calls Tryz.prog 126 #[.int .u64 a] w fun e w' => e = .returned (.int .i64 s) ∧ w = w' := by
 have HT := Lib.hid (tz_any a s w h ha)
 clear h
 rcases ha with ⟨rfl, rfl⟩ | ⟨rfl, rfl⟩ | ⟨rfl, rfl⟩ | ⟨rfl, rfl⟩ | ⟨rfl, rfl⟩
 all_goals
  go_enter Tryz.func126, Tryz.ntmps126
  go_wp2_with (go_at_call 144; go_must (refine HT.out.mono ?_); rintro e w2 ⟨rfl, rfl⟩)
  go_ret
  exact ⟨rfl, rfl⟩
def scI (z : Int) : Int := 6 - (kOf z : Int)
theorem scaleOf_any (z : Int) (w : World) (h : Tab w) (h0 : 1 ≤ z) (h1 : z ≤ 5) :
 Calls Tryz.prog 106 #[.int .i64 z] w fun e w' => e = .returned (.int .i64 (scI z)) ∧ w = w' := by
 have hz : z = 1 ∨ z = 2 ∨ z = 3 ∨ z = 4 ∨ z = 5 := by omega
 have H1 := Lib.hid (tzu_any 1 0 w h (by decide))
 have H2 := Lib.hid (tzu_any 8 3 w h (by decide))
 have H3 := Lib.hid (tzu_any 16 4 w h (by decide))
 have H4 := Lib.hid (tzu_any 32 5 w h (by decide))
 have H5 := Lib.hid (tzu_any 64 6 w h (by decide))
 clear h
 rcases hz with rfl | rfl | rfl | rfl | rfl
 all_goals
  go_enter Tryz.func106, Tryz.ntmps106
  go_wp2_with fail
  refine (sizeBits_any _ _ (by decide) (by decide)).mono ?_
  rintro e w1 ⟨rfl, rfl⟩
  simp only [show bitsAll 1 = 1 from rfl, show bitsAll 2 = 8 from rfl, show bitsAll 3 = 16 from rfl, show bitsAll 4 = 32 from rfl, show bitsAll 5 = 64 from rfl]
  go_wp2_with (go_at_call 126; (first | (with_reducible refine H1.out.mono ?_) | (with_reducible refine H2.out.mono ?_) | (with_reducible refine H3.out.mono ?_) | (with_reducible refine H4.out.mono ?_) | (with_reducible refine H5.out.mono ?_)); rintro e w2 ⟨rfl, rfl⟩)
  go_ret
  exact ⟨ret_int (by decide), rfl⟩
theorem Pl.drew {w : World} {R g bm : Nat} {v1 v2 : Value} {s : PS} {sl : List Nat} {N : Nat} (h : Pl w R g bm v1 v2 s sl N) : Pl w.drew R g bm v1 v2 s sl N := ⟨h.row, h.rg, h.rb, h.slots, h.shared, h.holes⟩
theorem Pl.alloc {w : World} {R g bm : Nat} {v1 v2 : Value} {s : PS} {sl : List Nat} {N : Nat} (h : Pl w R g bm v1 v2 s sl N) (o : Obj) : Pl (w.alloc o) R g bm v1 v2 s sl N := h.below ((Below.refl _ _).alloc (Nat.le_refl _) o)
def PlaceP (R g bm : Nat) (v1 v2 : Value) (a : Nat) (s' : PS) (sl : List Nat) (N : Nat) (w : World) (e : Ending) (w' : World) : Prop :=
 e = .returned (.int .i64 (a : Int)) ∧ Pl w' R g bm v1 v2 s' sl N ∧ Below R w w'
theorem nextPointer_any (R g bm : Nat) (v1 v2 : Value) (s : PS) (sl : List Nat) (N : Nat) (hp : s.ptrs ≤ 1000) (w : World) (h : Pl w R g bm v1 v2 s sl N) :
 Calls Tryz.prog 109 #[.pointer (some ⟨g, 0, none⟩)] w (PlaceP R g bm v1 v2 (ptrF s).1 (ptrF s).2 sl N w) := by
 have h1 := h.set_ 1 (.int .i64 ((s.ptrs : Int) + 1)) { s with ptrs := s.ptrs + 1 } (by simp [planCells]) rfl rfl
 have H1 := Lib.hid h1
 obtain ⟨c0, c1, c2, c3, c4, c5, c6, c7⟩ := h.cells
 have hfz := row_free h.row 1
 have HB := Lib.hid (h.set_below (Below.refl R w) 1 (.int .i64 ((s.ptrs : Int) + 1)))
 clear h h1 c0 c2 c3 c4 c5 c6 c7
 go_enter Tryz.func109, Tryz.ntmps109
 go_wp2
 go_ret
 exact ⟨ret_int rfl, H1.out, HB.out⟩
theorem sharedPointer_any (R g bm : Nat) (v1 v2 : Value) (s : PS) (sl : List Nat) (N : Nat) (hp : s.ptrs ≤ 1000) (w : World) (h : Pl w R g bm v1 v2 s sl N) :
 Calls Tryz.prog 107 #[.pointer (some ⟨g, 0, none⟩)] w (PlaceP R g bm v1 v2 (sharePtrF s).1 (sharePtrF s).2 sl N w) := by
 obtain ⟨c0, c1, c2, c3, c4, c5, c6, c7⟩ := h.cells
 by_cases hq : s.point < 0
 · have HC := Lib.hid (nextPointer_any R g bm v1 v2 s sl N hp w h)
   have HE : Hid (sharePtrF s = (s.ptrs, { s with ptrs := s.ptrs + 1, point := s.ptrs })) := by refine Lib.hid ?_; rw [sharePtrF, if_pos hq]
   clear h c0 c1 c2 c3 c4 c5 c6
   go_enter Tryz.func107, Tryz.ntmps107
   go_wp2_with fail
   refine HC.out.mono ?_
   rintro e w1 ⟨rfl, hp1, hb1⟩
   have h1 := hp1.set_ 7 (.int .i64 (s.ptrs : Int)) { s with ptrs := s.ptrs + 1, point := s.ptrs } (by simp [planCells, ptrF]) rfl rfl
   have H1 := Lib.hid h1
   have hfz := row_free hp1.row 7
   have d7 := hp1.cells.2.2.2.2.2.2.2
   have HB := Lib.hid (hp1.set_below hb1 7 (.int .i64 (s.ptrs : Int)))
   clear hp1 hb1 h1
   simp only [ptrF]
   go_wp2
   go_ret
   rw [PlaceP, HE.out]
   exact ⟨rfl, H1.out, HB.out⟩
 · have HE : Hid (sharePtrF s = (s.point.toNat, s)) := by refine Lib.hid ?_; rw [sharePtrF, if_neg hq]
   have HH := Lib.hid h
   have h0 : 0 ≤ s.point := by omega
   clear h c0 c1 c2 c3 c4 c5 c6
   go_enter Tryz.func107, Tryz.ntmps107
   go_wp2
   go_ret
   rw [PlaceP, HE.out]
   exact ⟨ret_int (by show s.point = ((s.point.toNat : Nat) : Int); omega), HH.out, Below.refl _ _⟩
theorem start_any (sc c : Int) (a d : Nat) (w : World) (hd : sc - c = d) (hd6 : d ≤ 6) (ha : a ≤ 100000) (h0 : 0 ≤ c) (h1 : sc ≤ 6) :
 Calls Tryz.prog 127 #[.agg #[.int .i64 sc, .int .i64 (a : Int)], .int .i64 c] w fun e w' => e = .returned (.int .i64 ((a * 2 ^ d : Nat) : Int)) ∧ Below w.heap.size w w' := by
 have hdd : d = 0 ∨ d = 1 ∨ d = 2 ∨ d = 3 ∨ d = 4 ∨ d = 5 ∨ d = 6 := by omega
 rcases hdd with rfl | rfl | rfl | rfl | rfl | rfl | rfl
 all_goals
  simp only [Int.cast_ofNat_Int] at hd
  go_enter Tryz.func127, Tryz.ntmps127
  go_wp2
  go_ret
  exact ⟨ret_int (by omega), (Below.refl _ _).alloc (Nat.le_refl _) _⟩
end Go.Proofs.YtehhbbdaeonebaaGreatDoor
