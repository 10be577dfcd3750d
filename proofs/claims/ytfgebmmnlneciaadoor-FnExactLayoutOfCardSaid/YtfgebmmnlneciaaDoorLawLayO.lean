/- The walk of the exact law of LayoutOf. -/
import Derived.Test.YtfgebmmnlneciaaDoorSLayO
import Derived.Test.YtfgebmmnlneciaaDoorMarkL
import Derived.Test.YtfgebmmnlneciaaDoorLayI2
namespace Go.Proofs.YtfgebmmnlneciaaDoor
open Go.RowKit
theorem szF_big {n : Nat} (h : 1048576 < n) : szF n 1048576 = -1 := by unfold szF; rw [if_pos (by omega)]
theorem szF_small {n : Nat} (h : n ≤ 1048576) : szF n 1048576 = 1048576 - n := by unfold szF; rw [if_neg (by omega)]
theorem own_below1 {w w' : World} {B e n : Nat} {v : Value} {xs : List Value} (h : w.ownsRow B e 1 v n xs) (hb : Below w.heap.size w w') : w'.ownsRow B e 1 v n xs :=
  h.kept (row := none) ⟨hb.os, hb.tape, hb.output, hb.size, fun k hk _ => hb.block k hk⟩ (Classical.em _)
/-- The answer of LayoutOf, whether the fields are ok or not. -/
def LayU (d p t : Int) (sl : List Nat) (ok : Bool) (w : World) (e : Ending) (w' : World) : Prop :=
  ∃ A c, e = .returned (.tuple #[.agg #[.int .i64 d, .int .i64 p, .slice A sl.length c, .int .i64 t], .bool ok]) ∧ w'.ownsRow w.heap.size slotT 1 (.slice A sl.length c) sl.length (slotCells sl) ∧ Below w.heap.size w w'
theorem lay_u (l : List Fld) : ∃ (d p t : Int) (sl : List Nat) (ok : Bool), sl.length ≤ 2000 ∧ ∀ (w : World) e w', LayP l w e w' → LayU d p t sl ok w e w' := by
  cases hok : fldsOk l with
  | true =>
    refine ⟨((layF l ps0).2.ls.words : Int), ((layF l ps0).2.ptrs : Int), (layF l ps0).2.tag, (layF l ps0).1, true, by have := lay_length l ps0; have := fldsOk_len hok; omega, ?_⟩
    rintro w e w' (⟨_, v, rfl, hv, hb⟩ | ⟨hh, _⟩)
    · rw [← lay_length l ps0] at hv
      obtain ⟨A, c, rfl⟩ := own_slice2 hv
      exact ⟨A, c, rfl, hv, hb⟩
    · rw [hok] at hh; cases hh
  | false =>
    refine ⟨0, 0, 0, [], false, by simp, ?_⟩
    rintro w e w' (⟨hh, _⟩ | ⟨_, rfl, hb⟩)
    · rw [hok] at hh; cases hh
    · exact ⟨none, 0, rfl, ⟨by simp [slotCells], .inl ⟨rfl, rfl⟩⟩, hb⟩
theorem own_ne2 {w : World} {B C e n m : Nat} {v u : Value} {xs ys : List Value} (h : w.ownsRow C e 1 u m ys) (hb : ∀ g, v.ownBlock = some g → g < C) : u.ownBlock = none ∨ u.ownBlock ≠ v.ownBlock := by
  rcases h.2 with ⟨rfl, _⟩ | ⟨g, cap, cur, rfl, hC, hg, _⟩
  · exact .inl rfl
  · right
    intro he
    have := hb g he.symm
    omega
theorem own_lt2 {w : World} {B e n : Nat} {v : Value} {xs : List Value} (h : w.ownsRow B e 1 v n xs) : ∀ g, v.ownBlock = some g → B ≤ g ∧ g < w.heap.size := by
  rcases h.2 with ⟨rfl, _⟩ | ⟨g, cap, cur, rfl, hC, hg, _⟩
  · intro g h; cases h
  · intro g' h
    have : g = g' := by simpa [Value.ownBlock] using h
    subst this
    exact ⟨hC, row_lt hg⟩
theorem grown_below_opt {w w' : World} {R : Nat} {r : Option Nat} (hg : w.grownBy w' r) (hR : R ≤ w.heap.size) (h : ∀ g, r = some g → R ≤ g) : Below R w w' := ⟨hg.os, hg.tape, hg.output, hg.size, fun k hk => hg.block k (by omega) (fun he => by have := h k he.symm; omega)⟩

/-- all that is carried from world to world. -/
structure Car (w W : World) (B1 B2 : Nat) (v1 v2 : Value) (n1 n2 : Nat) (d p t : Int) (n : Nat) (xs1 xs2 : List Value) : Prop where
  below : Below w.heap.size w W
  o1 : W.ownsRow B1 slotT 1 v1 n xs1
  o2 : W.ownsRow B2 slotT 1 v2 n xs2
  b1 : W.heap[n1]? = some (.cells #[.int .i64 d, .int .i64 p, v1, .int .i64 t] 26 (0, 0))
  b2 : W.heap[n2]? = some (.cells #[.int .i64 d, .int .i64 p, v2, .int .i64 t] 26 (0, 0))
theorem slot_ne_lay : slotT ≠ 26 := by decide
theorem slot_ne_fld : slotT ≠ fieldT := by decide
theorem Car.next {w W W' : World} {B1 B2 : Nat} {v1 v2 : Value} {n1 n2 : Nat} {d p t : Int} {n : Nat} {xs1 xs2 : List Value} (h : Car w W B1 B2 v1 v2 n1 n2 d p t n xs1 xs2) (hb : Below W.heap.size W W') : Car w W' B1 B2 v1 v2 n1 n2 d p t n xs1 xs2 :=
  ⟨h.below.trans (hb.mono h.below.size), own_below1 h.o1 hb, own_below1 h.o2 hb, (hb.block _ (row_lt h.b1)).trans h.b1, (hb.block _ (row_lt h.b2)).trans h.b2⟩
theorem blk_ne {W : World} {g g' : Nat} {cs cs' : Array Value} {t t' : TypeId} (h : W.heap[g]? = some (.cells cs t (0, 0))) (h' : W.heap[g']? = some (.cells cs' t' (0, 0))) (hne : t ≠ t') : g ≠ g' := by
  rintro rfl
  rw [h] at h'
  injection h' with h'
  injection h' with _ ht
  exact hne ht
/-- the fields' row is written. -/
theorem Car.fields {w W W' : World} {B1 B2 : Nat} {v1 v2 : Value} {n1 n2 : Nat} {d p t : Int} {n : Nat} {xs1 xs2 : List Value} (h : Car w W B1 B2 v1 v2 n1 n2 d p t n xs1 xs2) {g : Nat} {arr : Array Value} (hr : W.heap[g]? = some (.cells arr fieldT (0, 0))) (hg : W.grownBy W' (some g)) (hw : w.heap.size ≤ g) : Car w W' B1 B2 v1 v2 n1 n2 d p t n xs1 xs2 where
  below := h.below.trans (grown_below_opt hg h.below.size (by rintro _ ⟨⟩; exact hw))
  o1 := h.o1.kept hg (.inr (own_ne_blk h.o1 hr slot_ne_fld))
  o2 := h.o2.kept hg (.inr (own_ne_blk h.o2 hr slot_ne_fld))
  b1 := (hg.block _ (row_lt h.b1) (fun he => blk_ne h.b1 hr (by decide) (Option.some.inj he))).trans h.b1
  b2 := (hg.block _ (row_lt h.b2) (fun he => blk_ne h.b2 hr (by decide) (Option.some.inj he))).trans h.b2
/-- the second answer's row is written. -/
theorem Car.marked {w W W' : World} {B1 B2 : Nat} {v1 v2 : Value} {n1 n2 : Nat} {d p t : Int} {n : Nat} {xs1 xs2 ys : List Value} (h : Car w W B1 B2 v1 v2 n1 n2 d p t n xs1 xs2) (hne : ∀ g, v1.ownBlock = some g → g < B2) (hw : w.heap.size ≤ B2) (ho : W'.ownsRow B2 slotT 1 v2 n ys) (hg : W.grownBy W' v2.ownBlock) : Car w W' B1 B2 v1 v2 n1 n2 d p t n xs1 ys where
  below := h.below.trans (grown_below_opt hg h.below.size (fun g he => Nat.le_trans hw (own_lt2 h.o2 g he).1))
  o1 := h.o1.kept hg (by
    cases hv : v1.ownBlock with
    | none => exact .inl rfl
    | some g => exact .inr (by intro he; have a := hne g hv; have b := (own_lt2 h.o2 g (he.symm)).1; omega))
  o2 := ho
  b1 := (hg.block _ (row_lt h.b1) (fun he => own_ne_blk h.o2 h.b1 slot_ne_lay he.symm)).trans h.b1
  b2 := (hg.block _ (row_lt h.b2) (fun he => own_ne_blk h.o2 h.b2 slot_ne_lay he.symm)).trans h.b2
set_option maxHeartbeats 16000000 in
set_option maxRecDepth 100000 in
theorem walkExactLayoutOf (w : World) (a : Option Addr) (len cap : Nat) (l : List Fld) (hlen : l.length = len) (h : Flds w a l) (hm : len ≤ maxLen) (ht : Tab w) :
    Calls Tryd.prog 3 #[.slice a len cap] w fun e w' => e = .returned (.bool true) ∧ Below w.heap.size w w' := by
  subst hlen
  have h1w : 1 < w.heap.size := World.block_lt_of_cell? w _ ht.t0
  have HM := Lib.hid hm
  by_cases hbig : 1048576 < l.length
  · have HS := Lib.hid (szF_big hbig)
    clear h ht
    go_enter Tryd.func3, Tryd.ntmps3
    go_wp2_with (go_at_call 11; go_must (refine (szFieldS_any a l.length cap 1048576 _ HM.out (by decide) (by decide)).mono ?_); rintro e w2 ⟨rfl, rfl⟩; rw [HS.out])
    go_ret
    exact ⟨rfl, Below.refl _ _⟩
  have hsm : l.length ≤ 1048576 := by omega
  have HS := Lib.hid (szF_small hsm)
  obtain ⟨d, p, t, sl, ok, hsl, hu⟩ := lay_u l
  have HIm : Hid (∀ (B : Option Addr) (c : Nat) (W : World), Below w.heap.size w W → Flds W B l → Calls Tryd.prog 14 #[.slice B l.length c] W (LayU d p t sl ok W)) :=
    Lib.hid fun B c W hb hf => (implLayoutOf_any B c l W (ht.below hb h1w) (by have := hb.size; omega) hf (by omega)).mono fun e w' h => hu W e w' h
  have HSp : Hid (∀ (B : Option Addr) (c : Nat) (W : World), Below w.heap.size w W → Flds W B l → Calls Tryd.prog 12 #[.slice B l.length c] W (LayU d p t sl ok W)) :=
    Lib.hid fun B c W hb hf => (specLayoutOf_any B c l W (by have := hb.size; omega) hf (by omega)).mono fun e w' h => hu W e w' h
  have HTo : Hid (∀ W : World, Below w.heap.size w W → Calls Tryd.prog 13 #[.slice a l.length cap] W (ToP l W)) := Lib.hid fun W hb => toFieldS_any a cap l W (h.below hb) (by omega)
  clear h ht hbig hm hu
  go_enter Tryd.func3, Tryd.ntmps3
  go_wp2_with fail
  refine (szFieldS_any a l.length cap 1048576 _ HM.out (by decide) (by decide)).mono ?_
  rintro e w0 ⟨rfl, rfl⟩
  rw [HS.out]
  go_wp2_with fail
  refine (HTo.out _ (Below.refl _ _)).mono ?_
  rintro e w1 ⟨g1, arr1, rfl, -, hr1, -, ha1, hb1⟩
  have HB1 := Lib.hid hb1
  have HC := Lib.hid (HSp.out (some ⟨g1, 0, none⟩) l.length w1 hb1 (farr_flds hr1 ha1))
  unfold LayU at HC
  clear hr1 ha1 hb1
  go_wp2_with fail
  refine HC.out.mono ?_
  clear HC
  rintro e w2 ⟨A1, c1, rfl, ho1, hb2⟩
  have HB2 := Lib.hid (HB1.out.trans (hb2.mono HB1.out.size))
  have HO1 := Lib.hid ho1
  clear ho1 hb2
  have HR1 := Lib.hid (heap_alloc_new w2 (.cells #[.int .i64 d, .int .i64 p, .slice A1 sl.length c1, .int .i64 t] 26))
  have hbx1 : Below w2.heap.size w2 (w2.alloc (.cells #[.int .i64 d, .int .i64 p, .slice A1 sl.length c1, .int .i64 t] 26)) := (Below.refl _ _).alloc (Nat.le_refl _) _
  have HB2a := Lib.hid (HB2.out.trans (hbx1.mono HB2.out.size))
  have HO1a := Lib.hid (own_below1 HO1.out hbx1)
  clear hbx1
  have HCT := Lib.hid (HTo.out _ HB2a.out)
  unfold ToP at HCT
  go_wp2_with fail
  refine HCT.out.mono ?_
  clear HCT
  rintro e w3 ⟨g3, arr3, rfl, hg3, hr3, hz3, ha3, hb3⟩
  have hlt3 : w2.heap.size < g3 := by simp at hg3; omega
  have HG3 : Hid (w.heap.size ≤ g3) := Lib.hid (by have := HB2.out.size; omega)
  have HR1b := Lib.hid ((hb3.block w2.heap.size (by simp)).trans HR1.out)
  have HB3 := Lib.hid (HB2a.out.trans (hb3.mono HB2a.out.size))
  have HO1b := Lib.hid (own_below1 HO1a.out hb3)
  have HX3 := Lib.hid hr3
  have HZ3 := Lib.hid hz3
  have HA3 := Lib.hid ha3
  clear hg3 hr3 hz3 ha3 hb3 hlt3 HR1 HB2a HO1a
  have HC := Lib.hid (HIm.out (some ⟨g3, 0, none⟩) l.length w3 HB3.out (farr_flds HX3.out HA3.out))
  unfold LayU at HC
  go_wp2_with fail
  refine HC.out.mono ?_
  clear HC
  rintro e w4 ⟨A2, c2, rfl, ho2, hb4⟩
  have hbx2 : Below w4.heap.size w4 (w4.alloc (.cells #[.int .i64 d, .int .i64 p, .slice A2 sl.length c2, .int .i64 t] 26)) := (Below.refl _ _).alloc (Nat.le_refl _) _
  have HNE := Lib.hid (fun g he => (own_lt2 HO1b.out g he).2)
  have HWB := Lib.hid HB3.out.size
  have HX4 := Lib.hid ((hbx2.block _ (by have := row_lt HX3.out; have := hb4.size; omega)).trans ((hb4.block _ (row_lt HX3.out)).trans HX3.out))
  have HCA := Lib.hid (Car.mk (HB3.out.trans ((hb4.mono HB3.out.size).trans (hbx2.mono (by have := HB3.out.size; have := hb4.size; omega)))) (own_below1 (own_below1 HO1b.out hb4) hbx2) (own_below1 ho2 hbx2) ((hbx2.block _ (by have := row_lt HR1b.out; have := hb4.size; omega)).trans ((hb4.block _ (row_lt HR1b.out)).trans HR1b.out)) (heap_alloc_new w4 _))
  clear hbx2 hb4 ho2 HB3 HO1b HR1b HX3 HB1 HB2 HO1
  obtain ⟨a0, a1, a2, a3⟩ := cells4 HCA.out.b1
  obtain ⟨b0, b1, b2, b3⟩ := cells4 HCA.out.b2
  go_wp2_with fail
  generalize hW : w4.alloc (.cells #[.int .i64 d, .int .i64 p, .slice A2 sl.length c2, .int .i64 t] 26) = W4 at *
  clear hW
  refine (eqLayout_any A2 A1 c2 c1 sl d p t W4 (SlotsR.of_own HCA.out.o2) (SlotsR.of_own HCA.out.o1) hsl).mono ?_
  rintro e w5 ⟨rfl, hb5⟩
  have HCA5 := Lib.hid (HCA.out.next hb5)
  have HX5 := Lib.hid ((hb5.block _ (row_lt HX4.out)).trans HX4.out)
  clear hb5 HCA HX4 a0 a1 a2 a3 b0 b1 b2 b3
  have HCT := Lib.hid (HTo.out _ HCA5.out.below)
  unfold ToP at HCT
  cases ok
  all_goals
    go_wp2_with fail
    refine HCT.out.mono ?_
    clear HCT
    rintro e w6 ⟨g6, arr6, rfl, hg6, hr6, -, ha6, hb6⟩
    have HX6 := Lib.hid ((hb6.block _ (row_lt HX5.out)).trans HX5.out)
    have HCA6 := Lib.hid (HCA5.out.next hb6)
    have HF6 := Lib.hid (farr_flds hr6 ha6)
    clear hg6 hr6 ha6 hb6
    go_wp2_with fail
    refine (eqFieldS_any _ _ l.length l.length l _ (farr_flds HX6.out HA3.out) HF6.out (by omega)).mono ?_
    rintro e w7 ⟨rfl, hb7⟩
    have HX7 := Lib.hid ((hb7.block _ (row_lt HX6.out)).trans HX6.out)
    have HCA7 := Lib.hid (HCA6.out.next hb7)
    clear hb7
    have HCM := Lib.hid (markFieldS_any g3 l.length l.length arr3 w7 HX7.out HZ3.out (by omega))
    unfold MFP at HCM
    have hq0 : 0 ≤ ((1 + 3 * l.length : Nat) : Int) := by omega
    have hq1 : ((1 + 3 * l.length : Nat) : Int) ≤ 10000000 := by omega
    generalize ((1 + 3 * l.length : Nat) : Int) = qq at *
    go_wp2_with fail
    refine HCM.out.mono ?_
    rintro e w8 ⟨rfl, hg8⟩
    have HCA8 := Lib.hid (HCA7.out.fields HX7.out hg8 HG3.out)
    clear hg8
    obtain ⟨a0, a1, a2, a3⟩ := cells4 HCA8.out.b1
    obtain ⟨b0, b1, b2, b3⟩ := cells4 HCA8.out.b2
    go_wp2_with fail
    refine (eqLayout_any A2 A1 c2 c1 sl d p t w8 (SlotsR.of_own HCA8.out.o2) (SlotsR.of_own HCA8.out.o1) hsl).mono ?_
    rintro e w9 ⟨rfl, hb9⟩
    have HCA9 := Lib.hid (HCA8.out.next hb9)
    clear hb9 a0 a1 a2 a3 b0 b1 b2 b3
    obtain ⟨b0, b1, b2, b3⟩ := cells4 HCA9.out.b2
    have HCM := Lib.hid (markLayout_any _ (.slice A2 sl.length c2) sl.length 1 d p t _ w9 ⟨_, _, rfl⟩ HCA9.out.o2 hsl (by decide))
    unfold MarkP at HCM
    have HHE : Hid (∀ W : World, SlotsR W A2 (markL 1 sl.length) → Calls Tryd.prog 19 #[.agg #[.int .i64 d, .int .i64 p, .slice A2 sl.length c2, .int .i64 t], .int .i64 1] W fun e w' => e = .returned (.int .i64 ((1 + sl.length : Nat) : Int)) ∧ Below W.heap.size W w') := Lib.hid fun W hs => heldLayout_any A2 c2 sl.length 1 d p t W hs hsl (by decide)
    have HML := Lib.hid (markL_length 1 sl.length)
    have hm0 : 0 ≤ ((1 + sl.length : Nat) : Int) := by omega
    generalize ((1 + sl.length : Nat) : Int) = mm at *
    go_wp2_with fail
    refine HCM.out.mono ?_
    rintro e w10 ⟨rfl, ho10, hg10⟩
    have HCA10 := Lib.hid (HCA9.out.marked HNE.out HWB.out ho10 hg10)
    clear ho10 hg10 b0 b1 b2 b3
    obtain ⟨b0, b1, b2, b3⟩ := cells4 HCA10.out.b2
    go_wp2_with fail
    refine (HHE.out w10 (SlotsR.of_own (n := sl.length) (cap := c2) (by rw [HML.out]; exact HCA10.out.o2))).mono ?_
    rintro e w11 ⟨rfl, hb11⟩
    have HCA11 := Lib.hid (HCA10.out.next hb11)
    clear hb11 b0 b1 b2 b3
    have HCT := Lib.hid (HTo.out _ HCA11.out.below)
    unfold ToP at HCT
    go_wp2_with fail
    refine HCT.out.mono ?_
    clear HCT
    rintro e w12 ⟨g12, arr12, rfl, -, hr12, -, ha12, hb12⟩
    have HCA12 := Lib.hid (HCA11.out.next hb12)
    have HC := Lib.hid (HIm.out (some ⟨g12, 0, none⟩) l.length w12 HCA12.out.below (farr_flds hr12 ha12))
    unfold LayU at HC
    clear hr12 ha12 hb12
    go_wp2_with fail
    refine HC.out.mono ?_
    clear HC
    rintro e w13 ⟨A3, c3, rfl, ho13, hb13⟩
    have hbx3 : Below w13.heap.size w13 (w13.alloc (.cells #[.int .i64 d, .int .i64 p, .slice A3 sl.length c3, .int .i64 t] 26)) := (Below.refl _ _).alloc (Nat.le_refl _) _
    have HCA13 := Lib.hid ((HCA12.out.next hb13).next hbx3)
    have HO13 := Lib.hid (own_below1 ho13 hbx3)
    have hn3 := heap_alloc_new w13 (.cells #[.int .i64 d, .int .i64 p, .slice A3 sl.length c3, .int .i64 t] 26)
    clear hbx3 hb13 ho13
    obtain ⟨a0, a1, a2, a3⟩ := cells4 HCA13.out.b1
    obtain ⟨b0, b1, b2, b3⟩ := cells4 hn3
    clear hn3
    go_wp2_with fail
    generalize hW : w13.alloc (.cells #[.int .i64 d, .int .i64 p, .slice A3 sl.length c3, .int .i64 t] 26) = W13 at *
    clear hW
    refine (eqLayout_any A3 A1 c3 c1 sl d p t W13 (SlotsR.of_own HO13.out) (SlotsR.of_own HCA13.out.o1) hsl).mono ?_
    rintro e w14 ⟨rfl, hb14⟩
    have HCA14 := Lib.hid (HCA13.out.next hb14)
    clear hb14 a0 a1 a2 a3 b0 b1 b2 b3
    obtain ⟨b0, b1, b2, b3⟩ := cells4 HCA14.out.b2
    go_wp2_with fail
    refine (HHE.out w14 (SlotsR.of_own (n := sl.length) (cap := c2) (by rw [HML.out]; exact HCA14.out.o2))).mono ?_
    rintro e w15 ⟨rfl, hb15⟩
    have HCA15 := Lib.hid (HCA14.out.next hb15)
    clear hb15
    go_wp2
    go_ret
    exact ⟨rfl, HCA15.out.below⟩
end Go.Proofs.YtfgebmmnlneciaaDoor
