/- The program's place of a field. -/
import Derived.Test.YtfgebmmnlneciaaDoorPlanQ2
namespace Go.Proofs.YtfgebmmnlneciaaDoor
open Go.RowKit
theorem scI_k (z : Int) : scI z + (kOf z : Int) = 6 := by unfold scI; omega
theorem pbm_shared {n : Nat} {s : PS} (h : PBm n s) (hn : n ≤ 12) : ∀ r ∈ s.shared, r.1 ≤ 6 ∧ r.2 ≤ 100000 := fun r hr => by
  obtain ⟨h1, h2⟩ := h.shared r hr
  have h3 : 2 ^ r.1 ≤ 2 ^ 6 := Nat.pow_le_pow_right (by decide) h1
  have h4 : 2 ^ r.1 * (2 * n + 1) ≤ 2 ^ 6 * (2 * n + 1) := Nat.mul_le_mul_right _ h3
  simp only [show (2 : Nat) ^ 6 = 64 from rfl] at h4
  exact ⟨h1, by omega⟩
theorem place_ns {f : Fld} {s : PS} (hc : f.choice = false) (hp : f.size ≠ 6) : placeF f s = dataF (kOf f.size) s := by
  unfold placeF tagF; rw [if_neg hp, hc]; rfl
theorem place_np {f : Fld} {s : PS} (hc : f.choice = false) (hp : f.size = 6) : placeF f s = ptrF s := by
  unfold placeF tagF; rw [if_pos hp, hc]; rfl
theorem place_cs {f : Fld} {s : PS} (hc : f.choice = true) (hp : f.size ≠ 6) : placeF f s = shareF (kOf f.size) (tagF true s) := by
  unfold placeF; rw [if_neg hp, hc]; rfl
theorem place_cp {f : Fld} {s : PS} (hc : f.choice = true) (hp : f.size = 6) : placeF f s = sharePtrF (tagF true s) := by
  unfold placeF; rw [if_pos hp, hc]; rfl
theorem tag_two {s : PS} (h : s.many + 1 = 2) : tagF true s = { s with many := s.many + 1, ls := (roomF 2 s.ls).2, tag := (roomF 2 s.ls).1 } := by unfold tagF; rw [if_pos rfl, if_pos h]
theorem tag_not {s : PS} (h : s.many + 1 ≠ 2) : tagF true s = { s with many := s.many + 1 } := by unfold tagF; rw [if_pos rfl, if_neg h]
set_option maxHeartbeats 4000000 in
set_option maxRecDepth 100000 in
theorem place_n (R g bm n : Nat) (v1 v2 : Value) (s : PS) (sl : List Nat) (N : Nat) (hN : N ≤ 900) (hR : 1 < R) (hbd : PBd n s) (hn : n ≤ 12) (z el : Int) (hz0 : 1 ≤ z) (hz1 : z ≤ 6) (w : World) (ht : Tab w) (h : Pl w R g bm v1 v2 s sl N) :
    Calls Tryd.prog 30 #[.pointer (some ⟨g, 0, none⟩), .agg #[.int .i64 z, .bool false, .int .i64 el]] w (ShareP R g bm v1 (placeF ⟨z, false, el⟩ s).1 (placeF ⟨z, false, el⟩ s).2 sl (N + 12) w) := by
  have HBA := Lib.hid ((Below.refl R w).alloc h.rs (.cells #[.int .i64 z, .bool false, .int .i64 el] 43))
  have HTA := Lib.hid (ht.below HBA.out hR)
  have HH := Lib.hid (h.alloc (.cells #[.int .i64 z, .bool false, .int .i64 el] 43))
  have HBD := Lib.hid hbd
  have hg := h.lt
  clear h ht hbd
  by_cases hp : z = 6
  · subst hp
    have HE := Lib.hid (place_np (f := ⟨6, false, el⟩) (s := s) rfl rfl)
    go_enter Tryd.func30, Tryd.ntmps30
    go_wp2_with fail
    refine (nextPointer_any R g bm v1 v2 s sl N (by have := HBD.out.ptrs; omega) _ HH.out).mono ?_
    rintro e w1 ⟨rfl, hp1, hb1⟩
    have HP1 := Lib.hid hp1
    have HB1 := Lib.hid hb1
    clear hp1 hb1
    go_wp2
    go_ret
    refine ⟨v2, ?_⟩
    rw [PlaceP, HE.out]
    exact ⟨rfl, HP1.out.mono (by omega), HBA.out.trans HB1.out⟩
  · have HE := Lib.hid (place_ns (f := ⟨z, false, el⟩) (s := s) rfl hp)
    have hz6 : (z == 6) = false := by simpa using hp
    have hz5 : z ≤ 5 := by omega
    have HL : Hid (LBd 40 s.ls) := Lib.hid (HBD.out.ls.mono (by omega))
    have HRM := Lib.hid (room_any R g bm v1 v2 s sl N (by omega) HL.out (kOf z) (scI z) _ (scI_k z) (kOf_le z) HH.out)
    clear hp
    go_enter Tryd.func30, Tryd.ntmps30
    go_wp2_with fail
    refine (scaleOf_any z _ HTA.out hz0 hz5).mono ?_
    rintro e w1 ⟨rfl, rfl⟩
    go_wp2_with fail
    refine HRM.out.mono ?_
    rintro e w1 ⟨rfl, hp1, hb1, -⟩
    have HP1 := Lib.hid hp1
    have HB1 := Lib.hid hb1
    clear hp1 hb1
    go_wp2
    go_ret
    refine ⟨v2, ?_⟩
    rw [PlaceP, HE.out]
    exact ⟨rfl, HP1.out.mono (by have := kOf_le z; omega), HBA.out.trans HB1.out⟩
end Go.Proofs.YtfgebmmnlneciaaDoor
