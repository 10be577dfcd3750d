/- How many words a node takes by itself: the specification's word. -/
import Derived.Test.YtabipkpgmlmkcaaNdL4Ok
namespace Go.Proofs.Ytabipkpgmlmkcaa
open Go.RowKit
theorem below_drewN' {B : Nat} {a w : World} (h : Below B a w) (n : Nat) : Below B a (w.drewN n) := ⟨h.os, h.tape, h.output, h.size, h.block⟩
set_option maxHeartbeats 4000000 in
set_option maxRecDepth 100000 in
theorem l4Own_a (m : Nat) (n : Nd) (h : Hd) (w : World) (S : Nat → Prop) (hn : NdAt w S m n h) (hf : formN n = true) (ht : totN m n ≤ 2000000) :
    Calls Try.prog 62 #[.agg #[.int .i64 n.kind, .string n.data, .slice h.A n.ptrs.length h.a, .int .i64 n.size, .int .i64 n.count, .slice h.B n.items.length h.b]] w fun e w' => e = .returned (.int .i64 (ownN n : Nat)) ∧ Below w.heap.size w w' := by
  obtain ⟨qA, qa, qB, qb⟩ := h
  dsimp only at hn ⊢
  have hds : n.data.size ≤ 2000000 := by unfold totN at ht; omega
  have hpl : n.ptrs.length ≤ 2000000 := totL_len' hn.2.1 (by unfold totN at ht; omega)
  have hil : n.items.length ≤ 2000000 := totL_len' hn.2.2 (by unfold totN at ht; omega)
  rcases form_cases hf with hc | hc | hc
  · have HX : Hid (ownN n = 0) := Lib.hid (by unfold ownN ownB; rw [hc.2.1, hc.2.2.1, nil_of_len hc.2.2.2.2.2, hc.1]; rfl)
    have k1 : (n.kind == 1) = false := by rw [hc.1]; rfl
    have k2 : (n.kind != 2) = true := by rw [hc.1]; rfl
    clear hc hn ht hf
    go_enter Try.func62, Try.ntmps62
    go_wp2
    go_ret
    exact ⟨by rw [HX.out]; rfl, (Below.refl _ _).alloc (Nat.le_refl _) _⟩
  · have HX : Hid (((ownN n : Nat) : Int) = (n.data.size : Int) / 8 + n.ptrs.length) := Lib.hid (by
      have : ownN n = ownB n := by unfold ownN; rw [nil_of_len hc.2.2.2.2, if_neg (by omega)]; simp
      rw [this]; unfold ownB; have := hc.2.1; omega)
    have k1 : (n.kind == 1) = true := by rw [hc.1]; rfl
    clear hc hn ht hf
    go_enter Try.func62, Try.ntmps62
    go_wp2
    go_ret
    exact ⟨by rw [HX.out]; rfl, (Below.refl _ _).alloc (Nat.le_refl _) _⟩
  · obtain ⟨hk, hcc, hc⟩ := hc
    have k1 : (n.kind == 1) = false := by rw [hk]; rfl
    have k2 : (n.kind != 2) = false := by rw [hk]; rfl
    rcases hc with hc | hc | hc
    · have HX : Hid (((ownN n : Nat) : Int) = ((n.data.size : Int) + 7) / 8) := Lib.hid (by
        have : ownN n = ownB n := by unfold ownN; rw [nil_of_len hc.2.2.2.2, if_neg (by omega)]; simp
        rw [this]; unfold ownB; have := hc.2.2.2.1; omega)
      have z6 : (n.size == 6) = false := by rw [beq_eq_false_iff_ne]; omega
      have z7 : (n.size == 7) = false := by rw [beq_eq_false_iff_ne]; omega
      clear hc hn ht hf hk
      go_enter Try.func62, Try.ntmps62
      go_wp2
      go_ret
      exact ⟨by rw [HX.out]; rfl, (Below.refl _ _).alloc (Nat.le_refl _) _⟩
    · have HX : Hid (((ownN n : Nat) : Int) = n.count) := Lib.hid (by
        have : ownN n = ownB n := by unfold ownN; rw [nil_of_len hc.2.2.2, if_neg (by omega)]; simp
        rw [this]; unfold ownB; rw [hc.2.1]; have := hc.2.2.1; omega)
      have z6 : (n.size == 6) = true := by rw [hc.1]; rfl
      have z7 : (n.size == 7) = false := by rw [hc.1]; rfl
      clear hc hn ht hf hk
      go_enter Try.func62, Try.ntmps62
      go_wp2
      go_ret
      exact ⟨by rw [HX.out]; rfl, (Below.refl _ _).alloc (Nat.le_refl _) _⟩
    · have HX : Hid (ownN n = 1 + (n.items.map ownB).sum) := Lib.hid (by unfold ownN; rw [if_pos ⟨hk, hc.1⟩]; unfold ownB; rw [hc.2.1, hc.2.2.1])
      have HIT : Hid (∀ k (hk : k < n.items.length), ((n.items[k]).data.size : Int) % 8 = 0 ∧ (n.items[k]).data.size ≤ 2000000 ∧ (n.items[k]).ptrs.length ≤ 2000000) := Lib.hid fun k hk => by
        obtain ⟨h1, h2, h3⟩ := form_item hf _ (List.getElem_mem hk)
        obtain ⟨h4, h5⟩ := item_small hn.2.2 _ (List.getElem_mem hk)
        unfold totN at ht
        exact ⟨h2, by omega, by omega⟩
      have HSUM : Hid (∀ k, ((n.items.take k).map ownB).sum ≤ 2000000) := Lib.hid fun k => by
        have h1 := sum_take_le n.items ownB k
        have h2 := own_sum hn.2.2
        unfold totN at ht
        omega
      have z7 : (n.size == 7) = true := by rw [hc.1]; rfl
      have hba := (Below.refl w.heap.size w).alloc (Nat.le_refl _) (.cells #[.int .i64 n.kind, .string n.data, .slice qA n.ptrs.length qa, .int .i64 n.size, .int .i64 n.count, .slice qB n.items.length qb] nodeT)
      have HN := Lib.hid (NdsAt.succ _ _ _ (hn.2.2.below hba))
      have HBA := Lib.hid hba
      have HR := Lib.hid (heap_alloc_new w (.cells #[.int .i64 n.kind, .string n.data, .slice qA n.ptrs.length qa, .int .i64 n.size, .int .i64 n.count, .slice qB n.items.length qb] nodeT))
      have hsz : w.heap.size < (w.alloc (.cells #[.int .i64 n.kind, .string n.data, .slice qA n.ptrs.length qa, .int .i64 n.size, .int .i64 n.count, .slice qB n.items.length qb] nodeT)).heap.size := by simp
      clear hc hn ht hf hk hba
      go_enter Try.func62, Try.ntmps62
      go_wp2
      generalize w.alloc (.cells #[.int .i64 n.kind, .string n.data, .slice qA n.ptrs.length qa, .int .i64 n.size, .int .i64 n.count, .slice qB n.items.length qb] nodeT) = W at *
      go_loopw [3, 4] (fun q i wr => ∃ (k : Nat) (z : Int), q = .int .i64 z ∧ i = .int .i64 k ∧ k ≤ n.items.length ∧ 0 ≤ z ∧ z ≤ 6000000 ∧ Hid (z = ((1 + ((n.items.take k).map ownB).sum : Nat) : Int)) ∧ Hid (Below W.heap.size W wr)) (fun _ i _ => n.items.length - (intOf i).toNat)
      case atStart => exact ⟨0, _, rfl, rfl, by omega, by omega, by omega, Lib.hid (by simp), Lib.hid (Below.refl _ _)⟩
      case round =>
        obtain ⟨k, z, rfl, rfl, hk, hz0, hz, HZ, HB⟩ := hrel
        obtain ⟨a0, a1, a2, a3, a4, a5⟩ := cells6 ((HB.out.block _ hsz).trans HR.out)
        by_cases hlt : k < n.items.length
        · obtain ⟨x, yA, ya, yB, yb, rfl, hc, -, -, -⟩ := (HN.out.below HB.out).at6 hlt
          obtain ⟨i1, i2, i3⟩ := HIT.out k hlt
          have HS := Lib.hid (own_take n.items k hlt)
          generalize n.items[k] = y at hc i1 i2 i3 HS
          have HO : Hid (((ownB y : Nat) : Int) = (y.data.size : Int) / 8 + y.ptrs.length) := Lib.hid (by unfold ownB; omega)
          have hz2 : z + (y.data.size : Int) / 8 + y.ptrs.length ≤ 6000000 := by have := HZ.out; have := HS.out; have := HSUM.out (k + 1); have := HO.out; omega
          obtain ⟨d0, d1, d2, d3, d4, d5⟩ := hc
          dsimp only at d2 d5
          have hk2 : (k : Int) < (n.items.length : Int) := by omega
          clear i1
          go_wp2
          go_big_quiet (fail)
          go_wp2
          go_roundw
          case rel => exact ⟨k + 1, _, rfl, by go_num, by omega, by omega, hz2, Lib.hid (by rw [HZ.out, HS.out]; have := HO.out; omega), Lib.hid (below_drewN' HB.out _)⟩
          case measure => simp [intOf]; omega
        · obtain rfl : k = n.items.length := by omega
          rw [List.take_of_length_le (Nat.le_refl _)] at HZ
          have HBE := Lib.hid (HBA.out.trans (HB.out.mono HBA.out.size))
          go_wp2
          go_ret
          exact ⟨by rw [HX.out, HZ.out]; rfl, HBE.out⟩
end Go.Proofs.Ytabipkpgmlmkcaa
