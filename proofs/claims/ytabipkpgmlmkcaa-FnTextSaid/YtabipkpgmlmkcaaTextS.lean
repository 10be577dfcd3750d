/- TextOf: the specification's. -/
import Derived.Test.YtabipkpgmlmkcaaTextO
import Derived.Test.YtabipkpgmlmkcaaNdL4Ok
import Derived.Test.YtabipkpgmlmkcaaNdSpec
namespace Go.Proofs.Ytabipkpgmlmkcaa
open Go.RowKit
theorem none_ok {n : Nd} (hk : n.kind = 0) : nodeOk n = noneN n := by
  have h1 := ok_zero_kind (d := 8) hk
  unfold nodeOk
  rw [h1]
  cases hno : noneN n
  · rfl
  · have hf : formN n = true := by unfold formN; rw [hno, decide_eq_true hk]; rfl
    rw [(none_words (d := 8) hf hk).2]; rfl
set_option maxHeartbeats 4000000 in
set_option maxRecDepth 100000 in
theorem specTextOf_a (m : Nat) (n : Nd) (h : Hd) (w : World) (S : Nat → Prop) (hn : NdAt w S m n h) (ht : totN m n ≤ 2000000) (hsz : n.kind = 2 → n.data.size ≤ 1592) :
    Calls Try.prog 30 #[.agg #[.int .i64 n.kind, .string n.data, .slice h.A n.ptrs.length h.a, .int .i64 n.size, .int .i64 n.count, .slice h.B n.items.length h.b]] w (TxP n w) := by
  have hbx := (Below.refl w.heap.size w).alloc (Nat.le_refl _) (.cells #[.int .i64 n.kind, .string n.data, .slice h.A n.ptrs.length h.a, .int .i64 n.size, .int .i64 n.count, .slice h.B n.items.length h.b] nodeT)
  have HR0 := Lib.hid (heap_alloc_new w (.cells #[.int .i64 n.kind, .string n.data, .slice h.A n.ptrs.length h.a, .int .i64 n.size, .int .i64 n.count, .slice h.B n.items.length h.b] nodeT))
  have HBX := Lib.hid hbx
  have HNO : Hid (∀ W : World, Below (w.alloc (.cells #[.int .i64 n.kind, .string n.data, .slice h.A n.ptrs.length h.a, .int .i64 n.size, .int .i64 n.count, .slice h.B n.items.length h.b] nodeT)).heap.size (w.alloc (.cells #[.int .i64 n.kind, .string n.data, .slice h.A n.ptrs.length h.a, .int .i64 n.size, .int .i64 n.count, .slice h.B n.items.length h.b] nodeT)) W → Calls Try.prog 11 #[.agg #[.int .i64 n.kind, .string n.data, .slice h.A n.ptrs.length h.a, .int .i64 n.size, .int .i64 n.count, .slice h.B n.items.length h.b]] W fun e w' => e = .returned (.bool (nodeOk n)) ∧ Below W.heap.size W w') := Lib.hid fun W hW => specNodeOk_a m n h W S ((hn.below hbx).below hW) ht
  have hlt0 : w.heap.size < (w.alloc (.cells #[.int .i64 n.kind, .string n.data, .slice h.A n.ptrs.length h.a, .int .i64 n.size, .int .i64 n.count, .slice h.B n.items.length h.b] nodeT)).heap.size := by simp
  have HD : Hid (n.data.size ≤ maxLen) := Lib.hid hn.1
  have HXR : Hid (Below (w.alloc (.cells #[.int .i64 n.kind, .string n.data, .slice h.A n.ptrs.length h.a, .int .i64 n.size, .int .i64 n.count, .slice h.B n.items.length h.b] nodeT)).heap.size (w.alloc (.cells #[.int .i64 n.kind, .string n.data, .slice h.A n.ptrs.length h.a, .int .i64 n.size, .int .i64 n.count, .slice h.B n.items.length h.b] nodeT)) (w.alloc (.cells #[.int .i64 n.kind, .string n.data, .slice h.A n.ptrs.length h.a, .int .i64 n.size, .int .i64 n.count, .slice h.B n.items.length h.b] nodeT))) := Lib.hid (Below.refl _ _)
  have HSZ := Lib.hid hsz
  clear hbx hn ht hsz
  obtain ⟨a0, a1, a2, a3, a4, a5⟩ := cells6 HR0.out
  by_cases hk0 : n.kind = 0
  · have hk0b : (n.kind == 0) = true := by rw [hk0]; rfl
    have HK := Lib.hid hk0
    rw [none_ok hk0] at HNO
    clear hk0
    cases hno : noneN n
    · have HX := Lib.hid (tx_no (n := n) (by unfold noTx; rw [hno, Bool.and_false]) (tx_kind (by rw [HK.out]; decide)))
      rw [hno] at HNO
      clear hno
      go_enter Try.func30, Try.ntmps30
      go_wp2_with fail
      refine (HNO.out _ HXR.out).mono ?_
      rintro e w1 ⟨rfl, hb1⟩
      have HX1 := Lib.hid (HXR.out.trans (hb1.mono HXR.out.size))
      clear a0 a1 a2 a3 a4 a5 hb1
      obtain ⟨a0, a1, a2, a3, a4, a5⟩ := cells6 ((HX1.out.block _ hlt0).trans HR0.out)
      go_wp2_with fail
      refine (HNO.out _ HX1.out).mono ?_
      rintro e w2 ⟨rfl, hb2⟩
      have HX2 := Lib.hid (HX1.out.trans (hb2.mono HX1.out.size))
      clear a0 a1 a2 a3 a4 a5 hb2
      obtain ⟨a0, a1, a2, a3, a4, a5⟩ := cells6 ((HX2.out.block _ hlt0).trans HR0.out)
      go_wp2
      go_ret2
      exact ⟨by rw [HX.out.1, HX.out.2]; rfl, HBX.out.trans (HX2.out.mono HBX.out.size)⟩
    · have HX := Lib.hid (tx_none (n := n) (by unfold noTx; rw [hno, decide_eq_true HK.out]; rfl))
      rw [hno] at HNO
      clear hno
      go_enter Try.func30, Try.ntmps30
      go_wp2_with fail
      refine (HNO.out _ HXR.out).mono ?_
      rintro e w1 ⟨rfl, hb1⟩
      have HX1 := Lib.hid (HXR.out.trans (hb1.mono HXR.out.size))
      clear a0 a1 a2 a3 a4 a5 hb1
      obtain ⟨a0, a1, a2, a3, a4, a5⟩ := cells6 ((HX1.out.block _ hlt0).trans HR0.out)
      go_wp2
      go_ret2
      exact ⟨by rw [HX.out.1, HX.out.2]; rfl, HBX.out.trans (HX1.out.mono HBX.out.size)⟩
  have hk0b : (n.kind == 0) = false := by simpa using hk0
  have HK0 := Lib.hid (no_kind hk0)
  clear hk0
  cases hok : nodeOk n
  · have HX := Lib.hid (tx_no HK0.out (show isTx n = false by
      cases hi : isTx n with
      | false => rfl
      | true =>
        have hk : n.kind = 2 := by unfold isTx at hi; rw [Bool.and_eq_true, decide_eq_true_eq] at hi; exact hi.1.1
        rw [tx_ok hi (HSZ.out hk)] at hok; cases hok))
    rw [hok] at HNO
    clear hok
    go_enter Try.func30, Try.ntmps30
    go_wp2_with fail
    refine (HNO.out _ HXR.out).mono ?_
    rintro e w1 ⟨rfl, hb1⟩
    have HX1 := Lib.hid (HXR.out.trans (hb1.mono HXR.out.size))
    clear a0 a1 a2 a3 a4 a5 hb1
    obtain ⟨a0, a1, a2, a3, a4, a5⟩ := cells6 ((HX1.out.block _ hlt0).trans HR0.out)
    go_wp2
    go_ret2
    exact ⟨by rw [HX.out.1, HX.out.2]; rfl, HBX.out.trans (HX1.out.mono HBX.out.size)⟩
  have HOK := Lib.hid hok
  rw [hok] at HNO
  clear hok
  by_cases hk2 : n.kind = 2
  case neg =>
    have hk2b : (n.kind != 2) = true := by simpa using hk2
    have HX := Lib.hid (tx_no HK0.out (tx_kind hk2))
    clear hk2
    go_enter Try.func30, Try.ntmps30
    go_wp2_with fail
    refine (HNO.out _ HXR.out).mono ?_
    rintro e w1 ⟨rfl, hb1⟩
    have HX1 := Lib.hid (HXR.out.trans (hb1.mono HXR.out.size))
    clear a0 a1 a2 a3 a4 a5 hb1
    obtain ⟨a0, a1, a2, a3, a4, a5⟩ := cells6 ((HX1.out.block _ hlt0).trans HR0.out)
    go_wp2
    go_ret2
    exact ⟨by rw [HX.out.1, HX.out.2]; rfl, HBX.out.trans (HX1.out.mono HBX.out.size)⟩
  have hk2b : (n.kind != 2) = false := by simp [hk2]
  have HK2 := Lib.hid hk2
  clear hk2
  by_cases hs2 : n.size = 2
  case neg =>
    have hs2b : (n.size != 2) = true := by simpa using hs2
    have HX := Lib.hid (tx_no HK0.out (show isTx n = false by unfold isTx; rw [decide_eq_false (fun hc => hs2 hc.2.1)]; rfl))
    clear hs2
    go_enter Try.func30, Try.ntmps30
    go_wp2_with fail
    refine (HNO.out _ HXR.out).mono ?_
    rintro e w1 ⟨rfl, hb1⟩
    have HX1 := Lib.hid (HXR.out.trans (hb1.mono HXR.out.size))
    clear a0 a1 a2 a3 a4 a5 hb1
    obtain ⟨a0, a1, a2, a3, a4, a5⟩ := cells6 ((HX1.out.block _ hlt0).trans HR0.out)
    go_wp2
    go_ret2
    exact ⟨by rw [HX.out.1, HX.out.2]; rfl, HBX.out.trans (HX1.out.mono HBX.out.size)⟩
  have hs2b : (n.size != 2) = false := by simp [hs2]
  have HS2 := Lib.hid hs2
  obtain ⟨hcn, hp0, hi0⟩ := ok_bytes HOK.out HK2.out hs2
  have HTX : Hid (isTx n = txt n.data) := Lib.hid (by unfold isTx; rw [decide_eq_true ⟨HK2.out, hs2, hcn, hp0, hi0⟩, Bool.true_and])
  have hsm := HSZ.out HK2.out
  rw [hcn] at a4
  have HCN := Lib.hid hcn
  clear hs2
  by_cases hc0 : n.data.size = 0
  · have hc0b : (((n.data.size : Nat) : Int) == 0) = true := by simp [hc0]
    have HX := Lib.hid (tx_no HK0.out (show isTx n = false by rw [HTX.out]; unfold txt; rw [decide_eq_false (by omega)]; rfl))
    clear hc0 hp0 hi0 hcn
    go_enter Try.func30, Try.ntmps30
    go_wp2_with fail
    refine (HNO.out _ HXR.out).mono ?_
    rintro e w1 ⟨rfl, hb1⟩
    have HX1 := Lib.hid (HXR.out.trans (hb1.mono HXR.out.size))
    clear a0 a1 a2 a3 a4 a5 hb1
    obtain ⟨a0, a1, a2, a3, a4, a5⟩ := cells6 ((HX1.out.block _ hlt0).trans HR0.out)
    rw [HCN.out] at a4
    go_wp2
    go_ret2
    exact ⟨by rw [HX.out.1, HX.out.2]; rfl, HBX.out.trans (HX1.out.mono HBX.out.size)⟩
  have hc0b : (((n.data.size : Nat) : Int) == 0) = false := by simpa using hc0
  clear hp0 hi0 hcn
  go_enter Try.func30, Try.ntmps30
  go_wp2_with fail
  refine (HNO.out _ HXR.out).mono ?_
  rintro e w1 ⟨rfl, hb1⟩
  have HX1 := Lib.hid (HXR.out.trans (hb1.mono HXR.out.size))
  clear a0 a1 a2 a3 a4 a5 hb1
  obtain ⟨a0, a1, a2, a3, a4, a5⟩ := cells6 ((HX1.out.block _ hlt0).trans HR0.out)
  rw [HCN.out] at a4
  go_wp2_with fail
  go_loopw [4] (fun i wr => ∃ k : Nat, k ≤ n.data.size ∧ i = .int .i64 (k : Int) ∧ Hid (Below w1.heap.size w1 wr) ∧ Hid (∀ j (hj : j < n.data.size), j < k → (n.data[j] = 0 ↔ j = n.data.size - 1))) (fun i _ => (n.data.size - intOf i).toNat)
  case atStart => exact ⟨0, by omega, by simp, Lib.hid (Below.refl _ _), Lib.hid (fun j _ hj => by omega)⟩
  case round =>
    obtain ⟨k, hk, rfl, HB, HZ⟩ := hrel
    have hr := ((HB.out.block _ (by have := HX1.out.size; omega)).trans ((HX1.out.block _ hlt0).trans HR0.out))
    clear a0 a1 a2 a3 a4 a5
    obtain ⟨a0, a1, a2, a3, a4, a5⟩ := cells6 hr
    rw [HCN.out] at a4
    clear hr
    by_cases hlt : k < n.data.size
    · have HBD := Lib.hid (HB.out.trans ((show Below wr.heap.size wr wr.drew from ⟨rfl, rfl, rfl, Nat.le_refl _, fun _ _ => rfl⟩).mono HB.out.size))
      have hw1 : IntKind.i64.wrap ((n.data.size : Int) - 1) = (n.data.size : Int) - 1 := by rw [IntKind.wrap_i64]; omega
      by_cases hq : (n.data[k] = 0 ↔ k = n.data.size - 1)
      · by_cases hz : n.data[k] = 0
        · have hzb : (((n.data[k]).toNat : Int) == 0) = true := by simp [hz]
          have hkb : ((k : Int) == (n.data.size : Int) - 1) = true := by have := hq.1 hz; simp; omega
          have HQ := Lib.hid hq
          clear hq hz
          go_wp2
          go_region
          all_goals
            go_wp2
            go_roundw
            case rel =>
              refine ⟨k + 1, by omega, by go_num, HBD, Lib.hid fun j hj hjk => ?_⟩
              rcases Nat.lt_or_ge j k with hl | hge
              · exact HZ.out j hj hl
              · obtain rfl : j = k := by omega
                exact HQ.out
            case measure => simp [intOf]; omega
        · have hzb : (((n.data[k]).toNat : Int) == 0) = false := by
            rw [beq_eq_false_iff_ne]
            intro h
            exact hz (UInt8.toNat_inj.1 (by simpa using h))
          have hkb : ((k : Int) == (n.data.size : Int) - 1) = false := by
            rw [beq_eq_false_iff_ne]
            intro h
            exact hz (hq.2 (by omega))
          have HQ := Lib.hid hq
          clear hq hz
          go_wp2
          go_region
          all_goals
            go_wp2
            go_roundw
            case rel =>
              refine ⟨k + 1, by omega, by go_num, HBD, Lib.hid fun j hj hjk => ?_⟩
              rcases Nat.lt_or_ge j k with hl | hge
              · exact HZ.out j hj hl
              · obtain rfl : j = k := by omega
                exact HQ.out
            case measure => simp [intOf]; omega
      · have HX := Lib.hid (tx_no HK0.out (show isTx n = false by
          rw [HTX.out, Bool.eq_false_iff]
          intro h
          exact hq ((txt_iff.1 h).2 k hlt)))
        by_cases hz : n.data[k] = 0
        · have hzb : (((n.data[k]).toNat : Int) == 0) = true := by simp [hz]
          have hkb : ((k : Int) == (n.data.size : Int) - 1) = false := by
            rw [beq_eq_false_iff_ne]
            intro h
            exact hq ⟨fun _ => by omega, fun _ => hz⟩
          clear hq hz
          go_wp2
          go_region
          all_goals
            go_wp2
            go_ret2
            exact ⟨by rw [HX.out.1, HX.out.2]; rfl, HBX.out.trans ((HX1.out.trans (HBD.out.mono HX1.out.size)).mono HBX.out.size)⟩
        · have hzb : (((n.data[k]).toNat : Int) == 0) = false := by
            rw [beq_eq_false_iff_ne]
            intro h
            exact hz (UInt8.toNat_inj.1 (by simpa using h))
          have hkb : ((k : Int) == (n.data.size : Int) - 1) = true := by
            rw [beq_iff_eq]
            rcases Decidable.em (k = n.data.size - 1) with h | h
            · omega
            · exact absurd ⟨fun h' => absurd h' hz, fun h' => absurd h' h⟩ hq
          clear hq hz
          go_wp2
          go_region
          all_goals
            go_wp2
            go_ret2
            exact ⟨by rw [HX.out.1, HX.out.2]; rfl, HBX.out.trans ((HX1.out.trans (HBD.out.mono HX1.out.size)).mono HBX.out.size)⟩
    · obtain rfl : k = n.data.size := by omega
      have HX := Lib.hid (tx_yes HK0.out (show isTx n = true by
        rw [HTX.out, txt_iff]
        exact ⟨by omega, fun j hj => HZ.out j hj hj⟩))
      obtain ⟨k, hk1⟩ : ∃ k, n.data.size = k + 1 := ⟨n.data.size - 1, by omega⟩
      have hw1 : IntKind.i64.wrap ((n.data.size : Int) - 1) = (k : Int) := by rw [IntKind.wrap_i64]; omega
      have hkle : k ≤ n.data.size := by omega
      have HK1 := Lib.hid hk1
      clear hk1
      go_wp2
      go_ret2
      refine ⟨?_, HBX.out.trans ((HX1.out.trans (HB.out.mono HX1.out.size)).mono HBX.out.size)⟩
      rw [HX.out.1, HX.out.2, HK1.out]
      simp
end Go.Proofs.Ytabipkpgmlmkcaa
