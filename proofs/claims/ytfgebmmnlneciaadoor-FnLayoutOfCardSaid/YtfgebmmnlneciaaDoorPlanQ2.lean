/- The program's room that choices share: the walk. -/
import Derived.Test.YtfgebmmnlneciaaDoorPlanQ
namespace Go.Proofs.YtfgebmmnlneciaaDoor
open Go.RowKit
theorem drew_below (R : Nat) (w : World) : Below R w w.drew := ⟨rfl, rfl, rfl, Nat.le_refl _, fun _ _ => rfl⟩
theorem drewN_below (R : Nat) (w : World) (n : Nat) : Below R w (w.drewN n) := ⟨rfl, rfl, rfl, Nat.le_refl _, fun _ _ => rfl⟩
set_option maxHeartbeats 4000000 in
set_option maxRecDepth 100000 in
theorem sharedRoom_any (R g bm : Nat) (v1 v2 : Value) (s : PS) (sl : List Nat) (N : Nat) (hN : N ≤ 1000) (hbd : LBd 40 s.ls) (hsl : s.shared.length ≤ 1000) (hsb : ∀ r ∈ s.shared, r.1 ≤ 6 ∧ r.2 ≤ 100000) (kd : Nat) (c : Int) (hc : c + kd = 6) (hkd : kd ≤ 6) (w : World) (h : Pl w R g bm v1 v2 s sl N) :
    Calls Tryd.prog 48 #[.pointer (some ⟨g, 0, none⟩), .int .i64 c] w (ShareP R g bm v1 (shareF kd s).1 (shareF kd s).2 sl (N + 6) w) := by
  obtain ⟨i0, hi, hz0, hz1, hz2⟩ := info_parts infoRoom
  obtain ⟨c0, c1, c2, c3, c4, c5, c6, c7⟩ := h.cells
  have HH := Lib.hid h
  have HBD := Lib.hid hbd
  have HSB := Lib.hid hsb
  have HC := Lib.hid hc
  have hv2 : ∃ A cap, v2 = .slice A s.shared.length cap := by
    rcases h.shared.2 with ⟨rfl, h0⟩ | ⟨g', cap, cur, rfl, _⟩
    · exact ⟨none, 0, by rw [h0]⟩
    · exact ⟨_, cap, rfl⟩
  have hrR := h.rs
  have hR0 := h.rg
  have hc0' : 0 ≤ c := by omega
  have hc6' : c ≤ 6 := by omega
  obtain ⟨A, cap, rfl⟩ := hv2
  clear h hbd hsb hc c0 c1 c2 c3 c4 c5 c7
  go_enter Tryd.func48, Tryd.ntmps48
  go_wp2
  go_loopw [12] (fun i wr => ∃ k : Nat, i = .int .i64 k ∧ k ≤ s.shared.length ∧ Hid (∀ j (hj : j < s.shared.length), j < k → kd < (s.shared[j]).1) ∧ Hid (Pl wr R g bm v1 (.slice A s.shared.length cap) s sl N) ∧ Hid (Below R w wr)) (fun i _ => s.shared.length - (intOf i).toNat)
  case atStart => exact ⟨0, rfl, by omega, by exact Lib.hid (fun j _ hj => absurd hj (Nat.not_lt_zero _)), by exact HH, by exact Lib.hid (Below.refl _ _)⟩
  case round =>
    obtain ⟨k, rfl, hk, HN, HP, HB⟩ := hrel
    by_cases hlt : k < s.shared.length
    · obtain ⟨x, cap', hxe, hx⟩ := shared_at HP.out.shared hlt
      obtain ⟨rfl, -⟩ : A = some x ∧ cap = cap' := by injection hxe with e1 e2 e3; exact ⟨e1, e3⟩
      clear hxe
      have hr := HSB.out s.shared[k] (List.getElem_mem hlt)
      have HNX : Hid (∀ j, j < k → ∀ (hj : j < s.shared.length), kd < (s.shared[j]).1) := Lib.hid (fun j hjk hj => HN.out j hj hjk)
      obtain ⟨d, hd⟩ : ∃ d, d = s.shared[k] := ⟨_, rfl⟩
      rw [← hd] at hx hr
      have HDD := Lib.hid hd
      clear hd
      obtain ⟨dk, da⟩ := d
      obtain ⟨c0, c1⟩ := hx
      obtain ⟨hr1, hr2⟩ := hr
      by_cases hle : dk ≤ kd
      · have HE : Hid (shareF kd s = (da * 2 ^ (kd - dk), s)) := by
          refine Lib.hid ?_
          rw [share_hit hlt (fun j hj => HNX.out j hj _) (by rw [← HDD.out]; exact hle), ← HDD.out]
        have hge : c ≤ 6 - (dk : Int) := by have := HC.out; omega
        have hsub : (6 - (dk : Int)) - c = ((kd - dk : Nat) : Int) := by have := HC.out; omega
        have HSB2 := Lib.hid hsub
        have hB2 := HB.out.alloc (by have := HP.out.rs; exact this) (.cells #[.int .i64 (6 - (dk : Int)), .int .i64 (da : Int)] roomT)
        have HB2 := Lib.hid hB2
        have hd6 : (6 - (dk : Int)) ≤ 6 := by omega
        have hkd6 : kd - dk ≤ 6 := by omega
        have hPr := HP.out.rs
        generalize (6 - (dk : Int)) = sc at c0 hge HSB2 HB2 hd6
        clear hsub hB2
        go_wp2_with fail
        refine (start_any sc c da (kd - dk) _ HSB2.out hkd6 hr2 hc0' hd6).mono ?_
        rintro e w3 ⟨rfl, hb3⟩
        have HP3 := Lib.hid ((HP.out.alloc _).below hb3)
        have HB3 := Lib.hid (HB2.out.trans (hb3.mono (by simp; omega)))
        clear hb3
        go_wp2
        go_ret
        refine ⟨.slice (some x) s.shared.length cap, ?_⟩
        rw [PlaceP, HE.out]
        exact ⟨rfl, HP3.out.mono (by omega), HB3.out⟩
      · have hlt2 : 6 - (dk : Int) < c := by have := HC.out; omega
        have HNN : Hid (∀ j (hj : j < s.shared.length), j < k + 1 → kd < (s.shared[j]).1) := by
          refine Lib.hid (fun j hj hjk => ?_)
          by_cases e : j = k
          · subst e
            rw [← HDD.out]; exact Nat.lt_of_not_le hle
          · exact HN.out j hj (by omega)
        clear hle
        go_wp2
        go_roundw
        case rel => exact ⟨k + 1, by go_num, by omega, HNN, Lib.hid (HP.out.alloc _), Lib.hid (HB.out.alloc HP.out.rs _)⟩
        case measure => simp [intOf]; omega
    · obtain rfl : k = s.shared.length := by omega
      have HE : Hid (shareF kd s = ((roomF kd s.ls).1, { s with ls := (roomF kd s.ls).2, shared := s.shared ++ [(kd, (roomF kd s.ls).1)] })) := by
        refine Lib.hid (share_miss ?_)
        intro r hr
        obtain ⟨j, hj, rfl⟩ := List.getElem_of_mem hr
        exact HN.out j hj hj
      have hwR := HP.out.rs
      clear hlt hk c6
      have e6 := HP.out.cells.2.2.2.2.2.2.1
      go_wp2
      go_region_law (first
        | (go_simp; go_at_call 45; refine (room_any R g bm v1 (.slice A s.shared.length cap) s sl N hN HBD.out kd c _ HC.out hkd (by first | exact HP.out | exact HP.out.drew)).mono ?_; rintro e w5 ⟨rfl, hp5, hb5, -⟩; have d6 := hp5.cells.2.2.2.2.2.2.1; have f6 := row_free hp5.row 6; have hr5 := hp5.rs; have hlt5 := hp5.lt; have d6a := (fun o => (hp5.alloc o).cells.2.2.2.2.2.2.1); have HP5 := Lib.hid hp5; have HB5 := Lib.hid hb5; clear hp5 hb5)
        | (refine step_append_own rfl (.tmp 28) (.tmp 34) 57 rfl R roomT i0 (.agg #[.int .i64 0, .int .i64 0]) 2 16 Tryd.underlying57 hi hz0 hz1 hz2 rfl (by decide) (.slice A s.shared.length cap) s.shared.length _ (by simp [Act.eval]) (HP5.out.shared.alloc _) ⟨w5.heap.size, 0, none⟩ 1 1 [_, _] (by simp [Act.eval]) rfl (cell_two_new' _ _ _ _) (by simp [Value.oneCell']) (by unfold maxLen; omega) (by omega) (by simp; omega) ?_; intro v' w6 hown6 hgrow6; obtain ⟨A', cap', rfl⟩ := own_slice2 hown6.out; have r6 := HP5.out.grown_row HP5.out.shared (by decide) hgrow6.out; have f6' := row_free r6 6; have c6' : w6.cell? ⟨g, 6, none⟩ = some (.slice A s.shared.length cap) := (by rw [cell_of_row _ _ _ _ _ _ r6]; rfl); clear r6))
      all_goals
        have hrk : (6 : Int) - (kd : Int) = c := by have := HC.out; omega
        have hdn := HP5.out.share_done (r := (kd, (roomF kd s.ls).1)) hgrow6.out (by rw [hrk]; exact hown6.out)
        have HPD := Lib.hid hdn.1
        have HBN := Lib.hid (HB.out.trans ((drew_below R _).trans (HB5.out.trans hdn.2)))
        obtain ⟨x', cc, hxe, hx⟩ := shared_at hdn.1.shared (k := s.shared.length) (by simp)
        have g6 := hdn.1.cells.2.2.2.2.2.2.1
        have HQ : Hid ((s.shared ++ [(kd, (roomF kd s.ls).1)])[s.shared.length]'(by simp) = (kd, (roomF kd s.ls).1)) := by refine Lib.hid ?_; simp
        simp only [HQ.out] at hx
        obtain ⟨rfl, -⟩ : A' = some x' ∧ cap' = cc := by injection hxe with e1 e2 e3; exact ⟨e1, e3⟩
        obtain ⟨-, p1⟩ := hx
        clear hxe hdn hown6 hgrow6 d6 f6 d6a f6' c6' e6
        go_wp2_with fail
        go_quiet (fail)
        go_wp2
        go_ret
        refine ⟨.slice (some x') (s.shared.length + 1) cap', ?_⟩
        rw [PlaceP, HE.out]
        exact ⟨rfl, (HPD.out.mono (by omega)).below (drewN_below _ _ _), HBN.out.trans (drewN_below _ _ _)⟩
end Go.Proofs.YtfgebmmnlneciaaDoor
