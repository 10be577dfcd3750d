/- spec.Unpack: what it answers at every text of at most 2^40 bytes. -/
import Derived.Test.YtgeldgikjcihgaaUnpack
import Derived.Test.YtgeldgikjcihgaaMany
import Derived.Test.YtgeldgikjcihgaaBytes
import Derived.Maps.AppendAt
namespace Go.Proofs.Ytgeldgikjcihgaa
open Go.RowKit
theorem and1_i64 (t k : Nat) (ht : t < 256) : bits .and .i64 ((t : Int) / 2 ^ k) 1 = ((t / 2 ^ k % 2 : Nat) : Int) := by
  have h := Nat.div_le_self t (2 ^ k)
  rw [div_cast, show (1 : Int) = ((1 : Nat) : Int) from rfl, and_i64 _ _ (by omega) (by omega), nat_mask1]
/-- what l3Word answers. -/
def wordV (t : Nat) (s : ByteArray) : Value := if popN 8 t ≤ s.size then .tuple #[.string ⟨(spreadN 8 t s.data.toList).toArray⟩, .int .i64 (popN 8 t : Nat), .bool true] else .tuple #[.string ⟨#[]⟩, .int .i64 0, .bool false]
set_option maxRecDepth 10000 in
set_option maxHeartbeats 1000000 in
theorem l3Word_any (s : ByteArray) (t : Nat) (w : World) (ht : t < 256) (hs : s.size ≤ maxLen) :
    Calls Try.prog 45 #[.string s, .int .i64 t] w fun e w' => e = .returned (wordV t s) ∧ Below w.heap.size w w' := by
  unfold maxLen at hs
  obtain ⟨i0, hi, hz0, hz1, hz2⟩ := info_parts info5
  have hp8 := popN_le 8 t
  obtain ⟨v0, hv0⟩ : ∃ v, wordV t s = v := ⟨_, rfl⟩
  rw [hv0]
  have HV := Lib.hid hv0
  have hsl : s.data.toList.length = s.size := rfl
  have HSL := Lib.hid hsl
  clear hv0 hsl
  go_enter Try.func45, Try.ntmps45
  go_wp2_with fail
  go_loopw [7, 8, 9] (fun v n i wr => ∃ k : Nat, k ≤ 8 ∧ i = .int .i64 k ∧ n = .int .i64 (popN k t : Nat) ∧ popN k t ≤ s.size ∧ Hid (wr.ownsRow w.heap.size 5 1 v k (Lib.byteCells (spreadN k t s.data.toList))) ∧ Hid (Below w.heap.size w wr)) (fun _ _ i _ => 8 - (intOf i).toNat)
  case atStart => exact ⟨0, by omega, rfl, rfl, Nat.zero_le _, World.ownsRow_made w #[] 0 (Nat.le_refl _) (by decide) rfl, (Below.refl _ _).alloc (Nat.le_refl _) _⟩
  case round =>
    obtain ⟨k, hk, rfl, rfl, hps, HO, HB⟩ := hrel
    have hp8k := popN_le k t
    have hsz := HB.out.size
    obtain ⟨A, cp, rfl⟩ := fown_any HO.out
    by_cases hk1 : k < 8
    · have hand := and1_i64 t k ht
      have hstep := spreadN_succ k t s.data.toList
      have hpop := popN_succ k t
      by_cases hb : t / 2 ^ k % 2 = 0
      · rw [hb] at hand hpop
        rw [if_pos hb] at hstep
        have hand2 : bits .and .i64 ((t : Int) / 2 ^ k) 1 = 0 := hand
        have HST := Lib.hid hstep
        have HPO := Lib.hid hpop
        clear hand hstep hpop hb
        generalize popN k t = p at hps HPO hp8k ⊢
        go_wp2_with (at_builtin; go_must (refine wpList_append_own _ rfl (.tmp 20) (.tmp 21) 22 rfl w.heap.size 5 i0 (.int .u8 0) 1 1 Try.underlying22 hi hz0 hz1 hz2 rfl (by decide) _ _ _ rfl (HO.out.alloc _) ⟨wr.heap.size, 0, none⟩ 1 1 [.int .u8 0] rfl rfl (cell_one_new _ _ _) (by simp [Value.oneCell']) (by unfold maxLen; omega) (by omega) (by simp <;> omega) ?_); intro v' wn hown' hgrow _)
        have HON := Lib.hid (show wn.ownsRow w.heap.size 5 1 v' (k + 1) (Lib.byteCells (spreadN (k + 1) t s.data.toList)) by rw [HST.out, ← byteCells_snoc']; exact hown')
        have HBN := Lib.hid (below_append HB.out hsz HO.out hgrow)
        clear hgrow hown'
        go_wp2
        go_roundw
        case rel => exact ⟨k + 1, by omega, by go_num, by rw [HPO.out]; rfl, by rw [HPO.out]; exact hps, HON, HBN⟩
        case measure => simp [intOf]; omega
      · have hb1 : t / 2 ^ k % 2 = 1 := by omega
        rw [hb1] at hand hpop
        rw [if_neg hb] at hstep
        have hand2 : bits .and .i64 ((t : Int) / 2 ^ k) 1 = 1 := hand
        have hpm := popN_mono t (k + 1) 8 (by omega)
        by_cases hlt : popN k t < s.size
        · have hg : (s.data.toList.drop (popN k t)).headD 0 = s[popN k t] := by
            rw [List.drop_eq_getElem_cons (by rw [HSL.out]; exact hlt)]; rfl
          rw [hg] at hstep
          have HST := Lib.hid hstep
          have HPO := Lib.hid hpop
          have hge : ¬ (((s.size : Nat) : Int) ≤ ((popN k t : Nat) : Int)) := by omega
          clear hand hstep hpop hb hb1 hpm hg
          generalize popN k t = p at hps HPO hp8k hlt hge HST ⊢
          go_wp2_with (at_builtin; go_must (refine wpList_append_own _ rfl (.tmp 27) (.tmp 31) 22 rfl w.heap.size 5 i0 (.int .u8 0) 1 1 Try.underlying22 hi hz0 hz1 hz2 rfl (by decide) _ _ _ rfl (HO.out.alloc _) ⟨wr.heap.size, 0, none⟩ 1 1 [.int .u8 ((s[p]).toNat : Int)] rfl rfl (cell_one_new _ _ _) (by simp [Value.oneCell']) (by unfold maxLen; omega) (by omega) (by simp <;> omega) ?_); intro v' wn hown' hgrow _)
          have HON := Lib.hid (show wn.ownsRow w.heap.size 5 1 v' (k + 1) (Lib.byteCells (spreadN (k + 1) t s.data.toList)) by rw [HST.out, ← byteCells_snoc']; exact hown')
          have HBN := Lib.hid (below_append HB.out hsz HO.out hgrow)
          clear hgrow hown'
          go_wp2
          go_roundw
          case rel => exact ⟨k + 1, by omega, by go_num, by rw [HPO.out]; go_num, by rw [HPO.out]; omega, HON, HBN⟩
          case measure => simp [intOf]; omega
        · have hge : (((s.size : Nat) : Int) ≤ ((popN k t : Nat) : Int)) := by omega
          have hv : v0 = .tuple #[.string ⟨#[]⟩, .int .i64 0, .bool false] := by rw [← HV.out, wordV, if_neg (by omega)]
          have HVV := Lib.hid hv
          clear hand hstep hpop hb hb1 hpm hv
          go_wp2
          go_ret3
          exact ⟨by rw [HVV.out]; rfl, HB.out⟩
    · obtain rfl : k = 8 := by omega
      have hv : v0 = .tuple #[.string ⟨(spreadN 8 t s.data.toList).toArray⟩, .int .i64 (popN 8 t : Nat), .bool true] := by rw [← HV.out, wordV, if_pos hps]
      have HVV := Lib.hid hv
      have hcv := convert_own (P := Try.prog) wr 22 9 5 w.heap.size 8 (spreadN 8 t s.data.toList) _ (spreadN_length 8 t _) Try.underlying22 Try.underlying5 Try.underlying9 HO.out
      clear hv
      generalize spreadN 8 t s.data.toList = l at hcv HVV HO
      generalize popN 8 t = p at HVV hps hp8 hp8k ⊢
      go_wp2
      go_ret3
      exact ⟨by rw [HVV.out]; rfl, HB.out⟩
theorem spread_take : ∀ (k t m : Nat) (bs : List UInt8), popN k t ≤ m → spreadN k t (bs.take m) = spreadN k t bs
  | 0, _, _, _, _ => rfl
  | k + 1, t, m, bs, h => by
    have hL : ∀ bs, spreadN (k + 1) t bs = if t % 2 = 0 then 0 :: spreadN k (t / 2) bs else bs.headD 0 :: spreadN k (t / 2) bs.tail := fun _ => rfl
    rw [popN] at h
    rw [hL, hL]
    by_cases h0 : t % 2 = 0
    · rw [if_pos h0, if_pos h0, spread_take k (t / 2) m bs (by omega)]
    · rw [if_neg h0, if_neg h0]
      obtain ⟨m, rfl⟩ : ∃ j, m = j + 1 := ⟨m - 1, by omega⟩
      cases bs with
      | nil => rfl
      | cons b r => rw [List.take_succ_cons, List.headD_cons, List.tail_cons, List.headD_cons, List.tail_cons, spread_take k (t / 2) m r (by omega)]
theorem rep_repL (n : Nat) : repL [0] n = List.replicate n (0 : UInt8) := by
  induction n with
  | zero => rfl
  | succ n ih => rw [repL, ih, List.replicate_succ]; rfl
theorem drop_cons (s : ByteArray) (a : Nat) (h : a < s.size) : s.data.toList.drop a = s[a] :: s.data.toList.drop (a + 1) := by
  have hl : s.data.toList.length = s.size := rfl
  rw [List.drop_eq_getElem_cons (by omega)]; rfl
theorem ext_drop (s : ByteArray) (a : Nat) : (s.extract a s.size).data.toList = s.data.toList.drop a := by
  rw [Lib.extract_data, List.take_of_length_le (by simp <;> omega)]
theorem unV_none {s : ByteArray} (h : fitU [] (unW s.data.toList) = none) : unV s = .tuple #[.string ⟨#[]⟩, .bool false] := by rw [unV, h]
theorem unV_some {s : ByteArray} {o : List UInt8} (h : fitU [] (unW s.data.toList) = some o) : unV s = .tuple #[.string ⟨o.toArray⟩, .bool true] := by rw [unV, h]
set_option maxRecDepth 100000 in
set_option maxHeartbeats 8000000 in
theorem specUnpack_any (s : ByteArray) (w : World) (hs : s.size ≤ 1099511627776) :
    Calls Try.prog 18 #[.string s] w fun e w' => e = .returned (unV s) ∧ Below w.heap.size w w' := by
  obtain ⟨R, hR⟩ : ∃ R, fitU [] (unW s.data.toList) = R := ⟨_, rfl⟩
  have hV0 : R = none → unV s = .tuple #[.string ⟨#[]⟩, .bool false] := fun h => unV_none (by rw [hR, h])
  have hV1 : ∀ o, R = some o → unV s = .tuple #[.string ⟨o.toArray⟩, .bool true] := fun o h => unV_some (by rw [hR, h])
  obtain ⟨V, hV⟩ : ∃ V, unV s = V := ⟨_, rfl⟩
  rw [hV] at hV0 hV1 ⊢
  have HV0 := Lib.hid hV0
  have HV1 := Lib.hid hV1
  have HR := Lib.hid hR
  have hsl : s.data.toList.length = s.size := rfl
  have HSL := Lib.hid hsl
  clear hV hV0 hV1 hR hsl
  go_enter Try.func18, Try.ntmps18
  go_wp2_with fail
  go_loopw [4, 5] (fun o i wr => ∃ (a : Nat) (u : ByteArray), a ≤ s.size ∧ i = .int .i64 a ∧ o = .string u ∧ u.size ≤ 1600 ∧ Hid (fitU u.data.toList (unW (s.data.toList.drop a)) = R) ∧ Hid (Below w.heap.size w wr)) (fun _ i _ => s.size - (intOf i).toNat)
  case atStart => exact ⟨0, ByteArray.empty, by omega, rfl, rfl, by decide, by rw [List.drop_zero]; exact HR.out, Below.refl _ _⟩
  case round =>
    obtain ⟨a, u, ha, rfl, rfl, hu, HF, HB⟩ := hrel
    have hul : u.data.toList.length = u.size := rfl
    have HUL := Lib.hid hul
    clear hul
    by_cases hlt : a < s.size
    · have hcut := drop_cons s a hlt
      obtain ⟨c, hc⟩ : ∃ c, s[a] = c := ⟨_, rfl⟩
      rw [hc] at hcut
      have HC := Lib.hid hc
      have HCUT := Lib.hid hcut
      have hf := HF.out
      rw [hcut] at hf
      have HF2 := Lib.hid hf
      have hc256 := c.toNat_lt
      have hW := fun w => l3Word_any (s.extract (a + 1) s.size) c.toNat w hc256 (by unfold maxLen; simp; omega)
      have hes : (s.extract (a + 1) s.size).size = s.size - (a + 1) := by simp
      have hel := ext_drop s (a + 1)
      unfold wordV at hW
      rw [hes, hel] at hW
      obtain ⟨rem, hrem⟩ : ∃ rem, s.data.toList.drop (a + 1) = rem := ⟨_, rfl⟩
      have hrl : rem.length = s.size - (a + 1) := by rw [← hrem, List.length_drop, HSL.out]
      rw [hrem] at hW hf
      have HREM := Lib.hid hrem
      have hp8 := popN_le 8 c.toNat
      obtain ⟨n, hn⟩ : ∃ n, popN 8 c.toNat = n := ⟨_, rfl⟩
      have HNN := Lib.hid hn
      rw [hn] at hW hp8
      have HW := Lib.hid hW
      clear hcut hc hW hes hel hrem hn
      by_cases hfew : s.size - (a + 1) < n
      · have hr : R = none := by rw [← hf]; exact tag_few c rem (by rw [HNN.out, hrl]; exact hfew)
        have HVV := Lib.hid (HV0.out hr)
        have HW2 : Hid (∀ w : World, Calls Try.prog 45 #[.string (s.extract (a + 1) s.size), .int .i64 (c.toNat : Int)] w fun e w' => e = .returned (.tuple #[.string ⟨#[]⟩, .int .i64 0, .bool false]) ∧ Below w.heap.size w w') := Lib.hid (fun w => by
          have := HW.out w; rwa [if_neg (by omega)] at this)
        clear hf hr HW hrl hp8 hfew HF2 HCUT HREM HNN
        go_wp2_with fail
        rw [HC.out, wrap64_byte']
        with_reducible (refine (HW2.out _).mono ?_)
        rintro e w2 ⟨rfl, hb2⟩
        have HB2 := Lib.hid (HB.out.trans (hb2.mono HB.out.size))
        clear hb2
        go_wp2
        go_ret2
        exact ⟨by rw [HVV.out]; rfl, HB2.out⟩
      obtain ⟨x, hx⟩ : ∃ x, spreadN 8 c.toNat rem = x := ⟨_, rfl⟩
      have hxl : x.length = 8 := by rw [← hx, spreadN_length]
      have HX := Lib.hid hx
      have HW2 : Hid (∀ w : World, Calls Try.prog 45 #[.string (s.extract (a + 1) s.size), .int .i64 (c.toNat : Int)] w fun e w' => e = .returned (.tuple #[.string ⟨x.toArray⟩, .int .i64 (n : Nat), .bool true]) ∧ Below w.heap.size w w') := Lib.hid (fun w => by
          have := HW.out w; rw [if_pos (by omega), HX.out] at this; exact this)
      have hxs : (⟨x.toArray⟩ : ByteArray).size = 8 := by rw [mk_sz]; exact hxl
      have hux : (u ++ ⟨x.toArray⟩).data.toList = u.data.toList ++ x := by simp
      have huxs : (u ++ ⟨x.toArray⟩).size = u.size + 8 := by rw [ByteArray.size_append, hxs]
      clear hx HW
      generalize hY : u ++ ⟨x.toArray⟩ = Y at hux huxs
      have HY := Lib.hid hY
      have HUX := Lib.hid hux
      have f1 : ¬ 9223372036854775807 < u.size + (⟨x.toArray⟩ : ByteArray).size := by omega
      have HXS := Lib.hid hxs
      have hremd : ∀ m, rem.drop m = s.data.toList.drop (a + 1 + m) := fun m => by rw [← HREM.out, List.drop_drop]
      have HRD := Lib.hid hremd
      have hYl : Y.data.toList.length = Y.size := rfl
      have HYL := Lib.hid hYl
      have hpn : a + 1 + n ≤ s.size := by omega
      have hYs : Y.size ≤ 1608 := by omega
      have hf2 : fitU u.data.toList (unW (c :: rem)) = R := hf
      have HF3 := Lib.hid hf2
      have HRL := Lib.hid hrl
      have HYS := Lib.hid huxs
      clear hY hux huxs hremd hYl hrl hfew HF2 HCUT hf hf2 hxs
      go_wp2_with fail
      rw [HC.out, wrap64_byte']
      with_reducible (refine (HW2.out _).mono ?_)
      rintro e w2 ⟨rfl, hb2⟩
      have HB2 := Lib.hid (HB.out.trans (hb2.mono HB.out.size))
      clear hb2
      by_cases hc01 : c = 0 ∨ c = 255
      · by_cases hc0 : c = 0
        · have hci : ((c.toNat : Int) == 0) = true := by rw [hc0]; rfl
          have hn0 : n = 0 := by rw [← HNN.out, hc0]; decide
          have hR2 : nouR Y.data.toList rem = R := by
            rw [← HF3.out, HUX.out, ← HX.out, hc0, tag_nou]
            have e : spreadN 8 (0 : UInt8).toNat rem = spreadN 8 0 [] := by rw [← spread_take 8 (0 : UInt8).toNat 0 rem (by decide)]; rfl
            rw [e]
          by_cases hp : a + 1 + n < s.size
          · obtain ⟨d, hd⟩ : ∃ d, s[a + 1 + n] = d := ⟨_, rfl⟩
            have hcut := drop_cons s (a + 1 + n) hp
            rw [hd] at hcut
            have hrem2 : rem = d :: s.data.toList.drop (a + 1 + n + 1) := by
              rw [← hcut, ← HRD.out n, hn0]; rfl
            have hd256 := d.toNat_lt
            have hR3 : fitU (Y.data.toList ++ List.replicate (8 * d.toNat) 0) (unW (s.data.toList.drop (a + 1 + n + 1))) = R := by
              rw [← hR2, nouR, hrem2, if_neg (by simp)]; rfl
            have hm : Hid (∀ w : World, Calls Try.prog 32 #[.string ⟨#[0]⟩, .int .i64 (8 * (d.toNat : Int))] w fun e w' => e = .returned (.string ⟨(List.replicate (8 * d.toNat) 0).toArray⟩) ∧ w = w') := Lib.hid (fun w => by
              have := l1Many_any ⟨#[0]⟩ (8 * (d.toNat : Int)) w (by omega) (by omega) (by decide) (by show 1 * _ ≤ _; omega)
              rw [show (⟨#[0]⟩ : ByteArray).data.toList = [0] from rfl, rep_repL, show (8 * (d.toNat : Int)).toNat = 8 * d.toNat by omega] at this
              exact this)
            obtain ⟨z, hz⟩ : ∃ z, List.replicate (8 * d.toNat) (0 : UInt8) = z := ⟨_, rfl⟩
            have hzl : z.length = 8 * d.toNat := by rw [← hz]; simp
            rw [hz] at hm hR3
            have HD := Lib.hid hd
            have HR3 := Lib.hid hR3
            have hpI : ¬ ((s.size : Nat) : Int) ≤ (a : Int) + 1 + (n : Int) := by omega
            have f2 : ¬ 9223372036854775807 < (u ++ ⟨x.toArray⟩ : ByteArray).size + (⟨z.toArray⟩ : ByteArray).size := by rw [HY.out, show (⟨z.toArray⟩ : ByteArray).size = 8 * d.toNat by rw [mk_sz, hzl]]; omega
            have hvs : (Y ++ ⟨z.toArray⟩).size = Y.size + 8 * d.toNat := by rw [ByteArray.size_append, show (⟨z.toArray⟩ : ByteArray).size = 8 * d.toNat by rw [mk_sz, hzl]]
            have hvl : (Y ++ ⟨z.toArray⟩).data.toList = Y.data.toList ++ z := by simp
            have HVS := Lib.hid hvs
            have HVL := Lib.hid hvl
            clear hcut hrem2 hR2 hR3 hd hz hvs hvl hc0 hc01 hn0
            go_wp2_with fail
            rw [HD.out, wrap64_byte', show wrap64 (8 * (d.toNat : Int)) = 8 * (d.toNat : Int) by unfold wrap64; omega]
            with_reducible (refine (hm.out _).mono ?_)
            rintro e w' ⟨rfl, rfl⟩
            by_cases hbig : 1600 < Y.size + 8 * d.toNat
            · have hr : R = none := by rw [← HR3.out]; exact fit_big (by rw [List.length_append, HYL.out, hzl]; exact hbig) _
              have HVV := Lib.hid (HV0.out hr)
              have hb1 : (1600 : Int) < ((u.size : Nat) : Int) + 8 + 8 * (d.toNat : Int) := by have := HYS.out; omega
              clear hr
              go_wp2
              go_ret2
              exact ⟨by rw [HVV.out]; rfl, HB2.out⟩
            · have hb1 : ¬ (1600 : Int) < ((u.size : Nat) : Int) + 8 + 8 * (d.toNat : Int) := by have := HYS.out; omega
              have hvb : (Y ++ ⟨z.toArray⟩).size ≤ 1600 := by rw [HVS.out]; omega
              go_wp2
              rw [HY.out]
              go_roundw
              case rel => exact ⟨a + 1 + n + 1, Y ++ ⟨z.toArray⟩, by omega, by go_num, rfl, hvb, by rw [HVL.out]; exact HR3, HB2⟩
              case measure => simp [intOf]; omega
          · have hr : R = none := by
              have h0 : rem.length = 0 := by rw [HRL.out]; omega
              rw [← hR2, nouR, if_pos h0]
            have HVV := Lib.hid (HV0.out hr)
            have hpI : ((s.size : Nat) : Int) ≤ (a : Int) + 1 + (n : Int) := by omega
            clear hr hR2 hc0 hc01 hn0
            go_wp2
            go_ret2
            exact ⟨by rw [HVV.out]; rfl, HB2.out⟩
        · have hc1 : c = 255 := hc01.resolve_left hc0
          have hci : ((c.toNat : Int) == 0) = false := by rw [hc1]; rfl
          have hcj : ((c.toNat : Int) == 255) = true := by rw [hc1]; rfl
          have hn8 : n = 8 := by rw [← HNN.out, hc1]; decide
          have hR2 : plaR Y.data.toList (s.data.toList.drop (a + 1 + n)) = R := by
            rw [← HF3.out, HUX.out, ← HX.out, ← HRD.out n, hn8, hc1, tag_pla rem (by rw [HRL.out]; omega)]
            have e : spreadN 8 (255 : UInt8).toNat rem = spreadN 8 255 (rem.take 8) := (spread_take 8 255 8 rem (by decide)).symm
            rw [e]
          by_cases hp : a + 1 + n < s.size
          · obtain ⟨d, hd⟩ : ∃ d, s[a + 1 + n] = d := ⟨_, rfl⟩
            have hcut := drop_cons s (a + 1 + n) hp
            rw [hd] at hcut
            have hd256 := d.toNat_lt
            have HD := Lib.hid hd
            have hpI : ¬ ((s.size : Nat) : Int) ≤ (a : Int) + 1 + (n : Int) := by omega
            have hlen2 : (s.data.toList.drop (a + 1 + n + 1)).length = s.size - (a + 1 + n + 1) := by rw [List.length_drop, HSL.out]
            rw [hcut, plaR, List.length_cons, hlen2, List.headD_cons, List.drop_succ_cons, List.drop_zero] at hR2
            have hw1 := Lib.hid (wrap64_byte' d)
            have hw8 : Hid (wrap64 (8 * (d.toNat : Int)) = 8 * (d.toNat : Int)) := Lib.hid (by unfold wrap64; omega)
            clear hcut hlen2 hc0 hc01 hc1 hn8
            by_cases hlong : s.size < a + 1 + n + 1 + 8 * d.toNat
            · have hr : R = none := by rw [← hR2, if_pos (by omega)]
              have HVV := Lib.hid (HV0.out hr)
              have hlI : ((s.size : Nat) : Int) < (a : Int) + 1 + (n : Int) + 1 + 8 * (d.toNat : Int) := by omega
              clear hr hR2
              replace hw1 := hw1.out
              replace hw8 := hw8.out
              go_wp2
              go_ret2
              exact ⟨by rw [HVV.out]; rfl, HB2.out⟩
            · rw [if_neg (by omega), List.drop_drop] at hR2
              obtain ⟨q, hq⟩ : ∃ q, s.extract (a + 1 + n + 1) (a + 1 + n + 1 + 8 * d.toNat) = q := ⟨_, rfl⟩
              have hql : q.data.toList = (s.data.toList.drop (a + 1 + n + 1)).take (8 * d.toNat) := by
                rw [← hq, Lib.extract_data, show a + 1 + n + 1 + 8 * d.toNat - (a + 1 + n + 1) = 8 * d.toNat by omega]
              have hqs : q.size = 8 * d.toNat := by rw [← hq]; simp; omega
              have hvs : (Y ++ q).size = Y.size + 8 * d.toNat := by rw [ByteArray.size_append, hqs]
              have hvl : (Y ++ q).data.toList = Y.data.toList ++ q.data.toList := by simp
              rw [← hql, ← hvl] at hR2
              have HVS := Lib.hid hvs
              have HQ := Lib.hid hq
              have HR3 := Lib.hid hR2
              have hlI : ¬ ((s.size : Nat) : Int) < (a : Int) + 1 + (n : Int) + 1 + 8 * (d.toNat : Int) := by omega
              have f2 : ¬ 9223372036854775807 < (u ++ ⟨x.toArray⟩ : ByteArray).size + q.size := by rw [HY.out, hqs]; omega
              have hvl2 : (Y ++ q).data.toList.length = (Y ++ q).size := rfl
              by_cases hbig : 1600 < Y.size + 8 * d.toNat
              · have hr : R = none := by rw [← hR2]; exact fit_big (by omega) _
                have HVV := Lib.hid (HV0.out hr)
                have hb1 : (1600 : Int) < ((u.size : Nat) : Int) + 8 + 8 * (d.toNat : Int) := by have := HYS.out; omega
                clear hr hR2 hql hvs hvl hvl2 hq hqs f2
                replace hw1 := hw1.out
                replace hw8 := hw8.out
                go_wp2
                go_ret2
                exact ⟨by rw [HVV.out]; rfl, HB2.out⟩
              · have hb1 : ¬ (1600 : Int) < ((u.size : Nat) : Int) + 8 + 8 * (d.toNat : Int) := by have := HYS.out; omega
                have hvb := Lib.hid (show (Y ++ q).size ≤ 1600 by omega)
                clear hR2 hql hvs hvl hvl2 hq hqs f2 hbig
                replace hw1 := hw1.out
                replace hw8 := hw8.out
                go_wp2
                rw [HY.out, HQ.out]
                go_roundw
                case rel => exact ⟨a + 1 + n + 1 + 8 * d.toNat, Y ++ q, by omega, by go_num, rfl, hvb.out, HR3, HB2⟩
                case measure => simp [intOf]; omega
          · have hr : R = none := by
              have h0 : (s.data.toList.drop (a + 1 + n)).length = 0 := by rw [List.length_drop, HSL.out]; omega
              rw [← hR2, plaR, if_pos (by omega)]
            have HVV := Lib.hid (HV0.out hr)
            have hpI : ((s.size : Nat) : Int) ≤ (a : Int) + 1 + (n : Int) := by omega
            clear hr hR2 hc0 hc01 hc1 hn8
            go_wp2
            go_ret2
            exact ⟨by rw [HVV.out]; rfl, HB2.out⟩
      · have hc0 : c ≠ 0 := fun h => hc01 (.inl h)
        have hc1 : c ≠ 255 := fun h => hc01 (.inr h)
        have hci : ((c.toNat : Int) == 0) = false := by
          rw [beq_eq_false_iff_ne]; intro h; exact hc0 (UInt8.toNat_inj.1 (show c.toNat = 0 by omega))
        have hcj : ((c.toNat : Int) == 255) = false := by
          rw [beq_eq_false_iff_ne]; intro h; exact hc1 (UInt8.toNat_inj.1 (show c.toNat = 255 by omega))
        have hR2 : fitU Y.data.toList (unW (s.data.toList.drop (a + 1 + n))) = R := by
          rw [← HF3.out, HUX.out, ← HX.out, tag_tag c rem (by rw [HNN.out, HRL.out]; omega) hc0 hc1, spread_take 8 c.toNat _ rem (Nat.le_refl _), HNN.out, HRD.out]
        have HR2 := Lib.hid hR2
        by_cases hbig : 1600 < Y.size
        · have hr : R = none := by rw [← hR2]; exact fit_big (by rw [HYL.out]; exact hbig) _
          have HVV := Lib.hid (HV0.out hr)
          have hb1 : (1600 : Int) < ((u.size : Nat) : Int) + 8 := by have := HYS.out; omega
          clear hR2 hr hc01 hc0 hc1
          go_wp2
          go_ret2
          exact ⟨by rw [HVV.out]; rfl, HB2.out⟩
        · have hb1 : ¬ (1600 : Int) < ((u.size : Nat) : Int) + 8 := by have := HYS.out; omega
          have hYb : Y.size ≤ 1600 := by omega
          clear hR2 hc01 hc0 hc1 hbig
          go_wp2
          rw [HY.out]
          go_roundw
          case rel => exact ⟨a + 1 + n, Y, by omega, by go_num, rfl, hYb, HR2, HB2⟩
          case measure => simp [intOf]; omega
    · obtain rfl : a = s.size := by omega
      have hr : R = some u.data.toList := by
        rw [← HF.out, List.drop_of_length_le (by rw [HSL.out]; exact Nat.le_refl _)]
        exact fit_end (by rw [HUL.out]; exact hu)
      have hvv := HV1.out _ hr
      rw [show (⟨u.data.toList.toArray⟩ : ByteArray) = u by cases u; simp] at hvv
      have HVV := Lib.hid hvv
      clear hr hvv
      go_wp2
      go_ret2
      exact ⟨by rw [HVV.out]; rfl, HB.out⟩
end Go.Proofs.Ytgeldgikjcihgaa
