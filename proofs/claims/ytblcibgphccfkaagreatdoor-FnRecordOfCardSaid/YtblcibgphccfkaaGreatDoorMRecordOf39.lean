/- Texts of the proof of the law FnRecordOf, side by side: part 39. -/
import Derived.Test.YtblcibgphccfkaaGreatDoorMRecordOf38
set_option maxHeartbeats 8000000
set_option maxRecDepth 100000
namespace Go.Proofs.YtblcibgphccfkaaGreatDoor
open Go.RowKit Go.Deep
theorem specRecordOf_a (x : Addr) (c : Nat) (l : List Fld) (B : Option Addr) (cb : Nat) (vs : List Vl) (ch : Int) (m : Nat) (w : World) (h1w : 1 < w.heap.size) (hxb : x.block < w.heap.size) (hfl : Flds w (some x) l) (hll : l.length ≤ 10000000) (hvs : ValsAt w Any m B vs) (hvl : vs.length ≤ 10000000) (hsv : sumV vs ≤ 1900000) (hc : l.length ≤ c) (hrg : ∀ k, -9223372036854775808 ≤ (vlK vs k).num ∧ (vlK vs k).num ≤ 9223372036854775807) :
 Calls Tryz.prog 15 #[.slice (some x) l.length c, .slice B vs.length cb, .int .i64 ch] w (NewNb (m + 2) (roN l vs ch) (roB l vs ch) w) := by
 have no : roB l vs ch = false → NewNb (m + 2) (roN l vs ch) (roB l vs ch) w = NewNb (m + 2) noneNd false w := fun h => by
  have e : roN l vs ch = noneNd := by unfold roN; rw [h]; rfl
  rw [h, e]
 cases hyes : fldsOk l
 · rw [no (by unfold roB; rw [hyes]; rfl)]
   exact roS_no x c l B cb vs ch m w h1w hxb hfl hll hvs hvl hsv (m + 2) hyes
 by_cases hlen : vs.length = l.length
 · cases hch : chB l ch
   · rw [no (by unfold roB; rw [hch]; simp)]
     exact roS_choice x c l B cb vs ch m w h1w hxb hfl hll hvs hvl hsv (m + 2) hyes hlen hch
   · by_cases h0 : plcN l l.length = 0
     · exact roS_zero x c l B cb vs ch m w h1w hxb hfl hll hvs hvl hsv hc hrg hyes hlen hch h0 (by unfold chB at hch; rw [if_pos h0] at hch; simpa using hch)
     · exact roS_pos x c l B cb vs ch m w h1w hxb hfl hll hvs hvl hsv hc hrg hyes hlen hch (by
        unfold chB at hch
        rw [if_neg h0] at hch
        have e : inB ch 0 ((plcN l l.length : Int) - 1) = withB ch (plcN l l.length : Int) := by rw [Bool.eq_iff_iff]; simp [inB, withB]; omega
        rw [e, hch])
 · rw [no (by unfold roB; rw [decide_eq_false hlen]; simp)]
   exact roS_len x c l B cb vs ch m w h1w hxb hfl hll hvs hvl hsv (m + 2) hyes hlen
end Go.Proofs.YtblcibgphccfkaaGreatDoor
namespace Go.Proofs.YtblcibgphccfkaaGreatDoor
open Go.RowKit
open Go.RowKit Go.Deep
theorem l8Choice_z (x : Addr) (c : Nat) (l : List Fld) (k : Nat) (hk : k ≤ l.length) (w : World) (h : Flds w (some x) l) (hl : l.length ≤ 20) :
 Calls Tryz.prog 37 #[.slice (some x) l.length c, .int .i64 (k : Int)] w fun e w' => e = .returned (.int .i64 (plcN l k : Nat)) ∧ Below w.heap.size w w' := by
 have HF := Lib.hid h
 have hk20 : k ≤ 20 := by omega
 clear h
 go_enter Tryz.func37, Tryz.ntmps37
 go_wp2
 go_loopw [5, 6] (fun q i wr => ∃ (j u : Nat), i = .int .i64 (j : Int) ∧ q = .int .i64 (u : Int) ∧ j ≤ k ∧ u ≤ 20 ∧ Hid (u = plcN l j) ∧ Hid (Below w.heap.size w wr)) (fun _ i _ => k - (intOf i).toNat)
 case atStart => exact ⟨0, 0, rfl, rfl, by omega, by omega, Lib.hid rfl, Lib.hid (Below.refl _ _)⟩
 case round =>
  obtain ⟨j, u, rfl, rfl, hj, hu, HU, HB⟩ := hrel
  by_cases hlt : j < k
  · obtain ⟨x', hx', hxb', hx⟩ := (HF.out.below HB.out).at2 (k := j) (by omega)
    obtain rfl := Option.some.inj hx'
    have HTK := Lib.hid (plc_succ (l := l) (j := j) (by omega))
    have HP := Lib.hid (plc_le l (j + 1))
    generalize l[j] = f at hx HTK
    obtain ⟨z, fc, el⟩ := f
    obtain ⟨c0, c1, c2⟩ := hx
    have hjl : j < l.length := by omega
    cases fc
    · go_wp2
      go_roundw
      case rel => exact ⟨j + 1, u, by go_num, rfl, by omega, by omega, Lib.hid (by rw [HTK.out, HU.out]; rfl), HB⟩
      case measure => simp [intOf]; omega
    · have hu1 : u + 1 ≤ 20 := by have h1 := HP.out; have h2 := HTK.out; have h3 := HU.out; simp at h2; omega
      go_wp2
      go_roundw
      case rel => exact ⟨j + 1, u + 1, by go_num, by go_num, by omega, hu1, Lib.hid (by rw [HTK.out, HU.out]; rfl), HB⟩
      case measure => simp [intOf]; omega
  · obtain rfl : j = k := by omega
    go_wp2
    go_ret
    exact ⟨by rw [← HU.out]; rfl, HB.out⟩
theorem plc_le' (l : List Fld) : plcN l l.length ≤ l.length := plc_le l _
theorem l13Some_any (R n : Nat) (x : Addr) (c : Nat) (l : List Fld) (w : World) (h : Rd w R n) (hn : n ≤ 500000) (hfl : Flds w (some x) l) (hl : l.length ≤ 13) :
 Calls Tryz.prog 44 #[.pointer (some ⟨R, 0, none⟩), .slice (some x) l.length c] w (IntP (fun v => -1 ≤ v ∧ v ≤ 13) R (n + 1) w) := by
 have hpl := plc_le' l
 have HC := Lib.hid (l8Choice_z x c l l.length (Nat.le_refl _) w hfl (by omega))
 have HD := Lib.hid h
 clear h hfl
 unfold IntP
 by_cases h0 : plcN l l.length = 0
 · rw [h0] at HC
   clear h0
   go_enter Tryz.func44, Tryz.ntmps44
   go_wp2_with fail
   refine HC.out.mono ?_
   rintro e w1 ⟨rfl, hb1⟩
   have HB1 := Lib.hid hb1
   clear hb1
   go_wp2
   go_ret
   exact ⟨-1, by decide, rfl, (HD.out.self.below HB1.out).mono (by omega)⟩
 · obtain ⟨u, hu⟩ : ∃ u, plcN l l.length = u := ⟨_, rfl⟩
   rw [hu] at HC h0 hpl
   have hu0 : ((u : Int) == 0) = false := by simp; omega
   clear hu
   go_enter Tryz.func44, Tryz.ntmps44
   go_wp2_with fail
   refine HC.out.mono ?_
   rintro e w1 ⟨rfl, hb1⟩
   have HP1 := Lib.hid (HD.out.self.below hb1)
   clear hb1
   go_wp2_with fail
   refine (pick_any R n _ _ HP1.out.1 (by omega)).mono ?_
   rintro e w2 ⟨v, ⟨hv0, hv1⟩, rfl, hp2⟩
   have HP2 := Lib.hid (HP1.out.then hp2)
   clear hp2
   go_wp2
   go_ret
   exact ⟨v, by omega, rfl, HP2.out⟩
theorem roN_sz {l : List Fld} {vs : List Vl} {ch : Int} (hv : sumV vs ≤ 1900000) : sizN (roN l vs ch) ≤ 2000000 := by
 unfold roN
 by_cases h : roB l vs ch = true
 · rw [if_pos h]
   unfold roB at h
   simp only [Bool.and_eq_true, decide_eq_true_eq] at h
   exact rec_siz l vs ch (fldsOk_len h.1) hv h.2.1.1
 · rw [if_neg h]
   decide
theorem Flds.keepB {w w' : World} {x : Addr} {l : List Fld} (h : Flds w (some x) l) (hb : w'.heap[x.block]? = w.heap[x.block]?) (hs : w.heap.size ≤ w'.heap.size) : Flds w' (some x) l := by
 rcases h with h | ⟨y, e, hx, hc⟩
 · exact .inl h
 · injection e with e
   subst e
   refine .inr ⟨x, rfl, Nat.lt_of_lt_of_le hx hs, fun k f hk => ?_⟩
   obtain ⟨c0, c1, c2⟩ := hc k f hk
   exact ⟨(World.cell?_of_block (w := w) (w' := w') (a := x.add (k * 3)) (by rw [addr_block]; exact hb)).trans c0,
    (World.cell?_of_block (w := w) (w' := w') (a := ⟨(x.add (k * 3)).block, (x.add (k * 3)).off + 1, none⟩) (by show w'.heap[(x.add (k * 3)).block]? = w.heap[(x.add (k * 3)).block]?; rw [addr_block]; exact hb)).trans c1,
    (World.cell?_of_block (w := w) (w' := w') (a := ⟨(x.add (k * 3)).block, (x.add (k * 3)).off + 2, none⟩) (by show w'.heap[(x.add (k * 3)).block]? = w.heap[(x.add (k * 3)).block]?; rw [addr_block]; exact hb)).trans c2⟩
def DrawRO (w : World) (e : Ending) (w' : World) : Prop := ∃ (X : Addr) (c : Nat) (l : List Fld) (A : Option Addr) (cp : Nat) (vs : List Vl) (ch : Int), e = .returned (.tuple #[.slice (some X) l.length c, .slice A vs.length cp, .int .i64 ch]) ∧ l.length ≤ 13 ∧ l.length ≤ c ∧ X.block < w'.heap.size ∧ (-3 ≤ ch ∧ ch ≤ 20) ∧ Flds w' (some X) l ∧ ValsAt w' Any 4 A vs ∧ vs.length ≤ 14 ∧ sumV vs ≤ 100000 ∧ (∀ k, i64v (vlK vs k).num) ∧ Below w.heap.size w w'
theorem ro_fin {w w' : World} {X : Addr} {c B : Nat} {l : List Fld} {v : Value} {q : List (Vl × Hd)} {ch : Int} {N : Nat} (hl : l.length ≤ 13) (hc : l.length ≤ c) (hX : X.block < w'.heap.size) (hch : -3 ≤ ch ∧ ch ≤ 20) (hf : Flds w' (some X) l) (hv : VRow w' B v q 4 7007) (hq : q.length = N) (hN : N ≤ 14) (hb : Below w.heap.size w w') :
 DrawRO w (.returned (.tuple #[.slice (some X) l.length c, v, .int .i64 ch])) w' := by
 obtain ⟨A, cp, rfl, hva⟩ := hv.vals
 have hs := hv.sum
 have hvl : (q.map (·.1)).length = q.length := List.length_map _
 refine ⟨X, c, l, A, cp, q.map (·.1), ch, by rw [hvl], hl, hc, hX, hch, hf, hva, by omega, by omega, fun k => hv.rg k, hb⟩
theorem drawRecordOf_any (a : Option Addr) (len cap : Nat) (w : World) (h : Arg w a len cap) :
 Calls Tryz.prog 13 #[.slice a len cap] w (DrawRO w) := by
 obtain ⟨i0, hi, hz0, hz1, hz2⟩ := info_parts infoVl
 have HO := Lib.hid (l1Open_any a len cap w h.1 h.2.1 h.2.2)
 clear h
 go_enter Tryz.func13, Tryz.ntmps13
 go_wp2_with fail
 refine HO.out.mono ?_
 rintro e w1 ⟨R, rfl, hR, hrd, hb1⟩
 have hRl := hrd.lt
 have HRD := Lib.hid hrd
 have HB := Lib.hid hb1
 clear hrd hb1 HO
 go_wp2_with fail
 refine (l13AnyFields_s R 0 _ HRD.out (by omega)).mono ?_
 rintro e w2 ⟨v, l, rfl, hl13, hown, hp2, hsm, hel⟩
 obtain ⟨g, c, rfl, hg1, hg2, hlc, hfl⟩ := fld_some hown hsm
 have HF := Lib.hid hfl
 have HP := Lib.hid hp2
 have hgR : g ≠ R := by omega
 obtain ⟨X, hX⟩ : ∃ X : Addr, X = ⟨g, 0, none⟩ := ⟨_, rfl⟩
 have hXb : X.block = g := by rw [hX]
 rw [← hX] at HF ⊢
 have hXR : X.block ≠ R := by omega
 clear hown hsm hel hfl hp2 hX
 have hR2 : R < w2.heap.size := by have := HP.out.2.size; omega
 have hXw : X.block < w2.heap.size := by omega
 clear hXb hg1 hg2 hgR
 go_wp2_with fail
 refine (l13Vals_any R (0 + 100) X c l w2 HP.out.1 (by omega) HF.out hXR hl13).mono ?_
 rintro e w3 ⟨v, q, rfl, hql, hvr, hp3⟩
 obtain ⟨A1, cp1, rfl⟩ := own_slice3 hvr.1
 have HV := Lib.hid hvr
 have HQL := Lib.hid hql
 replace HF := Lib.hid (HF.out.picked hp3 hXR)
 replace HP := Lib.hid (HP.out.then hp3)
 have hX3 : X.block < w3.heap.size := Nat.lt_of_lt_of_le hXw hp3.2.size
 have hs23 := hp3.2.size
 clear hvr hql hp3
 go_wp2_with fail
 refine (l13Some_any R (0 + 100 + 350 * l.length) X c l w3 HP.out.1 (by omega) HF.out hl13).mono ?_
 rintro e w4 ⟨ch, hch, rfl, hp4⟩
 replace HV := Lib.hid (HV.out.picked hp4 hR2)
 replace HF := Lib.hid (HF.out.picked hp4 hXR)
 replace HP := Lib.hid (HP.out.then hp4)
 have hX4 : X.block < w4.heap.size := Nat.lt_of_lt_of_le hX3 hp4.2.size
 have hs34 := hp4.2.size
 clear hp4 hX3
 go_wp2_with fail
 refine (pick_any R (0 + 100 + 350 * l.length + 1) _ _ HP.out.1 (by omega)).mono ?_
 rintro e w5 ⟨x, ⟨hx0, hx1⟩, rfl, hp5⟩
 replace HV := Lib.hid (HV.out.picked hp5 hR2)
 replace HF := Lib.hid (HF.out.picked hp5 hXR)
 replace HP := Lib.hid (HP.out.then hp5)
 have hX5 : X.block < w5.heap.size := Nat.lt_of_lt_of_le hX4 hp5.2.size
 have hs45 := hp5.2.size
 have HBW : Hid (Below w.heap.size w w5) := Lib.hid (HB.out.trans (HP.out.2.below HB.out.size hR))
 clear hp5 hX4 hx1
 by_cases x0 : x = 0
 · subst x0
   have hL := Lits.new w5 #[.int .i64 1, .int .i64 (-1)] 3 (0, 0)
   have hS : ∀ v ∈ (#[.int .i64 1, .int .i64 (-1)] : Array Value).toList, ∃ x, v = .int .i64 x ∧ (fun z : Int => -1 ≤ z ∧ z ≤ 1) x := by
    intro v hv
    simp only [List.mem_cons, List.not_mem_nil, or_false] at hv
    rcases hv with rfl | rfl
    all_goals exact ⟨_, rfl, by decide, by decide⟩
   have HON := Lib.hid (one_any R (0 + 100 + 350 * l.length + 1 + 1) w5.heap.size 2 2 (fun z => -1 ≤ z ∧ z ≤ 1) _ _ (HP.out.1.below ((Below.refl w5.heap.size w5).alloc (Nat.le_refl _) _)) (by omega) hL hS (by omega) rfl (by omega) (by omega))
   have HV5 := Lib.hid (HV.out.alloc (.cells #[.int .i64 1, .int .i64 (-1)] 3))
   have HF5 := Lib.hid (HF.out.below ((Below.refl w5.heap.size w5).alloc (Nat.le_refl _) (.cells #[.int .i64 1, .int .i64 (-1)] 3)))
   have HB5 := Lib.hid ((Below.refl w5.heap.size w5).alloc (Nat.le_refl _) (.cells #[.int .i64 1, .int .i64 (-1)] 3))
   clear hL hS
   unfold IntP at HON
   go_wp2_with fail
   refine HON.out.mono ?_
   rintro e w6 ⟨z, hz, rfl, hp6⟩
   have HFIN := Lib.hid (ro_fin (w := w) (c := c) (ch := ch + z) hl13 hlc (Nat.lt_of_lt_of_le hX5 (Nat.le_trans HB5.out.size hp6.2.size)) ⟨by omega, by omega⟩ (HF5.out.picked hp6 hXR) (HV5.out.picked hp6 hR2) HQL.out (by omega) (HBW.out.trans ((HB5.out.mono HBW.out.size).trans (hp6.2.below (by have := HBW.out.size; have := HB5.out.size; omega) hR))))
   have hrg : IntKind.i64.wrap (ch + z) = ch + z := by rw [IntKind.wrap_i64]; omega
   clear hp6 HON
   go_wp2
   refine bodyPost_ret (by simp [results, Tryz.results13, go_sem]) rfl HFIN.out
 have hb0 : (x == 0) = false := by simpa using x0
 by_cases x1 : x = 1
 · subst x1
   have HV1 := HV
   have HLT := Lib.hid (fun k hk => (HV.out.1.lt k hk).2)
   have HV2 := Lib.hid (HV.out.alloc (.cells #[.int .i64 0, .int .i64 0, .string { data := #[] }, .slice none 0 0, .int .i64 0, .int .i64 0, .slice none 0 0] valT))
   go_wp2_with (at_builtin; go_must (refine wpList_append_own_at _ rfl (.tmp 30) (.tmp 32) 43 rfl w2.heap.size valT i0 (.agg #[.int .i64 0, .int .i64 0, .string ByteArray.empty, .slice none 0 0, .int .i64 0, .int .i64 0, .slice none 0 0]) 7 96 Tryz.underlying43 hi hz0 hz1 hz2 rfl (by decide) _ q.length _ rfl HV2.out.1 ⟨w5.heap.size, 0, none⟩ 1 1 (rowW [((⟨0, noneNd⟩ : Vl), (⟨.none, 0, .none, 0⟩ : Hd))]) rfl rfl (cells_seven_new w5 ((⟨0, noneNd⟩ : Vl), (⟨.none, 0, .none, 0⟩ : Hd)) _) (by simp [rowW, Value.oneCell']) (by have := HQL.out; unfold maxLen; omega) (by have := HQL.out; omega) (by simp; omega) ?_); intro v' wn hown' hgrow _ hat)
   have hbel : Below w2.heap.size w5 wn := ((Below.refl w2.heap.size w5).alloc (by omega) _).grown hgrow (by simp; omega) (fun k hk => (HV.out.1.lt k hk).1)
   have hsz : w5.heap.size ≤ wn.heap.size := hbel.size
   have hvn := HV2.out.next (y := (⟨0, noneNd⟩ : Vl)) (H := w5.heap.size) (none_at _ _ _) ⟨by show totN 4 noneNd ≤ 7007; rw [none_tot]; decide, by decide, by decide⟩ (by omega) HLT.out hown' hgrow hat
   have HFIN := Lib.hid (ro_fin (w := w) (w' := wn) (c := c) (ch := ch) (N := l.length + 1) hl13 hlc (by omega) ⟨by omega, by omega⟩ (HF.out.keepB (hbel.block _ hXw) hsz) hvn (by rw [List.length_append, HQL.out]; rfl) (by omega) (HBW.out.trans (hbel.mono (by have := HB.out.size; have := HP.out.2.size; omega))))
   clear hown' hgrow hat hbel hvn
   go_wp2
   refine bodyPost_ret (by simp [results, Tryz.results13, go_sem]) rfl HFIN.out
 have hb1 : (x == 1) = false := by simpa using x1
 have HFIN := Lib.hid (ro_fin (w := w) (c := c) (ch := ch) hl13 hlc hX5 ⟨by omega, by omega⟩ HF.out HV.out HQL.out (by omega) HBW.out)
 go_wp2
 refine bodyPost_ret (by simp [results, Tryz.results13, go_sem]) rfl HFIN.out
end Go.Proofs.YtblcibgphccfkaaGreatDoor
namespace Go.Proofs.YtblcibgphccfkaaGreatDoor
open Go.RowKit
def nb (b r bit : Nat) : Nat := (b &&& (255 - 2 ^ r)) ||| (bit * 2 ^ r)
theorem nb_all : ∀ b : Fin 256, ∀ r : Fin 8, ∀ bit : Fin 2, nb b.val r.val bit.val / 2 ^ r.val % 2 = bit.val ∧ nb (nb b.val r.val bit.val) r.val (b.val / 2 ^ r.val % 2) = b.val := by decide +kernel
theorem newB_nb (b : UInt8) (r bit : Nat) (hr : r < 8) (hb : bit ≤ 1) : (newB b r bit).toNat = nb b.toNat r bit := newB_toNat b r bit hr hb
theorem newB_got (b : UInt8) (r bit : Nat) (hr : r < 8) (hb : bit ≤ 1) : (newB b r bit).toNat / 2 ^ r % 2 = bit := by
 rw [newB_nb b r bit hr hb]
 exact (nb_all ⟨b.toNat, b.toNat_lt⟩ ⟨r, hr⟩ ⟨bit, by omega⟩).1
theorem setBit_at (l : List UInt8) (i bit : Nat) (h : i / 8 < l.length) : (setBit l i bit)[i / 8]?.getD 0 = newB (l[i / 8]?.getD 0) (i % 8) bit := by
 rw [setBit, List.getElem?_set_self (by omega)]
 rfl
theorem setBit_length (l : List UInt8) (i bit : Nat) : (setBit l i bit).length = l.length := by simp [setBit]
open Go.RowKit Go.Deep
theorem nb_other : ∀ b : Fin 256, ∀ r : Fin 8, ∀ s : Fin 8, ∀ bit : Fin 2, r ≠ s → nb b.val r.val bit.val / 2 ^ s.val % 2 = b.val / 2 ^ s.val % 2 := by decide +kernel
theorem set_other {D : List UInt8} {i bit t : Nat} (h : i / 8 < D.length) (hb : bit ≤ 1) (ht : t ≠ i) : bitN (setBit D i bit) t = bitN D t := by
 unfold bitN
 by_cases hj : t / 8 = i / 8
 · rw [hj, setBit_at D i bit h, newB_nb _ _ _ (Nat.mod_lt _ (by decide)) hb]
   exact nb_other ⟨_, (D[i / 8]?.getD 0).toNat_lt⟩ ⟨i % 8, Nat.mod_lt _ (by decide)⟩ ⟨t % 8, Nat.mod_lt _ (by decide)⟩ ⟨bit, by omega⟩ (fun e => by
    have : i % 8 = t % 8 := congrArg Fin.val e
    omega)
 · unfold setBit
   rw [List.getElem?_set_ne (by omega)]
theorem set_got {D : List UInt8} {i bit : Nat} (h : i / 8 < D.length) (hb : bit ≤ 1) : bitN (setBit D i bit) i = bit := by
 unfold bitN
 rw [setBit_at D i bit h]
 exact newB_got _ _ _ (Nat.mod_lt _ (by decide)) hb
theorem put_other {D : List UInt8} {a z n : Int} (h : putB D a z n = true) {t : Nat} (ht : (t : Int) < 8 * a ∨ 8 * (a + z) ≤ (t : Int)) : bitN (putT D a z n) t = bitN D t := by
 obtain ⟨_, _, _, h0, hin, hz⟩ := putB_parts h
 unfold bitN
 rw [putT_eq h, putL_out D a.toNat _ (by rw [leB_length]; exact hin) (t / 8) (by rw [leB_length]; omega)]
theorem byte_bits {x y : UInt8} (h : ∀ r, r < 8 → x.toNat / 2 ^ r % 2 = y.toNat / 2 ^ r % 2) : x = y := by
 apply UInt8.toNat_inj.1
 apply Nat.eq_of_testBit_eq
 intro i
 rw [Nat.testBit_eq_decide_div_mod_eq, Nat.testBit_eq_decide_div_mod_eq]
 by_cases hi : i < 8
 · rw [h i hi]
 · have hp : 2 ^ 8 ≤ 2 ^ i := Nat.pow_le_pow_right (by decide) (by omega)
   have h1 := x.toNat_lt
   have h2 := y.toNat_lt
   rw [Nat.div_eq_of_lt (by omega), Nat.div_eq_of_lt (by omega)]
theorem bytes_same {D E : List UInt8} (hl : D.length = E.length) {j : Nat} (h : ∀ r, r < 8 → bitN D (8 * j + r) = bitN E (8 * j + r)) : D[j]? = E[j]? := by
 have hb : D[j]?.getD 0 = E[j]?.getD 0 := byte_bits fun r hr => by
  have := h r hr
  unfold bitN at this
  rwa [show (8 * j + r) / 8 = j by omega, show (8 * j + r) % 8 = r by omega] at this
 by_cases hj : j < D.length
 · rw [List.getElem?_eq_getElem hj, List.getElem?_eq_getElem (by omega)] at hb ⊢
   exact congrArg some hb
 · rw [List.getElem?_eq_none (by omega), List.getElem?_eq_none (by omega)]
def rawL (z : Int) (s : Nat) (D : List UInt8) : Int := if z = 1 then bitI D (s : Int) else getI D ((s : Int) * wdF z) (wdF z)
theorem raw_same {z : Int} (hz : z = 1 ∨ z = 2 ∨ z = 3 ∨ z = 4 ∨ z = 5) {s : Nat} {D E : List UInt8} (hl : D.length = E.length) (h : ∀ t : Nat, frF z s ≤ (t : Int) → (t : Int) < toF z s → bitN D t = bitN E t) : rawL z s D = rawL z s E := by
 unfold rawL
 by_cases h1 : z = 1
 · rw [if_pos h1, if_pos h1]
   subst h1
   have h2 := h s (by simp [frF, bitsOf]) (by simp [toF, bitsOf]; omega)
   unfold bitI bitB
   rw [hl, Int.toNat_natCast, h2]
 · rw [if_neg h1, if_neg h1]
   have hz' : z = 2 ∨ z = 3 ∨ z = 4 ∨ z = 5 := by omega
   have hw := bits_wd hz'
   have hor := wdF_or z
   have hfr : frF z s = 8 * ((s : Int) * wdF z) := by unfold frF; rw [hw]; rw [Int.mul_left_comm]
   have hto : toF z s = 8 * ((s : Int) * wdF z) + 8 * wdF z := by unfold toF; rw [hw]; rw [Int.mul_left_comm]
   rw [hfr, hto] at h
   have h0 : 0 ≤ (s : Int) * wdF z := Int.mul_nonneg (by omega) (by omega)
   generalize (s : Int) * wdF z = a at *
   generalize wdF z = y at *
   unfold getI
   rw [hl]
   rw [leN_congr D E y.toNat a.toNat a.toNat (fun i hi => bytes_same hl (fun r hr => h _ (by omega) (by omega)))]
theorem wr_len {f : Fld} {s : Nat} {n : Int} {D : List UInt8} (h : wordsB D.length = true) : (wrF f s n D).length = D.length := by
 unfold wrF
 split
 · exact bputT_keep h _ _
 · exact putT_keep h _ _ _
theorem wr_other {f : Fld} (hz : f.size = 1 ∨ f.size = 2 ∨ f.size = 3 ∨ f.size = 4 ∨ f.size = 5) (hf : fitB f.size f.els = true) {n : Int} (hv : fitB f.size n = true) (hn : -9223372036854775808 ≤ n ∧ n ≤ 9223372036854775807) {D : List UInt8} {W s : Nat} (hD : D.length = 8 * W) (hW : W ≤ 24) (hin : toF f.size s ≤ 64 * (W : Int)) {t : Nat} (ht : (t : Int) < frF f.size s ∨ toF f.size s ≤ (t : Int)) : bitN (wrF f s n D) t = bitN D t := by
 unfold wrF
 by_cases h1 : f.size = 1
 · rw [if_pos h1]
   obtain ⟨e, hb, hlt⟩ := wr_bit h1 hf hv hn hD hW hin
   rw [e]
   rw [h1] at ht
   simp [frF, toF, bitsOf] at ht
   exact set_other (by omega) (by omega) (by omega)
 · rw [if_neg h1]
   have hz' : f.size = 2 ∨ f.size = 3 ∨ f.size = 4 ∨ f.size = 5 := by omega
   obtain ⟨e, h0, hle⟩ := wr_num hz' hf hv hn hD hW hin
   have hw := bits_wd hz'
   have hfr : frF f.size s = 8 * ((s : Int) * wdF f.size) := by unfold frF; rw [hw]; rw [Int.mul_left_comm]
   have hto : toF f.size s = 8 * ((s : Int) * wdF f.size) + 8 * wdF f.size := by unfold toF; rw [hw]; rw [Int.mul_left_comm]
   rw [hfr, hto] at ht
   exact put_other e (by omega)
theorem wr_got {f : Fld} (hz : f.size = 1 ∨ f.size = 2 ∨ f.size = 3 ∨ f.size = 4 ∨ f.size = 5) (hf : fitB f.size f.els = true) {n : Int} (hv : fitB f.size n = true) (hn : -9223372036854775808 ≤ n ∧ n ≤ 9223372036854775807) {D : List UInt8} {W s : Nat} (hD : D.length = 8 * W) (hW : W ≤ 24) (hin : toF f.size s ≤ 64 * (W : Int)) : rawL f.size s (wrF f s n D) = xorI n f.els := by
 have hwb : wordsB D.length = true := by unfold wordsB; rw [decide_eq_true_eq]; omega
 unfold rawL
 by_cases h1 : f.size = 1
 · rw [if_pos h1]
   obtain ⟨e, hb, hlt⟩ := wr_bit h1 hf hv hn hD hW hin
   unfold wrF
   rw [if_pos h1, e]
   unfold bitI bitB
   rw [setBit_length, hwb, Int.toNat_natCast, set_got (by omega) (by omega), if_pos (by simp; omega)]
   omega
 · rw [if_neg h1]
   have hz' : f.size = 2 ∨ f.size = 3 ∨ f.size = 4 ∨ f.size = 5 := by omega
   obtain ⟨e, h0, hle⟩ := wr_num hz' hf hv hn hD hW hin
   unfold wrF
   rw [if_neg h1]
   exact put_got e (xorI_bd _ _)
theorem tg_raw (l : List Fld) (h0 : 0 ≤ tagL l) (D : List UInt8) : rawL 3 (tagL l).toNat D = getI D (tagL l * 2) 2 := by
 unfold rawL
 rw [if_neg (by decide), Int.toNat_of_nonneg h0]
 rfl
theorem tg_range (l : List Fld) (h0 : 0 ≤ tagL l) : frF 3 (tagL l).toNat = 16 * tagL l ∧ toF 3 (tagL l).toNat = 16 * tagL l + 16 := by
 unfold frF toF
 rw [Int.toNat_of_nonneg h0]
 show tagL l * 16 = _ ∧ tagL l * 16 + 16 = _
 omega
theorem plc_mono {l : List Fld} {i k : Nat} (h : i ≤ k) (hk : k ≤ l.length) : plcN l i ≤ plcN l k := by
 induction h with
 | refl => exact Nat.le_refl _
 | step h ih =>
  rename_i m
  have := ih (by omega)
  rw [plc_succ (by omega)]
  omega
theorem plc_lt {l : List Fld} {i k : Nat} (h : i < k) (hk : k ≤ l.length) (hc : (fldK l i).choice = true) : plcN l i < plcN l k := by
 have h1 := plc_mono (show i + 1 ≤ k by omega) hk
 have hi : i < l.length := by omega
 rw [plc_succ hi] at h1
 rw [fldK_at hi] at hc
 rw [if_pos hc] at h1
 omega
theorem plc_at {l : List Fld} : ∀ k, k ≤ l.length → ∀ c, c < plcN l k → ∃ i, i < k ∧ (fldK l i).choice = true ∧ plcN l i = c
 | 0, _, c, h => by simp [plcN] at h
 | k + 1, hk, c, h => by
   have hkl : k < l.length := by omega
   rw [plc_succ hkl] at h
   by_cases h1 : c < plcN l k
   · obtain ⟨i, hi, h2⟩ := plc_at k (by omega) c h1
     exact ⟨i, by omega, h2⟩
   · by_cases hc : (l[k]).choice = true
     · rw [if_pos hc] at h
       exact ⟨k, by omega, by rw [fldK_at hkl]; exact hc, by omega⟩
     · rw [if_neg hc] at h
       omega
theorem pick_one {l : List Fld} {ch : Int} {i k : Nat} (hik : i < k) (hk : k < l.length) (h1 : pickB l i ch = true) (h2 : pickB l k ch = true) : ¬ ((fldK l k).choice = true ∧ (fldK l i).choice = true) := by
 rintro ⟨hc, hd⟩
 unfold pickB at h1 h2
 rw [hd] at h1
 rw [hc] at h2
 simp at h1 h2
 have := plc_lt hik (by omega) hd
 omega
theorem vals_at {l : List Fld} {vs : List Vl} : ∀ {K k : Nat}, valsB l vs K = true → k < K → valB (fldK l k) (vlK vs k) = true
 | 0, _, _, h => absurd h (Nat.not_lt_zero _)
 | K + 1, k, hv, h => by
   have hv' : (valsB l vs K && valB (fldK l K) (vlK vs K)) = true := hv
   rw [Bool.and_eq_true] at hv'
   by_cases hk : k < K
   · exact vals_at hv'.1 hk
   · obtain rfl : k = K := by omega
     exact hv'.2
structure Fil (l : List Fld) (vs : List Vl) (ch : Int) (K : Nat) (st : RSt) : Prop where
 num : ∀ i, i < K → pickB l i ch = true → (fldK l i).size ≠ 6 → rawL (fldK l i).size (atF l i) st.d = xorI (vlK vs i).num (fldK l i).els
 ptr : ∀ i, i < K → pickB l i ch = true → (fldK l i).size = 6 → st.p[atF l i]? = some (vlK vs i).nd
 tag : ∀ i, i < K → pickB l i ch = true → tellsB l i = true → rawL 3 (tagL l).toNat st.d = (plcN l i : Int)
section
variable {l : List Fld} {vs : List Vl} {ch : Int} (hok : fldsOk l = true) (hv : valsB l vs l.length = true) (hrg : ∀ k, -9223372036854775808 ≤ (vlK vs k).num ∧ (vlK vs k).num ≤ 9223372036854775807)
include hok
theorem lay_w : (layF l ps0).2.ls.words ≤ 24 := by
 have h1 := (lay_small l).2
 have h2 := fldsOk_len hok
 omega
theorem siz_five {k : Nat} (hk : k < l.length) (h6 : (fldK l k).size ≠ 6) : (fldK l k).size = 1 ∨ (fldK l k).size = 2 ∨ (fldK l k).size = 3 ∨ (fldK l k).size = 4 ∨ (fldK l k).size = 5 := by
 have := fldsOk_at hok k hk
 rw [fldK_at hk] at h6 ⊢
 omega
theorem fit_els {k : Nat} (hk : k < l.length) : fitB (fldK l k).size (fldK l k).els = true := by
 have := fld_ok_at hok hk
 unfold fldOk at this
 rw [Bool.and_eq_true] at this
 rw [fldK_at hk]
 exact this.2
theorem wd_ok {D : List UInt8} (hD : D.length = 8 * (layF l ps0).2.ls.words) : wordsB D.length = true := by
 have := lay_w hok
 unfold wordsB
 rw [decide_eq_true_eq]
 omega
theorem tg_len {D : List UInt8} (hD : D.length = 8 * (layF l ps0).2.ls.words) (k : Nat) : (tgF l k D).length = D.length := by
 unfold tgF
 split
 · exact putT_keep (wd_ok hok hD) _ _ _
 · rfl
theorem tg_keep {K : Nat} (hK : K < l.length) {D : List UInt8} (hD : D.length = 8 * (layF l ps0).2.ls.words) {t : Nat} (ht : 0 ≤ tagL l → (t : Int) < 16 * tagL l ∨ 16 * tagL l + 16 ≤ (t : Int)) : bitN (tgF l K D) t = bitN D t := by
 unfold tgF
 split
 · rename_i h
   have h0 : 0 ≤ tagL l := by unfold tellsB at h; simp at h; exact h.2
   obtain ⟨h1, -⟩ := tg_ok hok h0 K (by have := fldsOk_len hok; omega) hD (lay_w hok)
   exact put_other h1 (by have := ht h0; omega)
 · rfl
theorem tg_raw_keep {K : Nat} (hK : K < l.length) {D : List UInt8} (hD : D.length = 8 * (layF l ps0).2.ls.words) {i : Nat} (hi : i < l.length) (h6 : (fldK l i).size ≠ 6) : rawL (fldK l i).size (atF l i) (tgF l K D) = rawL (fldK l i).size (atF l i) D := by
 refine raw_same (siz_five hok hi h6) (tg_len hok hD K) (fun t h1 h2 => tg_keep hok hK hD (fun h0 => ?_))
 have h3 := (layOk l (fldsOk_at hok)).tag h0 i hi (by rw [fldK_at hi] at h6; exact h6)
 rw [fldK_at hi] at h1 h2
 unfold tagL at *
 omega
theorem tg_got {K : Nat} (hK : K < l.length) {D : List UInt8} (hD : D.length = 8 * (layF l ps0).2.ls.words) (ht : tellsB l K = true) : rawL 3 (tagL l).toNat (tgF l K D) = (plcN l K : Int) := by
 have h0 : 0 ≤ tagL l := by unfold tellsB at ht; simp at ht; exact ht.2
 obtain ⟨h1, -⟩ := tg_ok hok h0 K (by have := fldsOk_len hok; omega) hD (lay_w hok)
 unfold tgF
 rw [if_pos ht, tg_raw l h0]
 have h2 := plc_le l K
 have h3 := fldsOk_len hok
 exact put_got h1 ⟨by omega, by omega⟩
include hv hrg
theorem wr_raw_keep {K : Nat} (hK : K < l.length) (hK6 : (fldK l K).size ≠ 6) {D : List UInt8} (hD : D.length = 8 * (layF l ps0).2.ls.words) {z : Int} (hz : z = 1 ∨ z = 2 ∨ z = 3 ∨ z = 4 ∨ z = 5) {s : Nat} (ha : ¬ (frF (fldK l K).size (atF l K) < toF z s ∧ frF z s < toF (fldK l K).size (atF l K))) : rawL z s (wrF (fldK l K) (atF l K) (vlK vs K).num D) = rawL z s D := by
 have hvb := vals_at hv hK
 unfold valB at hvb
 rw [if_neg hK6, Bool.and_eq_true] at hvb
 have hin := (layOk l (fldsOk_at hok)).within K hK (by rw [fldK_at hK] at hK6; exact hK6)
 rw [← fldK_at hK] at hin
 exact raw_same hz (wr_len (wd_ok hok hD)) (fun t h1 h2 => wr_other (siz_five hok hK hK6) (fit_els hok hK) hvb.1 (hrg K) hD (lay_w hok) hin (by omega))
theorem wr_raw_got {K : Nat} (hK : K < l.length) (hK6 : (fldK l K).size ≠ 6) {D : List UInt8} (hD : D.length = 8 * (layF l ps0).2.ls.words) : rawL (fldK l K).size (atF l K) (wrF (fldK l K) (atF l K) (vlK vs K).num D) = xorI (vlK vs K).num (fldK l K).els := by
 have hvb := vals_at hv hK
 unfold valB at hvb
 rw [if_neg hK6, Bool.and_eq_true] at hvb
 have hin := (layOk l (fldsOk_at hok)).within K hK (by rw [fldK_at hK] at hK6; exact hK6)
 rw [← fldK_at hK] at hin
 exact wr_got (siz_five hok hK hK6) (fit_els hok hK) hvb.1 (hrg K) hD (lay_w hok) hin
theorem fil_all : ∀ K, K ≤ l.length → Fil l vs ch K (fillF l vs ch K)
 | 0, _ => ⟨fun i h => absurd h (Nat.not_lt_zero _), fun i h => absurd h (Nat.not_lt_zero _), fun i h => absurd h (Nat.not_lt_zero _)⟩
 | K + 1, hK1 => by
   have hK : K < l.length := by omega
   have ih := fil_all K (by omega)
   have hD := fill_full l vs ch (lay_w hok) K
   have hP := (fill_len l vs ch K).2
   have hL := layOk l (fldsOk_at hok)
   by_cases hp : pickB l K ch = true
   · have e : fillF l vs ch (K + 1) = setF l K (vlK vs K) (fillF l vs ch K) := by show (if _ then _ else _) = _; rw [if_pos hp]
     rw [e]
     generalize fillF l vs ch K = st at *
     have hD1 : (tgF l K st.d).length = 8 * (layF l ps0).2.ls.words := by rw [tg_len hok hD]; exact hD
     unfold setF
     by_cases hK6 : (fldK l K).size = 6
     · rw [if_pos hK6]
       have htag : ∀ i, i < K → pickB l i ch = true → tellsB l i = true → rawL 3 (tagL l).toNat (tgF l K st.d) = (plcN l i : Int) := fun i hi hpi hti => by
        have hnt : tellsB l K = false := by
         have := pick_one hi hK hpi hp
         unfold tellsB at hti ⊢
         simp at hti
         cases hc : (fldK l K).choice
         · rfl
         · exact absurd ⟨hc, hti.1⟩ this
        have : tgF l K st.d = st.d := by unfold tgF; rw [hnt]; rfl
        rw [this]
        exact ih.tag i hi hpi hti
       refine ⟨fun i hi hpi h6 => ?_, fun i hi hpi h6 => ?_, fun i hi hpi hti => ?_⟩
       · have hne : i ≠ K := fun e => h6 (by rw [e]; exact hK6)
         show rawL _ _ (tgF l K st.d) = _
         rw [tg_raw_keep hok hK hD (by omega) h6]
         exact ih.num i (by omega) hpi h6
       · show (st.p.set (atF l K) (vlK vs K).nd)[atF l i]? = _
         by_cases hiK : i = K
         · subst hiK
           have hpl := hL.ptr i hK (by rw [← fldK_at hK]; exact hK6)
           rw [List.getElem?_set_self (by rw [hP]; exact hpl)]
         · have hi' : i < K := by omega
           have hil : i < l.length := by omega
           have hone := pick_one hi' hK hpi hp
           rw [fldK_at hK, fldK_at hil] at hone
           have := hL.ptrs i K hi' hK (by rw [← fldK_at hK]; exact hK6) (by rw [← fldK_at hil]; exact h6) hone
           rw [List.getElem?_set_ne this]
           exact ih.ptr i hi' hpi h6
       · show rawL 3 (tagL l).toNat (tgF l K st.d) = _
         by_cases hiK : i = K
         · subst hiK
           exact tg_got hok hK hD hti
         · exact htag i (by omega) hpi hti
     · rw [if_neg hK6]
       refine ⟨fun i hi hpi h6 => ?_, fun i hi hpi h6 => ?_, fun i hi hpi hti => ?_⟩
       · show rawL _ _ (wrF (fldK l K) (atF l K) (vlK vs K).num (tgF l K st.d)) = _
         by_cases hiK : i = K
         · subst hiK
           exact wr_raw_got hok hv hrg hK hK6 hD1
         · have hi' : i < K := by omega
           have hil : i < l.length := by omega
           have hone := pick_one hi' hK hpi hp
           rw [fldK_at hK, fldK_at hil] at hone
           have hpr := hL.pair i K hi' hK (by rw [← fldK_at hK]; exact hK6) (by rw [← fldK_at hil]; exact h6) hone
           rw [← fldK_at hK, ← fldK_at hil] at hpr
           rw [wr_raw_keep hok hv hrg hK hK6 hD1 (siz_five hok hil h6) hpr, tg_raw_keep hok hK hD hil h6]
           exact ih.num i hi' hpi h6
       · have hne : i ≠ K := fun e => hK6 (by rw [← e]; exact h6)
         exact ih.ptr i (by omega) hpi h6
       · show rawL 3 (tagL l).toNat (wrF (fldK l K) (atF l K) (vlK vs K).num (tgF l K st.d)) = _
         have h0 : 0 ≤ tagL l := by unfold tellsB at hti; simp at hti; exact hti.2
         obtain ⟨e1, e2⟩ := tg_range l h0
         have h3 := hL.tag h0 K hK (by rw [← fldK_at hK]; exact hK6)
         rw [← fldK_at hK] at h3
         rw [wr_raw_keep hok hv hrg hK hK6 hD1 (.inr (.inr (.inl rfl))) (by rw [e1, e2]; unfold tagL; omega)]
         by_cases hiK : i = K
         · subst hiK
           exact tg_got hok hK hD hti
         · have hi' : i < K := by omega
           have hnt : tellsB l K = false := by
            have := pick_one hi' hK hpi hp
            unfold tellsB at hti ⊢
            simp at hti
            cases hc : (fldK l K).choice
            · rfl
            · exact absurd ⟨hc, hti.1⟩ this
           have : tgF l K st.d = st.d := by unfold tgF; rw [hnt]; rfl
           rw [this]
           exact ih.tag i hi' hpi hti
   · have e : fillF l vs ch (K + 1) = fillF l vs ch K := by show (if _ then _ else _) = _; rw [if_neg hp]
     rw [e]
     have hne : ∀ i, i < K + 1 → pickB l i ch = true → i < K := fun i hi hpi => by
      rcases Nat.lt_or_ge i K with h | h
      · exact h
      · obtain rfl : i = K := by omega
        exact absurd hpi hp
     exact ⟨fun i hi hpi => ih.num i (hne i hi hpi) hpi, fun i hi hpi => ih.ptr i (hne i hi hpi) hpi, fun i hi hpi => ih.tag i (hne i hi hpi) hpi⟩
end
end Go.Proofs.YtblcibgphccfkaaGreatDoor
