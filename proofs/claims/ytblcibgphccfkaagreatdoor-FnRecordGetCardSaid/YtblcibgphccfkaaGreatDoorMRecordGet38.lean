/- Texts of the proof of the law FnRecordGet, side by side: part 38. -/
import Derived.Test.YtblcibgphccfkaaGreatDoorMRecordGet37
set_option maxHeartbeats 8000000
set_option maxRecDepth 100000
namespace Go.Proofs.YtblcibgphccfkaaGreatDoor
open Go.RowKit Go.Deep
theorem specRecordOf_a (x : Addr) (c : Nat) (l : List Fld) (B : Option Addr) (cb : Nat) (vs : List Vl) (ch : Int) (m : Nat) (w : World) (h1w : 1 < w.heap.size) (hxb : x.block < w.heap.size) (hfl : Flds w (some x) l) (hll : l.length ≤ 10000000) (hvs : ValsAt w Any m B vs) (hvl : vs.length ≤ 10000000) (hsv : sumV vs ≤ 1900000) (hc : l.length ≤ c) (hrg : ∀ k, -9223372036854775808 ≤ (vlK vs k).num ∧ (vlK vs k).num ≤ 9223372036854775807) :
 Calls Tryz.prog 15 #[.slice (some x) l.length c, .slice B vs.length cb, .int .i64 ch] w (NewNb (m + 2) (roN l vs ch) (roB l vs ch) w) := by
 have no : roB l vs ch = false → NewNb (m + 2) (roN l vs ch) (roB l vs ch) w = NewNb (m + 2) noneNd false w := fun h => by
  have e : roN l vs ch = noneNd := by unfold roN; rw [h]; rfl
  rw [h, e]
 cases hyes : fldsOk l
 · rw [no (by unfold roB; rw [hyes]; rfl)]
   exact roS_no x c l B cb vs ch m w h1w hxb hfl hll hvs hvl hsv (m + 2) hyes
 by_cases hlen : vs.length = l.length
 · cases hch : chB l ch
   · rw [no (by unfold roB; rw [hch]; simp)]
     exact roS_choice x c l B cb vs ch m w h1w hxb hfl hll hvs hvl hsv (m + 2) hyes hlen hch
   · by_cases h0 : plcN l l.length = 0
     · exact roS_zero x c l B cb vs ch m w h1w hxb hfl hll hvs hvl hsv hc hrg hyes hlen hch h0 (by unfold chB at hch; rw [if_pos h0] at hch; simpa using hch)
     · exact roS_pos x c l B cb vs ch m w h1w hxb hfl hll hvs hvl hsv hc hrg hyes hlen hch (by
        unfold chB at hch
        rw [if_neg h0] at hch
        have e : inB ch 0 ((plcN l l.length : Int) - 1) = withB ch (plcN l l.length : Int) := by rw [Bool.eq_iff_iff]; simp [inB, withB]; omega
        rw [e, hch])
 · rw [no (by unfold roB; rw [decide_eq_false hlen]; simp)]
   exact roS_len x c l B cb vs ch m w h1w hxb hfl hll hvs hvl hsv (m + 2) hyes hlen
end Go.Proofs.YtblcibgphccfkaaGreatDoor
namespace Go.Proofs.YtblcibgphccfkaaGreatDoor
open Go.RowKit
theorem code_alloc {w : World} {a : Option Addr} {len : Nat} (h : Code w w.heap.size a len) (o : Obj) : Code (w.alloc o) (w.alloc o).heap.size a len :=
 (h.keeps (R := w.heap.size) (Keeps.of_below ((Below.refl w.heap.size w).alloc (Nat.le_refl _) o)) (Nat.le_refl _) (Nat.le_refl _)).mono (by simp)
theorem draw_fin {w w2 : World} {n : Nd} {h : Hd} {M : Nat} (hz : w2.heap[w.heap.size]? = some (.cells #[.int .i64 0, .string { data := #[] }, .slice none 0 0, .int .i64 0, .int .i64 0, .slice none 0 0] nodeT (0, 0))) (hn : NdAt w2 (From (w.heap.size + 1)) M n h) (hb : Below w.heap.size w w2) :
 ∃ wf, ((((((w2.setCell ⟨w.heap.size, 0, none⟩ (.int .i64 n.kind)).setCell ⟨w.heap.size, 1, none⟩ (.string n.data)).setCell ⟨w.heap.size, 2, none⟩ (.slice h.A n.ptrs.length h.a)).setCell ⟨w.heap.size, 3, none⟩ (.int .i64 n.size)).setCell ⟨w.heap.size, 4, none⟩ (.int .i64 n.count)).setCell ⟨w.heap.size, 5, none⟩ (.slice h.B n.items.length h.b)) = wf ∧ wf.heap[w.heap.size]? = some (.cells #[.int .i64 n.kind, .string n.data, .slice h.A n.ptrs.length h.a, .int .i64 n.size, .int .i64 n.count, .slice h.B n.items.length h.b] nodeT (0, 0)) ∧ NdAt wf (From w.heap.size) M n h ∧ Below w.heap.size w wf := by
 have hu : Upon (w.heap.size + 1) w2 ((((((w2.setCell ⟨w.heap.size, 0, none⟩ (.int .i64 n.kind)).setCell ⟨w.heap.size, 1, none⟩ (.string n.data)).setCell ⟨w.heap.size, 2, none⟩ (.slice h.A n.ptrs.length h.a)).setCell ⟨w.heap.size, 3, none⟩ (.int .i64 n.size)).setCell ⟨w.heap.size, 4, none⟩ (.int .i64 n.count)).setCell ⟨w.heap.size, 5, none⟩ (.slice h.B n.items.length h.b)) :=
  ((((((Upon.refl _ w2).setCell (p := ⟨w.heap.size, 0, none⟩) (by simp) _).setCell (p := ⟨w.heap.size, 1, none⟩) (by simp) _).setCell (p := ⟨w.heap.size, 2, none⟩) (by simp) _).setCell (p := ⟨w.heap.size, 3, none⟩) (by simp) _).setCell (p := ⟨w.heap.size, 4, none⟩) (by simp) _).setCell (p := ⟨w.heap.size, 5, none⟩) (by simp) _
 have hk : ∀ (W : World) (i : Nat) (v : Value), Below w.heap.size w W → Below w.heap.size w (W.setCell ⟨w.heap.size, i, none⟩ v) := fun W i v hW => hW.setCell (p := ⟨w.heap.size, i, none⟩) (Nat.le_refl _) v
 exact ⟨_, rfl, row_setN (row_setN (row_setN (row_setN (row_setN (row_setN hz 0 _) 1 _) 2 _) 3 _) 4 _) 5 _, (hn.upon hu).from_ (by omega), hk _ _ _ (hk _ _ _ (hk _ _ _ (hk _ _ _ (hk _ _ _ (hk _ _ _ hb)))))⟩
open Go.RowKit Go.Deep
theorem l8Choice_z (x : Addr) (c : Nat) (l : List Fld) (k : Nat) (hk : k ≤ l.length) (w : World) (h : Flds w (some x) l) (hl : l.length ≤ 20) :
 Calls Tryz.prog 37 #[.slice (some x) l.length c, .int .i64 (k : Int)] w fun e w' => e = .returned (.int .i64 (plcN l k : Nat)) ∧ Below w.heap.size w w' := by
 have HF := Lib.hid h
 have hk20 : k ≤ 20 := by omega
 clear h
 go_enter Tryz.func37, Tryz.ntmps37
 go_wp2
 go_loopw [5, 6] (fun q i wr => ∃ (j u : Nat), i = .int .i64 (j : Int) ∧ q = .int .i64 (u : Int) ∧ j ≤ k ∧ u ≤ 20 ∧ Hid (u = plcN l j) ∧ Hid (Below w.heap.size w wr)) (fun _ i _ => k - (intOf i).toNat)
 case atStart => exact ⟨0, 0, rfl, rfl, by omega, by omega, Lib.hid rfl, Lib.hid (Below.refl _ _)⟩
 case round =>
  obtain ⟨j, u, rfl, rfl, hj, hu, HU, HB⟩ := hrel
  by_cases hlt : j < k
  · obtain ⟨x', hx', hxb', hx⟩ := (HF.out.below HB.out).at2 (k := j) (by omega)
    obtain rfl := Option.some.inj hx'
    have HTK := Lib.hid (plc_succ (l := l) (j := j) (by omega))
    have HP := Lib.hid (plc_le l (j + 1))
    generalize l[j] = f at hx HTK
    obtain ⟨z, fc, el⟩ := f
    obtain ⟨c0, c1, c2⟩ := hx
    have hjl : j < l.length := by omega
    cases fc
    · go_wp2
      go_roundw
      case rel => exact ⟨j + 1, u, by go_num, rfl, by omega, by omega, Lib.hid (by rw [HTK.out, HU.out]; rfl), HB⟩
      case measure => simp [intOf]; omega
    · have hu1 : u + 1 ≤ 20 := by have h1 := HP.out; have h2 := HTK.out; have h3 := HU.out; simp at h2; omega
      go_wp2
      go_roundw
      case rel => exact ⟨j + 1, u + 1, by go_num, by go_num, by omega, hu1, Lib.hid (by rw [HTK.out, HU.out]; rfl), HB⟩
      case measure => simp [intOf]; omega
  · obtain rfl : j = k := by omega
    go_wp2
    go_ret
    exact ⟨by rw [← HU.out]; rfl, HB.out⟩
theorem plc_le' (l : List Fld) : plcN l l.length ≤ l.length := plc_le l _
theorem l13Some_any (R n : Nat) (x : Addr) (c : Nat) (l : List Fld) (w : World) (h : Rd w R n) (hn : n ≤ 500000) (hfl : Flds w (some x) l) (hl : l.length ≤ 13) :
 Calls Tryz.prog 44 #[.pointer (some ⟨R, 0, none⟩), .slice (some x) l.length c] w (IntP (fun v => -1 ≤ v ∧ v ≤ 13) R (n + 1) w) := by
 have hpl := plc_le' l
 have HC := Lib.hid (l8Choice_z x c l l.length (Nat.le_refl _) w hfl (by omega))
 have HD := Lib.hid h
 clear h hfl
 unfold IntP
 by_cases h0 : plcN l l.length = 0
 · rw [h0] at HC
   clear h0
   go_enter Tryz.func44, Tryz.ntmps44
   go_wp2_with fail
   refine HC.out.mono ?_
   rintro e w1 ⟨rfl, hb1⟩
   have HB1 := Lib.hid hb1
   clear hb1
   go_wp2
   go_ret
   exact ⟨-1, by decide, rfl, (HD.out.self.below HB1.out).mono (by omega)⟩
 · obtain ⟨u, hu⟩ : ∃ u, plcN l l.length = u := ⟨_, rfl⟩
   rw [hu] at HC h0 hpl
   have hu0 : ((u : Int) == 0) = false := by simp; omega
   clear hu
   go_enter Tryz.func44, Tryz.ntmps44
   go_wp2_with fail
   refine HC.out.mono ?_
   rintro e w1 ⟨rfl, hb1⟩
   have HP1 := Lib.hid (HD.out.self.below hb1)
   clear hb1
   go_wp2_with fail
   refine (pick_any R n _ _ HP1.out.1 (by omega)).mono ?_
   rintro e w2 ⟨v, ⟨hv0, hv1⟩, rfl, hp2⟩
   have HP2 := Lib.hid (HP1.out.then hp2)
   clear hp2
   go_wp2
   go_ret
   exact ⟨v, by omega, rfl, HP2.out⟩
theorem roN_sz {l : List Fld} {vs : List Vl} {ch : Int} (hv : sumV vs ≤ 1900000) : sizN (roN l vs ch) ≤ 2000000 := by
 unfold roN
 by_cases h : roB l vs ch = true
 · rw [if_pos h]
   unfold roB at h
   simp only [Bool.and_eq_true, decide_eq_true_eq] at h
   exact rec_siz l vs ch (fldsOk_len h.1) hv h.2.1.1
 · rw [if_neg h]
   decide
def NdR (R k : Nat) (w : World) (e : Ending) (w' : World) : Prop := ∃ (m : Nat) (n : Nd) (h : Hd), e = .returned (.agg #[.int .i64 n.kind, .string n.data, .slice h.A n.ptrs.length h.a, .int .i64 n.size, .int .i64 n.count, .slice h.B n.items.length h.b]) ∧ NdAt w' (From w.heap.size) m n h ∧ totN m n ≤ 2000000 ∧ Picked w R k w'
theorem NdAt.pickF {w w' : World} {R n B m : Nat} {x : Nd} {h : Hd} (hn : NdAt w (From B) m x h) (hp : Picked w R n w') (hR : R < B) : NdAt w' (From B) m x h :=
 hn.map (fun _ h => h) (fun p _ _ hs hc => hc.block (hp.2.block _ hc.lt (by have h1 : B ≤ p.block := hs; omega)))
theorem NdAt.upF {w w' : World} {B C m : Nat} {x : Nd} {h : Hd} (hn : NdAt w (From B) m x h) (hu : Upon C w w') (hB : C ≤ B) : NdAt w' (From B) m x h :=
 hn.map (fun _ h => h) (fun p _ _ hs hc => hc.block (hu.block _ (by have h1 : B ≤ p.block := hs; omega) hc.lt))
theorem l13Record_any (R n : Nat) (x : Addr) (c : Nat) (l : List Fld) (w : World) (h : Rd w R n) (hn : n ≤ 10000) (hfl : Flds w (some x) l) (hxb : x.block < w.heap.size) (hx : x.block ≠ R) (hl : l.length ≤ 13) (hc : l.length ≤ c) :
 Calls Tryz.prog 24 #[.pointer (some ⟨R, 0, none⟩), .slice (some x) l.length c] w (NdR R (n + 20000) w) := by
 have hRw := h.lt
 have HR := Lib.hid (heap_alloc_new w (.cells #[.int .i64 0, .string { data := #[] }, .slice none 0 0, .int .i64 0, .int .i64 0, .slice none 0 0] nodeT))
 have HP := Lib.hid (h.self.below ((Below.refl w.heap.size w).alloc (Nat.le_refl _) (.cells #[.int .i64 0, .string { data := #[] }, .slice none 0 0, .int .i64 0, .int .i64 0, .slice none 0 0] nodeT)))
 have HS0 : Hid ((w.alloc (.cells #[.int .i64 0, .string { data := #[] }, .slice none 0 0, .int .i64 0, .int .i64 0, .slice none 0 0] nodeT)).heap.size = w.heap.size + 1) := Lib.hid (by simp)
 have HFL := Lib.hid hfl
 clear h hfl
 unfold NdR
 go_enter Tryz.func24, Tryz.ntmps24
 go_wp2_with fail
 generalize w.alloc (.cells #[.int .i64 0, .string { data := #[] }, .slice none 0 0, .int .i64 0, .int .i64 0, .slice none 0 0] nodeT) = W0 at *
 refine (l13Vals_any R n x c l W0 HP.out.1 (by omega) (HFL.out.picked HP.out hx) hx hl).mono ?_
 rintro e w1 ⟨v, q, rfl, hql, hvr, hp1⟩
 obtain ⟨A1, cp1, rfl⟩ := own_slice3 hvr.1
 have HV := Lib.hid hvr
 have HQL := Lib.hid hql
 have HRW := Lib.hid HP.out.1.lt
 have HS1 := Lib.hid hp1.2.size
 replace HR := Lib.hid ((hp1.2.block _ (row_lt HR.out) (by omega)).trans HR.out)
 replace HP := Lib.hid (HP.out.then hp1)
 clear hp1 hvr
 go_wp2_with fail
 refine (l13Some_any R (n + 350 * l.length) x c l w1 HP.out.1 (by omega) (HFL.out.picked HP.out hx) hl).mono ?_
 rintro e w2 ⟨ch, hch, rfl, hp2⟩
 replace HV := Lib.hid (HV.out.picked hp2 HRW.out)
 have HS2 := Lib.hid hp2.2.size
 replace HR := Lib.hid ((hp2.2.block _ (row_lt HR.out) (by omega)).trans HR.out)
 replace HP := Lib.hid (HP.out.then hp2)
 clear hp2
 obtain ⟨A2, cp2, hA2, hva⟩ := HV.out.vals
 obtain ⟨rfl, rfl⟩ : A1 = A2 ∧ cp1 = cp2 := by injection hA2 with e1 e2 e3; exact ⟨e1, e3⟩
 have hsum := HV.out.sum
 obtain ⟨vs, hvs⟩ : ∃ vs : List Vl, vs = q.map (·.1) := ⟨_, rfl⟩
 have hrgk : ∀ k, -9223372036854775808 ≤ (vlK vs k).num ∧ (vlK vs k).num ≤ 9223372036854775807 := fun k => by rw [hvs]; exact HV.out.rg k
 rw [← hvs] at hva hsum
 have hvl : vs.length = q.length := by rw [hvs, List.length_map]
 have hs19 : sumV vs ≤ 1900000 := by omega
 have HRO := Lib.hid (specRecordOf_a x c l A1 cp1 vs ch 4 w2 (by have := HP.out.2.size; have := HS0.out; have := HS1.out; have := HS2.out; omega) (Nat.lt_of_lt_of_le hxb HP.out.2.size) (HFL.out.picked HP.out hx) (by omega) hva (by omega) hs19 hc hrgk)
 have HSZ : Hid (sizN (roN l vs ch) ≤ 2000000) := Lib.hid (roN_sz hs19)
 rw [hvl, HQL.out] at HRO
 generalize roN l vs ch = y at *
 generalize roB l vs ch = ok at *
 unfold NewNb at HRO
 clear hva hsum hvl hs19 hA2 hch hrgk hvs
 go_wp2_with fail
 refine HRO.out.mono ?_
 rintro e w3 ⟨hy, bs, rfl, ho, -, hge, hb3⟩
 have HN3 : Hid (NdAt (w3.alloc (.cells #[.int .i64 y.kind, .string y.data, .slice hy.A y.ptrs.length hy.a, .int .i64 y.size, .int .i64 y.count, .slice hy.B y.items.length hy.b] nodeT)) (From (w.heap.size + 1)) (4 + 2) y hy) := Lib.hid ((ho.nd.weak (fun k hk => by have h1 := hge k hk.1; have h2 := HS0.out; have h3 := HS1.out; have h4 := HS2.out; show w.heap.size + 1 ≤ k; omega)).below ((Below.refl w3.heap.size w3).alloc (Nat.le_refl _) _))
 have HTY : Hid (totN (4 + 2) y ≤ 2000000) := Lib.hid (by rw [totN_siz ho.nd]; exact HSZ.out)
 have hba : Below w2.heap.size w2 (w3.alloc (.cells #[.int .i64 y.kind, .string y.data, .slice hy.A y.ptrs.length hy.a, .int .i64 y.size, .int .i64 y.count, .slice hy.B y.items.length hy.b] nodeT)) := hb3.alloc hb3.size _
 have HX3 := Lib.hid (heap_alloc_new w3 (.cells #[.int .i64 y.kind, .string y.data, .slice hy.A y.ptrs.length hy.a, .int .i64 y.size, .int .i64 y.count, .slice hy.B y.items.length hy.b] nodeT))
 have HS3 := Lib.hid (And.intro hb3.size (show w3.heap.size < (w3.alloc (.cells #[.int .i64 y.kind, .string y.data, .slice hy.A y.ptrs.length hy.a, .int .i64 y.size, .int .i64 y.count, .slice hy.B y.items.length hy.b] nodeT)).heap.size by simp))
 replace HR := Lib.hid ((hba.block _ (row_lt HR.out)).trans HR.out)
 replace HP := Lib.hid (HP.out.below hba)
 clear hba ho hge hb3 HRO HSZ HV
 have HGB := Lib.hid (row_lt HX3.out)
 have HSW : Hid (w.heap.size + 1 ≤ (w3.alloc (.cells #[.int .i64 y.kind, .string y.data, .slice hy.A y.ptrs.length hy.a, .int .i64 y.size, .int .i64 y.count, .slice hy.B y.items.length hy.b] nodeT)).heap.size) := Lib.hid (by have h1 := HS3.out; have h2 := HS0.out; have h3 := HS1.out; have h4 := HS2.out; omega)
 have HGE : Hid (w.heap.size + 1 ≤ w3.heap.size) := Lib.hid (by have h1 := HS3.out; have h2 := HS0.out; have h3 := HS1.out; have h4 := HS2.out; omega)
 cases ok
 · go_wp2_with fail
   generalize w3.alloc (.cells #[.int .i64 y.kind, .string y.data, .slice hy.A y.ptrs.length hy.a, .int .i64 y.size, .int .i64 y.count, .slice hy.B y.items.length hy.b] nodeT) = W3 at *
   refine (l13AnyNode_any R (n + 350 * l.length + 1) _ HP.out.1 (by omega)).mono ?_
   rintro e w4 ⟨y2, h2, rfl, hn2, ht2, hp4⟩
   have HN2 : Hid (NdAt w4 (From (w.heap.size + 1)) 18 y2 h2) := Lib.hid (hn2.weak (fun k hk => by have h1 : W3.heap.size ≤ k := hk.1; have h2 := HSW.out; show w.heap.size + 1 ≤ k; omega))
   have HT2 : Hid (totN 18 y2 ≤ 2000000) := Lib.hid (Nat.le_trans ht2.1 (by decide))
   replace HR := Lib.hid ((hp4.2.block _ (row_lt HR.out) (by omega)).trans HR.out)
   replace HP := Lib.hid (HP.out.then hp4)
   clear hp4 hn2 ht2
   obtain ⟨b0, b1, b2, b3, b4, b5⟩ := cells6 HR.out
   have f2 := row_free HR.out
   obtain ⟨wf, hwf, hrw, hpw, huw⟩ := store6 (b := w.heap.size) HR.out HP.out hRw (Nat.le_refl _) (.int .i64 y2.kind) (.string y2.data) (.slice h2.A y2.ptrs.length h2.a) (.int .i64 y2.size) (.int .i64 y2.count) (.slice h2.B y2.items.length h2.b)
   obtain ⟨e0, e1, e2, e3, e4, e5⟩ := cells6 hrw
   have HWF := Lib.hid hwf
   have HPW := Lib.hid hpw
   have HNF : Hid (NdAt wf (From w.heap.size) 18 y2 h2) := Lib.hid ((HN2.out.upF huw (Nat.le_refl _)).weak (fun k hk => by have h1 : w.heap.size + 1 ≤ k := hk; show w.heap.size ≤ k; omega))
   clear hwf hrw hpw huw
   go_wp2
   rw [HWF.out]
   exact bodyPost_ret (v := .agg #[.int .i64 y2.kind, .string y2.data, .slice h2.A y2.ptrs.length h2.a, .int .i64 y2.size, .int .i64 y2.count, .slice h2.B y2.items.length h2.b]) (by simp [results, Tryz.results24, go_sem, e0, e1, e2, e3, e4, e5]) rfl ⟨18, y2, h2, rfl, HNF.out, HT2.out, HPW.out.mono (by omega)⟩
 · go_wp2_with fail
   generalize w3.alloc (.cells #[.int .i64 y.kind, .string y.data, .slice hy.A y.ptrs.length hy.a, .int .i64 y.size, .int .i64 y.count, .slice hy.B y.items.length hy.b] nodeT) = W3 at *
   generalize w3.heap.size = gb at *
   refine (pick_any R (n + 350 * l.length + 1) _ _ HP.out.1 (by omega)).mono ?_
   rintro e w4 ⟨u, ⟨hu0, hu1⟩, rfl, hp4⟩
   have hRg : gb ≠ R := by have := HGE.out; omega
   replace HN3 := Lib.hid (HN3.out.pickF hp4 (by omega))
   replace HX3 := Lib.hid ((hp4.2.block _ (row_lt HX3.out) hRg).trans HX3.out)
   replace HSW := Lib.hid (Nat.le_trans HSW.out hp4.2.size)
   replace HR := Lib.hid ((hp4.2.block _ (row_lt HR.out) (by omega)).trans HR.out)
   replace HP := Lib.hid (HP.out.then hp4)
   clear hp4
   by_cases u0 : u = 0
   · subst u0
     go_wp2_with fail
     refine (l13AnyNode_any R (n + 350 * l.length + 1 + 1) _ HP.out.1 (by omega)).mono ?_
     rintro e w5 ⟨y2, h2, rfl, hn2, ht2, hp5⟩
     have HN2 : Hid (NdAt w5 (From (w.heap.size + 1)) 18 y2 h2) := Lib.hid (hn2.weak (fun k hk => by have h1 : w4.heap.size ≤ k := hk.1; have h2 := HSW.out; show w.heap.size + 1 ≤ k; omega))
     have HT2 : Hid (totN 18 y2 ≤ 2000000) := Lib.hid (Nat.le_trans ht2.1 (by decide))
     replace HR := Lib.hid ((hp5.2.block _ (row_lt HR.out) (by omega)).trans HR.out)
     replace HP := Lib.hid (HP.out.then hp5)
     clear hp5 hn2 ht2
     obtain ⟨b0, b1, b2, b3, b4, b5⟩ := cells6 HR.out
     have f2 := row_free HR.out
     obtain ⟨wf, hwf, hrw, hpw, huw⟩ := store6 (b := w.heap.size) HR.out HP.out hRw (Nat.le_refl _) (.int .i64 y2.kind) (.string y2.data) (.slice h2.A y2.ptrs.length h2.a) (.int .i64 y2.size) (.int .i64 y2.count) (.slice h2.B y2.items.length h2.b)
     obtain ⟨e0, e1, e2, e3, e4, e5⟩ := cells6 hrw
     have HWF := Lib.hid hwf
     have HPW := Lib.hid hpw
     have HNF : Hid (NdAt wf (From w.heap.size) 18 y2 h2) := Lib.hid ((HN2.out.upF huw (Nat.le_refl _)).weak (fun k hk => by have h1 : w.heap.size + 1 ≤ k := hk; show w.heap.size ≤ k; omega))
     clear hwf hrw hpw huw
     go_wp2
     rw [HWF.out]
     exact bodyPost_ret (v := .agg #[.int .i64 y2.kind, .string y2.data, .slice h2.A y2.ptrs.length h2.a, .int .i64 y2.size, .int .i64 y2.count, .slice h2.B y2.items.length h2.b]) (by simp [results, Tryz.results24, go_sem, e0, e1, e2, e3, e4, e5]) rfl ⟨18, y2, h2, rfl, HNF.out, HT2.out, HPW.out.mono (by omega)⟩
   · have hue : (u == 0) = false := by simpa using u0
     obtain ⟨x0, x1, x2, x3, x4, x5⟩ := cells6 HX3.out
     obtain ⟨b0, b1, b2, b3, b4, b5⟩ := cells6 HR.out
     have f2 := row_free HR.out
     obtain ⟨wf, hwf, hrw, hpw, huw⟩ := store6 (b := w.heap.size) HR.out HP.out hRw (Nat.le_refl _) (.int .i64 y.kind) (.string y.data) (.slice hy.A y.ptrs.length hy.a) (.int .i64 y.size) (.int .i64 y.count) (.slice hy.B y.items.length hy.b)
     obtain ⟨e0, e1, e2, e3, e4, e5⟩ := cells6 hrw
     have HWF := Lib.hid hwf
     have HPW := Lib.hid hpw
     have HNF : Hid (NdAt wf (From w.heap.size) (4 + 2) y hy) := Lib.hid ((HN3.out.upF huw (Nat.le_refl _)).weak (fun k hk => by have h1 : w.heap.size + 1 ≤ k := hk; show w.heap.size ≤ k; omega))
     clear hwf hrw hpw huw
     go_wp2
     rw [HWF.out]
     exact bodyPost_ret (v := .agg #[.int .i64 y.kind, .string y.data, .slice hy.A y.ptrs.length hy.a, .int .i64 y.size, .int .i64 y.count, .slice hy.B y.items.length hy.b]) (by simp [results, Tryz.results24, go_sem, e0, e1, e2, e3, e4, e5]) rfl ⟨(4 + 2), y, hy, rfl, HNF.out, HTY.out, HPW.out.mono (by omega)⟩
theorem Flds.keepB {w w' : World} {x : Addr} {l : List Fld} (h : Flds w (some x) l) (hb : w'.heap[x.block]? = w.heap[x.block]?) (hs : w.heap.size ≤ w'.heap.size) : Flds w' (some x) l := by
 rcases h with h | ⟨y, e, hx, hc⟩
 · exact .inl h
 · injection e with e
   subst e
   refine .inr ⟨x, rfl, Nat.lt_of_lt_of_le hx hs, fun k f hk => ?_⟩
   obtain ⟨c0, c1, c2⟩ := hc k f hk
   exact ⟨(World.cell?_of_block (w := w) (w' := w') (a := x.add (k * 3)) (by rw [addr_block]; exact hb)).trans c0,
    (World.cell?_of_block (w := w) (w' := w') (a := ⟨(x.add (k * 3)).block, (x.add (k * 3)).off + 1, none⟩) (by show w'.heap[(x.add (k * 3)).block]? = w.heap[(x.add (k * 3)).block]?; rw [addr_block]; exact hb)).trans c1,
    (World.cell?_of_block (w := w) (w' := w') (a := ⟨(x.add (k * 3)).block, (x.add (k * 3)).off + 2, none⟩) (by show w'.heap[(x.add (k * 3)).block]? = w.heap[(x.add (k * 3)).block]?; rw [addr_block]; exact hb)).trans c2⟩
def DrawRG (w : World) (e : Ending) (w' : World) : Prop := ∃ (X : Addr) (c : Nat) (l : List Fld) (m : Nat) (n : Nd) (h : Hd) (i : Int), e = .returned (.tuple #[.slice (some X) l.length c, .agg #[.int .i64 n.kind, .string n.data, .slice h.A n.ptrs.length h.a, .int .i64 n.size, .int .i64 n.count, .slice h.B n.items.length h.b], .int .i64 i]) ∧ l.length ≤ 13 ∧ l.length ≤ c ∧ ElsB l ∧ X.block < w'.heap.size ∧ (-1 ≤ i ∧ i ≤ 20) ∧ Flds w' (some X) l ∧ NdAt w' Any m n h ∧ totN m n ≤ 2000000 ∧ Below w.heap.size w w'
theorem drawRecordGet_any (a : Option Addr) (len cap : Nat) (w : World) (h : Arg w a len cap) :
 Calls Tryz.prog 7 #[.slice a len cap] w (DrawRG w) := by
 have HR := Lib.hid (heap_alloc_new w (.cells #[.int .i64 0, .string { data := #[] }, .slice none 0 0, .int .i64 0, .int .i64 0, .slice none 0 0] nodeT))
 have HB := Lib.hid ((Below.refl w.heap.size w).alloc (Nat.le_refl _) (.cells #[.int .i64 0, .string { data := #[] }, .slice none 0 0, .int .i64 0, .int .i64 0, .slice none 0 0] nodeT))
 have HS0 : Hid ((w.alloc (.cells #[.int .i64 0, .string { data := #[] }, .slice none 0 0, .int .i64 0, .int .i64 0, .slice none 0 0] nodeT)).heap.size = w.heap.size + 1) := Lib.hid (by simp)
 have HO := Lib.hid (l1Open_any a len cap (w.alloc (.cells #[.int .i64 0, .string { data := #[] }, .slice none 0 0, .int .i64 0, .int .i64 0, .slice none 0 0] nodeT)) (code_alloc h.1 _) h.2.1 h.2.2)
 clear h
 unfold DrawRG
 go_enter Tryz.func7, Tryz.ntmps7
 go_wp2_with fail
 generalize w.alloc (.cells #[.int .i64 0, .string { data := #[] }, .slice none 0 0, .int .i64 0, .int .i64 0, .slice none 0 0] nodeT) = W0 at *
 refine HO.out.mono ?_
 rintro e w1 ⟨R, rfl, hR, hrd, hb1⟩
 have hRl := hrd.lt
 have HRD := Lib.hid hrd
 replace HR := Lib.hid ((hb1.block _ (row_lt HR.out)).trans HR.out)
 replace HB := Lib.hid (HB.out.trans (hb1.mono HB.out.size))
 have hRw : w.heap.size + 1 ≤ R := by have := HS0.out; omega
 have HS1 := Lib.hid hb1.size
 clear hrd hb1 hR HO
 go_wp2_with fail
 refine (l13AnyFields_s R 0 _ HRD.out (by omega)).mono ?_
 rintro e w2 ⟨v, l, rfl, hl13, hown, hp2, hsm, hel⟩
 obtain ⟨g, c, rfl, hg1, hg2, hlc, hfl⟩ := fld_some hown hsm
 have HF := Lib.hid hfl
 have HEL := Lib.hid hel
 have HP := Lib.hid hp2
 replace HR := Lib.hid ((hp2.2.block _ (row_lt HR.out) (by omega)).trans HR.out)
 have hgR : g ≠ R := by omega
 have HS2 := Lib.hid hp2.2.size
 clear hown hsm hel hfl hp2
 go_wp2_with fail
 refine (l13Record_any R (0 + 100) ⟨g, 0, none⟩ c l w2 HP.out.1 (by omega) HF.out hg2 hgR hl13 hlc).mono ?_
 rintro e w3 ⟨m, n, hh, rfl, hn, ht, hp3⟩
 have HN : Hid (NdAt w3 (From (w1.heap.size)) m n hh) := Lib.hid (hn.weak (fun k hk => by have h1 : w2.heap.size ≤ k := hk; have h2 := HS2.out; show w1.heap.size ≤ k; omega))
 have HT := Lib.hid ht
 replace HR := Lib.hid ((hp3.2.block _ (row_lt HR.out) (by omega)).trans HR.out)
 replace HF := Lib.hid (HF.out.picked hp3 hgR)
 replace HP := Lib.hid (HP.out.then hp3)
 have hg3 : g < w3.heap.size := Nat.lt_of_lt_of_le hg2 hp3.2.size
 clear hn ht hp3 hg2
 go_wp2_with fail
 refine (pick_any R (0 + 100 + 20000) _ _ HP.out.1 (by omega)).mono ?_
 rintro e w4 ⟨x, ⟨hx0, hx1⟩, rfl, hp4⟩
 have hx2 : x ≤ 15 := by omega
 replace HN := Lib.hid (HN.out.pickF hp4 hRl)
 replace HR := Lib.hid ((hp4.2.block _ (row_lt HR.out) (by omega)).trans HR.out)
 replace HF := Lib.hid (HF.out.picked hp4 hgR)
 replace HP := Lib.hid (HP.out.then hp4)
 have hg4 : g < w4.heap.size := Nat.lt_of_lt_of_le hg3 hp4.2.size
 have hb4 : Below w.heap.size w w4 := HB.out.trans (HP.out.2.below HB.out.size (by omega))
 have hn4 : NdAt w4 (From (w.heap.size + 1)) m n hh := HN.out.weak (fun k hk => by have h1 : w1.heap.size ≤ k := hk; have h2 := HS1.out; have h3 := HS0.out; show w.heap.size + 1 ≤ k; omega)
 obtain ⟨b0, b1, b2, b3, b4, b5⟩ := cells6 HR.out
 have f2 := row_free HR.out
 obtain ⟨wf, hwf, hrw, hnf, hbf⟩ := draw_fin HR.out hn4 hb4
 have hkw : ∀ k, k ≠ w.heap.size → wf.heap[k]? = w4.heap[k]? := fun k hk => by
  rw [← hwf, Below.heap_setCell _ _ _ _ hk, Below.heap_setCell _ _ _ _ hk, Below.heap_setCell _ _ _ _ hk, Below.heap_setCell _ _ _ _ hk, Below.heap_setCell _ _ _ _ hk, Below.heap_setCell _ _ _ _ hk]
 have hsw : w4.heap.size ≤ wf.heap.size := by rw [← hwf]; simp [World.setCell]
 obtain ⟨e0, e1, e2, e3, e4, e5⟩ := cells6 hrw
 have HWF := Lib.hid hwf
 have HNF := Lib.hid hnf
 have HBF := Lib.hid hbf
 have HFF : Hid (Flds wf (some ⟨g, 0, none⟩) l) := Lib.hid (HF.out.keepB (hkw g (by omega)) hsw)
 have hg5 : g < wf.heap.size := by omega
 clear hwf hrw hnf hbf hkw hsw hn4 hb4
 go_wp2
 rw [HWF.out]
 exact bodyPost_ret (v := .tuple #[.slice (some ⟨g, 0, none⟩) l.length c, .agg #[.int .i64 n.kind, .string n.data, .slice hh.A n.ptrs.length hh.a, .int .i64 n.size, .int .i64 n.count, .slice hh.B n.items.length hh.b], .int .i64 (x - 1)]) (by simp [results, Tryz.results7, go_sem, e0, e1, e2, e3, e4, e5]) rfl ⟨⟨g, 0, none⟩, c, l, m, n, hh, x - 1, rfl, hl13, hlc, HEL.out, hg5, ⟨by omega, by omega⟩, HFF.out, HNF.out.weak (fun _ _ => trivial), HT.out, HBF.out⟩
theorem leN_nil : ∀ (a k : Nat), leN [] a k = 0
 | _, 0 => rfl
 | a, k + 1 => by unfold leN; rw [leN_nil (a + 1) k]; rfl
theorem getI_nil (a z : Int) : getI [] a z = 0 := by
 unfold getI
 rw [leN_nil]
 split
 · simp [wrap64]
 · rfl
theorem bitI_nil (a : Int) : bitI [] a = 0 := by
 unfold bitI
 split
 · unfold bitN; simp
 · rfl
theorem xorI_zero {e : Int} (h0 : 0 ≤ e) (h1 : e ≤ 2) : xorI 0 e = e := by
 obtain rfl | rfl | rfl : e = 0 ∨ e = 1 ∨ e = 2 := by omega
 all_goals decide
theorem rg_none {l : List Fld} (hok : fldsOk l = true) (hel : ∀ f ∈ l, 0 ≤ f.els ∧ f.els ≤ 2) {a : Int} (h0 : 0 ≤ a) (h1 : a < l.length) :
 (rgB l noneNd a = false → (fldK l a.toNat).choice = true ∧ 0 ≤ tagL l) ∧ (rgB l noneNd a = true → rgN l noneNd a = (fldK l a.toNat).els ∧ rgY l noneNd a = noneNd) := by
 have hk : a.toNat < l.length := by omega
 have hr : recB l noneNd = true := by unfold recB; rw [hok]; rfl
 have hw : withB a (l.length : Int) = true := by unfold withB; simp; omega
 refine ⟨fun h => ?_, fun h => ?_⟩
 · unfold rgB at h
   rw [hr, hw] at h
   unfold seenB tellsB at h
   cases hc : (fldK l a.toNat).choice
   · rw [hc] at h; simp at h
   · rw [hc] at h
     refine ⟨rfl, ?_⟩
     by_cases ht : 0 ≤ tagL l
     · exact ht
     · rw [decide_eq_false ht] at h; simp at h
 · have hf := fld_ok_at hok hk
   have he := hel _ (List.getElem_mem hk)
   unfold rgN rgY
   rw [if_pos h, if_pos h]
   unfold fNum fNod
   rw [fldK_at hk]
   by_cases h6 : (l[a.toNat]).size = 6
   · rw [if_pos h6, if_pos h6, els_six hf h6]
     exact ⟨rfl, rfl⟩
   · rw [if_neg h6, if_neg h6]
     refine ⟨?_, rfl⟩
     have : rawI l[a.toNat] (atF l a.toNat) noneNd = 0 := by
      unfold rawI
      show (if _ then bitI [] _ else getI [] _ _) = 0
      rw [bitI_nil, getI_nil]
      split <;> rfl
     rw [this]
     exact xorI_zero he.1 he.2
end Go.Proofs.YtblcibgphccfkaaGreatDoor
