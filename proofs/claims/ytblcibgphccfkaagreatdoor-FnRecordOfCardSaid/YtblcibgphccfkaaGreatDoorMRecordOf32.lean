/- Texts of the proof of the law FnRecordOf, side by side: part 32. -/
import Derived.Test.YtblcibgphccfkaaGreatDoorMRecordOf31
set_option maxHeartbeats 8000000
set_option maxRecDepth 100000
namespace Go.Proofs.YtblcibgphccfkaaGreatDoor
open Go.RowKit Go.Deep
theorem infoVl : (Tryz.prog.info? valT).map (fun i => (i.zero, i.size, i.bytes)) = some (some (.agg #[.int .i64 0, .int .i64 0, .string ByteArray.empty, .slice none 0 0, .int .i64 0, .int .i64 0, .slice none 0 0]), 7, 96) := by kernel_rfl
theorem Flds.picked {w w' : World} {R n : Nat} {x : Addr} {l : List Fld} (h : Flds w (some x) l) (hp : Picked w R n w') (hne : x.block ≠ R) : Flds w' (some x) l := by
 rcases h with h | ⟨y, e, hx, hc⟩
 · exact .inl h
 · injection e with e
   subst e
   refine .inr ⟨x, rfl, Nat.lt_of_lt_of_le hx hp.2.size, fun k f hk => ?_⟩
   obtain ⟨c0, c1, c2⟩ := hc k f hk
   have hb := hp.2.block x.block hx hne
   exact ⟨(World.cell?_of_block (w := w) (w' := w') (a := x.add (k * 3)) (by rw [addr_block]; exact hb)).trans c0,
    (World.cell?_of_block (w := w) (w' := w') (a := ⟨(x.add (k * 3)).block, (x.add (k * 3)).off + 1, none⟩) (by show w'.heap[(x.add (k * 3)).block]? = w.heap[(x.add (k * 3)).block]?; rw [addr_block]; exact hb)).trans c1,
    (World.cell?_of_block (w := w) (w' := w') (a := ⟨(x.add (k * 3)).block, (x.add (k * 3)).off + 2, none⟩) (by show w'.heap[(x.add (k * 3)).block]? = w.heap[(x.add (k * 3)).block]?; rw [addr_block]; exact hb)).trans c2⟩
theorem fld_some {w : World} {B : Nat} {v : Value} {l : List Fld} (h : w.ownsRow B fieldT 3 v l.length (fldCells l)) (hs : SomeS v) : ∃ g cap, v = .slice (some ⟨g, 0, none⟩) l.length cap ∧ B ≤ g ∧ g < w.heap.size ∧ l.length ≤ cap ∧ Flds w (some ⟨g, 0, none⟩) l := by
 obtain ⟨A, cap, hv, hf⟩ := flds_of_own h
 obtain ⟨g, n, c, hv2⟩ := hs
 rcases h.2 with ⟨h0, -⟩ | ⟨g', cap', cur, hv3, hR, hg, hc, -⟩
 · rw [h0] at hv2; cases hv2
 · rw [hv3] at hv2 hv
   injection hv with e1 e2 e3
   subst e3
   exact ⟨g', cap', hv3, hR, row_lt hg, hc, by rw [e1]; exact hf⟩
theorem VRow.sum {w : World} {B M T : Nat} {v : Value} {q : List (Vl × Hd)} (h : VRow w B v q M T) : sumV (q.map (·.1)) ≤ q.length * T := by
 have : ∀ q : List (Vl × Hd), (∀ r ∈ q, sizN r.1.nd ≤ T) → sumV (q.map (·.1)) ≤ q.length * T := by
  intro q
  induction q with
  | nil => intro _; simp [sumV]
  | cons a t ih =>
   intro hq
   have h1 := hq a List.mem_cons_self
   have h2 := ih (fun r hr => hq r (List.mem_cons_of_mem _ hr))
   simp only [List.map_cons, sumV, List.length_cons, Nat.add_mul]
   omega
 exact this q (fun r hr => by rw [← totN_siz (h.2 r hr).1]; exact (h.2 r hr).2.1)
def ValsD (R k N : Nat) (w : World) (e : Ending) (w' : World) : Prop := ∃ (v : Value) (q : List (Vl × Hd)), e = .returned v ∧ q.length = N ∧ VRow w' w.heap.size v q 4 7007 ∧ Picked w R k w'
theorem l13Vals_any (R n : Nat) (x : Addr) (c : Nat) (l : List Fld) (w : World) (h : Rd w R n) (hn : n ≤ 200000) (hfl : Flds w (some x) l) (hx : x.block ≠ R) (hl : l.length ≤ 13) :
 Calls Tryz.prog 43 #[.pointer (some ⟨R, 0, none⟩), .slice (some x) l.length c] w (ValsD R (n + 350 * l.length) l.length w) := by
 have hRw := h.lt
 obtain ⟨i0, hi, hz0, hz1, hz2⟩ := info_parts infoVl
 have HQ0 := Lib.hid (h.self.below ((Below.refl w.heap.size w).alloc (Nat.le_refl _) (.cells #[] valT)))
 have HV0 : Hid (VRow (w.alloc (.cells #[] valT)) w.heap.size (.slice (some ⟨w.heap.size, 0, none⟩) 0 0) [] 4 7007) := Lib.hid ⟨World.ownsRow_lit w #[] 0 (Nat.le_refl _) (by decide) rfl, fun r hr => (by cases hr)⟩
 have HFL := Lib.hid hfl
 have HX := Lib.hid hx
 clear h hfl hx
 unfold ValsD
 go_enter Tryz.func43, Tryz.ntmps43
 go_wp2_with fail
 go_loopw [5, 6] (fun v i wr => ∃ q : List (Vl × Hd), i = .int .i64 (q.length : Int) ∧ q.length ≤ l.length ∧ Hid (VRow wr w.heap.size v q 4 7007) ∧ Hid (Picked w R (n + 350 * q.length) wr)) (fun _ i _ => l.length - (intOf i).toNat)
 case atStart => exact ⟨[], rfl, by simp, HV0, by exact HQ0⟩
 case round =>
  clear HV0 HQ0
  obtain ⟨q, rfl, hq, HV, HP⟩ := hrel
  by_cases hlt : q.length < l.length
  · obtain ⟨x', hx', hxb, hxa⟩ := (HFL.out.picked HP.out HX.out).at2 hlt
    obtain rfl := Option.some.inj hx'
    generalize l[q.length] = f at hxa
    obtain ⟨z, fc, el⟩ := f
    obtain ⟨c0, c1, c2⟩ := hxa
    obtain ⟨A1, cp1, rfl⟩ := own_slice3 HV.out.1
    have hq2 : (q.length : Int) < (l.length : Int) := by omega
    go_wp2_with fail
    refine (l13Val_any R (n + 350 * q.length) z el fc wr HP.out.1 (by omega)).mono ?_
    rintro e w2 ⟨y, yn, hy, rfl, hyr, hyn, hyt, hp2⟩
    clear c0 c1 c2
    have HSW := Lib.hid HP.out.2.size
    have HLT := Lib.hid (fun k hk => (HV.out.1.lt k hk).2)
    have HV1 := Lib.hid (HV.out.picked hp2 hRw)
    have HV2 := Lib.hid (HV1.out.alloc (.cells #[.int .i64 y, .int .i64 yn.kind, .string yn.data, .slice hy.A yn.ptrs.length hy.a, .int .i64 yn.size, .int .i64 yn.count, .slice hy.B yn.items.length hy.b] valT))
    have HP2 := Lib.hid (HP.out.then hp2)
    have HYN := Lib.hid (And.intro (hyn.below ((Below.refl w2.heap.size w2).alloc (Nat.le_refl _) (.cells #[.int .i64 y, .int .i64 yn.kind, .string yn.data, .slice hy.A yn.ptrs.length hy.a, .int .i64 yn.size, .int .i64 yn.count, .slice hy.B yn.items.length hy.b] valT))) (And.intro hyt hyr))
    have hs2 := HP2.out.2.size
    clear hp2 hyn hyt hyr HV HP
    go_wp2_with (at_builtin; go_must (refine wpList_append_own_at _ rfl (.tmp 14) (.tmp 21) 43 rfl w.heap.size valT i0 (.agg #[.int .i64 0, .int .i64 0, .string ByteArray.empty, .slice none 0 0, .int .i64 0, .int .i64 0, .slice none 0 0]) 7 96 Tryz.underlying43 hi hz0 hz1 hz2 rfl (by decide) _ q.length _ rfl HV2.out.1 ⟨w2.heap.size, 0, none⟩ 1 1 (rowW [((⟨y, yn⟩ : Vl), hy)]) rfl rfl (cells_seven_new w2 ((⟨y, yn⟩ : Vl), hy) _) (by simp [rowW, Value.oneCell']) (by unfold maxLen; omega) (by omega) (by simp; omega) ?_); intro v' wn hown' hgrow _ hat)
    have HVN := Lib.hid (HV2.out.next HYN.out.1 HYN.out.2 HSW.out HLT.out hown' hgrow hat)
    have HPN := Lib.hid (picked_growZ HP2.out hRw hs2 (Nat.le_refl _) HV1.out.1 hgrow)
    clear hown' hgrow hat HV1 HV2 HYN
    go_wp2
    go_roundw
    case rel => exact ⟨q ++ [((⟨y, yn⟩ : Vl), hy)], by simp, by simp; omega, HVN, Lib.hid (HPN.out.mono (by simp; omega))⟩
    case measure => simp [intOf]; omega
  · have hql : q.length = l.length := by omega
    rw [hql] at HP
    have HF : Hid (VRow wr w.heap.size _ q 4 7007) := HV
    go_wp2
    go_ret
    exact ⟨_, q, rfl, hql, HF.out, HP.out⟩
theorem implRecordOf_a (x : Addr) (c : Nat) (l : List Fld) (B : Option Addr) (cb : Nat) (vs : List Vl) (ch : Int) (m : Nat) (w : World) (ht : Tab w) (h1w : 1 < w.heap.size) (hxb : x.block < w.heap.size) (hfl : Flds w (some x) l) (hll : l.length ≤ 10000000) (hc : l.length ≤ c) (hvs : ValsAt w Any m B vs) (hvl : vs.length ≤ 10000000) (hsv : sumV vs ≤ 1900000) :
 Calls Tryz.prog 14 #[.slice (some x) l.length c, .slice B vs.length cb, .int .i64 ch] w (NewNb (m + 2) (roN l vs ch) (roB l vs ch) w) := by
 have no : roB l vs ch = false → NewNb (m + 2) (roN l vs ch) (roB l vs ch) w = NewNb (m + 2) noneNd false w := fun h => by
  have e : roN l vs ch = noneNd := by unfold roN; rw [h]; rfl
  rw [h, e]
 cases hyes : fldsOk l
 · rw [no (by unfold roB; rw [hyes]; rfl)]
   exact roI_no x c l B cb vs ch m w ht h1w hxb hfl hll hc hvs hvl hsv (m + 2) hyes
 cases hva : (decide (vs.length = l.length) && valsB l vs l.length)
 · rw [no (by unfold roB; rw [hyes, hva]; rfl)]
   exact roI_vals x c l B cb vs ch m w ht h1w hxb hfl hll hc hvs hvl hsv (m + 2) hyes hva
 cases hch : chB l ch
 · rw [no (by unfold roB; rw [hyes, hva, hch]; rfl)]
   exact roI_choice x c l B cb vs ch m w ht h1w hxb hfl hll hc hvs hvl hsv (m + 2) hyes hva hch
 have e : roB l vs ch = nodeOk (recN (fillF l vs ch l.length)) := by unfold roB; rw [hyes, hva, hch]; rfl
 rw [e]
 refine roI_yes x c l B cb vs ch m w ht h1w hxb hfl hll hc hvs hvl hsv hyes hva hch _ (roN l vs ch) rfl (fun h => ?_) (fun h => ?_)
 · unfold roN; rw [e, if_pos h]
 · unfold roN; rw [e, h]; rfl
theorem fit_bytes {z : Int} (hz : z = 2 ∨ z = 3 ∨ z = 4 ∨ z = 5) (n : Int) : fitB z n = fitsB n (wdF z) := by
 rw [Bool.eq_iff_iff]
 rcases hz with rfl | rfl | rfl | rfl
 · simp [fitB, fitsB, wdF, bitsOf]; omega
 · simp [fitB, fitsB, wdF, bitsOf]; omega
 · simp [fitB, fitsB, wdF, bitsOf]; omega
 · simp [fitB, fitsB, wdF]
theorem bits_wd {z : Int} (hz : z = 2 ∨ z = 3 ∨ z = 4 ∨ z = 5) : bitsOf z = 8 * wdF z := by
 rcases hz with rfl | rfl | rfl | rfl <;> rfl
theorem wr_num {f : Fld} (hz : f.size = 2 ∨ f.size = 3 ∨ f.size = 4 ∨ f.size = 5) (hf : fitB f.size f.els = true) {n : Int} (hv : fitB f.size n = true) (hn : -9223372036854775808 ≤ n ∧ n ≤ 9223372036854775807) {D : List UInt8} {W s : Nat} (hD : D.length = 8 * W) (hW : W ≤ 24) (hin : toF f.size s ≤ 64 * (W : Int)) :
 putB D ((s : Int) * wdF f.size) (wdF f.size) (xorI n f.els) = true ∧ 0 ≤ (s : Int) * wdF f.size ∧ (s : Int) * wdF f.size + wdF f.size ≤ D.length := by
 have hor := wdF_or f.size
 have hbd := wdF_bd f.size
 rw [fit_bytes hz] at hf hv
 have hx := xorI_fits hn hor hf
 rw [hv] at hx
 have h1 : (s : Int) * wdF f.size + wdF f.size ≤ 8 * W := by
  unfold toF at hin
  rw [bits_wd hz, Int.mul_left_comm] at hin
  omega
 have h0 : 0 ≤ (s : Int) * wdF f.size := Int.mul_nonneg (by omega) hbd.1
 have hm : ((s : Int) * wdF f.size) % wdF f.size = 0 := Int.mul_emod_left _ _
 refine ⟨?_, h0, by omega⟩
 unfold putB putOk
 rw [hx]
 have hw : wordsB D.length = true := by unfold wordsB; rw [decide_eq_true_eq]; omega
 rw [hw]
 have hp : placeB ((s : Int) * wdF f.size) (wdF f.size) = true := by
  unfold placeB
  rw [decide_eq_true_eq]
  exact ⟨h0, by omega, hor, hm⟩
 rw [hp]
 have : (s : Int) * wdF f.size < D.length := by omega
 simp [this]
theorem wr_bit {f : Fld} (hz : f.size = 1) (hf : fitB f.size f.els = true) {n : Int} (hv : fitB f.size n = true) (hn : -9223372036854775808 ≤ n ∧ n ≤ 9223372036854775807) {D : List UInt8} {W s : Nat} (hD : D.length = 8 * W) (hW : W ≤ 24) (hin : toF f.size s ≤ 64 * (W : Int)) :
 bputT D (s : Int) (xorI n f.els) = setBit D s (xorI n f.els).toNat ∧ (xorI n f.els = 0 ∨ xorI n f.els = 1) ∧ s < 8 * D.length := by
 rw [hz] at hf hv hin
 have h1 : f.els = 0 ∨ f.els = 1 := by simp [fitB, bitsOf] at hf; omega
 have h2 : n = 0 ∨ n = 1 := by simp [fitB, bitsOf] at hv; omega
 have h3 := (xorI_bit hn h1).2 h2
 have h4 : s < 8 * D.length := by unfold toF at hin; simp [bitsOf] at hin; omega
 refine ⟨?_, h3, h4⟩
 have hw : wordsB D.length = true := by unfold wordsB; rw [decide_eq_true_eq]; omega
 have hb : bputOk D (s : Int) (xorI n f.els) = true := by
  unfold bputOk
  rw [Bool.and_eq_true, decide_eq_true_eq, decide_eq_true_eq]
  exact ⟨by omega, h3⟩
 unfold bputT
 rw [if_pos hw, if_pos hb, Int.toNat_natCast]
theorem tg_ok {l : List Fld} (hok : fldsOk l = true) (h0 : 0 ≤ tagL l) (k : Nat) (hk : k ≤ 12) {D : List UInt8} (hD : D.length = 8 * (layF l ps0).2.ls.words) (hW : (layF l ps0).2.ls.words ≤ 24) :
 putB D (tagL l * 2) 2 ((plcN l k : Nat) : Int) = true ∧ tagL l * 2 + 2 ≤ D.length := by
 have ht := (layOk l (fldsOk_at hok)).tagIn h0
 have hpl := plc_le l k
 have h1 : tagL l * 2 + 2 ≤ D.length := by rw [hD]; unfold tagL at *; omega
 refine ⟨?_, h1⟩
 have hw : wordsB D.length = true := by unfold wordsB; rw [decide_eq_true_eq]; omega
 unfold putB putOk
 rw [hw]
 have hp : placeB (tagL l * 2) 2 = true := by unfold placeB; rw [decide_eq_true_eq]; exact ⟨by omega, by omega, .inr (.inl rfl), by omega⟩
 rw [hp]
 have hf : fitsB ((plcN l k : Nat) : Int) 2 = true := by unfold fitsB; rw [decide_eq_true_eq]; right; exact ⟨by omega, by show ((plcN l k : Nat) : Int) < 65536; omega⟩
 rw [hf]
 have : tagL l * 2 < D.length := by omega
 simp [this]
theorem putT_keep {D : List UInt8} (h : wordsB D.length = true) (a z n : Int) : (putT D a z n).length = D.length := by
 cases hB : putB D a z n
 · unfold putT
   unfold putB at hB
   rw [h, Bool.true_and] at hB
   rw [if_pos h, if_neg (by rw [hB]; decide)]
 · exact putT_length hB
theorem bputT_keep {D : List UInt8} (h : wordsB D.length = true) (a n : Int) : (bputT D a n).length = D.length := by
 unfold bputT
 rw [if_pos h]
 split
 · unfold setBit; simp
 · rfl
theorem fill_full (l : List Fld) (vs : List Vl) (ch : Int) (hW : (layF l ps0).2.ls.words ≤ 24) : ∀ k, (fillF l vs ch k).d.length = 8 * (layF l ps0).2.ls.words
 | 0 => by show (List.replicate _ _).length = _; simp
 | k + 1 => by
   have h1 := fill_full l vs ch hW k
   have hw : ∀ D : List UInt8, D.length = 8 * (layF l ps0).2.ls.words → wordsB D.length = true := fun D hD => by unfold wordsB; rw [decide_eq_true_eq]; omega
   have ht : (tgF l k (fillF l vs ch k).d).length = 8 * (layF l ps0).2.ls.words := by
    unfold tgF
    split
    · rw [putT_keep (hw _ h1)]; exact h1
    · exact h1
   show (if pickB l k ch = true then setF l k (vlK vs k) (fillF l vs ch k) else fillF l vs ch k).d.length = _
   split
   · unfold setF
     split
     · exact ht
     · show (wrF _ _ _ _).length = _
       unfold wrF
       split
       · rw [bputT_keep (hw _ ht)]; exact ht
       · rw [putT_keep (hw _ ht)]; exact ht
   · exact h1
theorem l8Val_a (f : Fld) (v : Vl) (h : Hd) (m : Nat) (w : World) (S : Nat → Prop) (hz : 1 ≤ f.size ∧ f.size ≤ 6) (hn : NdAt w S m v.nd h) (htn : totN m v.nd ≤ 2000000) :
 Calls Tryz.prog 51 #[.agg #[.int .i64 f.size, .bool f.choice, .int .i64 f.els], .agg #[.int .i64 v.num, .int .i64 v.nd.kind, .string v.nd.data, .slice h.A v.nd.ptrs.length h.a, .int .i64 v.nd.size, .int .i64 v.nd.count, .slice h.B v.nd.items.length h.b]] w fun e w' => e = .returned (.bool (valB f v)) ∧ Below w.heap.size w w' := by
 have q0 := al_first w (.cells #[.int .i64 f.size, .bool f.choice, .int .i64 f.els] 41)
 have q1 := al_next q0 (.cells #[.int .i64 v.num, .int .i64 v.nd.kind, .string v.nd.data, .slice h.A v.nd.ptrs.length h.a, .int .i64 v.nd.size, .int .i64 v.nd.count, .slice h.B v.nd.items.length h.b] valT)
 have r0 := heap_alloc_keep (heap_alloc_new w (.cells #[.int .i64 f.size, .bool f.choice, .int .i64 f.els] 41)) (.cells #[.int .i64 v.num, .int .i64 v.nd.kind, .string v.nd.data, .slice h.A v.nd.ptrs.length h.a, .int .i64 v.nd.size, .int .i64 v.nd.count, .slice h.B v.nd.items.length h.b] valT)
 have r1 := al_row q0 #[.int .i64 v.num, .int .i64 v.nd.kind, .string v.nd.data, .slice h.A v.nd.ptrs.length h.a, .int .i64 v.nd.size, .int .i64 v.nd.count, .slice h.B v.nd.items.length h.b] valT
 have HB0 := Lib.hid q1.2
 have HNO := Lib.hid (fun (W : World) (hW : Below w.heap.size w W) => specNodeOk_a m v.nd h W S (hn.below hW) htn)
 have HFT := Lib.hid (fun W : World => l7Fits_any f.size v.num W hz.1 hz.2)
 have R0 := Lib.hid r0
 have R1 := Lib.hid r1
 obtain ⟨z, fc, el⟩ := f
 obtain ⟨x, n⟩ := v
 dsimp only at *
 obtain ⟨a0, a1, a2⟩ := cells3R r0
 obtain ⟨b0, b1, b2, b3, b4, b5, b6⟩ := cellsV r1
 clear q0 q1 r0 r1 hn htn
 by_cases h6 : z = 6
 · subst h6
   by_cases hx : x = 0
   · have HX : Hid (valB ⟨6, fc, el⟩ ⟨x, n⟩ = nodeOk n) := Lib.hid (by unfold valB; rw [if_pos rfl]; simp [hx])
     subst hx
     go_enter Tryz.func51, Tryz.ntmps51
     go_wp2_with fail
     refine (HNO.out _ HB0.out).mono ?_
     rintro e w1 ⟨rfl, hb1⟩
     have HB1 := Lib.hid (HB0.out.trans (hb1.mono HB0.out.size))
     clear hb1
     go_wp2
     go_ret
     exact ⟨by rw [HX.out]; rfl, HB1.out⟩
   · have HX : Hid (valB ⟨6, fc, el⟩ ⟨x, n⟩ = false) := Lib.hid (by unfold valB; rw [if_pos rfl]; simp [hx])
     have hx0 : (x == 0) = false := by simpa using hx
     clear hx
     go_enter Tryz.func51, Tryz.ntmps51
     go_wp2_with fail
     go_ret
     exact ⟨by rw [HX.out]; rfl, HB0.out⟩
 · have hz6 : (z == 6) = false := by simpa using h6
   have hv : valB ⟨z, fc, el⟩ ⟨x, n⟩ = (fitB z x && (decide (n.kind = 0) && nodeOk n)) := by unfold valB; rw [if_neg h6]
   have HV := Lib.hid hv
   clear hv h6
   by_cases hk : n.kind = 0
   · have hk0 : (n.kind == 0) = true := by simpa using hk
     cases hno : nodeOk n
     · have HX : Hid (valB ⟨z, fc, el⟩ ⟨x, n⟩ = false) := Lib.hid (by rw [HV.out, hno, Bool.and_false, Bool.and_false])
       rw [hno] at HNO
       clear hk hno
       go_enter Tryz.func51, Tryz.ntmps51
       go_wp2_with fail
       refine (HNO.out _ HB0.out).mono ?_
       rintro e w1 ⟨rfl, hb1⟩
       have HB1 := Lib.hid (HB0.out.trans (hb1.mono HB0.out.size))
       clear hb1
       go_wp2
       go_ret
       exact ⟨by rw [HX.out]; rfl, HB1.out⟩
     · have HX : Hid (valB ⟨z, fc, el⟩ ⟨x, n⟩ = fitB z x) := Lib.hid (by rw [HV.out, hno, decide_eq_true hk, Bool.and_true, Bool.and_true])
       rw [hno] at HNO
       clear hk hno
       go_enter Tryz.func51, Tryz.ntmps51
       go_wp2_with fail
       refine (HNO.out _ HB0.out).mono ?_
       rintro e w1 ⟨rfl, hb1⟩
       have HB1 := Lib.hid (HB0.out.trans (hb1.mono HB0.out.size))
       clear a0 a1 a2 b0 b1 b2 b3 b4 b5 b6
       obtain ⟨a0, a1, a2⟩ := cells3R ((hb1.block _ (row_lt R0.out)).trans R0.out)
       obtain ⟨b0, b1, b2, b3, b4, b5, b6⟩ := cellsV ((hb1.block _ (row_lt R1.out)).trans R1.out)
       clear hb1
       go_wp2_with fail
       refine (HFT.out _).mono ?_
       rintro e w2 ⟨rfl, hb2⟩
       have HB2 := Lib.hid (HB1.out.trans (hb2.mono HB1.out.size))
       clear hb2
       go_wp2
       go_ret
       exact ⟨by rw [HX.out]; rfl, HB2.out⟩
   · have HX : Hid (valB ⟨z, fc, el⟩ ⟨x, n⟩ = false) := Lib.hid (by rw [HV.out, decide_eq_false hk, Bool.false_and, Bool.and_false])
     have hk0 : (n.kind == 0) = false := by simpa using hk
     clear hk
     go_enter Tryz.func51, Tryz.ntmps51
     go_wp2_with fail
     go_ret
     exact ⟨by rw [HX.out]; rfl, HB0.out⟩
end Go.Proofs.YtblcibgphccfkaaGreatDoor
namespace Go.Proofs.YtblcibgphccfkaaGreatDoor
open Go.RowKit
theorem l1Bytes_str (n : Int) (k : Nat) (hk : k ≤ 8) (w : World) :
 Calls Tryz.prog 78 #[.int .i64 n, .int .i64 k] w fun e w' => e = .returned (.string ⟨(leB n k).toArray⟩) ∧ Below w.heap.size w w' :=
 l1Bytes_any n k w (by omega) (by omega)
open Go.RowKit Go.Deep
theorem l8Write_bit (fc : Bool) (el : Int) (D : ByteArray) (s : Nat) (n X9 : Int) (hX9 : xorI n el = X9) (w : World) (hd : D.size ≤ 1600) (hb : X9 = 0 ∨ X9 = 1) (hs : s < 8 * D.size) :
 Calls Tryz.prog 80 #[.agg #[.int .i64 1, .bool fc, .int .i64 el], .string D, .int .i64 (s : Int), .int .i64 n] w fun e w' => e = .returned (.string ⟨(setBit D.data.toList s X9.toNat).toArray⟩) ∧ Below w.heap.size w w' := by
 have HB0 := Lib.hid ((Below.refl w.heap.size w).alloc (Nat.le_refl _) (.cells #[.int .i64 1, .bool fc, .int .i64 el] 41))
 have HC := Lib.hid (fun W : World => l1BitPut_any D s X9 W hd hs hb)
 have hxe : bits .xor .i64 n el = X9 := hX9
 clear hb hX9
 go_enter Tryz.func80, Tryz.ntmps80
 go_wp2_with fail
 refine (HC.out _).mono ?_
 rintro e w1 ⟨rfl, hb1⟩
 have HB1 := Lib.hid (HB0.out.trans (hb1.mono HB0.out.size))
 clear hb1
 go_wp2
 go_ret
 exact ⟨rfl, HB1.out⟩
theorem l8Write_num (z : Int) (hz : z = 2 ∨ z = 3 ∨ z = 4 ∨ z = 5) (fc : Bool) (el : Int) (D : ByteArray) (s q a : Nat) (hq : wdF z = (q : Int)) (ha : (s : Int) * (q : Int) = (a : Int)) (n X9 : Int) (hX9 : xorI n el = X9) (w : World) (hd : D.size ≤ 1600) (hin : a + q ≤ D.size) :
 Calls Tryz.prog 80 #[.agg #[.int .i64 z, .bool fc, .int .i64 el], .string D, .int .i64 (s : Int), .int .i64 n] w fun e w' => e = .returned (.string ⟨(putL D.data.toList a (leB X9 q)).toArray⟩) ∧ Below w.heap.size w w' := by
 have hfin := put_string D a (leB X9 q) q (leB_length X9 q) hin
 rw [← hfin]
 clear hfin
 have hq8 : q ≤ 8 ∧ 1 ≤ q := by have := wdF_or z; omega
 have HB0 := Lib.hid ((Below.refl w.heap.size w).alloc (Nat.le_refl _) (.cells #[.int .i64 z, .bool fc, .int .i64 el] 41))
 have HR0 := Lib.hid (heap_alloc_new w (.cells #[.int .i64 z, .bool fc, .int .i64 el] 41))
 have HL := Lib.hid (fun W : World => l2Bits_any z W (by omega) (by omega))
 rw [bitsAll_wd hz, hq] at HL
 have hdv : (8 * (q : Int)).tdiv 8 = (q : Int) := by rw [Int.tdiv_eq_ediv_of_nonneg (by omega)]; omega
 have hz1 : (z == 1) = false := by simp; omega
 have HXE : Hid (bits .xor .i64 n el = X9) := Lib.hid hX9
 have ha1 : ((s : Int) + 1) * (q : Int) = (a : Int) + (q : Int) := by rw [Int.add_mul, ha]; omega
 have e1 : IntKind.i64.wrap (a : Int) = (a : Int) := by rw [IntKind.wrap_i64]; omega
 have e2 : IntKind.i64.wrap ((a : Int) + (q : Int)) = (a : Int) + (q : Int) := by rw [IntKind.wrap_i64]; omega
 have hsb : (s : Int) ≤ 1600 := by
  have : (s : Int) * 1 ≤ (s : Int) * (q : Int) := Int.mul_le_mul_of_nonneg_left (by omega) (by omega)
  omega
 have HDV := Lib.hid hdv
 have HA := Lib.hid (And.intro ha (And.intro ha1 (And.intro e1 e2)))
 have e3 : IntKind.i64.wrap ((s : Int) + 1) = (s : Int) + 1 := by rw [IntKind.wrap_i64]; omega
 have HE3 := Lib.hid e3
 have g0 : (0 : Int) ≤ (a : Int) := by omega
 have g1 : (a : Int) ≤ (D.size : Int) := by omega
 have g2 : (0 : Int) ≤ (a : Int) + (q : Int) := by omega
 have g3 : (a : Int) + (q : Int) ≤ (D.size : Int) := by omega
 have g4 : ((a : Int) + (q : Int)).toNat = a + q := by omega
 have gm : min a D.size = a := by omega
 have hbl := leB_length X9 q
 have f1 : ¬ 9223372036854775807 < a + q := by omega
 have f3 : ¬ 9223372036854775807 < D.size := by omega
 have f2 : ¬ 9223372036854775807 < a + q + (D.size - (a + q)) := by omega
 have hq8' := hq8.1
 clear hq ha hX9 hdv ha1 e1 e2 e3 hz hsb hq8
 go_enter Tryz.func80, Tryz.ntmps80
 go_wp2_with fail
 refine (HL.out _).mono ?_
 rintro e w2 ⟨rfl, hb2⟩
 have HB2 := Lib.hid (HB0.out.trans (hb2.mono HB0.out.size))
 have hr2 := (hb2.block _ (row_lt HR0.out)).trans HR0.out
 obtain ⟨q0, q1, q2⟩ := cells3R hr2
 have q2d : w2.drew.cell? ⟨w.heap.size, 2, none⟩ = some (.int .i64 el) := q2
 clear hb2 hr2 q0 q1
 have hdv := HDV.out
 go_wp2_with fail
 clear hdv
 obtain ⟨ha, ha1, e1, e2⟩ := HA.out
 have e3 := HE3.out
 have hxe := HXE.out
 go_region_law (first | (go_simp; go_at_call 78; refine (l1Bytes_str X9 q hq8' _).mono ?_; rintro e w5 ⟨rfl, hb5⟩))
 all_goals
  clear ha ha1 e1 e2 e3 hxe g0 g1 g2 g3 g4 gm f1 f2 f3
  have hB : Hid (Below w.heap.size w w5) := Lib.hid (HB2.out.drew.trans (hb5.mono (by simpa using HB2.out.size)))
  clear hb5
  go_wp2
  go_ret
  exact ⟨rfl, hB.out⟩
end Go.Proofs.YtblcibgphccfkaaGreatDoor
