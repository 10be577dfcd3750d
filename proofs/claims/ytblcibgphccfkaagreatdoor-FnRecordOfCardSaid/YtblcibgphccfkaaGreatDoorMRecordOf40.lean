/- Texts of the proof of the law FnRecordOf, side by side: part 40. -/
import Derived.Test.YtblcibgphccfkaaGreatDoorMRecordOf39
set_option maxHeartbeats 8000000
set_option maxRecDepth 100000
namespace Go.Proofs.YtblcibgphccfkaaGreatDoor
open Go.RowKit Go.Deep
theorem ok_none {n : Nd} (h : nodeOk n = true) (hk : n.kind = 0) : n = noneNd := by
 refine none_eq ?_ hk
 cases hf : formN n
 · have := ok_form (d := 8) hf
   unfold nodeOk at h
   rw [this] at h
   simp at h
 · rfl
theorem by_rec (D : List UInt8) (p : List Nd) : byR (recNd ⟨D.toArray⟩ p) = D := by
 show D.toArray.toList = D
 simp
structure RoSays (l : List Fld) (vs : List Vl) (ch : Int) (n : Nd) : Prop where
 ok : nodeOk n = true
 data : n.data.size = 8 * (layF l ps0).2.ls.words
 ptrs : n.ptrs.length = (layF l ps0).2.ptrs
 cho : choN l n = if tagL l < 0 then -1 else ch
 there : ∀ i, i < l.length → rgB l n (i : Int) = pickB l i ch
 num : ∀ i, i < l.length → pickB l i ch = true → rgN l n (i : Int) = (vlK vs i).num
 nod : ∀ i, i < l.length → pickB l i ch = true → rgY l n (i : Int) = (vlK vs i).nd
theorem ro_says {l : List Fld} {vs : List Vl} {ch : Int} (h : roB l vs ch = true) (hrg : ∀ k, -9223372036854775808 ≤ (vlK vs k).num ∧ (vlK vs k).num ≤ 9223372036854775807) : RoSays l vs ch (roN l vs ch) := by
 have hB := h
 unfold roB at h
 simp only [Bool.and_eq_true, decide_eq_true_eq] at h
 obtain ⟨hok, ⟨hlen, hv⟩, hch, hn⟩ := h
 have hN : roN l vs ch = recN (fillF l vs ch l.length) := by unfold roN; rw [if_pos hB]
 rw [hN]
 have hF := fil_all (ch := ch) hok hv hrg l.length (Nat.le_refl _)
 have hD := fill_full l vs ch (lay_w hok) l.length
 have hP := (fill_len l vs ch l.length).2
 have hL := layOk l (fldsOk_at hok)
 generalize fillF l vs ch l.length = st at *
 have hbr : byR (recN st) = st.d := by_rec st.d st.p
 have hrec : recB l (recN st) = true := by
  unfold recB isRec
  rw [hok, hn]
  rfl
 have hcount : plcN l l.length = (l.filter fun f => f.choice).length := by
  unfold plcN
  rw [List.take_length, List.countP_eq_length_filter]
 have hcho : choN l (recN st) = if tagL l < 0 then -1 else ch := by
  by_cases ht : tagL l < 0
  · rw [if_pos ht]
    unfold choN
    rw [if_pos hrec, if_pos ht]
  · rw [if_neg ht, ← cho_get hrec ht]
    have h0 : 0 ≤ tagL l := by omega
    have h2 := hL.many.1 h0
    rw [← hcount] at h2
    unfold chB at hch
    rw [if_neg (by omega)] at hch
    unfold withB at hch
    rw [decide_eq_true_eq] at hch
    obtain ⟨k, hk, hc, hpk⟩ := plc_at l.length (Nat.le_refl _) ch.toNat (by omega)
    have hpick : pickB l k ch = true := by
     unfold pickB
     rw [hc, hpk, decide_eq_true (by omega)]
     rfl
    have htl : tellsB l k = true := by
     unfold tellsB
     rw [hc, decide_eq_true h0]
     rfl
    have h3 := hF.tag k hk hpick htl
    rw [tg_raw l h0, ← hbr, hpk] at h3
    have : ((ch.toNat : Nat) : Int) = ch := by omega
    rw [this] at h3
    exact h3
 have hthere : ∀ i, i < l.length → rgB l (recN st) (i : Int) = pickB l i ch := fun i hi => by
  unfold rgB
  have hw : withB (i : Int) (l.length : Int) = true := by unfold withB; simp; omega
  rw [hrec, hw, Bool.true_and, Bool.true_and]
  unfold seenB pickB tellsB
  rw [Int.toNat_natCast]
  cases hc : (fldK l i).choice
  · rfl
  · by_cases ht : tagL l < 0
    · rw [decide_eq_false (show ¬ 0 ≤ tagL l by omega)]
      have h2 : ¬ 2 ≤ plcN l l.length := fun h2 => by
       rw [hcount] at h2
       have := hL.many.2 h2
       unfold tagL at ht
       omega
      have h3 := plc_lt hi (Nat.le_refl _) hc
      unfold chB at hch
      rw [if_neg (by omega)] at hch
      unfold withB at hch
      rw [decide_eq_true_eq] at hch
      rw [decide_eq_true (show ((plcN l i : Nat) : Int) = ch by omega)]
      rfl
    · rw [decide_eq_true (show 0 ≤ tagL l by omega), hcho, if_neg ht]
      show (false || decide (ch = (plcN l i : Int))) = (false || decide ((plcN l i : Int) = ch))
      rw [Bool.false_or, Bool.false_or, Bool.eq_iff_iff]
      simp only [decide_eq_true_eq]
      exact eq_comm
 refine ⟨hn, ?_, hP, hcho, hthere, fun i hi hp => ?_, fun i hi hp => ?_⟩
 · show (⟨st.d.toArray⟩ : ByteArray).size = _
   rw [← hD]
   show st.d.toArray.size = _
   simp
 · unfold rgN
   rw [if_pos (by rw [hthere i hi]; exact hp), Int.toNat_natCast]
   unfold fNum
   have hvb := vals_at hv hi
   unfold valB at hvb
   by_cases h6 : (fldK l i).size = 6
   · rw [if_pos h6] at hvb ⊢
     rw [Bool.and_eq_true, decide_eq_true_eq] at hvb
     exact hvb.1.symm
   · rw [if_neg h6]
     have h1 := hF.num i hi hp h6
     have h2 : rawI (fldK l i) (atF l i) (recN st) = rawL (fldK l i).size (atF l i) st.d := by
      unfold rawI rawL
      rw [hbr]
     rw [h2, h1]
     exact xorI_back (hrg i)
 · unfold rgY
   rw [if_pos (by rw [hthere i hi]; exact hp), Int.toNat_natCast]
   unfold fNod
   have hvb := vals_at hv hi
   unfold valB at hvb
   by_cases h6 : (fldK l i).size = 6
   · rw [if_pos h6]
     show (st.p[atF l i]?).getD noneNd = _
     rw [hF.ptr i hi hp h6]
     rfl
   · rw [if_neg h6] at hvb ⊢
     simp only [Bool.and_eq_true, decide_eq_true_eq] at hvb
     exact (ok_none hvb.2.2 hvb.2.1).symm
end Go.Proofs.YtblcibgphccfkaaGreatDoor
namespace Go.Proofs.YtblcibgphccfkaaGreatDoor
open Go.RowKit
theorem nd_eq (n n' : Nd) : n = n' ↔ n.kind = n'.kind ∧ n.data = n'.data ∧ n.size = n'.size ∧ n.count = n'.count ∧ n.ptrs = n'.ptrs ∧ n.items = n'.items := by
 cases n
 cases n'
 simp only [Nd.mk.injEq, Nd.kind, Nd.data, Nd.size, Nd.count, Nd.ptrs, Nd.items]
 exact ⟨fun h => ⟨h.1, h.2.1, h.2.2.2.1, h.2.2.2.2.1, h.2.2.1, h.2.2.2.2.2⟩, fun h => ⟨h.1, h.2.1, h.2.2.2.2.1, h.2.2.1, h.2.2.2.1, h.2.2.2.2.2⟩⟩
theorem bool_no {b : Bool} {p : Prop} (h : b = true ↔ p) (hp : ¬ p) : b = false := by cases b; rfl; exact absurd (h.1 rfl) hp
theorem iff_true_of {p : Prop} (hp : p) : (true = true ↔ p) := ⟨fun _ => hp, fun _ => rfl⟩
theorem iff_false_of {p : Prop} (hp : ¬ p) : (false = true ↔ p) := ⟨fun h => (by cases h), fun h => absurd h hp⟩
def QnS (m : Nat) : Prop := ∀ (m' : Nat) (A B : Option Addr) (c c' : Nat) (l l' : List Nd) (w : World) (S S' : Nat → Prop) (b : Bool), NdsAt w S m A l → NdsAt w S' m' B l' → (b = true ↔ l = l') →
 Calls Tryz.prog 54 #[.slice A l.length c, .slice B l'.length c'] w fun e w' => e = .returned (.bool b) ∧ Below w.heap.size w w'
def QnN (m : Nat) : Prop := ∀ (m' : Nat) (n n' : Nd) (h h' : Hd) (w : World) (S S' : Nat → Prop) (b : Bool), NdAt w S m n h → NdAt w S' m' n' h' → (b = true ↔ n = n') →
 Calls Tryz.prog 16 #[.agg #[.int .i64 n.kind, .string n.data, .slice h.A n.ptrs.length h.a, .int .i64 n.size, .int .i64 n.count, .slice h.B n.items.length h.b], .agg #[.int .i64 n'.kind, .string n'.data, .slice h'.A n'.ptrs.length h'.a, .int .i64 n'.size, .int .i64 n'.count, .slice h'.B n'.items.length h'.b]] w fun e w' => e = .returned (.bool b) ∧ Below w.heap.size w w'
theorem qnN_of (m : Nat) (hS : QnS m) : QnN m := by
 intro m' n n' h h' w S S' b hn hn' hb
 have HS := Lib.hid hS
 have hba : Below w.heap.size w ((w.alloc (.cells #[.int .i64 n.kind, .string n.data, .slice h.A n.ptrs.length h.a, .int .i64 n.size, .int .i64 n.count, .slice h.B n.items.length h.b] nodeT)).alloc (.cells #[.int .i64 n'.kind, .string n'.data, .slice h'.A n'.ptrs.length h'.a, .int .i64 n'.size, .int .i64 n'.count, .slice h'.B n'.items.length h'.b] nodeT)) := ((Below.refl _ _).alloc (Nat.le_refl _) _).alloc (by simp) _
 have k1 : ((w.alloc (.cells #[.int .i64 n.kind, .string n.data, .slice h.A n.ptrs.length h.a, .int .i64 n.size, .int .i64 n.count, .slice h.B n.items.length h.b] nodeT)).alloc (.cells #[.int .i64 n'.kind, .string n'.data, .slice h'.A n'.ptrs.length h'.a, .int .i64 n'.size, .int .i64 n'.count, .slice h'.B n'.items.length h'.b] nodeT)).heap[w.heap.size]? = some (.cells #[.int .i64 n.kind, .string n.data, .slice h.A n.ptrs.length h.a, .int .i64 n.size, .int .i64 n.count, .slice h.B n.items.length h.b] nodeT (0, 0)) := (Below.heap_alloc _ _ _ (by simp)).trans (heap_alloc_new w _)
 have k2 : ((w.alloc (.cells #[.int .i64 n.kind, .string n.data, .slice h.A n.ptrs.length h.a, .int .i64 n.size, .int .i64 n.count, .slice h.B n.items.length h.b] nodeT)).alloc (.cells #[.int .i64 n'.kind, .string n'.data, .slice h'.A n'.ptrs.length h'.a, .int .i64 n'.size, .int .i64 n'.count, .slice h'.B n'.items.length h'.b] nodeT)).heap[w.heap.size + 1]? = some (.cells #[.int .i64 n'.kind, .string n'.data, .slice h'.A n'.ptrs.length h'.a, .int .i64 n'.size, .int .i64 n'.count, .slice h'.B n'.items.length h'.b] nodeT (0, 0)) := by have := heap_alloc_new (w.alloc (.cells #[.int .i64 n.kind, .string n.data, .slice h.A n.ptrs.length h.a, .int .i64 n.size, .int .i64 n.count, .slice h.B n.items.length h.b] nodeT)) (.cells #[.int .i64 n'.kind, .string n'.data, .slice h'.A n'.ptrs.length h'.a, .int .i64 n'.size, .int .i64 n'.count, .slice h'.B n'.items.length h'.b] nodeT); rwa [show (w.alloc (.cells #[.int .i64 n.kind, .string n.data, .slice h.A n.ptrs.length h.a, .int .i64 n.size, .int .i64 n.count, .slice h.B n.items.length h.b] nodeT)).heap.size = w.heap.size + 1 by simp] at this
 have HN := Lib.hid (hn.below hba)
 have HN' := Lib.hid (hn'.below hba)
 have hts : ((w.alloc (.cells #[.int .i64 n.kind, .string n.data, .slice h.A n.ptrs.length h.a, .int .i64 n.size, .int .i64 n.count, .slice h.B n.items.length h.b] nodeT)).alloc (.cells #[.int .i64 n'.kind, .string n'.data, .slice h'.A n'.ptrs.length h'.a, .int .i64 n'.size, .int .i64 n'.count, .slice h'.B n'.items.length h'.b] nodeT)).heap.size = w.heap.size + 2 := by simp
 have HBA := Lib.hid hba
 have HK1 := Lib.hid k1
 have HK2 := Lib.hid k2
 have HTS := Lib.hid hts
 have HQ := Lib.hid (hb.trans (nd_eq n n'))
 clear hS hn hn' hba k1 k2 hts hb
 by_cases hx : n.kind = n'.kind
 case neg =>
  have hxb : (n.kind == n'.kind) = false := by simpa using hx
  obtain rfl : b = false := by
   cases b
   · rfl
   · exact absurd (HQ.out.1 rfl).1 hx
  clear hx
  go_enter Tryz.func16, Tryz.ntmps16
  go_wp2
  go_ret
  exact ⟨rfl, HBA.out⟩
 have h1b : (n.kind == n'.kind) = true := by simpa using hx
 have H1 := Lib.hid hx
 clear hx
 by_cases hx : n.data = n'.data
 case neg =>
  have hxb : (n.data.toList == n'.data.toList) = false := by rw [toList_eq]; exact decide_eq_false hx
  obtain rfl : b = false := by
   cases b
   · rfl
   · exact absurd (HQ.out.1 rfl).2.1 hx
  clear hx
  go_enter Tryz.func16, Tryz.ntmps16
  go_wp2
  go_ret
  exact ⟨rfl, HBA.out⟩
 have h2b : (n.data.toList == n'.data.toList) = true := by rw [toList_eq]; exact decide_eq_true hx
 have H2 := Lib.hid hx
 clear hx
 by_cases hx : n.size = n'.size
 case neg =>
  have hxb : (n.size == n'.size) = false := by simpa using hx
  obtain rfl : b = false := by
   cases b
   · rfl
   · exact absurd (HQ.out.1 rfl).2.2.1 hx
  clear hx
  go_enter Tryz.func16, Tryz.ntmps16
  go_wp2
  go_ret
  exact ⟨rfl, HBA.out⟩
 have h3b : (n.size == n'.size) = true := by simpa using hx
 have H3 := Lib.hid hx
 clear hx
 by_cases hx : n.count = n'.count
 case neg =>
  have hxb : (n.count == n'.count) = false := by simpa using hx
  obtain rfl : b = false := by
   cases b
   · rfl
   · exact absurd (HQ.out.1 rfl).2.2.2.1 hx
  clear hx
  go_enter Tryz.func16, Tryz.ntmps16
  go_wp2
  go_ret
  exact ⟨rfl, HBA.out⟩
 have h4b : (n.count == n'.count) = true := by simpa using hx
 have H4 := Lib.hid hx
 clear hx
 by_cases hx : n.ptrs = n'.ptrs
 case neg =>
  obtain rfl : b = false := by
   cases b
   · rfl
   · exact absurd (HQ.out.1 rfl).2.2.2.2.1 hx
  have HC := Lib.hid (HS.out m' h.A h'.A h.a h'.a n.ptrs n'.ptrs _ S S' false HN.out.2.1 HN'.out.2.1 (iff_false_of hx))
  clear hx
  go_enter Tryz.func16, Tryz.ntmps16
  go_wp2_with fail
  refine HC.out.mono ?_
  rintro e w1 ⟨rfl, hb1⟩
  have HB1 := Lib.hid (HBA.out.trans (hb1.mono HBA.out.size))
  clear hb1
  go_wp2
  go_ret
  exact ⟨rfl, HB1.out⟩
 have H5 := Lib.hid hx
 have HC := Lib.hid (HS.out m' h.A h'.A h.a h'.a n.ptrs n'.ptrs _ S S' true HN.out.2.1 HN'.out.2.1 (iff_true_of hx))
 have H6 : Hid (b = true ↔ n.items = n'.items) := Lib.hid ⟨fun h => (HQ.out.1 h).2.2.2.2.2, fun h => HQ.out.2 ⟨H1.out, H2.out, H3.out, H4.out, H5.out, h⟩⟩
 clear hx
 go_enter Tryz.func16, Tryz.ntmps16
 go_wp2_with fail
 generalize ((w.alloc (.cells #[.int .i64 n.kind, .string n.data, .slice h.A n.ptrs.length h.a, .int .i64 n.size, .int .i64 n.count, .slice h.B n.items.length h.b] nodeT)).alloc (.cells #[.int .i64 n'.kind, .string n'.data, .slice h'.A n'.ptrs.length h'.a, .int .i64 n'.size, .int .i64 n'.count, .slice h'.B n'.items.length h'.b] nodeT)) = W at *
 refine HC.out.mono ?_
 rintro e w1 ⟨rfl, hb1⟩
 have HB1 := Lib.hid hb1
 obtain ⟨a0, a1, a2, a3, a4, a5⟩ := cells6 ((hb1.block _ (by have := HTS.out; omega)).trans HK1.out)
 obtain ⟨b0, b1, b2, b3, b4, b5⟩ := cells6 ((hb1.block _ (by have := HTS.out; omega)).trans HK2.out)
 clear hb1
 go_wp2_with fail
 refine (HS.out m' h.B h'.B h.b h'.b n.items n'.items w1 S S' b (HN.out.below HB1.out).2.2 (HN'.out.below HB1.out).2.2 H6.out).mono ?_
 rintro e w2 ⟨rfl, hb2⟩
 have HB2 := Lib.hid (HBA.out.trans ((HB1.out.trans (hb2.mono HB1.out.size)).mono (by have := HTS.out; omega)))
 clear hb2
 go_wp2
 go_ret
 exact ⟨rfl, HB2.out⟩
theorem qnS_zero : QnS 0 := by
 intro m' A B c c' l l' w S S' b hl hl' hb
 obtain rfl := hl.zero
 have hlen := hl'.len
 unfold maxLen at hlen
 by_cases h0 : l'.length = 0
 · obtain rfl : b = true := hb.2 (List.eq_nil_of_length_eq_zero h0).symm
   rw [h0]
   clear hb hl hl' h0 hlen
   go_enter Tryz.func54, Tryz.ntmps54
   go_wp2
   go_loop [5] (fun i => i = .int .i64 0) (fun _ => 0)
   case atStart => rfl
   case round =>
    obtain rfl := hrel
    go_wp2
    go_ret
    exact ⟨rfl, Below.refl _ _⟩
 · obtain rfl : b = false := bool_no hb (fun e => h0 (by rw [← e]; rfl))
   have hxb : ((([] : List Nd).length : Int) != (l'.length : Int)) = true := by simp; omega
   clear hb hl hl'
   go_enter Tryz.func54, Tryz.ntmps54
   go_wp2
   go_ret
   exact ⟨rfl, Below.refl _ _⟩
theorem qnS_succ (m : Nat) (hN : QnN m) : QnS (m + 1) := by
 intro m' A B c c' l l' w S S' b h h' hb
 have hlm := h.len
 have hlm' := h'.len
 unfold maxLen at hlm hlm'
 by_cases hll : l'.length = l.length
 case neg =>
  obtain rfl : b = false := bool_no hb (fun e => hll (by rw [e]))
  have hxb : ((l.length : Int) != (l'.length : Int)) = true := by simp; omega
  clear hb h h' hN
  go_enter Tryz.func54, Tryz.ntmps54
  go_wp2
  go_ret
  exact ⟨rfl, Below.refl _ _⟩
 have HF := Lib.hid h
 have HG := Lib.hid (h'.mono (Nat.le_succ m'))
 have HN := Lib.hid hN
 have HQ := Lib.hid hb
 rw [hll]
 have HLL := Lib.hid hll
 clear h h' hN hb hll hlm'
 go_enter Tryz.func54, Tryz.ntmps54
 go_wp2
 go_loopw [5] (fun i wr => ∃ k : Nat, i = .int .i64 k ∧ k ≤ l.length ∧ Hid (Below w.heap.size w wr) ∧ Hid (∀ j, j < k → l[j]? = l'[j]?)) (fun i _ => l.length - (intOf i).toNat)
 case atStart => exact ⟨0, rfl, by omega, Lib.hid (Below.refl _ _), Lib.hid (fun j hj => by omega)⟩
 case round =>
  obtain ⟨k, rfl, hk, HB, HE⟩ := hrel
  by_cases hlt : k < l.length
  · have hlt' : k < l'.length := by have := HLL.out; omega
    obtain ⟨x, hx, rfl, cx, nx⟩ := (HF.out.below HB.out).at_ hlt
    obtain ⟨y, hy, rfl, cy, ny⟩ := (HG.out.below HB.out).at_ hlt'
    have HEQ : Hid (l[k] = l'[k] → l[k]? = l'[k]?) := Lib.hid (fun e => by rw [List.getElem?_eq_getElem hlt, List.getElem?_eq_getElem hlt', e])
    have HNE : Hid (l[k] ≠ l'[k] → l ≠ l') := Lib.hid (fun e hl => e (by subst hl; rfl))
    generalize l[k] = n at cx nx HEQ HNE
    generalize l'[k] = n' at cy ny HEQ HNE
    have hd1 : Below wr.heap.size wr wr.drew := ⟨rfl, rfl, rfl, Nat.le_refl _, fun _ _ => rfl⟩
    have hx1 := cx.lt
    have hx2 := cy.lt
    obtain ⟨c0, c1, c2, c3, c4, c5⟩ := cx
    obtain ⟨d0, d1, d2, d3, d4, d5⟩ := cy
    have hk2 : (k : Int) < (l.length : Int) := by omega
    have hs := HB.out.size
    by_cases hnn : n = n'
    · have HP := Lib.hid (HN.out m' n n' hx hy wr.drew S S' true (nx.below hd1) (ny.below hd1) (iff_true_of hnn))
      have HP0 := Lib.hid (HN.out m' n n' hx hy wr S S' true nx ny (iff_true_of hnn))
      have HE1 := Lib.hid (HEQ.out hnn)
      clear nx ny hnn HEQ HNE
      go_wp2
      go_region_with (go_at_call 16; refine HP.out.mono ?_; rintro e w2 ⟨rfl, hb2⟩)
      all_goals
       have HB2 := Lib.hid (HB.out.trans ((show Below w.heap.size wr wr.drew from ⟨rfl, rfl, rfl, Nat.le_refl _, fun _ _ => rfl⟩).trans (hb2.mono (by simpa using hs))))
       clear hb2
       go_wp2
       go_roundw
       case rel =>
        refine ⟨k + 1, by go_num, by omega, HB2, Lib.hid fun j hj => ?_⟩
        rcases Nat.lt_or_ge j k with hl | hge
        · exact HE.out j hl
        · obtain rfl : j = k := by omega
          exact HE1.out
       case measure => simp [intOf]; omega
    · have HP := Lib.hid (HN.out m' n n' hx hy wr.drew S S' false (nx.below hd1) (ny.below hd1) (iff_false_of hnn))
      obtain rfl : b = false := bool_no HQ.out (HNE.out hnn)
      clear nx ny hnn HEQ HNE
      go_wp2
      go_region_with (go_at_call 16; refine HP.out.mono ?_; rintro e w2 ⟨rfl, hb2⟩)
      all_goals
       have HB2 := Lib.hid (HB.out.trans ((show Below w.heap.size wr wr.drew from ⟨rfl, rfl, rfl, Nat.le_refl _, fun _ _ => rfl⟩).trans (hb2.mono (by simpa using hs))))
       clear hb2
       go_wp2
       go_ret
       exact ⟨rfl, HB2.out⟩
  · obtain rfl : k = l.length := by omega
    obtain rfl : b = true := HQ.out.2 (List.ext_getElem? fun j => by
     rcases Nat.lt_or_ge j l.length with hl | hge
     · exact HE.out j hl
     · rw [List.getElem?_eq_none hge, List.getElem?_eq_none (by have := HLL.out; omega)])
    go_wp2
    go_ret
    exact ⟨rfl, HB.out⟩
theorem qnS_any : ∀ m, QnS m
 | 0 => qnS_zero
 | m + 1 => qnS_succ m (qnN_of m (qnS_any m))
theorem qnN_any (m : Nat) : QnN m := qnN_of m (qnS_any m)
end Go.Proofs.YtblcibgphccfkaaGreatDoor
