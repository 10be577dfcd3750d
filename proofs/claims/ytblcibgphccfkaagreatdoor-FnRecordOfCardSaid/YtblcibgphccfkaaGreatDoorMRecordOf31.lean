/- Texts of the proof of the law FnRecordOf, side by side: part 31. -/
import Derived.Test.YtblcibgphccfkaaGreatDoorMRecordOf30
set_option maxHeartbeats 8000000
set_option maxRecDepth 100000
namespace Go.Proofs.YtblcibgphccfkaaGreatDoor
open Go.RowKit Go.Deep
def NewNb (m : Nat) (y : Nd) (b : Bool) (w : World) (e : Ending) (w' : World) : Prop := ∃ (h : Hd) (bs : List Nat), e = .returned (.tuple #[.agg #[.int .i64 y.kind, .string y.data, .slice h.A y.ptrs.length h.a, .int .i64 y.size, .int .i64 y.count, .slice h.B y.items.length h.b], .bool b]) ∧ OwN w' m y h bs ∧ bs.Nodup ∧ (∀ b ∈ bs, w.heap.size ≤ b) ∧ Below w.heap.size w w'
theorem NewNb.none {m : Nat} {w w' : World} (hb : Below w.heap.size w w') : NewNb m noneNd false w (.returned (.tuple #[.agg #[.int .i64 0, .string { data := #[] }, .slice none 0 0, .int .i64 0, .int .i64 0, .slice none 0 0], .bool false])) w' :=
 ⟨⟨.none, 0, .none, 0⟩, [], rfl, OwN.none w' m, List.nodup_nil, fun b hb => (by cases hb), hb⟩
theorem finN {w W : World} {g R : Nat} {T : TypeId} {u0 u1 u2 u3 u4 u5 : Value} (v0 v1 v2 v3 v4 v5 : Value) (hz : W.heap[g]? = some (.cells #[u0, u1, u2, u3, u4, u5] T (0, 0))) (hb : Below R w W) (hR : R ≤ g) :
 ∃ wf, ((((((W.setCell ⟨g, 0, none⟩ v0).setCell ⟨g, 1, none⟩ v1).setCell ⟨g, 2, none⟩ v2).setCell ⟨g, 3, none⟩ v3).setCell ⟨g, 4, none⟩ v4).setCell ⟨g, 5, none⟩ v5) = wf ∧ wf.heap[g]? = some (.cells #[v0, v1, v2, v3, v4, v5] T (0, 0)) ∧ Below R w wf ∧ ∀ k, k ≠ g → wf.heap[k]? = W.heap[k]? := by
 have hk : ∀ (V : World) (i : Nat) (v : Value), Below R w V → Below R w (V.setCell ⟨g, i, none⟩ v) := fun V i v hV => hV.setCell (p := ⟨g, i, none⟩) hR v
 have hn : ∀ (V : World) (i : Nat) (v : Value) {k : Nat}, k ≠ g → (V.setCell ⟨g, i, none⟩ v).heap[k]? = V.heap[k]? := fun V i v k h => Below.heap_setCell V ⟨g, i, none⟩ v k h
 refine ⟨_, rfl, ?_, ?_, fun k h => ?_⟩
 · exact row_setN (row_setN (row_setN (row_setN (row_setN (row_setN hz 0 v0) 1 v1) 2 v2) 3 v3) 4 v4) 5 v5
 · exact hk _ _ _ (hk _ _ _ (hk _ _ _ (hk _ _ _ (hk _ _ _ (hk _ _ _ hb)))))
 · rw [hn _ _ _ h, hn _ _ _ h, hn _ _ _ h, hn _ _ _ h, hn _ _ _ h, hn _ _ _ h]
theorem Made.below {w0 : World} {S : Nat → Prop} {m : Nat} {w w' : World} {g G : Nat} {A : Option Addr} {c : Nat} {l : List Fld} {v1 : Value} {st : RSt} (h : Made w0 S m w g G A c l v1 st) (hb : Below w.heap.size w w') : Made w0 S m w' g G A c l v1 st := by
 obtain ⟨q, h1, h2, h3, h4⟩ := h
 exact ⟨q, h1.below hb, (hb.block _ (row_lt h2)).trans h2, h3, h4⟩
theorem bputT_le (d : List UInt8) (a n : Int) : (bputT d a n).length ≤ d.length := by
 unfold bputT
 split
 · split
   · unfold setBit; simp
   · exact Nat.le_refl _
 · exact Nat.zero_le _
theorem wrF_le (f : Fld) (s : Nat) (n : Int) (d : List UInt8) : (wrF f s n d).length ≤ d.length := by
 unfold wrF
 split
 · exact bputT_le _ _ _
 · exact putT_le _ _ _ _
theorem setF_le (l : List Fld) (k : Nat) (v : Vl) (st : RSt) : (setF l k v st).d.length ≤ st.d.length ∧ (setF l k v st).p.length = st.p.length := by
 unfold setF
 split
 · exact ⟨tgF_le l k st.d, by simp⟩
 · exact ⟨Nat.le_trans (wrF_le _ _ _ _) (tgF_le l k st.d), rfl⟩
theorem fill_len (l : List Fld) (vs : List Vl) (ch : Int) : ∀ k, (fillF l vs ch k).d.length ≤ 8 * (layF l ps0).2.ls.words ∧ (fillF l vs ch k).p.length = (layF l ps0).2.ptrs
 | 0 => by unfold fillF; simp
 | k + 1 => by
   obtain ⟨h1, h2⟩ := fill_len l vs ch k
   unfold fillF
   split
   · obtain ⟨h3, h4⟩ := setF_le l k (vlK vs k) (fillF l vs ch k)
     exact ⟨Nat.le_trans h3 h1, h4.trans h2⟩
   · exact ⟨h1, h2⟩
theorem sizL_set : ∀ (p : List Nd) (s : Nat) (y : Nd), sizL (p.set s y) ≤ sizL p + sizN y
 | [], s, y => by simp
 | a :: t, 0, y => by rw [List.set_cons_zero, sizL, sizL]; omega
 | a :: t, s + 1, y => by rw [List.set_cons_succ, sizL, sizL]; have := sizL_set t s y; omega
def sumV : List Vl → Nat
 | [] => 0
 | v :: t => sizN v.nd + sumV t
theorem sumV_at : ∀ (vs : List Vl) (k : Nat), sizN (vlK vs k).nd ≤ sumV vs
 | [], k => by show sizN noneNd ≤ 0; decide
 | v :: t, 0 => by show sizN v.nd ≤ sizN v.nd + sumV t; omega
 | v :: t, k + 1 => by have := sumV_at t k; show sizN (vlK t k).nd ≤ sizN v.nd + sumV t; omega
theorem sumV_app : ∀ (a b : List Vl), sumV (a ++ b) = sumV a + sumV b
 | [], b => by simp [sumV]
 | v :: t, b => by rw [List.cons_append, sumV, sumV, sumV_app t b]; omega
theorem sumV_take (vs : List Vl) (k : Nat) : sumV (vs.take (k + 1)) = sumV (vs.take k) + (if k < vs.length then sizN (vlK vs k).nd else 0) := by
 by_cases h : k < vs.length
 · rw [if_pos h, List.take_succ_eq_append_getElem h, sumV_app, vlK_at h]
   rfl
 · rw [if_neg h, List.take_of_length_le (by omega), List.take_of_length_le (by omega)]; rfl
theorem sizL_rep (P : Nat) : sizL (List.replicate P noneNd) ≤ P := by
 induction P with
 | zero => simp [sizL]
 | succ P ih => rw [List.replicate_succ, sizL]; have : sizN noneNd ≤ 0 := by decide
                omega
theorem setF_siz (l : List Fld) (k : Nat) (v : Vl) (st : RSt) : sizL (setF l k v st).p ≤ sizL st.p + sizN v.nd := by
 unfold setF
 split
 · exact sizL_set _ _ _
 · exact Nat.le_add_right _ _
theorem fill_siz (l : List Fld) (vs : List Vl) (ch : Int) : ∀ k, k ≤ vs.length → sizL (fillF l vs ch k).p ≤ (layF l ps0).2.ptrs + sumV (vs.take k)
 | 0, _ => by
   have := sizL_rep (layF l ps0).2.ptrs
   show sizL (List.replicate (layF l ps0).2.ptrs noneNd) ≤ _
   omega
 | k + 1, hk => by
   have h1 := fill_siz l vs ch k (by omega)
   have h2 := setF_siz l k (vlK vs k) (fillF l vs ch k)
   have h3 := sumV_take vs k
   rw [if_pos (by omega)] at h3
   have e : fillF l vs ch (k + 1) = if pickB l k ch = true then setF l k (vlK vs k) (fillF l vs ch k) else fillF l vs ch k := rfl
   rw [e]
   generalize fillF l vs ch k = F at *
   generalize sizN (vlK vs k).nd = a at *
   cases pickB l k ch
   · rw [if_neg (by decide)]; omega
   · rw [if_pos rfl]; omega
theorem rec_siz (l : List Fld) (vs : List Vl) (ch : Int) (hl : l.length ≤ 12) (hv : sumV vs ≤ 1900000) (hvl : vs.length = l.length) : sizN (recN (fillF l vs ch l.length)) ≤ 2000000 := by
 have h1 := fill_siz l vs ch l.length (by omega)
 have h2 := (fill_len l vs ch l.length).1
 obtain ⟨h3, h4⟩ := lay_small l
 rw [List.take_of_length_le (by omega)] at h1
 rw [sizN_eq]
 show (⟨(fillF l vs ch l.length).d.toArray⟩ : ByteArray).size + sizL (fillF l vs ch l.length).p + sizL [] ≤ 2000000
 rw [ba_sz, sizL_nil]
 omega
theorem Made.node {w0 : World} {m : Nat} {w : World} {g G : Nat} {A : Option Addr} {c : Nat} {l : List Fld} {v1 : Value} {st : RSt} (h : Made w0 Any m w g G A c l v1 st) (hb : Below w0.heap.size w0 w) (hd : st.d.length ≤ maxLen) (hp : st.p.length ≤ maxLen) :
 NdAt w Any (m + 1) (recN st) ⟨some ⟨G, 0, .none⟩, st.p.length, .none, 0⟩ ∧ RecW w g A l.length c l v1 ⟨st.d.toArray⟩ (some ⟨G, 0, .none⟩) st.p.length st.p.length := by
 obtain ⟨q, h1, h2, h3, h4⟩ := h
 have hq : q.length = st.p.length := by rw [← h3, List.length_map]
 rw [hq] at h1
 refine ⟨⟨by show (⟨st.d.toArray⟩ : ByteArray).size ≤ maxLen; rw [ba_sz]; exact hd, ?_, NdsAt.nil _ _ _ _⟩, h1⟩
 show NdsAt w Any (m + 1) (some ⟨G, 0, .none⟩) st.p
 rw [← h3]
 exact nds_of_row h2 trivial (by rw [hq]; exact hp) (fun j u hj => by rw [List.getElem?_toArray]; exact hj) (fun r hr => (h4 r hr).below hb)
theorem roI_no (x : Addr) (c : Nat) (l : List Fld) (B : Option Addr) (cb : Nat) (vs : List Vl) (ch : Int) (m : Nat) (w : World) (ht : Tab w) (h1w : 1 < w.heap.size) (hxb : x.block < w.heap.size) (hfl : Flds w (some x) l) (hll : l.length ≤ 10000000) (hc : l.length ≤ c) (hvs : ValsAt w Any m B vs) (hvl : vs.length ≤ 10000000) (hsv : sumV vs ≤ 1900000) (M : Nat) (hno : fldsOk l = false) :
 Calls Tryz.prog 14 #[.slice (some x) l.length c, .slice B vs.length cb, .int .i64 ch] w (NewNb M noneNd false w) := by
 have HB0 := Lib.hid ((Below.refl w.heap.size w).alloc (Nat.le_refl _) (.cells #[.int .i64 0, .string { data := #[] }, .slice none 0 0, .int .i64 0, .int .i64 0, .slice none 0 0] nodeT))
 have R0 := Lib.hid (heap_alloc_new w (.cells #[.int .i64 0, .string { data := #[] }, .slice none 0 0, .int .i64 0, .int .i64 0, .slice none 0 0] nodeT))
 have HRB : Hid (Calls Tryz.prog 26 #[.slice (some x) l.length c, .agg #[.int .i64 0, .string { data := #[] }, .slice none 0 0, .int .i64 0, .int .i64 0, .slice none 0 0]] (w.alloc (.cells #[.int .i64 0, .string { data := #[] }, .slice none 0 0, .int .i64 0, .int .i64 0, .slice none 0 0] nodeT)) (RecByP l (some x) c noneNd zh (w.alloc (.cells #[.int .i64 0, .string { data := #[] }, .slice none 0 0, .int .i64 0, .int .i64 0, .slice none 0 0] nodeT)))) := Lib.hid (recordBy_a (some x) c l 0 noneNd zh _ Any (ht.below HB0.out h1w) (by simp; omega) (hfl.below HB0.out) (by omega) (noneN_at _ _ _) (by decide))
 have hrb : recB l noneNd = fldsOk l := by unfold recB; rw [show isRec noneNd = true by decide, Bool.and_true]
 clear ht hfl hvs
 go_enter Tryz.func14, Tryz.ntmps14
 go_wp2_with fail
 generalize w.alloc (.cells #[.int .i64 0, .string { data := #[] }, .slice none 0 0, .int .i64 0, .int .i64 0, .slice none 0 0] nodeT) = W at *
 refine HRB.out.mono ?_
 intro e w1 hrec
 rcases hrec with ⟨hok, -⟩ | ⟨-, rfl, hb1⟩
 · rw [hrb, hno] at hok; cases hok
 have hba : Below w1.heap.size w1 (w1.alloc (.cells #[.slice none 0 0, .int .i64 0, .int .i64 0, .slice none 0 0, .int .i64 0, .int .i64 0, .string { data := #[] }, .slice none 0 0, .int .i64 0, .int .i64 0, .slice none 0 0] recT)) := (Below.refl _ _).alloc (Nat.le_refl _) _
 have HB2 := Lib.hid ((HB0.out.trans (hb1.mono HB0.out.size)).trans (hba.mono (Nat.le_trans HB0.out.size hb1.size)))
 have HR2 := Lib.hid ((hba.block _ (row_lt ((hb1.block _ (row_lt R0.out)).trans R0.out))).trans ((hb1.block _ (row_lt R0.out)).trans R0.out))
 obtain ⟨z0, z1, z2, z3, z4, z5⟩ := cells6 HR2.out
 have zf := row_free HR2.out
 clear hb1 hba hno hrb
 unfold zero11
 go_wp2_with fail
 obtain ⟨wf, hwf, hrw, hbf, hkf⟩ := finN (w := w) (R := w.heap.size) (.int .i64 0) (.string { data := #[] }) (.slice none 0 0) (.int .i64 0) (.int .i64 0) (.slice none 0 0) HR2.out HB2.out (Nat.le_refl _)
 try rw [hwf]
 obtain ⟨e0, e1, e2, e3, e4, e5⟩ := cells6 hrw
 exact bodyPost_ret (v := .tuple #[.agg #[.int .i64 0, .string { data := #[] }, .slice none 0 0, .int .i64 0, .int .i64 0, .slice none 0 0], .bool false]) (by simp [results, Tryz.results14, go_sem, e0, e1, e2, e3, e4, e5]) rfl (NewNb.none hbf)
theorem roI_vals (x : Addr) (c : Nat) (l : List Fld) (B : Option Addr) (cb : Nat) (vs : List Vl) (ch : Int) (m : Nat) (w : World) (ht : Tab w) (h1w : 1 < w.heap.size) (hxb : x.block < w.heap.size) (hfl : Flds w (some x) l) (hll : l.length ≤ 10000000) (hc : l.length ≤ c) (hvs : ValsAt w Any m B vs) (hvl : vs.length ≤ 10000000) (hsv : sumV vs ≤ 1900000) (M : Nat) (hyes : fldsOk l = true) (hno : (decide (vs.length = l.length) && valsB l vs l.length) = false) :
 Calls Tryz.prog 14 #[.slice (some x) l.length c, .slice B vs.length cb, .int .i64 ch] w (NewNb M noneNd false w) := by
 have HB0 := Lib.hid ((Below.refl w.heap.size w).alloc (Nat.le_refl _) (.cells #[.int .i64 0, .string { data := #[] }, .slice none 0 0, .int .i64 0, .int .i64 0, .slice none 0 0] nodeT))
 have R0 := Lib.hid (heap_alloc_new w (.cells #[.int .i64 0, .string { data := #[] }, .slice none 0 0, .int .i64 0, .int .i64 0, .slice none 0 0] nodeT))
 have HRB : Hid (Calls Tryz.prog 26 #[.slice (some x) l.length c, .agg #[.int .i64 0, .string { data := #[] }, .slice none 0 0, .int .i64 0, .int .i64 0, .slice none 0 0]] (w.alloc (.cells #[.int .i64 0, .string { data := #[] }, .slice none 0 0, .int .i64 0, .int .i64 0, .slice none 0 0] nodeT)) (RecByP l (some x) c noneNd zh (w.alloc (.cells #[.int .i64 0, .string { data := #[] }, .slice none 0 0, .int .i64 0, .int .i64 0, .slice none 0 0] nodeT)))) := Lib.hid (recordBy_a (some x) c l 0 noneNd zh _ Any (ht.below HB0.out h1w) (by simp; omega) (hfl.below HB0.out) (by omega) (noneN_at _ _ _) (by decide))
 have hrb : recB l noneNd = fldsOk l := by unfold recB; rw [show isRec noneNd = true by decide, Bool.and_true]
 have hl12 := fldsOk_len hyes
 have HF := Lib.hid hfl
 have HAM := Lib.hid (fun (W : World) (hW : Below w.heap.size w W) => allMayBe_a (some x) B c cb l vs m W Any (hfl.below hW) hl12 (fldsOk_at hyes) (hvs.below hW) hvl (fun v hv => by
  obtain ⟨i, hi, rfl⟩ := List.getElem_of_mem hv
  obtain ⟨_, hd, _, _, hva⟩ := hvs.at_ hi
  rw [totN_siz hva.nd]
  have := sumV_at vs i
  rw [vlK_at hi] at this
  omega))
 have HIC := Lib.hid (fun (W : World) (hW : Below w.heap.size w W) => isChoice_a x c l ch W (hfl.below hW) hl12 hc)
 rw [hno] at HAM
 clear ht hfl hvs hno
 go_enter Tryz.func14, Tryz.ntmps14
 go_wp2_with fail
 generalize w.alloc (.cells #[.int .i64 0, .string { data := #[] }, .slice none 0 0, .int .i64 0, .int .i64 0, .slice none 0 0] nodeT) = W at *
 refine HRB.out.mono ?_
 intro e w1 hrec
 rcases hrec with ⟨hok, v1, rfl, hown, hb1⟩ | ⟨hok, -⟩
 rotate_left
 · rw [hrb, hyes] at hok; cases hok
 obtain ⟨A1, cp1, rfl⟩ := own_slice2 hown
 have hrv : recV (some x) l.length c l (.slice A1 l.length cp1) noneNd zh = .agg #[.slice (some x) l.length c, .int .i64 ((layF l ps0).2.ls.words : Int), .int .i64 ((layF l ps0).2.ptrs : Int), .slice A1 l.length cp1, .int .i64 (tagL l), .int .i64 0, .string { data := #[] }, .slice none 0 0, .int .i64 0, .int .i64 0, .slice none 0 0] := rfl
 rw [hrv]
 have hba : Below w1.heap.size w1 (w1.alloc (.cells #[.slice (some x) l.length c, .int .i64 ((layF l ps0).2.ls.words : Int), .int .i64 ((layF l ps0).2.ptrs : Int), .slice A1 l.length cp1, .int .i64 (tagL l), .int .i64 0, .string { data := #[] }, .slice none 0 0, .int .i64 0, .int .i64 0, .slice none 0 0] recT)) := (Below.refl _ _).alloc (Nat.le_refl _) _
 have HB1 := Lib.hid (HB0.out.trans (hb1.mono HB0.out.size))
 have HB2 := Lib.hid (HB1.out.trans (hba.mono HB1.out.size))
 have HR2 := Lib.hid ((hba.block _ (row_lt ((hb1.block _ (row_lt R0.out)).trans R0.out))).trans ((hb1.block _ (row_lt R0.out)).trans R0.out))
 have HREC := Lib.hid (heap_alloc_new w1 (.cells #[.slice (some x) l.length c, .int .i64 ((layF l ps0).2.ls.words : Int), .int .i64 ((layF l ps0).2.ptrs : Int), .slice A1 l.length cp1, .int .i64 (tagL l), .int .i64 0, .string { data := #[] }, .slice none 0 0, .int .i64 0, .int .i64 0, .slice none 0 0] recT))
 have HSL : Hid (∀ k, k < l.length → ∃ y, A1 = some y ∧ y.block < w1.heap.size ∧ w1.cell? (y.add k) = some (.int .i64 (atF l k : Nat))) := Lib.hid fun k hk => slots_atR (l := (layF l ps0).1) (k := k) (by rw [lay_length]; exact hown) (by rw [lay_length]; exact hk)
 have HGL : Hid (w.heap.size < w1.heap.size) := Lib.hid (row_lt ((hb1.block _ (row_lt R0.out)).trans R0.out))
 clear hb1 hba hrv hok hown
 go_wp2_with fail
 obtain ⟨g, hg⟩ : ∃ g, g = w1.heap.size := ⟨_, rfl⟩
 rw [← hg] at HREC HSL HGL ⊢
 clear hg
 generalize w1.alloc (.cells #[.slice (some x) l.length c, .int .i64 ((layF l ps0).2.ls.words : Int), .int .i64 ((layF l ps0).2.ptrs : Int), .slice A1 l.length cp1, .int .i64 (tagL l), .int .i64 0, .string { data := #[] }, .slice none 0 0, .int .i64 0, .int .i64 0, .slice none 0 0] recT) = W2 at *
 refine (HAM.out _ HB2.out).mono ?_
 rintro e w3 ⟨rfl, hb3⟩
 have HB3 := Lib.hid (HB2.out.trans (hb3.mono HB2.out.size))
 have HR3 := Lib.hid ((hb3.block _ (row_lt HR2.out)).trans HR2.out)
 have HREC3 := Lib.hid ((hb3.block _ (row_lt HREC.out)).trans HREC.out)
 have HC3 := Lib.hid hb3
 clear hb3
 obtain ⟨z0, z1, z2, z3, z4, z5⟩ := cells6 HR3.out
 have zf := row_free HR3.out
 go_wp2_with fail
 obtain ⟨wf, hwf, hrw, hbf, hkf⟩ := finN (w := w) (R := w.heap.size) (.int .i64 0) (.string { data := #[] }) (.slice none 0 0) (.int .i64 0) (.int .i64 0) (.slice none 0 0) HR3.out HB3.out (Nat.le_refl _)
 try rw [hwf]
 obtain ⟨e0, e1, e2, e3, e4, e5⟩ := cells6 hrw
 exact bodyPost_ret (v := .tuple #[.agg #[.int .i64 0, .string { data := #[] }, .slice none 0 0, .int .i64 0, .int .i64 0, .slice none 0 0], .bool false]) (by simp [results, Tryz.results14, go_sem, e0, e1, e2, e3, e4, e5]) rfl (NewNb.none hbf)
theorem roI_choice (x : Addr) (c : Nat) (l : List Fld) (B : Option Addr) (cb : Nat) (vs : List Vl) (ch : Int) (m : Nat) (w : World) (ht : Tab w) (h1w : 1 < w.heap.size) (hxb : x.block < w.heap.size) (hfl : Flds w (some x) l) (hll : l.length ≤ 10000000) (hc : l.length ≤ c) (hvs : ValsAt w Any m B vs) (hvl : vs.length ≤ 10000000) (hsv : sumV vs ≤ 1900000) (M : Nat) (hyes : fldsOk l = true) (hva : (decide (vs.length = l.length) && valsB l vs l.length) = true) (hno : chB l ch = false) :
 Calls Tryz.prog 14 #[.slice (some x) l.length c, .slice B vs.length cb, .int .i64 ch] w (NewNb M noneNd false w) := by
 have HB0 := Lib.hid ((Below.refl w.heap.size w).alloc (Nat.le_refl _) (.cells #[.int .i64 0, .string { data := #[] }, .slice none 0 0, .int .i64 0, .int .i64 0, .slice none 0 0] nodeT))
 have R0 := Lib.hid (heap_alloc_new w (.cells #[.int .i64 0, .string { data := #[] }, .slice none 0 0, .int .i64 0, .int .i64 0, .slice none 0 0] nodeT))
 have HRB : Hid (Calls Tryz.prog 26 #[.slice (some x) l.length c, .agg #[.int .i64 0, .string { data := #[] }, .slice none 0 0, .int .i64 0, .int .i64 0, .slice none 0 0]] (w.alloc (.cells #[.int .i64 0, .string { data := #[] }, .slice none 0 0, .int .i64 0, .int .i64 0, .slice none 0 0] nodeT)) (RecByP l (some x) c noneNd zh (w.alloc (.cells #[.int .i64 0, .string { data := #[] }, .slice none 0 0, .int .i64 0, .int .i64 0, .slice none 0 0] nodeT)))) := Lib.hid (recordBy_a (some x) c l 0 noneNd zh _ Any (ht.below HB0.out h1w) (by simp; omega) (hfl.below HB0.out) (by omega) (noneN_at _ _ _) (by decide))
 have hrb : recB l noneNd = fldsOk l := by unfold recB; rw [show isRec noneNd = true by decide, Bool.and_true]
 have hl12 := fldsOk_len hyes
 have HF := Lib.hid hfl
 have HAM := Lib.hid (fun (W : World) (hW : Below w.heap.size w W) => allMayBe_a (some x) B c cb l vs m W Any (hfl.below hW) hl12 (fldsOk_at hyes) (hvs.below hW) hvl (fun v hv => by
  obtain ⟨i, hi, rfl⟩ := List.getElem_of_mem hv
  obtain ⟨_, hd, _, _, hva⟩ := hvs.at_ hi
  rw [totN_siz hva.nd]
  have := sumV_at vs i
  rw [vlK_at hi] at this
  omega))
 have HIC := Lib.hid (fun (W : World) (hW : Below w.heap.size w W) => isChoice_a x c l ch W (hfl.below hW) hl12 hc)
 rw [hva] at HAM
 rw [hno] at HIC
 clear ht hfl hvs hno hva
 go_enter Tryz.func14, Tryz.ntmps14
 go_wp2_with fail
 generalize w.alloc (.cells #[.int .i64 0, .string { data := #[] }, .slice none 0 0, .int .i64 0, .int .i64 0, .slice none 0 0] nodeT) = W at *
 refine HRB.out.mono ?_
 intro e w1 hrec
 rcases hrec with ⟨hok, v1, rfl, hown, hb1⟩ | ⟨hok, -⟩
 rotate_left
 · rw [hrb, hyes] at hok; cases hok
 obtain ⟨A1, cp1, rfl⟩ := own_slice2 hown
 have hrv : recV (some x) l.length c l (.slice A1 l.length cp1) noneNd zh = .agg #[.slice (some x) l.length c, .int .i64 ((layF l ps0).2.ls.words : Int), .int .i64 ((layF l ps0).2.ptrs : Int), .slice A1 l.length cp1, .int .i64 (tagL l), .int .i64 0, .string { data := #[] }, .slice none 0 0, .int .i64 0, .int .i64 0, .slice none 0 0] := rfl
 rw [hrv]
 have hba : Below w1.heap.size w1 (w1.alloc (.cells #[.slice (some x) l.length c, .int .i64 ((layF l ps0).2.ls.words : Int), .int .i64 ((layF l ps0).2.ptrs : Int), .slice A1 l.length cp1, .int .i64 (tagL l), .int .i64 0, .string { data := #[] }, .slice none 0 0, .int .i64 0, .int .i64 0, .slice none 0 0] recT)) := (Below.refl _ _).alloc (Nat.le_refl _) _
 have HB1 := Lib.hid (HB0.out.trans (hb1.mono HB0.out.size))
 have HB2 := Lib.hid (HB1.out.trans (hba.mono HB1.out.size))
 have HR2 := Lib.hid ((hba.block _ (row_lt ((hb1.block _ (row_lt R0.out)).trans R0.out))).trans ((hb1.block _ (row_lt R0.out)).trans R0.out))
 have HREC := Lib.hid (heap_alloc_new w1 (.cells #[.slice (some x) l.length c, .int .i64 ((layF l ps0).2.ls.words : Int), .int .i64 ((layF l ps0).2.ptrs : Int), .slice A1 l.length cp1, .int .i64 (tagL l), .int .i64 0, .string { data := #[] }, .slice none 0 0, .int .i64 0, .int .i64 0, .slice none 0 0] recT))
 have HSL : Hid (∀ k, k < l.length → ∃ y, A1 = some y ∧ y.block < w1.heap.size ∧ w1.cell? (y.add k) = some (.int .i64 (atF l k : Nat))) := Lib.hid fun k hk => slots_atR (l := (layF l ps0).1) (k := k) (by rw [lay_length]; exact hown) (by rw [lay_length]; exact hk)
 have HGL : Hid (w.heap.size < w1.heap.size) := Lib.hid (row_lt ((hb1.block _ (row_lt R0.out)).trans R0.out))
 clear hb1 hba hrv hok hown
 go_wp2_with fail
 obtain ⟨g, hg⟩ : ∃ g, g = w1.heap.size := ⟨_, rfl⟩
 rw [← hg] at HREC HSL HGL ⊢
 clear hg
 generalize w1.alloc (.cells #[.slice (some x) l.length c, .int .i64 ((layF l ps0).2.ls.words : Int), .int .i64 ((layF l ps0).2.ptrs : Int), .slice A1 l.length cp1, .int .i64 (tagL l), .int .i64 0, .string { data := #[] }, .slice none 0 0, .int .i64 0, .int .i64 0, .slice none 0 0] recT) = W2 at *
 refine (HAM.out _ HB2.out).mono ?_
 rintro e w3 ⟨rfl, hb3⟩
 have HB3 := Lib.hid (HB2.out.trans (hb3.mono HB2.out.size))
 have HR3 := Lib.hid ((hb3.block _ (row_lt HR2.out)).trans HR2.out)
 have HREC3 := Lib.hid ((hb3.block _ (row_lt HREC.out)).trans HREC.out)
 have HC3 := Lib.hid hb3
 clear hb3
 go_wp2_with fail
 refine (HIC.out _ HB3.out).mono ?_
 rintro e w4 ⟨rfl, hb4⟩
 have HB4 := Lib.hid (HB3.out.trans (hb4.mono HB3.out.size))
 have HR4 := Lib.hid ((hb4.block _ (row_lt HR3.out)).trans HR3.out)
 have HREC4 := Lib.hid ((hb4.block _ (row_lt HREC3.out)).trans HREC3.out)
 have HC4 := Lib.hid (HC3.out.trans (hb4.mono HC3.out.size))
 clear hb4
 obtain ⟨z0, z1, z2, z3, z4, z5⟩ := cells6 HR4.out
 have zf := row_free HR4.out
 go_wp2_with fail
 obtain ⟨wf, hwf, hrw, hbf, hkf⟩ := finN (w := w) (R := w.heap.size) (.int .i64 0) (.string { data := #[] }) (.slice none 0 0) (.int .i64 0) (.int .i64 0) (.slice none 0 0) HR4.out HB4.out (Nat.le_refl _)
 try rw [hwf]
 obtain ⟨e0, e1, e2, e3, e4, e5⟩ := cells6 hrw
 exact bodyPost_ret (v := .tuple #[.agg #[.int .i64 0, .string { data := #[] }, .slice none 0 0, .int .i64 0, .int .i64 0, .slice none 0 0], .bool false]) (by simp [results, Tryz.results14, go_sem, e0, e1, e2, e3, e4, e5]) rfl (NewNb.none hbf)
theorem roI_yes (x : Addr) (c : Nat) (l : List Fld) (B : Option Addr) (cb : Nat) (vs : List Vl) (ch : Int) (m : Nat) (w : World) (ht : Tab w) (h1w : 1 < w.heap.size) (hxb : x.block < w.heap.size) (hfl : Flds w (some x) l) (hll : l.length ≤ 10000000) (hc : l.length ≤ c) (hvs : ValsAt w Any m B vs) (hvl : vs.length ≤ 10000000) (hsv : sumV vs ≤ 1900000) (hyes : fldsOk l = true) (hva : (decide (vs.length = l.length) && valsB l vs l.length) = true) (hch : chB l ch = true) (ob : Bool) (Y : Nd) (hob : nodeOk (recN (fillF l vs ch l.length)) = ob) (hY1 : ob = true → Y = recN (fillF l vs ch l.length)) (hY2 : ob = false → Y = noneNd) :
 Calls Tryz.prog 14 #[.slice (some x) l.length c, .slice B vs.length cb, .int .i64 ch] w (NewNb (m + 2) Y ob w) := by
 have HB0 := Lib.hid ((Below.refl w.heap.size w).alloc (Nat.le_refl _) (.cells #[.int .i64 0, .string { data := #[] }, .slice none 0 0, .int .i64 0, .int .i64 0, .slice none 0 0] nodeT))
 have R0 := Lib.hid (heap_alloc_new w (.cells #[.int .i64 0, .string { data := #[] }, .slice none 0 0, .int .i64 0, .int .i64 0, .slice none 0 0] nodeT))
 have HRB : Hid (Calls Tryz.prog 26 #[.slice (some x) l.length c, .agg #[.int .i64 0, .string { data := #[] }, .slice none 0 0, .int .i64 0, .int .i64 0, .slice none 0 0]] (w.alloc (.cells #[.int .i64 0, .string { data := #[] }, .slice none 0 0, .int .i64 0, .int .i64 0, .slice none 0 0] nodeT)) (RecByP l (some x) c noneNd zh (w.alloc (.cells #[.int .i64 0, .string { data := #[] }, .slice none 0 0, .int .i64 0, .int .i64 0, .slice none 0 0] nodeT)))) := Lib.hid (recordBy_a (some x) c l 0 noneNd zh _ Any (ht.below HB0.out h1w) (by simp; omega) (hfl.below HB0.out) (by omega) (noneN_at _ _ _) (by decide))
 have hrb : recB l noneNd = fldsOk l := by unfold recB; rw [show isRec noneNd = true by decide, Bool.and_true]
 have hl12 := fldsOk_len hyes
 have HF := Lib.hid hfl
 have HAM := Lib.hid (fun (W : World) (hW : Below w.heap.size w W) => allMayBe_a (some x) B c cb l vs m W Any (hfl.below hW) hl12 (fldsOk_at hyes) (hvs.below hW) hvl (fun v hv => by
  obtain ⟨i, hi, rfl⟩ := List.getElem_of_mem hv
  obtain ⟨_, hd, _, _, hva⟩ := hvs.at_ hi
  rw [totN_siz hva.nd]
  have := sumV_at vs i
  rw [vlK_at hi] at this
  omega))
 have HIC := Lib.hid (fun (W : World) (hW : Below w.heap.size w W) => isChoice_a x c l ch W (hfl.below hW) hl12 hc)
 have HOB := Lib.hid hob
 have HY1 := Lib.hid hY1
 have HY2 := Lib.hid hY2
 clear hob hY1 hY2
 have HLV : Hid (vs.length = l.length) := Lib.hid (by rw [Bool.and_eq_true, decide_eq_true_eq] at hva; exact hva.1)
 have HV := Lib.hid hvs
 have HXB := Lib.hid hxb
 have HOK := Lib.hid hyes
 have HCC := Lib.hid hc
 have hsz := rec_siz l vs ch hl12 hsv HLV.out
 have hfle := fill_len l vs ch l.length
 have hsm := lay_small l
 have HPO := Lib.hid (fun (W : World) (hW : Below w.heap.size w W) (k : Nat) (hk : k < l.length) => placeOf_a (some x) c l k hk hc W (hfl.below hW) hl12)
 rw [hva] at HAM
 rw [hch] at HIC
 clear ht hfl hvs hch hva hxb
 go_enter Tryz.func14, Tryz.ntmps14
 go_wp2_with fail
 generalize w.alloc (.cells #[.int .i64 0, .string { data := #[] }, .slice none 0 0, .int .i64 0, .int .i64 0, .slice none 0 0] nodeT) = W at *
 refine HRB.out.mono ?_
 intro e w1 hrec
 rcases hrec with ⟨hok, v1, rfl, hown, hb1⟩ | ⟨hok, -⟩
 rotate_left
 · rw [hrb, hyes] at hok; cases hok
 obtain ⟨A1, cp1, rfl⟩ := own_slice2 hown
 have hrv : recV (some x) l.length c l (.slice A1 l.length cp1) noneNd zh = .agg #[.slice (some x) l.length c, .int .i64 ((layF l ps0).2.ls.words : Int), .int .i64 ((layF l ps0).2.ptrs : Int), .slice A1 l.length cp1, .int .i64 (tagL l), .int .i64 0, .string { data := #[] }, .slice none 0 0, .int .i64 0, .int .i64 0, .slice none 0 0] := rfl
 rw [hrv]
 have hba : Below w1.heap.size w1 (w1.alloc (.cells #[.slice (some x) l.length c, .int .i64 ((layF l ps0).2.ls.words : Int), .int .i64 ((layF l ps0).2.ptrs : Int), .slice A1 l.length cp1, .int .i64 (tagL l), .int .i64 0, .string { data := #[] }, .slice none 0 0, .int .i64 0, .int .i64 0, .slice none 0 0] recT)) := (Below.refl _ _).alloc (Nat.le_refl _) _
 have HB1 := Lib.hid (HB0.out.trans (hb1.mono HB0.out.size))
 have HB2 := Lib.hid (HB1.out.trans (hba.mono HB1.out.size))
 have HBA2 := Lib.hid hba
 have HR2 := Lib.hid ((hba.block _ (row_lt ((hb1.block _ (row_lt R0.out)).trans R0.out))).trans ((hb1.block _ (row_lt R0.out)).trans R0.out))
 have HREC := Lib.hid (heap_alloc_new w1 (.cells #[.slice (some x) l.length c, .int .i64 ((layF l ps0).2.ls.words : Int), .int .i64 ((layF l ps0).2.ptrs : Int), .slice A1 l.length cp1, .int .i64 (tagL l), .int .i64 0, .string { data := #[] }, .slice none 0 0, .int .i64 0, .int .i64 0, .slice none 0 0] recT))
 have HSL : Hid (∀ k, k < l.length → ∃ y, A1 = some y ∧ y.block < w1.heap.size ∧ w1.cell? (y.add k) = some (.int .i64 (atF l k : Nat))) := Lib.hid fun k hk => slots_atR (l := (layF l ps0).1) (k := k) (by rw [lay_length]; exact hown) (by rw [lay_length]; exact hk)
 have HGL : Hid (w.heap.size < w1.heap.size) := Lib.hid (row_lt ((hb1.block _ (row_lt R0.out)).trans R0.out))
 clear hb1 hba hrv hok hown
 go_wp2_with fail
 obtain ⟨g, hg⟩ : ∃ g, g = w1.heap.size := ⟨_, rfl⟩
 rw [← hg] at HREC HSL HGL ⊢
 have HGE : Hid (g = w1.heap.size) := Lib.hid hg
 clear hg
 generalize w1.alloc (.cells #[.slice (some x) l.length c, .int .i64 ((layF l ps0).2.ls.words : Int), .int .i64 ((layF l ps0).2.ptrs : Int), .slice A1 l.length cp1, .int .i64 (tagL l), .int .i64 0, .string { data := #[] }, .slice none 0 0, .int .i64 0, .int .i64 0, .slice none 0 0] recT) = W2 at *
 refine (HAM.out _ HB2.out).mono ?_
 rintro e w3 ⟨rfl, hb3⟩
 have HB3 := Lib.hid (HB2.out.trans (hb3.mono HB2.out.size))
 have HR3 := Lib.hid ((hb3.block _ (row_lt HR2.out)).trans HR2.out)
 have HREC3 := Lib.hid ((hb3.block _ (row_lt HREC.out)).trans HREC.out)
 have HC3 := Lib.hid hb3
 clear hb3
 go_wp2_with fail
 refine (HIC.out _ HB3.out).mono ?_
 rintro e w4 ⟨rfl, hb4⟩
 have HB4 := Lib.hid (HB3.out.trans (hb4.mono HB3.out.size))
 have HR4 := Lib.hid ((hb4.block _ (row_lt HR3.out)).trans HR3.out)
 have HREC4 := Lib.hid ((hb4.block _ (row_lt HREC3.out)).trans HREC3.out)
 have HC4 := Lib.hid (HC3.out.trans (hb4.mono HC3.out.size))
 clear hb4
 go_wp2_with fail
 refine (widen_a g (some x) l.length c l (.slice A1 l.length cp1) w4 HREC4.out hl12).mono ?_
 rintro e w5 ⟨rfl, G, hrw5, hG5, hge5, hon5⟩
 have HB5 : Hid (Below w.heap.size w w5) := Lib.hid (HB4.out.trans (hon5.below HB4.out.size (fun b hb => by simp at hb; have := HGL.out; omega)))
 have HGG : Hid (g < G) := Lib.hid (Nat.lt_of_lt_of_le (row_lt HREC4.out) hge5)
 have hgG : g ≠ G := by have := HGG.out; omega
 have HR5 : Hid (w5.heap[w.heap.size]? = some (.cells #[.int .i64 0, .string { data := #[] }, .slice none 0 0, .int .i64 0, .int .i64 0, .slice none 0 0] nodeT (0, 0))) := Lib.hid ((hon5.block _ (row_lt HR4.out) (by have := HGL.out; simp; omega)).trans HR4.out)
 have HC5 : Hid (∀ k, k < l.length → ∀ y : Addr, A1 = some y → w5.cell? (y.add k) = w1.cell? (y.add k)) := Lib.hid fun k hk y hy => by
  obtain ⟨y', hy', hyb', hsy'⟩ := HSL.out k hk
  rw [hy] at hy'
  obtain rfl := Option.some.inj hy'
  have h1 := (HBA2.out.cell (p := y.add k) (by rw [addr_block, ← HGE.out]; exact hyb')).trans hsy'
  have h2 := (HC4.out.cell (p := y.add k) (World.block_lt_of_cell? _ _ h1)).trans h1
  exact (cell_only hon5 (by rw [addr_block]; simp; omega) h2).trans hsy'.symm
 have HM5 : Hid (Made w Any m w5 g G (some x) c l (.slice A1 l.length cp1) (fillF l vs ch 0)) := Lib.hid ⟨List.replicate (layF l ps0).2.ptrs (noneNd, zh), by rw [List.length_replicate]; exact hrw5, hG5, by rw [List.map_replicate]; rfl, fun r hr => by rw [(List.mem_replicate.1 hr).2]; exact noneN_at _ _ _⟩
 clear hrw5 hG5 hge5 hon5
 go_wp2_with fail
 go_loopw [36] (fun i wr => ∃ k : Nat, i = .int .i64 (k : Int) ∧ k ≤ l.length ∧ Hid (Made w Any m wr g G (some x) c l (.slice A1 l.length cp1) (fillF l vs ch k)) ∧ Hid (OnlyIn [g, G] w5 wr)) (fun i _ => l.length - (intOf i).toNat)
 case atStart => exact ⟨0, rfl, by omega, HM5, Lib.hid (OnlyIn.refl _ _)⟩
 case round =>
  obtain ⟨k, rfl, hk, HM, HO⟩ := hrel
  have HB : Hid (Below w.heap.size w wr) := Lib.hid (HB5.out.trans (HO.out.below HB5.out.size (fun b hb => by simp at hb; have := HGL.out; have := HGG.out; omega)))
  by_cases hlt : k < l.length
  · obtain ⟨xa, hxa, hxab, hxf⟩ := (HF.out.below HB.out).at2 hlt
    obtain rfl := Option.some.inj hxa
    have hkv : k < vs.length := by rw [HLV.out]; exact hlt
    have hkv2 : ((k : Nat) : Int) < vs.length := by omega
    obtain ⟨xv, hv, rfl, hxvb, hvat⟩ := HV.out.at_ hkv
    obtain ⟨y, rfl, hyb, hsy⟩ := HSL.out k hlt
    obtain ⟨n9, d9, hd9⟩ : ∃ n9 d9, vs[k] = Vl.mk n9 d9 := ⟨_, _, rfl⟩
    rw [hd9] at hvat
    have HNV := Lib.hid hvat.nd
    have HVK : Hid (vlK vs k = ⟨n9, d9⟩) := Lib.hid ((vlK_at hkv).trans hd9)
    have hfk := fldK_at hlt
    obtain ⟨z, fc, el, hf⟩ : ∃ z fc el, l[k] = Fld.mk z fc el := ⟨_, _, _, rfl⟩
    rw [hf] at hxf hfk
    obtain ⟨c0, c1, c2⟩ := hxf
    have hba6 : Below wr.heap.size wr (wr.alloc (.cells #[.int .i64 z, .bool fc, .int .i64 el] 41)) := (Below.refl _ _).alloc (Nat.le_refl _) _
    have HB6 := Lib.hid (HB.out.trans (hba6.mono HB.out.size))
    have HM6 := Lib.hid (HM.out.below hba6)
    have HO6 := Lib.hid (HO.out.trans (OnlyIn.of_below hba6))
    have HVC : Hid (∀ V : World, Below w.heap.size w V → _) := Lib.hid fun V hV => (hvat.below hV).cells
    clear hba6 hvat hd9 hf
    cases fc
    · have HPK : Hid (pickB l k ch = true) := Lib.hid (by unfold pickB; rw [hfk]; rfl)
      obtain ⟨y0, y1, y2, y3, y4, y5, y6⟩ := HVC.out _ HB6.out
      try dsimp only at y0 y1 y2 y3 y4 y5 y6
      clear hfk
      go_wp2_with fail
      clear c0 c1 c2 y0 y1 y2 y3 y4 y5 y6
      generalize wr.alloc (.cells #[.int .i64 z, .bool false, .int .i64 el] 41) = W6 at *
      have HMV := HM6.out
      have HOV := HO6.out
      have hbV : Below w.heap.size w W6 := HB6.out
      refine (set_any w Any m g G x y c cp1 l (fillF l vs ch k) k hlt W6 HMV hgG hc (HF.out.below hbV) ⟨by have := HXB.out; have := HGL.out; omega, by have := HXB.out; have := HGL.out; have := HGG.out; omega⟩ ⟨by have := hyb; omega, by have := hyb; have := HGG.out; omega⟩ ((cell_only HOV (by rw [addr_block]; simp; have := HGG.out; omega) ((HC5.out k hlt y rfl).trans hsy))) HOK.out (by have := (fill_len l vs ch k).1; have := (lay_small l).2; unfold maxLen; omega) (fill_len l vs ch k).2 ⟨n9, d9⟩ hv HNV.out).mono ?_
      rintro e w9 ⟨rfl, hmd, hon⟩
      have HMD : Hid (Made w Any m w9 g G (some x) c l (.slice (some y) l.length cp1) (fillF l vs ch (k + 1))) := Lib.hid (by
       show Made w Any m w9 g G (some x) c l (.slice (some y) l.length cp1) (if pickB l k ch = true then setF l k (vlK vs k) (fillF l vs ch k) else fillF l vs ch k)
       rw [if_pos HPK.out, HVK.out]
       exact hmd)
      have HON := Lib.hid (HOV.trans hon)
      clear hmd hon HMV HOV hbV
      go_wp2_with fail
      go_roundw
      case rel => exact ⟨k + 1, by go_num, by omega, HMD, HON⟩
      case measure => simp [intOf]; omega
    · have HPE : Hid (pickB l k ch = decide ((plcN l k : Int) = ch)) := Lib.hid (by unfold pickB; rw [hfk]; rfl)
      clear hfk
      go_wp2_with fail
      clear c0 c1 c2
      generalize wr.alloc (.cells #[.int .i64 z, .bool true, .int .i64 el] 41) = W6 at *
      refine (HPO.out _ HB6.out k hlt).mono ?_
      rintro e w7 ⟨rfl, hb7⟩
      have HB7 := Lib.hid (HB6.out.trans (hb7.mono HB6.out.size))
      have HM7 := Lib.hid (HM6.out.below hb7)
      have HO7 := Lib.hid (HO6.out.trans (OnlyIn.of_below hb7))
      clear hb7
      obtain ⟨pv, hpv⟩ : ∃ pv : Int, ((plcN l k : Nat) : Int) = pv := ⟨_, rfl⟩
      rw [hpv] at HPE ⊢
      clear hpv
      by_cases hq : pv = ch
      · have HPK : Hid (pickB l k ch = true) := Lib.hid (by rw [HPE.out, decide_eq_true hq])
        have hq2 : (pv == ch) = true := by simpa using hq
        clear hq
        obtain ⟨y0, y1, y2, y3, y4, y5, y6⟩ := HVC.out _ HB7.out
        try dsimp only at y0 y1 y2 y3 y4 y5 y6
        go_wp2_with fail
        clear y0 y1 y2 y3 y4 y5 y6 hq2
        have HMV := HM7.out
        have HOV := HO7.out
        have hbV : Below w.heap.size w w7 := HB7.out
        refine (set_any w Any m g G x y c cp1 l (fillF l vs ch k) k hlt w7 HMV hgG hc (HF.out.below hbV) ⟨by have := HXB.out; have := HGL.out; omega, by have := HXB.out; have := HGL.out; have := HGG.out; omega⟩ ⟨by have := hyb; omega, by have := hyb; have := HGG.out; omega⟩ ((cell_only HOV (by rw [addr_block]; simp; have := HGG.out; omega) ((HC5.out k hlt y rfl).trans hsy))) HOK.out (by have := (fill_len l vs ch k).1; have := (lay_small l).2; unfold maxLen; omega) (fill_len l vs ch k).2 ⟨n9, d9⟩ hv HNV.out).mono ?_
        rintro e w9 ⟨rfl, hmd, hon⟩
        have HMD : Hid (Made w Any m w9 g G (some x) c l (.slice (some y) l.length cp1) (fillF l vs ch (k + 1))) := Lib.hid (by
         show Made w Any m w9 g G (some x) c l (.slice (some y) l.length cp1) (if pickB l k ch = true then setF l k (vlK vs k) (fillF l vs ch k) else fillF l vs ch k)
         rw [if_pos HPK.out, HVK.out]
         exact hmd)
        have HON := Lib.hid (HOV.trans hon)
        clear hmd hon HMV HOV hbV
        go_wp2_with fail
        go_roundw
        case rel => exact ⟨k + 1, by go_num, by omega, HMD, HON⟩
        case measure => simp [intOf]; omega
      · have HPK : Hid (pickB l k ch = false) := Lib.hid (by rw [HPE.out, decide_eq_false hq])
        have hq2 : (pv == ch) = false := by simpa using hq
        clear hq
        have HMD : Hid (Made w Any m w7 g G (some x) c l (.slice (some y) l.length cp1) (fillF l vs ch (k + 1))) := Lib.hid (by
         show Made w Any m w7 g G (some x) c l (.slice (some y) l.length cp1) (if pickB l k ch = true then setF l k (vlK vs k) (fillF l vs ch k) else fillF l vs ch k)
         rw [if_neg (by rw [HPK.out]; decide)]
         exact HM7.out)
        go_wp2_with fail
        go_roundw
        case rel => exact ⟨k + 1, by go_num, by omega, HMD, HO7⟩
        case measure => simp [intOf]; omega
  · obtain rfl : k = l.length := by omega
    have hd9 : (fillF l vs ch l.length).d.length ≤ maxLen := by have := hfle.1; have := hsm.2; unfold maxLen; omega
    obtain ⟨hnd, hrw⟩ := HM.out.node HB.out hd9 (by rw [hfle.2]; unfold maxLen; omega)
    have HQ : Hid (wr.heap[w.heap.size]? = some (.cells #[.int .i64 0, .string { data := #[] }, .slice none 0 0, .int .i64 0, .int .i64 0, .slice none 0 0] nodeT (0, 0))) := Lib.hid ((HO.out.block _ (row_lt HR5.out) (by have := HGL.out; have := HGG.out; simp; omega)).trans HR5.out)
    have HNO : Hid (∀ W : World, Below wr.heap.size wr W → Calls Tryz.prog 17 #[.agg #[.int .i64 1, .string ⟨(fillF l vs ch l.length).d.toArray⟩, .slice (some ⟨G, 0, none⟩) (fillF l vs ch l.length).p.length (fillF l vs ch l.length).p.length, .int .i64 0, .int .i64 0, .slice none 0 0]] W fun e w' => e = .returned (.bool ob) ∧ Below W.heap.size W w') := Lib.hid fun W hW => by
     have := implNodeOk_a (m + 1) (recN (fillF l vs ch l.length)) ⟨some ⟨G, 0, .none⟩, (fillF l vs ch l.length).p.length, .none, 0⟩ W Any (hnd.below hW) (by rw [totN_siz hnd]; exact hsz)
     rw [HOB.out] at this
     exact this
    have HCP : Hid (∀ W : World, Below wr.heap.size wr W → Calls Tryz.prog 32 #[.agg #[.int .i64 1, .string ⟨(fillF l vs ch l.length).d.toArray⟩, .slice (some ⟨G, 0, none⟩) (fillF l vs ch l.length).p.length (fillF l vs ch l.length).p.length, .int .i64 0, .int .i64 0, .slice none 0 0]] W fun e w' => ∃ (h : Hd) (bs : List Nat), e = .returned (.agg #[.int .i64 1, .string ⟨(fillF l vs ch l.length).d.toArray⟩, .slice h.A (fillF l vs ch l.length).p.length h.a, .int .i64 0, .int .i64 0, .slice h.B 0 h.b]) ∧ OwN w' (m + 2) (recN (fillF l vs ch l.length)) h bs ∧ bs.Nodup ∧ (∀ b ∈ bs, W.heap.size ≤ b) ∧ Below W.heap.size W w') := Lib.hid fun W hW => ciN_any (m + 1) (recN (fillF l vs ch l.length)) ⟨some ⟨G, 0, .none⟩, (fillF l vs ch l.length).p.length, .none, 0⟩ W Any (hnd.below hW) hsz
    have HR9 := Lib.hid hrw
    obtain ⟨RN, hRN⟩ : ∃ RN, recN (fillF l vs ch l.length) = RN := ⟨_, rfl⟩
    have HRN : Hid (RN.kind = 1 ∧ RN.data = ⟨(fillF l vs ch l.length).d.toArray⟩ ∧ RN.ptrs.length = (fillF l vs ch l.length).p.length ∧ RN.size = 0 ∧ RN.count = 0 ∧ RN.items.length = 0) := Lib.hid (by rw [← hRN]; exact ⟨rfl, rfl, rfl, rfl, rfl, rfl⟩)
    rw [hRN] at HY1 HCP
    clear hRN hrw hnd hd9 hsz hfle hsm
    unfold RecW at HR9
    generalize (fillF l vs ch l.length).p.length = P9 at *
    generalize (⟨(fillF l vs ch l.length).d.toArray⟩ : ByteArray) = D9 at *
    obtain ⟨r0, r1, r2, r3, r4, r5, r6, r7, r8, r9, r10⟩ := cells11 HR9.out
    cases ob
    · obtain rfl := HY2.out rfl
      go_wp2_with fail
      refine (HNO.out _ (Below.refl _ _)).mono ?_
      rintro e w8 ⟨rfl, hb8⟩
      have HB8 := Lib.hid (HB.out.trans (hb8.mono HB.out.size))
      have HQ8 := Lib.hid ((hb8.block _ (row_lt HQ.out)).trans HQ.out)
      clear hb8 r0 r1 r2 r3 r4 r5 r6 r7 r8 r9 r10
      obtain ⟨z0, z1, z2, z3, z4, z5⟩ := cells6 HQ8.out
      have zf := row_free HQ8.out
      go_wp2_with fail
      obtain ⟨wf, hwf, hrw, hbf, hkf⟩ := finN (w := w) (R := w.heap.size) (.int .i64 0) (.string { data := #[] }) (.slice none 0 0) (.int .i64 0) (.int .i64 0) (.slice none 0 0) HQ8.out HB8.out (Nat.le_refl _)
      try rw [hwf]
      obtain ⟨e0, e1, e2, e3, e4, e5⟩ := cells6 hrw
      exact bodyPost_ret (v := .tuple #[.agg #[.int .i64 0, .string { data := #[] }, .slice none 0 0, .int .i64 0, .int .i64 0, .slice none 0 0], .bool false]) (by simp [results, Tryz.results14, go_sem, e0, e1, e2, e3, e4, e5]) rfl (NewNb.none hbf)
    · obtain rfl := HY1.out rfl
      go_wp2_with fail
      refine (HNO.out _ (Below.refl _ _)).mono ?_
      rintro e w8 ⟨rfl, hb8⟩
      have HB8 := Lib.hid (HB.out.trans (hb8.mono HB.out.size))
      have HQ8 := Lib.hid ((hb8.block _ (row_lt HQ.out)).trans HQ.out)
      have HK8 := Lib.hid hb8
      clear r0 r1 r2 r3 r4 r5 r6 r7 r8 r9 r10
      obtain ⟨r0, r1, r2, r3, r4, r5, r6, r7, r8, r9, r10⟩ := cells11 ((hb8.block _ (row_lt HR9.out)).trans HR9.out)
      clear hb8
      go_wp2_with fail
      clear r0 r1 r2 r3 r4 r5 r6 r7 r8 r9 r10
      refine (HCP.out _ HK8.out).mono ?_
      rintro e w9 ⟨h5, bs, rfl, ho, hnd, hgb, hb9⟩
      have HB9 := Lib.hid (HB8.out.trans (hb9.mono HB8.out.size))
      have HQ9 := Lib.hid ((hb9.block _ (row_lt HQ8.out)).trans HQ8.out)
      have HOW := Lib.hid ho
      have HGB := Lib.hid (And.intro hnd hgb)
      have HL8 := Lib.hid (row_lt HQ8.out)
      clear ho hnd hgb hb9
      obtain ⟨z0, z1, z2, z3, z4, z5⟩ := cells6 HQ9.out
      have zf := row_free HQ9.out
      go_wp2_with fail
      obtain ⟨wf, hwf, hrw, hbf, hkf⟩ := finN (w := w) (R := w.heap.size) (.int .i64 1) (.string D9) (.slice h5.A P9 h5.a) (.int .i64 0) (.int .i64 0) (.slice h5.B 0 h5.b) HQ9.out HB9.out (Nat.le_refl _)
      try rw [hwf]
      obtain ⟨e0, e1, e2, e3, e4, e5⟩ := cells6 hrw
      obtain ⟨n0, n1, n2, n3, n4, n5⟩ := HRN.out
      refine bodyPost_ret (v := .tuple #[.agg #[.int .i64 1, .string D9, .slice h5.A P9 h5.a, .int .i64 0, .int .i64 0, .slice h5.B 0 h5.b], .bool true]) (by simp [results, Tryz.results14, go_sem, e0, e1, e2, e3, e4, e5]) rfl ⟨h5, bs, by rw [n0, n1, n2, n3, n4, n5], HOW.out.frame (fun b hb => hkf b (by have := HGB.out.2 b hb; have := HL8.out; omega)), HGB.out.1, fun b hb => by have := HGB.out.2 b hb; have := HL8.out; omega, hbf⟩
end Go.Proofs.YtblcibgphccfkaaGreatDoor
