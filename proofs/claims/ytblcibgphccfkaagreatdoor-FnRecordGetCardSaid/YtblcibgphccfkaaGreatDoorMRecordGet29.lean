/- Texts of the proof of the law FnRecordGet, side by side: part 29. -/
import Derived.Test.YtblcibgphccfkaaGreatDoorMRecordGet28
set_option maxHeartbeats 8000000
set_option maxRecDepth 100000
namespace Go.Proofs.YtblcibgphccfkaaGreatDoor
open Go.RowKit Go.Deep
def NewNb (m : Nat) (y : Nd) (b : Bool) (w : World) (e : Ending) (w' : World) : Prop := ∃ (h : Hd) (bs : List Nat), e = .returned (.tuple #[.agg #[.int .i64 y.kind, .string y.data, .slice h.A y.ptrs.length h.a, .int .i64 y.size, .int .i64 y.count, .slice h.B y.items.length h.b], .bool b]) ∧ OwN w' m y h bs ∧ bs.Nodup ∧ (∀ b ∈ bs, w.heap.size ≤ b) ∧ Below w.heap.size w w'
theorem NewNb.none {m : Nat} {w w' : World} (hb : Below w.heap.size w w') : NewNb m noneNd false w (.returned (.tuple #[.agg #[.int .i64 0, .string { data := #[] }, .slice none 0 0, .int .i64 0, .int .i64 0, .slice none 0 0], .bool false])) w' :=
 ⟨⟨.none, 0, .none, 0⟩, [], rfl, OwN.none w' m, List.nodup_nil, fun b hb => (by cases hb), hb⟩
theorem finN {w W : World} {g R : Nat} {T : TypeId} {u0 u1 u2 u3 u4 u5 : Value} (v0 v1 v2 v3 v4 v5 : Value) (hz : W.heap[g]? = some (.cells #[u0, u1, u2, u3, u4, u5] T (0, 0))) (hb : Below R w W) (hR : R ≤ g) :
 ∃ wf, ((((((W.setCell ⟨g, 0, none⟩ v0).setCell ⟨g, 1, none⟩ v1).setCell ⟨g, 2, none⟩ v2).setCell ⟨g, 3, none⟩ v3).setCell ⟨g, 4, none⟩ v4).setCell ⟨g, 5, none⟩ v5) = wf ∧ wf.heap[g]? = some (.cells #[v0, v1, v2, v3, v4, v5] T (0, 0)) ∧ Below R w wf ∧ ∀ k, k ≠ g → wf.heap[k]? = W.heap[k]? := by
 have hk : ∀ (V : World) (i : Nat) (v : Value), Below R w V → Below R w (V.setCell ⟨g, i, none⟩ v) := fun V i v hV => hV.setCell (p := ⟨g, i, none⟩) hR v
 have hn : ∀ (V : World) (i : Nat) (v : Value) {k : Nat}, k ≠ g → (V.setCell ⟨g, i, none⟩ v).heap[k]? = V.heap[k]? := fun V i v k h => Below.heap_setCell V ⟨g, i, none⟩ v k h
 refine ⟨_, rfl, ?_, ?_, fun k h => ?_⟩
 · exact row_setN (row_setN (row_setN (row_setN (row_setN (row_setN hz 0 v0) 1 v1) 2 v2) 3 v3) 4 v4) 5 v5
 · exact hk _ _ _ (hk _ _ _ (hk _ _ _ (hk _ _ _ (hk _ _ _ (hk _ _ _ hb)))))
 · rw [hn _ _ _ h, hn _ _ _ h, hn _ _ _ h, hn _ _ _ h, hn _ _ _ h, hn _ _ _ h]
theorem bputT_le (d : List UInt8) (a n : Int) : (bputT d a n).length ≤ d.length := by
 unfold bputT
 split
 · split
   · unfold setBit; simp
   · exact Nat.le_refl _
 · exact Nat.zero_le _
theorem wrF_le (f : Fld) (s : Nat) (n : Int) (d : List UInt8) : (wrF f s n d).length ≤ d.length := by
 unfold wrF
 split
 · exact bputT_le _ _ _
 · exact putT_le _ _ _ _
theorem setF_le (l : List Fld) (k : Nat) (v : Vl) (st : RSt) : (setF l k v st).d.length ≤ st.d.length ∧ (setF l k v st).p.length = st.p.length := by
 unfold setF
 split
 · exact ⟨tgF_le l k st.d, by simp⟩
 · exact ⟨Nat.le_trans (wrF_le _ _ _ _) (tgF_le l k st.d), rfl⟩
theorem fill_len (l : List Fld) (vs : List Vl) (ch : Int) : ∀ k, (fillF l vs ch k).d.length ≤ 8 * (layF l ps0).2.ls.words ∧ (fillF l vs ch k).p.length = (layF l ps0).2.ptrs
 | 0 => by unfold fillF; simp
 | k + 1 => by
   obtain ⟨h1, h2⟩ := fill_len l vs ch k
   unfold fillF
   split
   · obtain ⟨h3, h4⟩ := setF_le l k (vlK vs k) (fillF l vs ch k)
     exact ⟨Nat.le_trans h3 h1, h4.trans h2⟩
   · exact ⟨h1, h2⟩
theorem sizL_set : ∀ (p : List Nd) (s : Nat) (y : Nd), sizL (p.set s y) ≤ sizL p + sizN y
 | [], s, y => by simp
 | a :: t, 0, y => by rw [List.set_cons_zero, sizL, sizL]; omega
 | a :: t, s + 1, y => by rw [List.set_cons_succ, sizL, sizL]; have := sizL_set t s y; omega
def sumV : List Vl → Nat
 | [] => 0
 | v :: t => sizN v.nd + sumV t
theorem sumV_at : ∀ (vs : List Vl) (k : Nat), sizN (vlK vs k).nd ≤ sumV vs
 | [], k => by show sizN noneNd ≤ 0; decide
 | v :: t, 0 => by show sizN v.nd ≤ sizN v.nd + sumV t; omega
 | v :: t, k + 1 => by have := sumV_at t k; show sizN (vlK t k).nd ≤ sizN v.nd + sumV t; omega
theorem sumV_app : ∀ (a b : List Vl), sumV (a ++ b) = sumV a + sumV b
 | [], b => by simp [sumV]
 | v :: t, b => by rw [List.cons_append, sumV, sumV, sumV_app t b]; omega
theorem sumV_take (vs : List Vl) (k : Nat) : sumV (vs.take (k + 1)) = sumV (vs.take k) + (if k < vs.length then sizN (vlK vs k).nd else 0) := by
 by_cases h : k < vs.length
 · rw [if_pos h, List.take_succ_eq_append_getElem h, sumV_app, vlK_at h]
   rfl
 · rw [if_neg h, List.take_of_length_le (by omega), List.take_of_length_le (by omega)]; rfl
theorem sizL_rep (P : Nat) : sizL (List.replicate P noneNd) ≤ P := by
 induction P with
 | zero => simp [sizL]
 | succ P ih => rw [List.replicate_succ, sizL]; have : sizN noneNd ≤ 0 := by decide
                omega
theorem setF_siz (l : List Fld) (k : Nat) (v : Vl) (st : RSt) : sizL (setF l k v st).p ≤ sizL st.p + sizN v.nd := by
 unfold setF
 split
 · exact sizL_set _ _ _
 · exact Nat.le_add_right _ _
theorem fill_siz (l : List Fld) (vs : List Vl) (ch : Int) : ∀ k, k ≤ vs.length → sizL (fillF l vs ch k).p ≤ (layF l ps0).2.ptrs + sumV (vs.take k)
 | 0, _ => by
   have := sizL_rep (layF l ps0).2.ptrs
   show sizL (List.replicate (layF l ps0).2.ptrs noneNd) ≤ _
   omega
 | k + 1, hk => by
   have h1 := fill_siz l vs ch k (by omega)
   have h2 := setF_siz l k (vlK vs k) (fillF l vs ch k)
   have h3 := sumV_take vs k
   rw [if_pos (by omega)] at h3
   have e : fillF l vs ch (k + 1) = if pickB l k ch = true then setF l k (vlK vs k) (fillF l vs ch k) else fillF l vs ch k := rfl
   rw [e]
   generalize fillF l vs ch k = F at *
   generalize sizN (vlK vs k).nd = a at *
   cases pickB l k ch
   · rw [if_neg (by decide)]; omega
   · rw [if_pos rfl]; omega
theorem rec_siz (l : List Fld) (vs : List Vl) (ch : Int) (hl : l.length ≤ 12) (hv : sumV vs ≤ 1900000) (hvl : vs.length = l.length) : sizN (recN (fillF l vs ch l.length)) ≤ 2000000 := by
 have h1 := fill_siz l vs ch l.length (by omega)
 have h2 := (fill_len l vs ch l.length).1
 obtain ⟨h3, h4⟩ := lay_small l
 rw [List.take_of_length_le (by omega)] at h1
 rw [sizN_eq]
 show (⟨(fillF l vs ch l.length).d.toArray⟩ : ByteArray).size + sizL (fillF l vs ch l.length).p + sizL [] ≤ 2000000
 rw [ba_sz, sizL_nil]
 omega
theorem infoVl : (Tryz.prog.info? valT).map (fun i => (i.zero, i.size, i.bytes)) = some (some (.agg #[.int .i64 0, .int .i64 0, .string ByteArray.empty, .slice none 0 0, .int .i64 0, .int .i64 0, .slice none 0 0]), 7, 96) := by kernel_rfl
theorem Flds.picked {w w' : World} {R n : Nat} {x : Addr} {l : List Fld} (h : Flds w (some x) l) (hp : Picked w R n w') (hne : x.block ≠ R) : Flds w' (some x) l := by
 rcases h with h | ⟨y, e, hx, hc⟩
 · exact .inl h
 · injection e with e
   subst e
   refine .inr ⟨x, rfl, Nat.lt_of_lt_of_le hx hp.2.size, fun k f hk => ?_⟩
   obtain ⟨c0, c1, c2⟩ := hc k f hk
   have hb := hp.2.block x.block hx hne
   exact ⟨(World.cell?_of_block (w := w) (w' := w') (a := x.add (k * 3)) (by rw [addr_block]; exact hb)).trans c0,
    (World.cell?_of_block (w := w) (w' := w') (a := ⟨(x.add (k * 3)).block, (x.add (k * 3)).off + 1, none⟩) (by show w'.heap[(x.add (k * 3)).block]? = w.heap[(x.add (k * 3)).block]?; rw [addr_block]; exact hb)).trans c1,
    (World.cell?_of_block (w := w) (w' := w') (a := ⟨(x.add (k * 3)).block, (x.add (k * 3)).off + 2, none⟩) (by show w'.heap[(x.add (k * 3)).block]? = w.heap[(x.add (k * 3)).block]?; rw [addr_block]; exact hb)).trans c2⟩
theorem fld_some {w : World} {B : Nat} {v : Value} {l : List Fld} (h : w.ownsRow B fieldT 3 v l.length (fldCells l)) (hs : SomeS v) : ∃ g cap, v = .slice (some ⟨g, 0, none⟩) l.length cap ∧ B ≤ g ∧ g < w.heap.size ∧ l.length ≤ cap ∧ Flds w (some ⟨g, 0, none⟩) l := by
 obtain ⟨A, cap, hv, hf⟩ := flds_of_own h
 obtain ⟨g, n, c, hv2⟩ := hs
 rcases h.2 with ⟨h0, -⟩ | ⟨g', cap', cur, hv3, hR, hg, hc, -⟩
 · rw [h0] at hv2; cases hv2
 · rw [hv3] at hv2 hv
   injection hv with e1 e2 e3
   subst e3
   exact ⟨g', cap', hv3, hR, row_lt hg, hc, by rw [e1]; exact hf⟩
theorem VRow.sum {w : World} {B M T : Nat} {v : Value} {q : List (Vl × Hd)} (h : VRow w B v q M T) : sumV (q.map (·.1)) ≤ q.length * T := by
 have : ∀ q : List (Vl × Hd), (∀ r ∈ q, sizN r.1.nd ≤ T) → sumV (q.map (·.1)) ≤ q.length * T := by
  intro q
  induction q with
  | nil => intro _; simp [sumV]
  | cons a t ih =>
   intro hq
   have h1 := hq a List.mem_cons_self
   have h2 := ih (fun r hr => hq r (List.mem_cons_of_mem _ hr))
   simp only [List.map_cons, sumV, List.length_cons, Nat.add_mul]
   omega
 exact this q (fun r hr => by rw [← totN_siz (h.2 r hr).1]; exact (h.2 r hr).2.1)
def ValsD (R k N : Nat) (w : World) (e : Ending) (w' : World) : Prop := ∃ (v : Value) (q : List (Vl × Hd)), e = .returned v ∧ q.length = N ∧ VRow w' w.heap.size v q 4 7007 ∧ Picked w R k w'
theorem l13Vals_any (R n : Nat) (x : Addr) (c : Nat) (l : List Fld) (w : World) (h : Rd w R n) (hn : n ≤ 200000) (hfl : Flds w (some x) l) (hx : x.block ≠ R) (hl : l.length ≤ 13) :
 Calls Tryz.prog 43 #[.pointer (some ⟨R, 0, none⟩), .slice (some x) l.length c] w (ValsD R (n + 350 * l.length) l.length w) := by
 have hRw := h.lt
 obtain ⟨i0, hi, hz0, hz1, hz2⟩ := info_parts infoVl
 have HQ0 := Lib.hid (h.self.below ((Below.refl w.heap.size w).alloc (Nat.le_refl _) (.cells #[] valT)))
 have HV0 : Hid (VRow (w.alloc (.cells #[] valT)) w.heap.size (.slice (some ⟨w.heap.size, 0, none⟩) 0 0) [] 4 7007) := Lib.hid ⟨World.ownsRow_lit w #[] 0 (Nat.le_refl _) (by decide) rfl, fun r hr => (by cases hr)⟩
 have HFL := Lib.hid hfl
 have HX := Lib.hid hx
 clear h hfl hx
 unfold ValsD
 go_enter Tryz.func43, Tryz.ntmps43
 go_wp2_with fail
 go_loopw [5, 6] (fun v i wr => ∃ q : List (Vl × Hd), i = .int .i64 (q.length : Int) ∧ q.length ≤ l.length ∧ Hid (VRow wr w.heap.size v q 4 7007) ∧ Hid (Picked w R (n + 350 * q.length) wr)) (fun _ i _ => l.length - (intOf i).toNat)
 case atStart => exact ⟨[], rfl, by simp, HV0, by exact HQ0⟩
 case round =>
  clear HV0 HQ0
  obtain ⟨q, rfl, hq, HV, HP⟩ := hrel
  by_cases hlt : q.length < l.length
  · obtain ⟨x', hx', hxb, hxa⟩ := (HFL.out.picked HP.out HX.out).at2 hlt
    obtain rfl := Option.some.inj hx'
    generalize l[q.length] = f at hxa
    obtain ⟨z, fc, el⟩ := f
    obtain ⟨c0, c1, c2⟩ := hxa
    obtain ⟨A1, cp1, rfl⟩ := own_slice3 HV.out.1
    have hq2 : (q.length : Int) < (l.length : Int) := by omega
    go_wp2_with fail
    refine (l13Val_any R (n + 350 * q.length) z el fc wr HP.out.1 (by omega)).mono ?_
    rintro e w2 ⟨y, yn, hy, rfl, hyr, hyn, hyt, hp2⟩
    clear c0 c1 c2
    have HSW := Lib.hid HP.out.2.size
    have HLT := Lib.hid (fun k hk => (HV.out.1.lt k hk).2)
    have HV1 := Lib.hid (HV.out.picked hp2 hRw)
    have HV2 := Lib.hid (HV1.out.alloc (.cells #[.int .i64 y, .int .i64 yn.kind, .string yn.data, .slice hy.A yn.ptrs.length hy.a, .int .i64 yn.size, .int .i64 yn.count, .slice hy.B yn.items.length hy.b] valT))
    have HP2 := Lib.hid (HP.out.then hp2)
    have HYN := Lib.hid (And.intro (hyn.below ((Below.refl w2.heap.size w2).alloc (Nat.le_refl _) (.cells #[.int .i64 y, .int .i64 yn.kind, .string yn.data, .slice hy.A yn.ptrs.length hy.a, .int .i64 yn.size, .int .i64 yn.count, .slice hy.B yn.items.length hy.b] valT))) (And.intro hyt hyr))
    have hs2 := HP2.out.2.size
    clear hp2 hyn hyt hyr HV HP
    go_wp2_with (at_builtin; go_must (refine wpList_append_own_at _ rfl (.tmp 14) (.tmp 21) 43 rfl w.heap.size valT i0 (.agg #[.int .i64 0, .int .i64 0, .string ByteArray.empty, .slice none 0 0, .int .i64 0, .int .i64 0, .slice none 0 0]) 7 96 Tryz.underlying43 hi hz0 hz1 hz2 rfl (by decide) _ q.length _ rfl HV2.out.1 ⟨w2.heap.size, 0, none⟩ 1 1 (rowW [((⟨y, yn⟩ : Vl), hy)]) rfl rfl (cells_seven_new w2 ((⟨y, yn⟩ : Vl), hy) _) (by simp [rowW, Value.oneCell']) (by unfold maxLen; omega) (by omega) (by simp; omega) ?_); intro v' wn hown' hgrow _ hat)
    have HVN := Lib.hid (HV2.out.next HYN.out.1 HYN.out.2 HSW.out HLT.out hown' hgrow hat)
    have HPN := Lib.hid (picked_growZ HP2.out hRw hs2 (Nat.le_refl _) HV1.out.1 hgrow)
    clear hown' hgrow hat HV1 HV2 HYN
    go_wp2
    go_roundw
    case rel => exact ⟨q ++ [((⟨y, yn⟩ : Vl), hy)], by simp, by simp; omega, HVN, Lib.hid (HPN.out.mono (by simp; omega))⟩
    case measure => simp [intOf]; omega
  · have hql : q.length = l.length := by omega
    rw [hql] at HP
    have HF : Hid (VRow wr w.heap.size _ q 4 7007) := HV
    go_wp2
    go_ret
    exact ⟨_, q, rfl, hql, HF.out, HP.out⟩
end Go.Proofs.YtblcibgphccfkaaGreatDoor
