/- Texts of the proof of the law FnSend, side by side: part 43. -/
import Derived.Test.YtlbfffokkhccaaaGreatDoorMSend42
set_option maxHeartbeats 8000000
set_option maxRecDepth 100000
namespace Go.Proofs.YtlbfffokkhccaaaGreatDoor
open Go.RowKit Go.Deep
theorem ba_back (F : ByteArray) : (⟨F.data.toList.toArray⟩ : ByteArray) = F := by
 cases F; simp
theorem snd_rd {n : Nd} {z : Int} (h : sndB (bldV n z) = true) : nodeOk n = true ∧ ∃ (F : ByteArray) (zs : List ByteArray), F.size ≤ 1600 ∧ unV (sndS (bldV n z)) = .tuple #[.string F, .bool true] ∧ fg F = ((F.size : Int), zs) ∧ (∀ s ∈ zs, s.size ≤ maxLen) ∧ frOk zs = true ∧ RepN (sgz zs) 8 n 0 0 ∧ ∃ (F' : ByteArray) (ok : Bool), unV (sndS (bldV n z) ++ { data := #[1, 5] }) = .tuple #[.string F', .bool ok] ∧ F'.size ≤ 1600 ∧ (ok = false ∨ (fg F').1 ≠ (F'.size : Int)) := by
 obtain ⟨s1, f8, f16, hS, _⟩ := snd_facts h
 have hTX := txR_facts n z
 have hwB : wordsB (sndF (bldV n z)).size = true := by unfold sndB at h; rw [Bool.and_eq_true] at h; exact h.2
 obtain ⟨ss, hss⟩ := Option.isSome_iff_exists.1 s1
 have hcond : nodeOk n = true ∧ 1 ≤ z ∧ z ≤ 200 := by
  unfold bldV at hss
  by_cases e : nodeOk n = true ∧ 1 ≤ z ∧ z ≤ 200
  · exact e
  · rw [if_neg e] at hss; cases hss
 have hbp : buildP 200 z.toNat n = some ss := by
  unfold bldV at hss
  rwa [if_pos hcond] at hss
 obtain ⟨ok8, _⟩ := node_ok hcond.1
 have hso : SOk 200 ss := (wr_some 200 z.toNat 8 n [zer 1] 0 0 ss ok8 (SOKL 200 (by decide)) (by decide) (by decide) hbp).1
 have htx : txR (bldV n z) = txS ss := by rw [hss]; rfl
 have hfr : frOk (txS ss) = true := by
  rw [frOk_txS ⟨hso.wds, hso.one, hso.six, Nat.le_trans hso.totS (by decide)⟩]
  exact decide_eq_true hso.totS
 rw [hS]
 obtain ⟨F, hF⟩ : ∃ F, sndF (bldV n z) = F := ⟨_, rfl⟩
 rw [hF] at f16 f8 hwB ⊢
 have hFd : F.data.toList = frameL (txS ss) := by rw [← hF]; unfold sndF; rw [htx]
 have hFl : F.data.toList.length = F.size := rfl
 have hpk : (pkS F).data.toList = packB F.data.toList := by unfold pkS; simp
 have hun : unW (pkS F).data.toList = some F.data.toList := by rw [hpk]; exact packB_un (by rw [hFl]; exact hwB)
 refine ⟨hcond.1, F, txS ss, f16, ?_, ?_, fun s hs => hTX.1 s (by rw [htx]; exact hs), hfr, ?_, ?_⟩
 · rw [unV_of hun (by rw [hFl]; exact f16), ba_back]
 · rw [fg_frame hfr F [] (by rw [hFd, List.append_nil]), ← hFd, hFl]
 · have := build_rep (L := 200) (by decide) ok8 hbp
   have e : sgz (txS ss) = ss := by unfold sgz txS; rw [List.map_map]; exact (List.map_congr_left (g := id) (fun a _ => rfl)).trans (List.map_id ss)
   rw [e]
   exact this
 · have hap : (pkS F ++ { data := #[1, 5] }).data.toList = (pkS F).data.toList ++ [1, 5] := by simp
   have hun2 : unW (pkS F ++ { data := #[1, 5] }).data.toList = some (F.data.toList ++ [5, 0, 0, 0, 0, 0, 0, 0]) := by
    rw [hap, unW_app [1, 5] hun, show unW [1, 5] = some [5, 0, 0, 0, 0, 0, 0, 0] by decide]
    rfl
   have hb : ∀ x : List UInt8, (⟨x.toArray⟩ : ByteArray).size = x.length := fun x => by simp [ByteArray.size]
   by_cases hl : F.size + 8 ≤ 1600
   · refine ⟨⟨(F.data.toList ++ [5, 0, 0, 0, 0, 0, 0, 0]).toArray⟩, true, unV_of hun2 (by rw [List.length_append, hFl]; exact hl), ?_, .inr ?_⟩
     · rw [hb, List.length_append, hFl]; exact hl
     · have e1 := hb (F.data.toList ++ [5, 0, 0, 0, 0, 0, 0, 0])
       rw [List.length_append, hFl] at e1
       rw [fg_frame hfr _ [5, 0, 0, 0, 0, 0, 0, 0] (by simp [hFd]), ← hFd, e1]
       show (F.size : Int) ≠ ((F.size + 8 : Nat) : Int)
       omega
   · refine ⟨⟨#[]⟩, false, ?_, by decide, .inl rfl⟩
     unfold unV
     rw [hun2]
     have : fitU [] (some (F.data.toList ++ [5, 0, 0, 0, 0, 0, 0, 0])) = none := by
      show (if ([] : List UInt8).length + (F.data.toList ++ [5, 0, 0, 0, 0, 0, 0, 0]).length ≤ 1600 then _ else none) = none
      rw [if_neg (by rw [List.length_append, hFl]; show ¬ 0 + (F.size + 8) ≤ 1600; omega)]
     rw [this]
end Go.Proofs.YtlbfffokkhccaaaGreatDoor
namespace Go.Proofs.YtlbfffokkhccaaaGreatDoor
open Go.RowKit
theorem nd_eq (n n' : Nd) : n = n' ↔ n.kind = n'.kind ∧ n.data = n'.data ∧ n.size = n'.size ∧ n.count = n'.count ∧ n.ptrs = n'.ptrs ∧ n.items = n'.items := by
 cases n
 cases n'
 simp only [Nd.mk.injEq, Nd.kind, Nd.data, Nd.size, Nd.count, Nd.ptrs, Nd.items]
 exact ⟨fun h => ⟨h.1, h.2.1, h.2.2.2.1, h.2.2.2.2.1, h.2.2.1, h.2.2.2.2.2⟩, fun h => ⟨h.1, h.2.1, h.2.2.2.2.1, h.2.2.1, h.2.2.2.1, h.2.2.2.2.2⟩⟩
theorem bool_no {b : Bool} {p : Prop} (h : b = true ↔ p) (hp : ¬ p) : b = false := by cases b; rfl; exact absurd (h.1 rfl) hp
theorem iff_true_of {p : Prop} (hp : p) : (true = true ↔ p) := ⟨fun _ => hp, fun _ => rfl⟩
theorem iff_false_of {p : Prop} (hp : ¬ p) : (false = true ↔ p) := ⟨fun h => (by cases h), fun h => absurd h hp⟩
def QnS (m : Nat) : Prop := ∀ (m' : Nat) (A B : Option Addr) (c c' : Nat) (l l' : List Nd) (w : World) (S S' : Nat → Prop) (b : Bool), NdsAt w S m A l → NdsAt w S' m' B l' → (b = true ↔ l = l') →
 Calls Tryz.prog 47 #[.slice A l.length c, .slice B l'.length c'] w fun e w' => e = .returned (.bool b) ∧ Below w.heap.size w w'
def QnN (m : Nat) : Prop := ∀ (m' : Nat) (n n' : Nd) (h h' : Hd) (w : World) (S S' : Nat → Prop) (b : Bool), NdAt w S m n h → NdAt w S' m' n' h' → (b = true ↔ n = n') →
 Calls Tryz.prog 16 #[.agg #[.int .i64 n.kind, .string n.data, .slice h.A n.ptrs.length h.a, .int .i64 n.size, .int .i64 n.count, .slice h.B n.items.length h.b], .agg #[.int .i64 n'.kind, .string n'.data, .slice h'.A n'.ptrs.length h'.a, .int .i64 n'.size, .int .i64 n'.count, .slice h'.B n'.items.length h'.b]] w fun e w' => e = .returned (.bool b) ∧ Below w.heap.size w w'
theorem qnN_of (m : Nat) (hS : QnS m) : QnN m := by
 intro m' n n' h h' w S S' b hn hn' hb
 have HS := Lib.hid hS
 have hba : Below w.heap.size w ((w.alloc (.cells #[.int .i64 n.kind, .string n.data, .slice h.A n.ptrs.length h.a, .int .i64 n.size, .int .i64 n.count, .slice h.B n.items.length h.b] nodeT)).alloc (.cells #[.int .i64 n'.kind, .string n'.data, .slice h'.A n'.ptrs.length h'.a, .int .i64 n'.size, .int .i64 n'.count, .slice h'.B n'.items.length h'.b] nodeT)) := ((Below.refl _ _).alloc (Nat.le_refl _) _).alloc (by simp) _
 have k1 : ((w.alloc (.cells #[.int .i64 n.kind, .string n.data, .slice h.A n.ptrs.length h.a, .int .i64 n.size, .int .i64 n.count, .slice h.B n.items.length h.b] nodeT)).alloc (.cells #[.int .i64 n'.kind, .string n'.data, .slice h'.A n'.ptrs.length h'.a, .int .i64 n'.size, .int .i64 n'.count, .slice h'.B n'.items.length h'.b] nodeT)).heap[w.heap.size]? = some (.cells #[.int .i64 n.kind, .string n.data, .slice h.A n.ptrs.length h.a, .int .i64 n.size, .int .i64 n.count, .slice h.B n.items.length h.b] nodeT (0, 0)) := (Below.heap_alloc _ _ _ (by simp)).trans (heap_alloc_new w _)
 have k2 : ((w.alloc (.cells #[.int .i64 n.kind, .string n.data, .slice h.A n.ptrs.length h.a, .int .i64 n.size, .int .i64 n.count, .slice h.B n.items.length h.b] nodeT)).alloc (.cells #[.int .i64 n'.kind, .string n'.data, .slice h'.A n'.ptrs.length h'.a, .int .i64 n'.size, .int .i64 n'.count, .slice h'.B n'.items.length h'.b] nodeT)).heap[w.heap.size + 1]? = some (.cells #[.int .i64 n'.kind, .string n'.data, .slice h'.A n'.ptrs.length h'.a, .int .i64 n'.size, .int .i64 n'.count, .slice h'.B n'.items.length h'.b] nodeT (0, 0)) := by have := heap_alloc_new (w.alloc (.cells #[.int .i64 n.kind, .string n.data, .slice h.A n.ptrs.length h.a, .int .i64 n.size, .int .i64 n.count, .slice h.B n.items.length h.b] nodeT)) (.cells #[.int .i64 n'.kind, .string n'.data, .slice h'.A n'.ptrs.length h'.a, .int .i64 n'.size, .int .i64 n'.count, .slice h'.B n'.items.length h'.b] nodeT); rwa [show (w.alloc (.cells #[.int .i64 n.kind, .string n.data, .slice h.A n.ptrs.length h.a, .int .i64 n.size, .int .i64 n.count, .slice h.B n.items.length h.b] nodeT)).heap.size = w.heap.size + 1 by simp] at this
 have HN := Lib.hid (hn.below hba)
 have HN' := Lib.hid (hn'.below hba)
 have hts : ((w.alloc (.cells #[.int .i64 n.kind, .string n.data, .slice h.A n.ptrs.length h.a, .int .i64 n.size, .int .i64 n.count, .slice h.B n.items.length h.b] nodeT)).alloc (.cells #[.int .i64 n'.kind, .string n'.data, .slice h'.A n'.ptrs.length h'.a, .int .i64 n'.size, .int .i64 n'.count, .slice h'.B n'.items.length h'.b] nodeT)).heap.size = w.heap.size + 2 := by simp
 have HBA := Lib.hid hba
 have HK1 := Lib.hid k1
 have HK2 := Lib.hid k2
 have HTS := Lib.hid hts
 have HQ := Lib.hid (hb.trans (nd_eq n n'))
 clear hS hn hn' hba k1 k2 hts hb
 by_cases hx : n.kind = n'.kind
 case neg =>
  have hxb : (n.kind == n'.kind) = false := by simpa using hx
  obtain rfl : b = false := by
   cases b
   · rfl
   · exact absurd (HQ.out.1 rfl).1 hx
  clear hx
  go_enter Tryz.func16, Tryz.ntmps16
  go_wp2
  go_ret
  exact ⟨rfl, HBA.out⟩
 have h1b : (n.kind == n'.kind) = true := by simpa using hx
 have H1 := Lib.hid hx
 clear hx
 by_cases hx : n.data = n'.data
 case neg =>
  have hxb : (n.data.toList == n'.data.toList) = false := by rw [toList_eq]; exact decide_eq_false hx
  obtain rfl : b = false := by
   cases b
   · rfl
   · exact absurd (HQ.out.1 rfl).2.1 hx
  clear hx
  go_enter Tryz.func16, Tryz.ntmps16
  go_wp2
  go_ret
  exact ⟨rfl, HBA.out⟩
 have h2b : (n.data.toList == n'.data.toList) = true := by rw [toList_eq]; exact decide_eq_true hx
 have H2 := Lib.hid hx
 clear hx
 by_cases hx : n.size = n'.size
 case neg =>
  have hxb : (n.size == n'.size) = false := by simpa using hx
  obtain rfl : b = false := by
   cases b
   · rfl
   · exact absurd (HQ.out.1 rfl).2.2.1 hx
  clear hx
  go_enter Tryz.func16, Tryz.ntmps16
  go_wp2
  go_ret
  exact ⟨rfl, HBA.out⟩
 have h3b : (n.size == n'.size) = true := by simpa using hx
 have H3 := Lib.hid hx
 clear hx
 by_cases hx : n.count = n'.count
 case neg =>
  have hxb : (n.count == n'.count) = false := by simpa using hx
  obtain rfl : b = false := by
   cases b
   · rfl
   · exact absurd (HQ.out.1 rfl).2.2.2.1 hx
  clear hx
  go_enter Tryz.func16, Tryz.ntmps16
  go_wp2
  go_ret
  exact ⟨rfl, HBA.out⟩
 have h4b : (n.count == n'.count) = true := by simpa using hx
 have H4 := Lib.hid hx
 clear hx
 by_cases hx : n.ptrs = n'.ptrs
 case neg =>
  obtain rfl : b = false := by
   cases b
   · rfl
   · exact absurd (HQ.out.1 rfl).2.2.2.2.1 hx
  have HC := Lib.hid (HS.out m' h.A h'.A h.a h'.a n.ptrs n'.ptrs _ S S' false HN.out.2.1 HN'.out.2.1 (iff_false_of hx))
  clear hx
  go_enter Tryz.func16, Tryz.ntmps16
  go_wp2_with fail
  refine HC.out.mono ?_
  rintro e w1 ⟨rfl, hb1⟩
  have HB1 := Lib.hid (HBA.out.trans (hb1.mono HBA.out.size))
  clear hb1
  go_wp2
  go_ret
  exact ⟨rfl, HB1.out⟩
 have H5 := Lib.hid hx
 have HC := Lib.hid (HS.out m' h.A h'.A h.a h'.a n.ptrs n'.ptrs _ S S' true HN.out.2.1 HN'.out.2.1 (iff_true_of hx))
 have H6 : Hid (b = true ↔ n.items = n'.items) := Lib.hid ⟨fun h => (HQ.out.1 h).2.2.2.2.2, fun h => HQ.out.2 ⟨H1.out, H2.out, H3.out, H4.out, H5.out, h⟩⟩
 clear hx
 go_enter Tryz.func16, Tryz.ntmps16
 go_wp2_with fail
 generalize ((w.alloc (.cells #[.int .i64 n.kind, .string n.data, .slice h.A n.ptrs.length h.a, .int .i64 n.size, .int .i64 n.count, .slice h.B n.items.length h.b] nodeT)).alloc (.cells #[.int .i64 n'.kind, .string n'.data, .slice h'.A n'.ptrs.length h'.a, .int .i64 n'.size, .int .i64 n'.count, .slice h'.B n'.items.length h'.b] nodeT)) = W at *
 refine HC.out.mono ?_
 rintro e w1 ⟨rfl, hb1⟩
 have HB1 := Lib.hid hb1
 obtain ⟨a0, a1, a2, a3, a4, a5⟩ := cells6 ((hb1.block _ (by have := HTS.out; omega)).trans HK1.out)
 obtain ⟨b0, b1, b2, b3, b4, b5⟩ := cells6 ((hb1.block _ (by have := HTS.out; omega)).trans HK2.out)
 clear hb1
 go_wp2_with fail
 refine (HS.out m' h.B h'.B h.b h'.b n.items n'.items w1 S S' b (HN.out.below HB1.out).2.2 (HN'.out.below HB1.out).2.2 H6.out).mono ?_
 rintro e w2 ⟨rfl, hb2⟩
 have HB2 := Lib.hid (HBA.out.trans ((HB1.out.trans (hb2.mono HB1.out.size)).mono (by have := HTS.out; omega)))
 clear hb2
 go_wp2
 go_ret
 exact ⟨rfl, HB2.out⟩
theorem qnS_zero : QnS 0 := by
 intro m' A B c c' l l' w S S' b hl hl' hb
 obtain rfl := hl.zero
 have hlen := hl'.len
 unfold maxLen at hlen
 by_cases h0 : l'.length = 0
 · obtain rfl : b = true := hb.2 (List.eq_nil_of_length_eq_zero h0).symm
   rw [h0]
   clear hb hl hl' h0 hlen
   go_enter Tryz.func47, Tryz.ntmps47
   go_wp2
   go_loop [5] (fun i => i = .int .i64 0) (fun _ => 0)
   case atStart => rfl
   case round =>
    obtain rfl := hrel
    go_wp2
    go_ret
    exact ⟨rfl, Below.refl _ _⟩
 · obtain rfl : b = false := bool_no hb (fun e => h0 (by rw [← e]; rfl))
   have hxb : ((([] : List Nd).length : Int) != (l'.length : Int)) = true := by simp; omega
   clear hb hl hl'
   go_enter Tryz.func47, Tryz.ntmps47
   go_wp2
   go_ret
   exact ⟨rfl, Below.refl _ _⟩
theorem qnS_succ (m : Nat) (hN : QnN m) : QnS (m + 1) := by
 intro m' A B c c' l l' w S S' b h h' hb
 have hlm := h.len
 have hlm' := h'.len
 unfold maxLen at hlm hlm'
 by_cases hll : l'.length = l.length
 case neg =>
  obtain rfl : b = false := bool_no hb (fun e => hll (by rw [e]))
  have hxb : ((l.length : Int) != (l'.length : Int)) = true := by simp; omega
  clear hb h h' hN
  go_enter Tryz.func47, Tryz.ntmps47
  go_wp2
  go_ret
  exact ⟨rfl, Below.refl _ _⟩
 have HF := Lib.hid h
 have HG := Lib.hid (h'.mono (Nat.le_succ m'))
 have HN := Lib.hid hN
 have HQ := Lib.hid hb
 rw [hll]
 have HLL := Lib.hid hll
 clear h h' hN hb hll hlm'
 go_enter Tryz.func47, Tryz.ntmps47
 go_wp2
 go_loopw [5] (fun i wr => ∃ k : Nat, i = .int .i64 k ∧ k ≤ l.length ∧ Hid (Below w.heap.size w wr) ∧ Hid (∀ j, j < k → l[j]? = l'[j]?)) (fun i _ => l.length - (intOf i).toNat)
 case atStart => exact ⟨0, rfl, by omega, Lib.hid (Below.refl _ _), Lib.hid (fun j hj => by omega)⟩
 case round =>
  obtain ⟨k, rfl, hk, HB, HE⟩ := hrel
  by_cases hlt : k < l.length
  · have hlt' : k < l'.length := by have := HLL.out; omega
    obtain ⟨x, hx, rfl, cx, nx⟩ := (HF.out.below HB.out).at_ hlt
    obtain ⟨y, hy, rfl, cy, ny⟩ := (HG.out.below HB.out).at_ hlt'
    have HEQ : Hid (l[k] = l'[k] → l[k]? = l'[k]?) := Lib.hid (fun e => by rw [List.getElem?_eq_getElem hlt, List.getElem?_eq_getElem hlt', e])
    have HNE : Hid (l[k] ≠ l'[k] → l ≠ l') := Lib.hid (fun e hl => e (by subst hl; rfl))
    generalize l[k] = n at cx nx HEQ HNE
    generalize l'[k] = n' at cy ny HEQ HNE
    have hd1 : Below wr.heap.size wr wr.drew := ⟨rfl, rfl, rfl, Nat.le_refl _, fun _ _ => rfl⟩
    have hx1 := cx.lt
    have hx2 := cy.lt
    obtain ⟨c0, c1, c2, c3, c4, c5⟩ := cx
    obtain ⟨d0, d1, d2, d3, d4, d5⟩ := cy
    have hk2 : (k : Int) < (l.length : Int) := by omega
    have hs := HB.out.size
    by_cases hnn : n = n'
    · have HP := Lib.hid (HN.out m' n n' hx hy wr.drew S S' true (nx.below hd1) (ny.below hd1) (iff_true_of hnn))
      have HP0 := Lib.hid (HN.out m' n n' hx hy wr S S' true nx ny (iff_true_of hnn))
      have HE1 := Lib.hid (HEQ.out hnn)
      clear nx ny hnn HEQ HNE
      go_wp2
      go_region_with (go_at_call 16; refine HP.out.mono ?_; rintro e w2 ⟨rfl, hb2⟩)
      all_goals
       have HB2 := Lib.hid (HB.out.trans ((show Below w.heap.size wr wr.drew from ⟨rfl, rfl, rfl, Nat.le_refl _, fun _ _ => rfl⟩).trans (hb2.mono (by simpa using hs))))
       clear hb2
       go_wp2
       go_roundw
       case rel =>
        refine ⟨k + 1, by go_num, by omega, HB2, Lib.hid fun j hj => ?_⟩
        rcases Nat.lt_or_ge j k with hl | hge
        · exact HE.out j hl
        · obtain rfl : j = k := by omega
          exact HE1.out
       case measure => simp [intOf]; omega
    · have HP := Lib.hid (HN.out m' n n' hx hy wr.drew S S' false (nx.below hd1) (ny.below hd1) (iff_false_of hnn))
      obtain rfl : b = false := bool_no HQ.out (HNE.out hnn)
      clear nx ny hnn HEQ HNE
      go_wp2
      go_region_with (go_at_call 16; refine HP.out.mono ?_; rintro e w2 ⟨rfl, hb2⟩)
      all_goals
       have HB2 := Lib.hid (HB.out.trans ((show Below w.heap.size wr wr.drew from ⟨rfl, rfl, rfl, Nat.le_refl _, fun _ _ => rfl⟩).trans (hb2.mono (by simpa using hs))))
       clear hb2
       go_wp2
       go_ret
       exact ⟨rfl, HB2.out⟩
  · obtain rfl : k = l.length := by omega
    obtain rfl : b = true := HQ.out.2 (List.ext_getElem? fun j => by
     rcases Nat.lt_or_ge j l.length with hl | hge
     · exact HE.out j hl
     · rw [List.getElem?_eq_none hge, List.getElem?_eq_none (by have := HLL.out; omega)])
    go_wp2
    go_ret
    exact ⟨rfl, HB.out⟩
theorem qnS_any : ∀ m, QnS m
 | 0 => qnS_zero
 | m + 1 => qnS_succ m (qnN_of m (qnS_any m))
theorem qnN_any (m : Nat) : QnN m := qnN_of m (qnS_any m)
open Go.RowKit Go.Deep
theorem walkSend (w : World) (a : Option Addr) (len cap : Nat) (h : Arg w a len cap) :
 Calls Tryz.prog 5 #[.slice a len cap] w fun e w' => e = .returned (.bool true) ∧ Below w.heap.size w w' := by
 have hlen := h.1.1
 unfold maxLen at hlen
 by_cases hbig : 1048576 < len
 · go_enter Tryz.func5, Tryz.ntmps5
   go_wp2
   go_ret
   exact ⟨rfl, Below.refl _ _⟩
 have HD := Lib.hid (drawSend_any a len cap w h)
 clear h
 go_enter Tryz.func5, Tryz.ntmps5
 go_wp2_with fail
 refine HD.out.mono ?_
 rintro e w1 ⟨n, h1, z, rfl, ⟨z0, z1⟩, hn1, ht1, hb1⟩
 have hb2 := (Below.refl w1.heap.size w1).alloc (Nat.le_refl _) (.cells #[.int .i64 n.kind, .string n.data, .slice h1.A n.ptrs.length h1.a, .int .i64 n.size, .int .i64 n.count, .slice h1.B n.items.length h1.b] nodeT)
 have HR2 := Lib.hid (heap_alloc_new w1 (.cells #[.int .i64 n.kind, .string n.data, .slice h1.A n.ptrs.length h1.a, .int .i64 n.size, .int .i64 n.count, .slice h1.B n.items.length h1.b] nodeT))
 have HB2 := Lib.hid (hb1.trans (hb2.mono hb1.size))
 have HN2 := Lib.hid ((hn1.weak (S' := Any) (fun _ _ => trivial)).below hb2)
 have HT : Hid (totN 18 n ≤ 2000000) := Lib.hid (by omega)
 clear hb1 hn1 ht1 hb2 HD
 have HLT := Lib.hid (show w1.heap.size < (w1.alloc (.cells #[.int .i64 n.kind, .string n.data, .slice h1.A n.ptrs.length h1.a, .int .i64 n.size, .int .i64 n.count, .slice h1.B n.items.length h1.b] nodeT)).heap.size by simp)
 obtain ⟨a0, a1, a2, a3, a4, a5⟩ := cells6 HR2.out
 go_wp2_with fail
 generalize w1.alloc (.cells #[.int .i64 n.kind, .string n.data, .slice h1.A n.ptrs.length h1.a, .int .i64 n.size, .int .i64 n.count, .slice h1.B n.items.length h1.b] nodeT) = W2 at *
 have HTX := Lib.hid (txR_facts n z)
 have HI := Lib.hid (fun (W : World) (hW : Below W2.heap.size W2 W) => implSend_a 18 n h1 W Any z HTX.out.1 HTX.out.2.1 (HN2.out.below hW) HT.out)
 have HS := Lib.hid (fun (W : World) (hW : Below W2.heap.size W2 W) => specSend_a 18 n h1 W Any z HTX.out.1 HTX.out.2.2 HTX.out.2.1 (HN2.out.below hW) HT.out)
 have HC : Hid (∀ W : World, Below W2.heap.size W2 W → Calls Tryz.prog 12 #[.agg #[.int .i64 n.kind, .string n.data, .slice h1.A n.ptrs.length h1.a, .int .i64 n.size, .int .i64 n.count, .slice h1.B n.items.length h1.b]] W fun e w' => e = .returned (.int .i64 (nodeCost n : Nat)) ∧ Below W.heap.size W w') := Lib.hid fun W hW => implReadCost_a 18 n h1 W Any (HN2.out.below hW) HT.out
 have HPU : Hid (sndB (bldV n z) = true → _) := Lib.hid (fun h => snd_rd (n := n) (z := z) h)
 have HNC : Hid (nodeOk n = true → nodeCost n = costN 8 n) := Lib.hid fun h => by unfold nodeCost; rw [if_pos h]
 generalize nodeCost n = nc at *
 clear HTX z0 z1
 cases hb : sndB (bldV n z) with
 | false =>
  rw [hb] at HI HS
  clear HPU HC HNC hb
  generalize sndS (bldV n z) = SB at *
  refine (HI.out _ (Below.refl _ _)).mono ?_
  rintro e w3 ⟨rfl, hb3⟩
  have HX3 := Lib.hid hb3
  clear hb3 a0 a1 a2 a3 a4 a5
  obtain ⟨a0, a1, a2, a3, a4, a5⟩ := cells6 ((HX3.out.block _ HLT.out).trans HR2.out)
  go_wp2_with fail
  refine (HS.out _ HX3.out).mono ?_
  rintro e w4 ⟨rfl, hb4⟩
  have HX4 := Lib.hid (HB2.out.trans ((HX3.out.trans (hb4.mono HX3.out.size)).mono HB2.out.size))
  clear hb4 a0 a1 a2 a3 a4 a5
  go_wp2
  go_ret
  exact ⟨rfl, HX4.out⟩
 | true =>
  obtain ⟨hok, F, zs, f1, f2, f3, f4, f5, f6, F', ok, g1, g2, g3⟩ := HPU.out hb
  rw [hb] at HI HS
  have hnc := HNC.out hok
  have HTY : Hid (nc ≤ 1000 → ∀ W : World, Calls Tryz.prog 24 #[.string (sndS (bldV n z)), .int .i64 1000] W (ReadQ n W)) := Lib.hid fun hle W => take_yes _ F zs n W f2 f1 f3 f4 (fun A c V hV => implRead_a A c zs 1000 V n hV f5 (by decide) (by decide) (node_ok hok).1 (node_ok hok).2 f6 (by omega))
  have HTN := Lib.hid (fun W : World => take_no (sndS (bldV n z) ++ { data := #[1, 5] }) F' ok W g1 g2 g3)
  have hsz : ¬ 9223372036854775807 < (sndS (bldV n z)).size + 2 := by
   obtain ⟨_, _, _, q1, q2⟩ := snd_facts hb
   rw [q1]
   omega
  generalize sndS (bldV n z) = SB at *
  clear hok f1 f2 f3 f4 f5 f6 g1 g2 g3 hnc HPU HNC hb
  refine (HI.out _ (Below.refl _ _)).mono ?_
  rintro e w3 ⟨rfl, hb3⟩
  have HX3 := Lib.hid hb3
  clear hb3 a0 a1 a2 a3 a4 a5
  obtain ⟨a0, a1, a2, a3, a4, a5⟩ := cells6 ((HX3.out.block _ HLT.out).trans HR2.out)
  go_wp2_with fail
  refine (HS.out _ HX3.out).mono ?_
  rintro e w4 ⟨rfl, hb4⟩
  have HX4 := Lib.hid (HX3.out.trans (hb4.mono HX3.out.size))
  clear hb4 a0 a1 a2 a3 a4 a5
  obtain ⟨a0, a1, a2, a3, a4, a5⟩ := cells6 ((HX4.out.block _ HLT.out).trans HR2.out)
  go_wp2_with fail
  refine (HC.out _ HX4.out).mono ?_
  rintro e w5 ⟨rfl, hb5⟩
  have HX5 := Lib.hid (HX4.out.trans (hb5.mono HX4.out.size))
  clear hb5 a0 a1 a2 a3 a4 a5
  by_cases hle : nc ≤ 1000
  · have hgt : ¬ (nc : Int) > 1000 := by omega
    obtain ⟨a0, a1, a2, a3, a4, a5⟩ := cells6 ((HX5.out.block _ HLT.out).trans HR2.out)
    have HT5 := Lib.hid (HTY.out hle w5)
    unfold ReadQ at HT5
    go_wp2_with fail
    refine HT5.out.mono ?_
    rintro e w6 ⟨hy, rfl, hny, hb6⟩
    have hX6 := HX5.out.trans (hb6.mono HX5.out.size)
    have hyx := (Below.refl w6.heap.size w6).alloc (Nat.le_refl _) (.cells #[.int .i64 n.kind, .string n.data, .slice hy.A n.ptrs.length hy.a, .int .i64 n.size, .int .i64 n.count, .slice hy.B n.items.length hy.b] nodeT)
    have y6 := heap_alloc_new w6 (.cells #[.int .i64 n.kind, .string n.data, .slice hy.A n.ptrs.length hy.a, .int .i64 n.size, .int .i64 n.count, .slice hy.B n.items.length hy.b] nodeT)
    have HX6 := Lib.hid (hX6.trans (hyx.mono hX6.size))
    have HNY := Lib.hid (hny.below hyx)
    have Y6 := Lib.hid y6
    clear hb6 hX6 hyx y6 hny HT5 a0 a1 a2 a3 a4 a5
    go_wp2_with fail
    generalize w6.alloc (.cells #[.int .i64 n.kind, .string n.data, .slice hy.A n.ptrs.length hy.a, .int .i64 n.size, .int .i64 n.count, .slice hy.B n.items.length hy.b] nodeT) = W6 at *
    generalize w6.heap.size = yb at *
    refine (HTN.out _).mono ?_
    rintro e w7 ⟨rfl, hb7⟩
    have hba := hb7.alloc hb7.size (.cells #[.int .i64 0, .string { data := #[] }, .slice none 0 0, .int .i64 0, .int .i64 0, .slice none 0 0] nodeT)
    have HX7 := Lib.hid (HX6.out.trans (hba.mono HX6.out.size))
    have HNY7 := Lib.hid (HNY.out.below hba)
    obtain ⟨b0, b1, b2, b3, b4, b5⟩ := cells6 ((hba.block _ (row_lt Y6.out)).trans Y6.out)
    obtain ⟨a0, a1, a2, a3, a4, a5⟩ := cells6 ((HX7.out.block _ HLT.out).trans HR2.out)
    clear hb7 hba
    have HQ := Lib.hid (qnN_any 16 18 n n hy h1 _ _ _ true HNY7.out (HN2.out.below HX7.out) (iff_true_of rfl))
    go_wp2_with fail
    refine HQ.out.mono ?_
    rintro e w8 ⟨rfl, hb8⟩
    have HX9 := Lib.hid (HB2.out.trans ((HX7.out.trans (hb8.mono HX7.out.size)).mono HB2.out.size))
    clear a0 a1 a2 a3 a4 a5 b0 b1 b2 b3 b4 b5 hb8 HQ
    go_wp2
    go_ret
    exact ⟨rfl, HX9.out⟩
  · have hgt : (nc : Int) > 1000 := by omega
    have HX9 := Lib.hid (HB2.out.trans (HX5.out.mono HB2.out.size))
    go_wp2
    go_ret
    exact ⟨rfl, HX9.out⟩
end Go.Proofs.YtlbfffokkhccaaaGreatDoor
