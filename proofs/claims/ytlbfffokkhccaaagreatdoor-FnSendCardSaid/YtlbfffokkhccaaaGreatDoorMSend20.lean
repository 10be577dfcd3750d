/- Texts of the proof of the law FnSend, side by side: part 20. -/
import Derived.Deep.LoopGhost
import Derived.Test.YtlbfffokkhccaaaGreatDoorMSend19
set_option maxHeartbeats 8000000
set_option maxRecDepth 100000
namespace Go.Proofs.YtlbfffokkhccaaaGreatDoor
open Go.RowKit
theorem mk_sz (l : List UInt8) : (⟨l.toArray⟩ : ByteArray).size = l.length := by simp [ByteArray.size]
def fitU (out : List UInt8) : Option (List UInt8) → Option (List UInt8)
 | none => none
 | some o => if out.length + o.length ≤ 1600 then some (out ++ o) else none
theorem fit_app (out x : List UInt8) (o : Option (List UInt8)) : fitU out (o.map (x ++ ·)) = fitU (out ++ x) o := by
 cases o with
 | none => rfl
 | some o => simp [fitU, Nat.add_assoc]
theorem fit_big {out : List UInt8} (h : 1600 < out.length) (o : Option (List UInt8)) : fitU out o = none := by
 cases o with
 | none => rfl
 | some o => rw [fitU, if_neg (by omega)]
theorem fit_end {out : List UInt8} (h : out.length ≤ 1600) : fitU out (unW []) = some out := by
 rw [unW_nil, fitU, if_pos (by simpa using h), List.append_nil]
def nouR (out l : List UInt8) : Option (List UInt8) := if l.length = 0 then none else fitU (out ++ List.replicate (8 * (l.headD 0).toNat) 0) (unW l.tail)
def plaR (out l : List UInt8) : Option (List UInt8) := if l.length < 1 + 8 * (l.headD 0).toNat then none else fitU (out ++ (l.drop 1).take (8 * (l.headD 0).toNat)) (unW ((l.drop 1).drop (8 * (l.headD 0).toNat)))
theorem tag_few {out : List UInt8} (t : UInt8) (r : List UInt8) (h : r.length < popN 8 t.toNat) : fitU out (unW (t :: r)) = none := by
 rw [unW_bad (by simp) (by rw [stepU, if_pos h])]; rfl
theorem tag_nou {out : List UInt8} (r : List UInt8) : fitU out (unW (0 :: r)) = nouR (out ++ spreadN 8 0 []) r := by
 have e0 : popN 8 (0 : UInt8).toNat = 0 := by decide
 have es : spreadN 8 0 [] = List.replicate 8 0 := by decide
 rw [nouR]
 by_cases h : r.length = 0
 · rw [if_pos h, unW_bad (by simp) (by rw [stepU, e0, if_neg (by omega), if_pos rfl, if_pos h])]; rfl
 · rw [if_neg h, unW_step (show stepU (0 :: r) = some _ by rw [stepU, e0, if_neg (by omega), if_pos rfl, if_neg h]), fit_app, es, List.append_assoc, List.replicate_append_replicate]
   congr 3; omega
theorem spread_255 : ∀ x : List UInt8, x.length = 8 → spreadN 8 255 x = x
 | [a, b, c, d, e, f, g, i], _ => by simp [spreadN]
theorem tag_pla {out : List UInt8} (r : List UInt8) (h8 : 8 ≤ r.length) : fitU out (unW (255 :: r)) = plaR (out ++ spreadN 8 255 (r.take 8)) (r.drop 8) := by
 have e0 : popN 8 (255 : UInt8).toNat = 8 := by decide
 rw [spread_255 _ (by simp; omega), plaR, List.length_drop]
 generalize hc : ((r.drop 8).headD 0).toNat = c
 by_cases h : r.length < 9 + 8 * c
 · rw [if_pos (by omega), unW_bad (by simp) (by rw [stepU, e0, if_neg (by omega), if_neg (by decide), if_pos rfl, hc, if_pos h])]; rfl
 · rw [if_neg (by omega), unW_step (show stepU (255 :: r) = some _ by rw [stepU, e0, if_neg (by omega), if_neg (by decide), if_pos rfl, hc, if_neg h]), fit_app, List.append_assoc, show (r.drop 8).drop 1 = r.drop 9 by rw [List.drop_drop]]
theorem tag_tag {out : List UInt8} (t : UInt8) (r : List UInt8) (h : popN 8 t.toNat ≤ r.length) (h0 : t ≠ 0) (h255 : t ≠ 255) :
 fitU out (unW (t :: r)) = fitU (out ++ spreadN 8 t.toNat (r.take (popN 8 t.toNat))) (unW (r.drop (popN 8 t.toNat))) := by
 rw [unW_step (show stepU (t :: r) = some _ by rw [stepU, if_neg (by omega), if_neg h0, if_neg h255]), fit_app]
theorem nou_big {out l : List UInt8} (h : 1600 < out.length) : nouR out l = none := by
 rw [nouR]; split
 · rfl
 · exact fit_big (by simp; omega) _
theorem pla_big {out l : List UInt8} (h : 1600 < out.length) : plaR out l = none := by
 rw [plaR]; split
 · rfl
 · exact fit_big (by simp; omega) _
inductive UJ (R : Option (List UInt8)) (B b : Nat) : Nat → Value → World → Prop
 | tag (k : Nat) (out : List UInt8) (L : ByteArray) (w : World) : US B b out L false w → out.length ≤ 1600 → fitU out (unW L.data.toList) = R → 2 * L.size + 2 ≤ k → UJ R B b k (uTag b) w
 | nou (k : Nat) (out : List UInt8) (L : ByteArray) (w : World) : US B b out L false w → out.length ≤ 1600 → nouR out L.data.toList = R → 2 * L.size + 3 ≤ k → UJ R B b k (uNou b) w
 | pla (k : Nat) (out : List UInt8) (L : ByteArray) (w : World) : US B b out L false w → out.length ≤ 1600 → plaR out L.data.toList = R → 2 * L.size + 3 ≤ k → UJ R B b k (uPla b) w
 | bro (k : Nat) (out : List UInt8) (L : ByteArray) (w : World) : US B b out L false w → out.length ≤ 1600 → R = none → 1 ≤ k → UJ R B b k (uBro b) w
 | fin (k : Nat) (out : List UInt8) (L : ByteArray) (bad : Bool) (w : World) : US B b out L bad w → (bad = true ∧ R = none ∨ bad = false ∧ R = some out) → UJ R B b k .nilFunc w
def UNext (R : Option (List UInt8)) (B b k : Nat) (w : World) (e : Ending) (w' : World) : Prop := ∃ v k', k' < k ∧ e = .returned v ∧ UJ R B b k' v w' ∧ Keeps B b w w'
theorem ubro_next (R : Option (List UInt8)) (B b k : Nat) (out : List UInt8) (L : ByteArray) (w : World) (h : US B b out L false w) (hR : R = none) (hk : 1 ≤ k) :
 Calls Tryz.prog 145 #[.pointer (some ⟨b, 0, none⟩)] w (UNext R B b k w) :=
 (ubroken_any B b out L false w h).mono fun e w' ⟨he, hU, hK⟩ => ⟨_, 0, by omega, he, .fin 0 out L true w' hU (.inl ⟨rfl, hR⟩), hK⟩
theorem cut_head (L : ByteArray) (h : 0 < L.size) : L.data.toList = L[0] :: (L.extract 1 L.size).data.toList := by
 have hl : L.data.toList.length = L.size := rfl
 rw [Lib.extract_data, List.take_of_length_le (by simp <;> omega)]
 conv => lhs; rw [← List.drop_zero (l := L.data.toList), List.drop_eq_getElem_cons (by omega)]
 rfl
theorem rep0 (n : Nat) : Lib.repeatL [0] n = List.replicate n (0 : UInt8) := by
 induction n with
 | zero => rfl
 | succ n ih => rw [Lib.repeatL, ih, List.replicate_succ]; rfl
theorem unou_next (R : Option (List UInt8)) (B b k : Nat) (out : List UInt8) (L : ByteArray) (w : World) (h : US B b out L false w) (ho : out.length ≤ 1600) (hR : nouR out L.data.toList = R) (hk : 2 * L.size + 3 ≤ k) (hBw : B ≤ w.heap.size) :
 Calls Tryz.prog 146 #[.pointer (some ⟨b, 0, none⟩)] w (UNext R B b k w) := by
 have hl : L.data.toList.length = L.size := rfl
 by_cases h0 : L.size < 1
 · have hn := utake_no B b out L false 1 w h h0
   have HN := Lib.hid hn
   have hr : R = none := by rw [← hR, nouR, if_pos (by omega)]
   have HR : Hid (UNext R B b k w (.returned (uBro b)) w) := Lib.hid ⟨uBro b, 1, by omega, rfl, .bro 1 out L w h ho hr (Nat.le_refl _), Keeps.refl _ _ _⟩
   clear h hn hR hr hl
   go_enter Tryz.func146, Tryz.ntmps146
   go_wp2_with (go_at_call 143; refine HN.out.mono ?_; rintro e w' ⟨rfl, rfl⟩)
   go_ret
   exact HR.out
 · have hy := utake_yes B b out L false 1 w h (by omega)
   have HY := Lib.hid hy
   have hx0 : 0 < (L.extract 0 1).size := by simp; omega
   have hc : (L.extract 0 1)[0] = L[0]'(by omega) := by simp [ByteArray.getElem_eq_getElem_data]
   have hcut := cut_head L (by omega)
   have hr : fitU (out ++ List.replicate (8 * (L[0]'(by omega)).toNat) 0) (unW (L.extract 1 L.size).data.toList) = R := by
    rw [← hR, nouR, if_neg (by omega), hcut]; rfl
   have hs2 : (L.extract 1 L.size).size + 1 = L.size := by simp; omega
   generalize L[0]'(by omega) = c at hc hr
   have hc256 := c.toNat_lt
   have hc0 := hc
   generalize hX : L.extract 0 1 = X at hx0 hc HY
   generalize L.extract 1 L.size = L' at hr hs2 HY
   have hrep : Hid (∀ w : World, Calls Tryz.prog 176 #[.string ⟨#[0]⟩, .int .i64 ((c.toNat : Int) * 8)] w fun e w' => e = .returned (.string ⟨(List.replicate (8 * c.toNat) 0).toArray⟩) ∧ Below w.heap.size w w') := Lib.hid (fun w => by
    have := Tryz.strings_Repeat ⟨#[0]⟩ (8 * c.toNat) w (by omega) (by show 1 * _ ≤ _; omega)
    rw [show (⟨#[0]⟩ : ByteArray).data.toList = [0] from rfl, rep0] at this
    rw [show (c.toNat : Int) * 8 = ((8 * c.toNat : Nat) : Int) by omega]
    exact this)
   clear h hy hR hl hcut hX hc0
   go_enter Tryz.func146, Tryz.ntmps146
   go_wp2_with fail
   refine HY.out.mono ?_
   rintro e w1 ⟨rfl, hU, hK⟩
   have HU := Lib.hid hU
   have HK := Lib.hid hK
   clear hU hK
   go_wp2_with fail
   refine (hrep.out _).mono ?_
   rintro e w2 ⟨rfl, hb2⟩
   have HU2 := Lib.hid (HU.out.below hb2)
   have HK2 := Lib.hid (HK.out.trans (Keeps.of_below (hb2.mono (Nat.le_trans hBw HK.out.size))))
   have hB2 := Nat.le_trans hBw HK2.out.size
   clear hb2
   have hzs : (⟨(List.replicate (8 * c.toNat) (0 : UInt8)).toArray⟩ : ByteArray).size = 8 * c.toNat := by rw [mk_sz]; simp
   by_cases hbig : 1600 < out.length + 8 * c.toNat
   · have hr2 : R = none := by rw [← hr]; exact fit_big (by simp; omega) _
     have HR2 := Lib.hid hr2
     have HW := Lib.hid (uwrite_no B b out L' false _ (uTag b) w2 HU2.out (by rw [hzs]; exact hbig) (by rw [hzs]; omega) ho)
     clear hr hr2 hzs
     unfold uTag at HW
     go_wp2_with fail
     refine HW.out.mono ?_
     rintro e w' ⟨rfl, rfl⟩
     go_wp2
     go_ret
     exact ⟨uBro b, 1, by omega, rfl, .bro 1 out L' w2 HU2.out ho HR2.out (Nat.le_refl _), HK2.out⟩
   · have HW := Lib.hid (uwrite_yes B b out L' false _ (uTag b) w2 HU2.out (by rw [hzs]; omega) hB2)
     have HRR := Lib.hid hr
     clear hr hzs
     unfold uTag at HW
     go_wp2_with fail
     refine HW.out.mono ?_
     rintro e w3 ⟨rfl, hU3, hK3⟩
     have HU3 := Lib.hid hU3
     have HK3 := Lib.hid (HK2.out.trans hK3)
     clear hU3 hK3
     go_wp2
     go_ret
     exact ⟨uTag b, 2 * L'.size + 2, by omega, rfl, .tag _ _ L' w3 HU3.out (by simp; omega) HRR.out (Nat.le_refl _), HK3.out⟩
theorem upla_next (R : Option (List UInt8)) (B b k : Nat) (out : List UInt8) (L : ByteArray) (w : World) (h : US B b out L false w) (ho : out.length ≤ 1600) (hR : plaR out L.data.toList = R) (hk : 2 * L.size + 3 ≤ k) (hBw : B ≤ w.heap.size) :
 Calls Tryz.prog 147 #[.pointer (some ⟨b, 0, none⟩)] w (UNext R B b k w) := by
 have hl : L.data.toList.length = L.size := rfl
 by_cases h0 : L.size < 1
 · have hn := utake_no B b out L false 1 w h h0
   have HN := Lib.hid hn
   have hr : R = none := by rw [← hR, plaR, if_pos (by omega)]
   have HR : Hid (UNext R B b k w (.returned (uBro b)) w) := Lib.hid ⟨uBro b, 1, by omega, rfl, .bro 1 out L w h ho hr (Nat.le_refl _), Keeps.refl _ _ _⟩
   clear h hn hR hr hl
   go_enter Tryz.func147, Tryz.ntmps147
   go_wp2_with (go_at_call 143; refine HN.out.mono ?_; rintro e w' ⟨rfl, rfl⟩)
   go_ret
   exact HR.out
 · have hy := utake_yes B b out L false 1 w h (by omega)
   have HY := Lib.hid hy
   have hx0 : 0 < (L.extract 0 1).size := by simp; omega
   have hc : (L.extract 0 1)[0] = L[0]'(by omega) := by simp [ByteArray.getElem_eq_getElem_data]
   have hcut := cut_head L (by omega)
   have hs2 : (L.extract 1 L.size).size + 1 = L.size := by simp; omega
   rw [hcut, plaR, List.length_cons, List.headD_cons, List.drop_succ_cons, List.drop_zero] at hR
   generalize L[0]'(by omega) = c at hc hR
   have hc256 := c.toNat_lt
   generalize hX : L.extract 0 1 = X at hx0 hc HY
   generalize L.extract 1 L.size = L' at hR hs2 HY
   have hl' : L'.data.toList.length = L'.size := rfl
   rw [hl'] at hR
   clear h hy hl hcut hX hl'
   go_enter Tryz.func147, Tryz.ntmps147
   go_wp2_with fail
   refine HY.out.mono ?_
   rintro e w1 ⟨rfl, hU, hK⟩
   have HU := Lib.hid hU
   have HK := Lib.hid hK
   clear hU hK
   have hcc : (c.toNat : Int) * 8 = ((8 * c.toNat : Nat) : Int) := by omega
   by_cases hlt : L'.size < 8 * c.toNat
   · have hn := utake_no B b out L' false (8 * c.toNat) w1 HU.out hlt
     rw [← hcc] at hn
     have HN := Lib.hid hn
     have hr : R = none := by rw [← hR, if_pos (by omega)]
     have HR2 := Lib.hid hr
     clear hn hr hR hcc
     go_wp2_with fail
     refine HN.out.mono ?_
     rintro e w' ⟨rfl, rfl⟩
     go_wp2
     go_ret
     exact ⟨uBro b, 1, by omega, rfl, .bro 1 out L' w1 HU.out ho HR2.out (Nat.le_refl _), HK.out⟩
   · have hn := utake_yes B b out L' false (8 * c.toNat) w1 HU.out (by omega)
     rw [← hcc] at hn
     have HN := Lib.hid hn
     rw [if_neg (by omega)] at hR
     have hxs : (L'.extract 0 (8 * c.toNat)).size = 8 * c.toNat := by simp; omega
     have hxl : (L'.extract 0 (8 * c.toNat)).data.toList = L'.data.toList.take (8 * c.toNat) := by rw [Lib.extract_data]; simp
     have hyl : (L'.extract (8 * c.toNat) L'.size).data.toList = L'.data.toList.drop (8 * c.toNat) := by rw [Lib.extract_data, List.take_of_length_le (by simp <;> omega)]
     have hys : (L'.extract (8 * c.toNat) L'.size).size ≤ L'.size := by simp
     rw [← hxl, ← hyl] at hR
     generalize L'.extract 0 (8 * c.toNat) = X2 at hxs hR HN
     generalize L'.extract (8 * c.toNat) L'.size = L2 at hys hR HN
     clear hn hcc hxl hyl
     go_wp2_with fail
     refine HN.out.mono ?_
     rintro e w2 ⟨rfl, hU2, hK2⟩
     have HU2 := Lib.hid hU2
     have HK2 := Lib.hid (HK.out.trans hK2)
     have hB2 := Nat.le_trans hBw HK2.out.size
     clear hU2 hK2
     by_cases hbig : 1600 < out.length + X2.size
     · have hr2 : R = none := by rw [← hR]; exact fit_big (by rw [List.length_append]; have : X2.data.toList.length = X2.size := rfl; omega) _
       have HR2 := Lib.hid hr2
       have HW := Lib.hid (uwrite_no B b out L2 false X2 (uTag b) w2 HU2.out hbig (by omega) ho)
       clear hR hr2 hxs
       unfold uTag at HW
       go_wp2_with fail
       refine HW.out.mono ?_
       rintro e w' ⟨rfl, rfl⟩
       go_wp2
       go_ret
       exact ⟨uBro b, 1, by omega, rfl, .bro 1 out L2 w2 HU2.out ho HR2.out (Nat.le_refl _), HK2.out⟩
     · have HW := Lib.hid (uwrite_yes B b out L2 false X2 (uTag b) w2 HU2.out (by omega) hB2)
       have HRR := Lib.hid hR
       clear hR hxs
       unfold uTag at HW
       go_wp2_with fail
       refine HW.out.mono ?_
       rintro e w3 ⟨rfl, hU3, hK3⟩
       have HU3 := Lib.hid hU3
       have HK3 := Lib.hid (HK2.out.trans hK3)
       clear hU3 hK3
       go_wp2
       go_ret
       exact ⟨uTag b, 2 * L2.size + 2, by omega, rfl, .tag _ _ L2 w3 HU3.out (by rw [List.length_append]; have : X2.data.toList.length = X2.size := rfl; omega) HRR.out (Nat.le_refl _), HK3.out⟩
theorem uwrite_next (R : Option (List UInt8)) (B b k : Nat) (out : List UInt8) (L x : ByteArray) (next : Value) (w : World) (h : US B b out L false w) (ho : out.length ≤ 1600) (hx : x.size ≤ 100000) (hk : 2 ≤ k) (hBw : B ≤ w.heap.size)
 (hN : 1600 < out.length + x.size → R = none) (hJ : ∀ w', US B b (out ++ x.data.toList) L false w' → out.length + x.size ≤ 1600 → ∃ k', k' < k ∧ UJ R B b k' next w') :
 Calls Tryz.prog 148 #[.pointer (some ⟨b, 0, none⟩), .string x, next] w (UNext R B b k w) := by
 by_cases hbig : 1600 < out.length + x.size
 · refine (uwrite_no B b out L false x next w h hbig hx ho).mono ?_
   rintro e w' ⟨rfl, rfl⟩
   exact ⟨_, 1, by omega, rfl, .bro 1 out L w h ho (hN hbig) (Nat.le_refl _), Keeps.refl _ _ _⟩
 · refine (uwrite_yes B b out L false x next w h (by omega) hBw).mono ?_
   rintro e w' ⟨rfl, hU, hK⟩
   obtain ⟨k', hk', hj⟩ := hJ w' hU (by omega)
   exact ⟨_, k', hk', rfl, hj, hK⟩
theorem UNext.of {R : Option (List UInt8)} {B b k : Nat} {w w1 : World} {e : Ending} {w' : World} (h : UNext R B b k w1 e w') (hk : Keeps B b w w1) : UNext R B b k w e w' := by
 obtain ⟨v, k', h1, h2, h3, h4⟩ := h
 exact ⟨v, k', h1, h2, h3, hk.trans h4⟩
theorem ones_pop : ((List.range 256).all fun x => Lib.onesCount x == popN 8 x) = true := by decide +kernel
theorem ones_pop' (t : Nat) (h : t < 256) : Lib.onesCount t = popN 8 t := by
 have := List.all_eq_true.1 ones_pop t (List.mem_range.2 h)
 simpa using this
theorem popN_le : ∀ k t, popN k t ≤ k
 | 0, _ => Nat.le_refl _
 | k + 1, t => by
   have := popN_le k (t / 2)
   rw [popN]; omega
theorem utag_next (R : Option (List UInt8)) (B b k : Nat) (out : List UInt8) (L : ByteArray) (w : World) (h : US B b out L false w) (ho : out.length ≤ 1600) (hR : fitU out (unW L.data.toList) = R) (hk : 2 * L.size + 2 ≤ k) (hBw : B ≤ w.heap.size) :
 Calls Tryz.prog 103 #[.pointer (some ⟨b, 0, none⟩)] w (UNext R B b k w) := by
 have hl : L.data.toList.length = L.size := rfl
 have hcl := h.left
 have hfz := BF.frozen h 2
 by_cases h0 : L.size = 0
 · have hl0 : L.data.toList = [] := List.eq_nil_of_length_eq_zero (by omega)
   have hL : L = ⟨#[]⟩ := by rw [← Lib.mk_data L, hl0]
   have hr : R = some out := by rw [← hR, hl0]; exact fit_end ho
   have HR : Hid (UNext R B b k w (.returned .nilFunc) w) := Lib.hid ⟨_, 0, by omega, rfl, .fin 0 out L false w h (.inr ⟨rfl, hr⟩), Keeps.refl _ _ _⟩
   rw [hL] at hcl
   clear h hR hr hl hl0 hL hfz
   go_enter Tryz.func103, Tryz.ntmps103
   go_wp2
   go_ret
   exact HR.out
 have hne : L.toList.isEmpty = false := by
  rw [ByteArray.toList_eq]
  cases hx : L.data.toList with
  | nil => rw [hx] at hl; simp at hl; omega
  | cons a r => rfl
 have hcut := cut_head L (by omega)
 have hs2 : (L.extract 1 L.size).size + 1 = L.size := by simp; omega
 have hset := h.setLeft (L.extract 1 L.size)
 have hk2 := set_keeps B b w 2 (.string (L.extract 1 L.size))
 have hl1 : 1 ≤ L.size := by omega
 have hl0 : 0 < L.size := by omega
 obtain ⟨c, hc⟩ : ∃ c, L[0]'(by omega) = c := ⟨_, rfl⟩
 rw [hc] at hcut
 rw [hcut] at hR
 have hc256 := c.toNat_lt
 have hones := fun w => Tryz.bits_OnesCount8 (c.toNat : Int) w (by omega) (by omega)
 rw [Int.toNat_natCast, ones_pop' c.toNat hc256] at hones
 have HON := Lib.hid hones
 have HC := Lib.hid hc
 have HSET := Lib.hid hset
 have HK2 := Lib.hid hk2
 have hB2 : B ≤ (w.setCell ⟨b, 2, none⟩ (.string (L.extract 1 L.size))).heap.size := Nat.le_trans hBw hk2.size
 have HB2 := Lib.hid hB2
 obtain ⟨L', hL'⟩ : ∃ L', L.extract 1 L.size = L' := ⟨_, rfl⟩
 rw [hL'] at hR hs2
 have HL' := Lib.hid hL'
 have hpl := popN_le 8 c.toNat
 obtain ⟨n, hn⟩ : ∃ n, popN 8 c.toNat = n := ⟨_, rfl⟩
 rw [hn] at HON hpl
 have HN := Lib.hid hn
 have HR := Lib.hid hR
 have hll : L'.data.toList.length = L'.size := rfl
 have HLL := Lib.hid hll
 clear h hset hk2 hB2 hcut hR hones hc hl hL' hn hll
 go_enter Tryz.func103, Tryz.ntmps103
 go_wp2_with fail
 rw [HC.out]
 refine (HON.out _).mono ?_
 rintro e w1 ⟨rfl, rfl⟩
 rw [HL'.out] at HSET HK2 HB2 ⊢
 clear hcl hfz hne
 generalize w.setCell ⟨b, 2, none⟩ (.string L') = w1 at HSET HK2 HB2 ⊢
 by_cases hlt : L'.size < n
 · have HT := Lib.hid (utake_no B b out L' false n w1 HSET.out hlt)
   have hr : R = none := by rw [← HR.out]; exact tag_few c _ (by rw [HN.out, HLL.out]; exact hlt)
   have HRR := Lib.hid hr
   clear hr
   go_wp2_with fail
   refine HT.out.mono ?_
   rintro e w' ⟨rfl, rfl⟩
   go_wp2
   go_ret
   exact ⟨uBro b, 1, by omega, rfl, .bro 1 out L' w1 HSET.out ho HRR.out (Nat.le_refl _), HK2.out⟩
 have HT := Lib.hid (utake_yes B b out L' false n w1 HSET.out (by omega))
 have hxs : (L'.extract 0 n).size = n := by simp; omega
 have hxl : (L'.extract 0 n).data.toList = L'.data.toList.take n := by rw [Lib.extract_data]; simp
 have hyl : (L'.extract n L'.size).data.toList = L'.data.toList.drop n := by rw [Lib.extract_data, List.take_of_length_le (by simp <;> omega)]
 have hys : (L'.extract n L'.size).size + n = L'.size := by simp; omega
 have hsp := fun w => spread_any c.toNat (L'.extract 0 n) w hc256 (by rw [hxs, HN.out])
 rw [hxl] at hsp
 have HSP := Lib.hid hsp
 have hxlen : (⟨(spreadN 8 c.toNat (L'.data.toList.take n)).toArray⟩ : ByteArray).size = 8 := by rw [mk_sz, spreadN_length]
 have hwr : ∀ (next : Value) (w2 : World), US B b out (L'.extract n L'.size) false w2 → B ≤ w2.heap.size → (1600 < out.length + 8 → R = none) → (∀ w', US B b (out ++ spreadN 8 c.toNat (L'.data.toList.take n)) (L'.extract n L'.size) false w' → out.length + 8 ≤ 1600 → ∃ k', k' < k ∧ UJ R B b k' next w') →
  Calls Tryz.prog 148 #[.pointer (some ⟨b, 0, none⟩), .string ⟨(spreadN 8 c.toNat (L'.data.toList.take n)).toArray⟩, next] w2 (UNext R B b k w2) := fun next w2 hu hb hN hJ =>
  uwrite_next R B b k out _ _ next w2 hu ho (by rw [hxlen]; omega) (by omega) hb (by rw [hxlen]; exact hN) (by rw [hxlen]; exact hJ)
 have HWR := Lib.hid hwr
 have hlen8 : (out ++ spreadN 8 c.toNat (L'.data.toList.take n)).length = out.length + 8 := by rw [List.length_append, spreadN_length]
 have HL8 := Lib.hid hlen8
 clear hsp hxl hxs hwr hxlen hlen8
 generalize L'.extract 0 n = X at HT HSP
 generalize L'.extract n L'.size = L2 at HT HWR hyl hys
 have HYL := Lib.hid hyl
 clear hyl
 go_wp2_with fail
 refine HT.out.mono ?_
 rintro e w2 ⟨rfl, hU2, hK2⟩
 have HU2 := Lib.hid hU2
 have HK3 := Lib.hid (HK2.out.trans hK2)
 have HB3 := Lib.hid (Nat.le_trans HB2.out hK2.size)
 clear hU2 hK2
 have fin : ∀ (next : Value) (st : List UInt8 → List UInt8 → Option (List UInt8)), st (out ++ spreadN 8 c.toNat (L'.data.toList.take n)) L2.data.toList = R → (∀ o l, 1600 < o.length → st o l = none) →
  (∀ w', US B b (out ++ spreadN 8 c.toNat (L'.data.toList.take n)) L2 false w' → out.length + 8 ≤ 1600 → ∃ k', k' < k ∧ UJ R B b k' next w') →
  ∀ w3, Below w2.heap.size w2 w3 → Calls Tryz.prog 148 #[.pointer (some ⟨b, 0, none⟩), .string ⟨(spreadN 8 c.toNat (L'.data.toList.take n)).toArray⟩, next] w3 (UNext R B b k w) := fun next st hst hbg hJ w3 hb3 =>
  (HWR.out next w3 (HU2.out.below hb3) (Nat.le_trans HB3.out hb3.size) (fun hb => by rw [← hst]; exact hbg _ _ (by rw [HL8.out]; exact hb)) hJ).mono fun e w' hu => hu.of (HK3.out.trans (Keeps.of_below (hb3.mono HB3.out)))
 have FIN := Lib.hid fin
 clear fin
 by_cases hc0 : c = 0
 · have hst : nouR (out ++ spreadN 8 c.toNat (L'.data.toList.take n)) L2.data.toList = R := by
    have hn0 : n = 0 := by rw [← HN.out, hc0]; decide
    rw [← HR.out, HYL.out, hn0, hc0]
    exact (tag_nou _).symm
   have HF := Lib.hid (FIN.out (uNou b) nouR hst (fun o l h => nou_big h) (fun w' hu h8 => ⟨2 * L2.size + 3, by omega, .nou _ _ L2 w' hu (by rw [HL8.out]; exact h8) hst (Nat.le_refl _)⟩))
   have hci : ((c.toNat : Int) == 0) = true := by rw [hc0]; rfl
   clear hst hc0
   unfold uNou at HF
   go_wp2_with fail
   refine (HSP.out _).mono ?_
   rintro e w3 ⟨rfl, hb3⟩
   have HB3' := Lib.hid hb3
   clear hb3
   go_wp2_with fail
   refine (HF.out _ HB3'.out).mono ?_
   rintro e w4 ⟨v, k', h1, rfl, h3, h4⟩
   go_wp2
   go_ret
   exact ⟨v, k', h1, rfl, h3, h4⟩
 have hci : ((c.toNat : Int) == 0) = false := by
  rw [beq_eq_false_iff_ne]; intro h; exact hc0 (UInt8.toNat_inj.1 (by simpa using h))
 by_cases hc1 : c = 255
 · have hst : plaR (out ++ spreadN 8 c.toNat (L'.data.toList.take n)) L2.data.toList = R := by
    have hn8 : n = 8 := by rw [← HN.out, hc1]; decide
    rw [← HR.out, HYL.out, hn8, hc1]
    exact (tag_pla _ (by rw [HLL.out]; omega)).symm
   have HF := Lib.hid (FIN.out (uPla b) plaR hst (fun o l h => pla_big h) (fun w' hu h8 => ⟨2 * L2.size + 3, by omega, .pla _ _ L2 w' hu (by rw [HL8.out]; exact h8) hst (Nat.le_refl _)⟩))
   have hcj : ((c.toNat : Int) == 255) = true := by rw [hc1]; rfl
   clear hst hc0 hc1
   unfold uPla at HF
   go_wp2_with fail
   refine (HSP.out _).mono ?_
   rintro e w3 ⟨rfl, hb3⟩
   have HB3' := Lib.hid hb3
   clear hb3
   go_wp2_with fail
   refine (HF.out _ HB3'.out).mono ?_
   rintro e w4 ⟨v, k', h1, rfl, h3, h4⟩
   go_wp2
   go_ret
   exact ⟨v, k', h1, rfl, h3, h4⟩
 · have hst : (fun o l => fitU o (unW l)) (out ++ spreadN 8 c.toNat (L'.data.toList.take n)) L2.data.toList = R := by
    show fitU _ (unW L2.data.toList) = R
    rw [← HR.out, HYL.out, ← HN.out]
    exact (tag_tag c _ (by rw [HN.out, HLL.out]; omega) hc0 hc1).symm
   have HF := Lib.hid (FIN.out (uTag b) (fun o l => fitU o (unW l)) hst (fun o l h => fit_big h _) (fun w' hu h8 => ⟨2 * L2.size + 2, by omega, .tag _ _ L2 w' hu (by rw [HL8.out]; exact h8) hst (Nat.le_refl _)⟩))
   have hcj : ((c.toNat : Int) == 255) = false := by
    rw [beq_eq_false_iff_ne]; intro h; exact hc1 (UInt8.toNat_inj.1 (show c.toNat = 255 by omega))
   clear hst hc0 hc1
   unfold uTag at HF
   go_wp2_with fail
   refine (HSP.out _).mono ?_
   rintro e w3 ⟨rfl, hb3⟩
   have HB3' := Lib.hid hb3
   clear hb3
   go_wp2_with fail
   refine (HF.out _ HB3'.out).mono ?_
   rintro e w4 ⟨v, k', h1, rfl, h3, h4⟩
   go_wp2
   go_ret
   exact ⟨v, k', h1, rfl, h3, h4⟩
theorem neq_nil (W : World) : (binOp .neq 156 .nilFunc .nilFunc).run Tryz.prog W = .ok (.bool false) W := by kernel_rfl
theorem neq_fn (f : Fn) (xs ys : Array Value) (W : World) : (binOp .neq 156 (.func f xs ys) .nilFunc).run Tryz.prog W = .ok (.bool true) W := by kernel_rfl
theorem UJ.parts {R : Option (List UInt8)} {B b k : Nat} {v : Value} {w : World} (h : UJ R B b k v w) :
 (∃ out L, v = uTag b ∧ US B b out L false w ∧ out.length ≤ 1600 ∧ fitU out (unW L.data.toList) = R ∧ 2 * L.size + 2 ≤ k) ∨
 (∃ out L, v = uNou b ∧ US B b out L false w ∧ out.length ≤ 1600 ∧ nouR out L.data.toList = R ∧ 2 * L.size + 3 ≤ k) ∨
 (∃ out L, v = uPla b ∧ US B b out L false w ∧ out.length ≤ 1600 ∧ plaR out L.data.toList = R ∧ 2 * L.size + 3 ≤ k) ∨
 (∃ out L, v = uBro b ∧ US B b out L false w ∧ out.length ≤ 1600 ∧ R = none ∧ 1 ≤ k) ∨
 (∃ out L bad, v = .nilFunc ∧ US B b out L bad w ∧ (bad = true ∧ R = none ∨ bad = false ∧ R = some out)) := by
 match h with
 | .tag _ out L _ h1 h2 h3 h4 => exact .inl ⟨out, L, rfl, h1, h2, h3, h4⟩
 | .nou _ out L _ h1 h2 h3 h4 => exact .inr (.inl ⟨out, L, rfl, h1, h2, h3, h4⟩)
 | .pla _ out L _ h1 h2 h3 h4 => exact .inr (.inr (.inl ⟨out, L, rfl, h1, h2, h3, h4⟩))
 | .bro _ out L _ h1 h2 h3 h4 => exact .inr (.inr (.inr (.inl ⟨out, L, rfl, h1, h2, h3, h4⟩)))
 | .fin _ out L bad _ h1 h2 => exact .inr (.inr (.inr (.inr ⟨out, L, bad, rfl, h1, h2⟩)))
theorem UJ.ended {R : Option (List UInt8)} {B b k : Nat} {w : World} (h : UJ R B b k .nilFunc w) : ∃ out L bad, US B b out L bad w ∧ (bad = true ∧ R = none ∨ bad = false ∧ R = some out) := by
 rcases h.parts with ⟨out, L, e, _⟩ | ⟨out, L, e, _⟩ | ⟨out, L, e, _⟩ | ⟨out, L, e, _⟩ | ⟨out, L, bad, _, h1, h2⟩
 · cases e
 · cases e
 · cases e
 · cases e
 · exact ⟨out, L, bad, h1, h2⟩
theorem urun_any (R : Option (List UInt8)) (B b k : Nat) (v : Value) (w : World) (h : UJ R B b k v w) (hBw : B ≤ w.heap.size) :
 Calls Tryz.prog 98 #[v] w fun e w' => e = .returned (.tuple #[]) ∧ (∃ k', UJ R B b k' .nilFunc w') ∧ Keeps B b w w' := by
 have H := Lib.hid h
 clear h
 go_enter Tryz.func98, Tryz.ntmps98
 go_wp2_with fail
 go_loopg [0] k (fun k s wr => Hid (UJ R B b k s wr) ∧ Hid (Keeps B b w wr))
 case atStart => exact ⟨H, Keeps.refl _ _ _⟩
 case round =>
  obtain ⟨HJ, HK⟩ := hrel
  have hB := Nat.le_trans hBw HK.out.size
  rcases HJ.out.parts with ⟨out, L, rfl, h1, h2, h3, h4⟩ | ⟨out, L, rfl, h1, h2, h3, h4⟩ | ⟨out, L, rfl, h1, h2, h3, h4⟩ | ⟨out, L, rfl, h1, h2, h3, h4⟩ | ⟨out, L, bad, rfl, h1, h2⟩
  · have HN := Lib.hid (utag_next R B b gk out L wr h1 h2 h3 h4 hB)
    clear h1 h3 HJ
    unfold uTag
    have hneq := neq_fn
    go_wp2_with fail
    refine HN.out.mono ?_
    rintro e w4 ⟨v, k', hk', rfl, hj4, hk4⟩
    have HJ4 := Lib.hid hj4
    have HK4 := Lib.hid (HK.out.trans hk4)
    clear hj4 hk4
    go_wp2
    go_roundg k'
    case measure => exact hk'
    case rel => exact ⟨HJ4, HK4⟩
  · have HN := Lib.hid (unou_next R B b gk out L wr h1 h2 h3 h4 hB)
    clear h1 h3 HJ
    unfold uNou
    have hneq := neq_fn
    go_wp2_with fail
    refine HN.out.mono ?_
    rintro e w4 ⟨v, k', hk', rfl, hj4, hk4⟩
    have HJ4 := Lib.hid hj4
    have HK4 := Lib.hid (HK.out.trans hk4)
    clear hj4 hk4
    go_wp2
    go_roundg k'
    case measure => exact hk'
    case rel => exact ⟨HJ4, HK4⟩
  · have HN := Lib.hid (upla_next R B b gk out L wr h1 h2 h3 h4 hB)
    clear h1 h3 HJ
    unfold uPla
    have hneq := neq_fn
    go_wp2_with fail
    refine HN.out.mono ?_
    rintro e w4 ⟨v, k', hk', rfl, hj4, hk4⟩
    have HJ4 := Lib.hid hj4
    have HK4 := Lib.hid (HK.out.trans hk4)
    clear hj4 hk4
    go_wp2
    go_roundg k'
    case measure => exact hk'
    case rel => exact ⟨HJ4, HK4⟩
  · have HN := Lib.hid (ubro_next R B b gk out L wr h1 h3 h4)
    clear h1 h3 HJ
    unfold uBro
    have hneq := neq_fn
    go_wp2_with fail
    refine HN.out.mono ?_
    rintro e w4 ⟨v, k', hk', rfl, hj4, hk4⟩
    have HJ4 := Lib.hid hj4
    have HK4 := Lib.hid (HK.out.trans hk4)
    clear hj4 hk4
    go_wp2
    go_roundg k'
    case measure => exact hk'
    case rel => exact ⟨HJ4, HK4⟩
  · clear h1 h2
    have hneq := neq_nil
    go_wp2
    go_end0
    exact ⟨rfl, ⟨gk, HJ.out⟩, HK.out⟩
def unV (s : ByteArray) : Value := match fitU [] (unW s.data.toList) with
 | none => .tuple #[.string ⟨#[]⟩, .bool false]
 | some o => .tuple #[.string ⟨o.toArray⟩, .bool true]
theorem implUnpack_any (s : ByteArray) (w : World) :
 Calls Tryz.prog 54 #[.string s] w fun e w' => e = .returned (unV s) ∧ Below w.heap.size w w' := by
 have h0 := heap_alloc_new w (.cells #[.pointer none, .slice none 0 0, .string s, .bool false] 161)
 have hb0 : Below w.heap.size w (w.alloc (.cells #[.pointer none, .slice none 0 0, .string s, .bool false] 161)) := (Below.refl _ _).alloc (Nat.le_refl _) _
 obtain ⟨w1, hw1⟩ : ∃ w1, w.alloc (.cells #[.pointer none, .slice none 0 0, .string s, .bool false] 161) = w1 := ⟨_, rfl⟩
 have hsz : w1.heap.size = w.heap.size + 1 := by rw [← hw1]; simp
 rw [hw1] at h0 hb0
 have hU : US (w.heap.size + 1) w.heap.size [] s false w1 := BF.fresh (w.heap.size + 1) h0
 have hrun := urun_any (fitU [] (unW s.data.toList)) (w.heap.size + 1) w.heap.size _ (uTag w.heap.size) w1 (.tag _ [] s w1 hU (by simp) rfl (Nat.le_refl _)) (by omega)
 have HRun := Lib.hid hrun
 have HW1 := Lib.hid hw1
 have HB0 := Lib.hid hb0
 clear h0 hb0 hU hrun hw1
 unfold uTag at HRun
 go_enter Tryz.func54, Tryz.ntmps54
 go_wp2_with fail
 rw [HW1.out]
 refine HRun.out.mono ?_
 rintro e w2 ⟨rfl, ⟨k, hj⟩, hk⟩
 have HK := Lib.hid (HB0.out.trans (hk.below (Nat.le_succ _) (Nat.le_refl _)))
 have hB2 := hk.size
 obtain ⟨out, L, bad, h1, h2⟩ := hj.ended
 · have hbc := h1.bad
   clear hj
   rcases h2 with ⟨rfl, hR⟩ | ⟨rfl, hR⟩
   · have hv : unV s = .tuple #[.string ⟨#[]⟩, .bool false] := by rw [unV, hR]
     have HV := Lib.hid hv
     clear h1 hR hv hk
     go_wp2
     go_ret2
     exact ⟨by rw [HV.out]; rfl, HK.out⟩
   · have hv : unV s = .tuple #[.string ⟨out.toArray⟩, .bool true] := by rw [unV, hR]
     have HV := Lib.hid hv
     have HS := Lib.hid (fstring_any 161 (w.heap.size + 1) w.heap.size out [.string L, .bool false] w2 h1 (by omega))
     clear h1 hR hv hk
     go_wp2_with fail
     refine HS.out.mono ?_
     rintro e w3 ⟨rfl, hb3⟩
     have HB3 := Lib.hid (HK.out.trans (hb3.mono (Nat.le_succ _)))
     clear hb3
     go_wp2
     go_ret2
     exact ⟨by rw [HV.out]; rfl, HB3.out⟩
def gN (l : List UInt8) (i : Nat) : Nat := leN l (4 * i) 4
theorem gN_lt (l : List UInt8) (i : Nat) : gN l i < 4294967296 := by
 have := leN_lt l 4 (4 * i)
 simpa [gN] using this
def szs (l : List UInt8) (n : Nat) : List Nat := (List.range n).map fun i => gN l (i + 1)
theorem szs_succ (l : List UInt8) (n : Nat) : szs l (n + 1) = szs l n ++ [gN l (n + 1)] := by simp [szs, List.range_succ]
theorem szs_length (l : List UInt8) (n : Nat) : (szs l n).length = n := by simp [szs]
theorem szs_sum_succ (l : List UInt8) (n : Nat) : (szs l (n + 1)).sum = (szs l n).sum + gN l (n + 1) := by simp [szs_succ]
theorem szs_sum_lt (l : List UInt8) : ∀ n, (szs l n).sum ≤ 4294967296 * n
 | 0 => by simp [szs]
 | n + 1 => by
   have := szs_sum_lt l n
   have := gN_lt l (n + 1)
   rw [szs_sum_succ]; omega
def cutB (s : ByteArray) : Nat → List Nat → List ByteArray
 | _, [] => []
 | a, z :: r => s.extract a (a + 8 * z) :: cutB s (a + 8 * z) r
theorem cutB_length (s : ByteArray) : ∀ (zs : List Nat) (a : Nat), (cutB s a zs).length = zs.length
 | [], _ => rfl
 | z :: r, a => by simp [cutB, cutB_length s r]
theorem cutB_snoc (s : ByteArray) : ∀ (zs : List Nat) (a z : Nat), cutB s a (zs ++ [z]) = cutB s a zs ++ [s.extract (a + 8 * zs.sum) (a + 8 * zs.sum + 8 * z)]
 | [], a, z => by simp [cutB]
 | y :: r, a, z => by
   have e : a + 8 * y + 8 * r.sum = a + 8 * (y + r.sum) := by omega
   simp [cutB, cutB_snoc s r, e]
def fgHead (n : Nat) : Nat := (n / 2 + 1) * 8
def fgZ (l : List UInt8) (n : Nat) : Bool := ((l.take (fgHead n)).drop (4 * (n + 1))).all (· == 0)
def fg (s : ByteArray) : Int × List ByteArray :=
 if s.size < 4 then (0, []) else
 if 6 < gN s.data.toList 0 + 1 then (-1, []) else
 if s.size < fgHead (gN s.data.toList 0 + 1) then (0, []) else
 if fgZ s.data.toList (gN s.data.toList 0 + 1) = false ∨ 200 < (szs s.data.toList (gN s.data.toList 0 + 1)).sum then (-1, []) else
 if s.size < fgHead (gN s.data.toList 0 + 1) + 8 * (szs s.data.toList (gN s.data.toList 0 + 1)).sum then (0, []) else
 (((fgHead (gN s.data.toList 0 + 1) + 8 * (szs s.data.toList (gN s.data.toList 0 + 1)).sum : Nat) : Int), cutB s (fgHead (gN s.data.toList 0 + 1)) (szs s.data.toList (gN s.data.toList 0 + 1)))
theorem fg0 {s : ByteArray} (h : s.size < 4) : fg s = (0, []) := by rw [fg, if_pos h]
theorem fg1 {s : ByteArray} {n : Nat} (hn : gN s.data.toList 0 + 1 = n) (h : 4 ≤ s.size) (h1 : 6 < n) : fg s = (-1, []) := by
 rw [fg, if_neg (by omega), hn, if_pos h1]
theorem fg2 {s : ByteArray} {n : Nat} (hn : gN s.data.toList 0 + 1 = n) (h : 4 ≤ s.size) (h1 : n ≤ 6) (h2 : s.size < fgHead n) : fg s = (0, []) := by
 rw [fg, if_neg (by omega), hn, if_neg (by omega), if_pos h2]
theorem fg3 {s : ByteArray} {n : Nat} (hn : gN s.data.toList 0 + 1 = n) (h : 4 ≤ s.size) (h1 : n ≤ 6) (h2 : fgHead n ≤ s.size) (h3 : fgZ s.data.toList n = false ∨ 200 < (szs s.data.toList n).sum) : fg s = (-1, []) := by
 rw [fg, if_neg (by omega), hn, if_neg (by omega), if_neg (by omega), if_pos h3]
theorem fg4 {s : ByteArray} {n : Nat} (hn : gN s.data.toList 0 + 1 = n) (h : 4 ≤ s.size) (h1 : n ≤ 6) (h2 : fgHead n ≤ s.size) (h3 : fgZ s.data.toList n = true) (h4 : (szs s.data.toList n).sum ≤ 200) (h5 : s.size < fgHead n + 8 * (szs s.data.toList n).sum) : fg s = (0, []) := by
 rw [fg, if_neg (by omega), hn, if_neg (by omega), if_neg (by omega), if_neg (by rw [h3]; simp; omega), if_pos h5]
theorem fg5 {s : ByteArray} {n : Nat} (hn : gN s.data.toList 0 + 1 = n) (h : 4 ≤ s.size) (h1 : n ≤ 6) (h2 : fgHead n ≤ s.size) (h3 : fgZ s.data.toList n = true) (h4 : (szs s.data.toList n).sum ≤ 200) (h5 : fgHead n + 8 * (szs s.data.toList n).sum ≤ s.size) :
 fg s = (((fgHead n + 8 * (szs s.data.toList n).sum : Nat) : Int), cutB s (fgHead n) (szs s.data.toList n)) := by
 rw [fg, if_neg (by omega), hn, if_neg (by omega), if_neg (by omega), if_neg (by rw [h3]; simp; omega), if_neg (by omega)]
theorem gN_congr {l m : List UInt8} (i : Nat) (h : ∀ j, j < 4 * i + 4 → l[j]? = m[j]?) : gN l i = gN m i :=
 leN_congr _ _ 4 _ _ (fun k hk => h (4 * i + k) (by omega))
theorem szs_congr {l m : List UInt8} (n : Nat) (h : ∀ j, j < 4 * n + 4 → l[j]? = m[j]?) : szs l n = szs m n := by
 unfold szs
 apply List.map_congr_left
 intro i hi
 exact gN_congr (i + 1) (fun j hj => h j (by have := List.mem_range.1 hi; omega))
end Go.Proofs.YtlbfffokkhccaaaGreatDoor
