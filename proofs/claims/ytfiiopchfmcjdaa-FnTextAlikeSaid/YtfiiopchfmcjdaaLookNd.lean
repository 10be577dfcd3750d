/- What the program's NodeSame asks of two nodes. -/
import Derived.Test.YtfiiopchfmcjdaaMapPr
import Derived.Deep.LoopGhost
import Derived.Carry
import Derived.Deep.RegionHeld3
namespace Go.Proofs.Ytfiiopchfmcjdaa
open Go.RowKit Go.Deep
theorem kb {w w' : World} {B b o : Nat} {v : Value} (hb : Below B w w') (hl : b < B) (h : w.cell? ⟨b, o, none⟩ = some v) : w'.cell? ⟨b, o, none⟩ = some v := (hb.cell hl).trans h
theorem ownsRow_from {w : World} {B B' e z n : Nat} {v : Value} {xs : List Value} (h : w.ownsRow B e z v n xs) (hb : B' ≤ B) : w.ownsRow B' e z v n xs := by
  refine ⟨h.1, h.2.imp id ?_⟩
  rintro ⟨g, cap, cur, e, hB, hr⟩
  exact ⟨g, cap, cur, e, Nat.le_trans hb hB, hr⟩
theorem parts_lens {n n' : Nd} (h : PartsEq n n') : n.ptrs.length = n'.ptrs.length ∧ n.items.length = n'.items.length := ⟨h.2.2.2.2.1, h.2.2.2.2.2⟩
theorem same_parts {n n' : Nd} (h : n = n') : PartsEq n n' := by subst h; exact ⟨rfl, rfl, rfl, rfl, rfl, rfl⟩
theorem clean_below {w w' : World} {k : Nat} (h : Clean w k) (hb : Below w.heap.size w w') : Clean w' k := by
  obtain ⟨c, t, hk⟩ := h
  exact ⟨c, t, (hb.block k (row_lt hk)).trans hk⟩
theorem row_lt' {w : World} {g : Nat} {o : Obj} (h : w.heap[g]? = some o) : g < w.heap.size := row_lt h
theorem clean_lt {w : World} {k : Nat} (h : Clean w k) : k < w.heap.size := by
  obtain ⟨c, t, hk⟩ := h
  exact row_lt hk
theorem nds_head {w : World} {S : Nat → Prop} {m : Nat} {A : Option Addr} {l : List Nd} (h : NdsAt w S m A l) : l = [] ∨ ∃ x, A = some x := by
  rcases Nat.eq_zero_or_pos l.length with h0 | h0
  · exact .inl (List.eq_nil_of_length_eq_zero h0)
  · obtain ⟨j, rfl⟩ := h.pred h0
    obtain ⟨x, _, hA, _⟩ := h.at_ h0
    exact .inr ⟨x, hA⟩
theorem concat_of {α : Type} (l : List α) (h : 0 < l.length) : ∃ l' x, l = l' ++ [x] := by
  rcases List.eq_nil_or_concat l with e | ⟨l', x, e⟩
  · subst e; cases h
  · exact ⟨l', x, by rw [e, List.concat_eq_append]⟩
theorem own_open {w : World} {B n cap : Nat} {A : Option Addr} {xs : List Value} (h : w.ownsRow B prT 2 (.slice A (n + 1) cap) (n + 1) xs) : ∃ g, A = some ⟨g, 0, none⟩ ∧ B ≤ g ∧ n + 1 ≤ cap ∧ g < w.heap.size ∧ ∀ j u, xs[j]? = some u → w.cell? ⟨g, j, none⟩ = some u := by
  rcases h.2 with ⟨e, _⟩ | ⟨g, cap', cur, e, hB, hg, hc, _⟩
  · simp at e
  · simp only [Value.slice.injEq, true_and] at e
    obtain ⟨rfl, rfl⟩ := e
    refine ⟨g, rfl, hB, hc, row_lt hg, fun j u hj => ?_⟩
    have := h.cells (g := g) rfl j u hj
    rwa [add_zero0] at this
theorem own_keep {w w' : World} {B e z n : Nat} {v : Value} {xs : List Value} (h : w.ownsRow B e z v n xs) (hk : ∀ k, B ≤ k → k < w.heap.size → w'.heap[k]? = w.heap[k]?) : w'.ownsRow B e z v n xs := by
  refine ⟨h.1, h.2.imp id ?_⟩
  rintro ⟨g, cap, cur, e, hB, hg, hr⟩
  exact ⟨g, cap, cur, e, hB, (hk g hB (row_lt hg)).trans hg, hr⟩
theorem own_pop {w : World} {B cap : Nat} {A : Option Addr} {G : List PT} {t : PT} (h : w.ownsRow B prT 2 (.slice A (G.length + 1) cap) (G.length + 1) (rowP (G ++ [t]))) : w.ownsRow B prT 2 (.slice A G.length cap) G.length (rowP G) := by
  refine ⟨rowP_length G, ?_⟩
  rcases h.2 with ⟨e, _⟩ | ⟨g, cap', cur, e, hB, hg, hc, hm, hs, ht⟩
  · simp at e
  · simp only [Value.slice.injEq, true_and] at e
    obtain ⟨rfl, rfl⟩ := e
    refine .inr ⟨g, cap, cur, rfl, hB, hg, by omega, hm, hs, ?_⟩
    rw [rowP_app] at ht
    have h1 := congrArg (List.take (G.length * 2)) ht
    rw [List.take_take, Nat.min_eq_left (by omega), List.take_append_of_le_length (Nat.le_of_eq (rowP_length G).symm)] at h1
    rw [h1]
    exact List.take_of_length_le (by rw [rowP_length]; exact Nat.le_refl _)
def hd1 (t : PT) (hx hy : Hd) : List PT := pts (hx.A.getD default) (hy.A.getD default) 0 t.2.1.ptrs t.2.2.ptrs
def hd2 (t : PT) (hx hy : Hd) : List PT := pts (hx.B.getD default) (hy.B.getD default) 0 t.2.1.items t.2.2.items
def LookP (t : PT) (hx hy : Hd) (W : World) (e : Ending) (w' : World) : Prop := ∃ (A : Option Addr) (l c : Nat), e = .returned (.tuple #[.bool (parts6 t.2.1 t.2.2), .slice A l c]) ∧ (parts6 t.2.1 t.2.2 = true → l = (hd1 t hx hy).length + (hd2 t hx hy).length ∧ w'.ownsRow W.heap.size prT 2 (.slice A l c) l (rowP (hd1 t hx hy) ++ rowP (hd2 t hx hy))) ∧ Below W.heap.size W w'
set_option maxHeartbeats 8000000 in
set_option maxRecDepth 100000 in
theorem look_a (t : PT) (hx hy : Hd) (m m' : Nat) (S S' : Nat → Prop) (w : World) (nx : NdCell w t.1.1 t.2.1 hx) (ny : NdCell w t.1.2 t.2.2 hy) (ax : NdAt w S m t.2.1 hx) (ay : NdAt w S' m' t.2.2 hy) (ht : totN m t.2.1 ≤ 2000000) :
    Calls Try.prog 61 #[.agg #[.pointer (some t.1.1), .pointer (some t.1.2)]] w (LookP t hx hy w) := by
  have hba := (Below.refl w.heap.size w).alloc (Nat.le_refl _) (.cells #[.pointer (some t.1.1), .pointer (some t.1.2)] prT)
  have HP := Lib.hid (heap_alloc_new w (.cells #[.pointer (some t.1.1), .pointer (some t.1.2)] prT))
  have HBA := Lib.hid hba
  have hsz : (w.alloc (.cells #[.pointer (some t.1.1), .pointer (some t.1.2)] prT)).heap.size = w.heap.size + 1 := by simp
  have HCX : Hid (∀ V : World, Below w.heap.size w V → NdCell V t.1.1 t.2.1 hx ∧ NdCell V t.1.2 t.2.2 hy) := Lib.hid fun V hV => ⟨cell_below hV _ _ _ nx, cell_below hV _ _ _ ny⟩
  have HSP := Lib.hid (sameParts_a t.1.1 t.1.2 t.2.1 t.2.2 hx hy _ (HCX.out _ hba).1 (HCX.out _ hba).2 ax.2.1.len ax.2.2.len ay.2.1.len ay.2.2.len)
  have HAX := Lib.hid (And.intro ax ay)
  have HT := Lib.hid ht
  obtain ⟨p0, p1⟩ : (w.alloc (.cells #[.pointer (some t.1.1), .pointer (some t.1.2)] prT)).cell? ⟨w.heap.size, 0, none⟩ = some (.pointer (some t.1.1)) ∧ (w.alloc (.cells #[.pointer (some t.1.1), .pointer (some t.1.2)] prT)).cell? ⟨w.heap.size, 1, none⟩ = some (.pointer (some t.1.2)) := ⟨by rw [cell_of_row _ _ _ _ _ _ HP.out]; rfl, by rw [cell_of_row _ _ _ _ _ _ HP.out]; rfl⟩
  unfold LookP
  obtain ⟨Q1, hQ1⟩ : ∃ Q1, Q1 = hd1 t hx hy := ⟨_, rfl⟩
  obtain ⟨Q2, hQ2⟩ : ∃ Q2, Q2 = hd2 t hx hy := ⟨_, rfl⟩
  rw [← hQ1, ← hQ2]
  have HQ1 := Lib.hid hQ1
  have HQ2 := Lib.hid hQ2
  clear nx ny ax ay ht hba hQ1 hQ2
  go_enter Try.func61, Try.ntmps61
  go_wp2_with fail
  generalize w.alloc (.cells #[.pointer (some t.1.1), .pointer (some t.1.2)] prT) = W at *
  refine HSP.out.mono ?_
  rintro e w5 ⟨rfl, hb5⟩
  have HP5 := Lib.hid ((hb5.block _ (row_lt HP.out)).trans HP.out)
  have HB5 := Lib.hid (HBA.out.trans (hb5.mono HBA.out.size))
  have hs5 := hb5.size
  clear hb5 p0 p1 HSP HP HBA
  cases hpp : parts6 t.2.1 t.2.2
  · go_wp2
    go_ret2
    rw [hpp]
    exact ⟨none, 0, 0, rfl, (fun e => by cases e), HB5.out⟩
  · have HPP := Lib.hid hpp
    have hpe := (parts6_iff _ _).1 hpp
    obtain ⟨l1, l2⟩ := parts_lens hpe
    have htl : totN m t.2.1 ≤ 2000000 := HT.out
    have hpl := totL_len' HAX.out.1.2.1 (by unfold totN at htl; omega)
    have hil := totL_len' HAX.out.1.2.2 (by unfold totN at htl; omega)
    have hw1 : wt m Q1 ≤ totL m t.2.1.ptrs := by rw [HQ1.out]; exact pts_wt _ _ _ HAX.out.1.2.1
    have hw2 : wt m Q2 ≤ totL m t.2.1.items := by rw [HQ2.out]; exact pts_wt _ _ _ HAX.out.1.2.2
    have hlen3 : Q1.length + Q2.length ≤ 2000001 := by
      have q1 := wt_len m Q1
      have q2 := wt_len m Q2
      have : totN m t.2.1 = t.2.1.data.size + totL m t.2.1.ptrs + totL m t.2.1.items := rfl
      omega
    have HPR1 : Hid (∀ V : World, Calls Try.prog 63 #[.slice hx.A t.2.1.ptrs.length hx.a, .slice hy.A t.2.2.ptrs.length hy.a] V fun e w' => ∃ v, e = .returned v ∧ w'.ownsRow V.heap.size prT 2 v Q1.length (rowP Q1) ∧ Below V.heap.size V w') := Lib.hid fun V => by
      have := pairsOf_a hx.A hy.A hx.a hy.a t.2.1.ptrs t.2.2.ptrs V (nds_head HAX.out.1.2.1) (nds_head HAX.out.2.2.1) l1 hpl
      unfold PairsP at this
      rw [HQ1.out]
      exact this
    have HPR2 : Hid (∀ V : World, Calls Try.prog 63 #[.slice hx.B t.2.1.items.length hx.b, .slice hy.B t.2.2.items.length hy.b] V fun e w' => ∃ v, e = .returned v ∧ w'.ownsRow V.heap.size prT 2 v Q2.length (rowP Q2) ∧ Below V.heap.size V w') := Lib.hid fun V => by
      have := pairsOf_a hx.B hy.B hx.b hy.b t.2.1.items t.2.2.items V (nds_head HAX.out.1.2.2) (nds_head HAX.out.2.2.2) l2 hil
      unfold PairsP at this
      rw [HQ2.out]
      exact this
    have hPlt := row_lt HP5.out
    obtain ⟨c0, c1, c2, c3, c4, c5⟩ := (HCX.out w5 HB5.out).1
    obtain ⟨d0, d1, d2, d3, d4, d5⟩ := (HCX.out w5 HB5.out).2
    have p0 : w5.cell? ⟨w.heap.size, 0, none⟩ = some (.pointer (some t.1.1)) := by rw [cell_of_row _ _ _ _ _ _ HP5.out]; rfl
    have p1 : w5.cell? ⟨w.heap.size, 1, none⟩ = some (.pointer (some t.1.2)) := by rw [cell_of_row _ _ _ _ _ _ HP5.out]; rfl
    clear hw1 hw2 htl hpl hil l1 l2 hpe hpp
    go_wp2_with fail
    have hlp : w.heap.size < w5.heap.size := hPlt
    have hlx : t.1.1.block < w5.heap.size := (HCX.out w5 HB5.out).1.lt
    have hly : t.1.2.block < w5.heap.size := (HCX.out w5 HB5.out).2.lt
    have HSB : Hid (Below w5.heap.size w5 w5) := Lib.hid (Below.refl _ _)
    clear c0 c1 c3 c4 d0 d1 d3 d4
    go_region_held3 (fun V => (V.cell? ⟨w.heap.size, 0, none⟩ = some (.pointer (some t.1.1)) ∧ V.cell? ⟨w.heap.size, 1, none⟩ = some (.pointer (some t.1.2))) ∧ (V.cell? ⟨t.1.1.block, t.1.1.off + 2, none⟩ = some (.slice hx.A t.2.1.ptrs.length hx.a) ∧ V.cell? ⟨t.1.1.block, t.1.1.off + 5, none⟩ = some (.slice hx.B t.2.1.items.length hx.b) ∧ V.cell? ⟨t.1.2.block, t.1.2.off + 2, none⟩ = some (.slice hy.A t.2.2.ptrs.length hy.a) ∧ V.cell? ⟨t.1.2.block, t.1.2.off + 5, none⟩ = some (.slice hy.B t.2.2.items.length hy.b)) ∧ Below w5.heap.size w5 V)
      ((first | exact ⟨⟨p0, p1⟩, ⟨c2, c5, d2, d5⟩, HSB.out.drew⟩ | (obtain ⟨⟨s0, s1⟩, ⟨s2, s5, u2, u5⟩, sb⟩ := ‹(_ ∧ _) ∧ (_ ∧ _) ∧ Below w5.heap.size w5 _›; exact ⟨⟨kb hbq hlp s0, kb hbq hlp s1⟩, ⟨kb hbq hlx s2, kb hbq hlx s5, kb hbq hly u2, kb hbq hly u5⟩, sb.trans hbq⟩)))
      (first | (refine step_append_pts rfl (.tmp 20) (.tmp 31) rfl w5.heap.size w5.heap.size _ v3 Q1.length (rowP Q1) Q2 rfl rfl HO8.out HV3.out (by omega) (by omega) ?_; intro A7 c7 w7 hown7 hgrow7; have hbq : Below w5.heap.size w8 w7 := (Below.refl w5.heap.size w8).grown hgrow7.out (by omega) (fun k hk => (HO8.out.lt k hk).1)) | (go_at_call 63; first | ((with_reducible refine (HPR1.out _).mono ?_); rintro e w6 ⟨v2, rfl, hown2, hb6⟩; have hsv := (‹(_ ∧ _) ∧ (_ ∧ _) ∧ Below w5.heap.size w5 _›).2.2.size; have hs6 : w5.heap.size ≤ w6.heap.size := Nat.le_trans hsv hb6.size; have HV2 : Hid (w6.ownsRow w5.heap.size prT 2 v2 Q1.length (rowP Q1)) := Lib.hid (ownsRow_from hown2 hsv); have hbq := hb6.mono hsv; clear hb6 hown2) | ((with_reducible refine (HPR2.out _).mono ?_); rintro e w8 ⟨v3, rfl, hown3, hb8⟩; have hsv := (‹(_ ∧ _) ∧ (_ ∧ _) ∧ Below w5.heap.size w5 _›).2.2.size; have hs8 : w5.heap.size ≤ w8.heap.size := Nat.le_trans hsv hb8.size; have HV3 : Hid (w8.ownsRow w5.heap.size prT 2 v3 Q2.length (rowP Q2)) := Lib.hid (ownsRow_from hown3 hsv); have HO8 : Hid (w8.ownsRow w5.heap.size prT 2 v2 Q1.length (rowP Q1)) := Lib.hid (own_keep (w := w6) HV2.out (fun k _ hk => hb8.block k hk)); have hbq := hb8.mono hsv; clear hb8 hown3)))
    all_goals
      have hS := ‹(_ ∧ _) ∧ (_ ∧ _) ∧ Below w5.heap.size w5 _›
      have hb7 : Below w.heap.size w w7 := HB5.out.trans (hS.2.2.mono HB5.out.size)
      have hbase : w.heap.size ≤ w5.heap.size := HB5.out.size
      have HOWN7 := Lib.hid (ownsRow_from hown7.out hbase)
      have HB7 := Lib.hid hb7
      clear hb7 hown7 hgrow7 hS c2 c5 d2 d5 p0 p1
      go_wp2
      go_ret2
      rw [HPP.out]
      exact ⟨A7, _, c7, rfl, fun _ => ⟨rfl, HOWN7.out⟩, HB7.out⟩
end Go.Proofs.Ytfiiopchfmcjdaa
