/- The laws' helpers that mark lists of lists of texts. -/
import Derived.Test.YtliiffpegfkpbabDoorFeedM
namespace Go.Proofs.YtliiffpegfkpbabDoor
open Go.RowKit
set_option maxHeartbeats 1000000 in
theorem markStringS_own (B : Nat) (v : Value) (n q : Nat) (xs : List Value) (w : World) (hM : Marks xs n q 0) (hown : w.ownsRow B 9 1 v n xs) (h1 : 1 ≤ q) (h2 : q ≤ 1000000) (hn : n ≤ 1000000) :
    Calls Tryd.prog 47 #[v, .int .i64 q] w fun e w' => e = .returned (.int .i64 ((q + n : Nat) : Int)) ∧ (∃ ys, Marks ys n q n ∧ w'.ownsRow B 9 1 v n ys) ∧ w.grownBy w' v.ownBlock := by
  have hgr : ∀ w : World, w.grownBy w v.ownBlock := fun w => ⟨rfl, rfl, rfl, Nat.le_refl _, fun _ _ _ => rfl⟩
  rcases own_sl hown with ⟨rfl, rfl⟩ | ⟨g, cap, rfl⟩
  · have HM := Lib.hid (⟨xs, hM, hown⟩ : ∃ ys, Marks ys 0 q 0 ∧ w.ownsRow B 9 1 (.slice none 0 0) 0 ys)
    have HG := Lib.hid hgr
    clear hM hown hgr
    go_enter Tryd.func47, Tryd.ntmps47
    go_wp2_with fail
    refine wp_loop_rounds 1 ?_
    rw [rounds_succ]
    go_wp2
    go_ret
    exact ⟨ret_int (by omega), HM.out, HG.out _⟩
  have HM := Lib.hid hM
  have HO := Lib.hid hown
  have HG := Lib.hid hgr
  clear hM hown hgr
  go_enter Tryd.func47, Tryd.ntmps47
  go_wp2_with fail
  go_loopw [1, 5] (fun m i wr => ∃ (k : Nat) (ys : List Value), k ≤ n ∧ i = .int .i64 k ∧ m = .int .i64 ((q + k : Nat) : Int) ∧ Hid (Marks ys n q k) ∧ Hid (wr.ownsRow B 9 1 (.slice (some ⟨g, 0, none⟩) n cap) n ys) ∧ Hid (w.grownBy wr (some g))) (fun _ i _ => n - (intOf i).toNat)
  case atStart => exact ⟨0, xs, by omega, rfl, by simp, HM.out, HO.out, HG.out _⟩
  case round =>
    obtain ⟨k, ys, hk, rfl, rfl, HM, HO, HB⟩ := hrel
    by_cases hk1 : k < n
    · go_wp2_with fail
      refine (markText_any (q + k) _ (by omega) (by omega)).mono ?_
      rintro e w1 ⟨rfl, hb1⟩
      have HO1 := Lib.hid (HO.out.kept (row := none) ⟨hb1.os, hb1.tape, hb1.output, hb1.size, fun k hk _ => hb1.block k hk⟩ (Classical.em _))
      have HB1 : Hid (w.grownBy w1 (some g)) := Lib.hid (HB.out.trans ⟨hb1.os, hb1.tape, hb1.output, hb1.size, fun k hk _ => hb1.block k hk⟩)
      clear hb1
      obtain ⟨b, hb⟩ := HM.out.2.1 k hk1
      have hcell := HO1.out.cellAt k (by omega)
      rw [hb] at hcell
      have hfr := HO1.out.frozenAt k
      have hst := HO1.out.stored k (.string (markB (q + k)))
      have HST := Lib.hid hst
      have HM2 := Lib.hid (HM.out.step hk1)
      clear hst hb
      generalize markB (q + k) = mk at HST HM2 ⊢
      go_wp2
      have hrow' := HST.out.1
      have hB' : Hid (w.grownBy (w1.setCell ⟨g, k, none⟩ (.string mk)) (some g)) := Lib.hid (HB1.out.trans HST.out.2)
      go_roundw
      case rel => exact ⟨k + 1, _, by omega, by go_num, by go_num, HM2, hrow', hB'⟩
      case measure => simp [intOf]; omega
    · obtain rfl : k = n := by omega
      go_wp2
      go_ret
      exact ⟨rfl, ⟨ys, HM.out, HO.out⟩, HB.out⟩
def pre (q : List Inn) (i : Nat) : Nat := ((q.take i).map fun r => r.2.length).sum
theorem pre_succ (q : List Inn) (i : Nat) (h : i < q.length) : pre q (i + 1) = pre q i + q[i].2.length := by
  unfold pre
  rw [List.take_succ_eq_append_getElem h, List.map_append, List.sum_append]
  simp
theorem pre_le (q : List Inn) (h : ∀ r ∈ q, r.2.length ≤ 6) : ∀ i, pre q i ≤ 6 * q.length := by
  intro i
  have hle : ∀ l : List Inn, (∀ r ∈ l, r.2.length ≤ 6) → (l.map fun r => r.2.length).sum ≤ 6 * l.length := by
    intro l
    induction l with
    | nil => intro _; simp
    | cons a t ih =>
      intro hl
      have h1 := hl a (List.mem_cons_self)
      have h2 := ih (fun r hr => hl r (List.mem_cons_of_mem _ hr))
      simp only [List.map_cons, List.sum_cons, List.length_cons]
      omega
  have := hle (q.take i) (fun r hr => h r (List.mem_of_mem_take hr))
  unfold pre
  have h2 : (q.take i).length ≤ q.length := by rw [List.length_take]; omega
  omega
/-- lists of texts, the first j of them marked from k0 on. -/
structure SM (w : World) (B : Nat) (v : Value) (q : List Inn) (k0 j : Nat) : Prop where
  out : w.ownsRow B 23 1 v q.length (q.map (·.1))
  inn : ∀ i (h : i < q.length), ∃ xs, w.ownsRow B 9 1 q[i].1 q[i].2.length xs ∧ Marks xs q[i].2.length (k0 + pre q i) (if i < j then q[i].2.length else 0)
  sepi : ∀ i k (hi : i < q.length) (hk : k < q.length), i ≠ k → ∀ b, q[i].1.ownBlock = some b → q[k].1.ownBlock ≠ some b
  sepo : ∀ i (h : i < q.length), ∀ b, q[i].1.ownBlock = some b → some b ≠ v.ownBlock
theorem ibs_sep {q : List Inn} (h : (ibs q).Nodup) : ∀ i k (hi : i < q.length) (hk : k < q.length), i < k → ∀ b, q[i].1.ownBlock = some b → q[k].1.ownBlock ≠ some b := by
  have hp : q.Pairwise fun a b => ∀ x, a.1.ownBlock = some x → ∀ y, b.1.ownBlock = some y → x ≠ y := List.pairwise_filterMap.1 h
  intro i k hi hk hik b h1 h2
  exact (List.pairwise_iff_getElem.1 hp i k hi hk hik) b h1 b h2 rfl
theorem SS.marks {w : World} {B : Nat} {v : Value} {q : List Inn} (h : SS w B v q) (k0 : Nat) : SM w B v q k0 0 := by
  refine ⟨h.out, fun i hi => ⟨_, h.inn _ (List.getElem_mem hi), ?_⟩, fun i k hi hk hne b h1 h2 => ?_, fun i hi b hb => h.sep b (List.mem_filterMap.2 ⟨_, List.getElem_mem hi, hb⟩)⟩
  · rw [if_neg (by omega)]
    exact Marks.start _ _
  · rcases Nat.lt_or_gt_of_ne hne with hlt | hgt
    · exact ibs_sep h.nod i k hi hk hlt b h1 h2
    · exact ibs_sep h.nod k i hk hi hgt b h2 h1
theorem SM.below {w w' : World} {B k0 j : Nat} {v : Value} {q : List Inn} (h : SM w B v q k0 j) (hb : Below w.heap.size w w') : SM w' B v q k0 j := by
  have hk : ∀ {e n : Nat} {u : Value} {xs : List Value}, w.ownsRow B e 1 u n xs → w'.ownsRow B e 1 u n xs := fun ho => ho.kept (row := none) ⟨hb.os, hb.tape, hb.output, hb.size, fun k hk _ => hb.block k hk⟩ (Classical.em _)
  exact ⟨hk h.out, fun i hi => by obtain ⟨xs, h1, h2⟩ := h.inn i hi; exact ⟨xs, hk h1, h2⟩, h.sepi, h.sepo⟩
theorem SM.step {w w' : World} {B k0 j : Nat} {v : Value} {q : List Inn} (h : SM w B v q k0 j) (hj : j < q.length) {ys : List Value} (hM : Marks ys q[j].2.length (k0 + pre q j) q[j].2.length) (ho : w'.ownsRow B 9 1 q[j].1 q[j].2.length ys) (hg : w.grownBy w' q[j].1.ownBlock) : SM w' B v q k0 (j + 1) := by
  refine ⟨h.out.kept hg ?_, fun i hi => ?_, h.sepi, h.sepo⟩
  · cases hv : v.ownBlock with
    | none => exact .inl rfl
    | some b =>
      right
      intro e
      exact h.sepo j hj b e.symm hv.symm
  · by_cases hij : i = j
    · subst hij
      exact ⟨ys, ho, by rw [if_pos (by omega)]; exact hM⟩
    · obtain ⟨xs, h1, h2⟩ := h.inn i hi
      refine ⟨xs, h1.kept hg ?_, ?_⟩
      · cases hv : q[i].1.ownBlock with
        | none => exact .inl rfl
        | some b =>
          right
          intro e
          exact h.sepi i j hi hj hij b hv e.symm
      · rw [show (if i < j + 1 then q[i].2.length else 0) = (if i < j then q[i].2.length else 0) by
          by_cases h3 : i < j
          · rw [if_pos h3, if_pos (by omega)]
          · rw [if_neg h3, if_neg (by omega)]]
        exact h2
set_option maxHeartbeats 2000000 in
set_option maxRecDepth 100000 in
theorem markStringSS_any (B : Nat) (v : Value) (q : List Inn) (k0 : Nat) (w : World) (hM : SM w B v q k0 0) (hBw : B ≤ w.heap.size) (h1 : 1 ≤ k0) (h2 : k0 + 6 * q.length ≤ 100000) (hl : ∀ r ∈ q, r.2.length ≤ 6) :
    Calls Tryd.prog 24 #[v, .int .i64 k0] w fun e w' => e = .returned (.int .i64 ((k0 + pre q q.length : Nat) : Int)) ∧ SM w' B v q k0 q.length ∧ Below B w w' := by
  obtain ⟨A, c, rfl⟩ := own_shape hM.out
  have HM := Lib.hid hM
  have HPL := Lib.hid (pre_le q hl)
  have HL := Lib.hid hl
  clear hM hl
  go_enter Tryd.func24, Tryd.ntmps24
  go_wp2_with fail
  go_loopw [1, 5] (fun m i wr => ∃ k : Nat, k ≤ q.length ∧ i = .int .i64 k ∧ m = .int .i64 ((k0 + pre q k : Nat) : Int) ∧ Hid (SM wr B (.slice A q.length c) q k0 k) ∧ Hid (Below B w wr) ∧ Hid (B ≤ wr.heap.size)) (fun _ i _ => q.length - (intOf i).toNat)
  case atStart => exact ⟨0, by omega, rfl, by simp [pre], HM, Lib.hid (Below.refl _ _), Lib.hid hBw⟩
  case round =>
    obtain ⟨k, hk, rfl, rfl, HK, HB, HS⟩ := hrel
    have hpl := HPL.out k
    by_cases hk1 : k < q.length
    · obtain ⟨x, hx, hx1, hxc⟩ := (Ones.own HK.out.out).resolve_left (by intro h0; rw [List.map_eq_nil_iff] at h0; rw [h0] at hk1; exact absurd hk1 (Nat.not_lt_zero _))
      subst hx
      have hck := hxc k (by simpa using hk1)
      rw [List.getElem_map] at hck
      obtain ⟨xs, ho, hm⟩ := HK.out.inn k hk1
      rw [if_neg (by omega)] at hm
      have hps := pre_succ q k hk1
      have HPS := Lib.hid hps
      obtain ⟨A1, c1, e1⟩ := own_shape ho
      have hlk := HL.out q[k] (List.getElem_mem hk1)
      have HC := Lib.hid ((markStringS_own B q[k].1 q[k].2.length (k0 + pre q k) xs wr hm ho (by omega) (by omega) (by omega)).mono (R' := fun e w' => e = .returned (.int .i64 ((k0 + pre q (k + 1) : Nat) : Int)) ∧ SM w' B (.slice (some x) q.length c) q k0 (k + 1) ∧ Below B wr w' ∧ wr.heap.size ≤ w'.heap.size) (by
        rintro e w1 ⟨rfl, ⟨ys, hM1, hO1⟩, hg⟩
        refine ⟨by rw [HPS.out]; exact ret_int (by omega), HK.out.step hk1 hM1 hO1 hg, (Below.refl B wr).grown hg HS.out (fun b hb => (ho.lt b hb).1), hg.size⟩))
      rw [e1] at hck HC
      have i1 : (k : Int) < (q.length : Int) := by omega
      have i0 : (0 : Int) ≤ (k : Int) := by omega
      have HPP : Hid (((k0 + pre q k : Nat) : Int) = ((k0 + pre q k : Nat) : Int)) := Lib.hid rfl
      generalize hmm : (k0 + pre q k : Nat) = mm at HC hpl ⊢
      clear hxc ho hm hps e1 hlk hmm HPP
      go_wp2_with fail
      refine HC.out.mono ?_
      rintro e w1 ⟨rfl, hS1, hb1, hz1⟩
      have HS1 := Lib.hid hS1
      have HB1 := Lib.hid (HB.out.trans hb1)
      have HZ1 := Lib.hid (Nat.le_trans HS.out hz1)
      clear hS1 hb1 hz1
      go_wp2
      go_roundw
      case rel => exact ⟨k + 1, by omega, by go_num, rfl, HS1, HB1, HZ1⟩
      case measure => simp [intOf]; omega
    · obtain rfl : k = q.length := by omega
      go_wp2
      go_ret
      exact ⟨rfl, HK.out, HB.out⟩
set_option maxHeartbeats 2000000 in
set_option maxRecDepth 100000 in
theorem heldStringSS_any (B : Nat) (v : Value) (q : List Inn) (k0 : Nat) (w : World) (hM : SM w B v q k0 q.length) (h1 : 1 ≤ k0) (h2 : k0 + 6 * q.length ≤ 100000) (hl : ∀ r ∈ q, r.2.length ≤ 6) :
    Calls Tryd.prog 25 #[v, .int .i64 k0] w fun e w' => e = .returned (.int .i64 ((k0 + pre q q.length : Nat) : Int)) ∧ Below w.heap.size w w' := by
  obtain ⟨A, c, rfl⟩ := own_shape hM.out
  have HM := Lib.hid hM
  have HPL := Lib.hid (pre_le q hl)
  have HL := Lib.hid hl
  clear hM hl
  go_enter Tryd.func25, Tryd.ntmps25
  go_wp2_with fail
  go_loopw [1, 5] (fun m i wr => ∃ k : Nat, k ≤ q.length ∧ i = .int .i64 k ∧ m = .int .i64 ((k0 + pre q k : Nat) : Int) ∧ Hid (Below w.heap.size w wr)) (fun _ i _ => q.length - (intOf i).toNat)
  case atStart => exact ⟨0, by omega, rfl, by simp [pre], Lib.hid (Below.refl _ _)⟩
  case round =>
    obtain ⟨k, hk, rfl, rfl, HB⟩ := hrel
    have hpl := HPL.out k
    by_cases hk1 : k < q.length
    · have HK := Lib.hid (HM.out.below HB.out)
      obtain ⟨x, hx, hx1, hxc⟩ := (Ones.own HK.out.out).resolve_left (by intro h0; rw [List.map_eq_nil_iff] at h0; rw [h0] at hk1; exact absurd hk1 (Nat.not_lt_zero _))
      subst hx
      have hck := hxc k (by simpa using hk1)
      rw [List.getElem_map] at hck
      obtain ⟨xs, ho, hm⟩ := HK.out.inn k hk1
      rw [if_pos hk1] at hm
      have hps := pre_succ q k hk1
      have HPS := Lib.hid hps
      obtain ⟨A1, c1, e1⟩ := own_shape ho
      have hlk := HL.out q[k] (List.getElem_mem hk1)
      have HC := Lib.hid ((heldStringS_any B q[k].1 q[k].2.length (k0 + pre q k) xs wr hm ho (by omega) (by omega) (by omega)).mono (R' := fun e w' => e = .returned (.int .i64 ((k0 + pre q (k + 1) : Nat) : Int)) ∧ Below wr.heap.size wr w') (by
        rintro e w1 ⟨rfl, hb⟩
        exact ⟨by rw [HPS.out]; exact ret_int (by omega), hb⟩))
      rw [e1] at hck HC
      have i1 : (k : Int) < (q.length : Int) := by omega
      have i0 : (0 : Int) ≤ (k : Int) := by omega
      have hnn : ¬ ((k0 + pre q (k + 1) : Nat) : Int) < 0 := by omega
      generalize hmm : (k0 + pre q k : Nat) = mm at HC hpl ⊢
      generalize hm2 : (k0 + pre q (k + 1) : Nat) = m2 at HC hnn
      have HM2 := Lib.hid hm2
      have hsz := HB.out.size
      clear hxc ho hm hps e1 hlk hmm hm2
      go_wp2_with fail
      refine HC.out.mono ?_
      rintro e w1 ⟨rfl, hb1⟩
      have HB1 := Lib.hid (HB.out.trans (hb1.mono hsz))
      clear hb1
      go_wp2
      go_roundw
      case rel => exact ⟨k + 1, by omega, by go_num, by rw [HM2.out], HB1⟩
      case measure => simp [intOf]; omega
    · obtain rfl : k = q.length := by omega
      go_wp2
      go_ret
      exact ⟨rfl, HB.out⟩
end Go.Proofs.YtliiffpegfkpbabDoor
